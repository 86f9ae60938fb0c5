/-
  topic.own, as it runs.
-/
import Derived.Test.YtominplelmbecaaZYC6
namespace Go.Proofs.Ytominplelmbecaa.Y
open Go.RowKit Go.Maps
set_option maxRecDepth 100000

set_option maxHeartbeats 4000000 in
theorem town_any (r : Rec) (hr : r.ok) (w : World) :
    Calls Try.prog 35 #[r.v] w fun e w' => e = .returned r.v ∧ Below w.heap.size w w' := by
  have HC1 := hide (fun W => clone_any r.prod W hr.2.2.2.2.1)
  have HC3 := hide (fun W => clone_any r.key W hr.2.2.2.2.2.1)
  have HC4 := hide (fun W => clone_any r.val W hr.2.2.2.2.2.2)
  have K1 : Hid (Own w r ((w.alloc (.cells #[.int .i64 r.off, .string r.prod, .int .i64 r.seq, .string r.key, .string r.val] 63)).alloc (.cells #[.int .i64 0, .string ⟨#[]⟩, .int .i64 0, .string ⟨#[]⟩, .string ⟨#[]⟩] 63))) := by
    refine ⟨((Below.refl _ _).alloc (Nat.le_refl _) _).alloc (by simp) _, ?_, ?_⟩
    · exact box_alloc (heap_alloc_new w _) _
    · have := heap_alloc_new (w.alloc (.cells #[.int .i64 r.off, .string r.prod, .int .i64 r.seq, .string r.key, .string r.val] 63)) (.cells #[.int .i64 0, .string ⟨#[]⟩, .int .i64 0, .string ⟨#[]⟩, .string ⟨#[]⟩] 63)
      simpa using this
  obtain ⟨xo, xp, xs, xk, xv⟩ := r
  simp only [Rec.v] at *
  clear hr
  go_enter Try.func35, Try.ntmps35
  go_wp2_with fail
  generalize (w.alloc (.cells #[.int .i64 xo, .string xp, .int .i64 xs, .string xk, .string xv] 63)).alloc (.cells #[.int .i64 0, .string ⟨#[]⟩, .int .i64 0, .string ⟨#[]⟩, .string ⟨#[]⟩] 63) = w1 at *
  have HX : Hid (∀ {W : World}, Own w ⟨xo, xp, xs, xk, xv⟩ W → W.cell? ⟨w.heap.size, 1, none⟩ = some (.string xp) ∧ W.cell? ⟨w.heap.size, 3, none⟩ = some (.string xk) ∧ W.cell? ⟨w.heap.size, 4, none⟩ = some (.string xv) ∧ W.frozen? ⟨w.heap.size, 1, none⟩ = false ∧ W.frozen? ⟨w.heap.size, 3, none⟩ = false ∧ W.frozen? ⟨w.heap.size, 4, none⟩ = false) := fun h => ⟨h.cells.1, h.cells.2.1, h.cells.2.2, h.free 1, h.free 3, h.free 4⟩
  obtain ⟨c1, c3, c4, f1, f3, f4⟩ := HX.out K1.out
  go_region_held (fun w' => Own w ⟨xo, xp, xs, xk, xv⟩ w' ∧ w'.cell? ⟨w.heap.size, 1, none⟩ = some (.string xp) ∧ w'.cell? ⟨w.heap.size, 3, none⟩ = some (.string xk) ∧ w'.cell? ⟨w.heap.size, 4, none⟩ = some (.string xv))
    (first | exact ⟨K1.out.drew, K1.out.drew.cells⟩ | exact ⟨K2.out, K2.out.cells⟩ | exact ⟨K2.out.set1, K2.out.set1.cells⟩ | exact ⟨K2.out.set3, K2.out.set3.cells⟩ | exact ⟨K2.out.set4, K2.out.set4.cells⟩ | exact ⟨K2.out.set1.set3, K2.out.set1.set3.cells⟩ | exact ⟨K2.out.set1.set3.set4, K2.out.set1.set3.set4.cells⟩)
    ((go_at_call 31; first | refine (HC1.out _).mono ?_ | refine (HC3.out _).mono ?_ | refine (HC4.out _).mono ?_) <;> rintro e w2 ⟨rfl, hb⟩ <;> (have K2 := hide ((by first | exact K1.out.drew | exact K2.out | exact K2.out.set1 | exact K2.out.set1.set3 : Own w ⟨xo, xp, xs, xk, xv⟩ _).to hb)) <;> obtain ⟨c1, c3, c4, f1, f3, f4⟩ := HX.out K2.out <;> clear hb)
  all_goals
    rename_i hH
    have K3 := hide hH.1
    clear hH c1 c3 c4 f1 f3 f4 K2
    generalize ((w2.setCell _ _).setCell _ _).setCell _ _ = W at *
    obtain ⟨⟨c0, c1, c2, c3, c4⟩, _⟩ := box5 K3.out.one
    obtain ⟨⟨d0, d1, d2, d3, d4⟩, f0, f1, f2, f3, f4⟩ := box5 K3.out.two
    have x5 := set5_box (x0 := .int .i64 xo) (x1 := .string xp) (x2 := .int .i64 xs) (x3 := .string xk) (x4 := .string xv) K3.out.two
    have b5 := set5_below (b := w.heap.size + 1) (x0 := .int .i64 xo) (x1 := .string xp) (x2 := .int .i64 xs) (x3 := .string xk) (x4 := .string xv) K3.out.below (by omega)
    unfold set5 at x5 b5
    have X5 := hide x5
    have B5 := hide b5
    clear x5 b5
    go_wp2
    obtain ⟨⟨e0, e1, e2, e3, e4⟩, _⟩ := box5 X5.out
    refine bodyPost_ret (v := .agg #[.int .i64 xo, .string xp, .int .i64 xs, .string xk, .string xv]) (by simp [results, Try.results35, go_sem, e0, e1, e2, e3, e4]) rfl ⟨rfl, B5.out⟩
end Go.Proofs.Ytominplelmbecaa.Y
