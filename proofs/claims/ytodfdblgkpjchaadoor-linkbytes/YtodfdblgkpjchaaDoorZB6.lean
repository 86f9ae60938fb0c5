/-
  carillonref09's Decode, as it runs.
-/
import Derived.Test.YtodfdblgkpjchaaDoorZB4
import Derived.Test.YtodfdblgkpjchaaDoorZB5
namespace Go.Proofs.YtodfdblgkpjchaaDoor
open Go.RowKit

theorem xdec_call (s : ByteArray) (h : s.size ≤ 400000) (w : World) : Calls Tryd.prog 25 #[.string ⟨#[108, 108, 108, 108, 116]⟩, .string s] w fun e w' => ∃ v, e = .returned (.tuple #[v, .int .i64 (K.decF shapeL s.data.toList).2]) ∧ w'.ownsRow w.heap.size 54 3 v (K.decF shapeL s.data.toList).1.length (K.itemCells (K.decF shapeL s.data.toList).1) ∧ Below w.heap.size w w' :=
  K.rdecode_any ⟨#[108, 108, 108, 108, 116]⟩ s w (by decide) (by omega) _ rfl
/-- Refused: the fault of it. -/
def xbad (w : World) (f : Int) (e : Ending) (w' : World) : Prop := e = .returned (.tuple #[FR.zero.v, .int .i64 f]) ∧ Below w.heap.size w w'
set_option maxHeartbeats 4000000 in
theorem xdec_fault (s : ByteArray) (h63 : s.size ≤ 9223372036854775807) (w : World) (he : (takeF s.data.toList).2.2 ≠ 0) :
    Calls Tryd.prog 9 #[.string s] w (xbad w (takeF s.data.toList).2.2) := by
  unfold xbad
  have HC := hide (fun W => rtake_any s W h63)
  generalize takeF s.data.toList = T at *
  obtain ⟨b, n, er⟩ := T
  simp only at *
  have hne : (er != 0) = true := by rw [bne_iff_ne]; exact he
  generalize b.toArray = ba at *
  go_enter Tryd.func9, Tryd.ntmps9
  go_wp2_with fail
  refine (HC.out _).mono ?_
  rintro e w1 ⟨rfl, b1⟩
  have x1 := (b1.block w.heap.size (by simp)).trans (heap_alloc_new _ _)
  have B1 : Hid (Below w.heap.size w w1) := ((Below.refl _ _).alloc (Nat.le_refl _) _).trans (b1.mono (by simp))
  obtain ⟨⟨c0, c1, c2, c3, c4⟩, f0, f1, f2, f3, f4⟩ := box5 x1
  clear b1 HC x1
  go_wp2
  refine bodyPost_ret (v := .tuple #[FR.zero.v, .int .i64 er]) (by simp [results, Tryd.results9, go_sem, FR.zero, FR.v, c0, c1, c2, c3, c4]) rfl ⟨rfl, ?_⟩
  exact set5_below B1.out (Nat.le_refl _)
set_option maxHeartbeats 4000000 in
theorem xdec_left (s : ByteArray) (h63 : s.size ≤ 9223372036854775807) (w : World) (he : (takeF s.data.toList).2.2 = 0) (hl : (K.decF shapeL (takeF s.data.toList).1).2 ≠ 0 ∨ (takeF s.data.toList).2.1 ≠ s.size) :
    Calls Tryd.prog 9 #[.string s] w (xbad w 10) := by
  unfold xbad
  have HC := hide (fun W => rtake_any s W h63)
  have hsm := takeF_small s.data.toList
  generalize takeF s.data.toList = T at *
  obtain ⟨b, n, er⟩ := T
  simp only at *
  subst he
  have HD := hide (xdec_call ⟨b.toArray⟩ (by show b.toArray.size ≤ _; simpa using hsm))
  rw [show ((⟨b.toArray⟩ : ByteArray).data.toList) = b by simp] at HD
  generalize b.toArray = ba at *
  generalize K.decF shapeL b = R at *
  obtain ⟨l, fe⟩ := R
  simp only at *
  by_cases hfe : fe = 0
  · subst hfe
    have hn : n ≠ s.size := hl.resolve_left (fun x => x rfl)
    have hnm : ((n : Int) != (s.size : Int)) = true := by rw [bne_iff_ne]; omega
    have hnm1 : ((n : Int) == (s.size : Int)) = false := by rw [beq_eq_false_iff_ne]; omega
    have hnm2 : (n != s.size) = true := by rw [bne_iff_ne]; omega
    clear hl hn hsm
    go_enter Tryd.func9, Tryd.ntmps9
    go_wp2_with fail
    refine (HC.out _).mono ?_
    rintro e w1 ⟨rfl, b1⟩
    have x1 := (b1.block w.heap.size (by simp)).trans (heap_alloc_new _ _)
    have B1 : Hid (Below w.heap.size w w1) := ((Below.refl _ _).alloc (Nat.le_refl _) _).trans (b1.mono (by simp))
    clear b1 HC
    go_wp2_with fail
    refine (HD.out _).mono ?_
    rintro e w2 ⟨v, rfl, _, b2⟩
    have x2 := (b2.block w.heap.size (Array.getElem?_eq_some_iff.1 x1).1).trans x1
    have B2 : Hid (Below w.heap.size w w2) := B1.out.trans (b2.mono B1.out.size)
    obtain ⟨⟨c0, c1, c2, c3, c4⟩, f0, f1, f2, f3, f4⟩ := box5 x2
    clear b2 x1 x2 HD B1
    go_wp2
    refine bodyPost_ret (v := .tuple #[FR.zero.v, .int .i64 10]) (by simp [results, Tryd.results9, go_sem, FR.zero, FR.v, c0, c1, c2, c3, c4]) rfl ⟨rfl, ?_⟩
    exact set5_below B2.out (Nat.le_refl _)
  · have hne : (fe != 0) = true := by rw [bne_iff_ne]; exact hfe
    clear hl hsm
    go_enter Tryd.func9, Tryd.ntmps9
    go_wp2_with fail
    refine (HC.out _).mono ?_
    rintro e w1 ⟨rfl, b1⟩
    have x1 := (b1.block w.heap.size (by simp)).trans (heap_alloc_new _ _)
    have B1 : Hid (Below w.heap.size w w1) := ((Below.refl _ _).alloc (Nat.le_refl _) _).trans (b1.mono (by simp))
    clear b1 HC
    go_wp2_with fail
    refine (HD.out _).mono ?_
    rintro e w2 ⟨v, rfl, _, b2⟩
    have x2 := (b2.block w.heap.size (Array.getElem?_eq_some_iff.1 x1).1).trans x1
    have B2 : Hid (Below w.heap.size w w2) := B1.out.trans (b2.mono B1.out.size)
    obtain ⟨⟨c0, c1, c2, c3, c4⟩, f0, f1, f2, f3, f4⟩ := box5 x2
    clear b2 x1 x2 HD B1
    go_wp2
    refine bodyPost_ret (v := .tuple #[FR.zero.v, .int .i64 10]) (by simp [results, Tryd.results9, go_sem, FR.zero, FR.v, c0, c1, c2, c3, c4]) rfl ⟨rfl, ?_⟩
    exact set5_below B2.out (Nat.le_refl _)
end Go.Proofs.YtodfdblgkpjchaaDoor
