/-
  The program's frames, as it runs.
-/
import Derived.Test.YtiealipplckfnaaZD1
import Derived.Test.YtiealipplckfnaaZS1
import Derived.Laws.MakeOwn
import Derived.Deep.DrawnRows
import Derived.Deep.RegionHeldLaw
import Derived.Deep.AppendLies
import Derived.Shelf.Abstract
namespace Go.Proofs.Ytiealipplckfnaa
open Go.RowKit

attribute [local go_sem ↓] Go.wp_at_zero Go.wp_at_succ
/-- The frame of one. -/
def WT.fr (l : LK) (x : WT) : FR := ⟨l.epoch, l.peer, x.num, l.taken, x.body⟩
/-- The cells of one, in a row of one's own. -/
theorem wt_at {w : World} {B : Nat} {ao : Option Addr} {cp : Nat} {D : List WT} (h : w.ownsRow B 67 3 (.slice ao D.length cp) D.length (wtCells D)) (i : Nat) (hi : i < D.length) : ∃ g, ao = some ⟨g, 0, none⟩ ∧ g < w.heap.size ∧ w.cell? ⟨g, i * 3, none⟩ = some (.int .i64 (D[i].num : Int)) ∧ w.cell? ⟨g, i * 3 + 1, none⟩ = some (.string D[i].body) ∧ w.cell? ⟨g, i * 3 + 2, none⟩ = some (.bool D[i].due) := by
  have hr := OwnsQ.of_row h
  rcases h.2 with ⟨_, h2⟩ | ⟨g, cap, cur, hv, hg, hh, hn, hc, hs, ht⟩
  · omega
  · injection hv with h1 _ h3
    subst h1 h3
    obtain ⟨off2, ha, hcc, _⟩ := hr.cell
    injection ha with _ ha _
    subst ha
    have key : ∀ j, j < 3 → w.cell? ⟨g, i * 3 + j, none⟩ = (D[i].cells)[j]? := fun j hj => by
      rw [← wtCells_get _ i j hi hj]
      have := hcc (i * 3 + j) (by omega)
      rw [Nat.zero_add] at this
      exact this
    exact ⟨g, rfl, heap_lt hh, key 0 (by omega), key 1 (by omega), key 2 (by omega)⟩
set_option maxHeartbeats 4000000 in
theorem pframes {w : World} {b : Nat} {v : Value} {l : LK} (h : PL w b v l) (B : Nat) (ao : Option Addr) (cp : Nat) (D : List WT) (hD : D.length ≤ 8) (hs : ∀ x ∈ D, x.body.size ≤ 100000) (ho : w.ownsRow B 67 3 (.slice ao D.length cp) D.length (wtCells D)) :
    Calls Try.prog 27 #[.pointer (some ⟨b, 0, none⟩), .slice ao D.length cp] w fun e w' => ∃ gg oc, e = .returned (.slice (some ⟨gg, 0, none⟩) D.length oc) ∧ w'.ownsRow w.heap.size 31 5 (.slice (some ⟨gg, 0, none⟩) D.length oc) D.length (frCells (D.map (WT.fr l))) ∧ Below w.heap.size w w' := by
  obtain ⟨i0, hi0, hz0, hz1, hz2⟩ := info_parts infoFR
  obtain ⟨w1, hmk, om, gm⟩ := run_make_own (P := Try.prog) w w.heap.size 38 31 i0 _ 5 Try.underlying38 hi0 hz0 hz1 .i64 .i64 D.length (by rw [hz2]; omega) (by unfold maxLen; omega) (Nat.le_refl _)
  have B1 : Hid (Below w.heap.size w w1) := ⟨gm.os, gm.tape, gm.output, gm.size, fun k hk => gm.block k hk (by simp)⟩
  have OM := hide om
  have HH := hide h
  have HO := hide ho
  have HS := hide hs
  have HK := hide (enters_of Try.func37 (by kernel_rfl) rfl)
  have hblt := heap_lt h.box
  clear om gm ho h hs
  go_enter Try.func27, Try.ntmps27
  go_wp2
  go_loopw [5, 13] (fun ov iv wv => ∃ (k gg : Nat) (oc : Nat), k ≤ D.length ∧ iv = .int .i64 k ∧ ov = .slice (some ⟨gg, 0, none⟩) k oc ∧ Hid (wv.ownsRow w.heap.size 31 5 (.slice (some ⟨gg, 0, none⟩) k oc) k (frCells ((D.take k).map (WT.fr l)))) ∧ Hid (Below w.heap.size w wv)) (fun _ iv _ => D.length - (intOf iv).toNat)
  case atStart => exact ⟨0, _, _, Nat.zero_le _, rfl, rfl, OM.out, B1.out⟩
  case round =>
    obtain ⟨k, gg, oc, hk, rfl, rfl, OV, BV⟩ := hrel
    by_cases hlt : k < D.length
    · obtain ⟨g, rfl, hgl, a0, a1, a2⟩ := wt_at (below_row BV.out HO.out) k hlt
      have hj0 : (0 : Int) ≤ (k : Int) := by omega
      have hj1 : (k : Int) < (D.length : Int) := by omega
      have PV := hide (HH.out.below BV.out)
      obtain ⟨c0, c1, c2, _⟩ := PV.out.c
      have hx := HS.out _ (List.getElem_mem hlt)
      have HT : Hid ((D.take (k + 1)).map (WT.fr l) = (D.take k).map (WT.fr l) ++ [WT.fr l D[k]]) := by
        show _ = _
        rw [List.take_add_one, List.getElem?_eq_getElem hlt, List.map_append]
        rfl
      generalize D[k] = x at *
      obtain ⟨xn, xb, xd⟩ := x
      simp only [WT.fr] at a0 a1 a2 hx HT
      have HC := hide (fun w => clone_any xb w (by omega))
      have x2 := heap_alloc_new wr (.cells #[.int .i64 (xn : Int), .string xb, .bool xd] 67)
      have P2 := hide (PV.out.below ((Below.refl _ wr).alloc (Nat.le_refl _) (.cells #[.int .i64 (xn : Int), .string xb, .bool xd] 67)))
      have O2 := hide (OV.out.alloc (.cells #[.int .i64 (xn : Int), .string xb, .bool xd] 67))
      have B2 := hide (BV.out.alloc BV.out.size (.cells #[.int .i64 (xn : Int), .string xb, .bool xd] 67))
      have hrb : wr.heap.size < (wr.alloc (.cells #[.int .i64 (xn : Int), .string xb, .bool xd] 67)).heap.size := by simp
      have X2 := hide x2
      clear x2
      go_wp2_with fail
      generalize wr.alloc (.cells #[.int .i64 (xn : Int), .string xb, .bool xd] 67) = w2 at *
      generalize wr.heap.size = rb at *
      obtain ⟨d0, d1, d2, _⟩ := P2.out.c
      have x0 := box_cell X2.out 0 rfl
      have x1 := box_cell X2.out 1 rfl
      have hnr : (Value.slice (some ⟨gg, 0, none⟩) k oc).ownBlock ≠ some rb := fun e => absurd ((OwnsQ.of_row O2.out).type e X2.out) (by decide)
      have hnb : (Value.slice (some ⟨gg, 0, none⟩) k oc).ownBlock ≠ some b := fun e => by have := (O2.out.lt b e).1; omega
      clear c0 c1 c2 a0 a1 a2 OV BV PV
      go_region_held_law (fun w' => w'.cell? ⟨b, 0, none⟩ = some (.int .i64 l.epoch) ∧ w'.cell? ⟨b, 1, none⟩ = some (.int .i64 l.peer) ∧ w'.cell? ⟨b, 2, none⟩ = some (.int .i64 l.taken) ∧ w'.cell? ⟨rb, 0, none⟩ = some (.int .i64 (xn : Int)) ∧ w'.cell? ⟨rb, 1, none⟩ = some (.string xb)) (first | go_keep | exact KS.out | exact KA.out _ | exact KG.out) (first
        | (refine step_fn rfl 37 _ _ rfl HK.out [.string xb] rfl (HC.out _) ?_; rintro e w3 ⟨rfl, bb⟩; refine ⟨_, rfl, ?_⟩; have B3 := hide bb; clear bb; have P3 := hide (P2.out.keep (own := fun _ => False) (Touch.of_below (w := w2) (w1 := w3) ⟨B3.out.os, B3.out.tape, B3.out.output, B3.out.size, B3.out.block⟩) (fun _ _ e => e)); have X3 : Hid (w3.heap[rb]? = some (.cells #[.int .i64 (xn : Int), .string xb, .bool xd] 67 (0, 0))) := (B3.out.block rb hrb).trans X2.out; have KS : Hid (w3.cell? ⟨b, 0, none⟩ = some (.int .i64 l.epoch) ∧ w3.cell? ⟨b, 1, none⟩ = some (.int .i64 l.peer) ∧ w3.cell? ⟨b, 2, none⟩ = some (.int .i64 l.taken) ∧ w3.cell? ⟨rb, 0, none⟩ = some (.int .i64 (xn : Int)) ∧ w3.cell? ⟨rb, 1, none⟩ = some (.string xb)) := ⟨P3.out.c.1, P3.out.c.2.1, P3.out.c.2.2.1, box_cell X3.out 0 rfl, box_cell X3.out 1 rfl⟩; have KA : Hid (∀ o : Obj, (w3.alloc o).cell? ⟨b, 0, none⟩ = some (.int .i64 l.epoch) ∧ (w3.alloc o).cell? ⟨b, 1, none⟩ = some (.int .i64 l.peer) ∧ (w3.alloc o).cell? ⟨b, 2, none⟩ = some (.int .i64 l.taken) ∧ (w3.alloc o).cell? ⟨rb, 0, none⟩ = some (.int .i64 (xn : Int)) ∧ (w3.alloc o).cell? ⟨rb, 1, none⟩ = some (.string xb)) := fun o => ⟨box_cell (box_alloc P3.out.box o) 0 rfl, box_cell (box_alloc P3.out.box o) 1 rfl, box_cell (box_alloc P3.out.box o) 2 rfl, box_cell (box_alloc X3.out o) 0 rfl, box_cell (box_alloc X3.out o) 1 rfl⟩)
        | (refine step_append_lies _ (by rfl) _ _ _ (by rfl) w.heap.size 31 i0 _ 5 48 Try.underlying38 hi0 hz0 hz1 hz2 rfl (by omega) (.slice (some ⟨gg, 0, none⟩) k oc) k (frCells ((D.take k).map (WT.fr l))) (by rfl) ((below_row (w := w2) (w1 := w3) ⟨B3.out.os, B3.out.tape, B3.out.output, B3.out.size, B3.out.block⟩ O2.out).alloc _) ⟨w3.heap.size, 0, none⟩ 1 1 [.int .i64 l.epoch, .int .i64 l.peer, .int .i64 (xn : Int), .int .i64 l.taken, .string xb] (by rfl) (by rfl) (World.news_of_block (cs := #[.int .i64 l.epoch, .int .i64 l.peer, .int .i64 (xn : Int), .int .i64 l.taken, .string xb]) (t := 31) (fr := (0, 0)) (heap_alloc_new w3 _)) (by simp [Value.oneCell']) (by omega) (by unfold maxLen; omega) (by omega) (by have h5 := B2.out.size; have h6 := B3.out.size; have h7 : w2.drew.heap.size = w2.heap.size := rfl; simp; omega) (w3.heap.size + 1) (by simp) ?_; intro g4 cap4 w4 hown4 hgrow4 hat4 hlt4; have B4 := hide (((B2.out.trans (Below.mono (⟨B3.out.os, B3.out.tape, B3.out.output, B3.out.size, B3.out.block⟩ : Below w2.heap.size w2 w3) B2.out.size)).alloc (by have h5 := B2.out.size; have h6 := B3.out.size; have h7 : w2.drew.heap.size = w2.heap.size := rfl; omega) (.cells #[.int .i64 l.epoch, .int .i64 l.peer, .int .i64 (xn : Int), .int .i64 l.taken, .string xb] 31)).grown hgrow4 (by have h5 := B2.out.size; have h6 := B3.out.size; have h7 : w2.drew.heap.size = w2.heap.size := rfl; simp; omega) (fun j hj => (O2.out.lt j hj).1)); have KG : Hid (w4.cell? ⟨b, 0, none⟩ = some (.int .i64 l.epoch) ∧ w4.cell? ⟨b, 1, none⟩ = some (.int .i64 l.peer) ∧ w4.cell? ⟨b, 2, none⟩ = some (.int .i64 l.taken) ∧ w4.cell? ⟨rb, 0, none⟩ = some (.int .i64 (xn : Int)) ∧ w4.cell? ⟨rb, 1, none⟩ = some (.string xb)) := ⟨box_cell (grown_at hgrow4 (box_alloc P3.out.box _) hnb) 0 rfl, box_cell (grown_at hgrow4 (box_alloc P3.out.box _) hnb) 1 rfl, box_cell (grown_at hgrow4 (box_alloc P3.out.box _) hnb) 2 rfl, box_cell (grown_at hgrow4 (box_alloc X3.out _) hnr) 0 rfl, box_cell (grown_at hgrow4 (box_alloc X3.out _) hnr) 1 rfl⟩))
      all_goals (
        go_wp2
        refine ⟨⟨k + 1, _, _, by omega, by go_num, rfl, ?_, B4.out⟩, by simp [intOf]; omega⟩
        rw [HT.out, frCells_snoc]
        exact hown4)
    · have hj1 : ¬ (k : Int) < (D.length : Int) := by omega
      obtain rfl : k = D.length := by omega
      have O2 := OV.out
      rw [List.take_length] at O2
      have O3 := hide O2
      clear O2
      go_wp2
      go_ret
      exact ⟨_, _, rfl, O3.out, BV.out⟩
end Go.Proofs.Ytiealipplckfnaa
