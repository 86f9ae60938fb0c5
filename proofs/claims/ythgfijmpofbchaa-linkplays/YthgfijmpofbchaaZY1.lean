/-
  The program's end and the document's, side by side; the law's frames as it runs.
-/
import Derived.Test.YthgfijmpofbchaaZX9
import Derived.Test.YthgfijmpofbchaaZX7
import Derived.Test.YthgfijmpofbchaaZDU
import Derived.Test.YthgfijmpofbchaaZD6
import Derived.Test.YthgfijmpofbchaaZD5
import Derived.Test.YthgfijmpofbchaaZE2
import Derived.Laws.StructEq
import Derived.LoopTactic
namespace Go.Proofs.Ythgfijmpofbchaa
open Go.RowKit

theorem OwnsQ.heap {w : World} {e : TypeId} {size : Nat} {v : Value} {n : Nat} {xs : List Value} (h : OwnsQ w e size v n xs) {j : Nat} (hj : v.ownBlock = some j) : ∃ cs, w.heap[j]? = some (.cells cs e (0, 0)) := by
  rcases h.2 with ⟨rfl, _⟩ | ⟨g, off, cap, cur, rfl, hg, _⟩
  · cases hj
  · obtain rfl : g = j := Option.some.inj hj
    exact ⟨cur, hg⟩
/-- Both: the program's end is l, the document's m. -/
structure LX (w0 W : World) (bl bx : Nat) (vl vx : Value) (l m : LK) : Prop where
  p : PL W bl vl l
  x : XL W bx vx m
  lp : ∀ j, pown bl vl j → w0.heap.size ≤ j
  lx : ∀ j, xown bx vx j → w0.heap.size ≤ j
  below : Below w0.heap.size w0 W
section
variable {w0 W W' : World} {bl bx : Nat} {vl vx : Value} {l m : LK}
/-- What stands in blocks of the program's end. -/
theorem PL.types {w : World} {b : Nat} {v : Value} {l : LK} (h : PL w b v l) {j : Nat} (hj : pown b v j) : ∃ cs, w.heap[j]? = some (.cells cs 62 (0, 0)) ∨ w.heap[j]? = some (.cells cs 66 (0, 0)) := by
  rcases hj with rfl | hj
  · exact ⟨_, .inl h.box⟩
  · obtain ⟨cs, e⟩ := h.row.heap hj
    exact ⟨cs, .inr e⟩
theorem XL.types {w : World} {b : Nat} {v : Value} {l : LK} (h : XL w b v l) {j : Nat} (hj : xown b v j) : ∃ cs, w.heap[j]? = some (.cells cs 45 (0, 0)) ∨ w.heap[j]? = some (.cells cs 9 (0, 0)) := by
  rcases hj with rfl | hj
  · exact ⟨_, .inl h.box⟩
  · obtain ⟨cs, e⟩ := h.row.heap hj
    exact ⟨cs, .inr e⟩
theorem PL.other {w : World} {b : Nat} {v : Value} {l : LK} (h : PL w b v l) {j : Nat} {cs : Array Value} {t : TypeId} (hc : w.heap[j]? = some (.cells cs t (0, 0))) (h1 : t ≠ 62) (h2 : t ≠ 66) : ¬ pown b v j := fun hj => by
  obtain ⟨c, e | e⟩ := h.types hj <;> (rw [hc] at e; injection e with e; injection e with _ e _)
  · exact h1 e
  · exact h2 e
theorem XL.other {w : World} {b : Nat} {v : Value} {l : LK} (h : XL w b v l) {j : Nat} {cs : Array Value} {t : TypeId} (hc : w.heap[j]? = some (.cells cs t (0, 0))) (h1 : t ≠ 45) (h2 : t ≠ 9) : ¬ xown b v j := fun hj => by
  obtain ⟨c, e | e⟩ := h.types hj <;> (rw [hc] at e; injection e with e; injection e with _ e _)
  · exact h1 e
  · exact h2 e
theorem LX.apart (h : LX w0 W bl bx vl vx l m) {j : Nat} (hj : pown bl vl j) : ¬ xown bx vx j := by
  obtain ⟨c, e | e⟩ := h.p.types hj
  · exact h.x.other e (by decide) (by decide)
  · exact h.x.other e (by decide) (by decide)
theorem LX.pstep (h : LX w0 W bl bx vl vx l m) {vl' : Value} {l' : LK} (hp : PL W' bl vl' l') (hs : PStep W W' bl vl vl') : LX w0 W' bl bx vl' vx l' m :=
  ⟨hp, h.x.keep hs.touch fun j hj e => h.apart e hj, fun j hj => by
    rcases hs.grew j hj with e | e
    · exact h.lp j e
    · exact Nat.le_trans h.below.size e, h.lx, h.below.trans (hs.touch.toBelow h.below.size fun k hk e => by have := h.lp k e; omega)⟩
theorem LX.xstep (h : LX w0 W bl bx vl vx l m) {vx' : Value} {m' : LK} (hx : XL W' bx vx' m') (ht : Touch (xown bx vx) W W') (hg : ∀ j, xown bx vx' j → xown bx vx j ∨ W.heap.size ≤ j) : LX w0 W' bl bx vl vx' l m' :=
  ⟨h.p.keep ht fun j hj e => h.apart hj e, hx, h.lp, fun j hj => by
    rcases hg j hj with e | e
    · exact h.lx j e
    · exact Nat.le_trans h.below.size e, h.below.trans (ht.toBelow h.below.size fun k hk e => by have := h.lx k e; omega)⟩
theorem LX.on (h : LX w0 W bl bx vl vx l m) (hb : Below W.heap.size W W') : LX w0 W' bl bx vl vx l m :=
  ⟨h.p.below hb, h.x.keep (own := fun _ => False) (Touch.of_below hb) fun _ _ e => e, h.lp, h.lx, h.below.trans (hb.mono h.below.size)⟩
theorem LX.drew (h : LX w0 W bl bx vl vx l m) : LX w0 W.drew bl bx vl vx l m := h.on (Below.refl _ W).drew
end
theorem fr_at0 {w : World} {B : Nat} {ao : Option Addr} {n cp : Nat} {D : List FR} (h : w.ownsRow B 31 5 (.slice ao n cp) n (frCells D)) (hn : D.length = n) (i : Nat) (hi : i < D.length) : ∃ g, ao = some ⟨g, 0, none⟩ ∧ w.cell? ⟨g, i * 5, none⟩ = some (.int .i64 D[i].epoch) ∧ w.cell? ⟨g, i * 5 + 1, none⟩ = some (.int .i64 D[i].peer) ∧ w.cell? ⟨g, i * 5 + 2, none⟩ = some (.int .i64 D[i].seq) ∧ w.cell? ⟨g, i * 5 + 3, none⟩ = some (.int .i64 D[i].ack) ∧ w.cell? ⟨g, i * 5 + 4, none⟩ = some (.string D[i].body) := by
  subst hn
  obtain ⟨g, h1, _, _, h2⟩ := fr_at h i hi
  exact ⟨g, h1, h2⟩
set_option maxHeartbeats 8000000 in
set_option maxRecDepth 100000 in
theorem frames_any {w : World} {B1 B2 : Nat} {ao bo : Option Addr} {cp cq : Nat} {D : List FR} (ha : w.ownsRow B1 31 5 (.slice ao D.length cp) D.length (frCells D)) (hb : w.ownsRow B2 31 5 (.slice bo D.length cq) D.length (frCells D)) (hl : D.length ≤ 1000000) :
    Calls Try.prog 11 #[.slice ao D.length cp, .slice bo D.length cq] w fun e w' => e = .returned (.bool true) ∧ Below w.heap.size w w' := by
  obtain ⟨n, hn⟩ : ∃ n, D.length = n := ⟨_, rfl⟩
  have HN := hide hn
  rw [hn] at ha hb hl ⊢
  have RA := hide ha
  have RB := hide hb
  clear ha hb hn
  go_enter Try.func11, Try.ntmps11
  go_wp2
  go_loopw [5] (fun iv wv => ∃ i : Nat, iv = .int .i64 i ∧ i ≤ n ∧ Hid (Below w.heap.size w wv)) (fun iv _ => n - (intOf iv).toNat)
  case atStart => exact ⟨0, rfl, Nat.zero_le _, Below.refl _ w⟩
  case round =>
    obtain ⟨i, rfl, hi, R⟩ := hrel
    by_cases hlt : i < n
    · have hi0 : (0 : Int) ≤ (i : Int) := by omega
      have hi1 : (i : Int) < (n : Int) := by omega
      have T : Touch (fun _ => False) w wr := Touch.of_below R.out
      obtain ⟨g, hga, a0, a1, a2, a3, a4⟩ := fr_at0 (T.row RA.out fun _ _ e => e) HN.out i (by rw [HN.out]; exact hlt)
      obtain ⟨g2, hgb, b0, b1, b2, b3, b4⟩ := fr_at0 (T.row RB.out fun _ _ e => e) HN.out i (by rw [HN.out]; exact hlt)
      subst hga hgb
      generalize D[i]'(by rw [HN.out]; exact hlt) = f at *
      obtain ⟨fe, fp, fs, fa, fy⟩ := f
      simp only at a0 a1 a2 a3 a4 b0 b1 b2 b3 b4
      clear RA RB HN T
      go_wp2_with fail
      go_quiet (fail)
      go_wp2
      go_roundw
      case rel => exact ⟨i + 1, by go_num, by omega, below_drewN R.out _⟩
      case measure => simp [intOf]; omega
    · have hi1 : ¬ (i : Int) < (n : Int) := by omega
      clear RA RB
      go_wp2
      go_ret
      exact ⟨rfl, R.out⟩
end Go.Proofs.Ythgfijmpofbchaa
