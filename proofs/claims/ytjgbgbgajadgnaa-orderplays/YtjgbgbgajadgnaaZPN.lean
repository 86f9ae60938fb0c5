/-
  A row written over in a loop; the last of a walk: what the law keeps of its frame.
-/
import Derived.Test.YtjgbgbgajadgnaaZPM
import Derived.Test.YtjgbgbgajadgnaaZPL2
import Derived.Test.YtjgbgbgajadgnaaZPL3
namespace Go.Proofs.Ytjgbgbgajadgnaa
open Go.RowKit

set_option linter.unusedSimpArgs false
set_option linter.unusedVariables false
theorem wp_then {P : Program} {K : Act → World → Prop} {Q : Exit → Act → World → Prop} {c : Code} {a : Act} {w : World} (h : Code.wp P c (Exit.then K fun _ _ _ => False) a w) (hk : ∀ a w, K a w → Q .normal a w) : Code.wp P c Q a w :=
  wp_mono h fun e a w q => by
    cases e with
    | normal => exact hk a w q
    | _ => exact False.elim q
theorem wp_storing {P : Program} {Q : Exit → Act → World → Prop} {ci ct cst cin : Code} {b b2 t : Nat} {n sl : Nat} (FA : Nat → Act → Prop) (St : World → Prop) {a : Act} {W : World}
    (hinit : Code.wp P ci (Exit.then (fun a' W' => FA 0 a' ∧ St W') fun _ _ _ => False) a W)
    (hsl : ∀ k a, FA k a → a.tmps.getD sl undef = .int .i64 (k : Int))
    (hno : ∀ a W, FA n a → St W → Code.wp P ct (Exit.then (fun a' W' => FA n a' ∧ St W' ∧ a'.tmps.getD t undef = .bool false) fun _ _ _ => False) a W)
    (hyes : ∀ k a W, k < n → FA k a → St W → Code.wp P ct (Exit.then (fun a' W' => FA k a' ∧ St W' ∧ a'.tmps.getD t undef = .bool true) fun _ _ _ => False) a W)
    (hst : ∀ k a W, k < n → FA k a → St W → Code.wp P cst (Exit.then (fun a' W' => FA k a' ∧ St W') fun _ _ _ => False) a W)
    (hin : ∀ k a W, k < n → FA k a → St W → Code.wp P cin (Exit.then (fun a' W' => FA (k + 1) a' ∧ St W') fun _ _ _ => False) a W)
    (hend : ∀ a W, FA n a → St W → Q .normal a W) :
    Code.wp P (ci.seq (Code.block b (((ct.seq (Code.cond (.tmp t) .skip (.exit b))).seq ((Code.block b2 cst).seq cin)).loop))) Q a W := by
  refine wp_mid (fun a W => FA 0 a ∧ St W) hinit ?_
  rintro a W ⟨hF, hS⟩
  refine wp_block (wp_loop (fun a W => ∃ k, k ≤ n ∧ FA k a ∧ St W) (fun a _ => n - (intOf (a.tmps.getD sl undef)).toNat) ⟨0, Nat.zero_le _, hF, hS⟩ ?_)
  rintro a W ⟨k, hk, hF, hS⟩
  have hmk : (intOf (a.tmps.getD sl undef)).toNat = k := by rw [hsl k a hF]; simp [intOf]
  by_cases hlt : k < n
  · refine wp_seq (wp_mid _ (hyes k a W hlt hF hS) ?_)
    rintro a2 W2 ⟨F2, S2, g2⟩
    refine wp_cond_true g2 (wp_skip ?_)
    show Code.wp _ _ _ _ _
    refine wp_mid (fun a W => FA k a ∧ St W) (wp_block (reg_all (hst k a2 W2 hlt F2 S2))) ?_
    rintro a3 W3 ⟨F3, S3⟩
    refine wp_then (hin k a3 W3 hlt F3 S3) ?_
    rintro a4 W4 ⟨F4, S4⟩
    refine ⟨⟨k + 1, hlt, F4, S4⟩, ?_⟩
    rw [hmk, hsl _ _ F4]
    simp only [intOf]
    omega
  · obtain rfl : k = n := by omega
    refine wp_seq (wp_mid _ (hno a W hF hS) ?_)
    rintro a2 W2 ⟨F2, S2, g2⟩
    refine wp_cond_false g2 (wp_exit ?_)
    have := hend a2 W2 F2 S2
    simpa [Exit.inBlock, Exit.then] using this
/-- What stays of the frame. -/
structure PV (v : Vpl) (ad rd : Addr) (dv : Value) : Prop where
  h3 : v.v3 = dv
  h9 : v.v9 = .bool true
  h12 : v.v12 = .pointer (some ad)
  h14 : v.v14 = .pointer (some rd)
/-- The rows that New was handed, written over. -/
structure StA (w W : World) (B : Nat) (L : OL) (o : OS) (R : RL) (ta tb : Option Addr) (n m tc tbc : Nat) : Prop where
  pi : PI w W L o R
  le : B ≤ W.heap.size
  rowA : ∃ xs, W.ownsRow w.heap.size 3 1 (.slice ta n tc) n xs
  rowB : ∃ xs, W.ownsRow w.heap.size 9 1 (.slice tb m tbc) m xs
theorem StA.putA {w W : World} {B : Nat} {L : OL} {o : OS} {R : RL} {ta tb : Option Addr} {n m tc tbc : Nat} (h : StA w W B L o R ta tb n m tc tbc) (hL : ∀ j, L.all j → B ≤ j) (hR : ∀ j, R.all j → B ≤ j) (hta : ∀ j, ta.map Addr.block = some j → j < B) (k : Nat) (hk : k < n) (v : Value) :
    ∃ g x, ta = some ⟨g, 0, none⟩ ∧ W.cell? ⟨g, k, none⟩ = some x ∧ W.frozen? ⟨g, k, none⟩ = false ∧ StA w (W.setCell ⟨g, k, none⟩ v) B L o R ta tb n m tc tbc := by
  obtain ⟨xs, hA⟩ := h.rowA
  obtain ⟨ys, hB⟩ := h.rowB
  obtain ⟨g, x, e, h1, h2, h3, h4, h5⟩ := row_put hA k hk v
  refine ⟨g, x, e, h1, h2, h.pi.low hL hR h.le ((Touch.refl _ _).setCell _ _ fun _ => ⟨h3, hta g (by rw [e]; rfl)⟩), by rw [World.size_setCell]; exact h.le, ⟨_, h5⟩, ⟨_, set_row hB g k v fun e2 => ?_⟩⟩
  have := row_types hA hB (j := g) (by rw [ownBlock_slice, e]; rfl) e2
  revert this
  decide +kernel
theorem StA.putB {w W : World} {B : Nat} {L : OL} {o : OS} {R : RL} {ta tb : Option Addr} {n m tc tbc : Nat} (h : StA w W B L o R ta tb n m tc tbc) (hL : ∀ j, L.all j → B ≤ j) (hR : ∀ j, R.all j → B ≤ j) (htb : ∀ j, tb.map Addr.block = some j → j < B) (k : Nat) (hk : k < m) (v : Value) :
    ∃ g x, tb = some ⟨g, 0, none⟩ ∧ W.cell? ⟨g, k, none⟩ = some x ∧ W.frozen? ⟨g, k, none⟩ = false ∧ StA w (W.setCell ⟨g, k, none⟩ v) B L o R ta tb n m tc tbc := by
  obtain ⟨xs, hA⟩ := h.rowA
  obtain ⟨ys, hB⟩ := h.rowB
  obtain ⟨g, x, e, h1, h2, h3, h4, h5⟩ := row_put hB k hk v
  refine ⟨g, x, e, h1, h2, h.pi.low hL hR h.le ((Touch.refl _ _).setCell _ _ fun _ => ⟨h3, htb g (by rw [e]; rfl)⟩), by rw [World.size_setCell]; exact h.le, ⟨_, set_row hA g k v fun e2 => ?_⟩, ⟨_, h5⟩⟩
  have := row_types hA hB (j := g) e2 (by rw [ownBlock_slice, e]; rfl)
  revert this
  decide +kernel
/-- A row that was told, written over: nothing that was there ahead of it turns. -/
structure StT (Wd W : World) (ao : Option Addr) (n cp : Nat) : Prop where
  below : Below Wd.heap.size Wd W
  row : ∃ xs, W.ownsRow Wd.heap.size 9 1 (.slice ao n cp) n xs
theorem StT.put {Wd W : World} {ao : Option Addr} {n cp : Nat} (h : StT Wd W ao n cp) (k : Nat) (hk : k < n) (v : Value) :
    ∃ g x, ao = some ⟨g, 0, none⟩ ∧ W.cell? ⟨g, k, none⟩ = some x ∧ W.frozen? ⟨g, k, none⟩ = false ∧ StT Wd (W.setCell ⟨g, k, none⟩ v) ao n cp := by
  obtain ⟨xs, hA⟩ := h.row
  obtain ⟨g, x, e, h1, h2, h3, h4, h5⟩ := row_put hA k hk v
  exact ⟨g, x, e, h1, h2, h.below.setCell h3 v, _, h5⟩
end Go.Proofs.Ytjgbgbgajadgnaa
