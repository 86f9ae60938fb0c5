/-
  The laws' own records: two lists that are one.
-/
import Derived.Test.YtgnehnlmbodijaaDoorZS8
import Derived.Laws.StructEq
namespace Go.Proofs.YtgnehnlmbodijaaDoor
open Go.RowKit

theorem RecsAt.five {w : World} {ao : Option Addr} {n cap : Nat} {l : List Rec} (h : RecsAt w (.slice ao n cap) l) (i : Nat) (hi : i < l.length) : n = l.length ∧ ∃ b off, ao = some ⟨b, off, none⟩ ∧ b < w.heap.size ∧ w.cell? ⟨b, off + i * 5, none⟩ = some (.int .i64 l[i].off) ∧ w.cell? ⟨b, off + i * 5 + 1, none⟩ = some (.string l[i].prod) ∧ w.cell? ⟨b, off + i * 5 + 2, none⟩ = some (.int .i64 l[i].seq) ∧ w.cell? ⟨b, off + i * 5 + 3, none⟩ = some (.string l[i].key) ∧ w.cell? ⟨b, off + i * 5 + 4, none⟩ = some (.string l[i].val) := by
  obtain ⟨a, c, hv, _, ha⟩ := h
  injection hv with h1 h2 h3
  subst h1
  obtain ⟨b, off, e, hb, hc⟩ := ha i hi
  exact ⟨h2, b, off, e, hb, hc 0 (by omega), hc 1 (by omega), hc 2 (by omega), hc 3 (by omega), hc 4 (by omega)⟩
set_option maxHeartbeats 2000000 in
theorem records_same (l : List Rec) (va vb : Value) (w : World) (hl : l.length ≤ 1099511627776) (ha : RecsAt w va l) (hb : RecsAt w vb l) :
    Calls Tryd.prog 16 #[va, vb] w fun e w' => e = .returned (.bool true) ∧ ∃ n, w' = w.drewN n := by
  obtain ⟨ao, ac, rfl, _, _⟩ := id ha
  obtain ⟨bo, bc, rfl, _, _⟩ := id hb
  have HA := hide ha
  have HB := hide hb
  clear ha hb
  go_enter Tryd.func16, Tryd.ntmps16
  go_wp2
  go_loopw [5] (fun iv wv => ∃ k n : Nat, k ≤ l.length ∧ iv = .int .i64 k ∧ wv = w.drewN n) (fun iv _ => l.length - (intOf iv).toNat)
  case atStart => exact ⟨0, 0, Nat.zero_le _, rfl, rfl⟩
  case round =>
    obtain ⟨k, n, hk, rfl, rfl⟩ := hrel
    by_cases hlt : k < l.length
    · obtain ⟨_, b, off, rfl, _, a0, a1, a2, a3, a4⟩ := HA.out.five k hlt
      obtain ⟨_, b2, off2, rfl, _, b0, b1, b2', b3, b4⟩ := HB.out.five k hlt
      have hi0 : (0 : Int) ≤ (k : Int) := by omega
      have hi1 : (k : Int) < (l.length : Int) := by omega
      generalize l[k] = x at *
      obtain ⟨xo, xp, xs, xk, xv⟩ := x
      simp only at a0 a1 a2 a3 a4 b0 b1 b2' b3 b4
      go_wp2
      go_quiet (fail)
      go_wp2
      exact ⟨⟨k + 1, n + nq, by omega, by go_num, rfl⟩, by simp [intOf]; omega⟩
    · have hi1 : ¬ (k : Int) < (l.length : Int) := by omega
      go_wp2
      go_ret
      exact ⟨rfl, n, rfl⟩
end Go.Proofs.YtgnehnlmbodijaaDoor
