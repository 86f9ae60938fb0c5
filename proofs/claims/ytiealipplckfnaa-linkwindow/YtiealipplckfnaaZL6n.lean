/-
  Numbers of a round; nothing of the program is in this text.
-/
import Derived.Test.YtiealipplckfnaaZL5
namespace Go.Proofs.Ytiealipplckfnaa

def phiN (N due ticks t fr : Nat) : Nat := if N = 0 then 0 else if t < due then 69 + (if 1 ≤ t then 4 else 0) + (3 - ticks) else if fr = 1 ∧ 1 ≤ t then 2 * N else if due < min 8 N then 2 * N + 1 else 2 * N + 4 - ticks
set_option maxHeartbeats 2000000 in
theorem round_num {N out due ticks t fr d1 t1 out2 due2 tk2 N' out' due' ticks' t2 t' fr' : Nat} (hfr : fr ≤ 1) (_hfr' : fr' ≤ 1) (h3 : t ≤ out) (h4 : out ≤ N) (h5 : due ≤ out) (h6 : out ≤ 8) (h7 : ticks ≤ 2) (h8 : N ≤ 32)
    (hd1 : d1 = if out ≠ 0 ∧ ticks = 2 then 0 else due) (ht1 : t1 = if out = 0 then ticks else if ticks = 2 then 0 else ticks + 1)
    (ho2 : out2 = if d1 < min 8 N then max out (min 8 N) else out) (hd2 : due2 = if d1 < min 8 N then min 8 N else d1) (hk2 : tk2 = if d1 < min 8 N ∧ out = 0 then 0 else t1)
    (ht2 : t2 = if d1 < min 8 N then (if d1 ≤ t then max t (min 8 N) else t) else t)
    (hN : N' = if fr = 1 ∧ 1 ≤ t then N - t else N) (hO : out' = if fr = 1 ∧ 1 ≤ t then out2 - t else out2) (hD : due' = if fr = 1 ∧ 1 ≤ t then due2 - t else due2) (hK : ticks' = if fr = 1 ∧ 1 ≤ t then 0 else tk2) (hT : t' = if fr = 1 ∧ 1 ≤ t then t2 - t else t2)
    (hf : d1 < min 8 N → fr' = 1) :
    (phiN N' due' ticks' t' fr' < phiN N due ticks t fr ∨ (N = 0 ∧ N' = 0)) ∧ t' ≤ out' ∧ out' ≤ N' ∧ due' ≤ out' ∧ out' ≤ 8 ∧ ticks' ≤ 2 ∧ N' ≤ 32 := by
  have hk2' : tk2 ≤ 2 := by
    rw [hk2, ht1]
    (repeat' split) <;> omega
  by_cases c1 : fr = 1 ∧ 1 ≤ t
  · rw [if_pos c1] at hN hO hD hK hT
    by_cases c2 : d1 < min 8 N
    · rw [if_pos c2] at ho2 hd2 ht2
      have c5 := hf c2
      by_cases c3 : out ≠ 0 ∧ ticks = 2
      · rw [if_pos c3] at hd1
        rw [if_pos (by omega)] at ht2
        refine ⟨?_, by omega, by omega, by omega, by omega, by omega, by omega⟩
        by_cases c4 : N = 0
        · exact .inr ⟨c4, by omega⟩
        · refine .inl ?_
          unfold phiN
          (repeat' split) <;> omega
      · rw [if_neg c3] at hd1
        by_cases c11 : d1 ≤ t
        · rw [if_pos c11] at ht2
          refine ⟨?_, by omega, by omega, by omega, by omega, by omega, by omega⟩
          by_cases c4 : N = 0
          · exact .inr ⟨c4, by omega⟩
          · refine .inl ?_
            unfold phiN
            (repeat' split) <;> omega
        · rw [if_neg c11] at ht2
          refine ⟨?_, by omega, by omega, by omega, by omega, by omega, by omega⟩
          by_cases c4 : N = 0
          · exact .inr ⟨c4, by omega⟩
          · refine .inl ?_
            unfold phiN
            (repeat' split) <;> omega
    · rw [if_neg c2] at ho2 hd2 ht2
      by_cases c3 : out ≠ 0 ∧ ticks = 2
      · rw [if_pos c3] at hd1
        refine ⟨?_, by omega, by omega, by omega, by omega, by omega, by omega⟩
        by_cases c4 : N = 0
        · exact .inr ⟨c4, by omega⟩
        · refine .inl ?_
          unfold phiN
          (repeat' split) <;> omega
      · rw [if_neg c3] at hd1
        refine ⟨?_, by omega, by omega, by omega, by omega, by omega, by omega⟩
        by_cases c4 : N = 0
        · exact .inr ⟨c4, by omega⟩
        · refine .inl ?_
          unfold phiN
          (repeat' split) <;> omega
  · rw [if_neg c1] at hN hO hD hK hT
    by_cases c2 : d1 < min 8 N
    · rw [if_pos c2] at ho2 hd2 ht2
      have c5 := hf c2
      by_cases c3 : out ≠ 0 ∧ ticks = 2
      · rw [if_pos c3] at hd1
        rw [if_pos (by omega)] at ht2
        rw [if_neg c3.1, if_pos c3.2] at ht1
        rw [if_neg (fun e => c3.1 e.2)] at hk2
        refine ⟨?_, by omega, by omega, by omega, by omega, by omega, by omega⟩
        by_cases c4 : N = 0
        · exact .inr ⟨c4, by omega⟩
        · refine .inl ?_
          unfold phiN
          (repeat' split) <;> omega
      · rw [if_neg c3] at hd1
        by_cases c12 : out = 0
        · rw [if_pos c12] at ht1
          rw [if_pos ⟨c2, c12⟩] at hk2
          rw [if_pos (by omega)] at ht2
          refine ⟨?_, by omega, by omega, by omega, by omega, by omega, by omega⟩
          by_cases c4 : N = 0
          · exact .inr ⟨c4, by omega⟩
          · refine .inl ?_
            unfold phiN
            (repeat' split) <;> omega
        · rw [if_neg c12, if_neg (fun e => c3 ⟨c12, e⟩)] at ht1
          rw [if_neg (fun e => c12 e.2)] at hk2
          by_cases c11 : d1 ≤ t
          · rw [if_pos c11] at ht2
            refine ⟨?_, by omega, by omega, by omega, by omega, by omega, by omega⟩
            by_cases c4 : N = 0
            · exact .inr ⟨c4, by omega⟩
            · refine .inl ?_
              unfold phiN
              (repeat' split) <;> omega
          · rw [if_neg c11] at ht2
            refine ⟨?_, by omega, by omega, by omega, by omega, by omega, by omega⟩
            by_cases c4 : N = 0
            · exact .inr ⟨c4, by omega⟩
            · refine .inl ?_
              unfold phiN
              (repeat' split) <;> omega
    · rw [if_neg c2] at ho2 hd2 ht2
      rw [if_neg (fun e => c2 e.1)] at hk2
      by_cases c3 : out ≠ 0 ∧ ticks = 2
      · rw [if_pos c3] at hd1
        rw [if_neg c3.1, if_pos c3.2] at ht1
        refine ⟨?_, by omega, by omega, by omega, by omega, by omega, by omega⟩
        by_cases c4 : N = 0
        · exact .inr ⟨c4, by omega⟩
        · refine .inl ?_
          unfold phiN
          (repeat' split) <;> omega
      · rw [if_neg c3] at hd1
        by_cases c12 : out = 0
        · rw [if_pos c12] at ht1
          refine ⟨?_, by omega, by omega, by omega, by omega, by omega, by omega⟩
          by_cases c4 : N = 0
          · exact .inr ⟨c4, by omega⟩
          · refine .inl ?_
            unfold phiN
            (repeat' split) <;> omega
        · rw [if_neg c12, if_neg (fun e => c3 ⟨c12, e⟩)] at ht1
          refine ⟨?_, by omega, by omega, by omega, by omega, by omega, by omega⟩
          by_cases c4 : N = 0
          · exact .inr ⟨c4, by omega⟩
          · refine .inl ?_
            unfold phiN
            (repeat' split) <;> omega
end Go.Proofs.Ytiealipplckfnaa
