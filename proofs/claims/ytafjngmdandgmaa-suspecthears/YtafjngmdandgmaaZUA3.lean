/-
  The program's Is (mkua.py).
-/
import Derived.Test.YtafjngmdandgmaaZUA2
namespace Go.Proofs.Ytafjngmdandgmaa
open Go.RowKit

attribute [local go_sem ↓] Go.wp_at_zero Go.wp_at_succ
set_option linter.unusedSimpArgs false
set_option linter.unusedVariables false
theorem pi_ret {w W : World} {a : Act} {v : Vpi} {r : Bool} (hF : Fpi a v) (h4 : v.v4 = .bool r) (hB : Below w.heap.size w W) :
    bodyPost Try.prog Try.f15 (fun e w' => e = .returned (.bool r) ∧ Below w.heap.size w w') .ret a W := by
  have g4 := slot_get (hF.s4.trans h4)
  refine bodyPost_ret (v := .bool r) ?_ hF.defers ⟨rfl, hB⟩
  simp [results, Try.results15, go_sem, g4]
theorem mb_beq (m p : MB) : (m.node == p.node && m.life == p.life) = decide (m = p) := by
  obtain ⟨x, y⟩ := m
  obtain ⟨x1, y1⟩ := p
  rw [Bool.eq_iff_iff]
  simp
theorem PAt.pnow {w : World} {b c : Nat} {S : SU} (h : PAt w b c S) : Calls Try.prog 22 #[.int .i64 0, .pointer (some ⟨c, 0, none⟩)] w fun e w' => e = .returned (.int .i64 (S.now : Int)) ∧ Below w.heap.size w w' := Go.Proofs.Ytafjngmdandgmaa.pnow h.clock (by have := h.now; rw [IntKind.wrap_i64]; omega)
set_option maxHeartbeats 4000000 in
set_option maxRecDepth 100000 in
theorem pis {w : World} {b c : Nat} {S : SU} (h : PAt w b c S) (m : MB) : Calls Try.prog 15 #[.pointer (some ⟨b, 0, none⟩), m.v] w fun e w' => e = .returned (.bool (S.is m)) ∧ Below w.heap.size w w' := by
  have H := hide h
  have X0 := hide (heap_alloc_new w (.cells #[.int .i64 m.node, .int .i64 m.life] tMember))
  have HB := hide ((Below.refl w.heap.size w).alloc (Nat.le_refl _) (.cells #[.int .i64 m.node, .int .i64 m.life] tMember))
  clear h
  simp only [MB.v]
  go_enter Try.func15, Try.ntmps15
  go_upto_region 1 with fail
  rename_i Kp hKp Ko hKo
  generalize w.alloc (.cells #[.int .i64 m.node, .int .i64 m.life] tMember) = w1 at *
  have T1 := H.out.below HB.out
  refine reg_mono (pi_r1 (by kernel_rfl) _ (v := ⟨_, _, _⟩) ⟨rfl, rfl, rfl, rfl, rfl⟩ rfl rfl (heap_lt X0.out) (heap_lt T1.box) (box_cell X0.out 0 rfl) (box_cell X0.out 1 rfl) T1.c0 T1.c1 ?_)
  intro a2 w2 F2 h10 b2'
  refine hKo _ _ ?_
  have D2 := (b2'.block _ (heap_lt X0.out)).trans X0.out
  have B2 := HB.out.trans (b2'.mono HB.out.size)
  have T2 := H.out.below B2
  have c0 := box_cell D2 0 rfl
  have c1 := box_cell D2 1 rfl
  rw [mb_beq] at h10
  by_cases hs : m = S.self
  case pos =>
    rw [decide_eq_true hs] at h10
    refine wp_cond_true h10 (wp_seq (reg_mono (pi_r2 (by kernel_rfl) _ F2 ?_)))
    intro a3 F3
    have hS : S.is m = true := by rw [hs]; exact SU.is_self T2.self
    exact wp_ret (pi_ret F3 (by rw [hS]) B2)
  rw [decide_eq_false hs] at h10
  refine wp_cond_false h10 (wp_skip (hKp _ _ ?_))
  have hR := fun w' (_ : Below w2.heap.size w2 w') => pmember m w'
  unfold MB.v at hR
  by_cases hm : m.right
  case neg =>
    rw [decide_eq_false hm] at hR
    refine wp_seq (reg_mono (pi_r3a (by kernel_rfl) _ F2 rfl rfl (heap_lt D2) c0 c1 hR ?_))
    intro a3 w3 F3 b3
    have hS : S.is m = false := decide_eq_false fun e => hm e.1
    exact wp_ret (pi_ret F3 (by rw [hS]) (B2.trans (b3.mono B2.size)))
  rw [decide_eq_true hm] at hR
  obtain ⟨n, hn'⟩ : ∃ n : Nat, m.node = (n : Int) := ⟨m.node.toNat, by have := hm.1; omega⟩
  have hn7 : n < 7 := by have := hm.2.1; omega
  have hto : m.node.toNat = n := by omega
  have hL := fun w' (hb : Below w2.heap.size w2 w') => plast (T2.below hb) hn7
  unfold MB.v at hL
  by_cases hq : m = S.at n
  case neg =>
    refine wp_seq (reg_mono (pi_r3b (p := S.at n) (by kernel_rfl) _ F2 rfl rfl (heap_lt D2) c0 c1 hR (by rw [hn']; exact hL) (by rw [mb_beq]; exact decide_eq_false hq) ?_))
    intro a3 w3 F3 b3
    have hS : S.is m = false := by
      refine decide_eq_false fun e => ?_
      obtain ⟨_, e⟩ := e
      split at e
      · exact hs e
      · rename_i hne
        refine hq ?_
        unfold SU.at
        rw [← hn', if_neg hne, ← hto, e.1]
    exact wp_ret (pi_ret F3 (by rw [hS]) (B2.trans (b3.mono B2.size)))
  have hne : m.node ≠ S.self.node := fun e => hs (by
    rw [hq]
    unfold SU.at
    rw [← hn', if_pos e])
  refine wp_seq (reg_mono (pi_r3c (p := S.at n) (cc := c) (q := (S.now : Int)) (t := (S.now : Int) - (S.age n : Int)) (by kernel_rfl) _ F2 rfl rfl (heap_lt D2) c0 c1 hR hL hn' hn7 (heap_lt T2.box) T2.c16 (fun w' hb => (T2.below hb).pnow) (T2.t2 hn7) (by have := T2.age n; have := T2.now; rw [IntKind.wrap_i64]; omega) (by rw [mb_beq]; exact decide_eq_true hq) ?_))
  intro a3 w3 F3 b3
  have hS : S.is m = decide ((S.now : Int) - ((S.now : Int) - (S.age n : Int)) < 5) := by
    unfold SU.is
    refine decide_eq_decide.2 ?_
    rw [if_neg hne, hto]
    constructor
    · rintro ⟨_, _, p2⟩
      omega
    · intro p2
      refine ⟨hm, ?_, by omega⟩
      have := congrArg MB.life hq
      unfold SU.at at this
      rw [← hn', if_neg hne] at this
      exact this.symm
  exact wp_ret (pi_ret F3 (by rw [hS]) (B2.trans (b3.mono B2.size)))
end Go.Proofs.Ytafjngmdandgmaa
