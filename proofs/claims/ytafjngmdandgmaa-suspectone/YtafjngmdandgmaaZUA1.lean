/-
  The program's last (mkua.py).
-/
import Derived.Test.YtafjngmdandgmaaZUA0
namespace Go.Proofs.Ytafjngmdandgmaa
open Go.RowKit

attribute [local go_sem ↓] Go.wp_at_zero Go.wp_at_succ
set_option linter.unusedSimpArgs false
set_option linter.unusedVariables false
/-- A call of a closure that an operand holds. -/
theorem op_callv {P : Program} {o : Oper} {a : Act} {w : World} {K : Act → World → Prop} {Q : Exit → Act → World → Prop} (x : Operand) (args : Array Operand) (ts : Array TypeId) (ho : o.op = .call { callee := .value x, args := args, argTypes := ts }) (k : Nat) (cap : List Value) (hx : a.eval x = .func (.func k) #[] cap.toArray) (hk : ∀ args w, (callFunc k args).run P w = .ok (.enter k args) w) (vs : List Value) (hvs' : args.toList.map a.eval = vs) {R : Ending → World → Prop} (hc : Calls P k (vs ++ cap).toArray w R)
    (h : ∀ e w', R e w' → ∃ v, e = .returned v ∧ K (a.put o.dst v) w') : o.wp P a w K Q := by
  have hvs : args.map a.eval = vs.toArray := by rw [← hvs', ← Array.toList_map, Array.toArray_toList]
  unfold Oper.wp
  simp [execOp, ho, resolve, invoke, hvs, hx, Deferred.ofValue, hk, Oper.upon]
  refine hc.mono ?_
  intro e w' hr
  obtain ⟨v, rfl, hv⟩ := h e w' hr
  exact hv
theorem ex_mem (a : Act) (x y x1 y1 : Int) (w : World) (p q : Operand) (hp : a.eval p = .agg #[.int .i64 x, .int .i64 x1]) (hq : a.eval q = .agg #[.int .i64 y, .int .i64 y1]) (o : Oper) (ho : o.op = .binOp .eql tMember p q tMember) : (execOp a.eval o).run Try.prog w = .ok (.value (.bool (x == y && x1 == y1))) w := by
  simp only [execOp, ho, hp, hq]
  go_simp
  by_cases h : x = y
  · by_cases h1 : x1 = y1
    · simp [h, h1]
    · simp [h, h1]
  · simp [h]
set_option maxHeartbeats 4000000 in
set_option maxRecDepth 100000 in
theorem plast {w : World} {b c : Nat} {S : SU} (h : PAt w b c S) {n : Nat} (hn : n < 7) : Calls Try.prog 21 #[.pointer (some ⟨b, 0, none⟩), .int .i64 (n : Int)] w fun e w' => e = .returned (S.at n).v ∧ Below w.heap.size w w' := by
  have c0 := h.c0
  have c1 := h.c1
  have t1 := h.t1 hn
  have HB := hide ((Below.refl w.heap.size w).alloc (Nat.le_refl _) (.cells #[.int .i64 0, .int .i64 0] tMember))
  have X0 := heap_alloc_new w (.cells #[.int .i64 0, .int .i64 0] tMember)
  have hl := heap_lt h.box
  have a0 : (w.alloc (.cells #[.int .i64 0, .int .i64 0] tMember)).cell? ⟨b, 0, none⟩ = some (.int .i64 S.self.node) := (HB.out.cell (p := ⟨b, 0, none⟩) hl).trans c0
  have a1 : (w.alloc (.cells #[.int .i64 0, .int .i64 0] tMember)).cell? ⟨b, 1, none⟩ = some (.int .i64 S.self.life) := (HB.out.cell (p := ⟨b, 1, none⟩) hl).trans c1
  have a2 : (w.alloc (.cells #[.int .i64 0, .int .i64 0] tMember)).cell? ⟨b, 2 + n * 2, none⟩ = some (.int .i64 (S.life n)) := (HB.out.cell (p := ⟨b, _, none⟩) hl).trans t1
  have f0 := box_free X0 0
  have f1 := box_free X0 1
  have q0 := box_cell X0 0 rfl
  have q1 := box_cell X0 1 rfl
  have hi0 : (0 : Int) ≤ (n : Int) := by omega
  have hi1 : (n : Int) < 7 := by omega
  have hne := fun (x y : Int) => heap_alloc_new w (.cells #[.int .i64 x, .int .i64 y] tMember)
  by_cases hq : (n : Int) = S.self.node
  · rw [show S.at n = S.self by unfold SU.at; rw [if_pos hq]]
    have hq' : ((n : Int) == S.self.node) = true := by simpa using hq
    obtain ⟨sx, sl, sa, sn⟩ := S
    obtain ⟨x, y⟩ := sx
    simp only at *
    have r0' := box_cell (hne x y) 0 rfl
    have r1' := box_cell (hne x y) 1 rfl
    have HE := hide ((Below.refl w.heap.size w).alloc (Nat.le_refl _) (.cells #[.int .i64 x, .int .i64 y] tMember))
    clear h c0 c1 t1 hn hl X0 HB hq hne
    simp only [MB.v]
    go_enter Try.func21, Try.ntmps21
    go_wp2
    refine bodyPost_ret (v := .agg #[.int .i64 x, .int .i64 y]) ?_ rfl ⟨rfl, HE.out⟩
    simp [results, Try.results21, go_sem, r0', r1']
  · rw [show S.at n = ⟨n, S.life n⟩ by unfold SU.at; rw [if_neg hq]]
    have hq' : ((n : Int) == S.self.node) = false := by simpa using hq
    have r0' := box_cell (hne n (S.life n)) 0 rfl
    have r1' := box_cell (hne n (S.life n)) 1 rfl
    have HE := hide ((Below.refl w.heap.size w).alloc (Nat.le_refl _) (.cells #[.int .i64 n, .int .i64 (S.life n)] tMember))
    clear h c0 c1 t1 hl X0 HB hq hne
    simp only [MB.v]
    generalize S.life n = y at *
    generalize S.self.node = z at *
    generalize S.self.life = z1 at *
    go_enter Try.func21, Try.ntmps21
    go_wp2
    refine bodyPost_ret (v := .agg #[.int .i64 n, .int .i64 y]) ?_ rfl ⟨rfl, HE.out⟩
    simp [results, Try.results21, go_sem, r0', r1']
end Go.Proofs.Ytafjngmdandgmaa
