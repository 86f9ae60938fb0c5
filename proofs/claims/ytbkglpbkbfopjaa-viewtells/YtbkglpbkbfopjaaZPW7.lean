/-
  The program's eachNext (mkpw.py)
-/
import Derived.Test.YtbkglpbkbfopjaaZPW6
namespace Go.Proofs.Ytbkglpbkbfopjaa
open Go.RowKit Go.Shelf

attribute [local go_sem] Oper.semAt_some
set_option linter.unusedSimpArgs false
set_option linter.unusedVariables false

theorem index_lives (Y : List MB) (k : Nat) (hk : k < 7) (W : World) : Sem.run Try.prog (Instr.index tLives (.agg (livesA Y)) (.int .i64 (k : Int))) W = .ok (.int .i64 (lifeOf Y k)) W := by
  match k, hk with
  | 0, _ => rfl
  | 1, _ => rfl
  | 2, _ => rfl
  | 3, _ => rfl
  | 4, _ => rfl
  | 5, _ => rfl
  | 6, _ => rfl
set_option maxRecDepth 100000 in
set_option maxHeartbeats 8000000 in
/-- eachNext's function: the members of the next view, one by one. -/
theorem enext1_in (A : List RM) (Y : List MB) (hYA : A.map (·.val) = Y) (Q : List Int) (n l Ba Bw n₀ ca cw : Nat) (aa aw : Option Addr) (hlA : A.length ≤ 4611686018427387903) (hlQ : Q.length ≤ 4611686018427387903) (J Jx : List MB → World → Prop)
    (hY : ∀ pre x W, J pre W → pre.length < 7 → YieldAt Fence.wide (n - 1) Try.prog l #[x.v] W fun e W' =>
      (e = .returned (.bool true) ∧ J (pre ++ [x]) W' ∧ Below n₀ W W') ∨ (e = .returned (.bool false) ∧ Jx (pre ++ [x]) W'))
    (W : World) (hJ : ∀ pre W W', J pre W → Below W.heap.size W W' → J pre W') (hn0 : n₀ ≤ W.heap.size) (hBa : W.cell? ⟨Ba, 0, none⟩ = some (.slice aa A.length ca)) (hBw : ∀ W', Below n₀ W W' → W'.cell? ⟨Bw, 0, none⟩ = some (.slice aw Q.length cw))
    (hA : MemsAt W aa Y) (hQ : ∀ W', Below n₀ W W' → IntsAt W' aw Q) (h0 : J [] W) :
    CallsIn Fence.wide n Try.prog 29 #[.func (.yield l) #[] #[], .pointer (some ⟨Ba, 0, none⟩), .pointer (some ⟨Bw, 0, none⟩)] W fun e W' => (∃ v, e = .returned v) ∧
      ((∃ ys, ys = nextUpto Y Q 7 ∧ J ys W') ∨ (∃ pre, True ∧ Jx pre W')) := by
  have HL := hide (plives A aa ca W (by rw [hYA]; exact hA) hlA)
  rw [hYA] at HL
  clear hYA hA
  refine callsIn_of_wp Try.func29 rfl trivial ?_ rfl
  simp only [Try.ntmps29, List.size_toArray, List.length_cons, List.length_nil, Nat.reduceAdd, Nat.reduceSub, Array.replicate_succ, Array.replicate_zero, List.push_toArray, List.append_toArray, List.nil_append, List.cons_append]
  gi_wp2_with (refine ⟨trivial, fun h => (by cases h), ?_⟩; gi_at_call 30; refine (callsIn_wide.2 HL.out).mono ?_; rintro e w2 ⟨rfl, hb2⟩)
  gi_loopw [8] (fun i wr => ∃ k : Nat, k ≤ 7 ∧ i = .int .i64 k ∧ J (nextUpto Y Q k) wr ∧ Below n₀ W wr)
    (fun i _ => 7 - (intOf i).toNat)
  case atStart => exact ⟨0, Nat.zero_le _, rfl, hJ _ _ _ h0 hb2, hb2.mono hn0⟩
  case round =>
    obtain ⟨k, hk, rfl, hJs, hnx⟩ := hrel
    by_cases hlt : k < 7
    · have k1 : (k : Int) < 7 := by omega
      have k0 : (0 : Int) ≤ (k : Int) := by omega
      have hg := index_lives Y k hlt
      have NO : Hid (nextUpto Y Q (k + 1) = nextUpto Y Q k ++ nextOne Y Q k) := nextUpto_succ Y Q k
      have hpos : 0 ≤ lifeOf Y k := (lifeOf_acc Y k 0 (Int.le_refl _)).2.1
      have hlen : (nextUpto Y Q k).length < 7 := Nat.lt_of_le_of_lt (next_len Y Q k) hlt
      have HC := hide (pcontains Q (k : Int) aw cw wr (hQ _ hnx) hlQ)
      have hbw := hBw _ hnx
      have N1 : Hid (nextOne Y Q k = if (k : Int) ∈ Q ∧ 0 < lifeOf Y k then [⟨k, lifeOf Y k⟩] else []) := rfl
      generalize lifeOf Y k = lf at *
      by_cases hlf : lf = 0
      · subst hlf
        have N2 : Hid (nextUpto Y Q (k + 1) = nextUpto Y Q k) := by
          show _ = _
          rw [NO.out, N1.out, if_neg (fun h => absurd h.2 (by omega)), List.append_nil]
        clear NO N1
        gi_wp2_with (refine ⟨trivial, ?_⟩)
        go_roundw
        case rel => exact ⟨k + 1, by omega, by simp, by rw [N2.out]; exact hJs, hnx⟩
        case measure => simp [intOf]; omega
      · by_cases hq : (k : Int) ∈ Q
        · rw [decide_eq_true hq] at HC
          have N2 : Hid (nextUpto Y Q (k + 1) = nextUpto Y Q k ++ [⟨k, lf⟩]) := by
            show _ = _
            rw [NO.out, N1.out, if_pos ⟨hq, by omega⟩]
          clear NO N1 hq
          obtain ⟨fn, tmps, assign, body, hy, hR⟩ := hY _ ⟨k, lf⟩ wr hJs hlen
          simp only [MB.v] at hy
          gi_wp2_with (refine ⟨trivial, fun h => (by cases h), ?_⟩; gi_at_call 31; refine (callsIn_wide.2 HC.out).mono ?_; rintro e w3 ⟨rfl, rfl⟩)
          refine ⟨fun h => (by cases h), hR.mono ?_⟩
          rintro e W3 (⟨rfl, hJ3, hk3⟩ | ⟨rfl, hJx3⟩)
          · gi_wp2
            go_roundw
            case rel => exact ⟨k + 1, by omega, by simp, by rw [N2.out]; exact hJ3, hnx.trans hk3⟩
            case measure => simp [intOf]; omega
          · gi_wp2
            refine bodyPost_ret (results_none rfl _ _ _) rfl ?_
            exact ⟨⟨_, rfl⟩, .inr ⟨_, trivial, hJx3⟩⟩
        · rw [decide_eq_false hq] at HC
          have N2 : Hid (nextUpto Y Q (k + 1) = nextUpto Y Q k) := by
            show _ = _
            rw [NO.out, N1.out, if_neg (fun h => absurd h.1 hq), List.append_nil]
          clear NO N1 hq
          gi_wp2_with (refine ⟨trivial, fun h => (by cases h), ?_⟩; gi_at_call 31; refine (callsIn_wide.2 HC.out).mono ?_; rintro e w3 ⟨rfl, rfl⟩)
          go_roundw
          case rel => exact ⟨k + 1, by omega, by simp, by rw [N2.out]; exact hJs, hnx⟩
          case measure => simp [intOf]; omega
    · obtain rfl : k = 7 := by omega
      gi_wp2
      go_end0
      exact ⟨⟨_, rfl⟩, .inl ⟨_, rfl, hJs⟩⟩
set_option maxHeartbeats 4000000 in
theorem enext_in (aa aw : Option Addr) (na nw ca cw : Nat) (w : World) :
    Calls Try.prog 26 #[.slice aa na ca, .slice aw nw cw] w fun e w' => e = .returned (.func (.func 29) #[] #[.pointer (some ⟨w.heap.size, 0, none⟩), .pointer (some ⟨w.heap.size + 1, 0, none⟩)]) ∧ w' = (w.alloc (.cells #[.slice aa na ca] 22)).alloc (.cells #[.slice aw nw cw] 37) := by
  go_enter Try.func26, Try.ntmps26
  go_wp2
  go_ret
  exact ⟨rfl, rfl⟩
theorem enext_stops (A : List RM) (Y : List MB) (hYA : A.map (·.val) = Y) (Q : List Int) (n Ba Bw ca cw : Nat) (aa aw : Option Addr) (hlA : A.length ≤ 4611686018427387903) (hlQ : Q.length ≤ 4611686018427387903) (w : World) (hBa : Ba < w.heap.size) (hBw : Bw < w.heap.size)
    (ha : w.cell? ⟨Ba, 0, none⟩ = some (.slice aa A.length ca)) (hw : w.cell? ⟨Bw, 0, none⟩ = some (.slice aw Q.length cw)) (hA : MemsAt w aa Y) (hQ : IntsAt w aw Q) :
    SeqStopsK Fence.wide n Try.prog 29 #[.pointer (some ⟨Ba, 0, none⟩), .pointer (some ⟨Bw, 0, none⟩)] (fun x : MB => #[(id x : MB).v]) (Below w.heap.size) (fun ys => ys = nextUpto Y Q 7) (fun _ => True) 7 w := fun l J Jx W hW hJ _ hY h0 => by
  refine enext1_in A Y hYA Q n l Ba Bw w.heap.size ca cw aa aw hlA hlQ J Jx hY W ?_ hW.size ((hW.cell (p := ⟨Ba, 0, none⟩) hBa).trans ha) (fun X hX => ((hW.trans hX).cell (p := ⟨Bw, 0, none⟩) hBw).trans hw) (hA.below hW) (fun X hX => hQ.below (hW.trans hX)) h0
  exact fun pre X X' h hb => hJ pre X X' none h ⟨hb.os, hb.tape, hb.output, hb.size, fun k hk _ => hb.block k hk⟩ (fun r e => by cases e)
end Go.Proofs.Ytbkglpbkbfopjaa
