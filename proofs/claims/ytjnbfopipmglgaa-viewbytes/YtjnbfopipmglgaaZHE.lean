/-
  slices.Index, Contains, AppendSeq and Collect as the program has them (mkpw.py)
-/
import Derived.Test.YtjnbfopipmglgaaZPW5
import Derived.Maps.AppendAt
namespace Go.Proofs.Ytjnbfopipmglgaa
open Go.RowKit Go.Shelf

attribute [local go_sem] Oper.semAt_some
set_option linter.unusedSimpArgs false
set_option linter.unusedVariables false

/-- Where a number is in a row, or -1. -/
def idxF (Q : List Int) (v : Int) : Int := if v ∈ Q then (Q.idxOf v : Nat) else -1
theorem idx_first {Q : List Int} {v : Int} {i : Nat} (hi : i < Q.length) (h : ∀ j, j < i → Q[j]? ≠ some v) (hv : Q[i] = v) : idxF Q v = (i : Int) := by
  unfold idxF
  rw [if_pos (List.mem_of_getElem hv)]
  congr 1
  have h1 : Q.idxOf v ≤ i := by
    rcases Nat.lt_or_ge i (Q.idxOf v) with h2 | h2
    · exact absurd (by simpa [hi] using hv) (show ¬ Q[i] = v from fun e => by
        have := List.not_of_lt_findIdx (p := (· == v)) (xs := Q) (i := i) h2
        simp [e] at this)
    · exact h2
  rcases Nat.lt_or_ge (Q.idxOf v) i with h2 | h2
  · exfalso
    refine h _ h2 ?_
    have h3 : Q.idxOf v < Q.length := by omega
    rw [List.getElem?_eq_getElem h3]
    congr 1
    exact List.getElem_idxOf h3
  · omega
theorem idx_none {Q : List Int} {v : Int} (h : ∀ j, j < Q.length → Q[j]? ≠ some v) : idxF Q v = -1 := by
  unfold idxF
  rw [if_neg]
  intro hm
  obtain ⟨i, hi, e⟩ := List.getElem_of_mem hm
  exact h i hi (by rw [List.getElem?_eq_getElem hi, e])
set_option maxHeartbeats 4000000 in
theorem pindex (Q : List Int) (v : Int) (aw : Option Addr) (cw : Nat) (w : World) (hQ : IntsAt w aw Q) (hl : Q.length ≤ 4611686018427387903) : Calls Try.prog 63 #[.slice aw Q.length cw, .int .i64 v] w fun e w' => e = .returned (.int .i64 (idxF Q v)) ∧ w' = w := by
  obtain ⟨n, hn⟩ : ∃ n, Q.length = n := ⟨_, rfl⟩
  have HN := hide hn
  have HQ := hide hQ
  rw [hn] at hl ⊢
  clear hn hQ
  go_enter Try.func63, Try.ntmps63
  go_wp2
  go_loopw [8] (fun iv wv => ∃ i : Nat, iv = .int .i64 i ∧ i ≤ n ∧ wv = w ∧ Hid (∀ j, j < i → Q[j]? ≠ some v)) (fun iv _ => n - (intOf iv).toNat)
  case atStart => exact ⟨0, rfl, Nat.zero_le _, rfl, fun j hj => absurd hj (Nat.not_lt_zero _)⟩
  case round =>
    obtain ⟨i, rfl, hi, rfl, H⟩ := hrel
    by_cases hlt : i < n
    · have hiQ : i < Q.length := by rw [HN.out]; exact hlt
      obtain ⟨b, off, rfl, hb, y0⟩ := HQ.out i hiQ
      have hi0 : (0 : Int) ≤ (i : Int) := by omega
      have hi1 : (i : Int) < (n : Int) := by omega
      obtain ⟨z, hz⟩ : ∃ z, Q[i] = z := ⟨_, rfl⟩
      rw [hz] at y0
      have HZ := hide hz
      clear hz
      by_cases hvz : v = z
      · subst hvz
        have HI := hide (idx_first hiQ H.out HZ.out)
        go_wp2
        go_ret
        exact ⟨by rw [HI.out]; rfl, rfl⟩
      · go_wp2
        go_roundw
        case rel => exact ⟨i + 1, by go_num, by omega, by simp, fun j hj => by
          rcases Nat.lt_or_ge j i with h2 | h2
          · exact H.out j h2
          · obtain rfl : j = i := by omega
            rw [List.getElem?_eq_getElem hiQ, HZ.out]
            exact fun e => hvz (Option.some.inj e).symm⟩
        case measure => simp [intOf]; omega
    · have hi1 : ¬ (i : Int) < (n : Int) := by omega
      have HI := hide (idx_none (Q := Q) (v := v) fun j hj => H.out j (by rw [HN.out] at hj; omega))
      go_wp2
      go_ret
      exact ⟨by rw [HI.out]; rfl, rfl⟩
set_option maxHeartbeats 4000000 in
theorem pcontains (Q : List Int) (v : Int) (aw : Option Addr) (cw : Nat) (w : World) (hQ : IntsAt w aw Q) (hl : Q.length ≤ 4611686018427387903) : Calls Try.prog 46 #[.slice aw Q.length cw, .int .i64 v] w fun e w' => e = .returned (.bool (decide (v ∈ Q))) ∧ w' = w := by
  have HI := hide (pindex Q v aw cw w hQ hl)
  obtain ⟨r, hr⟩ : ∃ r, idxF Q v = r := ⟨_, rfl⟩
  rw [hr] at HI
  by_cases hv : v ∈ Q
  · rw [decide_eq_true hv]
    have h0 : 0 ≤ r := by rw [← hr]; unfold idxF; rw [if_pos hv]; omega
    clear hr hv
    go_enter Try.func46, Try.ntmps46
    go_wp2_with (go_at_call 63; refine HI.out.mono ?_; rintro e w2 ⟨rfl, rfl⟩)
    go_ret
    exact ⟨rfl, rfl⟩
  · rw [decide_eq_false hv]
    have h0 : ¬ 0 ≤ r := by rw [← hr]; unfold idxF; rw [if_neg hv]; omega
    clear hr hv
    go_enter Try.func46, Try.ntmps46
    go_wp2_with (go_at_call 63; refine HI.out.mono ?_; rintro e w2 ⟨rfl, rfl⟩)
    go_ret
    exact ⟨by show Ending.returned (.bool (decide (0 ≤ r))) = _; rw [decide_eq_false (show ¬ 0 ≤ r by omega)], rfl⟩
theorem infoMember : (Try.prog.info? tMember).map (fun i => (i.zero, i.size, i.bytes)) = some (some (.agg #[.int .i64 0, .int .i64 0]), 2, 16) := by kernel_rfl
set_option maxRecDepth 100000 in
set_option maxHeartbeats 8000000 in
/-- slices.AppendSeq to nothing: what comes, in a row of its own. -/
theorem pappend {α : Type} (f : α → MB) (S Sp : List α → Prop) (N n₀ g : Nat) (hN : N ≤ 1000000) (lb : Array Value) (eg : ∀ args w, (callFunc g args).run Try.prog w = .ok (.enter g args) w) (w : World) (hn0 : n₀ ≤ w.heap.size)
    (hseq : ∀ n, SeqStopsK Fence.wide n Try.prog g lb (fun x : α => #[(f x).v]) (Below n₀) S Sp N w) :
    Calls Try.prog 43 #[.slice none 0 0, .func (.func g) #[] lb] w fun e w' => ∃ xs ao cp, S xs ∧ e = .returned (.slice ao xs.length cp) ∧ w'.ownsRow w.heap.size tMember 2 (.slice ao xs.length cp) xs.length (mbCells (xs.map f)) ∧ Below w.heap.size w w' := by
  obtain ⟨i0, hi, hz0, hz1, hz2⟩ := info_parts infoMember
  refine (callsIn_wide (n := 9)).1 ?_
  refine callsIn_of_wp_marks Try.func43 rfl trivial ?_ rfl
  simp only [Try.ntmps43, List.size_toArray, List.length_cons, List.length_nil, Nat.reduceAdd, Nat.reduceSub, Array.replicate_succ, Array.replicate_zero, List.push_toArray, List.append_toArray, List.nil_append, List.cons_append]
  gi_wp2
  obtain ⟨wz, e1⟩ : ∃ wn : World, w.alloc (.cells #[.slice none 0 0] 22) = wn := ⟨_, rfl⟩
  have s1 : wz.heap.size = w.heap.size + 1 := by rw [← e1]; simp
  have b1 : Below w.heap.size w wz := by rw [← e1]; exact (Below.refl _ w).alloc (Nat.le_refl _) _
  have X0 : Boxed wz w.heap.size 22 (.slice none 0 0) := by rw [← e1]; exact World.alloc_heap_new _ _
  rw [e1]
  clear e1
  refine wpIn_rangeFunc_ownH rfl (by omega) (gf := g) (lb := lb) rfl trivial eg (hseq _) belowK_t (belowK_b (by omega)) b1 (fun _ => rfl)
    (fun pre W => (∃ v, Boxed W w.heap.size 22 v ∧ W.ownsRow w.heap.size tMember 2 v pre.length (mbCells (pre.map f)) ∧ True) ∧ Below w.heap.size w W)
    (fun c pre W => False)
    (OwnFrom.and (Own.from (holdsRow_own w.heap.size w.heap.size 22 tMember 2 (fun pre : List α => pre.length) (fun pre => mbCells (pre.map f)) (fun _ _ => True)) _) (ownFrom_below (Nat.le_refl _) (by omega)))
    (fun _ _ _ _ _ hs _ _ => hs)
    ⟨⟨_, X0, World.ownsRow_nil _ _ _ _, trivial⟩, b1⟩
    (fun x a' W => ∃ Bx, Box2 W Bx (f x) ∧ a' = { tmps := #[.slice none 0 0, .func (.func g) #[] lb, .pointer (some ⟨w.heap.size, 0, none⟩), undef, .slice none 0 0, .pointer (some ⟨Bx, 0, none⟩), .func (.func g) #[] lb, (f x).v, undef, undef, undef, undef, undef], defers := [] })
    (fun x a' s X Y row hs hg hr => by obtain ⟨Bx, h1, h2⟩ := hs; exact ⟨Bx, Own.from (Box2.own (β := Unit) Bx fun _ => f x) _ () X Y row h1 hg hr, h2⟩) ?assign ?body ?done ?stop
  case assign =>
    rintro l pre x W K ⟨⟨v, h1, h2, _⟩, hB⟩ hK
    simp only [MB.v]
    gi_wp2
    exact hK _ _ ((KeepsOthers.alloc _ _).from _) ((Below.refl _ W).alloc (by have := hB.size; omega) _) ⟨⟨v, h1.alloc _, h2.alloc _, trivial⟩, hB.alloc hB.size _⟩ ⟨W.heap.size, Box2.new W (f x), rfl⟩
  case body =>
    rintro l pre x a' W _ _ ⟨⟨v, h1, h2, _⟩, hB⟩ ⟨Bx, hx, rfl⟩ hlt
    obtain ⟨c0, c1⟩ := hx.cells
    have c2 := h1.cell
    gi_wp2_with (gi_at_builtin; refine wpListIn_append_own _ rfl _ _ 22 rfl w.heap.size tMember i0 (.agg #[.int .i64 0, .int .i64 0]) 2 16 Try.underlying22 hi hz0 hz1 hz2 rfl (by decide) _ _ _ rfl (h2.alloc _) ⟨W.heap.size, 0, none⟩ 1 1 [.int .i64 (f x).node, .int .i64 (f x).life] rfl rfl (fun j u hj => by
        have hb := World.alloc_heap_new W (.cells #[.int .i64 (f x).node, .int .i64 (f x).life] tMember)
        match j, hj with
        | 0, hj => cases hj; rw [Addr.add_lit]; exact box_cell hb 0 rfl
        | 1, hj => cases hj; rw [Addr.add_lit]; exact box_cell hb 1 rfl) (by simp [Value.oneCell']) (by have : maxLen = 9223372036854775807 := rfl; omega) (by omega) (by have := hB.size; simp; omega) ?_; intro v' w1 hown' hgrow _; obtain ⟨g', cap', rfl⟩ := ownsRow_succ hown'; obtain ⟨hv1, hv2, hr2, hk2, hb2⟩ := h1.appended (by decide) h2 hB.size (Nat.le_refl _) hown' hgrow; have hc1 := hv1.cell; have hf1 := hv1.frozen)
    exact ⟨hk2.from _, hb2.mono hn0, ⟨_, hv2, by rw [List.length_append, List.map_append, mbCells_append]; exact hr2, trivial⟩, hB.trans hb2⟩
  case done =>
    rintro D ys W hD hS ⟨⟨v, h1, h2, _⟩, hB⟩ hK
    have hc := h1.cell
    obtain ⟨ao, cp, rfl⟩ := row_slice h2
    gi_wp2
    refine ⟨by simp, .inl ⟨_, _, rfl, run_takeDeferred hK, ?_⟩⟩
    exact ⟨_, results_tmp rfl _ _ _, ys, ao, cp, hS, rfl, ownsRow_putObj h2 _ hK rfl, below_put hB (by omega) hK⟩
  case stop =>
    rintro D c pre W hD hpre h hK
    exact h.elim
set_option maxHeartbeats 4000000 in
theorem pcollect {α : Type} (f : α → MB) (S Sp : List α → Prop) (N n₀ g : Nat) (hN : N ≤ 1000000) (lb : Array Value) (eg : ∀ args w, (callFunc g args).run Try.prog w = .ok (.enter g args) w) (w : World) (hn0 : n₀ ≤ w.heap.size)
    (hseq : ∀ n, SeqStopsK Fence.wide n Try.prog g lb (fun x : α => #[(f x).v]) (Below n₀) S Sp N w) :
    Calls Try.prog 26 #[.func (.func g) #[] lb] w fun e w' => ∃ xs ao cp, S xs ∧ e = .returned (.slice ao xs.length cp) ∧ w'.ownsRow w.heap.size tMember 2 (.slice ao xs.length cp) xs.length (mbCells (xs.map f)) ∧ Below w.heap.size w w' := by
  have HA := hide (pappend f S Sp N n₀ g hN lb eg w hn0 hseq)
  clear hseq
  go_enter Try.func26, Try.ntmps26
  go_wp2_with (go_at_call 43; refine HA.out.mono ?_; rintro e w2 ⟨xs, ao, cp, hS, rfl, h1, h2⟩)
  go_ret
  exact ⟨xs, ao, cp, hS, rfl, h1, h2⟩
end Go.Proofs.Ytjnbfopipmglgaa
/-
  The program's eachNext (mkpw.py)
-/
namespace Go.Proofs.Ytjnbfopipmglgaa
open Go.RowKit Go.Shelf

attribute [local go_sem] Oper.semAt_some
set_option linter.unusedSimpArgs false
set_option linter.unusedVariables false

set_option maxRecDepth 100000 in
theorem index_lives (Y : List MB) (k : Nat) (hk : k < 7) (W : World) : Sem.run Try.prog (Instr.index tLives (.agg (livesA Y)) (.int .i64 (k : Int))) W = .ok (.int .i64 (lifeOf Y k)) W := by
  match k, hk with
  | 0, _ => rfl
  | 1, _ => rfl
  | 2, _ => rfl
  | 3, _ => rfl
  | 4, _ => rfl
  | 5, _ => rfl
  | 6, _ => rfl
set_option maxRecDepth 100000 in
set_option maxHeartbeats 8000000 in
/-- eachNext's function: the members of the next view, one by one. -/
theorem enext1_in (A : List RM) (Y : List MB) (hYA : A.map (·.val) = Y) (Q : List Int) (n l Ba Bw n₀ ca cw : Nat) (aa aw : Option Addr) (hlA : A.length ≤ 4611686018427387903) (hlQ : Q.length ≤ 4611686018427387903) (J Jx : List MB → World → Prop)
    (hY : ∀ pre x W, J pre W → pre.length < 7 → YieldAt Fence.wide (n - 1) Try.prog l #[x.v] W fun e W' =>
      (e = .returned (.bool true) ∧ J (pre ++ [x]) W' ∧ Below n₀ W W') ∨ (e = .returned (.bool false) ∧ Jx (pre ++ [x]) W'))
    (W : World) (hJ : ∀ pre W W', J pre W → Below W.heap.size W W' → J pre W') (hn0 : n₀ ≤ W.heap.size) (hBa : W.cell? ⟨Ba, 0, none⟩ = some (.slice aa A.length ca)) (hBw : ∀ W', Below n₀ W W' → W'.cell? ⟨Bw, 0, none⟩ = some (.slice aw Q.length cw))
    (hA : MemsAt W aa Y) (hQ : ∀ W', Below n₀ W W' → IntsAt W' aw Q) (h0 : J [] W) :
    CallsIn Fence.wide n Try.prog 44 #[.func (.yield l) #[] #[], .pointer (some ⟨Ba, 0, none⟩), .pointer (some ⟨Bw, 0, none⟩)] W fun e W' => (∃ v, e = .returned v) ∧
      ((∃ ys, ys = nextUpto Y Q 7 ∧ J ys W') ∨ (∃ pre, True ∧ Jx pre W')) := by
  have HL := hide (plives A aa ca W (by rw [hYA]; exact hA) hlA)
  rw [hYA] at HL
  clear hYA hA
  refine callsIn_of_wp Try.func44 rfl trivial ?_ rfl
  simp only [Try.ntmps44, List.size_toArray, List.length_cons, List.length_nil, Nat.reduceAdd, Nat.reduceSub, Array.replicate_succ, Array.replicate_zero, List.push_toArray, List.append_toArray, List.nil_append, List.cons_append]
  gi_wp2_with (refine ⟨trivial, fun h => (by cases h), ?_⟩; gi_at_call 45; refine (callsIn_wide.2 HL.out).mono ?_; rintro e w2 ⟨rfl, hb2⟩)
  gi_loopw [8] (fun i wr => ∃ k : Nat, k ≤ 7 ∧ i = .int .i64 k ∧ J (nextUpto Y Q k) wr ∧ Below n₀ W wr)
    (fun i _ => 7 - (intOf i).toNat)
  case atStart => exact ⟨0, Nat.zero_le _, rfl, hJ _ _ _ h0 hb2, hb2.mono hn0⟩
  case round =>
    obtain ⟨k, hk, rfl, hJs, hnx⟩ := hrel
    by_cases hlt : k < 7
    · have k1 : (k : Int) < 7 := by omega
      have k0 : (0 : Int) ≤ (k : Int) := by omega
      have hg := index_lives Y k hlt
      have NO : Hid (nextUpto Y Q (k + 1) = nextUpto Y Q k ++ nextOne Y Q k) := nextUpto_succ Y Q k
      have hpos : 0 ≤ lifeOf Y k := (lifeOf_acc Y k 0 (Int.le_refl _)).2.1
      have hlen : (nextUpto Y Q k).length < 7 := Nat.lt_of_le_of_lt (next_len Y Q k) hlt
      have HC := hide (pcontains Q (k : Int) aw cw wr (hQ _ hnx) hlQ)
      have hbw := hBw _ hnx
      have N1 : Hid (nextOne Y Q k = if (k : Int) ∈ Q ∧ 0 < lifeOf Y k then [⟨k, lifeOf Y k⟩] else []) := rfl
      generalize lifeOf Y k = lf at *
      by_cases hlf : lf = 0
      · subst hlf
        have N2 : Hid (nextUpto Y Q (k + 1) = nextUpto Y Q k) := by
          show _ = _
          rw [NO.out, N1.out, if_neg (fun h => absurd h.2 (by omega)), List.append_nil]
        clear NO N1
        gi_wp2_with (refine ⟨trivial, ?_⟩)
        go_roundw
        case rel => exact ⟨k + 1, by omega, by simp, by rw [N2.out]; exact hJs, hnx⟩
        case measure => simp [intOf]; omega
      · by_cases hq : (k : Int) ∈ Q
        · rw [decide_eq_true hq] at HC
          have N2 : Hid (nextUpto Y Q (k + 1) = nextUpto Y Q k ++ [⟨k, lf⟩]) := by
            show _ = _
            rw [NO.out, N1.out, if_pos ⟨hq, by omega⟩]
          clear NO N1 hq
          obtain ⟨fn, tmps, assign, body, hy, hR⟩ := hY _ ⟨k, lf⟩ wr hJs hlen
          simp only [MB.v] at hy
          gi_wp2_with (refine ⟨trivial, fun h => (by cases h), ?_⟩; gi_at_call 46; refine (callsIn_wide.2 HC.out).mono ?_; rintro e w3 ⟨rfl, rfl⟩)
          refine ⟨fun h => (by cases h), hR.mono ?_⟩
          rintro e W3 (⟨rfl, hJ3, hk3⟩ | ⟨rfl, hJx3⟩)
          · gi_wp2
            go_roundw
            case rel => exact ⟨k + 1, by omega, by simp, by rw [N2.out]; exact hJ3, hnx.trans hk3⟩
            case measure => simp [intOf]; omega
          · gi_wp2
            refine bodyPost_ret (results_none rfl _ _ _) rfl ?_
            exact ⟨⟨_, rfl⟩, .inr ⟨_, trivial, hJx3⟩⟩
        · rw [decide_eq_false hq] at HC
          have N2 : Hid (nextUpto Y Q (k + 1) = nextUpto Y Q k) := by
            show _ = _
            rw [NO.out, N1.out, if_neg (fun h => absurd h.1 hq), List.append_nil]
          clear NO N1 hq
          gi_wp2_with (refine ⟨trivial, fun h => (by cases h), ?_⟩; gi_at_call 46; refine (callsIn_wide.2 HC.out).mono ?_; rintro e w3 ⟨rfl, rfl⟩)
          go_roundw
          case rel => exact ⟨k + 1, by omega, by simp, by rw [N2.out]; exact hJs, hnx⟩
          case measure => simp [intOf]; omega
    · obtain rfl : k = 7 := by omega
      gi_wp2
      go_end0
      exact ⟨⟨_, rfl⟩, .inl ⟨_, rfl, hJs⟩⟩
set_option maxHeartbeats 4000000 in
theorem enext_in (aa aw : Option Addr) (na nw ca cw : Nat) (w : World) :
    Calls Try.prog 27 #[.slice aa na ca, .slice aw nw cw] w fun e w' => e = .returned (.func (.func 44) #[] #[.pointer (some ⟨w.heap.size, 0, none⟩), .pointer (some ⟨w.heap.size + 1, 0, none⟩)]) ∧ w' = (w.alloc (.cells #[.slice aa na ca] 22)).alloc (.cells #[.slice aw nw cw] 41) := by
  go_enter Try.func27, Try.ntmps27
  go_wp2
  go_ret
  exact ⟨rfl, rfl⟩
theorem enext_stops (A : List RM) (Y : List MB) (hYA : A.map (·.val) = Y) (Q : List Int) (n Ba Bw ca cw : Nat) (aa aw : Option Addr) (hlA : A.length ≤ 4611686018427387903) (hlQ : Q.length ≤ 4611686018427387903) (w : World) (hBa : Ba < w.heap.size) (hBw : Bw < w.heap.size)
    (ha : w.cell? ⟨Ba, 0, none⟩ = some (.slice aa A.length ca)) (hw : w.cell? ⟨Bw, 0, none⟩ = some (.slice aw Q.length cw)) (hA : MemsAt w aa Y) (hQ : IntsAt w aw Q) :
    SeqStopsK Fence.wide n Try.prog 44 #[.pointer (some ⟨Ba, 0, none⟩), .pointer (some ⟨Bw, 0, none⟩)] (fun x : MB => #[(id x : MB).v]) (Below w.heap.size) (fun ys => ys = nextUpto Y Q 7) (fun _ => True) 7 w := fun l J Jx W hW hJ _ hY h0 => by
  refine enext1_in A Y hYA Q n l Ba Bw w.heap.size ca cw aa aw hlA hlQ J Jx hY W ?_ hW.size ((hW.cell (p := ⟨Ba, 0, none⟩) hBa).trans ha) (fun X hX => ((hW.trans hX).cell (p := ⟨Bw, 0, none⟩) hBw).trans hw) (hA.below hW) (fun X hX => hQ.below (hW.trans hX)) h0
  exact fun pre X X' h hb => hJ pre X X' none h ⟨hb.os, hb.tape, hb.output, hb.size, fun k hk _ => hb.block k hk⟩ (fun r e => by cases e)
end Go.Proofs.Ytjnbfopipmglgaa
