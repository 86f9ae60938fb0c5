/-
  The program's Has.
-/
import Derived.Test.YtjnbfopipmglgaaZPW1
import Derived.Test.YtjnbfopipmglgaaZVL
namespace Go.Proofs.Ytjnbfopipmglgaa
open Go.RowKit Go.Shelf

attribute [local go_sem] Oper.semAt_some
set_option linter.unusedSimpArgs false
set_option linter.unusedVariables false

set_option maxRecDepth 100000 in
set_option maxHeartbeats 4000000 in
theorem phas : HasSays := by
  intro x m ao cp w hM hl
  obtain ⟨num, L⟩ := x
  obtain ⟨mn, ml⟩ := m
  simp only [VW.v, MB.v] at *
  refine (callsIn_wide (n := 9)).1 ?_
  refine callsIn_of_wp_marks Try.func16 rfl trivial ?_ rfl
  simp only [Try.ntmps16, List.size_toArray, List.length_cons, List.length_nil, Nat.reduceAdd, Nat.reduceSub, Array.replicate_succ, Array.replicate_zero, List.push_toArray, List.append_toArray, List.nil_append, List.cons_append]
  gi_wp2_with (refine ⟨trivial, ?_⟩; gi_at_call 28; refine (each_in _ _ _ _ _).mono ?_; rintro e w' ⟨rfl, rfl⟩)
  obtain ⟨w1, e1⟩ : ∃ w1, w.alloc (.cells #[.int .i64 num, .slice ao L.length cp] tView) = w1 := ⟨_, rfl⟩
  obtain ⟨w2, e2⟩ : ∃ w2, w1.alloc (.cells #[.int .i64 mn, .int .i64 ml] tMember) = w2 := ⟨_, rfl⟩
  obtain ⟨w3, e3⟩ : ∃ w3, w2.alloc (.cells #[.bool false] 4) = w3 := ⟨_, rfl⟩
  obtain ⟨w4, e4⟩ : ∃ w4, w3.alloc (.cells #[.slice ao L.length cp] 22) = w4 := ⟨_, rfl⟩
  have s1 : w1.heap.size = w.heap.size + 1 := by rw [← e1]; simp
  have s2 : w2.heap.size = w.heap.size + 2 := by rw [← e2]; simp [s1]
  have s3 : w3.heap.size = w.heap.size + 3 := by rw [← e3]; simp [s2]
  have s4 : w4.heap.size = w.heap.size + 4 := by rw [← e4]; simp [s3]
  have b1 : Below w.heap.size w w4 := by
    rw [← e4, ← e3, ← e2, ← e1]
    exact ((((Below.refl _ w).alloc (Nat.le_refl _) _).alloc (by simp) _).alloc (by simp; omega) _).alloc (by simp; omega) _
  have X1 : w4.heap[w.heap.size + 1]? = some (.cells #[.int .i64 mn, .int .i64 ml] tMember (0, 0)) := by rw [← e4, ← e3]; refine heap_up (heap_up ?_); rw [← e2, ← s1]; exact World.alloc_heap_new _ _
  have X2 : w4.heap[w.heap.size + 1 + 1]? = some (.cells #[.bool false] 4 (0, 0)) := by rw [← e4]; refine heap_up ?_; rw [← e3, show w.heap.size + 1 + 1 = w2.heap.size by omega]; exact World.alloc_heap_new _ _
  have X3 : w4.heap[w.heap.size + 1 + 1 + 1]? = some (.cells #[.slice ao L.length cp] 22 (0, 0)) := by rw [← e4, show w.heap.size + 1 + 1 + 1 = w3.heap.size by omega]; exact World.alloc_heap_new _ _
  rw [e1, e2, e3, e4]
  clear e1 e2 e3 e4 s1 s2 s3 w1 w2 w3
  refine wpIn_rangeFunc_ownH rfl (by omega) (gf := 47) (lb := #[.pointer (some ⟨w.heap.size + 1 + 1 + 1, 0, none⟩)]) rfl trivial (enters_of Try.func47 (by kernel_rfl) rfl)
    (each_stops (id : MB → MB) _ (w.heap.size + 1 + 1 + 1) cp ao L hl w w4 (by omega) b1 (box1_cell X3) (by rw [List.map_id]; exact hM)) belowK_t (belowK_b (by omega)) (Below.refl _ _) (fun _ => rfl)
    (fun pre W => ((∀ y ∈ pre, y ≠ ⟨mn, ml⟩) ∧ Box2 W (w.heap.size + 1) ⟨mn, ml⟩ ∧ W.heap[w.heap.size + 1 + 1]? = some (.cells #[.bool false] 4 (0, 0))) ∧ Below w.heap.size w W)
    (fun c pre W => (c = .ret ∧ (⟨mn, ml⟩ : MB) ∈ pre ∧ W.heap[w.heap.size + 1 + 1]? = some (.cells #[.bool true] 4 (0, 0))) ∧ Below w.heap.size w W)
    (OwnFrom.and (Own.from (Own.and (own_pure _) (Own.and (Box2.own _ _) (box_own _ _ fun _ => rfl))) _) (ownFrom_below (Nat.le_refl _) (by omega)))
    (fun c => OwnFrom.and (Own.from (Own.and (own_pure _) (Own.and (own_pure _) (box_own _ _ fun _ => rfl))) _) (ownFrom_below (Nat.le_refl _) (by omega)))
    ⟨⟨fun y h => absurd h List.not_mem_nil, X1, X2⟩, b1⟩
    (fun x a' W => ∃ Bx, Box2 W Bx x ∧ a' = { tmps := #[.agg #[.int .i64 num, .slice ao L.length cp], .agg #[.int .i64 mn, .int .i64 ml], .pointer (some ⟨w.heap.size, 0, none⟩), .pointer (some ⟨w.heap.size + 1, 0, none⟩), .pointer (some ⟨w.heap.size + 1 + 1, 0, none⟩), .pointer (some ⟨Bx, 0, none⟩), .pointer (some ⟨w.heap.size, 1, none⟩), .slice ao L.length cp, .func (.func 47) #[] #[.pointer (some ⟨w.heap.size + 1 + 1 + 1, 0, none⟩)], x.v, undef, undef, undef], defers := [] })
    (fun x a' s X Y row hs hg hr => by obtain ⟨Bx, h1, h2⟩ := hs; exact ⟨Bx, Own.from (Box2.own (β := Unit) Bx fun _ => x) _ () X Y row h1 hg hr, h2⟩) ?assign ?body ?done ?stop
  case assign =>
    rintro l pre x W K ⟨⟨h1, h2, h3⟩, hB⟩ hK
    simp only [id, MB.v]
    gi_wp2
    exact hK _ _ ((KeepsOthers.alloc _ _).from _) ((Below.refl _ W).alloc hB.size _) ⟨⟨h1, heap_up h2, heap_up h3⟩, hB.alloc hB.size _⟩ ⟨W.heap.size, Box2.new W x, rfl⟩
  case body =>
    rintro l pre x a' W _ _ ⟨⟨h1, h2, h3⟩, hB⟩ ⟨Bx, hx, rfl⟩ hlt
    obtain ⟨c0, c1⟩ := hx.cells
    obtain ⟨d0, d1⟩ := h2.cells
    have f3 := box1_frozen h3
    have c3 := box1_cell h3
    by_cases hxm : x = ⟨mn, ml⟩
    · subst hxm
      simp only at c0 c1 d0 d1
      gi_wp2
      exact ⟨(KeepsOthers.setCell _ _ _).from _, ⟨rfl, List.mem_append.2 (.inr (List.mem_singleton.2 rfl)), box1_set _ h3⟩, hB.setCell (p := ⟨w.heap.size + 1 + 1, 0, none⟩) (by show _ ≤ w.heap.size + 1 + 1; omega) _⟩
    · gi_wp2
      all_goals first
        | (rename_i e1 e2; exact absurd (show x = ⟨mn, ml⟩ by obtain ⟨p, q⟩ := x; simp only at e1 e2; rw [e1, e2]) hxm)
        | exact ⟨KeepsFrom.refl _ _, Below.refl _ _, ⟨fun y hy => (List.mem_append.1 hy).elim (h1 y) (fun e => by rw [List.mem_singleton.1 e]; exact hxm), h2, h3⟩, hB⟩
  case done =>
    rintro D ys W hD rfl ⟨⟨h1, h2, h3⟩, hB⟩ hK
    have f3 := box1_frozen h3
    have c3 := box1_cell h3
    gi_wp2
    have hK' : (W.setCell ⟨w.heap.size + 1 + 1, 0, none⟩ (.bool false)).heap[D]? = some (.deferred (some [])) := heap_set_ne _ hK (by omega)
    refine ⟨by simp, .inl ⟨_, _, rfl, run_takeDeferred hK', ?_⟩⟩
    have hc5 := box1_cell (put_keeps (o2 := .deferred none) hK' (box1_set (.bool false) h3) rfl)
    refine ⟨.bool false, ?_, by rw [decide_eq_false (fun h => h1 _ h rfl)], below_put (hB.setCell (p := ⟨w.heap.size + 1 + 1, 0, none⟩) (by show _ ≤ w.heap.size + 1 + 1; omega) _) (by omega) hK'⟩
    simp [results, Try.f16, go_sem, hc5]
  case stop =>
    rintro D c pre W hD hpre ⟨⟨rfl, h1, h2⟩, hB⟩ hK
    gi_wp2
    refine ⟨by simp, .inl ⟨_, _, rfl, run_takeDeferred hK, ?_⟩⟩
    have hc5 := box1_cell (put_keeps (o2 := .deferred none) hK h2 rfl)
    refine ⟨.bool true, ?_, by rw [decide_eq_true (hpre.subset h1)], below_put hB (by omega) hK⟩
    simp [results, Try.f16, go_sem, hc5]
end Go.Proofs.Ytjnbfopipmglgaa
/-
  The program's RightMember, Majority, Common, allRight (mkpw.py)
-/
namespace Go.Proofs.Ytjnbfopipmglgaa
open Go.RowKit Go.Shelf

attribute [local go_sem] Oper.semAt_some
set_option linter.unusedSimpArgs false
set_option linter.unusedVariables false

set_option maxHeartbeats 4000000 in
theorem pmember_any (m : MB) (w : World) : Calls Try.prog 29 #[m.v] w fun e w' => e = .returned (.bool (decide m.right)) ∧ Below w.heap.size w w' := by
  obtain ⟨n, l⟩ := m
  simp only [MB.v]
  have B0 := hide ((Below.refl w.heap.size w).alloc (Nat.le_refl _) (.cells #[.int .i64 n, .int .i64 l] tMember))
  by_cases h : (MB.mk n l).right
  · rw [decide_eq_true h]
    obtain ⟨h1, h2, h3, h4⟩ := h
    simp only at h1 h2 h3 h4
    go_enter Try.func29, Try.ntmps29
    go_wp2
    go_ret
    exact ⟨rfl, B0.out⟩
  · rw [decide_eq_false h]
    by_cases h1 : 0 ≤ n
    · by_cases h2 : n < 7
      · by_cases h3 : 1 ≤ l
        · have h4 : ¬ l ≤ 9007199254740991 := fun e => h ⟨h1, h2, h3, e⟩
          clear h
          go_enter Try.func29, Try.ntmps29
          go_wp2
          go_ret
          exact ⟨rfl, B0.out⟩
        · clear h
          go_enter Try.func29, Try.ntmps29
          go_wp2
          go_ret
          exact ⟨rfl, B0.out⟩
      · clear h
        go_enter Try.func29, Try.ntmps29
        go_wp2
        go_ret
        exact ⟨rfl, B0.out⟩
    · clear h
      go_enter Try.func29, Try.ntmps29
      go_wp2
      go_ret
      exact ⟨rfl, B0.out⟩
set_option maxHeartbeats 4000000 in
theorem pmajority_any (v : VW) (ao : Option Addr) (cp : Nat) (w : World) (hl : v.mem.length ≤ 4611686018427387904) : Calls Try.prog 14 #[v.v ao cp] w fun e w' => e = .returned (.int .i64 (v.maj : Nat)) ∧ Below w.heap.size w w' := by
  unfold VW.maj
  simp only [VW.v]
  generalize v.mem.length = n at *
  generalize v.num = k
  have B0 := hide ((Below.refl w.heap.size w).alloc (Nat.le_refl _) (.cells #[.int .i64 k, .slice ao n cp] tView))
  have hq : ((n / 2 + 1 : Nat) : Int) = (n : Int) / 2 + 1 := by omega
  have ht : (n : Int).tdiv 2 = (n : Int) / 2 := Int.tdiv_eq_ediv_of_nonneg (by omega)
  go_enter Try.func14, Try.ntmps14
  go_wp2
  go_ret
  exact ⟨by rw [hq]; simp [ht], B0.out⟩
theorem pmember : MemberSays := pmember_any
theorem pmajority : MajSays := fun x ao cp w h => pmajority_any x ao cp w (by omega)
/-- A call that changes nothing that lay. -/
theorem keeps_of_below {B : Nat} {W W' : World} (h : Below W.heap.size W W') : KeepsFrom B W W' := ⟨h.size, fun k o _ hk _ => (h.block k (heap_lt hk)).trans hk⟩
theorem comm_snoc (pre M : List MB) (x : MB) : comm (pre ++ [x]) M = comm pre M + if x ∈ M then 1 else 0 := by
  unfold comm
  rw [List.filter_append, List.length_append]
  by_cases h : x ∈ M <;> simp [h]
set_option maxRecDepth 100000 in
set_option maxHeartbeats 4000000 in
theorem pcommon : CommonSays := by
  intro x y ao bo cp cq w hM hN hl hl2
  obtain ⟨num, L⟩ := x
  obtain ⟨num2, M⟩ := y
  have HH := hide (fun (m : MB) (W : World) (h : MemsAt W bo M) => phas ⟨num2, M⟩ m bo cq W h hl2)
  simp only [VW.v] at *
  refine (callsIn_wide (n := 9)).1 ?_
  refine callsIn_of_wp_marks Try.func15 rfl trivial ?_ rfl
  simp only [Try.ntmps15, List.size_toArray, List.length_cons, List.length_nil, Nat.reduceAdd, Nat.reduceSub, Array.replicate_succ, Array.replicate_zero, List.push_toArray, List.append_toArray, List.nil_append, List.cons_append]
  gi_wp2_with (refine ⟨trivial, ?_⟩; gi_at_call 28; refine (each_in _ _ _ _ _).mono ?_; rintro e w' ⟨rfl, rfl⟩)
  obtain ⟨w1, e1⟩ : ∃ wn : World, w.alloc (.cells #[.int .i64 num, .slice ao L.length cp] tView) = wn := ⟨_, rfl⟩
  obtain ⟨w2, e2⟩ : ∃ wn : World, w1.alloc (.cells #[.int .i64 num2, .slice bo M.length cq] tView) = wn := ⟨_, rfl⟩
  obtain ⟨w3, e3⟩ : ∃ wn : World, w2.alloc (.cells #[.int .i64 0] 3) = wn := ⟨_, rfl⟩
  obtain ⟨wz, e4⟩ : ∃ wn : World, w3.alloc (.cells #[.slice ao L.length cp] 22) = wn := ⟨_, rfl⟩
  have s1 : w1.heap.size = w.heap.size + 1 := by rw [← e1]; simp
  have s2 : w2.heap.size = w.heap.size + 2 := by rw [← e2]; simp [s1]
  have s3 : w3.heap.size = w.heap.size + 3 := by rw [← e3]; simp [s2]
  have s4 : wz.heap.size = w.heap.size + 4 := by rw [← e4]; simp [s3]
  have b1 : Below w.heap.size w wz := by
    rw [← e4, ← e3, ← e2, ← e1]
    exact ((((Below.refl _ w).alloc (Nat.le_refl _) _).alloc (by simp) _).alloc (by simp; omega) _).alloc (by simp; omega) _
  have X0 : wz.heap[w.heap.size]? = some (.cells #[.int .i64 num, .slice ao L.length cp] tView (0, 0)) := by rw [← e4, ← e3, ← e2]; refine heap_up (heap_up (heap_up ?_)); rw [← e1, show w.heap.size = w.heap.size by omega]; exact World.alloc_heap_new _ _
  have X1 : wz.heap[w.heap.size + 1]? = some (.cells #[.int .i64 num2, .slice bo M.length cq] tView (0, 0)) := by rw [← e4, ← e3]; refine heap_up (heap_up ?_); rw [← e2, show w.heap.size + 1 = w1.heap.size by omega]; exact World.alloc_heap_new _ _
  have X2 : wz.heap[w.heap.size + 1 + 1]? = some (.cells #[.int .i64 0] 3 (0, 0)) := by rw [← e4]; refine heap_up ?_; rw [← e3, show w.heap.size + 1 + 1 = w2.heap.size by omega]; exact World.alloc_heap_new _ _
  have X3 : wz.heap[w.heap.size + 1 + 1 + 1]? = some (.cells #[.slice ao L.length cp] 22 (0, 0)) := by rw [← e4, show w.heap.size + 1 + 1 + 1 = w3.heap.size by omega]; exact World.alloc_heap_new _ _
  rw [e1, e2, e3, e4]
  clear e1 e2 e3 e4 s1 s2 s3 w1 w2 w3
  refine wpIn_rangeFunc_ownH rfl (by omega) (gf := 47) (lb := #[.pointer (some ⟨w.heap.size + 1 + 1 + 1, 0, none⟩)]) rfl trivial (enters_of Try.func47 (by kernel_rfl) rfl)
    (each_stops (id : MB → MB) _ (w.heap.size + 1 + 1 + 1) cp ao L hl w wz (by omega) b1 (box1_cell X3) (by rw [List.map_id]; exact hM)) belowK_t (belowK_b (by omega)) (Below.refl _ _) (fun _ => rfl)
    (fun pre W => (W.heap[w.heap.size + 1]? = some (.cells #[.int .i64 num2, .slice bo M.length cq] tView (0, 0)) ∧ W.heap[w.heap.size + 1 + 1]? = some (.cells #[.int .i64 (comm pre M : Nat)] 3 (0, 0))) ∧ Below w.heap.size w W)
    (fun c pre W => False)
    (OwnFrom.and (Own.from (Own.and (box_own _ _ fun _ => rfl) (box_own _ (fun pre => .cells #[.int .i64 (comm pre M : Nat)] 3 (0, 0)) fun _ => rfl)) _) (ownFrom_below (Nat.le_refl _) (by omega)))
    (fun _ _ _ _ _ hs _ _ => hs)
    ⟨⟨X1, X2⟩, b1⟩
    (fun x a' W => ∃ Bx, Box2 W Bx x ∧ a' = { tmps := #[.agg #[.int .i64 num, .slice ao L.length cp], .agg #[.int .i64 num2, .slice bo M.length cq], .pointer (some ⟨w.heap.size, 0, none⟩), .pointer (some ⟨w.heap.size + 1, 0, none⟩), .int .i64 0, .pointer (some ⟨w.heap.size + 1 + 1, 0, none⟩), .pointer (some ⟨Bx, 0, none⟩), .pointer (some ⟨w.heap.size, 1, none⟩), .slice ao L.length cp, .func (.func 47) #[] #[.pointer (some ⟨w.heap.size + 1 + 1 + 1, 0, none⟩)], x.v, undef, undef, undef, undef, undef, undef], defers := [] })
    (fun x a' s X Y row hs hg hr => by obtain ⟨Bx, h1, h2⟩ := hs; exact ⟨Bx, Own.from (Box2.own (β := Unit) Bx fun _ => x) _ () X Y row h1 hg hr, h2⟩) ?assign ?body ?done ?stop
  case assign =>
    rintro l pre x W K ⟨⟨h1, h2⟩, hB⟩ hK
    simp only [id, MB.v]
    gi_wp2
    exact hK _ _ ((KeepsOthers.alloc _ _).from _) ((Below.refl _ W).alloc hB.size _) ⟨⟨heap_up h1, heap_up h2⟩, hB.alloc hB.size _⟩ ⟨W.heap.size, Box2.new W x, rfl⟩
  case body =>
    rintro l pre x a' W _ _ ⟨⟨h1, h2⟩, hB⟩ ⟨Bx, hx, rfl⟩ hlt
    obtain ⟨c0, c1⟩ := hx.cells
    have d0 := box_cell h1 0 rfl
    have d1 := box_cell h1 1 rfl
    have HZ := hide (HH.out x W (hN.below hB))
    have CS := hide (comm_snoc pre M x)
    have hle : comm pre M ≤ pre.length := comm_le pre M
    simp only [MB.v] at HZ
    obtain ⟨r, hr⟩ : ∃ r, decide (x ∈ M) = r := ⟨_, rfl⟩
    rw [hr] at HZ
    generalize hq : comm pre M = q at *
    have hq0 : (q : Int) + 1 < 9223372036854775807 := by omega
    cases r
    · gi_wp2_with (refine ⟨trivial, ?_⟩; gi_at_call 16; refine (CallsIn.inRound l (callsIn_wide.2 HZ.out)).mono ?_; rintro e w2 ⟨rfl, hb2⟩)
      have e1 : comm (pre ++ [x]) M = q := by rw [CS.out, if_neg (of_decide_eq_false hr)]; omega
      exact ⟨keeps_of_below hb2, hb2.mono hB.size, ⟨(hb2.block _ (heap_lt h1)).trans h1, by rw [e1]; exact (hb2.block _ (heap_lt h2)).trans h2⟩, hB.trans (hb2.mono hB.size)⟩
    · gi_wp2_with (refine ⟨trivial, ?_⟩; gi_at_call 16; refine (CallsIn.inRound l (callsIn_wide.2 HZ.out)).mono ?_; rintro e w2 ⟨rfl, hb2⟩; have h22 := (hb2.block _ (heap_lt h2)).trans h2; have c2 := box1_cell h22; have f2 := box1_frozen h22)
      have e1 : comm (pre ++ [x]) M = q + 1 := by rw [CS.out, if_pos (of_decide_eq_true hr)]
      refine ⟨(keeps_of_below hb2).trans ((KeepsOthers.setCell _ _ _).from _), (hb2.mono hB.size).setCell (p := ⟨w.heap.size + 1 + 1, 0, none⟩) (by show _ ≤ w.heap.size + 1 + 1; omega) _, ⟨heap_set_ne _ ((hb2.block _ (heap_lt h1)).trans h1) (by omega), ?_⟩, (hB.trans (hb2.mono hB.size)).setCell (p := ⟨w.heap.size + 1 + 1, 0, none⟩) (by show _ ≤ w.heap.size + 1 + 1; omega) _⟩
      rw [e1]
      simpa using box1_set (.int .i64 ((q : Int) + 1)) h22
  case done =>
    rintro D ys W hD rfl ⟨⟨h1, h2⟩, hB⟩ hK
    have c3 := box1_cell h2
    gi_wp2
    refine ⟨by simp, .inl ⟨_, _, rfl, run_takeDeferred hK, ?_⟩⟩
    exact ⟨_, results_tmp rfl _ _ _, rfl, below_put hB (by omega) hK⟩
  case stop =>
    rintro D c pre W hD hpre h hK
    exact h.elim
set_option maxRecDepth 100000 in
set_option maxHeartbeats 4000000 in
theorem pallright (L : List MB) (ao : Option Addr) (cp : Nat) (w : World) (hM : MemsAt w ao L) (hl : L.length ≤ 4611686018427387903) : Calls Try.prog 25 #[.slice ao L.length cp] w fun e w' => e = .returned (.bool (decide (∀ m ∈ L, m.right))) ∧ Below w.heap.size w w' := by
  refine (callsIn_wide (n := 9)).1 ?_
  refine callsIn_of_wp_marks Try.func25 rfl trivial ?_ rfl
  simp only [Try.ntmps25, List.size_toArray, List.length_cons, List.length_nil, Nat.reduceAdd, Nat.reduceSub, Array.replicate_succ, Array.replicate_zero, List.push_toArray, List.append_toArray, List.nil_append, List.cons_append]
  gi_wp2_with (refine ⟨trivial, ?_⟩; gi_at_call 28; refine (each_in _ _ _ _ _).mono ?_; rintro e w' ⟨rfl, rfl⟩)
  obtain ⟨w1, e1⟩ : ∃ wn : World, w.alloc (.cells #[.bool false] 4) = wn := ⟨_, rfl⟩
  obtain ⟨wz, e2⟩ : ∃ wn : World, w1.alloc (.cells #[.slice ao L.length cp] 22) = wn := ⟨_, rfl⟩
  have s1 : w1.heap.size = w.heap.size + 1 := by rw [← e1]; simp
  have s2 : wz.heap.size = w.heap.size + 2 := by rw [← e2]; simp [s1]
  have b1 : Below w.heap.size w wz := by
    rw [← e2, ← e1]
    exact ((Below.refl _ w).alloc (Nat.le_refl _) _).alloc (by simp) _
  have X0 : wz.heap[w.heap.size]? = some (.cells #[.bool false] 4 (0, 0)) := by rw [← e2]; refine heap_up ?_; rw [← e1, show w.heap.size = w.heap.size by omega]; exact World.alloc_heap_new _ _
  have X1 : wz.heap[w.heap.size + 1]? = some (.cells #[.slice ao L.length cp] 22 (0, 0)) := by rw [← e2, show w.heap.size + 1 = w1.heap.size by omega]; exact World.alloc_heap_new _ _
  rw [e1, e2]
  clear e1 e2 s1 w1
  refine wpIn_rangeFunc_ownH rfl (by omega) (gf := 47) (lb := #[.pointer (some ⟨w.heap.size + 1, 0, none⟩)]) rfl trivial (enters_of Try.func47 (by kernel_rfl) rfl)
    (each_stops (id : MB → MB) _ (w.heap.size + 1) cp ao L hl w wz (by omega) b1 (box1_cell X1) (by rw [List.map_id]; exact hM)) belowK_t (belowK_b (by omega)) (Below.refl _ _) (fun _ => rfl)
    (fun pre W => ((∀ y ∈ pre, y.right) ∧ W.heap[w.heap.size]? = some (.cells #[.bool false] 4 (0, 0))) ∧ Below w.heap.size w W)
    (fun c pre W => (c = .ret ∧ (∃ y ∈ pre, ¬ y.right) ∧ W.heap[w.heap.size]? = some (.cells #[.bool false] 4 (0, 0))) ∧ Below w.heap.size w W)
    (OwnFrom.and (Own.from (Own.and (own_pure _) (box_own _ _ fun _ => rfl)) _) (ownFrom_below (Nat.le_refl _) (by omega)))
    (fun c => OwnFrom.and (Own.from (Own.and (own_pure _) (Own.and (own_pure _) (box_own _ _ fun _ => rfl))) _) (ownFrom_below (Nat.le_refl _) (by omega)))
    ⟨⟨fun y h => absurd h List.not_mem_nil, X0⟩, b1⟩
    (fun x a' W => ∃ Bx, Box2 W Bx x ∧ a' = { tmps := #[.slice ao L.length cp, undef, .pointer (some ⟨w.heap.size, 0, none⟩), .pointer (some ⟨Bx, 0, none⟩), .slice ao L.length cp, .func (.func 47) #[] #[.pointer (some ⟨w.heap.size + 1, 0, none⟩)], x.v, undef, undef, undef], defers := [] })
    (fun x a' s X Y row hs hg hr => by obtain ⟨Bx, h1, h2⟩ := hs; exact ⟨Bx, Own.from (Box2.own (β := Unit) Bx fun _ => x) _ () X Y row h1 hg hr, h2⟩) ?assign ?body ?done ?stop
  case assign =>
    rintro l pre x W K ⟨⟨h1, h2⟩, hB⟩ hK
    simp only [id, MB.v]
    gi_wp2
    exact hK _ _ ((KeepsOthers.alloc _ _).from _) ((Below.refl _ W).alloc hB.size _) ⟨⟨h1, heap_up h2⟩, hB.alloc hB.size _⟩ ⟨W.heap.size, Box2.new W x, rfl⟩
  case body =>
    rintro l pre x a' W _ _ ⟨⟨h1, h2⟩, hB⟩ ⟨Bx, hx, rfl⟩ hlt
    obtain ⟨c0, c1⟩ := hx.cells
    have HZ := hide (pmember x W)
    simp only [MB.v] at HZ
    obtain ⟨r, hr⟩ : ∃ r, decide x.right = r := ⟨_, rfl⟩
    rw [hr] at HZ
    cases r
    · gi_wp2_with (refine ⟨trivial, ?_⟩; gi_at_call 29; refine (CallsIn.inRound l (callsIn_wide.2 HZ.out)).mono ?_; rintro e w2 ⟨rfl, hb2⟩; have h22 := (hb2.block _ (heap_lt h2)).trans h2; have c2 := box1_cell h22; have f2 := box1_frozen h22)
      exact ⟨(keeps_of_below hb2).trans ((KeepsOthers.setCell _ _ _).from _), ⟨rfl, ⟨x, List.mem_append.2 (.inr (List.mem_singleton.2 rfl)), of_decide_eq_false hr⟩, box1_set _ h22⟩, (hB.trans (hb2.mono hB.size)).setCell (p := ⟨w.heap.size, 0, none⟩) (Nat.le_refl _) _⟩
    · gi_wp2_with (refine ⟨trivial, ?_⟩; gi_at_call 29; refine (CallsIn.inRound l (callsIn_wide.2 HZ.out)).mono ?_; rintro e w2 ⟨rfl, hb2⟩)
      exact ⟨keeps_of_below hb2, hb2.mono hB.size, ⟨fun y hy => (List.mem_append.1 hy).elim (h1 y) (fun e => by rw [List.mem_singleton.1 e]; exact of_decide_eq_true hr), (hb2.block _ (heap_lt h2)).trans h2⟩, hB.trans (hb2.mono hB.size)⟩
  case done =>
    rintro D ys W hD rfl ⟨⟨h1, h2⟩, hB⟩ hK
    have f3 := box1_frozen h2
    have c3 := box1_cell h2
    gi_wp2
    have hK' : (W.setCell ⟨w.heap.size, 0, none⟩ (.bool true)).heap[D]? = some (.deferred (some [])) := heap_set_ne _ hK (by omega)
    refine ⟨by simp, .inl ⟨_, _, rfl, run_takeDeferred hK', ?_⟩⟩
    have hc5 := box1_cell (put_keeps (o2 := .deferred none) hK' (box1_set (.bool true) h2) rfl)
    refine ⟨.bool true, ?_, by rw [decide_eq_true h1], below_put (hB.setCell (p := ⟨w.heap.size, 0, none⟩) (Nat.le_refl _) _) (by omega) hK'⟩
    simp [results, Try.f25, go_sem, hc5]
  case stop =>
    rintro D c pre W hD hpre ⟨⟨rfl, ⟨y, hy, hyr⟩, h2⟩, hB⟩ hK
    gi_wp2
    refine ⟨by simp, .inl ⟨_, _, rfl, run_takeDeferred hK, ?_⟩⟩
    have hc5 := box1_cell (put_keeps (o2 := .deferred none) hK h2 rfl)
    refine ⟨.bool false, ?_, by rw [decide_eq_false (fun h => hyr (h y (hpre.subset hy)))], below_put hB (by omega) hK⟩
    simp [results, Try.f25, go_sem, hc5]
end Go.Proofs.Ytjnbfopipmglgaa
/-
  The program's Right (mkpw.py)
-/
namespace Go.Proofs.Ytjnbfopipmglgaa
open Go.RowKit Go.Shelf

attribute [local go_sem] Oper.semAt_some
set_option linter.unusedSimpArgs false
set_option linter.unusedVariables false

def lastN (pre : List MB) : Int := match pre.getLast? with
  | none => -1
  | some m => m.node
theorem lastN_snoc (pre : List MB) (x : MB) : lastN (pre ++ [x]) = x.node := by simp [lastN]
theorem okAt_left {pre suf : List MB} {i : Nat} (hi : i < pre.length) : okAt (pre ++ suf) i ↔ okAt pre i := by
  unfold okAt
  rw [List.getElem?_append_left hi, List.getElem?_append_left (show i - 1 < pre.length by omega)]
theorem ok_prefix {pre L : List MB} (hp : pre <+: L) (h : ∀ i, i < L.length → okAt L i) : ∀ i, i < pre.length → okAt pre i := by
  obtain ⟨suf, rfl⟩ := hp
  exact fun i hi => (okAt_left hi).1 (h i (by rw [List.length_append]; omega))
theorem okAt_end (pre : List MB) (x : MB) : okAt (pre ++ [x]) pre.length ↔ x.right ∧ lastN pre < x.node := by
  unfold okAt
  rw [List.getElem?_append_right (Nat.le_refl _), Nat.sub_self]
  constructor
  · intro h
    obtain ⟨h1, h2⟩ := h x rfl
    refine ⟨h1, ?_⟩
    unfold lastN
    cases hl : pre.getLast? with
    | none =>
      have := h1.1
      show (-1 : Int) < _
      omega
    | some m =>
      have hne : pre ≠ [] := fun e => by rw [e] at hl; cases hl
      have hpos : 0 < pre.length := List.length_pos_iff.2 hne
      refine h2 m hpos ?_
      rw [List.getElem?_append_left (by omega), ← List.getLast?_eq_getElem?]
      exact hl
  · rintro ⟨h1, h2⟩ m hm
    obtain rfl : x = m := by simpa using hm
    refine ⟨h1, fun k hk hkm => ?_⟩
    rw [List.getElem?_append_left (by omega), ← List.getLast?_eq_getElem?] at hkm
    unfold lastN at h2
    rw [hkm] at h2
    exact h2
theorem ok_snoc {pre : List MB} (x : MB) (h : ∀ i, i < pre.length → okAt pre i) : (∀ i, i < (pre ++ [x]).length → okAt (pre ++ [x]) i) ↔ x.right ∧ lastN pre < x.node := by
  rw [← okAt_end]
  constructor
  · exact fun h2 => h2 _ (by simp)
  · intro h2 i hi
    by_cases c : i < pre.length
    · exact (okAt_left c).2 (h i c)
    · obtain rfl : i = pre.length := by simp at hi; omega
      exact h2
set_option maxRecDepth 100000 in
set_option maxHeartbeats 8000000 in
theorem pright : RightSays := by
  intro x ao cp w hM hl
  obtain ⟨num, L⟩ := x
  simp only [VW.v] at *
  have B2 := hide (((Below.refl w.heap.size w).alloc (Nat.le_refl _) (.cells #[.int .i64 num, .slice ao L.length cp] tView)).alloc (by simp) (.cells #[.bool false] 4))
  have hc5 : ((w.alloc (.cells #[.int .i64 num, .slice ao L.length cp] tView)).alloc (.cells #[.bool false] 4)).cell? ⟨w.heap.size + 1, 0, none⟩ = some (.bool false) := box1_cell (by rw [show w.heap.size + 1 = (w.alloc (.cells #[.int .i64 num, .slice ao L.length cp] tView)).heap.size by simp]; exact World.alloc_heap_new _ _)
  have HC5 := hide hc5
  clear hc5
  refine (callsIn_wide (n := 9)).1 ?_
  refine callsIn_of_wp_marks Try.func17 rfl trivial ?_ rfl
  simp only [Try.ntmps17, List.size_toArray, List.length_cons, List.length_nil, Nat.reduceAdd, Nat.reduceSub, Array.replicate_succ, Array.replicate_zero, List.push_toArray, List.append_toArray, List.nil_append, List.cons_append]
  by_cases k1 : num < 1
  · have hno : Hid (¬ (VW.mk num L).right) := fun h => by have := h.1; simp only at this; omega
    skip
    gi_wp2
    have hc5 := HC5.out
    refine ⟨.bool false, ?_, by rw [decide_eq_false hno.out], B2.out⟩
    simp [results, Try.f17, go_sem, hc5]
  by_cases k2 : num > 9007199254740991
  · have hno : Hid (¬ (VW.mk num L).right) := fun h => by have := h.2.1; have hbig : big = 9007199254740991 := rfl; simp only at this; omega
    skip
    gi_wp2
    have hc5 := HC5.out
    refine ⟨.bool false, ?_, by rw [decide_eq_false hno.out], B2.out⟩
    simp [results, Try.f17, go_sem, hc5]
  by_cases k3 : (L.length : Int) < 1
  · have hno : Hid (¬ (VW.mk num L).right) := fun h => by have := h.2.2.1; have hbig : big = 9007199254740991 := rfl; simp only at this; omega
    skip
    gi_wp2
    have hc5 := HC5.out
    refine ⟨.bool false, ?_, by rw [decide_eq_false hno.out], B2.out⟩
    simp [results, Try.f17, go_sem, hc5]
  by_cases k4 : (L.length : Int) > 7
  · have hno : Hid (¬ (VW.mk num L).right) := fun h => by have := h.2.2.2.1; have hbig : big = 9007199254740991 := rfl; simp only at this; omega
    skip
    gi_wp2
    have hc5 := HC5.out
    refine ⟨.bool false, ?_, by rw [decide_eq_false hno.out], B2.out⟩
    simp [results, Try.f17, go_sem, hc5]
  gi_wp2_with (refine ⟨trivial, ?_⟩; gi_at_call 28; refine (each_in _ _ _ _ _).mono ?_; rintro e w' ⟨rfl, rfl⟩)
  obtain ⟨w1, e1⟩ : ∃ wn : World, w.alloc (.cells #[.int .i64 num, .slice ao L.length cp] tView) = wn := ⟨_, rfl⟩
  obtain ⟨w2, e2⟩ : ∃ wn : World, w1.alloc (.cells #[.bool false] 4) = wn := ⟨_, rfl⟩
  obtain ⟨w3, e3⟩ : ∃ wn : World, w2.alloc (.cells #[.int .i64 (-1)] 3) = wn := ⟨_, rfl⟩
  obtain ⟨wz, e4⟩ : ∃ wn : World, w3.alloc (.cells #[.slice ao L.length cp] 22) = wn := ⟨_, rfl⟩
  have s1 : w1.heap.size = w.heap.size + 1 := by rw [← e1]; simp
  have s2 : w2.heap.size = w.heap.size + 2 := by rw [← e2]; simp [s1]
  have s3 : w3.heap.size = w.heap.size + 3 := by rw [← e3]; simp [s2]
  have s4 : wz.heap.size = w.heap.size + 4 := by rw [← e4]; simp [s3]
  have b1 : Below w.heap.size w wz := by
    rw [← e4, ← e3, ← e2, ← e1]
    exact ((((Below.refl _ w).alloc (Nat.le_refl _) _).alloc (by simp) _).alloc (by simp; omega) _).alloc (by simp; omega) _
  have X0 : wz.heap[w.heap.size]? = some (.cells #[.int .i64 num, .slice ao L.length cp] tView (0, 0)) := by rw [← e4, ← e3, ← e2]; refine heap_up (heap_up (heap_up ?_)); rw [← e1, show w.heap.size = w.heap.size by omega]; exact World.alloc_heap_new _ _
  have X1 : wz.heap[w.heap.size + 1]? = some (.cells #[.bool false] 4 (0, 0)) := by rw [← e4, ← e3]; refine heap_up (heap_up ?_); rw [← e2, show w.heap.size + 1 = w1.heap.size by omega]; exact World.alloc_heap_new _ _
  have X2 : wz.heap[w.heap.size + 1 + 1]? = some (.cells #[.int .i64 (-1)] 3 (0, 0)) := by rw [← e4]; refine heap_up ?_; rw [← e3, show w.heap.size + 1 + 1 = w2.heap.size by omega]; exact World.alloc_heap_new _ _
  have X3 : wz.heap[w.heap.size + 1 + 1 + 1]? = some (.cells #[.slice ao L.length cp] 22 (0, 0)) := by rw [← e4, show w.heap.size + 1 + 1 + 1 = w3.heap.size by omega]; exact World.alloc_heap_new _ _
  rw [e1, e2, e3, e4]
  clear e1 e2 e3 e4 s1 s2 s3 w1 w2 w3
  refine wpIn_rangeFunc_ownH rfl (by omega) (gf := 47) (lb := #[.pointer (some ⟨w.heap.size + 1 + 1 + 1, 0, none⟩)]) rfl trivial (enters_of Try.func47 (by kernel_rfl) rfl)
    (each_stops (id : MB → MB) _ (w.heap.size + 1 + 1 + 1) cp ao L hl w wz (by omega) b1 (box1_cell X3) (by rw [List.map_id]; exact hM)) belowK_t (belowK_b (by omega)) (Below.refl _ _) (fun _ => rfl)
    (fun pre W => ((∀ i, i < pre.length → okAt pre i) ∧ W.heap[w.heap.size + 1]? = some (.cells #[.bool false] 4 (0, 0)) ∧ W.heap[w.heap.size + 1 + 1]? = some (.cells #[.int .i64 (lastN pre)] 3 (0, 0))) ∧ Below w.heap.size w W)
    (fun c pre W => (c = .ret ∧ (¬ ∀ i, i < pre.length → okAt pre i) ∧ W.heap[w.heap.size + 1]? = some (.cells #[.bool false] 4 (0, 0))) ∧ Below w.heap.size w W)
    (OwnFrom.and (Own.from (Own.and (own_pure _) (Own.and (box_own _ _ fun _ => rfl) (box_own _ (fun pre => .cells #[.int .i64 (lastN pre)] 3 (0, 0)) fun _ => rfl))) _) (ownFrom_below (Nat.le_refl _) (by omega)))
    (fun c => OwnFrom.and (Own.from (Own.and (own_pure _) (Own.and (own_pure _) (box_own _ _ fun _ => rfl))) _) (ownFrom_below (Nat.le_refl _) (by omega)))
    ⟨⟨fun i h => absurd h (Nat.not_lt_zero _), X1, X2⟩, b1⟩
    (fun x a' W => ∃ Bx, Box2 W Bx x ∧ a' = { tmps := #[.agg #[.int .i64 num, .slice ao L.length cp], .pointer (some ⟨w.heap.size, 0, none⟩), .pointer (some ⟨w.heap.size + 1, 0, none⟩), .pointer (some ⟨w.heap.size + 1 + 1, 0, none⟩), .pointer (some ⟨Bx, 0, none⟩), .pointer (some ⟨w.heap.size, 0, none⟩), .int .i64 num, .bool false, .bool false, .pointer (some ⟨w.heap.size, 0, none⟩), .int .i64 num, .bool false, .bool false, .bool false, .pointer (some ⟨w.heap.size, 1, none⟩), .slice ao L.length cp, .int .i64 L.length, .bool false, .bool false, .bool false, .pointer (some ⟨w.heap.size, 1, none⟩), .slice ao L.length cp, .int .i64 L.length, .bool false, .bool false, .pointer (some ⟨w.heap.size, 1, none⟩), .slice ao L.length cp, .func (.func 47) #[] #[.pointer (some ⟨w.heap.size + 1 + 1 + 1, 0, none⟩)], x.v, undef, undef, undef, undef, undef, undef, undef, undef, undef, undef, undef], defers := [] })
    (fun x a' s X Y row hs hg hr => by obtain ⟨Bx, h1, h2⟩ := hs; exact ⟨Bx, Own.from (Box2.own (β := Unit) Bx fun _ => x) _ () X Y row h1 hg hr, h2⟩) ?assign ?body ?done ?stop
  case assign =>
    rintro l pre x W K ⟨⟨h1, h2, h3⟩, hB⟩ hK
    simp only [id, MB.v]
    gi_wp2
    exact hK _ _ ((KeepsOthers.alloc _ _).from _) ((Below.refl _ W).alloc hB.size _) ⟨⟨h1, heap_up h2, heap_up h3⟩, hB.alloc hB.size _⟩ ⟨W.heap.size, Box2.new W x, rfl⟩
  case body =>
    rintro l pre x a' W _ _ ⟨⟨h1, h2, h3⟩, hB⟩ ⟨Bx, hx, rfl⟩ hlt
    have HZ := hide (pmember x W)
    have OS := hide (ok_snoc x h1)
    have HL := hide (lastN_snoc pre x)
    obtain ⟨c0, c1⟩ := hx.cells
    simp only [MB.v] at HZ
    obtain ⟨r, hr⟩ : ∃ r, decide x.right = r := ⟨_, rfl⟩
    rw [hr] at HZ
    generalize lastN pre = q at *
    cases r
    · have OB : Hid (¬ ∀ i, i < (pre ++ [x]).length → okAt (pre ++ [x]) i) := fun h => of_decide_eq_false hr (OS.out.1 h).1
      gi_wp2_with (refine ⟨trivial, ?_⟩; gi_at_call 29; refine (CallsIn.inRound l (callsIn_wide.2 HZ.out)).mono ?_; rintro e w2 ⟨rfl, hb2⟩; have h22 := (hb2.block _ (heap_lt h2)).trans h2; have c2 := box1_cell h22; have f2 := box1_frozen h22)
      exact ⟨(keeps_of_below hb2).trans ((KeepsOthers.setCell _ _ _).from _), ⟨rfl, OB.out, box1_set _ h22⟩, (hB.trans (hb2.mono hB.size)).setCell (p := ⟨w.heap.size + 1, 0, none⟩) (by show _ ≤ w.heap.size + 1; omega) _⟩
    · by_cases hq : x.node ≤ q
      · have OB : Hid (¬ ∀ i, i < (pre ++ [x]).length → okAt (pre ++ [x]) i) := fun h => by have := (OS.out.1 h).2; omega
        gi_wp2_with (refine ⟨trivial, ?_⟩; gi_at_call 29; refine (CallsIn.inRound l (callsIn_wide.2 HZ.out)).mono ?_; rintro e w2 ⟨rfl, hb2⟩; have h22 := (hb2.block _ (heap_lt h2)).trans h2; have c2 := box1_cell h22; have f2 := box1_frozen h22; have c3 := box1_cell ((hb2.block _ (heap_lt h3)).trans h3); have c4 := (hb2.cell (p := ⟨Bx, 0, none⟩) (heap_lt hx)).trans c0)
        exact ⟨(keeps_of_below hb2).trans ((KeepsOthers.setCell _ _ _).from _), ⟨rfl, OB.out, box1_set _ h22⟩, (hB.trans (hb2.mono hB.size)).setCell (p := ⟨w.heap.size + 1, 0, none⟩) (by show _ ≤ w.heap.size + 1; omega) _⟩
      · have OB : Hid (∀ i, i < (pre ++ [x]).length → okAt (pre ++ [x]) i) := OS.out.2 ⟨of_decide_eq_true hr, by omega⟩
        gi_wp2_with (refine ⟨trivial, ?_⟩; gi_at_call 29; refine (CallsIn.inRound l (callsIn_wide.2 HZ.out)).mono ?_; rintro e w2 ⟨rfl, hb2⟩; have h33 := (hb2.block _ (heap_lt h3)).trans h3; have c3 := box1_cell h33; have f3 := box1_frozen h33; have c4 := (hb2.cell (p := ⟨Bx, 0, none⟩) (heap_lt hx)).trans c0)
        refine ⟨(keeps_of_below hb2).trans ((KeepsOthers.setCell _ _ _).from _), (hb2.mono hB.size).setCell (p := ⟨w.heap.size + 1 + 1, 0, none⟩) (by show _ ≤ w.heap.size + 1 + 1; omega) _, ⟨OB.out, heap_set_ne _ ((hb2.block _ (heap_lt h2)).trans h2) (by omega), ?_⟩, (hB.trans (hb2.mono hB.size)).setCell (p := ⟨w.heap.size + 1 + 1, 0, none⟩) (by show _ ≤ w.heap.size + 1 + 1; omega) _⟩
        rw [HL.out]
        exact box1_set _ h33
  case done =>
    rintro D ys W hD rfl ⟨⟨h1, h2, h3⟩, hB⟩ hK
    have hbig : big = 9007199254740991 := rfl
    have hyes : Hid ((VW.mk num ys).right) := ⟨by simp only; omega, by simp only; omega, by simp only; omega, by simp only; omega, h1⟩
    have f3 := box1_frozen h2
    have c3 := box1_cell h2
    gi_wp2
    have hK' : (W.setCell ⟨w.heap.size + 1, 0, none⟩ (.bool true)).heap[D]? = some (.deferred (some [])) := heap_set_ne _ hK (by omega)
    refine ⟨by simp, .inl ⟨_, _, rfl, run_takeDeferred hK', ?_⟩⟩
    have hc5 := box1_cell (put_keeps (o2 := .deferred none) hK' (box1_set (.bool true) h2) rfl)
    refine ⟨.bool true, ?_, by rw [decide_eq_true hyes.out], below_put (hB.setCell (p := ⟨w.heap.size + 1, 0, none⟩) (by show _ ≤ w.heap.size + 1; omega) _) (by omega) hK'⟩
    simp [results, Try.f17, go_sem, hc5]
  case stop =>
    rintro D c pre W hD hpre ⟨⟨rfl, hy, h2⟩, hB⟩ hK
    have hno : Hid (¬ (VW.mk num L).right) := fun h => hy (ok_prefix hpre h.2.2.2.2)
    gi_wp2
    refine ⟨by simp, .inl ⟨_, _, rfl, run_takeDeferred hK, ?_⟩⟩
    have hc5 := box1_cell (put_keeps (o2 := .deferred none) hK h2 rfl)
    refine ⟨.bool false, ?_, by rw [decide_eq_false hno.out], below_put hB (by omega) hK⟩
    simp [results, Try.f17, go_sem, hc5]
end Go.Proofs.Ytjnbfopipmglgaa
