/-
  TopicOnce's walk (mkoncew.py).
-/
import Derived.Test.YtooaliadefendaaOnR
namespace Go.Proofs.Ytooaliadefendaa.Y
open Go.RowKit

attribute [local go_sem ↓] Go.wp_at_zero Go.wp_at_succ
set_option linter.unusedSimpArgs false
set_option linter.unusedVariables false
theorem once_read {G : TG} {T : List Rec} (h : OI G T) (hl : T.length ≤ 1000) : readF G.recs 0 1000 = T := by
  have hp : placeF G.recs 0 = 0 := by
    rw [h.recs]
    unfold placeF
    rw [List.countP_eq_zero]
    intro x hx
    obtain ⟨k, hk, rfl⟩ := List.getElem_of_mem hx
    rw [h.off k hk]
    simp
  unfold readF
  rw [hp, h.recs, List.drop_zero]
  exact List.take_of_length_le (by simpa using hl)
theorem on_ret {W : World} {a : Act} {v : Von} {R : Ending → World → Prop} (hF : Fon a v) (h2 : v.v2 = .bool true) (h : R (.returned (.bool true)) W) :
    bodyPost Try.prog Try.f3 R .ret a W := by
  have g2 := slot_get (hF.s2.trans h2)
  refine bodyPost_ret (v := .bool true) ?_ hF.defers h
  simp [results, Try.results3, go_sem, g2]
set_option maxHeartbeats 8000000 in
set_option maxRecDepth 100000 in
theorem once_walk (ao : Option Addr) (cap : Nat) (us : List DE) (w : World) (h : DEs w ao us) : Calls Try.prog 3 #[.slice ao us.length cap] w fun e w' => e = .returned (.bool true) ∧ Below w.heap.size w w' := by
  go_enter Try.func3, Try.ntmps3
  refine wp_seq (reg_mono (on_r0 (by kernel_rfl) _ (v := ⟨_, _, _, _, _, _, _, _, _, _, _, _, _, _⟩) ⟨rfl, rfl, rfl, rfl, rfl, rfl, rfl, rfl, rfl, rfl, rfl, rfl, rfl, rfl, rfl, rfl⟩ ?_))
  intro a0 F0
  try dsimp only at F0
  refine wp_seq (reg_mono (on_r1 (by kernel_rfl) _ F0 (examples_any w) ?_))
  intro a1 w1 F1 b1
  try dsimp only at F1
  refine wp_seq (reg_mono (on_r2 (by kernel_rfl) _ F1 (held_new ⟨#[116]⟩ (z1 _) ex_w b1 (Nat.le_refl _)) ?_))
  rintro a2 w2 L F2 ⟨H2, _, _⟩
  try dsimp only at F2
  refine wp_seq (wp_seq (reg_mono (on_r3 (by kernel_rfl) _ F2 rfl ?_)))
  intro a3 F3 g3
  refine wp_cond_false g3 (wp_skip ?_)
  show Code.wp _ _ _ _ _
  refine wp_seq (reg_mono (on_r5 (by kernel_rfl) _ F3 ?_))
  intro a5 F5
  try dsimp only at F5
  refine wp_seq (wp_seq (reg_mono (on_r6 (by kernel_rfl) _ F5 ?_)))
  intro a6 F6
  try dsimp only at F6
  refine wp_block (wp_loop (fun a W => ∃ (i : Nat) (v : Von) (L : LOC) (G : TG) (T : List Rec) (to_ : Option Addr) (tc : Nat), i ≤ us.length ∧ i ≤ 80 ∧ Fon a v ∧ v.v0 = .slice ao us.length cap ∧ v.v3 = .bool true ∧ v.v4 = .pointer (some ⟨L.b, 0, none⟩) ∧ v.v6 = .slice to_ T.length tc ∧ v.v7 = .int .i64 (i : Int) ∧ OM w.heap.size w W L G i T to_ tc ∧ OI G T ∧ T.length ≤ i) (fun a _ => us.length - (intOf (a.tmps.getD 7 undef)).toNat) ⟨0, _, L, _, [], none, 0, Nat.zero_le _, Nat.zero_le _, F6, rfl, rfl, rfl, rfl, rfl, om_new H2, oi_new _, Nat.le_refl _⟩ ?_)
  clear F0 F1 F2 F3 F5 F6 g3 H2 b1
  rintro a W ⟨i, v, L, G, T, to_, tc, hi, hi2, F, q0, q3, q4, q6, q7, M, O, hT⟩
  have hmi : (intOf (a.tmps.getD 7 undef)).toNat = i := by rw [F.s7, q7]; simp [intOf]
  refine wp_seq (wp_seq (reg_mono (on_r7 (by kernel_rfl) _ F q0 q7 ?_)))
  intro a7 F7 g7
  by_cases hlt : i < us.length ∧ i < 80
  case neg =>
    have e : (decide (i < us.length) && decide (i < 80)) = false := by
      rw [Bool.and_eq_false_iff]
      by_cases h1 : i < us.length
      · right; exact decide_eq_false (fun h2 => hlt ⟨h1, h2⟩)
      · left; exact decide_eq_false h1
    rw [e] at g7
    refine wp_cond_false g7 (wp_exit ?_)
    show Code.wp _ _ _ _ _
    have HR := held_read M.held 0 1000 (by omega)
    rw [once_read O (by omega)] at HR
    refine wp_seq (reg_mono (on_r25 (by kernel_rfl) _ F7 q4 HR ?_))
    rintro a8 w8 ro rc F8 ⟨o8, H8, b8⟩
    try dsimp only at F8
    refine wp_seq (reg_mono (on_r26 (by kernel_rfl) _ F8 rfl q6 (records_below T _ _ w8 (by omega) (recs_of_own o8) (recs_of_own (own_below M.row b8))) ?_))
    intro a9 w9 F9 b9
    try dsimp only at F9
    have H9 := H8.to b9
    refine wp_seq (reg_mono (on_r27 (by kernel_rfl) _ F9 q3 q4 q6 rfl (by have := tend H9.at_; rw [O.fin] at this; exact this) ?_))
    intro a10 F10
    exact wp_ret (on_ret F10 rfl ⟨rfl, H9.below⟩)
  have e : (decide (i < us.length) && decide (i < 80)) = true := by rw [decide_eq_true hlt.1, decide_eq_true hlt.2]; rfl
  rw [e] at g7
  refine wp_cond_true g7 (wp_skip ?_)
  show Code.wp _ _ _ _ _
  obtain ⟨b, off, hao, hb, hD⟩ := (h.all.below M.held.below) i hlt.1
  obtain ⟨_, y1, _, y3, y4, _, _⟩ := h.ok _ (List.getElem_mem hlt.1)
  generalize us[i] = d at *
  rw [hao] at q0
  refine wp_mid (fun a W => ∃ (v : Von) (L : LOC) (G : TG) (T : List Rec) (to_ : Option Addr) (tc : Nat), Fon a v ∧ v.v0 = .slice ao us.length cap ∧ v.v3 = .bool true ∧ v.v4 = .pointer (some ⟨L.b, 0, none⟩) ∧ v.v6 = .slice to_ T.length tc ∧ v.v7 = .int .i64 (i : Int) ∧ OM w.heap.size w W L G (i + 1) T to_ tc ∧ OI G T ∧ T.length ≤ i + 1) (wp_block ?_) ?_
  case refine_2 =>
    rintro a9 w9 ⟨v, L, G, T, to_, tc, F, q0, q3, q4, q6, q7, M, O, hT⟩
    refine reg_mono (on_r8 (by kernel_rfl) _ F q7 (by omega) ?_)
    intro a10 F10
    try dsimp only at F10
    refine ⟨⟨i + 1, _, L, G, T, to_, tc, by omega, by omega, F10, q0, q3, q4, q6, rfl, M, O, hT⟩, ?_⟩
    rw [hmi, F10.s7]
    simp [intOf]
    omega
  -- a deed
  refine wp_seq (reg_mono (on_r9 (by kernel_rfl) _ F7 q0 q7 hlt.1 hD ?_))
  intro a8 F8
  try dsimp only at F8
  have hsz := M.size
  have D1 := heap_alloc_new W (.cells #[.int .i64 d.kind, .string d.prod, .int .i64 d.seq, .string d.key, .string d.val, .int .i64 d.n, .int .i64 d.most] 30)
  have M1 := M.to ((Below.refl W.heap.size W).alloc (Nat.le_refl _) (.cells #[.int .i64 d.kind, .string d.prod, .int .i64 d.seq, .string d.key, .string d.val, .int .i64 d.n, .int .i64 d.most] 30))
  have hdn : ¬ L.own W.heap.size := fun e => by have := M.held.at_.lt e; omega
  generalize hdb : W.heap.size = db at *
  generalize W.alloc (.cells #[.int .i64 d.kind, .string d.prod, .int .i64 d.seq, .string d.key, .string d.val, .int .i64 d.n, .int .i64 d.most] 30) = W1 at *
  refine wp_seq (reg_mono (on_r10 (by kernel_rfl) _ F8 q4 (tend M1.held.at_) ?_))
  rintro a10 w10 F10 rfl
  try dsimp only at F10
  have E11 := held_pub M1.held (by omega) d.prod d.seq d.key d.val (by omega) (by omega) (by omega)
  have hst := once_step O d.prod d.seq d.key d.val
  have D1c1 := box_cell D1 1 rfl
  have D1c2 := box_cell D1 2 rfl
  have D1c3 := box_cell D1 3 rfl
  have D1c4 := box_cell D1 4 rfl
  rcases hst with ⟨cd, hcd, hpf⟩ | ⟨j, hj, hpf, hp1, hp2⟩ | ⟨hpf, O2, hlt2⟩
  · rw [hpf] at E11
    dsimp only at E11
    refine wp_seq (reg_mono (on_r11 (by kernel_rfl) _ F10 q4 rfl D1c1 D1c2 D1c3 D1c4 E11 ?_))
    rintro a11 w11 F11 ⟨L2, e2, H2, s2⟩
    try dsimp only at F11
    refine wp_seq (wp_seq (reg_mono (on_r12a (by kernel_rfl) _ F11 rfl hcd ?_)))
    intro a12 F12 g12
    refine wp_cond_true g12 ?_
    have q4' : v.v4 = .pointer (some ⟨L2.b, 0, none⟩) := by rw [e2]; exact q4
    refine wp_seq (wp_seq (reg_mono (on_r13 (by kernel_rfl) _ F12 q4' rfl rfl (tend H2.at_) ?_)))
    intro a13 F13 g13
    refine wp_cond_false g13 (wp_skip ?_)
    show Code.wp _ _ _ _ _
    refine wp_exit ?_
    exact ⟨_, L2, G, T, to_, tc, F13, by rw [hao]; exact q0, q3, q4', q6, q7, M1.step H2 s2, O, by omega⟩
  · rw [hpf] at E11
    dsimp only at E11
    refine wp_seq (reg_mono (on_r11 (by kernel_rfl) _ F10 q4 rfl D1c1 D1c2 D1c3 D1c4 E11 ?_))
    rintro a11 w11 F11 ⟨L2, e2, H2, s2⟩
    try dsimp only at F11
    refine wp_seq (wp_seq (reg_mono (on_r12b (by kernel_rfl) _ F11 rfl ?_)))
    intro a12 F12 g12
    refine wp_cond_false g12 (wp_skip ?_)
    show Code.wp _ _ _ _ _
    have q4' : v.v4 = .pointer (some ⟨L2.b, 0, none⟩) := by rw [e2]; exact q4
    have M2 := M1.step H2 s2
    have D2 := s2.touch.at D1 hdn
    refine wp_seq (reg_mono (on_r15 (by kernel_rfl) _ F12 rfl rfl (box_cell D2 1 rfl) (box_cell D2 2 rfl) (box_cell D2 3 rfl) (box_cell D2 4 rfl) ?_))
    intro a15 F15
    try dsimp only at F15
    have K3 := heap_alloc_new w11 (.cells #[.int .i64 (j : Int), .string d.prod, .int .i64 d.seq, .string d.key, .string d.val] 35)
    have M3 := M2.to ((Below.refl w11.heap.size w11).alloc (Nat.le_refl _) (.cells #[.int .i64 (j : Int), .string d.prod, .int .i64 d.seq, .string d.key, .string d.val] 35))
    have hne : (j : Int) ≠ (G.fin : Int) := by have := O.fin; omega
    refine wp_seq (reg_mono (on_r16b (by kernel_rfl) _ F15 q4' rfl rfl hne ?_))
    intro a16 F16 g16
    refine wp_cond_false g16 ?_
    obtain ⟨_, b2, off2, hto, _, t0, t1, t2, _, _⟩ := (recs_of_own M3.row).five j hj
    rw [hp1] at t1
    rw [hp2] at t2
    have q6' := q6
    rw [hto] at q6'
    refine wp_seq (reg_mono (on_r23 (by kernel_rfl) _ F16 q4' q6' rfl rfl rfl hj t1 t2 (box_cell K3 1 rfl) (box_cell K3 2 rfl) (fun nq => tend (M3.held.at_.below (below_drewN (Below.refl _ _) nq))) ?_))
    intro a23 w23 F23 g23 b23
    refine wp_cond_false g23 (wp_skip ?_)
    exact ⟨_, L2, G, T, to_, tc, F23, by rw [hao]; exact q0, q3, q4', q6, q7, M3.to b23, O, by omega⟩
  · rw [hpf] at E11
    dsimp only at E11
    refine wp_seq (reg_mono (on_r11 (by kernel_rfl) _ F10 q4 rfl D1c1 D1c2 D1c3 D1c4 E11 ?_))
    rintro a11 w11 F11 ⟨L2, e2, H2, s2⟩
    try dsimp only at F11
    refine wp_seq (wp_seq (reg_mono (on_r12b (by kernel_rfl) _ F11 rfl ?_)))
    intro a12 F12 g12
    refine wp_cond_false g12 (wp_skip ?_)
    show Code.wp _ _ _ _ _
    have q4' : v.v4 = .pointer (some ⟨L2.b, 0, none⟩) := by rw [e2]; exact q4
    have M2 := M1.step H2 s2
    have D2 := s2.touch.at D1 hdn
    refine wp_seq (reg_mono (on_r15 (by kernel_rfl) _ F12 rfl rfl (box_cell D2 1 rfl) (box_cell D2 2 rfl) (box_cell D2 3 rfl) (box_cell D2 4 rfl) ?_))
    intro a15 F15
    try dsimp only at F15
    have K3 := heap_alloc_new w11 (.cells #[.int .i64 (T.length : Int), .string d.prod, .int .i64 d.seq, .string d.key, .string d.val] 35)
    have M3 := M2.to ((Below.refl w11.heap.size w11).alloc (Nat.le_refl _) (.cells #[.int .i64 (T.length : Int), .string d.prod, .int .i64 d.seq, .string d.key, .string d.val] 35))
    generalize hrb : w11.heap.size = rb at *
    generalize w11.alloc (.cells #[.int .i64 (T.length : Int), .string d.prod, .int .i64 d.seq, .string d.key, .string d.val] 35) = w3 at *
    have hfT := O.fin
    have hend : ((T.length + 1 : Nat) : Int) = ((addF G ⟨0, d.prod, d.seq, d.key, d.val⟩).fin : Int) := by show _ = ((G.fin + 1 : Nat) : Int); omega
    rw [hfT] at F15
    refine wp_seq (reg_mono (on_r16a (x := T.length) (by kernel_rfl) _ F15 q4' rfl rfl (by omega) (by have := tend M3.held.at_; rw [← hend] at this; exact this) ?_))
    intro a16 F16 g16
    refine wp_cond_true g16 ?_
    refine wp_seq (wp_seq (reg_mono (on_r17 (by kernel_rfl) _ F16 ?_)))
    intro a17 F17
    try dsimp only at F17
    refine wp_block (wp_loop (fun a W => ∃ (k : Nat) (v' : Von), k ≤ T.length ∧ Fon a v' ∧ v'.v0 = .slice ao us.length cap ∧ v'.v3 = .bool true ∧ v'.v4 = .pointer (some ⟨L2.b, 0, none⟩) ∧ v'.v6 = .slice to_ T.length tc ∧ v'.v7 = .int .i64 (i : Int) ∧ v'.v12 = .pointer (some ⟨rb, 0, none⟩) ∧ v'.v13 = .int .i64 (k : Int) ∧ W.heap[rb]? = some (.cells #[.int .i64 (T.length : Int), .string d.prod, .int .i64 d.seq, .string d.key, .string d.val] 35 (0, 0)) ∧ OM w.heap.size w W L2 (addF G ⟨0, d.prod, d.seq, d.key, d.val⟩) (i + 1) T to_ tc) (fun a _ => T.length - (intOf (a.tmps.getD 13 undef)).toNat) ⟨0, _, Nat.zero_le _, F17, by rw [hao]; exact q0, q3, q4', q6, q7, rfl, rfl, K3, M3⟩ ?_)
    rintro a18 w18 ⟨k, v', hk, F18, p0, p3, p4, p6, p7, p12, p13, K18, M18⟩
    have hmk : (intOf (a18.tmps.getD 13 undef)).toNat = k := by rw [F18.s13, p13]; simp [intOf]
    refine wp_seq (wp_seq (reg_mono (on_r18 (by kernel_rfl) _ F18 p6 p13 ?_)))
    intro a19 F19 g19
    by_cases hkl : k < T.length
    · rw [decide_eq_true hkl] at g19
      refine wp_cond_true g19 (wp_skip ?_)
      show Code.wp _ _ _ _ _
      obtain ⟨_, b2, off2, hto, _, t0, t1, t2, _, _⟩ := (recs_of_own M18.row).five k hkl
      have p6' := p6
      rw [hto] at p6'
      refine wp_seq (wp_block (wp_seq (reg_mono (on_r20 (by kernel_rfl) _ F19 p6' p12 p13 hkl t1 t2 (box_cell K18 1 rfl) (box_cell K18 2 rfl) (fun e => hlt2 _ (List.getElem_mem hkl) e) ?_))))
      intro a20 w20 F20 g20 b20
      refine wp_cond_false g20 (wp_skip ?_)
      show Code.wp _ _ _ _ _
      refine reg_mono (on_r19 (by kernel_rfl) _ F20 p13 (by omega) ?_)
      intro a21 F21
      try dsimp only at F21
      refine ⟨⟨k + 1, _, by omega, F21, p0, p3, p4, p6, p7, p12, rfl, (b20.block _ (heap_lt K18)).trans K18, M18.to b20⟩, ?_⟩
      rw [hmk, F21.s13]
      simp [intOf]
      omega
    · rw [decide_eq_false hkl] at g19
      refine wp_cond_false g19 (wp_exit ?_)
      show Code.wp _ _ _ _ _
      refine reg_all (on_r22 (by kernel_rfl) _ F19 p6 p12 K18 (by omega) M18.size M18.row ?_)
      intro a22 w22 wx to' tc' bx hx F22 o22 g22 h22
      try dsimp only at F22
      exact ⟨_, L2, _, _, to', tc', F22, p0, p3, p4, rfl, p7, (M18.to bx).grown g22 o22 h22, O2, by rw [List.length_append]; simp; omega⟩
end Go.Proofs.Ytooaliadefendaa.Y
