/-
  TopicTrims' walk (mktr.py).
-/
import Derived.Test.YtooaliadefendaaTrR
namespace Go.Proofs.Ytooaliadefendaa.Y
open Go.RowKit

attribute [local go_sem ↓] Go.wp_at_zero Go.wp_at_succ
set_option linter.unusedSimpArgs false
set_option linter.unusedVariables false
theorem tr_ret {W : World} {a : Act} {v : Vtr} {R : Ending → World → Prop} (hF : Ftr a v) (h2 : v.v6 = .bool true) (h : R (.returned (.bool true)) W) :
    bodyPost Try.prog Try.f4 R .ret a W := by
  have g2 := slot_get (hF.s6.trans h2)
  refine bodyPost_ret (v := .bool true) ?_ hF.defers h
  simp [results, Try.results4, go_sem, g2]
set_option maxHeartbeats 8000000 in
set_option maxRecDepth 100000 in
theorem trims_walk (ao : Option Addr) (cap : Nat) (us : List DE) (lw up : Int) (hl0 : -9223372036854775808 ≤ lw) (hl1 : lw ≤ 9223372036854775807) (w : World) (h : DEs w ao us) : Calls Try.prog 4 #[.slice ao us.length cap, .int .i64 lw, .int .i64 up] w fun e w' => e = .returned (.bool true) ∧ Below w.heap.size w w' := by
  go_enter Try.func4, Try.ntmps4
  refine wp_seq (reg_mono (tr_r0 (by kernel_rfl) _ (v := ⟨_, _, _, _, _, _, _, _, _, _, _, _, _, _, _, _⟩) ⟨rfl, rfl, rfl, rfl, rfl, rfl, rfl, rfl, rfl, rfl, rfl, rfl, rfl, rfl, rfl, rfl, rfl, rfl⟩ ?_))
  intro a0 F0
  try dsimp only at F0
  refine wp_seq (reg_mono (tr_r1 (by kernel_rfl) _ F0 (examples_any w) ?_))
  intro a1 w1 F1 b1
  try dsimp only at F1
  refine wp_seq (reg_mono (tr_r2 (by kernel_rfl) _ F1 (held_new ⟨#[116]⟩ (z1 _) ex_w b1 (Nat.le_refl _)) ?_))
  rintro a2 w2 L F2 ⟨H2, _, _⟩
  try dsimp only at F2
  refine wp_seq (wp_seq (reg_mono (tr_r3 (by kernel_rfl) _ F2 rfl ?_)))
  intro a3 F3 g3
  refine wp_cond_false g3 (wp_skip ?_)
  show Code.wp _ _ _ _ _
  refine wp_seq (wp_seq (reg_mono (tr_r5 (by kernel_rfl) _ F3 ?_)))
  intro a5 F5
  try dsimp only at F5
  refine wp_block (wp_loop (fun a W => ∃ (i : Nat) (v : Vtr) (L : LOC) (G : TG), i ≤ us.length ∧ i ≤ 60 ∧ Ftr a v ∧ v.v0 = .slice ao us.length cap ∧ v.v7 = .bool true ∧ v.v8 = .pointer (some ⟨L.b, 0, none⟩) ∧ v.v10 = .int .i64 (i : Int) ∧ v.v1 = .int .i64 lw ∧ v.v2 = .int .i64 up ∧ Held w.heap.size w W L G i ∧ OI G G.recs ∧ G.recs.length ≤ i) (fun a _ => us.length - (intOf (a.tmps.getD 10 undef)).toNat) ⟨0, _, L, _, Nat.zero_le _, Nat.zero_le _, F5, rfl, rfl, rfl, rfl, rfl, rfl, H2, oi_new _, Nat.le_refl _⟩ ?_)
  clear F0 F1 F2 F3 F5 g3 H2 b1
  rintro a W ⟨i, v, L, G, hi, hi2, F, q0, qh, qt, qi, ql, qu, M, O, hT⟩
  have hmi : (intOf (a.tmps.getD 10 undef)).toNat = i := by rw [F.s10, qi]; simp [intOf]
  refine wp_seq (wp_seq (reg_mono (tr_r6 (by kernel_rfl) _ F q0 qi ?_)))
  intro a7 F7 g7
  by_cases hlt : i < us.length ∧ i < 60
  case pos =>
    have e : (decide (i < us.length) && decide (i < 60)) = true := by rw [decide_eq_true hlt.1, decide_eq_true hlt.2]; rfl
    rw [e] at g7
    refine wp_cond_true g7 (wp_skip ?_)
    show Code.wp _ _ _ _ _
    obtain ⟨b, off, hao, hb, hD⟩ := (h.all.below M.below) i hlt.1
    obtain ⟨_, y1, _, y3, y4, _, _⟩ := h.ok _ (List.getElem_mem hlt.1)
    generalize us[i] = d at *
    have q0' := q0
    rw [hao] at q0'
    have MD := M.to ((Below.refl W.heap.size W).drew)
    have E8 := held_pub MD (by omega) d.prod d.seq d.key d.val (by omega) (by omega) (by omega)
    have O2 : OI (pubF G d.prod d.seq d.key d.val).2.2 (pubF G d.prod d.seq d.key d.val).2.2.recs ∧ (pubF G d.prod d.seq d.key d.val).2.2.recs.length ≤ i + 1 := by
      rcases once_step O d.prod d.seq d.key d.val with ⟨cd, _, e⟩ | ⟨j, _, e, _⟩ | ⟨e, o, _⟩
      · rw [e]; exact ⟨O, by show G.recs.length ≤ _; omega⟩
      · rw [e]; exact ⟨O, by show G.recs.length ≤ _; omega⟩
      · rw [e]
        have o2 := o.recs
        dsimp only
        refine ⟨by rw [o2]; exact o, ?_⟩
        rw [o2, List.length_append]
        simp
        omega
    refine wp_seq (wp_block (reg_all (tr_r8 (R := fun w' => ∃ L', L'.b = L.b ∧ Held w.heap.size w w' L' (pubF G d.prod d.seq d.key d.val).2.2 (i + 1)) (by kernel_rfl) _ F7 q0' qi qt hlt.1 hD (E8.mono fun e w' ⟨h1, L', h2, h3, _⟩ => ⟨⟨_, h1⟩, L', h2, h3⟩) ?_)))
    rintro a8 w8 F8 ⟨L8, e8, H8⟩
    show Code.wp _ _ _ _ _
    refine reg_mono (tr_r7 (by kernel_rfl) _ F8 qi (by omega) ?_)
    intro a9 F9
    try dsimp only at F9
    refine ⟨⟨i + 1, _, L8, _, by omega, by omega, F9, q0, qh, (by rw [e8]; exact qt), rfl, ql, qu, H8, O2.1, O2.2⟩, ?_⟩
    rw [hmi, F9.s10]
    simp [intOf]
    omega
  have e : (decide (i < us.length) && decide (i < 60)) = false := by
    rw [Bool.and_eq_false_iff]
    by_cases h1 : i < us.length
    · right; exact decide_eq_false (fun h2 => hlt ⟨h1, h2⟩)
    · left; exact decide_eq_false h1
  rw [e] at g7
  refine wp_cond_false g7 (wp_exit ?_)
  show Code.wp _ _ _ _ _
  have hrl : G.recs.length ≤ 60 := by omega
  have HR := held_read M 0 1000 (by omega)
  rw [read_all (fun r hr => by have := (M.ok.right r hr).lo; omega) (by omega)] at HR
  refine wp_seq (reg_mono (tr_r9 (by kernel_rfl) _ F7 qt HR ?_))
  rintro a9 w9 ra rc F9 ⟨o9, H9, b9⟩
  try dsimp only at F9
  refine wp_seq (reg_mono (tr_r10 (by kernel_rfl) _ F9 qt (tend H9.at_) ?_))
  rintro a10 w10 F10 rfl
  try dsimp only at F10
  have hfT := O.fin
  have hp := pickF_range lw ((G.fin : Int) + 1) (by omega)
  refine wp_seq (reg_mono (tr_r11 (by kernel_rfl) _ F10 ql rfl (by omega) (pick_any lw ((G.fin : Int) + 1) hl0 hl1 (by omega) (by omega) w10) ?_))
  rintro a11 w11 F11 rfl
  try dsimp only at F11
  obtain ⟨low, hlow⟩ : ∃ low : Nat, pickF lw ((G.fin : Int) + 1) = (low : Int) := ⟨(pickF lw ((G.fin : Int) + 1)).toNat, (Int.toNat_of_nonneg hp.1).symm⟩
  rw [hlow] at F11 hp
  have hlf : low ≤ G.fin := by omega
  have ht := trims_recs O hlf up
  have E1 := held_trim H9 (low : Int)
  rw [ht] at E1
  dsimp only at E1
  refine wp_seq (wp_seq (reg_mono (tr_r12 (R1 := fun W => ∃ L', L'.b = L.b ∧ Held w.heap.size w W L' { G with low := low, recs := G.recs.drop low } i ∧ TStep w11 W L L') (R2 := fun W => ∃ L', L'.b = L.b ∧ Held w.heap.size w W L' { G with low := low, recs := keepF up (G.recs.drop low) } i ∧ TStep w11 W L L') (by kernel_rfl) _ F11 rfl qu qt rfl E1 ?_ ?_ ?_ ?_)))
  · rintro W1 ⟨L1, e1, H1, s1⟩
    rw [← e1]
    refine (held_comp H1 up).mono ?_
    rintro e w' ⟨h1, L2, e2, H2, s2⟩
    exact ⟨h1, L2, e2, H2, s1.trans s2⟩
  · rintro W1 ⟨L1, e1, H1, s1⟩
    rw [← e1]
    exact tlow H1.at_
  · rintro W1 ⟨L1, e1, H1, s1⟩
    rw [← e1]
    have := tend H1.at_
    exact this
  intro a12 w12 F12 g12 hR2
  obtain ⟨L2, e2, H2, s2⟩ := hR2
  try dsimp only at F12
  refine wp_cond_false g12 (wp_skip ?_)
  show Code.wp _ _ _ _ _
  have oA : w12.ownsRow W.heap.size 35 5 (.slice ra G.recs.length rc) G.recs.length (recCells G.recs) := s2.touch.row o9 (fun k hk e => by
    have h1 := (o9.lt k hk).1
    have h2 := M.at_.lt e
    omega)
  have qt2 : v.v8 = .pointer (some ⟨L2.b, 0, none⟩) := by rw [e2]; exact qt
  have HR2 := held_read H2 0 1000 (by omega)
  dsimp only at HR2
  rw [read_all (fun r hr => by have := (H2.ok.right r hr).lo; omega) (by have := keepF_length up (G.recs.drop low); rw [List.length_drop] at this; omega)] at HR2
  generalize hLL : keepF up (G.recs.drop low) = LL at *
  have hKI0 : KI G.recs LL up low 0 0 := by rw [← hLL]; exact ki_start _ _ _
  refine wp_seq (reg_mono (tr_r14 (by kernel_rfl) _ F12 qt2 HR2 ?_))
  rintro a14 w14 lo lc F14 ⟨o14, H14, b14⟩
  try dsimp only at F14
  have RA := recs_of_own (own_below oA b14)
  have RL := recs_of_own o14
  refine wp_seq (reg_mono (tr_r15 (by kernel_rfl) _ F14 ?_))
  intro a15 F15
  try dsimp only at F15
  refine wp_seq (wp_seq (reg_mono (tr_r16 (by kernel_rfl) _ F15 ?_)))
  intro a16 F16
  try dsimp only at F16
  have hLl : LL.length ≤ 60 := by rw [← hLL]; have := keepF_length up (G.recs.drop low); rw [List.length_drop] at this; omega
  refine wp_block (wp_loop (fun a W => ∃ (j : Nat) (v : Vtr) (t : Nat), j ≤ G.recs.length ∧ Ftr a v ∧ v.v1 = .int .i64 (low : Int) ∧ v.v2 = .int .i64 up ∧ v.v7 = .bool true ∧ v.v8 = .pointer (some ⟨L2.b, 0, none⟩) ∧ v.v11 = .slice ra G.recs.length rc ∧ v.v12 = .int .i64 (G.fin : Int) ∧ v.v13 = .slice lo LL.length lc ∧ v.v14 = .int .i64 (t : Int) ∧ v.v15 = .int .i64 (j : Int) ∧ Held w.heap.size w W L2 { G with low := low, recs := LL } i ∧ RecsAt W (.slice ra G.recs.length rc) G.recs ∧ RecsAt W (.slice lo LL.length lc) LL ∧ KI G.recs LL up low j t) (fun a _ => G.recs.length - (intOf (a.tmps.getD 15 undef)).toNat) ⟨0, _, 0, Nat.zero_le _, F16, rfl, qu, qh, qt2, rfl, rfl, rfl, rfl, rfl, H14, RA, RL, hKI0⟩ ?_)
  clear F7 g7 F9 F10 F11 F12 F14 F15 F16 o14 H14 b14 oA HR HR2 E1 ht g12 o9 H9 b9 M F q0 qi ql qu qh qt qt2 hKI0 RA RL hmi e H2
  rintro a17 w17 ⟨j, v17, t, hj, F17, q1, q2, q7, q8, q11, q12, q13, q14, q15, H17, RA, RL, hKI⟩
  have hmj : (intOf (a17.tmps.getD 15 undef)).toNat = j := by rw [F17.s15, q15]; simp [intOf]
  refine wp_seq (wp_seq (reg_mono (tr_r17 (by kernel_rfl) _ F17 q11 q15 ?_)))
  intro a18 F18 g18
  by_cases hjl : j < G.recs.length
  case neg =>
    rw [decide_eq_false hjl] at g18
    refine wp_cond_false g18 (wp_exit ?_)
    show Code.wp _ _ _ _ _
    obtain rfl : j = G.recs.length := by omega
    have hat := ki_end hKI (by omega)
    rw [hat] at q14
    have E28 := held_pub H17 (by omega) (⟨#[111, 116, 104, 101, 114, 48, 112, 114, 111, 100, 117, 99, 101, 114, 48, 110, 97, 109, 101, 48]⟩ : ByteArray) 0 ⟨#[]⟩ ⟨#[]⟩ (by show 20 ≤ _; omega) (by show 0 ≤ _; omega) (by show 0 ≤ _; omega)
    have hpe := pub_end O (G3 := { G with low := low, recs := LL }) rfl rfl (⟨#[111, 116, 104, 101, 114, 48, 112, 114, 111, 100, 117, 99, 101, 114, 48, 110, 97, 109, 101, 48]⟩ : ByteArray) 0 ⟨#[]⟩ ⟨#[]⟩
    generalize pubF { G with low := low, recs := LL } (⟨#[111, 116, 104, 101, 114, 48, 112, 114, 111, 100, 117, 99, 101, 114, 48, 110, 97, 109, 101, 48]⟩ : ByteArray) 0 ⟨#[]⟩ ⟨#[]⟩ = pf at *
    obtain ⟨px, py, pG⟩ := pf
    dsimp only at E28 hpe
    refine wp_seq (reg_mono (tr_r28 (by kernel_rfl) _ F18 q8 E28 ?_))
    rintro a28 w28 F28 ⟨L28, _, H28, _⟩
    try dsimp only at F28
    rcases hpe with h1 | ⟨rfl, rfl⟩ | ⟨rfl, h1⟩
    · refine wp_seq (reg_mono (tr_r29a (by kernel_rfl) _ F28 q7 q12 q13 q14 rfl rfl h1 ?_))
      intro a29 F29
      exact wp_ret (tr_ret F29 rfl ⟨rfl, H28.below⟩)
    · refine wp_seq (reg_mono (tr_r29b (by kernel_rfl) _ F28 q7 q12 q13 q14 rfl rfl ?_))
      intro a29 F29
      exact wp_ret (tr_ret F29 rfl ⟨rfl, H28.below⟩)
    · refine wp_seq (reg_mono (tr_r29c (by kernel_rfl) _ F28 q7 q12 q13 q14 rfl rfl h1 ?_))
      intro a29 F29
      exact wp_ret (tr_ret F29 rfl ⟨rfl, H28.below⟩)
  rw [decide_eq_true hjl] at g18
  refine wp_cond_true g18 (wp_skip ?_)
  show Code.wp _ _ _ _ _
  refine wp_mid (fun a W => ∃ (v : Vtr) (t : Nat), Ftr a v ∧ v.v1 = .int .i64 (low : Int) ∧ v.v2 = .int .i64 up ∧ v.v7 = .bool true ∧ v.v8 = .pointer (some ⟨L2.b, 0, none⟩) ∧ v.v11 = .slice ra G.recs.length rc ∧ v.v12 = .int .i64 (G.fin : Int) ∧ v.v13 = .slice lo LL.length lc ∧ v.v14 = .int .i64 (t : Int) ∧ v.v15 = .int .i64 (j : Int) ∧ Held w.heap.size w W L2 { G with low := low, recs := LL } i ∧ RecsAt W (.slice ra G.recs.length rc) G.recs ∧ RecsAt W (.slice lo LL.length lc) LL ∧ KI G.recs LL up low (j + 1) t) (wp_block ?_) ?_
  case refine_2 =>
    rintro a30 w30 ⟨v, t, F, q1, q2, q7, q8, q11, q12, q13, q14, q15, H, RA, RL, hKI⟩
    refine reg_mono (tr_r18 (by kernel_rfl) _ F q15 (by omega) ?_)
    intro a31 F31
    try dsimp only at F31
    refine ⟨⟨j + 1, _, t, by omega, F31, q1, q2, q7, q8, q11, q12, q13, q14, rfl, H, RA, RL, hKI⟩, ?_⟩
    rw [hmj, F31.s15]
    simp [intOf]
    omega
  refine wp_seq (reg_mono (tr_r19 (by kernel_rfl) _ F18 ?_))
  intro a19 F19
  try dsimp only at F19
  refine wp_seq (wp_seq (reg_mono (tr_r20 (by kernel_rfl) _ F19 q15 (by omega) ?_)))
  intro a20 F20
  try dsimp only at F20
  obtain ⟨_, bA, oA, hra, _, _⟩ := RA.five j hjl
  refine wp_block (wp_loop (fun a W => ∃ (m : Nat) (v : Vtr), j + 1 + m ≤ G.recs.length ∧ Ftr a v ∧ v.v1 = .int .i64 (low : Int) ∧ v.v2 = .int .i64 up ∧ v.v7 = .bool true ∧ v.v8 = .pointer (some ⟨L2.b, 0, none⟩) ∧ v.v11 = .slice ra G.recs.length rc ∧ v.v12 = .int .i64 (G.fin : Int) ∧ v.v13 = .slice lo LL.length lc ∧ v.v14 = .int .i64 (t : Int) ∧ v.v15 = .int .i64 (j : Int) ∧ v.v16 = .bool (latF G.recs j (G.recs[j]'hjl) m) ∧ v.v17 = .int .i64 ((j + 1 + m : Nat) : Int) ∧ Held w.heap.size w W L2 { G with low := low, recs := LL } i ∧ RecsAt W (.slice ra G.recs.length rc) G.recs ∧ RecsAt W (.slice lo LL.length lc) LL) (fun a _ => G.recs.length - (intOf (a.tmps.getD 17 undef)).toNat) ⟨0, _, by omega, F20, q1, q2, q7, q8, q11, q12, q13, q14, q15, rfl, rfl, H17, RA, RL⟩ ?_)
  clear F17 F18 F19 F20 g18 q1 q2 q7 q8 q11 q12 q13 q14 q15 H17 RA RL
  rintro a21 w21 ⟨m, v21, hm, F21, q1, q2, q7, q8, q11, q12, q13, q14, q15, q16, q17, H21, RA, RL⟩
  have hmm : (intOf (a21.tmps.getD 17 undef)).toNat = j + 1 + m := by rw [F21.s17, q17]; simp [intOf]; omega
  refine wp_seq (wp_seq (reg_mono (tr_r21 (by kernel_rfl) _ F21 q11 q17 ?_)))
  intro a22 F22 g22
  obtain ⟨_, b1, o1, hra1, _, c0, c1, c2, c3, c4⟩ := RA.five j hjl
  have q11' := q11
  rw [hra1] at q11'
  by_cases hml : j + 1 + m < G.recs.length
  · rw [decide_eq_true hml] at g22
    refine wp_cond_true g22 (wp_skip ?_)
    show Code.wp _ _ _ _ _
    obtain ⟨_, b2, o2, hra2, _, _, _, _, d3, _⟩ := RA.five (j + 1 + m) hml
    rw [hra1] at hra2
    injection hra2 with hra2
    injection hra2 with e1 e2 _
    subst e1 e2
    refine wp_seq (wp_block (reg_all (tr_r23 (by kernel_rfl) _ F22 q11' q15 q16 q17 hjl hml c3 d3 ?_)))
    intro a23 w23 F23 b23
    try dsimp only at F23
    show Code.wp _ _ _ _ _
    refine reg_mono (tr_r22 (by kernel_rfl) _ F23 q17 (by omega) ?_)
    intro a24 F24
    try dsimp only at F24
    have hlat : latF G.recs j (G.recs[j]'hjl) (m + 1) = (latF G.recs j (G.recs[j]'hjl) m || (((G.recs[j + 1 + m]'hml).key.data.toList == (G.recs[j]'hjl).key.data.toList) && !(G.recs[j]'hjl).key.data.toList.isEmpty)) := by
      rw [latF, List.getElem?_eq_getElem hml]
      simp only [Rec.kl, Option.map_some]
      congr 2
    refine ⟨⟨m + 1, _, by omega, F24, q1, q2, q7, q8, q11, q12, q13, q14, q15, by rw [hlat], by simp only [Nat.add_assoc], H21.to b23, RA.below b23, RL.below b23⟩, ?_⟩
    rw [hmm, F24.s17]
    simp [intOf]
    omega
  · rw [decide_eq_false hml] at g22
    refine wp_cond_false g22 (wp_exit ?_)
    show Code.wp _ _ _ _ _
    obtain rfl : m = G.recs.length - (j + 1) := by omega
    rw [latF_end _ _ _ hjl] at q16
    have hoff := O.off j hjl
    have hgo := @ki_go G.recs LL up low j t hKI
    have hst := @ki_stay G.recs LL up low j t hKI
    refine wp_seq (wp_seq (reg_mono (tr_r24 (by kernel_rfl) _ F22 q1 q2 q11' q15 q16 hjl c0 ?_)))
    intro a25 F25 g25
    have hgs : goesF up (G.recs[j]'hjl) (G.recs.drop (j + 1)) = ((!(G.recs[j]'hjl).kl.isEmpty && laterF (G.recs[j]'hjl).kl (G.recs.drop (j + 1))) && decide ((G.recs[j]'hjl).off < up)) := rfl
    rw [← hgs] at g25
    by_cases hjlow : j < low
    · have e : (decide ((G.recs[j]'hjl).off < (low : Int)) || goesF up (G.recs[j]'hjl) (G.recs.drop (j + 1))) = true := by rw [hoff, decide_eq_true (by omega)]; rfl
      rw [e] at g25
      refine wp_cond_true g25 (wp_exit ?_)
      exact ⟨_, t, F25, q1, q2, q7, q8, q11, q12, q13, q14, q15, H21, RA, RL, ki_low hKI hjlow⟩
    · have e : decide ((G.recs[j]'hjl).off < (low : Int)) = false := by rw [hoff]; exact decide_eq_false (by omega)
      rw [e, Bool.false_or] at g25
      cases hg : goesF up (G.recs[j]'hjl) (G.recs.drop (j + 1)) with
      | true =>
        rw [hg] at g25
        refine wp_cond_true g25 (wp_exit ?_)
        exact ⟨_, t, F25, q1, q2, q7, q8, q11, q12, q13, q14, q15, H21, RA, RL, hgo (by omega) hjl hg⟩
      | false =>
        rw [hg] at g25
        refine wp_cond_false g25 (wp_skip ?_)
        show Code.wp _ _ _ _ _
        obtain ⟨hk, hLe, hKI2⟩ := hst (by omega) hjl hg
        obtain ⟨_, b3, o3, hlo, _, d0, d1, d2, d3, d4⟩ := RL.five t hk
        rw [hLe] at d0 d1 d2 d3 d4
        have q13' := q13
        rw [hlo] at q13'
        refine wp_seq (wp_seq (reg_mono (tr_r25 (by kernel_rfl) _ F25 q11' q13' q14 q15 hjl hk c0 c1 c2 c3 c4 d0 d1 d2 d3 d4 ?_)))
        intro a26 w26 F26 g26 b26
        refine wp_cond_false g26 (wp_skip ?_)
        show Code.wp _ _ _ _ _
        refine reg_all (tr_r27 (by kernel_rfl) _ F26 q14 (by omega) ?_)
        intro a27 F27
        try dsimp only at F27
        exact ⟨_, t + 1, F27, q1, q2, q7, q8, q11, q12, q13, rfl, q15, H21.to b26, RA.below b26, RL.below b26, hKI2⟩
end Go.Proofs.Ytooaliadefendaa.Y
