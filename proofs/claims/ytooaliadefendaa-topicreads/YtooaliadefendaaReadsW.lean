/-
  TopicReads' walk (mkrdw.py).
-/
import Derived.Test.YtooaliadefendaaRdR
namespace Go.Proofs.Ytooaliadefendaa.Y
open Go.RowKit

attribute [local go_sem ↓] Go.wp_at_zero Go.wp_at_succ
set_option linter.unusedSimpArgs false
set_option linter.unusedVariables false
theorem rd_ret {W : World} {a : Act} {v : Vrd} {R : Ending → World → Prop} (hF : Frd a v) (h2 : v.v6 = .bool true) (h : R (.returned (.bool true)) W) :
    bodyPost Try.prog Try.f5 R .ret a W := by
  have g2 := slot_get (hF.s6.trans h2)
  refine bodyPost_ret (v := .bool true) ?_ hF.defers h
  simp [results, Try.results5, go_sem, g2]
set_option maxHeartbeats 8000000 in
set_option maxRecDepth 100000 in
theorem reads_walk (ao : Option Addr) (cap : Nat) (us : List DE) (frm : Int) (no : Option Addr) (nc : Nat) (ns : List Int) (w : World) (h : DEs w ao us) (hn : IntsAt w no ns) (hnok : ∀ m ∈ ns, In64 m) : Calls Try.prog 5 #[.slice ao us.length cap, .int .i64 frm, .slice no ns.length nc] w fun e w' => e = .returned (.bool true) ∧ Below w.heap.size w w' := by
  go_enter Try.func5, Try.ntmps5
  refine wp_seq (reg_mono (rd_r0 (by kernel_rfl) _ (v := ⟨_, _, _, _, _, _, _, _, _, _, _, _, _⟩) ⟨rfl, rfl, rfl, rfl, rfl, rfl, rfl, rfl, rfl, rfl, rfl, rfl, rfl, rfl, rfl⟩ ?_))
  intro a0 F0
  try dsimp only at F0
  refine wp_seq (reg_mono (rd_r1 (by kernel_rfl) _ F0 (examples_any w) ?_))
  intro a1 w1 F1 b1
  try dsimp only at F1
  refine wp_seq (reg_mono (rd_r2 (by kernel_rfl) _ F1 (held_new ⟨#[116]⟩ (z1 _) ex_w b1 (Nat.le_refl _)) ?_))
  rintro a2 w2 L F2 ⟨H2, _, _⟩
  try dsimp only at F2
  refine wp_seq (wp_seq (reg_mono (rd_r3 (by kernel_rfl) _ F2 rfl ?_)))
  intro a3 F3 g3
  refine wp_cond_false g3 (wp_skip ?_)
  show Code.wp _ _ _ _ _
  refine wp_seq (wp_seq (reg_mono (rd_r5 (by kernel_rfl) _ F3 ?_)))
  intro a5 F5
  try dsimp only at F5
  refine wp_block (wp_loop (fun a W => ∃ (i : Nat) (v : Vrd) (L : LOC) (G : TG), i ≤ us.length ∧ i ≤ 60 ∧ Frd a v ∧ v.v0 = .slice ao us.length cap ∧ v.v7 = .bool true ∧ v.v8 = .pointer (some ⟨L.b, 0, none⟩) ∧ v.v10 = .int .i64 (i : Int) ∧ v.v1 = .int .i64 frm ∧ v.v2 = .slice no ns.length nc ∧ Held w.heap.size w W L G i ∧ OI G G.recs ∧ G.recs.length ≤ i) (fun a _ => us.length - (intOf (a.tmps.getD 10 undef)).toNat) ⟨0, _, L, _, Nat.zero_le _, Nat.zero_le _, F5, rfl, rfl, rfl, rfl, rfl, rfl, H2, oi_new _, Nat.le_refl _⟩ ?_)
  clear F0 F1 F2 F3 F5 g3 H2 b1
  rintro a W ⟨i, v, L, G, hi, hi2, F, q0, qh, qt, qi, qf, qn, M, O, hT⟩
  have hmi : (intOf (a.tmps.getD 10 undef)).toNat = i := by rw [F.s10, qi]; simp [intOf]
  refine wp_seq (wp_seq (reg_mono (rd_r6 (by kernel_rfl) _ F q0 qi ?_)))
  intro a7 F7 g7
  by_cases hlt : i < us.length ∧ i < 60
  case pos =>
    have e : (decide (i < us.length) && decide (i < 60)) = true := by rw [decide_eq_true hlt.1, decide_eq_true hlt.2]; rfl
    rw [e] at g7
    refine wp_cond_true g7 (wp_skip ?_)
    show Code.wp _ _ _ _ _
    obtain ⟨b, off, hao, hb, hD⟩ := (h.all.below M.below) i hlt.1
    obtain ⟨_, y1, _, y3, y4, _, _⟩ := h.ok _ (List.getElem_mem hlt.1)
    generalize us[i] = d at *
    have q0' := q0
    rw [hao] at q0'
    have MD := M.to ((Below.refl W.heap.size W).drew)
    have E8 := held_pub MD (by omega) d.prod d.seq d.key d.val (by omega) (by omega) (by omega)
    have O2 : OI (pubF G d.prod d.seq d.key d.val).2.2 (pubF G d.prod d.seq d.key d.val).2.2.recs ∧ (pubF G d.prod d.seq d.key d.val).2.2.recs.length ≤ i + 1 := by
      rcases once_step O d.prod d.seq d.key d.val with ⟨cd, _, e⟩ | ⟨j, _, e, _⟩ | ⟨e, o, _⟩
      · rw [e]; exact ⟨O, by show G.recs.length ≤ _; omega⟩
      · rw [e]; exact ⟨O, by show G.recs.length ≤ _; omega⟩
      · rw [e]
        have o2 := o.recs
        dsimp only
        refine ⟨by rw [o2]; exact o, ?_⟩
        rw [o2, List.length_append]
        simp
        omega
    refine wp_seq (wp_block (reg_all (rd_r8 (R := fun w' => ∃ L', L'.b = L.b ∧ Held w.heap.size w w' L' (pubF G d.prod d.seq d.key d.val).2.2 (i + 1)) (by kernel_rfl) _ F7 q0' qi qt hlt.1 hD (E8.mono fun e w' ⟨h1, L', h2, h3, _⟩ => ⟨⟨_, h1⟩, L', h2, h3⟩) ?_)))
    rintro a8 w8 F8 ⟨L8, e8, H8⟩
    show Code.wp _ _ _ _ _
    refine reg_mono (rd_r7 (by kernel_rfl) _ F8 qi (by omega) ?_)
    intro a9 F9
    try dsimp only at F9
    refine ⟨⟨i + 1, _, L8, _, by omega, by omega, F9, q0, qh, (by rw [e8]; exact qt), rfl, qf, qn, H8, O2.1, O2.2⟩, ?_⟩
    rw [hmi, F9.s10]
    simp [intOf]
    omega
  have e : (decide (i < us.length) && decide (i < 60)) = false := by
    rw [Bool.and_eq_false_iff]
    by_cases h1 : i < us.length
    · right; exact decide_eq_false (fun h2 => hlt ⟨h1, h2⟩)
    · left; exact decide_eq_false h1
  rw [e] at g7
  refine wp_cond_false g7 (wp_exit ?_)
  show Code.wp _ _ _ _ _
  have HR := held_read M frm 1000 (by omega)
  generalize hAL : readF G.recs frm 1000 = AL at *
  refine wp_seq (reg_mono (rd_r9 (by kernel_rfl) _ F7 qt qf HR ?_))
  rintro a10 w10 ra rc F10 ⟨o10, H10, b10⟩
  try dsimp only at F10
  refine wp_seq (reg_mono (rd_r10 (by kernel_rfl) _ F10 ?_))
  intro a11 F11
  try dsimp only at F11
  refine wp_seq (wp_seq (reg_mono (rd_r11 (by kernel_rfl) _ F11 ?_)))
  intro a12 F12
  try dsimp only at F12
  have hWs : w.heap.size ≤ W.heap.size := M.below.size
  have hRI0 : RI G.recs AL [] frm := by rw [← hAL]; exact ri_start (by omega) frm
  have hAL2 : AL.length ≤ 60 := by
    have : AL.length = G.recs.length - placeF G.recs frm := by
      have := congrArg List.length hRI0
      rw [List.nil_append, List.length_drop] at this
      exact this
    omega
  refine wp_block (wp_loop (fun a W => ∃ (k : Nat) (v : Vrd) (fr : Int) (OL : List Rec) (oo : Option Addr) (oc : Nat), k ≤ ns.length ∧ k ≤ 40 ∧ Frd a v ∧ v.v1 = .int .i64 fr ∧ v.v2 = .slice no ns.length nc ∧ v.v7 = .bool true ∧ v.v8 = .pointer (some ⟨L.b, 0, none⟩) ∧ v.v11 = .slice ra AL.length rc ∧ v.v12 = .slice oo OL.length oc ∧ v.v13 = .int .i64 (k : Int) ∧ RM w.heap.size w W L G i OL oo oc AL ra rc ∧ RI G.recs AL OL fr) (fun a _ => ns.length - (intOf (a.tmps.getD 13 undef)).toNat) ⟨0, _, frm, [], none, 0, Nat.zero_le _, Nat.zero_le _, F12, qf, qn, qh, qt, rfl, rfl, rfl, ⟨om_new H10, own_base o10 hWs, fun j hj => by cases hj⟩, hRI0⟩ ?_)
  clear F7 g7 F10 F11 F12 o10 H10 b10 M F q0 qi qf qh qn qt hRI0 HR hAL hmi e
  rintro a13 w13 ⟨k, v13, fr, OL, oo, oc, hk1, hk2, F13, q1, q2, q7, q8, q11, q12, q13, RMM, RII⟩
  have hmk : (intOf (a13.tmps.getD 13 undef)).toNat = k := by rw [F13.s13, q13]; simp [intOf]
  refine wp_seq (wp_seq (reg_mono (rd_r12 (by kernel_rfl) _ F13 q2 q13 ?_)))
  intro a14 F14 g14
  have hall := (q_cap (OwnsQ.of_row RMM.all))
  by_cases hkk : k < ns.length ∧ k < 40
  case neg =>
    have e : (decide (k < ns.length) && decide (k < 40)) = false := by
      rw [Bool.and_eq_false_iff]
      by_cases h1 : k < ns.length
      · right; exact decide_eq_false (fun h2 => hkk ⟨h1, h2⟩)
      · left; exact decide_eq_false h1
    rw [e] at g14
    refine wp_cond_false g14 (wp_exit ?_)
    show Code.wp _ _ _ _ _
    have hol := ri_len RII 0
    obtain ⟨hup, hrt⟩ := slice_upto (recs_of_own RMM.all) OL.length (by omega) hall.1
    rw [ri_take RII] at hrt
    refine wp_seq (reg_mono (rd_r21 (by kernel_rfl) _ F14 q12 q11 hup (records_below OL _ _ w13 (by omega) (recs_of_own RMM.om.row) hrt) ?_))
    intro a15 w15 F15 b15
    try dsimp only at F15
    refine wp_seq (reg_mono (rd_r22 (by kernel_rfl) _ F15 q7 rfl ?_))
    intro a16 F16
    exact wp_ret (rd_ret F16 rfl ⟨rfl, (RMM.om.held.to b15).below⟩)
  have e : (decide (k < ns.length) && decide (k < 40)) = true := by rw [decide_eq_true hkk.1, decide_eq_true hkk.2]; rfl
  rw [e] at g14
  refine wp_cond_true g14 (wp_skip ?_)
  show Code.wp _ _ _ _ _
  obtain ⟨b, off, hno, hb, hN⟩ := hn k hkk.1
  have hN2 : w13.cell? ⟨b, off + k, none⟩ = some (.int .i64 ns[k]) := (RMM.om.held.below.cell (p := ⟨b, off + k, none⟩) hb).trans hN
  obtain ⟨n1, n2⟩ := hnok _ (List.getElem_mem hkk.1)
  generalize ns[k] = x at *
  have q2' := q2
  rw [hno] at q2'
  refine wp_mid (fun a W => ∃ (v : Vrd) (fr : Int) (OL : List Rec) (oo : Option Addr) (oc : Nat), Frd a v ∧ v.v1 = .int .i64 fr ∧ v.v2 = .slice no ns.length nc ∧ v.v7 = .bool true ∧ v.v8 = .pointer (some ⟨L.b, 0, none⟩) ∧ v.v11 = .slice ra AL.length rc ∧ v.v12 = .slice oo OL.length oc ∧ v.v13 = .int .i64 (k : Int) ∧ RM w.heap.size w W L G i OL oo oc AL ra rc ∧ RI G.recs AL OL fr) (wp_block ?_) ?_
  case refine_2 =>
    rintro a20 w20 ⟨v, fr, OL, oo, oc, F, q1, q2, q7, q8, q11, q12, q13, RMM, RII⟩
    refine reg_mono (rd_r13 (by kernel_rfl) _ F q13 (by omega) ?_)
    intro a21 F21
    try dsimp only at F21
    refine ⟨⟨k + 1, _, fr, OL, oo, oc, by omega, by omega, F21, q1, q2, q7, q8, q11, q12, rfl, RMM, RII⟩, ?_⟩
    rw [hmk, F21.s13]
    simp [intOf]
    omega
  have hp := pickF_range x 8 (by omega)
  refine wp_seq (reg_mono (rd_r14 (by kernel_rfl) _ F14 q2' q13 hkk.1 hN2 (pick_any x 8 n1 n2 (by omega) (by omega) w13) ?_))
  rintro a15 w15 F15 rfl
  try dsimp only at F15
  generalize pickF x 8 = y at *
  have hrl := read_len G.recs fr y
  have hln := ri_len RII y
  have hsome := fun m => ri_some RII O.off (n := y) (m := m)
  have hnone := ri_none RII (n := y)
  have hrr : ∀ r ∈ readF G.recs fr y, r.off < (G.fin : Int) ∧ 0 ≤ r.off := fun r hr => by
    have := RMM.om.held.ok.right r (List.mem_of_mem_drop (List.mem_of_mem_take hr))
    exact ⟨this.hi, by have := this.lo; omega⟩
  have hfin := RMM.om.held.ok.fin
  have HR := held_read RMM.om.held fr y (by omega)
  generalize readF G.recs fr y = l at *
  refine wp_seq (reg_mono (rd_r15 (by kernel_rfl) _ F15 q8 q1 rfl HR ?_))
  rintro a16 w16 lo lc F16 ⟨o16, H16, b16⟩
  try dsimp only at F16
  have R16 := RMM.to b16
  refine wp_seq (wp_seq (reg_mono (rd_r16 (by kernel_rfl) _ F16 rfl rfl q12 q11 (by omega) hln (by omega) ?_)))
  intro a17 F17 g17
  refine wp_cond_false g17 (wp_skip ?_)
  show Code.wp _ _ _ _ _
  obtain ⟨to', tc', w18, hA, o18, g18, h18⟩ := run_append_recs R16.om.row o16 R16.om.size (by omega) 28
  have R18 := R16.grown g18 o18 h18
  refine wp_seq (reg_mono (rd_r18 (by kernel_rfl) _ F17 rfl q12 hA ?_))
  intro a18 F18
  try dsimp only at F18
  have hrec := recs_of_own o16
  have hap : ∀ j, (Value.slice lo l.length lc).ownBlock = some j → (Value.slice oo OL.length oc).ownBlock ≠ some j := fun j hj e2 => by
    have := (o16.lt j hj).1
    have := row_lt RMM.om.row e2
    omega
  have hrec2 := recs_of_own (grown_row g18 o16 (fun k hk e => hap k hk e))
  cases hll : l.length with
  | zero =>
    have hl0 := List.eq_nil_of_length_eq_zero hll
    rw [hll] at F18
    refine wp_seq (reg_mono (rd_r19b (by kernel_rfl) _ F18 rfl ?_))
    intro a19 F19 g19
    refine wp_cond_false g19 (wp_skip ?_)
    exact ⟨_, fr, _, to', tc', F19, q1, q2, q7, q8, q11, rfl, q13, R18, hnone hl0⟩
  | succ m =>
    obtain ⟨hm, hri⟩ := hsome m hll
    obtain ⟨_, b2, off2, hlo, _, t0, _, _, _, _⟩ := hrec2.five m hm
    have hr2 := hrr _ (List.getElem_mem hm)
    generalize l[m].off = xo at *
    rw [hll, hlo] at F18
    refine wp_seq (reg_mono (rd_r19a (by kernel_rfl) _ F18 rfl ?_))
    intro a19 F19 g19
    refine wp_cond_true g19 ?_
    refine reg_all (rd_r20 (by kernel_rfl) _ F19 rfl (by omega) (by omega) (by omega) t0 ?_)
    intro a20 F20
    try dsimp only at F20
    exact ⟨_, xo + 1, _, to', tc', F20, rfl, q2, q7, q8, q11, rfl, q13, R18, hri⟩
end Go.Proofs.Ytooaliadefendaa.Y
