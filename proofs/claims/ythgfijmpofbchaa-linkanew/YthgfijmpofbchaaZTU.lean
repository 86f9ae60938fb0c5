/-
  turn, as it runs: a frame comes, is lost, comes twice (mkturn4.py).
-/
import Derived.Test.YthgfijmpofbchaaZTT
namespace Go.Proofs.Ythgfijmpofbchaa
open Go.RowKit
set_option linter.unusedSectionVars false
variable [Ep]

theorem turn_r13 {K : Act → World → Prop} {c : Code} (hc : regOf (Try.f22.body.getD .skip) 13 = some c) (a : Act) {B : BE} {wq : World} {G : PG} {r : Nat → Nat} {p : PR} {d : Nat} {t : TN} {k o : Nat} {v7 v8 v10 v11 v19 : Value} {ao : Option Addr} {cp B2 : Nat} {ys : List ByteArray} (hF : FT a G.pb d k o v7 v8 (.slice ao ys.length cp) v10 v11 v19) (x : Bool) (hk : k = ix x) (ho : o = ix (!x)) (hP : PT B wq G r p d t) (hl : (p.told x).length ≤ 100000) (hm : ys.length ≤ 100000) (hR : wq.ownsRow B2 9 1 (.slice ao ys.length cp) ys.length (ys.map .string))
    (hQ : ∀ a' w' v' rr, FT a' G.pb d k o v7 v8 (.slice ao ys.length cp) v10 v11 v19 → PT B w' { G with tv := set G.tv x v' } rr { p with told := set p.told x (p.told x ++ ys) } d t → Below B wq w' → K a' w') :
    Code.wp Try.prog c (Exit.then K fun _ _ _ => False) a wq := by
  have hR2 := hR
  rcases hR2.2 with ⟨hv, hn⟩ | ⟨g, cap, cur, hv, _⟩
  · rw [hv] at hF hQ
    obtain rfl : ys = [] := List.eq_nil_of_length_eq_zero hn
    refine turn_r13b hc a hF x hk ho hP fun a' w' hF' hP' hB' => hQ a' w' (G.tv x) r hF' ?_ hB'
    rw [set_self, List.append_nil, set_self]
    exact hP'
  · injection hv with h1 _ h3
    subst h1 h3
    refine turn_r13a hc a hF x hk ho hP hl rfl hm (fun j u hu => ?_) hQ
    have := hR.cells rfl j u hu
    rw [Addr.add_lit, Nat.zero_add] at this
    exact this
set_option maxHeartbeats 8000000 in
set_option maxRecDepth 100000 in
theorem turn_k3 {B : BE} {w : World} {G : PG} {r : Nat → Nat} {p : PR} (t : TN) (ht : t.ok) (hP : PA B w G r p) (hI : Inv p) (hL : Lens p) (hkind : t.k = 3) :
    Calls Try.prog 22 #[.pointer (some ⟨G.pb, 0, none⟩), t.v] w fun e w' => e = .returned (.bool true) ∧ ∃ G' r', PA B w' G' r' (p.turn t.x t.k t.i t.s) ∧ G'.pb = G.pb ∧ Below B w w' := by
  obtain ⟨htk, htw, hti, _⟩ := ht
  have HI := hide hI
  have HL := hide hL
  have hx2 := pickZ_range t.who 2 (by omega)
  have hk6 := pickZ_range t.kind 6 (by omega)
  have HP2 := hide (fun W => pick_any t.who 2 W htw (by omega))
  have HP6 := hide (fun W => pick_any t.kind 6 W htk (by omega))
  have hxk : pickZ t.who 2 = (ix t.x : Int) := by
    unfold TN.x
    by_cases e : pickZ t.who 2 = 1
    · rw [decide_eq_true e, e]; rfl
    · rw [decide_eq_false e]; show _ = (0 : Int); omega
  have hkk : pickZ t.kind 6 = (t.k : Int) := by unfold TN.k; omega
  have hk6' : t.k < 6 := by omega
  rw [hxk] at HP2
  rw [hkk] at HP6
  have P0 : Hid (PT B (w.alloc (.cells t.c 52)) G (upd r w.heap.size none 0) p w.heap.size t) := ⟨hP.fresh.alloc _, heap_alloc_new w _, by unfold upd; rw [if_pos (Nat.le_refl _), if_neg (by simp)], hP.size⟩
  have BB : Hid (Below B w (w.alloc (.cells t.c 52))) := (Below.refl _ _).alloc hP.size _
  obtain ⟨oi, hoi⟩ : ∃ oi, ix (!t.x) = oi := ⟨_, rfl⟩
  have hoo : (1 : Int) - (ix t.x : Int) = (oi : Int) := by have h1 := ix_lt t.x; have h2 := ix_not t.x; omega
  have HOI := hide hoi
  have hib := ix_lt t.x
  have HXK := hide hxk
  have HKK := hide hkk
  obtain ⟨kk, hkn⟩ : ∃ kk, t.k = kk := ⟨_, rfl⟩
  rw [hkn] at HP6 hk6'
  have HKN := hide hkn
  obtain ⟨xi, hxi⟩ : ∃ xi, ix t.x = xi := ⟨_, rfl⟩
  rw [hxi] at HP2 hoo hib
  have HXI := hide hxi
  clear hP hI hL htw hxk hkk hkn hxi hx2 hk6 hoi
  obtain rfl : kk = 3 := by have := HKN.out; omega
  have HKZ : Hid (pickZ t.kind 6 = 3) := by show _ = _; rw [HKK.out, HKN.out]; rfl
  have HT1 := hide htk
  have HT2 := hide hti
  have HTU : Hid (p.turn t.x t.k t.i t.s = match (p.way t.x)[(pickZ t.i (p.way t.x).length).toNat]? with
    | none => p
    | some f => (p.lose t.x (pickZ t.i (p.way t.x).length).toNat).take t.x f) := by
    show _ = _
    unfold PR.turn
    rw [if_neg (by rw [hkind]; decide), if_neg (by rw [hkind]; decide), if_neg (by rw [hkind]; decide)]
    cases hget : (p.way t.x)[(pickZ t.i (p.way t.x).length).toNat]? with
    | none => rfl
    | some f => simp [hkind]
  obtain ⟨x, hx⟩ : ∃ x, t.x = x := ⟨_, rfl⟩
  rw [hx] at HTU HXI HOI
  rw [show p.turn t.x t.k t.i t.s = p.turn x t.k t.i t.s by rw [hx]]
  generalize p.turn x t.k t.i t.s = PN at *
  have HX := hide hx
  have HTC : Hid (t.c = #[.int .i64 t.kind, .int .i64 t.who, .int .i64 t.i, .string t.s]) := rfl
  clear hx hkind htk hti HKK HXK
  obtain ⟨tk, tw, ti, ts⟩ := t
  simp only [TN.v, TN.c] at *
  go_enter Try.func22, Try.ntmps22
  go_wp2_with fail
  refine (HP2.out _).mono ?_
  rintro e w1 ⟨rfl, hw1⟩
  obtain rfl := hw1.symm
  clear hw1
  go_wp2_with fail
  refine (HP6.out _).mono ?_
  rintro e w1 ⟨rfl, hw1⟩
  obtain rfl := hw1.symm
  clear hw1
  go_upto_region 4 with fail
  rename_i Ko hKo Kr hKr Ki hKi
  have ENDS : Hid (∀ (a : Act) (W : World) (G' : PG) (rr : Nat → Nat) v7 v8 v9 v10 v11 v19, FT a G.pb w.heap.size xi oi v7 v8 v9 v10 v11 v19 → a.tmps.getD 4 undef = .bool true → PT B W G' rr PN w.heap.size ⟨tk, tw, ti, ts⟩ → G'.pb = G.pb → Below B w W → bodyPost Try.prog Try.f22 (fun e w' => e = .returned (.bool true) ∧ ∃ G' r', PA B w' G' r' PN ∧ G'.pb = G.pb ∧ Below B w w') .ret a W) := fun a W G' rr v7 v8 v9 v10 v11 v19 hF h4 hP hpb hB => turn_end hF h4 hP hpb hB
  refine reg_mono (turn_r4 (by kernel_rfl) _ ⟨rfl, rfl, rfl, rfl, rfl, rfl, rfl, rfl, rfl, rfl, rfl, rfl⟩ x HXI.out.symm HOI.out.symm P0.out ?_)
  intro a1 F1 h28
  refine hKi _ _ ?_
  by_cases hw : (p.way x).length = 0
  · rw [decide_eq_true hw] at h28
    refine wp_cond_true h28 (wp_seq (reg_mono (turn_r5 (by kernel_rfl) _ F1 ?_)))
    intro a2 F2 h4
    refine wp_ret ?_
    have e1 : PN = p := by
      rw [HTU.out, List.eq_nil_of_length_eq_zero hw]
      rfl
    rw [← e1] at P0
    exact ENDS.out _ _ _ _ _ _ _ _ _ _ F2 h4 P0.out rfl BB.out
  · rw [decide_eq_false hw] at h28
    refine wp_cond_false h28 (wp_skip ?_)
    refine hKr _ _ ?_
    have hlw := HL.out.way x
    refine wp_seq (reg_mono (turn_r6 (by kernel_rfl) _ F1 x HXI.out.symm HOI.out.symm P0.out HT2.out ⟨by omega, by omega⟩ ?_))
    intro a2 F2
    have hzr := pickZ_range ti (p.way x).length (by omega)
    obtain ⟨i, hi⟩ : ∃ i : Nat, pickZ ti (p.way x).length = (i : Int) := ⟨(pickZ ti (p.way x).length).toNat, by omega⟩
    have hil : i < (p.way x).length := by omega
    rw [hi] at F2
    have HTV : Hid (PN = (p.lose x i).take x ((p.way x)[i])) := by
      show _ = _
      rw [HTU.out, hi, Int.toNat_natCast, List.getElem?_eq_getElem hil]
    refine wp_seq (reg_mono (turn_r7 (by kernel_rfl) _ F2 x HXI.out.symm HOI.out.symm P0.out.drew hil ?_))
    intro a3 F3
    obtain ⟨f, hf⟩ : ∃ f, (p.way x)[i] = f := ⟨_, rfl⟩
    have hmem : f ∈ p.way x := by rw [← hf]; exact List.getElem_mem hil
    try rw [hf] at HTV
    rw [hf]
    have P3 := hide (P0.out.drew.fresh)
    generalize hW2 : (w.alloc (.cells #[.int .i64 tk, .int .i64 tw, .int .i64 ti, .string ts] 52)).drew = W2 at *
    have hBB2 : Below B w W2 := by rw [← hW2]; exact BB.out.drew
    have P4 : Hid (PT B (W2.alloc (.cells #[.int .i64 f.epoch, .int .i64 f.peer, .int .i64 f.seq, .int .i64 f.ack, .string f.body] 31)) G (upd (upd r w.heap.size none 0) W2.heap.size none 0) p w.heap.size ⟨tk, tw, ti, ts⟩) := P3.out.below ((Below.refl _ W2).alloc (Nat.le_refl _) _)
    have X4 : Hid ((W2.alloc (.cells #[.int .i64 f.epoch, .int .i64 f.peer, .int .i64 f.seq, .int .i64 f.ack, .string f.body] 31)).heap[W2.heap.size]? = some (.cells #[.int .i64 f.epoch, .int .i64 f.peer, .int .i64 f.seq, .int .i64 f.ack, .string f.body] 31 (0, 0))) := heap_alloc_new W2 _
    have R4 : Hid (upd (upd r w.heap.size none 0) W2.heap.size none 0 W2.heap.size = 0) := by unfold upd; show _ = _; rw [if_pos (Nat.le_refl _), if_neg (by simp)]
    have B4 : Hid (Below B w (W2.alloc (.cells #[.int .i64 f.epoch, .int .i64 f.peer, .int .i64 f.seq, .int .i64 f.ack, .string f.body] 31))) := hBB2.alloc (Nat.le_trans P3.out.pa.size (Nat.le_refl _)) _
    clear P3 P0
    generalize W2.alloc (.cells #[.int .i64 f.epoch, .int .i64 f.peer, .int .i64 f.seq, .int .i64 f.ack, .string f.body] 31) = W4 at *
    generalize upd (upd r w.heap.size none 0) W2.heap.size none 0 = r4 at *
    generalize W2.heap.size = fb at *
    have hfok := (HI.out.frames x f hmem)
    have hfr : f.rightP := hfok.right HI.out
    have hfo : f.ok := by obtain ⟨_, _, _, _, _, _, _, _, h9, _⟩ := hfr; unfold FR.ok; omega
    refine wp_seq (wp_seq (reg_mono (turn_r8 (by kernel_rfl) _ F3 x HXI.out.symm HOI.out.symm P4.out HT1.out ?_)))
    intro a4 F4 h53
    rw [HKZ.out] at h53
    refine wp_cond_true h53 ?_
    refine reg_all (turn_r9 (by kernel_rfl) _ F4 x HXI.out.symm HOI.out.symm P4.out hil (by omega) ?_)
    intro a5 w5 v5 r5 F5 P5x N5 B5
    have R5 := hide (N5 fb R4.out (heap_lt X4.out)).1
    have X5 := hide ((N5 fb R4.out (heap_lt X4.out)).2.trans X4.out)
    have P5 := hide P5x
    have BB5 := hide (B4.out.trans B5)
    have HQI : Hid (Inv (p.lose x i)) := inv_lose HI.out x i
    have HQF : Hid (FOK (p.lose x i) x f) := hfok.conv rfl rfl rfl
    have HQS : Hid ((p.lose x i).sent = p.sent ∧ (p.lose x i).told = p.told) := ⟨rfl, rfl⟩
    obtain ⟨GQ, hGQ⟩ : ∃ GQ : PG, GQ = { G with wv := set G.wv x v5 } := ⟨_, rfl⟩
    have hpq : GQ.pb = G.pb := by rw [hGQ]
    rw [← hGQ] at P5
    rw [← hpq] at F5
    obtain ⟨PQ, hPQ⟩ : ∃ PQ : PR, PQ = p.lose x i := ⟨_, rfl⟩
    rw [show ({ p with way := set p.way x ((p.way x).take i ++ (p.way x).drop (i + 1)) } : PR) = PQ from hPQ.symm] at P5
    rw [← hPQ] at HQI HQF HQS HTV
    show Code.wp _ _ _ _ _
    refine wp_seq (wp_seq (reg_mono (turn_r10 (G := GQ) (by kernel_rfl) _ F5 x HXI.out.symm HOI.out.symm P5.out HT1.out ?_)))
    intro a6 F6 h84
    rw [HKZ.out] at h84
    refine wp_cond_false h84 (wp_skip ?_)
    show Code.wp _ _ _ _ _
    refine wp_seq (reg_mono (turn_r12 (G := GQ) (by kernel_rfl) _ F6 x HXI.out.symm HOI.out.symm P5.out X5.out R5.out hfo ?_))
    intro a7 w7 v7 r7 ao cp F7 P7 R7 N7 B7
    obtain ⟨ht1, ht2⟩ := take_of HQI.out HQF.out
    rw [ht1] at F7
    obtain ⟨ys, hys⟩ : ∃ ys, ((PQ.l x).take f).1.1 = ys := ⟨_, rfl⟩
    rw [hys] at F7 R7 N7 ht2
    have hpre : PQ.told x ++ ys <+: PQ.sent (!x) := by
      have := ht2.pre x
      simp only [set_same] at this
      exact this
    have hple := hpre.length_le
    have hsl := HL.out.sent (!x)
    rw [← HQS.out.1] at hsl
    rw [List.length_append] at hple
    have HPN : Hid (PN = { PQ with l := set PQ.l x ((PQ.l x).take f).2, told := set PQ.told x (PQ.told x ++ ys) }) := by show _ = _; rw [HTV.out, ← hys]; rfl
    refine wp_seq (reg_mono (turn_r13 (G := { GQ with v := set GQ.v x v7 }) (by kernel_rfl) _ F7 x HXI.out.symm HOI.out.symm P7 (by show (PQ.told x).length ≤ _; omega) (by omega) R7 ?_))
    intro a8 w8 v8 r8 F8 P8x B8
    have P8 := hide P8x
    clear P8x
    rw [show ({ ({ PQ with l := set PQ.l x ((PQ.l x).take f).2 } : PR) with told := set ({ PQ with l := set PQ.l x ((PQ.l x).take f).2 } : PR).told x (({ PQ with l := set PQ.l x ((PQ.l x).take f).2 } : PR).told x ++ ys) } : PR) = PN from HPN.out.symm] at P8
    obtain ⟨G8, hG8⟩ : ∃ G8 : PG, G8 = { ({ GQ with v := set GQ.v x v7 } : PG) with tv := set ({ GQ with v := set GQ.v x v7 } : PG).tv x v8 } := ⟨_, rfl⟩
    have hp8 : G8.pb = G.pb := by rw [hG8]; exact hpq
    have F8' : FT a8 G8.pb w.heap.size xi oi (.int .i64 (i : Int)) (.pointer (some ⟨fb, 0, none⟩)) (.slice ao ys.length cp) (.bool false) undef (.int .i64 ((3 : Nat) : Int)) := by rw [hG8]; exact F8
    rw [← hG8] at P8
    have hpn : PN.told x <+: PN.sent (!x) := by rw [HPN.out]; simp only [set_same]; exact hpre
    have hpnl := hpn.length_le
    have hpns : (PN.sent (!x)).length ≤ 90000 := by rw [HPN.out]; exact hsl
    have BB8 := hide (BB5.out.trans (B7.trans B8))
    refine wp_seq (wp_seq (reg_mono (turn_r14 (G := G8) (by kernel_rfl) _ F8' x HXI.out.symm HOI.out.symm P8.out hpnl ?_)))
    intro a9 F9 h131
    refine wp_cond_false h131 (wp_skip ?_)
    show Code.wp _ _ _ _ _
    refine wp_seq (reg_mono (turn_r16 (G := G8) (by kernel_rfl) _ F9 ?_))
    intro a10 F10
    refine wp_block (wp_loop (fun a W => ∃ j : Nat, j ≤ (PN.told x).length ∧ FT a G8.pb w.heap.size xi oi (.int .i64 (i : Int)) (.pointer (some ⟨fb, 0, none⟩)) (.slice ao ys.length cp) (.bool false) (.int .i64 (j : Int)) (.int .i64 ((3 : Nat) : Int)) ∧ PT B W G8 r8 PN w.heap.size ⟨tk, tw, ti, ts⟩ ∧ Below B w W) (fun a _ => (PN.told x).length - (intOf (a.tmps.getD 11 undef)).toNat) ⟨0, Nat.zero_le _, F10, P8.out.drew, BB8.out.drew⟩ ?_)
    rintro a11 w11 ⟨j, hj, F11, P11, B11⟩
    refine wp_seq (wp_seq (reg_mono (turn_r17 (G := G8) (by kernel_rfl) _ F11 x HXI.out.symm HOI.out.symm P11 ?_)))
    intro a12 F12 h141
    have hm11 : (intOf (a11.tmps.getD 11 undef)).toNat = j := by rw [F11.s11]; simp [intOf]
    by_cases hlt : j < (PN.told x).length
    · rw [decide_eq_true hlt] at h141
      refine wp_cond_true h141 (wp_skip ?_)
      show Code.wp _ _ _ _ _
      refine wp_seq (wp_block (wp_seq (reg_mono (turn_r19 (G := G8) (by kernel_rfl) _ F12 x HXI.out.symm HOI.out.symm P11 hlt hpn ?_))))
      intro a13 F13 h164
      refine wp_cond_false h164 (wp_skip ?_)
      show Code.wp _ _ _ _ _
      refine reg_all (turn_r18 (G := G8) (by kernel_rfl) _ F13 (by omega) ?_)
      intro a14 F14
      refine ⟨⟨j + 1, by omega, F14, P11.drew, B11.drew⟩, ?_⟩
      have hm14 : (intOf (a14.tmps.getD 11 undef)).toNat = j + 1 := by rw [F14.s11]; simp only [intOf]; omega
      rw [hm14, hm11]
      omega
    · rw [decide_eq_false hlt] at h141
      refine wp_cond_false h141 (wp_exit ?_)
      show Ko _ _
      refine hKo _ _ ?_
      refine wp_seq (reg_mono (turn_r28 (G := G8) (by kernel_rfl) _ F12 ?_))
      intro a15 F15 h4
      refine wp_ret ?_
      rw [hp8] at F15
      exact ENDS.out _ _ _ _ _ _ _ _ _ _ F15 h4 P11 hp8 B11
set_option maxHeartbeats 8000000 in
set_option maxRecDepth 100000 in
theorem turn_k4 {B : BE} {w : World} {G : PG} {r : Nat → Nat} {p : PR} (t : TN) (ht : t.ok) (hP : PA B w G r p) (hI : Inv p) (hL : Lens p) (hkind : t.k = 4) :
    Calls Try.prog 22 #[.pointer (some ⟨G.pb, 0, none⟩), t.v] w fun e w' => e = .returned (.bool true) ∧ ∃ G' r', PA B w' G' r' (p.turn t.x t.k t.i t.s) ∧ G'.pb = G.pb ∧ Below B w w' := by
  obtain ⟨htk, htw, hti, _⟩ := ht
  have HI := hide hI
  have HL := hide hL
  have hx2 := pickZ_range t.who 2 (by omega)
  have hk6 := pickZ_range t.kind 6 (by omega)
  have HP2 := hide (fun W => pick_any t.who 2 W htw (by omega))
  have HP6 := hide (fun W => pick_any t.kind 6 W htk (by omega))
  have hxk : pickZ t.who 2 = (ix t.x : Int) := by
    unfold TN.x
    by_cases e : pickZ t.who 2 = 1
    · rw [decide_eq_true e, e]; rfl
    · rw [decide_eq_false e]; show _ = (0 : Int); omega
  have hkk : pickZ t.kind 6 = (t.k : Int) := by unfold TN.k; omega
  have hk6' : t.k < 6 := by omega
  rw [hxk] at HP2
  rw [hkk] at HP6
  have P0 : Hid (PT B (w.alloc (.cells t.c 52)) G (upd r w.heap.size none 0) p w.heap.size t) := ⟨hP.fresh.alloc _, heap_alloc_new w _, by unfold upd; rw [if_pos (Nat.le_refl _), if_neg (by simp)], hP.size⟩
  have BB : Hid (Below B w (w.alloc (.cells t.c 52))) := (Below.refl _ _).alloc hP.size _
  obtain ⟨oi, hoi⟩ : ∃ oi, ix (!t.x) = oi := ⟨_, rfl⟩
  have hoo : (1 : Int) - (ix t.x : Int) = (oi : Int) := by have h1 := ix_lt t.x; have h2 := ix_not t.x; omega
  have HOI := hide hoi
  have hib := ix_lt t.x
  have HXK := hide hxk
  have HKK := hide hkk
  obtain ⟨kk, hkn⟩ : ∃ kk, t.k = kk := ⟨_, rfl⟩
  rw [hkn] at HP6 hk6'
  have HKN := hide hkn
  obtain ⟨xi, hxi⟩ : ∃ xi, ix t.x = xi := ⟨_, rfl⟩
  rw [hxi] at HP2 hoo hib
  have HXI := hide hxi
  clear hP hI hL htw hxk hkk hkn hxi hx2 hk6 hoi
  obtain rfl : kk = 4 := by have := HKN.out; omega
  have HKZ : Hid (pickZ t.kind 6 = 4) := by show _ = _; rw [HKK.out, HKN.out]; rfl
  have HT1 := hide htk
  have HT2 := hide hti
  have HTU : Hid (p.turn t.x t.k t.i t.s = match (p.way t.x)[(pickZ t.i (p.way t.x).length).toNat]? with
    | none => p
    | some f => p.lose t.x (pickZ t.i (p.way t.x).length).toNat) := by
    show _ = _
    unfold PR.turn
    rw [if_neg (by rw [hkind]; decide), if_neg (by rw [hkind]; decide), if_neg (by rw [hkind]; decide)]
    cases hget : (p.way t.x)[(pickZ t.i (p.way t.x).length).toNat]? with
    | none => rfl
    | some f => simp [hkind]
  obtain ⟨x, hx⟩ : ∃ x, t.x = x := ⟨_, rfl⟩
  rw [hx] at HTU HXI HOI
  rw [show p.turn t.x t.k t.i t.s = p.turn x t.k t.i t.s by rw [hx]]
  generalize p.turn x t.k t.i t.s = PN at *
  have HX := hide hx
  have HTC : Hid (t.c = #[.int .i64 t.kind, .int .i64 t.who, .int .i64 t.i, .string t.s]) := rfl
  clear hx hkind htk hti HKK HXK
  obtain ⟨tk, tw, ti, ts⟩ := t
  simp only [TN.v, TN.c] at *
  go_enter Try.func22, Try.ntmps22
  go_wp2_with fail
  refine (HP2.out _).mono ?_
  rintro e w1 ⟨rfl, hw1⟩
  obtain rfl := hw1.symm
  clear hw1
  go_wp2_with fail
  refine (HP6.out _).mono ?_
  rintro e w1 ⟨rfl, hw1⟩
  obtain rfl := hw1.symm
  clear hw1
  go_upto_region 4 with fail
  rename_i Ko hKo Kr hKr Ki hKi
  have ENDS : Hid (∀ (a : Act) (W : World) (G' : PG) (rr : Nat → Nat) v7 v8 v9 v10 v11 v19, FT a G.pb w.heap.size xi oi v7 v8 v9 v10 v11 v19 → a.tmps.getD 4 undef = .bool true → PT B W G' rr PN w.heap.size ⟨tk, tw, ti, ts⟩ → G'.pb = G.pb → Below B w W → bodyPost Try.prog Try.f22 (fun e w' => e = .returned (.bool true) ∧ ∃ G' r', PA B w' G' r' PN ∧ G'.pb = G.pb ∧ Below B w w') .ret a W) := fun a W G' rr v7 v8 v9 v10 v11 v19 hF h4 hP hpb hB => turn_end hF h4 hP hpb hB
  refine reg_mono (turn_r4 (by kernel_rfl) _ ⟨rfl, rfl, rfl, rfl, rfl, rfl, rfl, rfl, rfl, rfl, rfl, rfl⟩ x HXI.out.symm HOI.out.symm P0.out ?_)
  intro a1 F1 h28
  refine hKi _ _ ?_
  by_cases hw : (p.way x).length = 0
  · rw [decide_eq_true hw] at h28
    refine wp_cond_true h28 (wp_seq (reg_mono (turn_r5 (by kernel_rfl) _ F1 ?_)))
    intro a2 F2 h4
    refine wp_ret ?_
    have e1 : PN = p := by
      rw [HTU.out, List.eq_nil_of_length_eq_zero hw]
      rfl
    rw [← e1] at P0
    exact ENDS.out _ _ _ _ _ _ _ _ _ _ F2 h4 P0.out rfl BB.out
  · rw [decide_eq_false hw] at h28
    refine wp_cond_false h28 (wp_skip ?_)
    refine hKr _ _ ?_
    have hlw := HL.out.way x
    refine wp_seq (reg_mono (turn_r6 (by kernel_rfl) _ F1 x HXI.out.symm HOI.out.symm P0.out HT2.out ⟨by omega, by omega⟩ ?_))
    intro a2 F2
    have hzr := pickZ_range ti (p.way x).length (by omega)
    obtain ⟨i, hi⟩ : ∃ i : Nat, pickZ ti (p.way x).length = (i : Int) := ⟨(pickZ ti (p.way x).length).toNat, by omega⟩
    have hil : i < (p.way x).length := by omega
    rw [hi] at F2
    have HTV : Hid (PN = p.lose x i) := by
      show _ = _
      rw [HTU.out, hi, Int.toNat_natCast, List.getElem?_eq_getElem hil]
    refine wp_seq (reg_mono (turn_r7 (by kernel_rfl) _ F2 x HXI.out.symm HOI.out.symm P0.out.drew hil ?_))
    intro a3 F3
    obtain ⟨f, hf⟩ : ∃ f, (p.way x)[i] = f := ⟨_, rfl⟩
    have hmem : f ∈ p.way x := by rw [← hf]; exact List.getElem_mem hil
    try rw [hf] at HTV
    rw [hf]
    have P3 := hide (P0.out.drew.fresh)
    generalize hW2 : (w.alloc (.cells #[.int .i64 tk, .int .i64 tw, .int .i64 ti, .string ts] 52)).drew = W2 at *
    have hBB2 : Below B w W2 := by rw [← hW2]; exact BB.out.drew
    have P4 : Hid (PT B (W2.alloc (.cells #[.int .i64 f.epoch, .int .i64 f.peer, .int .i64 f.seq, .int .i64 f.ack, .string f.body] 31)) G (upd (upd r w.heap.size none 0) W2.heap.size none 0) p w.heap.size ⟨tk, tw, ti, ts⟩) := P3.out.below ((Below.refl _ W2).alloc (Nat.le_refl _) _)
    have X4 : Hid ((W2.alloc (.cells #[.int .i64 f.epoch, .int .i64 f.peer, .int .i64 f.seq, .int .i64 f.ack, .string f.body] 31)).heap[W2.heap.size]? = some (.cells #[.int .i64 f.epoch, .int .i64 f.peer, .int .i64 f.seq, .int .i64 f.ack, .string f.body] 31 (0, 0))) := heap_alloc_new W2 _
    have R4 : Hid (upd (upd r w.heap.size none 0) W2.heap.size none 0 W2.heap.size = 0) := by unfold upd; show _ = _; rw [if_pos (Nat.le_refl _), if_neg (by simp)]
    have B4 : Hid (Below B w (W2.alloc (.cells #[.int .i64 f.epoch, .int .i64 f.peer, .int .i64 f.seq, .int .i64 f.ack, .string f.body] 31))) := hBB2.alloc (Nat.le_trans P3.out.pa.size (Nat.le_refl _)) _
    clear P3 P0
    generalize W2.alloc (.cells #[.int .i64 f.epoch, .int .i64 f.peer, .int .i64 f.seq, .int .i64 f.ack, .string f.body] 31) = W4 at *
    generalize upd (upd r w.heap.size none 0) W2.heap.size none 0 = r4 at *
    generalize W2.heap.size = fb at *
    have hfok := (HI.out.frames x f hmem)
    have hfr : f.rightP := hfok.right HI.out
    have hfo : f.ok := by obtain ⟨_, _, _, _, _, _, _, _, h9, _⟩ := hfr; unfold FR.ok; omega
    refine wp_seq (wp_seq (reg_mono (turn_r8 (by kernel_rfl) _ F3 x HXI.out.symm HOI.out.symm P4.out HT1.out ?_)))
    intro a4 F4 h53
    rw [HKZ.out] at h53
    refine wp_cond_true h53 ?_
    refine reg_all (turn_r9 (by kernel_rfl) _ F4 x HXI.out.symm HOI.out.symm P4.out hil (by omega) ?_)
    intro a5 w5 v5 r5 F5 P5 N5 B5
    show Code.wp _ _ _ _ _
    refine wp_seq (wp_seq (reg_mono (turn_r10 (G := { G with wv := set G.wv x v5 }) (by kernel_rfl) _ F5 x HXI.out.symm HOI.out.symm P5 HT1.out ?_)))
    intro a6 F6 h84
    rw [HKZ.out] at h84
    refine wp_cond_true h84 (wp_seq (reg_mono (turn_r11 (by kernel_rfl) _ F6 ?_)))
    intro a7 F7 h4
    refine wp_ret ?_
    have P6 := P5
    rw [show ({ p with way := set p.way x ((p.way x).take i ++ (p.way x).drop (i + 1)) } : PR) = PN from HTV.out.symm] at P6
    exact ENDS.out _ _ _ _ _ _ _ _ _ _ F7 h4 P6 rfl (B4.out.trans B5)
set_option maxHeartbeats 8000000 in
set_option maxRecDepth 100000 in
theorem turn_k5 {B : BE} {w : World} {G : PG} {r : Nat → Nat} {p : PR} (t : TN) (ht : t.ok) (hP : PA B w G r p) (hI : Inv p) (hL : Lens p) (hkind : t.k = 5) :
    Calls Try.prog 22 #[.pointer (some ⟨G.pb, 0, none⟩), t.v] w fun e w' => e = .returned (.bool true) ∧ ∃ G' r', PA B w' G' r' (p.turn t.x t.k t.i t.s) ∧ G'.pb = G.pb ∧ Below B w w' := by
  obtain ⟨htk, htw, hti, _⟩ := ht
  have HI := hide hI
  have HL := hide hL
  have hx2 := pickZ_range t.who 2 (by omega)
  have hk6 := pickZ_range t.kind 6 (by omega)
  have HP2 := hide (fun W => pick_any t.who 2 W htw (by omega))
  have HP6 := hide (fun W => pick_any t.kind 6 W htk (by omega))
  have hxk : pickZ t.who 2 = (ix t.x : Int) := by
    unfold TN.x
    by_cases e : pickZ t.who 2 = 1
    · rw [decide_eq_true e, e]; rfl
    · rw [decide_eq_false e]; show _ = (0 : Int); omega
  have hkk : pickZ t.kind 6 = (t.k : Int) := by unfold TN.k; omega
  have hk6' : t.k < 6 := by omega
  rw [hxk] at HP2
  rw [hkk] at HP6
  have P0 : Hid (PT B (w.alloc (.cells t.c 52)) G (upd r w.heap.size none 0) p w.heap.size t) := ⟨hP.fresh.alloc _, heap_alloc_new w _, by unfold upd; rw [if_pos (Nat.le_refl _), if_neg (by simp)], hP.size⟩
  have BB : Hid (Below B w (w.alloc (.cells t.c 52))) := (Below.refl _ _).alloc hP.size _
  obtain ⟨oi, hoi⟩ : ∃ oi, ix (!t.x) = oi := ⟨_, rfl⟩
  have hoo : (1 : Int) - (ix t.x : Int) = (oi : Int) := by have h1 := ix_lt t.x; have h2 := ix_not t.x; omega
  have HOI := hide hoi
  have hib := ix_lt t.x
  have HXK := hide hxk
  have HKK := hide hkk
  obtain ⟨kk, hkn⟩ : ∃ kk, t.k = kk := ⟨_, rfl⟩
  rw [hkn] at HP6 hk6'
  have HKN := hide hkn
  obtain ⟨xi, hxi⟩ : ∃ xi, ix t.x = xi := ⟨_, rfl⟩
  rw [hxi] at HP2 hoo hib
  have HXI := hide hxi
  clear hP hI hL htw hxk hkk hkn hxi hx2 hk6 hoi
  obtain rfl : kk = 5 := by have := HKN.out; omega
  have HKZ : Hid (pickZ t.kind 6 = 5) := by show _ = _; rw [HKK.out, HKN.out]; rfl
  have HT1 := hide htk
  have HT2 := hide hti
  have HTU : Hid (p.turn t.x t.k t.i t.s = match (p.way t.x)[(pickZ t.i (p.way t.x).length).toNat]? with
    | none => p
    | some f => p.take t.x f) := by
    show _ = _
    unfold PR.turn
    rw [if_neg (by rw [hkind]; decide), if_neg (by rw [hkind]; decide), if_neg (by rw [hkind]; decide)]
    cases hget : (p.way t.x)[(pickZ t.i (p.way t.x).length).toNat]? with
    | none => rfl
    | some f => simp [hkind]
  obtain ⟨x, hx⟩ : ∃ x, t.x = x := ⟨_, rfl⟩
  rw [hx] at HTU HXI HOI
  rw [show p.turn t.x t.k t.i t.s = p.turn x t.k t.i t.s by rw [hx]]
  generalize p.turn x t.k t.i t.s = PN at *
  have HX := hide hx
  have HTC : Hid (t.c = #[.int .i64 t.kind, .int .i64 t.who, .int .i64 t.i, .string t.s]) := rfl
  clear hx hkind htk hti HKK HXK
  obtain ⟨tk, tw, ti, ts⟩ := t
  simp only [TN.v, TN.c] at *
  go_enter Try.func22, Try.ntmps22
  go_wp2_with fail
  refine (HP2.out _).mono ?_
  rintro e w1 ⟨rfl, hw1⟩
  obtain rfl := hw1.symm
  clear hw1
  go_wp2_with fail
  refine (HP6.out _).mono ?_
  rintro e w1 ⟨rfl, hw1⟩
  obtain rfl := hw1.symm
  clear hw1
  go_upto_region 4 with fail
  rename_i Ko hKo Kr hKr Ki hKi
  have ENDS : Hid (∀ (a : Act) (W : World) (G' : PG) (rr : Nat → Nat) v7 v8 v9 v10 v11 v19, FT a G.pb w.heap.size xi oi v7 v8 v9 v10 v11 v19 → a.tmps.getD 4 undef = .bool true → PT B W G' rr PN w.heap.size ⟨tk, tw, ti, ts⟩ → G'.pb = G.pb → Below B w W → bodyPost Try.prog Try.f22 (fun e w' => e = .returned (.bool true) ∧ ∃ G' r', PA B w' G' r' PN ∧ G'.pb = G.pb ∧ Below B w w') .ret a W) := fun a W G' rr v7 v8 v9 v10 v11 v19 hF h4 hP hpb hB => turn_end hF h4 hP hpb hB
  refine reg_mono (turn_r4 (by kernel_rfl) _ ⟨rfl, rfl, rfl, rfl, rfl, rfl, rfl, rfl, rfl, rfl, rfl, rfl⟩ x HXI.out.symm HOI.out.symm P0.out ?_)
  intro a1 F1 h28
  refine hKi _ _ ?_
  by_cases hw : (p.way x).length = 0
  · rw [decide_eq_true hw] at h28
    refine wp_cond_true h28 (wp_seq (reg_mono (turn_r5 (by kernel_rfl) _ F1 ?_)))
    intro a2 F2 h4
    refine wp_ret ?_
    have e1 : PN = p := by
      rw [HTU.out, List.eq_nil_of_length_eq_zero hw]
      rfl
    rw [← e1] at P0
    exact ENDS.out _ _ _ _ _ _ _ _ _ _ F2 h4 P0.out rfl BB.out
  · rw [decide_eq_false hw] at h28
    refine wp_cond_false h28 (wp_skip ?_)
    refine hKr _ _ ?_
    have hlw := HL.out.way x
    refine wp_seq (reg_mono (turn_r6 (by kernel_rfl) _ F1 x HXI.out.symm HOI.out.symm P0.out HT2.out ⟨by omega, by omega⟩ ?_))
    intro a2 F2
    have hzr := pickZ_range ti (p.way x).length (by omega)
    obtain ⟨i, hi⟩ : ∃ i : Nat, pickZ ti (p.way x).length = (i : Int) := ⟨(pickZ ti (p.way x).length).toNat, by omega⟩
    have hil : i < (p.way x).length := by omega
    rw [hi] at F2
    have HTV : Hid (PN = p.take x ((p.way x)[i])) := by
      show _ = _
      rw [HTU.out, hi, Int.toNat_natCast, List.getElem?_eq_getElem hil]
    refine wp_seq (reg_mono (turn_r7 (by kernel_rfl) _ F2 x HXI.out.symm HOI.out.symm P0.out.drew hil ?_))
    intro a3 F3
    obtain ⟨f, hf⟩ : ∃ f, (p.way x)[i] = f := ⟨_, rfl⟩
    have hmem : f ∈ p.way x := by rw [← hf]; exact List.getElem_mem hil
    try rw [hf] at HTV
    rw [hf]
    have P3 := hide (P0.out.drew.fresh)
    generalize hW2 : (w.alloc (.cells #[.int .i64 tk, .int .i64 tw, .int .i64 ti, .string ts] 52)).drew = W2 at *
    have hBB2 : Below B w W2 := by rw [← hW2]; exact BB.out.drew
    have P4 : Hid (PT B (W2.alloc (.cells #[.int .i64 f.epoch, .int .i64 f.peer, .int .i64 f.seq, .int .i64 f.ack, .string f.body] 31)) G (upd (upd r w.heap.size none 0) W2.heap.size none 0) p w.heap.size ⟨tk, tw, ti, ts⟩) := P3.out.below ((Below.refl _ W2).alloc (Nat.le_refl _) _)
    have X4 : Hid ((W2.alloc (.cells #[.int .i64 f.epoch, .int .i64 f.peer, .int .i64 f.seq, .int .i64 f.ack, .string f.body] 31)).heap[W2.heap.size]? = some (.cells #[.int .i64 f.epoch, .int .i64 f.peer, .int .i64 f.seq, .int .i64 f.ack, .string f.body] 31 (0, 0))) := heap_alloc_new W2 _
    have R4 : Hid (upd (upd r w.heap.size none 0) W2.heap.size none 0 W2.heap.size = 0) := by unfold upd; show _ = _; rw [if_pos (Nat.le_refl _), if_neg (by simp)]
    have B4 : Hid (Below B w (W2.alloc (.cells #[.int .i64 f.epoch, .int .i64 f.peer, .int .i64 f.seq, .int .i64 f.ack, .string f.body] 31))) := hBB2.alloc (Nat.le_trans P3.out.pa.size (Nat.le_refl _)) _
    clear P3 P0
    generalize W2.alloc (.cells #[.int .i64 f.epoch, .int .i64 f.peer, .int .i64 f.seq, .int .i64 f.ack, .string f.body] 31) = W4 at *
    generalize upd (upd r w.heap.size none 0) W2.heap.size none 0 = r4 at *
    generalize W2.heap.size = fb at *
    have hfok := (HI.out.frames x f hmem)
    have hfr : f.rightP := hfok.right HI.out
    have hfo : f.ok := by obtain ⟨_, _, _, _, _, _, _, _, h9, _⟩ := hfr; unfold FR.ok; omega
    refine wp_seq (wp_seq (reg_mono (turn_r8 (by kernel_rfl) _ F3 x HXI.out.symm HOI.out.symm P4.out HT1.out ?_)))
    intro a4 F4 h53
    rw [HKZ.out] at h53
    refine wp_cond_false h53 (wp_skip ?_)
    obtain ⟨a5, ha5⟩ : ∃ a5, a5 = a4 := ⟨_, rfl⟩
    have F5 := F4
    obtain rfl := ha5.symm
    obtain ⟨w5, hw5⟩ : ∃ w5, w5 = W4 := ⟨_, rfl⟩
    obtain rfl := hw5.symm
    have R5 := R4
    have X5 := X4
    have P5 := P4
    have BB5 := B4
    have HQI := HI
    have HQF := hide hfok
    obtain ⟨GQ, hGQ⟩ : ∃ GQ : PG, GQ = G := ⟨_, rfl⟩
    have hpq : GQ.pb = G.pb := by rw [hGQ]
    rw [← hGQ] at P5
    rw [← hpq] at F5
    obtain ⟨PQ, hPQ⟩ : ∃ PQ : PR, PQ = p := ⟨_, rfl⟩
    rw [← hPQ] at P5 HQI HQF HTV
    have HQS : Hid (PQ.sent = p.sent ∧ PQ.told = p.told) := by rw [hPQ]; exact ⟨rfl, rfl⟩
    show Code.wp _ _ _ _ _
    refine wp_seq (wp_seq (reg_mono (turn_r10 (G := GQ) (by kernel_rfl) _ F5 x HXI.out.symm HOI.out.symm P5.out HT1.out ?_)))
    intro a6 F6 h84
    rw [HKZ.out] at h84
    refine wp_cond_false h84 (wp_skip ?_)
    show Code.wp _ _ _ _ _
    refine wp_seq (reg_mono (turn_r12 (G := GQ) (by kernel_rfl) _ F6 x HXI.out.symm HOI.out.symm P5.out X5.out R5.out hfo ?_))
    intro a7 w7 v7 r7 ao cp F7 P7 R7 N7 B7
    obtain ⟨ht1, ht2⟩ := take_of HQI.out HQF.out
    rw [ht1] at F7
    obtain ⟨ys, hys⟩ : ∃ ys, ((PQ.l x).take f).1.1 = ys := ⟨_, rfl⟩
    rw [hys] at F7 R7 N7 ht2
    have hpre : PQ.told x ++ ys <+: PQ.sent (!x) := by
      have := ht2.pre x
      simp only [set_same] at this
      exact this
    have hple := hpre.length_le
    have hsl := HL.out.sent (!x)
    rw [← HQS.out.1] at hsl
    rw [List.length_append] at hple
    have HPN : Hid (PN = { PQ with l := set PQ.l x ((PQ.l x).take f).2, told := set PQ.told x (PQ.told x ++ ys) }) := by show _ = _; rw [HTV.out, ← hys]; rfl
    refine wp_seq (reg_mono (turn_r13 (G := { GQ with v := set GQ.v x v7 }) (by kernel_rfl) _ F7 x HXI.out.symm HOI.out.symm P7 (by show (PQ.told x).length ≤ _; omega) (by omega) R7 ?_))
    intro a8 w8 v8 r8 F8 P8x B8
    have P8 := hide P8x
    clear P8x
    rw [show ({ ({ PQ with l := set PQ.l x ((PQ.l x).take f).2 } : PR) with told := set ({ PQ with l := set PQ.l x ((PQ.l x).take f).2 } : PR).told x (({ PQ with l := set PQ.l x ((PQ.l x).take f).2 } : PR).told x ++ ys) } : PR) = PN from HPN.out.symm] at P8
    obtain ⟨G8, hG8⟩ : ∃ G8 : PG, G8 = { ({ GQ with v := set GQ.v x v7 } : PG) with tv := set ({ GQ with v := set GQ.v x v7 } : PG).tv x v8 } := ⟨_, rfl⟩
    have hp8 : G8.pb = G.pb := by rw [hG8]; exact hpq
    have F8' : FT a8 G8.pb w.heap.size xi oi (.int .i64 (i : Int)) (.pointer (some ⟨fb, 0, none⟩)) (.slice ao ys.length cp) (.bool false) undef (.int .i64 ((5 : Nat) : Int)) := by rw [hG8]; exact F8
    rw [← hG8] at P8
    have hpn : PN.told x <+: PN.sent (!x) := by rw [HPN.out]; simp only [set_same]; exact hpre
    have hpnl := hpn.length_le
    have hpns : (PN.sent (!x)).length ≤ 90000 := by rw [HPN.out]; exact hsl
    have BB8 := hide (BB5.out.trans (B7.trans B8))
    refine wp_seq (wp_seq (reg_mono (turn_r14 (G := G8) (by kernel_rfl) _ F8' x HXI.out.symm HOI.out.symm P8.out hpnl ?_)))
    intro a9 F9 h131
    refine wp_cond_false h131 (wp_skip ?_)
    show Code.wp _ _ _ _ _
    refine wp_seq (reg_mono (turn_r16 (G := G8) (by kernel_rfl) _ F9 ?_))
    intro a10 F10
    refine wp_block (wp_loop (fun a W => ∃ j : Nat, j ≤ (PN.told x).length ∧ FT a G8.pb w.heap.size xi oi (.int .i64 (i : Int)) (.pointer (some ⟨fb, 0, none⟩)) (.slice ao ys.length cp) (.bool false) (.int .i64 (j : Int)) (.int .i64 ((5 : Nat) : Int)) ∧ PT B W G8 r8 PN w.heap.size ⟨tk, tw, ti, ts⟩ ∧ Below B w W) (fun a _ => (PN.told x).length - (intOf (a.tmps.getD 11 undef)).toNat) ⟨0, Nat.zero_le _, F10, P8.out.drew, BB8.out.drew⟩ ?_)
    rintro a11 w11 ⟨j, hj, F11, P11, B11⟩
    refine wp_seq (wp_seq (reg_mono (turn_r17 (G := G8) (by kernel_rfl) _ F11 x HXI.out.symm HOI.out.symm P11 ?_)))
    intro a12 F12 h141
    have hm11 : (intOf (a11.tmps.getD 11 undef)).toNat = j := by rw [F11.s11]; simp [intOf]
    by_cases hlt : j < (PN.told x).length
    · rw [decide_eq_true hlt] at h141
      refine wp_cond_true h141 (wp_skip ?_)
      show Code.wp _ _ _ _ _
      refine wp_seq (wp_block (wp_seq (reg_mono (turn_r19 (G := G8) (by kernel_rfl) _ F12 x HXI.out.symm HOI.out.symm P11 hlt hpn ?_))))
      intro a13 F13 h164
      refine wp_cond_false h164 (wp_skip ?_)
      show Code.wp _ _ _ _ _
      refine reg_all (turn_r18 (G := G8) (by kernel_rfl) _ F13 (by omega) ?_)
      intro a14 F14
      refine ⟨⟨j + 1, by omega, F14, P11.drew, B11.drew⟩, ?_⟩
      have hm14 : (intOf (a14.tmps.getD 11 undef)).toNat = j + 1 := by rw [F14.s11]; simp only [intOf]; omega
      rw [hm14, hm11]
      omega
    · rw [decide_eq_false hlt] at h141
      refine wp_cond_false h141 (wp_exit ?_)
      show Ko _ _
      refine hKo _ _ ?_
      refine wp_seq (reg_mono (turn_r28 (G := G8) (by kernel_rfl) _ F12 ?_))
      intro a15 F15 h4
      refine wp_ret ?_
      rw [hp8] at F15
      exact ENDS.out _ _ _ _ _ _ _ _ _ _ F15 h4 P11 hp8 B11
end Go.Proofs.Ythgfijmpofbchaa
