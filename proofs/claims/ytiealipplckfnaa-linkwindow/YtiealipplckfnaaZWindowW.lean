/-
  LinkWindow as it runs (mkwin.py).
-/
import Derived.Test.YtiealipplckfnaaZTB
import Derived.Test.YtiealipplckfnaaZTK
import Derived.LoopTactic
namespace Go.Proofs.Ytiealipplckfnaa
open Go.RowKit

/-- Behind i turns. -/
def Run (w0 : World) (pb i : Nat) (w : World) : Prop := ∃ G r p, PA ⟨w0.heap.size, fun _ => none⟩ w G r p ∧ G.pb = pb ∧ @Inv Ep.a p ∧ @Lz i p ∧ Below w0.heap.size w0 w
theorem run_begin (w : World) : Calls Try.prog 22 #[] w fun e w' => ∃ pb, e = .returned (.pointer (some ⟨pb, 0, none⟩)) ∧ Run w pb 0 w' := by
  refine (begin_any w).mono ?_
  rintro e w' ⟨G, r, rfl, h1, h2⟩
  exact ⟨_, rfl, G, r, _, h1, rfl, @inv_begin Ep.a, @lz_begin Ep.a, h2⟩
def kept (d : Nat) (x : Obj) : Nat → Option Obj := fun j => if j = d then some x else none
theorem Run.box {w0 w : World} {pb i : Nat} (h : Run w0 pb i w) (x : Obj) : ∃ G r p, PA ⟨w0.heap.size, kept w.heap.size x⟩ (w.alloc x) G r p ∧ G.pb = pb ∧ @Inv Ep.a p ∧ @Lz i p ∧ Below w0.heap.size w0 (w.alloc x) := by
  obtain ⟨G, r, p, h1, h2, h3, h4, h5⟩ := h
  refine ⟨G, _, p, (h1.fresh.alloc x).again (kept w.heap.size x) fun j o hj => ?_, h2, h3, h4, h5.alloc h5.size x⟩
  unfold kept at hj
  split at hj
  · rename_i e
    subst e
    injection hj with hj
    subst hj
    exact ⟨heap_alloc_new w _, by unfold upd; rw [if_pos (Nat.le_refl _), if_neg (by simp)]⟩
  · cases hj
theorem kept_at (d : Nat) (x : Obj) : kept d x d = some x := if_pos rfl
/-- What LinkWindow asks of a frame, by its place. -/
theorem window_at {p : PR} (h : @Inv Ep.a p) (x : Bool) (k : Nat) (hk : k < ((p.pt x).way (!x)).length) (hb : (p.way (!x)).length ≤ k) : ∃ f : FR, ((p.pt x).way (!x))[k] = f ∧ f.epoch = @ep Ep.a x ∧ f.peer = ((p.pt x).l x).peer ∧ f.ack = ((p.pt x).told x).length ∧ f.seq ≤ (((p.l x).first - 1 : Nat) : Int) + 8 ∧ (f.seq ≤ 0 ∨ ∃ j, ∃ hj : j < ((p.pt x).sent x).length, f.seq = (j : Int) + 1 ∧ (((p.l x).first - 1 : Nat) : Int) < (j : Int) + 1 ∧ f.body = ((p.pt x).sent x)[j]) := by
  have e1 : (p.pt x).way (!x) = p.way (!x) ++ (p.l x).outs := set_same _ _ _
  have e2 : ((p.pt x).l x).peer = (p.l x).peer := by
    show (set p.l x (p.l x).put x).peer = _
    rw [set_same]
    unfold LK.put
    split <;> rfl
  have hm : ((p.pt x).way (!x))[k] ∈ (p.l x).outs := by
    have hk2 : k < (p.way (!x) ++ (p.l x).outs).length := by rw [← e1]; exact hk
    have : ((p.pt x).way (!x))[k] = (p.way (!x) ++ (p.l x).outs)[k] := by simp only [e1]
    rw [this, List.getElem_append_right hb]
    exact List.getElem_mem _
  have hw := @outs_window Ep.a p h x _ hm
  have h1 := @Inv.one Ep.a _ h x
  refine ⟨_, rfl, hw.1, by rw [e2]; exact hw.2.1, hw.2.2.1, by have := hw.2.2.2.1; omega, ?_⟩
  by_cases hs : ((p.pt x).way (!x))[k].seq ≤ 0
  · exact .inl hs
  · obtain ⟨h3, j, hj, h4, h5⟩ := hw.2.2.2.2 (by omega)
    exact .inr ⟨j, hj, h4, by omega, h5⟩
theorem two_ways (c : Int) : pickZ c 2 = 0 ∨ pickZ c 2 = 1 := by have := pickZ_range c 2 (by omega); omega
theorem app_len {p : PR} (x : Bool) : (p.way (!x)).length ≤ ((p.pt x).way (!x)).length := by
  have e1 : (p.pt x).way (!x) = p.way (!x) ++ (p.l x).outs := set_same _ _ _
  rw [e1, List.length_append]
  omega
set_option maxHeartbeats 16000000 in
set_option maxRecDepth 100000 in
set_option linter.unusedSimpArgs false in
theorem window_walk (ao : Option Addr) (cp : Nat) (l : List TN) (w : World) (hcm : Turns w ao l) :
    Calls Try.prog 5 #[.slice ao l.length cp] w fun e w' => e = .returned (.bool true) ∧ Below w.heap.size w w' := by
  have HE := hide (examples_any w)
  have HCM := hide hcm
  have hlen := hcm.len
  clear hcm
  go_enter Try.func5, Try.ntmps5
  go_wp2_with fail
  refine HE.out.mono ?_
  rintro e w0 ⟨rfl, be⟩
  have BE := hide be
  clear be HE
  go_wp2_with fail
  refine (run_begin w0).mono ?_
  rintro e w1 ⟨pb, rfl, r1⟩
  have R1 := hide r1
  clear r1
  go_wp2
  go_loopw [5] (fun iv wv => ∃ i : Nat, iv = .int .i64 i ∧ i ≤ 200 ∧ Hid (Run w0 pb i wv)) (fun iv _ => 200 - (intOf iv).toNat)
  case atStart => exact ⟨0, rfl, Nat.zero_le _, R1⟩
  case round =>
    clear R1
    obtain ⟨i, rfl, hi, R⟩ := hrel
    by_cases hlt : i < l.length ∧ i < 200
    · obtain ⟨hl1, hl2⟩ := hlt
      have hb := R.out
      obtain ⟨_, _, _, _, _, _, _, hb⟩ := hb
      have hdd := HCM.out.all.below (BE.out.trans (hb.mono BE.out.size)) i hl1
      have hok := HCM.out.ok l[i] (List.getElem_mem hl1)
      clear hb
      obtain ⟨kb, off, rfl, hkb, d0, d1, d2, d3⟩ := hdd
      have hi0 : (0 : Int) ≤ (i : Int) := by omega
      have hi1 : (i : Int) < (l.length : Int) := by omega
      have hi2 : (i : Int) < 200 := by omega
      have hin : i ≤ 10000 := by omega
      generalize l[i] = u at *
      obtain ⟨tk, tw, ti, ts⟩ := u
      simp only at d0 d1 d2 d3
      have hkk : -9223372036854775808 ≤ tk ∧ tk ≤ 9223372036854775807 := hok.1
      have hww : -9223372036854775808 ≤ tw ∧ tw ≤ 9223372036854775807 := hok.2.1
      have HOK := hide hok
      clear hok
      obtain ⟨G, r, p, hP, rfl, hI, hL, hB⟩ := R.out.box (.cells #[.int .i64 tk, .int .i64 tw, .int .i64 ti, .string ts] 52)
      go_wp2_with fail
      generalize wr.alloc (.cells #[.int .i64 tk, .int .i64 tw, .int .i64 ti, .string ts] 52) = W1 at *
      generalize wr.heap.size = d at *
      clear R d0 d1 d2 d3 hkb
      have HP := hide hP
      have HI := hide hI
      have HL := hide hL
      have HB := hide hB
      clear hP hI hL hB
      have xb := (HP.out.ex d _ (kept_at _ _)).1
      have x0 := box_cell xb 0 rfl
      have x1 := box_cell xb 1 rfl
      have x2 := box_cell xb 2 rfl
      have x3 := box_cell xb 3 rfl
      have HT := hide (@turn_any Ep.a _ _ _ _ _ _ ⟨tk, tw, ti, ts⟩ HOK.out HP.out HI.out HL.out hin)
      simp only [TN.v, TN.c] at HT
      clear xb
      refine (pick_any _ _ _ hww (by omega)).mono ?_
      rintro e w' ⟨rfl, hw'⟩
      obtain rfl := hw'.symm
      clear hw'
      rcases two_ways tw with hpw | hpw
      · have htx : (TN.mk tk tw ti ts).x = false := by unfold TN.x; simp only [hpw]; rfl
        rw [htx] at HT
        clear htx
        rw [hpw]
        obtain ⟨q0, q1, q2, q3⟩ := HP.out.cp
        have ql : W1.cell? ⟨G.lb, 0, none⟩ = some (.pointer (some ⟨G.b false, 0, none⟩)) := HP.out.cl false
        obtain ⟨aw, cw, hwv⟩ := row_slice (HP.out.way true)
        have qw : W1.cell? ⟨G.wb, 1, none⟩ = some (G.wv true) := HP.out.cw true
        rw [hwv] at qw
        clear hwv
        have HN : Hid ((p.way true).length = (p.way true).length) := rfl
        go_wp2_with fail
        refine (pwaiting (HP.out.link false)).mono ?_
        rintro e w' ⟨rfl, hw'⟩
        obtain rfl := hw'.symm
        clear hw'
        go_wp2_with fail
        refine HT.out.mono ?_
        rintro e w3 ⟨rfl, ⟨G', r', k1, k2⟩, k3, k4, k5⟩
        have P3 := hide k1
        have I3 := hide k3
        have L3 := hide k4
        have B3 := hide (HB.out.trans k5)
        have K2 := hide k2
        clear k1 k3 k4 k5 HT q0 q1 q2 q3 ql qw x0 x1 x2 x3 HN HB
        have hmost := @Inv.most Ep.a _ I3.out false
        obtain ⟨q0, q1, q2, q3⟩ := P3.out.cp
        rw [K2.out] at q0 q1 q2 q3
        have ql : w3.cell? ⟨G'.lb, 0, none⟩ = some (.pointer (some ⟨G'.b false, 0, none⟩)) := P3.out.cl false
        have xb := (P3.out.ex d _ (kept_at _ _)).1
        have x0 := box_cell xb 0 rfl
        clear xb k2
        have hm32 : ¬ ((((p.turn false (TN.mk tk tw ti ts).k ti ts).l false).wait.length : Nat) : Int) > 32 := by omega
        go_wp2_with fail
        refine (pwaiting (P3.out.link false)).mono ?_
        rintro e w' ⟨rfl, hw'⟩
        obtain rfl := hw'.symm
        clear hw'
        go_wp2_with fail
        refine (pick_any _ _ _ hkk (by omega)).mono ?_
        rintro e w' ⟨rfl, hw'⟩
        obtain rfl := hw'.symm
        clear hw' hm32 hmost
        by_cases hk1 : pickZ tk 6 = 1
        · have htk : (TN.mk tk tw ti ts).k = 1 := by unfold TN.k; simp only [hk1]; rfl
          have htp : p.turn false (TN.mk tk tw ti ts).k ti ts = p.pt false := by rw [htk]; rfl
          rw [htp] at P3 I3 L3 ⊢
          clear htk htp
          obtain ⟨as1, cs1, hsv⟩ := row_slice (P3.out.sent false)
          have qs : w3.cell? ⟨G'.sb, 0, none⟩ = some (G'.sv false) := P3.out.cs false
          rw [hsv] at qs
          have SV := hide hsv
          clear hsv
          have WIN := hide (window_at HI.out false)
          have hAA := @waits_le Ep.a p HI.out false
          have hAL := @Inv.len Ep.a _ HI.out false
          have hA1 := @Inv.one Ep.a _ HI.out false
          have hAN := @Inv.many Ep.a _ HI.out false
          have hA : (((p.pt false).sent false).length : Int) - ((p.l false).wait.length : Int) = (((p.l false).first - 1 : Nat) : Int) := by show ((p.sent false).length : Int) - _ = _; omega
          have hAb : (((p.l false).first - 1 : Nat) : Int) ≤ 1000001 := by omega
          have hwn : ((p.l false).wait.length : Int) ≤ 1000001 := by omega
          have hsn : (((p.pt false).sent false).length : Int) ≤ 1000001 := by show ((p.sent false).length : Int) ≤ _; omega
          have hnb : (p.way true).length ≤ ((p.pt false).way true).length := app_len false
          have hnw := @Lz.way _ _ L3.out true
          generalize (p.l false).wait.length = wn at *
          generalize (p.l false).first - 1 = A at *
          have hnw2 : (((p.pt false).way true).length : Int) ≤ 100000 := by omega
          change Hid (∀ k (hk : k < ((p.pt false).way true).length), (p.way true).length ≤ k → _) at WIN
          generalize (p.way true).length = nb at *
          generalize p.pt false = pp at *
          clear hAA hAL hA1 hAN hnw HI HL HP
          go_wp2
          go_loopw [12] (fun kv wv => ∃ k : Nat, kv = .int .i64 k ∧ nb ≤ k ∧ k ≤ (pp.way true).length ∧ Hid (PA ⟨w0.heap.size, kept d (.cells #[.int .i64 tk, .int .i64 tw, .int .i64 ti, .string ts] 52)⟩ wv G' r' pp) ∧ Hid (Below w0.heap.size w0 wv)) (fun kv _ => (pp.way true).length - (intOf kv).toNat)
          case atStart => exact ⟨nb, rfl, Nat.le_refl _, hnb, P3, B3⟩
          case round =>
            clear P3 B3 q0 q1 q2 q3 ql x0 qs
            obtain ⟨k, rfl, hkb, hkw, P4, B4⟩ := hrel
            obtain ⟨q0, q1, q2, q3⟩ := P4.out.cp
            rw [K2.out] at q0 q1 q2 q3
            have ql : wr.cell? ⟨G'.lb, 0, none⟩ = some (.pointer (some ⟨G'.b false, 0, none⟩)) := P4.out.cl false
            obtain ⟨aw, cw, hwv⟩ := row_slice (P4.out.way true)
            have qw : wr.cell? ⟨G'.wb, 1, none⟩ = some (G'.wv true) := P4.out.cw true
            have hway := P4.out.way true
            rw [hwv] at qw hway
            clear hwv
            by_cases hlt : k < (pp.way true).length
            · obtain ⟨f, hf, e1, e2, e3, e4, e5⟩ := WIN.out k hlt hkb
              obtain ⟨g, rfl, _, hgl, f0, f1, f2, f3, f4⟩ := fr_at hway k hlt
              have hf : (pp.way true)[k] = f := hf
              rw [hf] at f0 f1 f2 f3 f4
              clear hf hway
              have hk0 : (0 : Int) ≤ (k : Int) := by omega
              have hkl : (k : Int) < ((pp.way true).length : Int) := by omega
              obtain ⟨fe, fp, fs, fa, fbd⟩ := f
              simp only at e1 e2 e3 e4 e5 f0 f1 f2 f3 f4
              replace e1 : fe = 3 := e1
              subst e1 e2 e3
              rcases e5 with e5 | ⟨j, hj, rfl, e6, rfl⟩
              · have g1 : ¬ fs > 0 := by omega
                have g2 : ¬ fs > (A : Int) + 8 := by omega
                have g3 : decide (fs > (A : Int) + 8) = false := decide_eq_false g2
                have g4 : decide ((A : Int) + 8 < fs) = false := g3
                have g5 : decide (fs > 0) = false := decide_eq_false g1
                have g6 : decide (0 < fs) = false := g5
                clear e4 e5
                go_wp2_with fail
                have P5 := hide (P4.out.alloc (.cells #[.int .i64 3, .int .i64 ((pp.l false).peer : Nat), .int .i64 fs, .int .i64 ((pp.told false).length : Nat), .string fbd] 31))
                have fb := heap_alloc_new wr (.cells #[.int .i64 3, .int .i64 ((pp.l false).peer : Nat), .int .i64 fs, .int .i64 ((pp.told false).length : Nat), .string fbd] 31)
                have B5 := hide (B4.out.alloc B4.out.size (.cells #[.int .i64 3, .int .i64 ((pp.l false).peer : Nat), .int .i64 fs, .int .i64 ((pp.told false).length : Nat), .string fbd] 31))
                generalize wr.alloc (.cells #[.int .i64 3, .int .i64 ((pp.l false).peer : Nat), .int .i64 fs, .int .i64 ((pp.told false).length : Nat), .string fbd] 31) = W5 at *
                generalize wr.heap.size = bf at *
                have z0 := box_cell fb 0 rfl
                have z1 := box_cell fb 1 rfl
                have z2 := box_cell fb 2 rfl
                have z3 := box_cell fb 3 rfl
                have z4 := box_cell fb 4 rfl
                obtain ⟨y0, y1, y2, y3⟩ := P5.out.cp
                rw [K2.out] at y0 y1 y2 y3
                have yl : W5.cell? ⟨G'.lb, 0, none⟩ = some (.pointer (some ⟨G'.b false, 0, none⟩)) := P5.out.cl false
                obtain ⟨at3, ct3, htv⟩ := row_slice (P5.out.told false)
                have yt : W5.cell? ⟨G'.tb, 0, none⟩ = some (G'.tv false) := P5.out.ct false
                rw [htv] at yt
                clear htv
                have HPE : Hid (∀ W, Below W5.heap.size W5 W → Calls Try.prog 19 #[.pointer (some ⟨G'.b false, 0, none⟩)] W fun e w' => e = .returned (.int .i64 ((pp.l false).peer : Nat)) ∧ w' = W) := fun W h => ppeer ((P5.out.link false).below h)
                clear fb q0 q1 q2 q3 ql qw f0 f1 f2 f3 f4
                generalize ((pp.l false).peer : Int) = pq at *
                generalize (pp.told false).length = tln at *
                go_quiet (first | (go_at_call 19; refine Calls.quiet_of_same (HPE.out _ (below_drewN (Below.refl _ _) _))))
                go_wp2
                go_roundw
                case rel => exact ⟨k + 1, by go_num, by omega, by omega, P5.out.below (below_drewN (Below.refl _ _) _), below_drewN B5.out _⟩
                case measure => simp [intOf]; omega
              · have g1 : (j : Int) + 1 > 0 := by omega
                have g2 : ¬ (j : Int) + 1 > (A : Int) + 8 := by omega
                have g3 : ¬ (j : Int) + 1 ≤ (A : Int) := by omega
                have g4 : (j : Int) + 1 - 1 = (j : Int) := by omega
                have g5 : (0 : Int) ≤ (j : Int) := by omega
                have g6 : (j : Int) < ((pp.sent false).length : Int) := by omega
                have hjb : (j : Int) ≤ 1000001 := by omega
                have g7 : decide ((j : Int) + 1 > 0) = true := decide_eq_true g1
                have g8 : decide (0 < (j : Int) + 1) = true := g7
                have g9 : decide ((j : Int) + 1 > (A : Int) + 8) = false := decide_eq_false g2
                have ga : decide ((A : Int) + 8 < (j : Int) + 1) = false := g9
                have gb : decide ((j : Int) + 1 ≤ (A : Int)) = false := decide_eq_false g3
                clear e4 e6
                go_wp2_with fail
                have P5 := hide (P4.out.alloc (.cells #[.int .i64 3, .int .i64 ((pp.l false).peer : Nat), .int .i64 ((j : Int) + 1), .int .i64 ((pp.told false).length : Nat), .string (pp.sent false)[j]] 31))
                have fb := heap_alloc_new wr (.cells #[.int .i64 3, .int .i64 ((pp.l false).peer : Nat), .int .i64 ((j : Int) + 1), .int .i64 ((pp.told false).length : Nat), .string (pp.sent false)[j]] 31)
                have B5 := hide (B4.out.alloc B4.out.size (.cells #[.int .i64 3, .int .i64 ((pp.l false).peer : Nat), .int .i64 ((j : Int) + 1), .int .i64 ((pp.told false).length : Nat), .string (pp.sent false)[j]] 31))
                generalize wr.alloc (.cells #[.int .i64 3, .int .i64 ((pp.l false).peer : Nat), .int .i64 ((j : Int) + 1), .int .i64 ((pp.told false).length : Nat), .string (pp.sent false)[j]] 31) = W5 at *
                generalize wr.heap.size = bf at *
                have z0 := box_cell fb 0 rfl
                have z1 := box_cell fb 1 rfl
                have z2 := box_cell fb 2 rfl
                have z3 := box_cell fb 3 rfl
                have z4 := box_cell fb 4 rfl
                obtain ⟨y0, y1, y2, y3⟩ := P5.out.cp
                rw [K2.out] at y0 y1 y2 y3
                have yl : W5.cell? ⟨G'.lb, 0, none⟩ = some (.pointer (some ⟨G'.b false, 0, none⟩)) := P5.out.cl false
                obtain ⟨at3, ct3, htv⟩ := row_slice (P5.out.told false)
                have yt : W5.cell? ⟨G'.tb, 0, none⟩ = some (G'.tv false) := P5.out.ct false
                rw [htv] at yt
                clear htv
                have HPE : Hid (∀ W, Below W5.heap.size W5 W → Calls Try.prog 19 #[.pointer (some ⟨G'.b false, 0, none⟩)] W fun e w' => e = .returned (.int .i64 ((pp.l false).peer : Nat)) ∧ w' = W) := fun W h => ppeer ((P5.out.link false).below h)
                obtain ⟨as3, cs3, hsv3⟩ := row_slice (P5.out.sent false)
                have ys : W5.cell? ⟨G'.sb, 0, none⟩ = some (G'.sv false) := P5.out.cs false
                rw [hsv3] at ys
                obtain ⟨gs, hgs, hs0⟩ := str_at (B := ⟨w0.heap.size, fun _ => none⟩) (P5.out.sent false) hsv3 j hj
                subst hgs
                have ys0 := hs0
                clear hs0 hsv3 WIN hA SV hsn
                generalize (pp.sent false)[j] = sj at *
                clear fb q0 q1 q2 q3 ql qw f0 f1 f2 f3 f4
                generalize ((pp.l false).peer : Int) = pq at *
                generalize (pp.told false).length = tln at *
                go_quiet (first | (go_at_call 19; refine Calls.quiet_of_same (HPE.out _ (below_drewN (Below.refl _ _) _))))
                go_wp2
                go_roundw
                case rel => exact ⟨k + 1, by go_num, by omega, by omega, P5.out.below (below_drewN (Below.refl _ _) _), below_drewN B5.out _⟩
                case measure => simp [intOf]; omega
            · have hlt2 : ¬ (k : Int) < ((pp.way true).length : Int) := by omega
              clear hway
              go_wp2
              go_roundw
              case rel => exact ⟨i + 1, by go_num, by omega, G', r', pp, P4.out.again _ (fun _ _ e => by cases e), K2.out, I3.out, L3.out, B4.out⟩
              case measure => simp [intOf]; omega
        · have hk2 : (pickZ tk 6 == 1) = false := by rw [beq_eq_false_iff_ne]; exact hk1
          have hk3 : (pickZ tk 6 != 1) = true := by rw [bne_iff_ne]; exact hk1
          go_wp2
          go_roundw
          case rel => exact ⟨i + 1, by go_num, by omega, G', r', _, P3.out.again _ (fun _ _ e => by cases e), K2.out, I3.out, L3.out, B3.out⟩
          case measure => simp [intOf]; omega
      · have htx : (TN.mk tk tw ti ts).x = true := by unfold TN.x; simp only [hpw]; rfl
        rw [htx] at HT
        clear htx
        rw [hpw]
        obtain ⟨q0, q1, q2, q3⟩ := HP.out.cp
        have ql : W1.cell? ⟨G.lb, 1, none⟩ = some (.pointer (some ⟨G.b true, 0, none⟩)) := HP.out.cl true
        obtain ⟨aw, cw, hwv⟩ := row_slice (HP.out.way false)
        have qw : W1.cell? ⟨G.wb, 0, none⟩ = some (G.wv false) := HP.out.cw false
        rw [hwv] at qw
        clear hwv
        have HN : Hid ((p.way false).length = (p.way false).length) := rfl
        go_wp2_with fail
        refine (pwaiting (HP.out.link true)).mono ?_
        rintro e w' ⟨rfl, hw'⟩
        obtain rfl := hw'.symm
        clear hw'
        go_wp2_with fail
        refine HT.out.mono ?_
        rintro e w3 ⟨rfl, ⟨G', r', k1, k2⟩, k3, k4, k5⟩
        have P3 := hide k1
        have I3 := hide k3
        have L3 := hide k4
        have B3 := hide (HB.out.trans k5)
        have K2 := hide k2
        clear k1 k3 k4 k5 HT q0 q1 q2 q3 ql qw x0 x1 x2 x3 HN HB
        have hmost := @Inv.most Ep.a _ I3.out true
        obtain ⟨q0, q1, q2, q3⟩ := P3.out.cp
        rw [K2.out] at q0 q1 q2 q3
        have ql : w3.cell? ⟨G'.lb, 1, none⟩ = some (.pointer (some ⟨G'.b true, 0, none⟩)) := P3.out.cl true
        have xb := (P3.out.ex d _ (kept_at _ _)).1
        have x0 := box_cell xb 0 rfl
        clear xb k2
        have hm32 : ¬ ((((p.turn true (TN.mk tk tw ti ts).k ti ts).l true).wait.length : Nat) : Int) > 32 := by omega
        go_wp2_with fail
        refine (pwaiting (P3.out.link true)).mono ?_
        rintro e w' ⟨rfl, hw'⟩
        obtain rfl := hw'.symm
        clear hw'
        go_wp2_with fail
        refine (pick_any _ _ _ hkk (by omega)).mono ?_
        rintro e w' ⟨rfl, hw'⟩
        obtain rfl := hw'.symm
        clear hw' hm32 hmost
        by_cases hk1 : pickZ tk 6 = 1
        · have htk : (TN.mk tk tw ti ts).k = 1 := by unfold TN.k; simp only [hk1]; rfl
          have htp : p.turn true (TN.mk tk tw ti ts).k ti ts = p.pt true := by rw [htk]; rfl
          rw [htp] at P3 I3 L3 ⊢
          clear htk htp
          obtain ⟨as1, cs1, hsv⟩ := row_slice (P3.out.sent true)
          have qs : w3.cell? ⟨G'.sb, 1, none⟩ = some (G'.sv true) := P3.out.cs true
          rw [hsv] at qs
          have SV := hide hsv
          clear hsv
          have WIN := hide (window_at HI.out true)
          have hAA := @waits_le Ep.a p HI.out true
          have hAL := @Inv.len Ep.a _ HI.out true
          have hA1 := @Inv.one Ep.a _ HI.out true
          have hAN := @Inv.many Ep.a _ HI.out true
          have hA : (((p.pt true).sent true).length : Int) - ((p.l true).wait.length : Int) = (((p.l true).first - 1 : Nat) : Int) := by show ((p.sent true).length : Int) - _ = _; omega
          have hAb : (((p.l true).first - 1 : Nat) : Int) ≤ 1000001 := by omega
          have hwn : ((p.l true).wait.length : Int) ≤ 1000001 := by omega
          have hsn : (((p.pt true).sent true).length : Int) ≤ 1000001 := by show ((p.sent true).length : Int) ≤ _; omega
          have hnb : (p.way false).length ≤ ((p.pt true).way false).length := app_len true
          have hnw := @Lz.way _ _ L3.out false
          generalize (p.l true).wait.length = wn at *
          generalize (p.l true).first - 1 = A at *
          have hnw2 : (((p.pt true).way false).length : Int) ≤ 100000 := by omega
          change Hid (∀ k (hk : k < ((p.pt true).way false).length), (p.way false).length ≤ k → _) at WIN
          generalize (p.way false).length = nb at *
          generalize p.pt true = pp at *
          clear hAA hAL hA1 hAN hnw HI HL HP
          go_wp2
          go_loopw [12] (fun kv wv => ∃ k : Nat, kv = .int .i64 k ∧ nb ≤ k ∧ k ≤ (pp.way false).length ∧ Hid (PA ⟨w0.heap.size, kept d (.cells #[.int .i64 tk, .int .i64 tw, .int .i64 ti, .string ts] 52)⟩ wv G' r' pp) ∧ Hid (Below w0.heap.size w0 wv)) (fun kv _ => (pp.way false).length - (intOf kv).toNat)
          case atStart => exact ⟨nb, rfl, Nat.le_refl _, hnb, P3, B3⟩
          case round =>
            clear P3 B3 q0 q1 q2 q3 ql x0 qs
            obtain ⟨k, rfl, hkb, hkw, P4, B4⟩ := hrel
            obtain ⟨q0, q1, q2, q3⟩ := P4.out.cp
            rw [K2.out] at q0 q1 q2 q3
            have ql : wr.cell? ⟨G'.lb, 1, none⟩ = some (.pointer (some ⟨G'.b true, 0, none⟩)) := P4.out.cl true
            obtain ⟨aw, cw, hwv⟩ := row_slice (P4.out.way false)
            have qw : wr.cell? ⟨G'.wb, 0, none⟩ = some (G'.wv false) := P4.out.cw false
            have hway := P4.out.way false
            rw [hwv] at qw hway
            clear hwv
            by_cases hlt : k < (pp.way false).length
            · obtain ⟨f, hf, e1, e2, e3, e4, e5⟩ := WIN.out k hlt hkb
              obtain ⟨g, rfl, _, hgl, f0, f1, f2, f3, f4⟩ := fr_at hway k hlt
              have hf : (pp.way false)[k] = f := hf
              rw [hf] at f0 f1 f2 f3 f4
              clear hf hway
              have hk0 : (0 : Int) ≤ (k : Int) := by omega
              have hkl : (k : Int) < ((pp.way false).length : Int) := by omega
              obtain ⟨fe, fp, fs, fa, fbd⟩ := f
              simp only at e1 e2 e3 e4 e5 f0 f1 f2 f3 f4
              replace e1 : fe = 5 := e1
              subst e1 e2 e3
              rcases e5 with e5 | ⟨j, hj, rfl, e6, rfl⟩
              · have g1 : ¬ fs > 0 := by omega
                have g2 : ¬ fs > (A : Int) + 8 := by omega
                have g3 : decide (fs > (A : Int) + 8) = false := decide_eq_false g2
                have g4 : decide ((A : Int) + 8 < fs) = false := g3
                have g5 : decide (fs > 0) = false := decide_eq_false g1
                have g6 : decide (0 < fs) = false := g5
                clear e4 e5
                go_wp2_with fail
                have P5 := hide (P4.out.alloc (.cells #[.int .i64 5, .int .i64 ((pp.l true).peer : Nat), .int .i64 fs, .int .i64 ((pp.told true).length : Nat), .string fbd] 31))
                have fb := heap_alloc_new wr (.cells #[.int .i64 5, .int .i64 ((pp.l true).peer : Nat), .int .i64 fs, .int .i64 ((pp.told true).length : Nat), .string fbd] 31)
                have B5 := hide (B4.out.alloc B4.out.size (.cells #[.int .i64 5, .int .i64 ((pp.l true).peer : Nat), .int .i64 fs, .int .i64 ((pp.told true).length : Nat), .string fbd] 31))
                generalize wr.alloc (.cells #[.int .i64 5, .int .i64 ((pp.l true).peer : Nat), .int .i64 fs, .int .i64 ((pp.told true).length : Nat), .string fbd] 31) = W5 at *
                generalize wr.heap.size = bf at *
                have z0 := box_cell fb 0 rfl
                have z1 := box_cell fb 1 rfl
                have z2 := box_cell fb 2 rfl
                have z3 := box_cell fb 3 rfl
                have z4 := box_cell fb 4 rfl
                obtain ⟨y0, y1, y2, y3⟩ := P5.out.cp
                rw [K2.out] at y0 y1 y2 y3
                have yl : W5.cell? ⟨G'.lb, 1, none⟩ = some (.pointer (some ⟨G'.b true, 0, none⟩)) := P5.out.cl true
                obtain ⟨at3, ct3, htv⟩ := row_slice (P5.out.told true)
                have yt : W5.cell? ⟨G'.tb, 1, none⟩ = some (G'.tv true) := P5.out.ct true
                rw [htv] at yt
                clear htv
                have HPE : Hid (∀ W, Below W5.heap.size W5 W → Calls Try.prog 19 #[.pointer (some ⟨G'.b true, 0, none⟩)] W fun e w' => e = .returned (.int .i64 ((pp.l true).peer : Nat)) ∧ w' = W) := fun W h => ppeer ((P5.out.link true).below h)
                clear fb q0 q1 q2 q3 ql qw f0 f1 f2 f3 f4
                generalize ((pp.l true).peer : Int) = pq at *
                generalize (pp.told true).length = tln at *
                go_quiet (first | (go_at_call 19; refine Calls.quiet_of_same (HPE.out _ (below_drewN (Below.refl _ _) _))))
                go_wp2
                go_roundw
                case rel => exact ⟨k + 1, by go_num, by omega, by omega, P5.out.below (below_drewN (Below.refl _ _) _), below_drewN B5.out _⟩
                case measure => simp [intOf]; omega
              · have g1 : (j : Int) + 1 > 0 := by omega
                have g2 : ¬ (j : Int) + 1 > (A : Int) + 8 := by omega
                have g3 : ¬ (j : Int) + 1 ≤ (A : Int) := by omega
                have g4 : (j : Int) + 1 - 1 = (j : Int) := by omega
                have g5 : (0 : Int) ≤ (j : Int) := by omega
                have g6 : (j : Int) < ((pp.sent true).length : Int) := by omega
                have hjb : (j : Int) ≤ 1000001 := by omega
                have g7 : decide ((j : Int) + 1 > 0) = true := decide_eq_true g1
                have g8 : decide (0 < (j : Int) + 1) = true := g7
                have g9 : decide ((j : Int) + 1 > (A : Int) + 8) = false := decide_eq_false g2
                have ga : decide ((A : Int) + 8 < (j : Int) + 1) = false := g9
                have gb : decide ((j : Int) + 1 ≤ (A : Int)) = false := decide_eq_false g3
                clear e4 e6
                go_wp2_with fail
                have P5 := hide (P4.out.alloc (.cells #[.int .i64 5, .int .i64 ((pp.l true).peer : Nat), .int .i64 ((j : Int) + 1), .int .i64 ((pp.told true).length : Nat), .string (pp.sent true)[j]] 31))
                have fb := heap_alloc_new wr (.cells #[.int .i64 5, .int .i64 ((pp.l true).peer : Nat), .int .i64 ((j : Int) + 1), .int .i64 ((pp.told true).length : Nat), .string (pp.sent true)[j]] 31)
                have B5 := hide (B4.out.alloc B4.out.size (.cells #[.int .i64 5, .int .i64 ((pp.l true).peer : Nat), .int .i64 ((j : Int) + 1), .int .i64 ((pp.told true).length : Nat), .string (pp.sent true)[j]] 31))
                generalize wr.alloc (.cells #[.int .i64 5, .int .i64 ((pp.l true).peer : Nat), .int .i64 ((j : Int) + 1), .int .i64 ((pp.told true).length : Nat), .string (pp.sent true)[j]] 31) = W5 at *
                generalize wr.heap.size = bf at *
                have z0 := box_cell fb 0 rfl
                have z1 := box_cell fb 1 rfl
                have z2 := box_cell fb 2 rfl
                have z3 := box_cell fb 3 rfl
                have z4 := box_cell fb 4 rfl
                obtain ⟨y0, y1, y2, y3⟩ := P5.out.cp
                rw [K2.out] at y0 y1 y2 y3
                have yl : W5.cell? ⟨G'.lb, 1, none⟩ = some (.pointer (some ⟨G'.b true, 0, none⟩)) := P5.out.cl true
                obtain ⟨at3, ct3, htv⟩ := row_slice (P5.out.told true)
                have yt : W5.cell? ⟨G'.tb, 1, none⟩ = some (G'.tv true) := P5.out.ct true
                rw [htv] at yt
                clear htv
                have HPE : Hid (∀ W, Below W5.heap.size W5 W → Calls Try.prog 19 #[.pointer (some ⟨G'.b true, 0, none⟩)] W fun e w' => e = .returned (.int .i64 ((pp.l true).peer : Nat)) ∧ w' = W) := fun W h => ppeer ((P5.out.link true).below h)
                obtain ⟨as3, cs3, hsv3⟩ := row_slice (P5.out.sent true)
                have ys : W5.cell? ⟨G'.sb, 1, none⟩ = some (G'.sv true) := P5.out.cs true
                rw [hsv3] at ys
                obtain ⟨gs, hgs, hs0⟩ := str_at (B := ⟨w0.heap.size, fun _ => none⟩) (P5.out.sent true) hsv3 j hj
                subst hgs
                have ys0 := hs0
                clear hs0 hsv3 WIN hA SV hsn
                generalize (pp.sent true)[j] = sj at *
                clear fb q0 q1 q2 q3 ql qw f0 f1 f2 f3 f4
                generalize ((pp.l true).peer : Int) = pq at *
                generalize (pp.told true).length = tln at *
                go_quiet (first | (go_at_call 19; refine Calls.quiet_of_same (HPE.out _ (below_drewN (Below.refl _ _) _))))
                go_wp2
                go_roundw
                case rel => exact ⟨k + 1, by go_num, by omega, by omega, P5.out.below (below_drewN (Below.refl _ _) _), below_drewN B5.out _⟩
                case measure => simp [intOf]; omega
            · have hlt2 : ¬ (k : Int) < ((pp.way false).length : Int) := by omega
              clear hway
              go_wp2
              go_roundw
              case rel => exact ⟨i + 1, by go_num, by omega, G', r', pp, P4.out.again _ (fun _ _ e => by cases e), K2.out, I3.out, L3.out, B4.out⟩
              case measure => simp [intOf]; omega
        · have hk2 : (pickZ tk 6 == 1) = false := by rw [beq_eq_false_iff_ne]; exact hk1
          have hk3 : (pickZ tk 6 != 1) = true := by rw [bne_iff_ne]; exact hk1
          go_wp2
          go_roundw
          case rel => exact ⟨i + 1, by go_num, by omega, G', r', _, P3.out.again _ (fun _ _ e => by cases e), K2.out, I3.out, L3.out, B3.out⟩
          case measure => simp [intOf]; omega
    · obtain ⟨_, _, _, _, _, _, _, hb⟩ := R.out
      have B3 := hide (BE.out.trans (hb.mono BE.out.size))
      clear hb
      by_cases h1 : i < l.length
      · have hi1 : (i : Int) < (l.length : Int) := by omega
        have hi2 : ¬ (i : Int) < 200 := by omega
        clear h1 hlt
        go_wp2
        go_ret
        exact ⟨rfl, B3.out⟩
      · have hi1 : ¬ (i : Int) < (l.length : Int) := by omega
        clear h1 hlt
        go_wp2
        go_ret
        exact ⟨rfl, B3.out⟩
end Go.Proofs.Ytiealipplckfnaa
