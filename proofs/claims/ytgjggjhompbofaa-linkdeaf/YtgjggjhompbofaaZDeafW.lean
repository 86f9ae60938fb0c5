/-
  LinkDeaf as it runs (mkdeaf.py).
-/
import Derived.Test.YtgjggjhompbofaaZOrderW
import Derived.BigQuiet
import Derived.Deep.QuietTactic
namespace Go.Proofs.Ytgjggjhompbofaa
open Go.RowKit

theorem PA.calls {B : Nat} {w w' : World} {G : PG} {r : Nat → Nat} {p : PR} (h : PA B w G r p) (x : Bool) {v' : Value} {l' : LK} (_hp : PL w' (G.b x) v' l') (hs : PStep w w' (G.b x) (G.v x) v') : Below B w w' := by
  refine h.toBelow hs.touch fun j hj _ => ?_
  rcases hj with rfl | hj
  · rw [h.rb x]; omega
  · rw [h.rv x j hj]; omega
set_option maxHeartbeats 8000000 in
set_option maxRecDepth 100000 in
theorem deaf_walk (ao : Option Addr) (cp : Nat) (l : List TN) (f : FR) (w : World) (hcm : Turns w ao l) (hfo : f.ok) :
    Calls Try.prog 8 #[.slice ao l.length cp, f.v] w fun e w' => e = .returned (.bool true) ∧ Below w.heap.size w w' := by
  have HCM := hide hcm
  have HFO := hide hfo
  have hlen := hcm.len
  clear hcm hfo
  obtain ⟨fe, fp, fs, fa, fy⟩ := f
  simp only [FR.v]
  go_enter Try.func8, Try.ntmps8
  go_wp2_with fail
  refine (examples_any _).mono ?_
  rintro e w0 ⟨rfl, be⟩
  have HB1 : Hid (w0.heap[w.heap.size]? = some (.cells #[.int .i64 fe, .int .i64 fp, .int .i64 fs, .int .i64 fa, .string fy] 31 (0, 0))) := below_at be (heap_alloc_new w _)
  have BE : Hid (Below w.heap.size w w0) := ((Below.refl _ w).alloc (Nat.le_refl _) _).trans (be.mono (by simp))
  clear be
  go_wp2_with fail
  refine (run_begin w0).mono ?_
  rintro e w1 ⟨pb, rfl, r1⟩
  have R1 := hide r1
  clear r1
  go_wp2
  go_loopw [7] (fun iv wv => ∃ i : Nat, iv = .int .i64 i ∧ i ≤ 60 ∧ Hid (Run w0 pb i wv)) (fun iv _ => 60 - (intOf iv).toNat)
  case atStart => exact ⟨0, rfl, Nat.zero_le _, R1⟩
  case round =>
    clear R1
    obtain ⟨i, rfl, hi, R⟩ := hrel
    by_cases hlt : i < l.length ∧ i < 60
    · obtain ⟨hl1, hl2⟩ := hlt
      have hb := R.out
      obtain ⟨_, _, _, _, _, _, _, hb⟩ := hb
      have hdd := HCM.out.all.below (BE.out.trans (hb.mono BE.out.size)) i hl1
      have hok := HCM.out.ok l[i] (List.getElem_mem hl1)
      clear hb
      obtain ⟨kb, off, rfl, hkb, d0, d1, d2, d3⟩ := hdd
      have HT := hide (R.out.step (by omega) l[i] hok)
      have hi0 : (0 : Int) ≤ (i : Int) := by omega
      have hi1 : (i : Int) < (l.length : Int) := by omega
      have hi2 : (i : Int) < 60 := by omega
      clear hok
      simp only [TN.v, TN.c] at HT
      generalize l[i].kind = tk at *
      generalize l[i].who = tw at *
      generalize l[i].i = ti at *
      generalize l[i].s = ts at *
      go_wp2_with fail
      refine HT.out.mono ?_
      rintro e w3 ⟨rfl, r3⟩
      have R3 := hide r3
      clear r3 HT d0 d1 d2 d3
      go_wp2
      go_roundw
      case rel => exact ⟨i + 1, by go_num, by omega, R3⟩
      case measure => simp [intOf]; omega
    · obtain ⟨G, r, p, hP, rfl, hI, _, hb⟩ := R.out
      have HFB := hide (below_at hb HB1.out)
      have HRF : Hid (r w.heap.size = 0) := by
        have h1 := hP.low w.heap.size
        have h2 := heap_lt HB1.out
        show r w.heap.size = 0
        omega
      have B3 := hide (BE.out.trans (hb.mono BE.out.size))
      obtain ⟨y0, y1, y2, y3, y4⟩ := box5f HFB.out
      have c0 := hP.cp.1
      have cl : wr.cell? ⟨G.lb, 0, none⟩ = some (.pointer (some ⟨G.b false, 0, none⟩)) := hP.cl false
      have HW := hide (pwaiting (hP.link false))
      have HPE := hide (ppeer (hP.link false))
      have HS := hide (fun W (hW : PL W (G.b false) (G.v false) (p.l false)) => ptake hW ⟨fe, fp, fs, fa, fy⟩ HFO.out)
      have PD : Hid (PL wr.drew (G.b false) (G.v false) (p.l false)) := hP.drew.link false
      have HP := hide hP
      have HI1 : Hid ((p.l false).epoch = 3) := @Inv.ep Ep.a p hI false
      have HI2 : Hid ((p.l false).peer = 0 ∨ (p.l false).peer = 5) := @Inv.peer Ep.a p hI false
      have HKK := hide (enters_of Try.func20 (by kernel_rfl) rfl)
      clear hb hI R HB1 hP
      by_cases h1 : i < l.length
      · have hi1 : (i : Int) < (l.length : Int) := by omega
        have hi2 : ¬ (i : Int) < 60 := by omega
        clear h1 hlt
        by_cases a1 : 5 < fe
        · go_wp2
          go_ret
          exact ⟨rfl, B3.out⟩
        · by_cases a2 : fe = 5 ∧ fp = 3
          · obtain ⟨rfl, rfl⟩ := a2
            go_wp2
            go_ret
            exact ⟨rfl, B3.out⟩
          · have HDF := hide (deaf_of HI1.out HI2.out (f := ⟨fe, fp, fs, fa, fy⟩) (by show fe ≤ 5; omega) a2)
            by_cases a3 : fe = 5
            · have a4 : ¬ fp = 3 := fun e => a2 ⟨a3, e⟩
              clear a2 a1
              subst a3
              go_wp2_with fail
              refine HW.out.mono ?_
              rintro e wy ⟨rfl, rfl⟩
              go_wp2_with fail
              refine HPE.out.mono ?_
              rintro e wy ⟨rfl, rfl⟩
              go_wp2_with fail
              obtain ⟨k1, k2, k3⟩ := HDF.out
              rw [k1] at HS
              obtain ⟨bodies, hbo⟩ : ∃ bodies, ((p.l false).take ⟨5, fp, fs, fa, fy⟩).1.1 = bodies := ⟨_, rfl⟩
              obtain ⟨l2, hl2⟩ : ∃ l2, ((p.l false).take ⟨5, fp, fs, fa, fy⟩).2 = l2 := ⟨_, rfl⟩
              rw [hbo, hl2] at HS k3
              obtain ⟨nb, hnb⟩ : ∃ nb, bodies.length = nb := ⟨_, rfl⟩
              rw [hnb] at HS
              have K3 : Hid (¬ (fp = 3 ∧ ((p.l false).peer : Int) < 5) → nb = 0 ∧ l2.wait = (p.l false).wait) := fun e => ⟨by rw [← hnb, (k3 e).1]; rfl, (k3 e).2⟩
              have K2 := hide k2
              clear hbo hl2 hnb k1 k2 k3 HDF HI1
              go_region_held_law (fun w' => w'.cell? ⟨G.pb, 0, none⟩ = some (sl2 G.lb) ∧ w'.cell? ⟨G.lb, 0, none⟩ = some (.pointer (some ⟨G.b false, 0, none⟩)) ∧ w'.cell? ⟨w.heap.size, 0, none⟩ = some (.int .i64 5) ∧ w'.cell? ⟨w.heap.size, 1, none⟩ = some (.int .i64 fp) ∧ w'.cell? ⟨w.heap.size, 2, none⟩ = some (.int .i64 fs) ∧ w'.cell? ⟨w.heap.size, 3, none⟩ = some (.int .i64 fa) ∧ w'.cell? ⟨w.heap.size, 4, none⟩ = some (.string fy)) (first | exact KS.out | exact ⟨c0, cl, y0, y1, y2, y3, y4⟩) ((refine step_fn_d (by rfl) 68 (by rfl) 20 _ _ (by rfl) HKK.out [.pointer (some ⟨G.b false, 0, none⟩), .agg #[.int .i64 5, .int .i64 fp, .int .i64 fs, .int .i64 fa, .string fy]] rfl (HS.out _ PD.out) ?_; rintro e w3 ⟨ao3, cp3, v3, rfl, tk⟩; refine ⟨_, rfl, ?_⟩; have P1 := hide (HP.out.drew.call false tk.link tk.step); have LK1 := hide tk.link; have BB := hide (HP.out.drew.calls false tk.link tk.step); have KF := hide (tk.step.touch.at HFB.out (fun e => by have h1 : 1 ≤ r w.heap.size := (by rcases e with e | e; (rw [e, HP.out.rb false]; omega); (rw [HP.out.rv false _ e]; omega)); rw [HRF.out] at h1; omega)); have KS : Hid (w3.cell? ⟨G.pb, 0, none⟩ = some (sl2 G.lb) ∧ w3.cell? ⟨G.lb, 0, none⟩ = some (.pointer (some ⟨G.b false, 0, none⟩)) ∧ w3.cell? ⟨w.heap.size, 0, none⟩ = some (.int .i64 5) ∧ w3.cell? ⟨w.heap.size, 1, none⟩ = some (.int .i64 fp) ∧ w3.cell? ⟨w.heap.size, 2, none⟩ = some (.int .i64 fs) ∧ w3.cell? ⟨w.heap.size, 3, none⟩ = some (.int .i64 fa) ∧ w3.cell? ⟨w.heap.size, 4, none⟩ = some (.string fy)) := ⟨P1.out.cp.1, P1.out.cl false, box5f KF.out⟩; clear tk))
              all_goals (
                clear y0 y1 y2 y3 y4 c0 cl HW HPE HS
                have B4 := hide (B3.out.trans ((below_of_drew BB.out).mono BE.out.size))
                obtain ⟨c0, cl, y0, y1, y2, y3, y4⟩ := KS.out
                have HL := hide (fun W (h : Below w3.heap.size w3 W) => pwaiting (LK1.out.below h))
                clear B3 BB KS KF P1 HP HFB HRF HKK PD LK1
                by_cases b1 : fp = 3 ∧ ((p.l false).peer : Int) < 5
                · obtain ⟨rfl, b2⟩ := b1
                  first
                    | exact absurd rfl a4
                    | (go_wp2; go_ret; exact ⟨rfl, B4.out⟩)
                · obtain ⟨rfl, wE⟩ := K3.out b1
                  rw [wE] at HL
                  have hk := K2.out
                  clear K3 K2 wE
                  generalize (p.l false).wait.length = nw at *
                  generalize (p.l false).peer = pe at *
                  have hq : ((pe : Int) != 0) = false ∨ (((pe : Int) != 0) = true ∧ decide ((pe : Int) < 5) = false) := by
                    by_cases e : pe = 0
                    · left; simp [e]
                    · right; exact ⟨by simp [e], by have := hk e; simp only [decide_eq_false_iff_not]; show ¬ (pe : Int) < 5; have h2 : (5 : Int) ≤ pe := this; omega⟩
                  clear hk
                  by_cases b3 : fp = 3
                  · have b4 : ¬ (pe : Int) < 5 := fun e => b1 ⟨b3, e⟩
                    first
                      | exact absurd b3 a4
                      | (clear b1
                         subst b3
                         rcases hq with hq | ⟨hq, hq2⟩
                         · go_wp2_with fail
                           go_quiet (first | (go_at_call 23; refine Calls.quiet_of_same (HL.out _ (below_drewN (Below.refl _ _) _))))
                           go_wp2
                           go_ret
                           exact ⟨rfl, below_drewN B4.out _⟩
                         · go_wp2_with fail
                           go_quiet (first | (go_at_call 23; refine Calls.quiet_of_same (HL.out _ (below_drewN (Below.refl _ _) _))))
                           go_wp2
                           go_ret
                           exact ⟨rfl, below_drewN B4.out _⟩)
                  · clear b1
                    rcases hq with hq | ⟨hq, hq2⟩
                    · go_wp2_with fail
                      go_quiet (first | (go_at_call 23; refine Calls.quiet_of_same (HL.out _ (below_drewN (Below.refl _ _) _))))
                      go_wp2
                      go_ret
                      exact ⟨rfl, below_drewN B4.out _⟩
                    · go_wp2_with fail
                      go_quiet (first | (go_at_call 23; refine Calls.quiet_of_same (HL.out _ (below_drewN (Below.refl _ _) _))))
                      go_wp2
                      go_ret
                      exact ⟨rfl, below_drewN B4.out _⟩)
            · clear a2
              go_wp2_with fail
              refine HW.out.mono ?_
              rintro e wy ⟨rfl, rfl⟩
              go_wp2_with fail
              refine HPE.out.mono ?_
              rintro e wy ⟨rfl, rfl⟩
              go_wp2_with fail
              obtain ⟨k1, k2, k3⟩ := HDF.out
              rw [k1] at HS
              obtain ⟨bodies, hbo⟩ : ∃ bodies, ((p.l false).take ⟨fe, fp, fs, fa, fy⟩).1.1 = bodies := ⟨_, rfl⟩
              obtain ⟨l2, hl2⟩ : ∃ l2, ((p.l false).take ⟨fe, fp, fs, fa, fy⟩).2 = l2 := ⟨_, rfl⟩
              rw [hbo, hl2] at HS k3
              obtain ⟨nb, hnb⟩ : ∃ nb, bodies.length = nb := ⟨_, rfl⟩
              rw [hnb] at HS
              have K3 : Hid (¬ (fp = 3 ∧ ((p.l false).peer : Int) < fe) → nb = 0 ∧ l2.wait = (p.l false).wait) := fun e => ⟨by rw [← hnb, (k3 e).1]; rfl, (k3 e).2⟩
              have K2 := hide k2
              clear hbo hl2 hnb k1 k2 k3 HDF HI1
              go_region_held_law (fun w' => w'.cell? ⟨G.pb, 0, none⟩ = some (sl2 G.lb) ∧ w'.cell? ⟨G.lb, 0, none⟩ = some (.pointer (some ⟨G.b false, 0, none⟩)) ∧ w'.cell? ⟨w.heap.size, 0, none⟩ = some (.int .i64 fe) ∧ w'.cell? ⟨w.heap.size, 1, none⟩ = some (.int .i64 fp) ∧ w'.cell? ⟨w.heap.size, 2, none⟩ = some (.int .i64 fs) ∧ w'.cell? ⟨w.heap.size, 3, none⟩ = some (.int .i64 fa) ∧ w'.cell? ⟨w.heap.size, 4, none⟩ = some (.string fy)) (first | exact KS.out | exact ⟨c0, cl, y0, y1, y2, y3, y4⟩) ((refine step_fn_d (by rfl) 68 (by rfl) 20 _ _ (by rfl) HKK.out [.pointer (some ⟨G.b false, 0, none⟩), .agg #[.int .i64 fe, .int .i64 fp, .int .i64 fs, .int .i64 fa, .string fy]] rfl (HS.out _ PD.out) ?_; rintro e w3 ⟨ao3, cp3, v3, rfl, tk⟩; refine ⟨_, rfl, ?_⟩; have P1 := hide (HP.out.drew.call false tk.link tk.step); have LK1 := hide tk.link; have BB := hide (HP.out.drew.calls false tk.link tk.step); have KF := hide (tk.step.touch.at HFB.out (fun e => by have h1 : 1 ≤ r w.heap.size := (by rcases e with e | e; (rw [e, HP.out.rb false]; omega); (rw [HP.out.rv false _ e]; omega)); rw [HRF.out] at h1; omega)); have KS : Hid (w3.cell? ⟨G.pb, 0, none⟩ = some (sl2 G.lb) ∧ w3.cell? ⟨G.lb, 0, none⟩ = some (.pointer (some ⟨G.b false, 0, none⟩)) ∧ w3.cell? ⟨w.heap.size, 0, none⟩ = some (.int .i64 fe) ∧ w3.cell? ⟨w.heap.size, 1, none⟩ = some (.int .i64 fp) ∧ w3.cell? ⟨w.heap.size, 2, none⟩ = some (.int .i64 fs) ∧ w3.cell? ⟨w.heap.size, 3, none⟩ = some (.int .i64 fa) ∧ w3.cell? ⟨w.heap.size, 4, none⟩ = some (.string fy)) := ⟨P1.out.cp.1, P1.out.cl false, box5f KF.out⟩; clear tk))
              all_goals (
                clear y0 y1 y2 y3 y4 c0 cl HW HPE HS
                have B4 := hide (B3.out.trans ((below_of_drew BB.out).mono BE.out.size))
                obtain ⟨c0, cl, y0, y1, y2, y3, y4⟩ := KS.out
                have HL := hide (fun W (h : Below w3.heap.size w3 W) => pwaiting (LK1.out.below h))
                clear B3 BB KS KF P1 HP HFB HRF HKK PD LK1
                by_cases b1 : fp = 3 ∧ ((p.l false).peer : Int) < fe
                · obtain ⟨rfl, b2⟩ := b1
                  first
                    | exact absurd rfl a4
                    | (go_wp2; go_ret; exact ⟨rfl, B4.out⟩)
                · obtain ⟨rfl, wE⟩ := K3.out b1
                  rw [wE] at HL
                  have hk := K2.out
                  clear K3 K2 wE
                  generalize (p.l false).wait.length = nw at *
                  generalize (p.l false).peer = pe at *
                  have hq : ((pe : Int) != 0) = false ∨ (((pe : Int) != 0) = true ∧ decide ((pe : Int) < fe) = false) := by
                    by_cases e : pe = 0
                    · left; simp [e]
                    · right; exact ⟨by simp [e], by have := hk e; simp only [decide_eq_false_iff_not]; show ¬ (pe : Int) < fe; have h2 : (fe : Int) ≤ pe := this; omega⟩
                  clear hk
                  by_cases b3 : fp = 3
                  · have b4 : ¬ (pe : Int) < fe := fun e => b1 ⟨b3, e⟩
                    first
                      | exact absurd b3 a4
                      | (clear b1
                         subst b3
                         rcases hq with hq | ⟨hq, hq2⟩
                         · go_wp2_with fail
                           go_quiet (first | (go_at_call 23; refine Calls.quiet_of_same (HL.out _ (below_drewN (Below.refl _ _) _))))
                           go_wp2
                           go_ret
                           exact ⟨rfl, below_drewN B4.out _⟩
                         · go_wp2_with fail
                           go_quiet (first | (go_at_call 23; refine Calls.quiet_of_same (HL.out _ (below_drewN (Below.refl _ _) _))))
                           go_wp2
                           go_ret
                           exact ⟨rfl, below_drewN B4.out _⟩)
                  · clear b1
                    rcases hq with hq | ⟨hq, hq2⟩
                    · go_wp2_with fail
                      go_quiet (first | (go_at_call 23; refine Calls.quiet_of_same (HL.out _ (below_drewN (Below.refl _ _) _))))
                      go_wp2
                      go_ret
                      exact ⟨rfl, below_drewN B4.out _⟩
                    · go_wp2_with fail
                      go_quiet (first | (go_at_call 23; refine Calls.quiet_of_same (HL.out _ (below_drewN (Below.refl _ _) _))))
                      go_wp2
                      go_ret
                      exact ⟨rfl, below_drewN B4.out _⟩)
      · have hi1 : ¬ (i : Int) < (l.length : Int) := by omega
        clear h1 hlt
        by_cases a1 : 5 < fe
        · go_wp2
          go_ret
          exact ⟨rfl, B3.out⟩
        · by_cases a2 : fe = 5 ∧ fp = 3
          · obtain ⟨rfl, rfl⟩ := a2
            go_wp2
            go_ret
            exact ⟨rfl, B3.out⟩
          · have HDF := hide (deaf_of HI1.out HI2.out (f := ⟨fe, fp, fs, fa, fy⟩) (by show fe ≤ 5; omega) a2)
            by_cases a3 : fe = 5
            · have a4 : ¬ fp = 3 := fun e => a2 ⟨a3, e⟩
              clear a2 a1
              subst a3
              go_wp2_with fail
              refine HW.out.mono ?_
              rintro e wy ⟨rfl, rfl⟩
              go_wp2_with fail
              refine HPE.out.mono ?_
              rintro e wy ⟨rfl, rfl⟩
              go_wp2_with fail
              obtain ⟨k1, k2, k3⟩ := HDF.out
              rw [k1] at HS
              obtain ⟨bodies, hbo⟩ : ∃ bodies, ((p.l false).take ⟨5, fp, fs, fa, fy⟩).1.1 = bodies := ⟨_, rfl⟩
              obtain ⟨l2, hl2⟩ : ∃ l2, ((p.l false).take ⟨5, fp, fs, fa, fy⟩).2 = l2 := ⟨_, rfl⟩
              rw [hbo, hl2] at HS k3
              obtain ⟨nb, hnb⟩ : ∃ nb, bodies.length = nb := ⟨_, rfl⟩
              rw [hnb] at HS
              have K3 : Hid (¬ (fp = 3 ∧ ((p.l false).peer : Int) < 5) → nb = 0 ∧ l2.wait = (p.l false).wait) := fun e => ⟨by rw [← hnb, (k3 e).1]; rfl, (k3 e).2⟩
              have K2 := hide k2
              clear hbo hl2 hnb k1 k2 k3 HDF HI1
              go_region_held_law (fun w' => w'.cell? ⟨G.pb, 0, none⟩ = some (sl2 G.lb) ∧ w'.cell? ⟨G.lb, 0, none⟩ = some (.pointer (some ⟨G.b false, 0, none⟩)) ∧ w'.cell? ⟨w.heap.size, 0, none⟩ = some (.int .i64 5) ∧ w'.cell? ⟨w.heap.size, 1, none⟩ = some (.int .i64 fp) ∧ w'.cell? ⟨w.heap.size, 2, none⟩ = some (.int .i64 fs) ∧ w'.cell? ⟨w.heap.size, 3, none⟩ = some (.int .i64 fa) ∧ w'.cell? ⟨w.heap.size, 4, none⟩ = some (.string fy)) (first | exact KS.out | exact ⟨c0, cl, y0, y1, y2, y3, y4⟩) ((refine step_fn_d (by rfl) 68 (by rfl) 20 _ _ (by rfl) HKK.out [.pointer (some ⟨G.b false, 0, none⟩), .agg #[.int .i64 5, .int .i64 fp, .int .i64 fs, .int .i64 fa, .string fy]] rfl (HS.out _ PD.out) ?_; rintro e w3 ⟨ao3, cp3, v3, rfl, tk⟩; refine ⟨_, rfl, ?_⟩; have P1 := hide (HP.out.drew.call false tk.link tk.step); have LK1 := hide tk.link; have BB := hide (HP.out.drew.calls false tk.link tk.step); have KF := hide (tk.step.touch.at HFB.out (fun e => by have h1 : 1 ≤ r w.heap.size := (by rcases e with e | e; (rw [e, HP.out.rb false]; omega); (rw [HP.out.rv false _ e]; omega)); rw [HRF.out] at h1; omega)); have KS : Hid (w3.cell? ⟨G.pb, 0, none⟩ = some (sl2 G.lb) ∧ w3.cell? ⟨G.lb, 0, none⟩ = some (.pointer (some ⟨G.b false, 0, none⟩)) ∧ w3.cell? ⟨w.heap.size, 0, none⟩ = some (.int .i64 5) ∧ w3.cell? ⟨w.heap.size, 1, none⟩ = some (.int .i64 fp) ∧ w3.cell? ⟨w.heap.size, 2, none⟩ = some (.int .i64 fs) ∧ w3.cell? ⟨w.heap.size, 3, none⟩ = some (.int .i64 fa) ∧ w3.cell? ⟨w.heap.size, 4, none⟩ = some (.string fy)) := ⟨P1.out.cp.1, P1.out.cl false, box5f KF.out⟩; clear tk))
              all_goals (
                clear y0 y1 y2 y3 y4 c0 cl HW HPE HS
                have B4 := hide (B3.out.trans ((below_of_drew BB.out).mono BE.out.size))
                obtain ⟨c0, cl, y0, y1, y2, y3, y4⟩ := KS.out
                have HL := hide (fun W (h : Below w3.heap.size w3 W) => pwaiting (LK1.out.below h))
                clear B3 BB KS KF P1 HP HFB HRF HKK PD LK1
                by_cases b1 : fp = 3 ∧ ((p.l false).peer : Int) < 5
                · obtain ⟨rfl, b2⟩ := b1
                  first
                    | exact absurd rfl a4
                    | (go_wp2; go_ret; exact ⟨rfl, B4.out⟩)
                · obtain ⟨rfl, wE⟩ := K3.out b1
                  rw [wE] at HL
                  have hk := K2.out
                  clear K3 K2 wE
                  generalize (p.l false).wait.length = nw at *
                  generalize (p.l false).peer = pe at *
                  have hq : ((pe : Int) != 0) = false ∨ (((pe : Int) != 0) = true ∧ decide ((pe : Int) < 5) = false) := by
                    by_cases e : pe = 0
                    · left; simp [e]
                    · right; exact ⟨by simp [e], by have := hk e; simp only [decide_eq_false_iff_not]; show ¬ (pe : Int) < 5; have h2 : (5 : Int) ≤ pe := this; omega⟩
                  clear hk
                  by_cases b3 : fp = 3
                  · have b4 : ¬ (pe : Int) < 5 := fun e => b1 ⟨b3, e⟩
                    first
                      | exact absurd b3 a4
                      | (clear b1
                         subst b3
                         rcases hq with hq | ⟨hq, hq2⟩
                         · go_wp2_with fail
                           go_quiet (first | (go_at_call 23; refine Calls.quiet_of_same (HL.out _ (below_drewN (Below.refl _ _) _))))
                           go_wp2
                           go_ret
                           exact ⟨rfl, below_drewN B4.out _⟩
                         · go_wp2_with fail
                           go_quiet (first | (go_at_call 23; refine Calls.quiet_of_same (HL.out _ (below_drewN (Below.refl _ _) _))))
                           go_wp2
                           go_ret
                           exact ⟨rfl, below_drewN B4.out _⟩)
                  · clear b1
                    rcases hq with hq | ⟨hq, hq2⟩
                    · go_wp2_with fail
                      go_quiet (first | (go_at_call 23; refine Calls.quiet_of_same (HL.out _ (below_drewN (Below.refl _ _) _))))
                      go_wp2
                      go_ret
                      exact ⟨rfl, below_drewN B4.out _⟩
                    · go_wp2_with fail
                      go_quiet (first | (go_at_call 23; refine Calls.quiet_of_same (HL.out _ (below_drewN (Below.refl _ _) _))))
                      go_wp2
                      go_ret
                      exact ⟨rfl, below_drewN B4.out _⟩)
            · clear a2
              go_wp2_with fail
              refine HW.out.mono ?_
              rintro e wy ⟨rfl, rfl⟩
              go_wp2_with fail
              refine HPE.out.mono ?_
              rintro e wy ⟨rfl, rfl⟩
              go_wp2_with fail
              obtain ⟨k1, k2, k3⟩ := HDF.out
              rw [k1] at HS
              obtain ⟨bodies, hbo⟩ : ∃ bodies, ((p.l false).take ⟨fe, fp, fs, fa, fy⟩).1.1 = bodies := ⟨_, rfl⟩
              obtain ⟨l2, hl2⟩ : ∃ l2, ((p.l false).take ⟨fe, fp, fs, fa, fy⟩).2 = l2 := ⟨_, rfl⟩
              rw [hbo, hl2] at HS k3
              obtain ⟨nb, hnb⟩ : ∃ nb, bodies.length = nb := ⟨_, rfl⟩
              rw [hnb] at HS
              have K3 : Hid (¬ (fp = 3 ∧ ((p.l false).peer : Int) < fe) → nb = 0 ∧ l2.wait = (p.l false).wait) := fun e => ⟨by rw [← hnb, (k3 e).1]; rfl, (k3 e).2⟩
              have K2 := hide k2
              clear hbo hl2 hnb k1 k2 k3 HDF HI1
              go_region_held_law (fun w' => w'.cell? ⟨G.pb, 0, none⟩ = some (sl2 G.lb) ∧ w'.cell? ⟨G.lb, 0, none⟩ = some (.pointer (some ⟨G.b false, 0, none⟩)) ∧ w'.cell? ⟨w.heap.size, 0, none⟩ = some (.int .i64 fe) ∧ w'.cell? ⟨w.heap.size, 1, none⟩ = some (.int .i64 fp) ∧ w'.cell? ⟨w.heap.size, 2, none⟩ = some (.int .i64 fs) ∧ w'.cell? ⟨w.heap.size, 3, none⟩ = some (.int .i64 fa) ∧ w'.cell? ⟨w.heap.size, 4, none⟩ = some (.string fy)) (first | exact KS.out | exact ⟨c0, cl, y0, y1, y2, y3, y4⟩) ((refine step_fn_d (by rfl) 68 (by rfl) 20 _ _ (by rfl) HKK.out [.pointer (some ⟨G.b false, 0, none⟩), .agg #[.int .i64 fe, .int .i64 fp, .int .i64 fs, .int .i64 fa, .string fy]] rfl (HS.out _ PD.out) ?_; rintro e w3 ⟨ao3, cp3, v3, rfl, tk⟩; refine ⟨_, rfl, ?_⟩; have P1 := hide (HP.out.drew.call false tk.link tk.step); have LK1 := hide tk.link; have BB := hide (HP.out.drew.calls false tk.link tk.step); have KF := hide (tk.step.touch.at HFB.out (fun e => by have h1 : 1 ≤ r w.heap.size := (by rcases e with e | e; (rw [e, HP.out.rb false]; omega); (rw [HP.out.rv false _ e]; omega)); rw [HRF.out] at h1; omega)); have KS : Hid (w3.cell? ⟨G.pb, 0, none⟩ = some (sl2 G.lb) ∧ w3.cell? ⟨G.lb, 0, none⟩ = some (.pointer (some ⟨G.b false, 0, none⟩)) ∧ w3.cell? ⟨w.heap.size, 0, none⟩ = some (.int .i64 fe) ∧ w3.cell? ⟨w.heap.size, 1, none⟩ = some (.int .i64 fp) ∧ w3.cell? ⟨w.heap.size, 2, none⟩ = some (.int .i64 fs) ∧ w3.cell? ⟨w.heap.size, 3, none⟩ = some (.int .i64 fa) ∧ w3.cell? ⟨w.heap.size, 4, none⟩ = some (.string fy)) := ⟨P1.out.cp.1, P1.out.cl false, box5f KF.out⟩; clear tk))
              all_goals (
                clear y0 y1 y2 y3 y4 c0 cl HW HPE HS
                have B4 := hide (B3.out.trans ((below_of_drew BB.out).mono BE.out.size))
                obtain ⟨c0, cl, y0, y1, y2, y3, y4⟩ := KS.out
                have HL := hide (fun W (h : Below w3.heap.size w3 W) => pwaiting (LK1.out.below h))
                clear B3 BB KS KF P1 HP HFB HRF HKK PD LK1
                by_cases b1 : fp = 3 ∧ ((p.l false).peer : Int) < fe
                · obtain ⟨rfl, b2⟩ := b1
                  first
                    | exact absurd rfl a4
                    | (go_wp2; go_ret; exact ⟨rfl, B4.out⟩)
                · obtain ⟨rfl, wE⟩ := K3.out b1
                  rw [wE] at HL
                  have hk := K2.out
                  clear K3 K2 wE
                  generalize (p.l false).wait.length = nw at *
                  generalize (p.l false).peer = pe at *
                  have hq : ((pe : Int) != 0) = false ∨ (((pe : Int) != 0) = true ∧ decide ((pe : Int) < fe) = false) := by
                    by_cases e : pe = 0
                    · left; simp [e]
                    · right; exact ⟨by simp [e], by have := hk e; simp only [decide_eq_false_iff_not]; show ¬ (pe : Int) < fe; have h2 : (fe : Int) ≤ pe := this; omega⟩
                  clear hk
                  by_cases b3 : fp = 3
                  · have b4 : ¬ (pe : Int) < fe := fun e => b1 ⟨b3, e⟩
                    first
                      | exact absurd b3 a4
                      | (clear b1
                         subst b3
                         rcases hq with hq | ⟨hq, hq2⟩
                         · go_wp2_with fail
                           go_quiet (first | (go_at_call 23; refine Calls.quiet_of_same (HL.out _ (below_drewN (Below.refl _ _) _))))
                           go_wp2
                           go_ret
                           exact ⟨rfl, below_drewN B4.out _⟩
                         · go_wp2_with fail
                           go_quiet (first | (go_at_call 23; refine Calls.quiet_of_same (HL.out _ (below_drewN (Below.refl _ _) _))))
                           go_wp2
                           go_ret
                           exact ⟨rfl, below_drewN B4.out _⟩)
                  · clear b1
                    rcases hq with hq | ⟨hq, hq2⟩
                    · go_wp2_with fail
                      go_quiet (first | (go_at_call 23; refine Calls.quiet_of_same (HL.out _ (below_drewN (Below.refl _ _) _))))
                      go_wp2
                      go_ret
                      exact ⟨rfl, below_drewN B4.out _⟩
                    · go_wp2_with fail
                      go_quiet (first | (go_at_call 23; refine Calls.quiet_of_same (HL.out _ (below_drewN (Below.refl _ _) _))))
                      go_wp2
                      go_ret
                      exact ⟨rfl, below_drewN B4.out _⟩)
end Go.Proofs.Ytgjggjhompbofaa
