/-
  LinkAll as it runs (mkall.py).
-/
import Derived.Test.YtgjggjhompbofaaZOrderW
import Derived.BigQuiet
import Derived.Deep.QuietTactic
import Derived.Deep.LoopGhost
namespace Go.Proofs.Ytgjggjhompbofaa
open Go.RowKit

/-- The pair as it stands. -/
def Rz (w0 : World) (pb n : Nat) (p : PR) (w : World) : Prop := ∃ G r, PA w0.heap.size w G r p ∧ G.pb = pb ∧ @Inv Ep.a p ∧ Lz n p ∧ Below w0.heap.size w0 w
def half (p : PR) : Nat → PR
  | 0 => p
  | 1 => (p.tk false).pt false
  | _ => (((p.tk false).pt false).tk true).pt true
def full (a : PR) : Nat → PR
  | 0 => a
  | 1 => a.all false (a.way false)
  | _ => (a.all false (a.way false)).all true ((a.all false (a.way false)).way true)
theorem round_full (p : PR) : p.round = full (half p 2) 2 := rfl
section
variable {w0 w : World} {pb n : Nat} {p : PR}
theorem Rz.turn (h : Rz w0 pb n p w) (hn : n ≤ 10000) (t : TN) (ht : t.ok) {q : PR} (hq : p.turn t.x t.k t.i t.s = q) {m : Nat} (hz : Lz (n + 1) q → Lz m q) : Calls Try.prog 26 #[.pointer (some ⟨pb, 0, none⟩), t.v] w fun e w' => e = .returned (.bool true) ∧ Rz w0 pb m q w' := by
  obtain ⟨G, r, h1, rfl, h2, h3, h4⟩ := h
  refine (@turn_any Ep.a _ _ _ _ _ _ t ht h1 h2 h3 hn).mono ?_
  rintro e w' ⟨rfl, ⟨G', r', k1, k2⟩, k3, k4, k5⟩
  rw [hq] at k1 k3 k4
  exact ⟨rfl, G', r', k1, k2, k3, hz k4, h4.trans k5⟩
theorem tn_x (x : Bool) (k : Int) : (TN.mk k (ix x) 0 ⟨#[]⟩).x = x := by cases x <;> rfl
theorem tn_ok (x : Bool) (k : Int) (h0 : 0 ≤ k) (h1 : k ≤ 5) : (TN.mk k (ix x) 0 ⟨#[]⟩).ok := by
  have := ix_lt x
  refine ⟨⟨by show -9223372036854775808 ≤ k; omega, by show k ≤ 9223372036854775807; omega⟩, ⟨by show -9223372036854775808 ≤ ((ix x : Nat) : Int); omega, by show ((ix x : Nat) : Int) ≤ 9223372036854775807; omega⟩, ⟨by show (-9223372036854775808 : Int) ≤ 0; omega, by show (0 : Int) ≤ 9223372036854775807; omega⟩, Nat.zero_le _⟩
theorem Rz.tick (h : Rz w0 pb n p w) (hn : n ≤ 10000) (x : Bool) : Calls Try.prog 26 #[.pointer (some ⟨pb, 0, none⟩), .agg #[.int .i64 2, .int .i64 (ix x : Nat), .int .i64 0, .string ⟨#[]⟩]] w fun e w' => e = .returned (.bool true) ∧ Rz w0 pb n (p.tk x) w' := by
  have hz := h
  obtain ⟨_, _, _, _, _, hz, _⟩ := hz
  refine h.turn hn ⟨2, ix x, 0, ⟨#[]⟩⟩ (tn_ok x 2 (by omega) (by omega)) (q := p.tk x) ?_ fun _ => ⟨hz.way, hz.sent⟩
  rw [tn_x]
  rfl
theorem Rz.put (h : Rz w0 pb n p w) (hn : n ≤ 10000) (x : Bool) : Calls Try.prog 26 #[.pointer (some ⟨pb, 0, none⟩), .agg #[.int .i64 1, .int .i64 (ix x : Nat), .int .i64 0, .string ⟨#[]⟩]] w fun e w' => e = .returned (.bool true) ∧ Rz w0 pb (n + 1) (p.pt x) w' := by
  refine h.turn hn ⟨1, ix x, 0, ⟨#[]⟩⟩ (tn_ok x 1 (by omega) (by omega)) (q := p.pt x) ?_ fun h => h
  rw [tn_x]
  rfl
theorem Rz.one (h : Rz w0 pb n p w) (hn : n ≤ 10000) (x : Bool) {f : FR} {fs : List FR} (hw : p.way x = f :: fs) : Calls Try.prog 26 #[.pointer (some ⟨pb, 0, none⟩), .agg #[.int .i64 3, .int .i64 (ix x : Nat), .int .i64 0, .string ⟨#[]⟩]] w fun e w' => e = .returned (.bool true) ∧ Rz w0 pb n (p.one x f fs) w' := by
  have hz := h
  obtain ⟨_, _, _, _, _, hz, _⟩ := hz
  refine h.turn hn ⟨3, ix x, 0, ⟨#[]⟩⟩ (tn_ok x 3 (by omega) (by omega)) (q := p.one x f fs) ?_ fun _ => ⟨fun y => ?_, hz.sent⟩
  · rw [tn_x]
    show p.turn x 3 0 ⟨#[]⟩ = _
    unfold PR.turn
    rw [if_neg (by decide), if_neg (by decide), if_neg (by decide)]
    have e0 : (pickZ 0 ((p.way x).length : Int)).toNat = 0 := by unfold pickZ; simp
    rw [e0, hw]
    show (p.lose x 0).take x f = p.one x f fs
    unfold PR.lose PR.take PR.one
    rw [hw]
    rfl
  · have h1 := hz.way x
    rw [hw] at h1
    refine @set_len Ep.a _ _ _ _ _ _ hz.way ?_ (Nat.le_refl _) y
    simp only [List.length_cons] at h1
    omega
end
set_option maxHeartbeats 8000000 in
set_option maxRecDepth 100000 in
theorem all_walk (ao : Option Addr) (cp : Nat) (l : List TN) (w : World) (hcm : Turns w ao l) :
    Calls Try.prog 5 #[.slice ao l.length cp] w fun e w' => e = .returned (.bool true) ∧ Below w.heap.size w w' := by
  have HE := hide (examples_any w)
  have HCM := hide hcm
  have hlen := hcm.len
  clear hcm
  go_enter Try.func5, Try.ntmps5
  go_wp2_with fail
  refine HE.out.mono ?_
  rintro e w0 ⟨rfl, be⟩
  have BE := hide be
  clear be HE
  go_wp2_with fail
  refine (run_begin w0).mono ?_
  rintro e w1 ⟨pb, rfl, r1⟩
  have R1 := hide r1
  clear r1
  go_wp2
  go_loopw [5] (fun iv wv => ∃ i : Nat, iv = .int .i64 i ∧ i ≤ 200 ∧ Hid (Run w0 pb i wv)) (fun iv _ => 200 - (intOf iv).toNat)
  case atStart => exact ⟨0, rfl, Nat.zero_le _, R1⟩
  case round =>
    clear R1
    obtain ⟨i, rfl, hi, R⟩ := hrel
    by_cases hlt : i < l.length ∧ i < 200
    · obtain ⟨hl1, hl2⟩ := hlt
      have hb := R.out
      obtain ⟨_, _, _, _, _, _, _, hb⟩ := hb
      have hdd := HCM.out.all.below (BE.out.trans (hb.mono BE.out.size)) i hl1
      have hok := HCM.out.ok l[i] (List.getElem_mem hl1)
      clear hb
      obtain ⟨kb, off, rfl, hkb, d0, d1, d2, d3⟩ := hdd
      have HT := hide (R.out.step (by omega) l[i] hok)
      have hi0 : (0 : Int) ≤ (i : Int) := by omega
      have hi1 : (i : Int) < (l.length : Int) := by omega
      have hi2 : (i : Int) < 200 := by omega
      clear hok
      simp only [TN.v, TN.c] at HT
      generalize l[i].kind = tk at *
      generalize l[i].who = tw at *
      generalize l[i].i = ti at *
      generalize l[i].s = ts at *
      go_wp2_with fail
      refine HT.out.mono ?_
      rintro e w3 ⟨rfl, r3⟩
      have R3 := hide r3
      clear r3 HT d0 d1 d2 d3
      go_wp2
      go_roundw
      case rel => exact ⟨i + 1, by go_num, by omega, R3⟩
      case measure => simp [intOf]; omega
    · obtain ⟨G, r, p, hP, hpb, hI, hL, hb⟩ := R.out
      have Z : Hid (Rz w0 pb 200 p wr) := ⟨G, r, hP, hpb, hI, ⟨fun x => by have := hL.way x; omega, fun x => by have := hL.sent x; omega⟩, hb⟩
      have HI := hide hI
      clear hP hpb hI hL hb R HCM
      by_cases h1 : i < l.length
      · have hi1 : (i : Int) < (l.length : Int) := by omega
        have hi2 : ¬ (i : Int) < 200 := by omega
        clear h1 hlt
        go_wp2
        go_loopw [7] (fun iv wv => ∃ k : Nat, iv = .int .i64 k ∧ k ≤ 100 ∧ Hid (Rz w0 pb (200 + 2 * k) (p.rounds k) wv)) (fun iv _ => 100 - (intOf iv).toNat)
        case atStart => exact ⟨0, rfl, Nat.zero_le _, Z⟩
        case round =>
          clear Z
          obtain ⟨k, rfl, hk, Z2⟩ := hrel
          by_cases hk2 : k < 100
          · have hk3 : (k : Int) < 100 := by omega
            go_wp2
            go_loopw [8] (fun iv wv => ∃ j : Nat, iv = .int .i64 j ∧ j ≤ 2 ∧ Hid (Rz w0 pb (200 + 2 * k + j) (half (p.rounds k) j) wv)) (fun iv _ => 2 - (intOf iv).toNat)
            case atStart => exact ⟨0, rfl, Nat.zero_le _, Z2⟩
            case round =>
              clear Z2
              obtain ⟨j, rfl, hj, Z3⟩ := hrel
              obtain rfl | rfl | rfl : j = 0 ∨ j = 1 ∨ j = 2 := by omega
              · go_wp2_with fail
                refine (Rz.tick Z3.out (by omega) false).mono ?_
                rintro e w4 ⟨rfl, z⟩
                have Z4 := hide z
                clear z
                go_wp2_with fail
                refine (Rz.put Z4.out (by omega) false).mono ?_
                rintro e w5 ⟨rfl, z⟩
                have Z5 := hide z
                clear z
                go_wp2
                go_roundw
                case rel => exact ⟨1, by go_num, by omega, Z5⟩
                case measure => simp [intOf]
              · go_wp2_with fail
                refine (Rz.tick Z3.out (by omega) true).mono ?_
                rintro e w4 ⟨rfl, z⟩
                have Z4 := hide z
                clear z
                go_wp2_with fail
                refine (Rz.put Z4.out (by omega) true).mono ?_
                rintro e w5 ⟨rfl, z⟩
                have Z5 := hide z
                clear z
                go_wp2
                go_roundw
                case rel => exact ⟨2, by go_num, by omega, Z5⟩
                case measure => simp [intOf]
              · go_wp2
                go_loopw [9] (fun iv wv => ∃ j : Nat, iv = .int .i64 j ∧ j ≤ 2 ∧ Hid (Rz w0 pb (200 + 2 * k + 2) (full (half (p.rounds k) 2) j) wv)) (fun iv _ => 2 - (intOf iv).toNat)
                case atStart => exact ⟨0, rfl, Nat.zero_le _, Z3⟩
                case round =>
                  clear Z3
                  obtain ⟨j, rfl, hj, Z6⟩ := hrel
                  obtain rfl | rfl | rfl : j = 0 ∨ j = 1 ∨ j = 2 := by omega
                  · have Z7 := Z6
                    clear Z6
                    obtain ⟨q, hq⟩ : ∃ q, full (half (p.rounds k) 2) 0 = q := ⟨_, rfl⟩
                    obtain ⟨T, hT⟩ : ∃ T, full (half (p.rounds k) 2) 1 = T := ⟨_, rfl⟩
                    have hT2 : Hid (q.all false (q.way false) = T) := by rw [← hq, ← hT]; rfl
                    simp only [hq] at Z7
                    clear hq
                    go_wp2_with fail
                    go_loopg [10] (q.way false).length (fun kk _ wv => ∃ q2 : PR, Hid (q2.all false (q2.way false) = T) ∧ (q2.way false).length = kk ∧ Hid (Rz w0 pb (200 + 2 * k + 2) q2 wv))
                    case atStart => exact ⟨q, hT2, rfl, Z7⟩
                    case round =>
                      clear hT2 Z7
                      obtain ⟨q2, hA, hkk, Z8⟩ := hrel
                      have z := Z8.out
                      obtain ⟨G, r, hP, hpb, _, hL, _⟩ := z
                      have hwl := hL.way false
                      have c1 := hP.cp.2.1
                      have cw : wr.cell? ⟨G.wb, 0, none⟩ = some (G.wv false) := hP.cw false
                      obtain ⟨ao9, cp9, hv9⟩ := row_slice (hP.way false)
                      rw [hv9] at cw
                      rw [hpb] at c1
                      clear hP hpb hL hv9
                      cases hwy : q2.way false with
                      | nil =>
                        rw [hwy] at cw
                        simp only [List.length_nil] at cw
                        have hfin : Hid (q2 = T) := by
                          have h9 := hA.out
                          rw [hwy] at h9
                          exact h9
                        go_wp2
                        go_roundw
                        case rel => exact ⟨1, by go_num, by omega, by rw [hT, ← hfin.out]; exact Z8⟩
                        case measure => simp [intOf]
                      | cons f9 fs9 =>
                        rw [hwy] at cw
                        have hlen9 : (0 : Int) < ((f9 :: fs9).length : Int) := by simp only [List.length_cons]; omega
                        have HW9 := hide hwy
                        rw [hwy] at hkk
                        have HK9 := hide hkk
                        clear hwl hkk hwy
                        generalize hnn : (f9 :: fs9).length = nn at *
                        have HN9 := hide hnn
                        clear hnn
                        go_wp2_with fail
                        refine (Rz.one Z8.out (by omega) false HW9.out).mono ?_
                        rintro e w9 ⟨rfl, z⟩
                        have Z9 := hide z
                        clear z
                        go_wp2
                        go_roundg fs9.length
                        case measure => have := HN9.out; have := HK9.out; simp only [List.length_cons] at *; omega
                        case rel =>
                          refine ⟨q2.one false f9 fs9, ?_, ?_, Z9⟩
                          · have h9 := hA.out
                            rw [HW9.out] at h9
                            have h8 : (q2.one false f9 fs9).way false = fs9 := rfl
                            show _ = _
                            rw [h8]
                            exact h9
                          · rfl
                  · have Z7 := Z6
                    clear Z6
                    obtain ⟨q, hq⟩ : ∃ q, full (half (p.rounds k) 2) 1 = q := ⟨_, rfl⟩
                    obtain ⟨T, hT⟩ : ∃ T, full (half (p.rounds k) 2) 2 = T := ⟨_, rfl⟩
                    have hT2 : Hid (q.all true (q.way true) = T) := by rw [← hq, ← hT]; rfl
                    simp only [hq] at Z7
                    clear hq
                    go_wp2_with fail
                    go_loopg [10] (q.way true).length (fun kk _ wv => ∃ q2 : PR, Hid (q2.all true (q2.way true) = T) ∧ (q2.way true).length = kk ∧ Hid (Rz w0 pb (200 + 2 * k + 2) q2 wv))
                    case atStart => exact ⟨q, hT2, rfl, Z7⟩
                    case round =>
                      clear hT2 Z7
                      obtain ⟨q2, hA, hkk, Z8⟩ := hrel
                      have z := Z8.out
                      obtain ⟨G, r, hP, hpb, _, hL, _⟩ := z
                      have hwl := hL.way true
                      have c1 := hP.cp.2.1
                      have cw : wr.cell? ⟨G.wb, 1, none⟩ = some (G.wv true) := hP.cw true
                      obtain ⟨ao9, cp9, hv9⟩ := row_slice (hP.way true)
                      rw [hv9] at cw
                      rw [hpb] at c1
                      clear hP hpb hL hv9
                      cases hwy : q2.way true with
                      | nil =>
                        rw [hwy] at cw
                        simp only [List.length_nil] at cw
                        have hfin : Hid (q2 = T) := by
                          have h9 := hA.out
                          rw [hwy] at h9
                          exact h9
                        go_wp2
                        go_roundw
                        case rel => exact ⟨2, by go_num, by omega, by rw [hT, ← hfin.out]; exact Z8⟩
                        case measure => simp [intOf]
                      | cons f9 fs9 =>
                        rw [hwy] at cw
                        have hlen9 : (0 : Int) < ((f9 :: fs9).length : Int) := by simp only [List.length_cons]; omega
                        have HW9 := hide hwy
                        rw [hwy] at hkk
                        have HK9 := hide hkk
                        clear hwl hkk hwy
                        generalize hnn : (f9 :: fs9).length = nn at *
                        have HN9 := hide hnn
                        clear hnn
                        go_wp2_with fail
                        refine (Rz.one Z8.out (by omega) true HW9.out).mono ?_
                        rintro e w9 ⟨rfl, z⟩
                        have Z9 := hide z
                        clear z
                        go_wp2
                        go_roundg fs9.length
                        case measure => have := HN9.out; have := HK9.out; simp only [List.length_cons] at *; omega
                        case rel =>
                          refine ⟨q2.one true f9 fs9, ?_, ?_, Z9⟩
                          · have h9 := hA.out
                            rw [HW9.out] at h9
                            have h8 : (q2.one true f9 fs9).way true = fs9 := rfl
                            show _ = _
                            rw [h8]
                            exact h9
                          · rfl
                  · go_wp2
                    go_roundw
                    case rel => exact ⟨k + 1, by go_num, by omega, Z6⟩
                    case measure => simp [intOf]; omega
          · obtain rfl : k = 100 := by omega
            obtain ⟨G, r, hP, rfl, _, _, hb⟩ := Z2.out
            obtain ⟨A0, A1⟩ := @all_told Ep.a p HI.out 100 (by omega) false
            obtain ⟨A2, A3⟩ := @all_told Ep.a p HI.out 100 (by omega) true
            clear HI Z2
            generalize p.rounds 100 = q at *
            have B3 := hide (BE.out.trans (hb.mono BE.out.size))
            obtain ⟨c0, c1, c2, c3⟩ := hP.cp
            have cl0 : wr.cell? ⟨G.lb, 0, none⟩ = some (.pointer (some ⟨G.b false, 0, none⟩)) := hP.cl false
            have cl1 : wr.cell? ⟨G.lb, 1, none⟩ = some (.pointer (some ⟨G.b true, 0, none⟩)) := hP.cl true
            have cs0 : wr.cell? ⟨G.sb, 0, none⟩ = some (G.sv false) := hP.cs false
            have cs1 : wr.cell? ⟨G.sb, 1, none⟩ = some (G.sv true) := hP.cs true
            have ct0 : wr.cell? ⟨G.tb, 0, none⟩ = some (G.tv false) := hP.ct false
            have ct1 : wr.cell? ⟨G.tb, 1, none⟩ = some (G.tv true) := hP.ct true
            obtain ⟨ao1, cp1, hv1⟩ := row_slice (hP.sent false)
            obtain ⟨ao2, cp2, hv2⟩ := row_slice (hP.sent true)
            obtain ⟨ao3, cp3, hv3⟩ := row_slice (hP.told false)
            obtain ⟨ao4, cp4, hv4⟩ := row_slice (hP.told true)
            have e1 : (q.told true).length = (q.sent false).length := A1
            have e2 : (q.told false).length = (q.sent true).length := A3
            rw [e2] at hv3
            rw [e1] at hv4
            rw [hv1] at cs0
            rw [hv2] at cs1
            rw [hv3] at ct0
            rw [hv4] at ct1
            have HL0 : Hid (∀ W, Below wr.heap.size wr W → Calls Try.prog 23 #[.pointer (some ⟨G.b false, 0, none⟩)] W fun e w' => e = .returned (.int .i64 0) ∧ w' = W) := fun W h => by
              have h9 := pwaiting ((hP.link false).below h)
              rw [A0] at h9
              exact h9
            have HL1 : Hid (∀ W, Below wr.heap.size wr W → Calls Try.prog 23 #[.pointer (some ⟨G.b true, 0, none⟩)] W fun e w' => e = .returned (.int .i64 0) ∧ w' = W) := fun W h => by
              have h9 := pwaiting ((hP.link true).below h)
              rw [A2] at h9
              exact h9
            clear hP hb A0 A1 A2 A3 hv1 hv2 hv3 hv4 e1 e2
            generalize (q.sent true).length = n1 at *
            generalize (q.sent false).length = n0 at *
            go_wp2_with fail
            go_quiet (first | (go_at_call 23; first | refine Calls.quiet_of_same (HL0.out _ (below_drewN (Below.refl _ _) _)) | refine Calls.quiet_of_same (HL1.out _ (below_drewN (Below.refl _ _) _))))
            go_wp2
            go_ret
            exact ⟨rfl, below_drewN B3.out _⟩
      · have hi1 : ¬ (i : Int) < (l.length : Int) := by omega
        clear h1 hlt
        go_wp2
        go_loopw [7] (fun iv wv => ∃ k : Nat, iv = .int .i64 k ∧ k ≤ 100 ∧ Hid (Rz w0 pb (200 + 2 * k) (p.rounds k) wv)) (fun iv _ => 100 - (intOf iv).toNat)
        case atStart => exact ⟨0, rfl, Nat.zero_le _, Z⟩
        case round =>
          clear Z
          obtain ⟨k, rfl, hk, Z2⟩ := hrel
          by_cases hk2 : k < 100
          · have hk3 : (k : Int) < 100 := by omega
            go_wp2
            go_loopw [8] (fun iv wv => ∃ j : Nat, iv = .int .i64 j ∧ j ≤ 2 ∧ Hid (Rz w0 pb (200 + 2 * k + j) (half (p.rounds k) j) wv)) (fun iv _ => 2 - (intOf iv).toNat)
            case atStart => exact ⟨0, rfl, Nat.zero_le _, Z2⟩
            case round =>
              clear Z2
              obtain ⟨j, rfl, hj, Z3⟩ := hrel
              obtain rfl | rfl | rfl : j = 0 ∨ j = 1 ∨ j = 2 := by omega
              · go_wp2_with fail
                refine (Rz.tick Z3.out (by omega) false).mono ?_
                rintro e w4 ⟨rfl, z⟩
                have Z4 := hide z
                clear z
                go_wp2_with fail
                refine (Rz.put Z4.out (by omega) false).mono ?_
                rintro e w5 ⟨rfl, z⟩
                have Z5 := hide z
                clear z
                go_wp2
                go_roundw
                case rel => exact ⟨1, by go_num, by omega, Z5⟩
                case measure => simp [intOf]
              · go_wp2_with fail
                refine (Rz.tick Z3.out (by omega) true).mono ?_
                rintro e w4 ⟨rfl, z⟩
                have Z4 := hide z
                clear z
                go_wp2_with fail
                refine (Rz.put Z4.out (by omega) true).mono ?_
                rintro e w5 ⟨rfl, z⟩
                have Z5 := hide z
                clear z
                go_wp2
                go_roundw
                case rel => exact ⟨2, by go_num, by omega, Z5⟩
                case measure => simp [intOf]
              · go_wp2
                go_loopw [9] (fun iv wv => ∃ j : Nat, iv = .int .i64 j ∧ j ≤ 2 ∧ Hid (Rz w0 pb (200 + 2 * k + 2) (full (half (p.rounds k) 2) j) wv)) (fun iv _ => 2 - (intOf iv).toNat)
                case atStart => exact ⟨0, rfl, Nat.zero_le _, Z3⟩
                case round =>
                  clear Z3
                  obtain ⟨j, rfl, hj, Z6⟩ := hrel
                  obtain rfl | rfl | rfl : j = 0 ∨ j = 1 ∨ j = 2 := by omega
                  · have Z7 := Z6
                    clear Z6
                    obtain ⟨q, hq⟩ : ∃ q, full (half (p.rounds k) 2) 0 = q := ⟨_, rfl⟩
                    obtain ⟨T, hT⟩ : ∃ T, full (half (p.rounds k) 2) 1 = T := ⟨_, rfl⟩
                    have hT2 : Hid (q.all false (q.way false) = T) := by rw [← hq, ← hT]; rfl
                    simp only [hq] at Z7
                    clear hq
                    go_wp2_with fail
                    go_loopg [10] (q.way false).length (fun kk _ wv => ∃ q2 : PR, Hid (q2.all false (q2.way false) = T) ∧ (q2.way false).length = kk ∧ Hid (Rz w0 pb (200 + 2 * k + 2) q2 wv))
                    case atStart => exact ⟨q, hT2, rfl, Z7⟩
                    case round =>
                      clear hT2 Z7
                      obtain ⟨q2, hA, hkk, Z8⟩ := hrel
                      have z := Z8.out
                      obtain ⟨G, r, hP, hpb, _, hL, _⟩ := z
                      have hwl := hL.way false
                      have c1 := hP.cp.2.1
                      have cw : wr.cell? ⟨G.wb, 0, none⟩ = some (G.wv false) := hP.cw false
                      obtain ⟨ao9, cp9, hv9⟩ := row_slice (hP.way false)
                      rw [hv9] at cw
                      rw [hpb] at c1
                      clear hP hpb hL hv9
                      cases hwy : q2.way false with
                      | nil =>
                        rw [hwy] at cw
                        simp only [List.length_nil] at cw
                        have hfin : Hid (q2 = T) := by
                          have h9 := hA.out
                          rw [hwy] at h9
                          exact h9
                        go_wp2
                        go_roundw
                        case rel => exact ⟨1, by go_num, by omega, by rw [hT, ← hfin.out]; exact Z8⟩
                        case measure => simp [intOf]
                      | cons f9 fs9 =>
                        rw [hwy] at cw
                        have hlen9 : (0 : Int) < ((f9 :: fs9).length : Int) := by simp only [List.length_cons]; omega
                        have HW9 := hide hwy
                        rw [hwy] at hkk
                        have HK9 := hide hkk
                        clear hwl hkk hwy
                        generalize hnn : (f9 :: fs9).length = nn at *
                        have HN9 := hide hnn
                        clear hnn
                        go_wp2_with fail
                        refine (Rz.one Z8.out (by omega) false HW9.out).mono ?_
                        rintro e w9 ⟨rfl, z⟩
                        have Z9 := hide z
                        clear z
                        go_wp2
                        go_roundg fs9.length
                        case measure => have := HN9.out; have := HK9.out; simp only [List.length_cons] at *; omega
                        case rel =>
                          refine ⟨q2.one false f9 fs9, ?_, ?_, Z9⟩
                          · have h9 := hA.out
                            rw [HW9.out] at h9
                            have h8 : (q2.one false f9 fs9).way false = fs9 := rfl
                            show _ = _
                            rw [h8]
                            exact h9
                          · rfl
                  · have Z7 := Z6
                    clear Z6
                    obtain ⟨q, hq⟩ : ∃ q, full (half (p.rounds k) 2) 1 = q := ⟨_, rfl⟩
                    obtain ⟨T, hT⟩ : ∃ T, full (half (p.rounds k) 2) 2 = T := ⟨_, rfl⟩
                    have hT2 : Hid (q.all true (q.way true) = T) := by rw [← hq, ← hT]; rfl
                    simp only [hq] at Z7
                    clear hq
                    go_wp2_with fail
                    go_loopg [10] (q.way true).length (fun kk _ wv => ∃ q2 : PR, Hid (q2.all true (q2.way true) = T) ∧ (q2.way true).length = kk ∧ Hid (Rz w0 pb (200 + 2 * k + 2) q2 wv))
                    case atStart => exact ⟨q, hT2, rfl, Z7⟩
                    case round =>
                      clear hT2 Z7
                      obtain ⟨q2, hA, hkk, Z8⟩ := hrel
                      have z := Z8.out
                      obtain ⟨G, r, hP, hpb, _, hL, _⟩ := z
                      have hwl := hL.way true
                      have c1 := hP.cp.2.1
                      have cw : wr.cell? ⟨G.wb, 1, none⟩ = some (G.wv true) := hP.cw true
                      obtain ⟨ao9, cp9, hv9⟩ := row_slice (hP.way true)
                      rw [hv9] at cw
                      rw [hpb] at c1
                      clear hP hpb hL hv9
                      cases hwy : q2.way true with
                      | nil =>
                        rw [hwy] at cw
                        simp only [List.length_nil] at cw
                        have hfin : Hid (q2 = T) := by
                          have h9 := hA.out
                          rw [hwy] at h9
                          exact h9
                        go_wp2
                        go_roundw
                        case rel => exact ⟨2, by go_num, by omega, by rw [hT, ← hfin.out]; exact Z8⟩
                        case measure => simp [intOf]
                      | cons f9 fs9 =>
                        rw [hwy] at cw
                        have hlen9 : (0 : Int) < ((f9 :: fs9).length : Int) := by simp only [List.length_cons]; omega
                        have HW9 := hide hwy
                        rw [hwy] at hkk
                        have HK9 := hide hkk
                        clear hwl hkk hwy
                        generalize hnn : (f9 :: fs9).length = nn at *
                        have HN9 := hide hnn
                        clear hnn
                        go_wp2_with fail
                        refine (Rz.one Z8.out (by omega) true HW9.out).mono ?_
                        rintro e w9 ⟨rfl, z⟩
                        have Z9 := hide z
                        clear z
                        go_wp2
                        go_roundg fs9.length
                        case measure => have := HN9.out; have := HK9.out; simp only [List.length_cons] at *; omega
                        case rel =>
                          refine ⟨q2.one true f9 fs9, ?_, ?_, Z9⟩
                          · have h9 := hA.out
                            rw [HW9.out] at h9
                            have h8 : (q2.one true f9 fs9).way true = fs9 := rfl
                            show _ = _
                            rw [h8]
                            exact h9
                          · rfl
                  · go_wp2
                    go_roundw
                    case rel => exact ⟨k + 1, by go_num, by omega, Z6⟩
                    case measure => simp [intOf]; omega
          · obtain rfl : k = 100 := by omega
            obtain ⟨G, r, hP, rfl, _, _, hb⟩ := Z2.out
            obtain ⟨A0, A1⟩ := @all_told Ep.a p HI.out 100 (by omega) false
            obtain ⟨A2, A3⟩ := @all_told Ep.a p HI.out 100 (by omega) true
            clear HI Z2
            generalize p.rounds 100 = q at *
            have B3 := hide (BE.out.trans (hb.mono BE.out.size))
            obtain ⟨c0, c1, c2, c3⟩ := hP.cp
            have cl0 : wr.cell? ⟨G.lb, 0, none⟩ = some (.pointer (some ⟨G.b false, 0, none⟩)) := hP.cl false
            have cl1 : wr.cell? ⟨G.lb, 1, none⟩ = some (.pointer (some ⟨G.b true, 0, none⟩)) := hP.cl true
            have cs0 : wr.cell? ⟨G.sb, 0, none⟩ = some (G.sv false) := hP.cs false
            have cs1 : wr.cell? ⟨G.sb, 1, none⟩ = some (G.sv true) := hP.cs true
            have ct0 : wr.cell? ⟨G.tb, 0, none⟩ = some (G.tv false) := hP.ct false
            have ct1 : wr.cell? ⟨G.tb, 1, none⟩ = some (G.tv true) := hP.ct true
            obtain ⟨ao1, cp1, hv1⟩ := row_slice (hP.sent false)
            obtain ⟨ao2, cp2, hv2⟩ := row_slice (hP.sent true)
            obtain ⟨ao3, cp3, hv3⟩ := row_slice (hP.told false)
            obtain ⟨ao4, cp4, hv4⟩ := row_slice (hP.told true)
            have e1 : (q.told true).length = (q.sent false).length := A1
            have e2 : (q.told false).length = (q.sent true).length := A3
            rw [e2] at hv3
            rw [e1] at hv4
            rw [hv1] at cs0
            rw [hv2] at cs1
            rw [hv3] at ct0
            rw [hv4] at ct1
            have HL0 : Hid (∀ W, Below wr.heap.size wr W → Calls Try.prog 23 #[.pointer (some ⟨G.b false, 0, none⟩)] W fun e w' => e = .returned (.int .i64 0) ∧ w' = W) := fun W h => by
              have h9 := pwaiting ((hP.link false).below h)
              rw [A0] at h9
              exact h9
            have HL1 : Hid (∀ W, Below wr.heap.size wr W → Calls Try.prog 23 #[.pointer (some ⟨G.b true, 0, none⟩)] W fun e w' => e = .returned (.int .i64 0) ∧ w' = W) := fun W h => by
              have h9 := pwaiting ((hP.link true).below h)
              rw [A2] at h9
              exact h9
            clear hP hb A0 A1 A2 A3 hv1 hv2 hv3 hv4 e1 e2
            generalize (q.sent true).length = n1 at *
            generalize (q.sent false).length = n0 at *
            go_wp2_with fail
            go_quiet (first | (go_at_call 23; first | refine Calls.quiet_of_same (HL0.out _ (below_drewN (Below.refl _ _) _)) | refine Calls.quiet_of_same (HL1.out _ (below_drewN (Below.refl _ _) _))))
            go_wp2
            go_ret
            exact ⟨rfl, below_drewN B3.out _⟩
end Go.Proofs.Ytgjggjhompbofaa
