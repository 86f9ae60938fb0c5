/-
  CrcTorn, walked.
-/
import Derived.Test.YtlalfehnkhenjaaDoorBackW
namespace Go.Proofs.YtlalfehnkhenjaaDoor
open Go.RowKit

/-- How many bytes the first frames have, one by one. -/
def endsF (l : List (List UInt8)) (k : Nat) : List Int := (List.range k).map fun j => ((firstF l (j + 1)).length : Int)
theorem endsF_next (l : List (List UInt8)) (k : Nat) : endsF l (k + 1) = endsF l k ++ [((firstF l (k + 1)).length : Int)] := by simp [endsF, List.range_succ]
theorem endsF_length (l : List (List UInt8)) (k : Nat) : (endsF l k).length = k := by simp [endsF]
theorem endsF_get (l : List (List UInt8)) (k j : Nat) (h : j < k) : (endsF l k)[j]? = some ((firstF l (j + 1)).length : Int) := by simp [endsF, h]

def intCells (l : List Int) : List Value := l.map fun n => .int .i64 n
theorem intCells_snoc (l : List Int) (n : Int) : intCells (l ++ [n]) = intCells l ++ [.int .i64 n] := by simp [intCells]

/-- The world in a round: the list of ends grows. -/
structure NS (w w' : World) (v : Value) (l : List (List UInt8)) (k : Nat) : Prop where
  below : Below w.heap.size w w'
  own : w'.ownsRow w.heap.size 3 1 v k (intCells (endsF l k))
theorem NS.after {w w' w2 : World} {v : Value} {l : List (List UInt8)} {k : Nat} (h : NS w w' v l k) (hb : Below w'.heap.size w' w2) : NS w w2 v l k :=
  ⟨h.below.trans (hb.mono h.below.size), own_below h.own hb (Nat.le_refl _)⟩
theorem NS.append {w w' w4 : World} {v v' : Value} {l : List (List UInt8)} {k : Nat} {n : Int} {o : Obj} (h : NS w w' v l k) (hn : n = ((firstF l (k + 1)).length : Int)) (hg : (w'.alloc o).grownBy w4 v.ownBlock) (hown : w4.ownsRow w.heap.size 3 1 v' (k + 1) (intCells (endsF l k) ++ [.int .i64 n])) : NS w w4 v' l (k + 1) := by
  have hs := h.below.size
  refine ⟨(h.below.alloc (by omega) o).grown hg (by simp; omega) (fun k hk => (h.own.lt k hk).1), ?_⟩
  rw [endsF_next, intCells_snoc, ← hn]; exact hown
theorem Tryd.infoInt : Tryd.prog.info? 3 = some Tryd.t3 := by kernel_rfl
theorem Tryd.zeroInt : Tryd.t3.zero = some (.int .i64 0) := by kernel_rfl
theorem Tryd.sizeInt : Tryd.t3.size = 1 := by kernel_rfl
theorem Tryd.bytesInt : Tryd.t3.bytes = 8 := by kernel_rfl

theorem NS.cellAt {w w' : World} {v : Value} {l : List (List UInt8)} {k : Nat} (h : NS w w' v l k) (i : Nat) (hi : i < k) : ∃ g cap, v = .slice (some ⟨g, 0, none⟩) k cap ∧ g < w'.heap.size ∧ w'.cell? ⟨g, i, none⟩ = some (.int .i64 (firstF l (i + 1)).length) := by
  rcases h.own.2 with ⟨_, h0⟩ | ⟨g, cap, cur, hv, hg, hh, _⟩
  · omega
  · refine ⟨g, cap, hv, (Array.getElem?_eq_some_iff.1 hh).1, ?_⟩
    have ho := h.own
    rw [hv] at ho
    have hc := ho.cellAt i (by omega)
    rw [hc]
    simp [intCells, endsF_get l k i hi]

theorem first50 (l : List (List UInt8)) (k : Nat) (hk : k ≤ 50) (h : ∀ j (h : j < l.length), j < k → l[j].length ≤ 400000) : (firstF l k).length ≤ 20000400 := by
  have h1 := sum_upto (l.take k) k fun j hj hjk => by
    rw [List.length_take] at hj
    have := h j (by omega) hjk
    simpa using this
  have e : firstF (l.take k) k = firstF l k := by unfold firstF; rw [List.take_take, Nat.min_self]
  rw [e, List.length_take] at h1
  omega

set_option maxHeartbeats 2000000 in
set_option maxRecDepth 100000 in
theorem torn_pos (ao : Option Addr) (cap : Nat) (l : List (List UInt8)) (c0 : Nat) (w : World) (hc0 : c0 ≤ 9223372036854775807) (hT : Tab w) (hat : StrsAt w ao l) (hlen : l.length ≤ 8796093022208) (hcap : l.length ≤ cap) (hone : ∀ k (h : k < l.length), l[k].length ≤ 9223372036854775807)
    (HE : Hid (∀ w, Tab w → Calls Tryd.prog 9 #[] w fun e w' => e = .returned (.bool true) ∧ Below w.heap.size w w'))
    (HF : Hid (∀ (x : List UInt8) w, Tab w → x.length ≤ 9223372036854775807 → Calls Tryd.prog 14 #[.string ⟨x.toArray⟩] w fun e w' => e = .returned (.tuple #[.string ⟨(frameF x).1.toArray⟩, .int .i64 (frameF x).2]) ∧ Below w.heap.size w w'))
    (HA : Hid (∀ K c m w, Tab w → K ≤ l.length → K ≤ 50 → (∀ j (h : j < l.length), j < K → l[j].length ≤ 400000) → c ≤ (firstF l K).length → m ≤ K → (∀ j, j < m → (firstF l (j + 1)).length ≤ c) → (m = K ∨ c < (firstF l (m + 1)).length) →
      Calls Tryd.prog 19 #[.string ((⟨(firstF l K).toArray⟩ : ByteArray).extract 0 c)] w fun e w' => ∃ v, e = .returned (.tuple #[v, .int .i64 (firstF l m).length, .int .i64 (if (firstF l m).length = c then 0 else 2)]) ∧ w'.ownsRow w.heap.size 9 1 v (l.take m).length (strCells (l.take m)) ∧ Below w.heap.size w w'))
    (HM : Hid (∀ co dap ao cap w m, m ≤ l.length → StrsAt w co (l.take m) → StrsAt w ao (l.take m) → Calls Tryd.prog 20 #[.slice co m dap, .slice ao m cap] w fun e w' => e = .returned (.bool true) ∧ ∃ n, w' = w.drewN n)) :
    Calls Tryd.prog 8 #[.slice ao l.length cap, .int .i64 (c0 : Int)] w fun e w' => e = .returned (.bool true) ∧ Below w.heap.size w w' := by
  have HT := hide hT
  have HAT := hide hat
  have HONE := hide hone
  clear hT hat hone
  go_enter Tryd.func8, Tryd.ntmps8
  go_wp2_with fail
  refine (HE.out _ HT.out).mono ?_
  rintro e w1 ⟨rfl, b1⟩
  have B1 := hide b1
  clear b1
  go_wp2
  go_loopw [6, 7, 8] (fun v ve i wv => ∃ k : Nat, k ≤ l.length ∧ k ≤ 50 ∧ i = .int .i64 k ∧ v = .string ⟨(firstF l k).toArray⟩ ∧ (∀ j (h : j < l.length), j < k → l[j].length ≤ 400000) ∧ NS w wv ve l k) (fun _ _ i _ => l.length - (intOf i).toNat)
  case atStart => exact ⟨0, by omega, by omega, rfl, rfl, fun j h hj => by omega, ⟨B1.out, nil_owned _ _ _ _⟩⟩
  case round =>
    obtain ⟨k, hk, hk50, rfl, rfl, hsm, hns⟩ := hrel
    have HSM := hide hsm
    have HNS := hide hns
    have HTr := hide (HT.out.below hns.below)
    have HATr := hide (HAT.out.below hns.below)
    obtain ⟨eo, ecap, rfl⟩ := own_shape hns.own
    have hS : (⟨(firstF l k).toArray⟩ : ByteArray).size ≤ 20000400 := by
      rw [mk_size]
      exact first50 l k hk50 HSM.out
    clear hsm hns
    obtain ⟨S, hSe⟩ : ∃ S : ByteArray, S = ⟨(firstF l k).toArray⟩ := ⟨_, rfl⟩
    rw [← hSe] at hS ⊢
    have HSE := hide hSe
    clear hSe
    by_cases hkl : k < l.length ∧ k < 50
    · obtain ⟨hkl, hk5⟩ := hkl
      obtain ⟨b, off, rfl, hb, c1⟩ := HATr.out k hkl
      have hone := HONE.out k hkl
      have hfr := fun w hT => HF.out l[k] w hT hone
      obtain ⟨X, hX⟩ : ∃ X : ByteArray, X = ⟨l[k].toArray⟩ := ⟨_, rfl⟩
      rw [← hX] at c1 hfr
      by_cases h4 : l[k].length ≤ 400000
      · have hF : frameF l[k] = (frameB l[k], 0) := by unfold frameF; rw [if_neg (by omega)]
        rw [hF] at hfr
        have hmk := mk_first l k hkl
        rw [← HSE.out] at hmk
        have hFs : (⟨(frameB l[k]).toArray⟩ : ByteArray).size ≤ 400008 := by rw [mk_size, frameB_length]; omega
        generalize (⟨(frameB l[k]).toArray⟩ : ByteArray) = G at *
        have HFR : Hid (∀ w, Tab w → Calls Tryd.prog 14 #[.string X] w fun e w' => e = .returned (.tuple #[.string G, .int .i64 0]) ∧ Below w.heap.size w w') := hfr
        have HMK := hide hmk
        have H4 := hide h4
        obtain ⟨Y, hY⟩ : ∃ Y : ByteArray, S ++ G = Y := ⟨_, rfl⟩
        have hYs : Y.size ≤ 20400408 := by rw [← hY, ByteArray.size_append]; omega
        have HYE : Hid (Y = ⟨(firstF l (k + 1)).toArray⟩) := by rw [← hY]; exact HMK.out
        have HYL : Hid ((Y.size : Int) = ((firstF l (k + 1)).length : Int)) := by
          have h := congrArg ByteArray.size HYE.out
          rw [mk_size] at h
          exact congrArg Int.ofNat h
        clear hfr hmk hX hF h4 hone HMK
        go_wp2_with fail
        refine (HFR.out _ HTr.out).mono ?_
        rintro e w2 ⟨rfl, b2⟩
        have HNS2 := hide (HNS.out.after b2)
        clear b2
        go_wp2_with (at_builtin; refine wpList_append_own _ rfl _ _ 45 rfl w.heap.size 3 Tryd.t3 (.int .i64 0) 1 8 Tryd.underlying45 ?hi ?hz ?hs ?hby rfl (by decide) _ _ _ rfl (HNS2.out.own.alloc _) ⟨_, 0, none⟩ 1 1 [.int .i64 Y.size] rfl rfl ?hnews ?h1 ?h63 ?hb47 ?hbase ?_)
        case hi => exact Tryd.infoInt
        case hz => exact Tryd.zeroInt
        case hs => exact Tryd.sizeInt
        case hby => exact Tryd.bytesInt
        case hnews => exact cells_new1 _ _ _ _ rfl
        case h1 =>
          intro u hu
          simp at hu
          subst hu
          rfl
        case h63 => unfold maxLen; omega
        case hb47 => omega
        case hbase => have := HNS2.out.below.size; simp; omega
        intro v' w4 hown hgrow _
        have HNS4 := hide (HNS2.out.append HYL.out hgrow hown)
        clear hown hgrow
        go_wp2
        exact ⟨⟨k + 1, by omega, by omega, by go_num, by rw [HYE.out], fun j h hj => by
          by_cases hjk : j = k
          · subst hjk; exact H4.out
          · exact HSM.out j h (by omega), HNS4.out⟩, by simp [intOf]; omega⟩
      · have hF : frameF l[k] = ([], 3) := by unfold frameF; rw [if_pos (by omega)]
        rw [hF] at hfr
        have HFR : Hid (∀ w, Tab w → Calls Tryd.prog 14 #[.string X] w fun e w' => e = .returned (.tuple #[.string ⟨#[]⟩, .int .i64 3]) ∧ Below w.heap.size w w') := hfr
        clear hfr hX hF h4 hone
        go_wp2_with fail
        refine (HFR.out _ HTr.out).mono ?_
        rintro e w2 ⟨rfl, b2⟩
        have HNS2 := hide (HNS.out.after b2)
        clear b2
        go_wp2
        go_ret
        exact ⟨rfl, HNS2.out.below⟩
    · by_cases hkl1 : k < l.length
      · have hkl2 : ¬ k < 50 := by omega
        go_wp2
        have hce : (c0 : Int) % ((S.size : Int) + 1) = ((c0 % (S.size + 1) : Nat) : Int) := by rw [Int.natCast_emod]; rfl
        rw [hce]
        have hcS : c0 % (S.size + 1) ≤ S.size := by have := Nat.mod_lt c0 (show 0 < S.size + 1 by omega); omega
        clear hce
        generalize c0 % (S.size + 1) = c at *
        have HCS : Hid (c ≤ (firstF l k).length) := by
          have h : S.size = (firstF l k).length := by rw [HSE.out, mk_size]
          exact (by omega : c ≤ (firstF l k).length)
        have HEA : Hid (∀ i, i < k → ∃ g, eo = some ⟨g, 0, none⟩ ∧ g < wr.heap.size ∧ wr.cell? ⟨g, i, none⟩ = some (.int .i64 (firstF l (i + 1)).length)) := by
          intro i hi
          obtain ⟨g, cp, hv, hg, hc⟩ := HNS.out.cellAt i hi
          injection hv with h1
          exact ⟨g, h1, hg, hc⟩
        go_loopw [11] (fun i wv => wv = wr ∧ ∃ m : Nat, m ≤ k ∧ i = .int .i64 m ∧ (∀ j, j < m → (firstF l (j + 1)).length ≤ c)) (fun i _ => k - (intOf i).toNat)
        case atStart => exact ⟨rfl, 0, by omega, rfl, fun j hj => by omega⟩
        case round =>
          obtain ⟨rfl, m, hm, rfl, hp⟩ := hrel
          have HP := hide hp
          clear hp
          by_cases hmk : m < k
          · obtain ⟨g, hge, hg, hcell⟩ := HEA.out m hmk
            cases hge
            obtain ⟨N1, hN1⟩ : ∃ N1, (firstF l (m + 1)).length = N1 := ⟨_, rfl⟩
            rw [hN1] at hcell
            have HN1 := hide hN1
            clear hN1
            by_cases hle : N1 ≤ c
            · go_wp2
              exact ⟨⟨by first | rfl | trivial, m + 1, by omega, by go_num, fun j hj => by
                by_cases hjm : j = m
                · subst hjm; rw [HN1.out]; exact hle
                · exact HP.out j (by omega)⟩, by simp [intOf]; omega⟩
            · have HQ : Hid (m = k ∨ c < (firstF l (m + 1)).length) := Or.inr (by rw [HN1.out]; omega)
              by_cases hm0 : m ≤ 0
              · skip
                have HAc := hide (HA.out k c m _ HTr.out hk hk50 HSM.out HCS.out (by omega) HP.out HQ.out)
                have e0 : (firstF l m).length = 0 := by rw [show m = 0 by omega]; rfl
                rw [e0, ← HSE.out] at HAc
                clear e0
                have HML : Hid (m ≤ l.length) := (by omega : m ≤ l.length)
                have hmcap : m ≤ cap := by omega
                by_cases hNc : 0 = c
                · rw [if_pos hNc] at HAc
                  have hNi : ((0 : Int) == (c : Int)) = true := by rw [beq_iff_eq]; omega
                  clear hNc
                  go_wp2_with fail
                  refine HAc.out.mono ?_
                  rintro e w5 ⟨v5, rfl, hown5, b5⟩
                  have B5 := hide (HNS.out.below.trans (b5.mono HNS.out.below.size))
                  have HAT5 := hide (HATr.out.below b5)
                  obtain ⟨co, ccap, rfl, hco⟩ := strs_of_own hown5
                  have hTK : (l.take m).length = m := by rw [List.length_take]; omega
                  rw [hTK]
                  have HC5 := hide hco
                  clear b5 hown5 hco hTK
                  go_wp2_with fail
                  obtain rfl : m = 0 := by omega
                  refine (HM.out co ccap ao cap _ 0 HML.out HC5.out (HAT5.out.take 0)).mono ?_
                  rintro e w6 ⟨rfl, nq, rfl⟩
                  go_wp2
                  go_ret
                  exact ⟨rfl, below_drewN B5.out nq⟩
                · rw [if_neg hNc] at HAc
                  have hNi : ((0 : Int) == (c : Int)) = false := by rw [beq_eq_false_iff_ne]; omega
                  clear hNc
                  go_wp2_with fail
                  refine HAc.out.mono ?_
                  rintro e w5 ⟨v5, rfl, hown5, b5⟩
                  have B5 := hide (HNS.out.below.trans (b5.mono HNS.out.below.size))
                  have HAT5 := hide (HATr.out.below b5)
                  obtain ⟨co, ccap, rfl, hco⟩ := strs_of_own hown5
                  have hTK : (l.take m).length = m := by rw [List.length_take]; omega
                  rw [hTK]
                  have HC5 := hide hco
                  clear b5 hown5 hco hTK
                  go_wp2_with fail
                  obtain rfl : m = 0 := by omega
                  refine (HM.out co ccap ao cap _ 0 HML.out HC5.out (HAT5.out.take 0)).mono ?_
                  rintro e w6 ⟨rfl, nq, rfl⟩
                  go_wp2
                  go_ret
                  exact ⟨rfl, below_drewN B5.out nq⟩
              · skip
                obtain ⟨n, rfl⟩ : ∃ n, m = n + 1 := ⟨m - 1, by omega⟩
                obtain ⟨g2, hge2, hg2, hcell2⟩ := HEA.out n (by omega)
                cases hge2
                have HAc := hide (HA.out k c (n + 1) _ HTr.out hk hk50 HSM.out HCS.out (by omega) HP.out HQ.out)
                obtain ⟨N, hN⟩ : ∃ N, (firstF l (n + 1)).length = N := ⟨_, rfl⟩
                rw [hN] at HAc hcell2
                rw [← HSE.out] at HAc
                have hN50 : N ≤ 20000400 := by rw [← hN]; exact first50 l (n + 1) (by omega) (fun j h hj => HSM.out j h (by omega))
                clear hN
                have HML : Hid (n + 1 ≤ l.length) := (by omega : n + 1 ≤ l.length)
                have hmcap : n + 1 ≤ cap := by omega
                by_cases hNc : N = c
                · rw [if_pos hNc] at HAc
                  have hNi : ((N : Int) == (c : Int)) = true := by rw [beq_iff_eq]; omega
                  clear hNc
                  go_wp2_with fail
                  refine HAc.out.mono ?_
                  rintro e w5 ⟨v5, rfl, hown5, b5⟩
                  have B5 := hide (HNS.out.below.trans (b5.mono HNS.out.below.size))
                  have HAT5 := hide (HATr.out.below b5)
                  obtain ⟨co, ccap, rfl, hco⟩ := strs_of_own hown5
                  have hTK : (l.take (n + 1)).length = n + 1 := by rw [List.length_take]; omega
                  rw [hTK]
                  have HC5 := hide hco
                  clear b5 hown5 hco hTK
                  go_wp2_with fail
                  refine (HM.out co ccap ao cap _ (n + 1) HML.out HC5.out (HAT5.out.take (n + 1))).mono ?_
                  rintro e w6 ⟨rfl, nq, rfl⟩
                  go_wp2
                  go_ret
                  exact ⟨rfl, below_drewN B5.out nq⟩
                · rw [if_neg hNc] at HAc
                  have hNi : ((N : Int) == (c : Int)) = false := by rw [beq_eq_false_iff_ne]; omega
                  clear hNc
                  go_wp2_with fail
                  refine HAc.out.mono ?_
                  rintro e w5 ⟨v5, rfl, hown5, b5⟩
                  have B5 := hide (HNS.out.below.trans (b5.mono HNS.out.below.size))
                  have HAT5 := hide (HATr.out.below b5)
                  obtain ⟨co, ccap, rfl, hco⟩ := strs_of_own hown5
                  have hTK : (l.take (n + 1)).length = n + 1 := by rw [List.length_take]; omega
                  rw [hTK]
                  have HC5 := hide hco
                  clear b5 hown5 hco hTK
                  go_wp2_with fail
                  refine (HM.out co ccap ao cap _ (n + 1) HML.out HC5.out (HAT5.out.take (n + 1))).mono ?_
                  rintro e w6 ⟨rfl, nq, rfl⟩
                  go_wp2
                  go_ret
                  exact ⟨rfl, below_drewN B5.out nq⟩
          · have HQ : Hid (m = k ∨ c < (firstF l (m + 1)).length) := Or.inl (by omega)
            obtain ⟨n, rfl⟩ : ∃ n, m = n + 1 := ⟨m - 1, by omega⟩
            obtain ⟨g2, hge2, hg2, hcell2⟩ := HEA.out n (by omega)
            cases hge2
            have HAc := hide (HA.out k c (n + 1) _ HTr.out hk hk50 HSM.out HCS.out (by omega) HP.out HQ.out)
            obtain ⟨N, hN⟩ : ∃ N, (firstF l (n + 1)).length = N := ⟨_, rfl⟩
            rw [hN] at HAc hcell2
            rw [← HSE.out] at HAc
            have hN50 : N ≤ 20000400 := by rw [← hN]; exact first50 l (n + 1) (by omega) (fun j h hj => HSM.out j h (by omega))
            clear hN
            have HML : Hid (n + 1 ≤ l.length) := (by omega : n + 1 ≤ l.length)
            have hmcap : n + 1 ≤ cap := by omega
            by_cases hNc : N = c
            · rw [if_pos hNc] at HAc
              have hNi : ((N : Int) == (c : Int)) = true := by rw [beq_iff_eq]; omega
              clear hNc
              go_wp2_with fail
              refine HAc.out.mono ?_
              rintro e w5 ⟨v5, rfl, hown5, b5⟩
              have B5 := hide (HNS.out.below.trans (b5.mono HNS.out.below.size))
              have HAT5 := hide (HATr.out.below b5)
              obtain ⟨co, ccap, rfl, hco⟩ := strs_of_own hown5
              have hTK : (l.take (n + 1)).length = n + 1 := by rw [List.length_take]; omega
              rw [hTK]
              have HC5 := hide hco
              clear b5 hown5 hco hTK
              go_wp2_with fail
              refine (HM.out co ccap ao cap _ (n + 1) HML.out HC5.out (HAT5.out.take (n + 1))).mono ?_
              rintro e w6 ⟨rfl, nq, rfl⟩
              go_wp2
              go_ret
              exact ⟨rfl, below_drewN B5.out nq⟩
            · rw [if_neg hNc] at HAc
              have hNi : ((N : Int) == (c : Int)) = false := by rw [beq_eq_false_iff_ne]; omega
              clear hNc
              go_wp2_with fail
              refine HAc.out.mono ?_
              rintro e w5 ⟨v5, rfl, hown5, b5⟩
              have B5 := hide (HNS.out.below.trans (b5.mono HNS.out.below.size))
              have HAT5 := hide (HATr.out.below b5)
              obtain ⟨co, ccap, rfl, hco⟩ := strs_of_own hown5
              have hTK : (l.take (n + 1)).length = n + 1 := by rw [List.length_take]; omega
              rw [hTK]
              have HC5 := hide hco
              clear b5 hown5 hco hTK
              go_wp2_with fail
              refine (HM.out co ccap ao cap _ (n + 1) HML.out HC5.out (HAT5.out.take (n + 1))).mono ?_
              rintro e w6 ⟨rfl, nq, rfl⟩
              go_wp2
              go_ret
              exact ⟨rfl, below_drewN B5.out nq⟩
      · skip
        go_wp2
        have hce : (c0 : Int) % ((S.size : Int) + 1) = ((c0 % (S.size + 1) : Nat) : Int) := by rw [Int.natCast_emod]; rfl
        rw [hce]
        have hcS : c0 % (S.size + 1) ≤ S.size := by have := Nat.mod_lt c0 (show 0 < S.size + 1 by omega); omega
        clear hce
        generalize c0 % (S.size + 1) = c at *
        have HCS : Hid (c ≤ (firstF l k).length) := by
          have h : S.size = (firstF l k).length := by rw [HSE.out, mk_size]
          exact (by omega : c ≤ (firstF l k).length)
        have HEA : Hid (∀ i, i < k → ∃ g, eo = some ⟨g, 0, none⟩ ∧ g < wr.heap.size ∧ wr.cell? ⟨g, i, none⟩ = some (.int .i64 (firstF l (i + 1)).length)) := by
          intro i hi
          obtain ⟨g, cp, hv, hg, hc⟩ := HNS.out.cellAt i hi
          injection hv with h1
          exact ⟨g, h1, hg, hc⟩
        go_loopw [11] (fun i wv => wv = wr ∧ ∃ m : Nat, m ≤ k ∧ i = .int .i64 m ∧ (∀ j, j < m → (firstF l (j + 1)).length ≤ c)) (fun i _ => k - (intOf i).toNat)
        case atStart => exact ⟨rfl, 0, by omega, rfl, fun j hj => by omega⟩
        case round =>
          obtain ⟨rfl, m, hm, rfl, hp⟩ := hrel
          have HP := hide hp
          clear hp
          by_cases hmk : m < k
          · obtain ⟨g, hge, hg, hcell⟩ := HEA.out m hmk
            cases hge
            obtain ⟨N1, hN1⟩ : ∃ N1, (firstF l (m + 1)).length = N1 := ⟨_, rfl⟩
            rw [hN1] at hcell
            have HN1 := hide hN1
            clear hN1
            by_cases hle : N1 ≤ c
            · go_wp2
              exact ⟨⟨by first | rfl | trivial, m + 1, by omega, by go_num, fun j hj => by
                by_cases hjm : j = m
                · subst hjm; rw [HN1.out]; exact hle
                · exact HP.out j (by omega)⟩, by simp [intOf]; omega⟩
            · have HQ : Hid (m = k ∨ c < (firstF l (m + 1)).length) := Or.inr (by rw [HN1.out]; omega)
              by_cases hm0 : m ≤ 0
              · skip
                have HAc := hide (HA.out k c m _ HTr.out hk hk50 HSM.out HCS.out (by omega) HP.out HQ.out)
                have e0 : (firstF l m).length = 0 := by rw [show m = 0 by omega]; rfl
                rw [e0, ← HSE.out] at HAc
                clear e0
                have HML : Hid (m ≤ l.length) := (by omega : m ≤ l.length)
                have hmcap : m ≤ cap := by omega
                by_cases hNc : 0 = c
                · rw [if_pos hNc] at HAc
                  have hNi : ((0 : Int) == (c : Int)) = true := by rw [beq_iff_eq]; omega
                  clear hNc
                  go_wp2_with fail
                  refine HAc.out.mono ?_
                  rintro e w5 ⟨v5, rfl, hown5, b5⟩
                  have B5 := hide (HNS.out.below.trans (b5.mono HNS.out.below.size))
                  have HAT5 := hide (HATr.out.below b5)
                  obtain ⟨co, ccap, rfl, hco⟩ := strs_of_own hown5
                  have hTK : (l.take m).length = m := by rw [List.length_take]; omega
                  rw [hTK]
                  have HC5 := hide hco
                  clear b5 hown5 hco hTK
                  go_wp2_with fail
                  obtain rfl : m = 0 := by omega
                  refine (HM.out co ccap ao cap _ 0 HML.out HC5.out (HAT5.out.take 0)).mono ?_
                  rintro e w6 ⟨rfl, nq, rfl⟩
                  go_wp2
                  go_ret
                  exact ⟨rfl, below_drewN B5.out nq⟩
                · rw [if_neg hNc] at HAc
                  have hNi : ((0 : Int) == (c : Int)) = false := by rw [beq_eq_false_iff_ne]; omega
                  clear hNc
                  go_wp2_with fail
                  refine HAc.out.mono ?_
                  rintro e w5 ⟨v5, rfl, hown5, b5⟩
                  have B5 := hide (HNS.out.below.trans (b5.mono HNS.out.below.size))
                  have HAT5 := hide (HATr.out.below b5)
                  obtain ⟨co, ccap, rfl, hco⟩ := strs_of_own hown5
                  have hTK : (l.take m).length = m := by rw [List.length_take]; omega
                  rw [hTK]
                  have HC5 := hide hco
                  clear b5 hown5 hco hTK
                  go_wp2_with fail
                  obtain rfl : m = 0 := by omega
                  refine (HM.out co ccap ao cap _ 0 HML.out HC5.out (HAT5.out.take 0)).mono ?_
                  rintro e w6 ⟨rfl, nq, rfl⟩
                  go_wp2
                  go_ret
                  exact ⟨rfl, below_drewN B5.out nq⟩
              · skip
                obtain ⟨n, rfl⟩ : ∃ n, m = n + 1 := ⟨m - 1, by omega⟩
                obtain ⟨g2, hge2, hg2, hcell2⟩ := HEA.out n (by omega)
                cases hge2
                have HAc := hide (HA.out k c (n + 1) _ HTr.out hk hk50 HSM.out HCS.out (by omega) HP.out HQ.out)
                obtain ⟨N, hN⟩ : ∃ N, (firstF l (n + 1)).length = N := ⟨_, rfl⟩
                rw [hN] at HAc hcell2
                rw [← HSE.out] at HAc
                have hN50 : N ≤ 20000400 := by rw [← hN]; exact first50 l (n + 1) (by omega) (fun j h hj => HSM.out j h (by omega))
                clear hN
                have HML : Hid (n + 1 ≤ l.length) := (by omega : n + 1 ≤ l.length)
                have hmcap : n + 1 ≤ cap := by omega
                by_cases hNc : N = c
                · rw [if_pos hNc] at HAc
                  have hNi : ((N : Int) == (c : Int)) = true := by rw [beq_iff_eq]; omega
                  clear hNc
                  go_wp2_with fail
                  refine HAc.out.mono ?_
                  rintro e w5 ⟨v5, rfl, hown5, b5⟩
                  have B5 := hide (HNS.out.below.trans (b5.mono HNS.out.below.size))
                  have HAT5 := hide (HATr.out.below b5)
                  obtain ⟨co, ccap, rfl, hco⟩ := strs_of_own hown5
                  have hTK : (l.take (n + 1)).length = n + 1 := by rw [List.length_take]; omega
                  rw [hTK]
                  have HC5 := hide hco
                  clear b5 hown5 hco hTK
                  go_wp2_with fail
                  refine (HM.out co ccap ao cap _ (n + 1) HML.out HC5.out (HAT5.out.take (n + 1))).mono ?_
                  rintro e w6 ⟨rfl, nq, rfl⟩
                  go_wp2
                  go_ret
                  exact ⟨rfl, below_drewN B5.out nq⟩
                · rw [if_neg hNc] at HAc
                  have hNi : ((N : Int) == (c : Int)) = false := by rw [beq_eq_false_iff_ne]; omega
                  clear hNc
                  go_wp2_with fail
                  refine HAc.out.mono ?_
                  rintro e w5 ⟨v5, rfl, hown5, b5⟩
                  have B5 := hide (HNS.out.below.trans (b5.mono HNS.out.below.size))
                  have HAT5 := hide (HATr.out.below b5)
                  obtain ⟨co, ccap, rfl, hco⟩ := strs_of_own hown5
                  have hTK : (l.take (n + 1)).length = n + 1 := by rw [List.length_take]; omega
                  rw [hTK]
                  have HC5 := hide hco
                  clear b5 hown5 hco hTK
                  go_wp2_with fail
                  refine (HM.out co ccap ao cap _ (n + 1) HML.out HC5.out (HAT5.out.take (n + 1))).mono ?_
                  rintro e w6 ⟨rfl, nq, rfl⟩
                  go_wp2
                  go_ret
                  exact ⟨rfl, below_drewN B5.out nq⟩
          · have HQ : Hid (m = k ∨ c < (firstF l (m + 1)).length) := Or.inl (by omega)
            by_cases hm0 : m ≤ 0
            · skip
              have HAc := hide (HA.out k c m _ HTr.out hk hk50 HSM.out HCS.out (by omega) HP.out HQ.out)
              have e0 : (firstF l m).length = 0 := by rw [show m = 0 by omega]; rfl
              rw [e0, ← HSE.out] at HAc
              clear e0
              have HML : Hid (m ≤ l.length) := (by omega : m ≤ l.length)
              have hmcap : m ≤ cap := by omega
              by_cases hNc : 0 = c
              · rw [if_pos hNc] at HAc
                have hNi : ((0 : Int) == (c : Int)) = true := by rw [beq_iff_eq]; omega
                clear hNc
                go_wp2_with fail
                refine HAc.out.mono ?_
                rintro e w5 ⟨v5, rfl, hown5, b5⟩
                have B5 := hide (HNS.out.below.trans (b5.mono HNS.out.below.size))
                have HAT5 := hide (HATr.out.below b5)
                obtain ⟨co, ccap, rfl, hco⟩ := strs_of_own hown5
                have hTK : (l.take m).length = m := by rw [List.length_take]; omega
                rw [hTK]
                have HC5 := hide hco
                clear b5 hown5 hco hTK
                go_wp2_with fail
                obtain rfl : m = 0 := by omega
                refine (HM.out co ccap ao cap _ 0 HML.out HC5.out (HAT5.out.take 0)).mono ?_
                rintro e w6 ⟨rfl, nq, rfl⟩
                go_wp2
                go_ret
                exact ⟨rfl, below_drewN B5.out nq⟩
              · rw [if_neg hNc] at HAc
                have hNi : ((0 : Int) == (c : Int)) = false := by rw [beq_eq_false_iff_ne]; omega
                clear hNc
                go_wp2_with fail
                refine HAc.out.mono ?_
                rintro e w5 ⟨v5, rfl, hown5, b5⟩
                have B5 := hide (HNS.out.below.trans (b5.mono HNS.out.below.size))
                have HAT5 := hide (HATr.out.below b5)
                obtain ⟨co, ccap, rfl, hco⟩ := strs_of_own hown5
                have hTK : (l.take m).length = m := by rw [List.length_take]; omega
                rw [hTK]
                have HC5 := hide hco
                clear b5 hown5 hco hTK
                go_wp2_with fail
                obtain rfl : m = 0 := by omega
                refine (HM.out co ccap ao cap _ 0 HML.out HC5.out (HAT5.out.take 0)).mono ?_
                rintro e w6 ⟨rfl, nq, rfl⟩
                go_wp2
                go_ret
                exact ⟨rfl, below_drewN B5.out nq⟩
            · skip
              obtain ⟨n, rfl⟩ : ∃ n, m = n + 1 := ⟨m - 1, by omega⟩
              obtain ⟨g2, hge2, hg2, hcell2⟩ := HEA.out n (by omega)
              cases hge2
              have HAc := hide (HA.out k c (n + 1) _ HTr.out hk hk50 HSM.out HCS.out (by omega) HP.out HQ.out)
              obtain ⟨N, hN⟩ : ∃ N, (firstF l (n + 1)).length = N := ⟨_, rfl⟩
              rw [hN] at HAc hcell2
              rw [← HSE.out] at HAc
              have hN50 : N ≤ 20000400 := by rw [← hN]; exact first50 l (n + 1) (by omega) (fun j h hj => HSM.out j h (by omega))
              clear hN
              have HML : Hid (n + 1 ≤ l.length) := (by omega : n + 1 ≤ l.length)
              have hmcap : n + 1 ≤ cap := by omega
              by_cases hNc : N = c
              · rw [if_pos hNc] at HAc
                have hNi : ((N : Int) == (c : Int)) = true := by rw [beq_iff_eq]; omega
                clear hNc
                go_wp2_with fail
                refine HAc.out.mono ?_
                rintro e w5 ⟨v5, rfl, hown5, b5⟩
                have B5 := hide (HNS.out.below.trans (b5.mono HNS.out.below.size))
                have HAT5 := hide (HATr.out.below b5)
                obtain ⟨co, ccap, rfl, hco⟩ := strs_of_own hown5
                have hTK : (l.take (n + 1)).length = n + 1 := by rw [List.length_take]; omega
                rw [hTK]
                have HC5 := hide hco
                clear b5 hown5 hco hTK
                go_wp2_with fail
                refine (HM.out co ccap ao cap _ (n + 1) HML.out HC5.out (HAT5.out.take (n + 1))).mono ?_
                rintro e w6 ⟨rfl, nq, rfl⟩
                go_wp2
                go_ret
                exact ⟨rfl, below_drewN B5.out nq⟩
              · rw [if_neg hNc] at HAc
                have hNi : ((N : Int) == (c : Int)) = false := by rw [beq_eq_false_iff_ne]; omega
                clear hNc
                go_wp2_with fail
                refine HAc.out.mono ?_
                rintro e w5 ⟨v5, rfl, hown5, b5⟩
                have B5 := hide (HNS.out.below.trans (b5.mono HNS.out.below.size))
                have HAT5 := hide (HATr.out.below b5)
                obtain ⟨co, ccap, rfl, hco⟩ := strs_of_own hown5
                have hTK : (l.take (n + 1)).length = n + 1 := by rw [List.length_take]; omega
                rw [hTK]
                have HC5 := hide hco
                clear b5 hown5 hco hTK
                go_wp2_with fail
                refine (HM.out co ccap ao cap _ (n + 1) HML.out HC5.out (HAT5.out.take (n + 1))).mono ?_
                rintro e w6 ⟨rfl, nq, rfl⟩
                go_wp2
                go_ret
                exact ⟨rfl, below_drewN B5.out nq⟩
set_option maxHeartbeats 2000000 in
set_option maxRecDepth 100000 in
theorem torn_neg (ao : Option Addr) (cap : Nat) (l : List (List UInt8)) (c0 : Nat) (w : World) (hc0 : c0 ≤ 9223372036854775807) (hT : Tab w) (hat : StrsAt w ao l) (hlen : l.length ≤ 8796093022208) (hcap : l.length ≤ cap) (hone : ∀ k (h : k < l.length), l[k].length ≤ 9223372036854775807)
    (HE : Hid (∀ w, Tab w → Calls Tryd.prog 9 #[] w fun e w' => e = .returned (.bool true) ∧ Below w.heap.size w w'))
    (HF : Hid (∀ (x : List UInt8) w, Tab w → x.length ≤ 9223372036854775807 → Calls Tryd.prog 14 #[.string ⟨x.toArray⟩] w fun e w' => e = .returned (.tuple #[.string ⟨(frameF x).1.toArray⟩, .int .i64 (frameF x).2]) ∧ Below w.heap.size w w'))
    (HA : Hid (∀ K c m w, Tab w → K ≤ l.length → K ≤ 50 → (∀ j (h : j < l.length), j < K → l[j].length ≤ 400000) → c ≤ (firstF l K).length → m ≤ K → (∀ j, j < m → (firstF l (j + 1)).length ≤ c) → (m = K ∨ c < (firstF l (m + 1)).length) →
      Calls Tryd.prog 19 #[.string ((⟨(firstF l K).toArray⟩ : ByteArray).extract 0 c)] w fun e w' => ∃ v, e = .returned (.tuple #[v, .int .i64 (firstF l m).length, .int .i64 (if (firstF l m).length = c then 0 else 2)]) ∧ w'.ownsRow w.heap.size 9 1 v (l.take m).length (strCells (l.take m)) ∧ Below w.heap.size w w'))
    (HM : Hid (∀ co dap ao cap w m, m ≤ l.length → StrsAt w co (l.take m) → StrsAt w ao (l.take m) → Calls Tryd.prog 20 #[.slice co m dap, .slice ao m cap] w fun e w' => e = .returned (.bool true) ∧ ∃ n, w' = w.drewN n)) :
    Calls Tryd.prog 8 #[.slice ao l.length cap, .int .i64 (-(c0 : Int) - 1)] w fun e w' => e = .returned (.bool true) ∧ Below w.heap.size w w' := by
  have HT := hide hT
  have HAT := hide hat
  have HONE := hide hone
  clear hT hat hone
  go_enter Tryd.func8, Tryd.ntmps8
  go_wp2_with fail
  refine (HE.out _ HT.out).mono ?_
  rintro e w1 ⟨rfl, b1⟩
  have B1 := hide b1
  clear b1
  go_wp2
  go_loopw [6, 7, 8] (fun v ve i wv => ∃ k : Nat, k ≤ l.length ∧ k ≤ 50 ∧ i = .int .i64 k ∧ v = .string ⟨(firstF l k).toArray⟩ ∧ (∀ j (h : j < l.length), j < k → l[j].length ≤ 400000) ∧ NS w wv ve l k) (fun _ _ i _ => l.length - (intOf i).toNat)
  case atStart => exact ⟨0, by omega, by omega, rfl, rfl, fun j h hj => by omega, ⟨B1.out, nil_owned _ _ _ _⟩⟩
  case round =>
    obtain ⟨k, hk, hk50, rfl, rfl, hsm, hns⟩ := hrel
    have HSM := hide hsm
    have HNS := hide hns
    have HTr := hide (HT.out.below hns.below)
    have HATr := hide (HAT.out.below hns.below)
    obtain ⟨eo, ecap, rfl⟩ := own_shape hns.own
    have hS : (⟨(firstF l k).toArray⟩ : ByteArray).size ≤ 20000400 := by
      rw [mk_size]
      exact first50 l k hk50 HSM.out
    clear hsm hns
    obtain ⟨S, hSe⟩ : ∃ S : ByteArray, S = ⟨(firstF l k).toArray⟩ := ⟨_, rfl⟩
    rw [← hSe] at hS ⊢
    have HSE := hide hSe
    clear hSe
    by_cases hkl : k < l.length ∧ k < 50
    · obtain ⟨hkl, hk5⟩ := hkl
      obtain ⟨b, off, rfl, hb, c1⟩ := HATr.out k hkl
      have hone := HONE.out k hkl
      have hfr := fun w hT => HF.out l[k] w hT hone
      obtain ⟨X, hX⟩ : ∃ X : ByteArray, X = ⟨l[k].toArray⟩ := ⟨_, rfl⟩
      rw [← hX] at c1 hfr
      by_cases h4 : l[k].length ≤ 400000
      · have hF : frameF l[k] = (frameB l[k], 0) := by unfold frameF; rw [if_neg (by omega)]
        rw [hF] at hfr
        have hmk := mk_first l k hkl
        rw [← HSE.out] at hmk
        have hFs : (⟨(frameB l[k]).toArray⟩ : ByteArray).size ≤ 400008 := by rw [mk_size, frameB_length]; omega
        generalize (⟨(frameB l[k]).toArray⟩ : ByteArray) = G at *
        have HFR : Hid (∀ w, Tab w → Calls Tryd.prog 14 #[.string X] w fun e w' => e = .returned (.tuple #[.string G, .int .i64 0]) ∧ Below w.heap.size w w') := hfr
        have HMK := hide hmk
        have H4 := hide h4
        obtain ⟨Y, hY⟩ : ∃ Y : ByteArray, S ++ G = Y := ⟨_, rfl⟩
        have hYs : Y.size ≤ 20400408 := by rw [← hY, ByteArray.size_append]; omega
        have HYE : Hid (Y = ⟨(firstF l (k + 1)).toArray⟩) := by rw [← hY]; exact HMK.out
        have HYL : Hid ((Y.size : Int) = ((firstF l (k + 1)).length : Int)) := by
          have h := congrArg ByteArray.size HYE.out
          rw [mk_size] at h
          exact congrArg Int.ofNat h
        clear hfr hmk hX hF h4 hone HMK
        go_wp2_with fail
        refine (HFR.out _ HTr.out).mono ?_
        rintro e w2 ⟨rfl, b2⟩
        have HNS2 := hide (HNS.out.after b2)
        clear b2
        go_wp2_with (at_builtin; refine wpList_append_own _ rfl _ _ 45 rfl w.heap.size 3 Tryd.t3 (.int .i64 0) 1 8 Tryd.underlying45 ?hi ?hz ?hs ?hby rfl (by decide) _ _ _ rfl (HNS2.out.own.alloc _) ⟨_, 0, none⟩ 1 1 [.int .i64 Y.size] rfl rfl ?hnews ?h1 ?h63 ?hb47 ?hbase ?_)
        case hi => exact Tryd.infoInt
        case hz => exact Tryd.zeroInt
        case hs => exact Tryd.sizeInt
        case hby => exact Tryd.bytesInt
        case hnews => exact cells_new1 _ _ _ _ rfl
        case h1 =>
          intro u hu
          simp at hu
          subst hu
          rfl
        case h63 => unfold maxLen; omega
        case hb47 => omega
        case hbase => have := HNS2.out.below.size; simp; omega
        intro v' w4 hown hgrow _
        have HNS4 := hide (HNS2.out.append HYL.out hgrow hown)
        clear hown hgrow
        go_wp2
        exact ⟨⟨k + 1, by omega, by omega, by go_num, by rw [HYE.out], fun j h hj => by
          by_cases hjk : j = k
          · subst hjk; exact H4.out
          · exact HSM.out j h (by omega), HNS4.out⟩, by simp [intOf]; omega⟩
      · have hF : frameF l[k] = ([], 3) := by unfold frameF; rw [if_pos (by omega)]
        rw [hF] at hfr
        have HFR : Hid (∀ w, Tab w → Calls Tryd.prog 14 #[.string X] w fun e w' => e = .returned (.tuple #[.string ⟨#[]⟩, .int .i64 3]) ∧ Below w.heap.size w w') := hfr
        clear hfr hX hF h4 hone
        go_wp2_with fail
        refine (HFR.out _ HTr.out).mono ?_
        rintro e w2 ⟨rfl, b2⟩
        have HNS2 := hide (HNS.out.after b2)
        clear b2
        go_wp2
        go_ret
        exact ⟨rfl, HNS2.out.below⟩
    · by_cases hkl1 : k < l.length
      · have hkl2 : ¬ k < 50 := by omega
        go_wp2
        have hce : (c0 : Int) % ((S.size : Int) + 1) = ((c0 % (S.size + 1) : Nat) : Int) := by rw [Int.natCast_emod]; rfl
        rw [hce]
        have hcS : c0 % (S.size + 1) ≤ S.size := by have := Nat.mod_lt c0 (show 0 < S.size + 1 by omega); omega
        clear hce
        generalize c0 % (S.size + 1) = c at *
        have HCS : Hid (c ≤ (firstF l k).length) := by
          have h : S.size = (firstF l k).length := by rw [HSE.out, mk_size]
          exact (by omega : c ≤ (firstF l k).length)
        have HEA : Hid (∀ i, i < k → ∃ g, eo = some ⟨g, 0, none⟩ ∧ g < wr.heap.size ∧ wr.cell? ⟨g, i, none⟩ = some (.int .i64 (firstF l (i + 1)).length)) := by
          intro i hi
          obtain ⟨g, cp, hv, hg, hc⟩ := HNS.out.cellAt i hi
          injection hv with h1
          exact ⟨g, h1, hg, hc⟩
        go_loopw [11] (fun i wv => wv = wr ∧ ∃ m : Nat, m ≤ k ∧ i = .int .i64 m ∧ (∀ j, j < m → (firstF l (j + 1)).length ≤ c)) (fun i _ => k - (intOf i).toNat)
        case atStart => exact ⟨rfl, 0, by omega, rfl, fun j hj => by omega⟩
        case round =>
          obtain ⟨rfl, m, hm, rfl, hp⟩ := hrel
          have HP := hide hp
          clear hp
          by_cases hmk : m < k
          · obtain ⟨g, hge, hg, hcell⟩ := HEA.out m hmk
            cases hge
            obtain ⟨N1, hN1⟩ : ∃ N1, (firstF l (m + 1)).length = N1 := ⟨_, rfl⟩
            rw [hN1] at hcell
            have HN1 := hide hN1
            clear hN1
            by_cases hle : N1 ≤ c
            · go_wp2
              exact ⟨⟨by first | rfl | trivial, m + 1, by omega, by go_num, fun j hj => by
                by_cases hjm : j = m
                · subst hjm; rw [HN1.out]; exact hle
                · exact HP.out j (by omega)⟩, by simp [intOf]; omega⟩
            · have HQ : Hid (m = k ∨ c < (firstF l (m + 1)).length) := Or.inr (by rw [HN1.out]; omega)
              by_cases hm0 : m ≤ 0
              · skip
                have HAc := hide (HA.out k c m _ HTr.out hk hk50 HSM.out HCS.out (by omega) HP.out HQ.out)
                have e0 : (firstF l m).length = 0 := by rw [show m = 0 by omega]; rfl
                rw [e0, ← HSE.out] at HAc
                clear e0
                have HML : Hid (m ≤ l.length) := (by omega : m ≤ l.length)
                have hmcap : m ≤ cap := by omega
                by_cases hNc : 0 = c
                · rw [if_pos hNc] at HAc
                  have hNi : ((0 : Int) == (c : Int)) = true := by rw [beq_iff_eq]; omega
                  clear hNc
                  go_wp2_with fail
                  refine HAc.out.mono ?_
                  rintro e w5 ⟨v5, rfl, hown5, b5⟩
                  have B5 := hide (HNS.out.below.trans (b5.mono HNS.out.below.size))
                  have HAT5 := hide (HATr.out.below b5)
                  obtain ⟨co, ccap, rfl, hco⟩ := strs_of_own hown5
                  have hTK : (l.take m).length = m := by rw [List.length_take]; omega
                  rw [hTK]
                  have HC5 := hide hco
                  clear b5 hown5 hco hTK
                  go_wp2_with fail
                  obtain rfl : m = 0 := by omega
                  refine (HM.out co ccap ao cap _ 0 HML.out HC5.out (HAT5.out.take 0)).mono ?_
                  rintro e w6 ⟨rfl, nq, rfl⟩
                  go_wp2
                  go_ret
                  exact ⟨rfl, below_drewN B5.out nq⟩
                · rw [if_neg hNc] at HAc
                  have hNi : ((0 : Int) == (c : Int)) = false := by rw [beq_eq_false_iff_ne]; omega
                  clear hNc
                  go_wp2_with fail
                  refine HAc.out.mono ?_
                  rintro e w5 ⟨v5, rfl, hown5, b5⟩
                  have B5 := hide (HNS.out.below.trans (b5.mono HNS.out.below.size))
                  have HAT5 := hide (HATr.out.below b5)
                  obtain ⟨co, ccap, rfl, hco⟩ := strs_of_own hown5
                  have hTK : (l.take m).length = m := by rw [List.length_take]; omega
                  rw [hTK]
                  have HC5 := hide hco
                  clear b5 hown5 hco hTK
                  go_wp2_with fail
                  obtain rfl : m = 0 := by omega
                  refine (HM.out co ccap ao cap _ 0 HML.out HC5.out (HAT5.out.take 0)).mono ?_
                  rintro e w6 ⟨rfl, nq, rfl⟩
                  go_wp2
                  go_ret
                  exact ⟨rfl, below_drewN B5.out nq⟩
              · skip
                obtain ⟨n, rfl⟩ : ∃ n, m = n + 1 := ⟨m - 1, by omega⟩
                obtain ⟨g2, hge2, hg2, hcell2⟩ := HEA.out n (by omega)
                cases hge2
                have HAc := hide (HA.out k c (n + 1) _ HTr.out hk hk50 HSM.out HCS.out (by omega) HP.out HQ.out)
                obtain ⟨N, hN⟩ : ∃ N, (firstF l (n + 1)).length = N := ⟨_, rfl⟩
                rw [hN] at HAc hcell2
                rw [← HSE.out] at HAc
                have hN50 : N ≤ 20000400 := by rw [← hN]; exact first50 l (n + 1) (by omega) (fun j h hj => HSM.out j h (by omega))
                clear hN
                have HML : Hid (n + 1 ≤ l.length) := (by omega : n + 1 ≤ l.length)
                have hmcap : n + 1 ≤ cap := by omega
                by_cases hNc : N = c
                · rw [if_pos hNc] at HAc
                  have hNi : ((N : Int) == (c : Int)) = true := by rw [beq_iff_eq]; omega
                  clear hNc
                  go_wp2_with fail
                  refine HAc.out.mono ?_
                  rintro e w5 ⟨v5, rfl, hown5, b5⟩
                  have B5 := hide (HNS.out.below.trans (b5.mono HNS.out.below.size))
                  have HAT5 := hide (HATr.out.below b5)
                  obtain ⟨co, ccap, rfl, hco⟩ := strs_of_own hown5
                  have hTK : (l.take (n + 1)).length = n + 1 := by rw [List.length_take]; omega
                  rw [hTK]
                  have HC5 := hide hco
                  clear b5 hown5 hco hTK
                  go_wp2_with fail
                  refine (HM.out co ccap ao cap _ (n + 1) HML.out HC5.out (HAT5.out.take (n + 1))).mono ?_
                  rintro e w6 ⟨rfl, nq, rfl⟩
                  go_wp2
                  go_ret
                  exact ⟨rfl, below_drewN B5.out nq⟩
                · rw [if_neg hNc] at HAc
                  have hNi : ((N : Int) == (c : Int)) = false := by rw [beq_eq_false_iff_ne]; omega
                  clear hNc
                  go_wp2_with fail
                  refine HAc.out.mono ?_
                  rintro e w5 ⟨v5, rfl, hown5, b5⟩
                  have B5 := hide (HNS.out.below.trans (b5.mono HNS.out.below.size))
                  have HAT5 := hide (HATr.out.below b5)
                  obtain ⟨co, ccap, rfl, hco⟩ := strs_of_own hown5
                  have hTK : (l.take (n + 1)).length = n + 1 := by rw [List.length_take]; omega
                  rw [hTK]
                  have HC5 := hide hco
                  clear b5 hown5 hco hTK
                  go_wp2_with fail
                  refine (HM.out co ccap ao cap _ (n + 1) HML.out HC5.out (HAT5.out.take (n + 1))).mono ?_
                  rintro e w6 ⟨rfl, nq, rfl⟩
                  go_wp2
                  go_ret
                  exact ⟨rfl, below_drewN B5.out nq⟩
          · have HQ : Hid (m = k ∨ c < (firstF l (m + 1)).length) := Or.inl (by omega)
            obtain ⟨n, rfl⟩ : ∃ n, m = n + 1 := ⟨m - 1, by omega⟩
            obtain ⟨g2, hge2, hg2, hcell2⟩ := HEA.out n (by omega)
            cases hge2
            have HAc := hide (HA.out k c (n + 1) _ HTr.out hk hk50 HSM.out HCS.out (by omega) HP.out HQ.out)
            obtain ⟨N, hN⟩ : ∃ N, (firstF l (n + 1)).length = N := ⟨_, rfl⟩
            rw [hN] at HAc hcell2
            rw [← HSE.out] at HAc
            have hN50 : N ≤ 20000400 := by rw [← hN]; exact first50 l (n + 1) (by omega) (fun j h hj => HSM.out j h (by omega))
            clear hN
            have HML : Hid (n + 1 ≤ l.length) := (by omega : n + 1 ≤ l.length)
            have hmcap : n + 1 ≤ cap := by omega
            by_cases hNc : N = c
            · rw [if_pos hNc] at HAc
              have hNi : ((N : Int) == (c : Int)) = true := by rw [beq_iff_eq]; omega
              clear hNc
              go_wp2_with fail
              refine HAc.out.mono ?_
              rintro e w5 ⟨v5, rfl, hown5, b5⟩
              have B5 := hide (HNS.out.below.trans (b5.mono HNS.out.below.size))
              have HAT5 := hide (HATr.out.below b5)
              obtain ⟨co, ccap, rfl, hco⟩ := strs_of_own hown5
              have hTK : (l.take (n + 1)).length = n + 1 := by rw [List.length_take]; omega
              rw [hTK]
              have HC5 := hide hco
              clear b5 hown5 hco hTK
              go_wp2_with fail
              refine (HM.out co ccap ao cap _ (n + 1) HML.out HC5.out (HAT5.out.take (n + 1))).mono ?_
              rintro e w6 ⟨rfl, nq, rfl⟩
              go_wp2
              go_ret
              exact ⟨rfl, below_drewN B5.out nq⟩
            · rw [if_neg hNc] at HAc
              have hNi : ((N : Int) == (c : Int)) = false := by rw [beq_eq_false_iff_ne]; omega
              clear hNc
              go_wp2_with fail
              refine HAc.out.mono ?_
              rintro e w5 ⟨v5, rfl, hown5, b5⟩
              have B5 := hide (HNS.out.below.trans (b5.mono HNS.out.below.size))
              have HAT5 := hide (HATr.out.below b5)
              obtain ⟨co, ccap, rfl, hco⟩ := strs_of_own hown5
              have hTK : (l.take (n + 1)).length = n + 1 := by rw [List.length_take]; omega
              rw [hTK]
              have HC5 := hide hco
              clear b5 hown5 hco hTK
              go_wp2_with fail
              refine (HM.out co ccap ao cap _ (n + 1) HML.out HC5.out (HAT5.out.take (n + 1))).mono ?_
              rintro e w6 ⟨rfl, nq, rfl⟩
              go_wp2
              go_ret
              exact ⟨rfl, below_drewN B5.out nq⟩
      · skip
        go_wp2
        have hce : (c0 : Int) % ((S.size : Int) + 1) = ((c0 % (S.size + 1) : Nat) : Int) := by rw [Int.natCast_emod]; rfl
        rw [hce]
        have hcS : c0 % (S.size + 1) ≤ S.size := by have := Nat.mod_lt c0 (show 0 < S.size + 1 by omega); omega
        clear hce
        generalize c0 % (S.size + 1) = c at *
        have HCS : Hid (c ≤ (firstF l k).length) := by
          have h : S.size = (firstF l k).length := by rw [HSE.out, mk_size]
          exact (by omega : c ≤ (firstF l k).length)
        have HEA : Hid (∀ i, i < k → ∃ g, eo = some ⟨g, 0, none⟩ ∧ g < wr.heap.size ∧ wr.cell? ⟨g, i, none⟩ = some (.int .i64 (firstF l (i + 1)).length)) := by
          intro i hi
          obtain ⟨g, cp, hv, hg, hc⟩ := HNS.out.cellAt i hi
          injection hv with h1
          exact ⟨g, h1, hg, hc⟩
        go_loopw [11] (fun i wv => wv = wr ∧ ∃ m : Nat, m ≤ k ∧ i = .int .i64 m ∧ (∀ j, j < m → (firstF l (j + 1)).length ≤ c)) (fun i _ => k - (intOf i).toNat)
        case atStart => exact ⟨rfl, 0, by omega, rfl, fun j hj => by omega⟩
        case round =>
          obtain ⟨rfl, m, hm, rfl, hp⟩ := hrel
          have HP := hide hp
          clear hp
          by_cases hmk : m < k
          · obtain ⟨g, hge, hg, hcell⟩ := HEA.out m hmk
            cases hge
            obtain ⟨N1, hN1⟩ : ∃ N1, (firstF l (m + 1)).length = N1 := ⟨_, rfl⟩
            rw [hN1] at hcell
            have HN1 := hide hN1
            clear hN1
            by_cases hle : N1 ≤ c
            · go_wp2
              exact ⟨⟨by first | rfl | trivial, m + 1, by omega, by go_num, fun j hj => by
                by_cases hjm : j = m
                · subst hjm; rw [HN1.out]; exact hle
                · exact HP.out j (by omega)⟩, by simp [intOf]; omega⟩
            · have HQ : Hid (m = k ∨ c < (firstF l (m + 1)).length) := Or.inr (by rw [HN1.out]; omega)
              by_cases hm0 : m ≤ 0
              · skip
                have HAc := hide (HA.out k c m _ HTr.out hk hk50 HSM.out HCS.out (by omega) HP.out HQ.out)
                have e0 : (firstF l m).length = 0 := by rw [show m = 0 by omega]; rfl
                rw [e0, ← HSE.out] at HAc
                clear e0
                have HML : Hid (m ≤ l.length) := (by omega : m ≤ l.length)
                have hmcap : m ≤ cap := by omega
                by_cases hNc : 0 = c
                · rw [if_pos hNc] at HAc
                  have hNi : ((0 : Int) == (c : Int)) = true := by rw [beq_iff_eq]; omega
                  clear hNc
                  go_wp2_with fail
                  refine HAc.out.mono ?_
                  rintro e w5 ⟨v5, rfl, hown5, b5⟩
                  have B5 := hide (HNS.out.below.trans (b5.mono HNS.out.below.size))
                  have HAT5 := hide (HATr.out.below b5)
                  obtain ⟨co, ccap, rfl, hco⟩ := strs_of_own hown5
                  have hTK : (l.take m).length = m := by rw [List.length_take]; omega
                  rw [hTK]
                  have HC5 := hide hco
                  clear b5 hown5 hco hTK
                  go_wp2_with fail
                  obtain rfl : m = 0 := by omega
                  refine (HM.out co ccap ao cap _ 0 HML.out HC5.out (HAT5.out.take 0)).mono ?_
                  rintro e w6 ⟨rfl, nq, rfl⟩
                  go_wp2
                  go_ret
                  exact ⟨rfl, below_drewN B5.out nq⟩
                · rw [if_neg hNc] at HAc
                  have hNi : ((0 : Int) == (c : Int)) = false := by rw [beq_eq_false_iff_ne]; omega
                  clear hNc
                  go_wp2_with fail
                  refine HAc.out.mono ?_
                  rintro e w5 ⟨v5, rfl, hown5, b5⟩
                  have B5 := hide (HNS.out.below.trans (b5.mono HNS.out.below.size))
                  have HAT5 := hide (HATr.out.below b5)
                  obtain ⟨co, ccap, rfl, hco⟩ := strs_of_own hown5
                  have hTK : (l.take m).length = m := by rw [List.length_take]; omega
                  rw [hTK]
                  have HC5 := hide hco
                  clear b5 hown5 hco hTK
                  go_wp2_with fail
                  obtain rfl : m = 0 := by omega
                  refine (HM.out co ccap ao cap _ 0 HML.out HC5.out (HAT5.out.take 0)).mono ?_
                  rintro e w6 ⟨rfl, nq, rfl⟩
                  go_wp2
                  go_ret
                  exact ⟨rfl, below_drewN B5.out nq⟩
              · skip
                obtain ⟨n, rfl⟩ : ∃ n, m = n + 1 := ⟨m - 1, by omega⟩
                obtain ⟨g2, hge2, hg2, hcell2⟩ := HEA.out n (by omega)
                cases hge2
                have HAc := hide (HA.out k c (n + 1) _ HTr.out hk hk50 HSM.out HCS.out (by omega) HP.out HQ.out)
                obtain ⟨N, hN⟩ : ∃ N, (firstF l (n + 1)).length = N := ⟨_, rfl⟩
                rw [hN] at HAc hcell2
                rw [← HSE.out] at HAc
                have hN50 : N ≤ 20000400 := by rw [← hN]; exact first50 l (n + 1) (by omega) (fun j h hj => HSM.out j h (by omega))
                clear hN
                have HML : Hid (n + 1 ≤ l.length) := (by omega : n + 1 ≤ l.length)
                have hmcap : n + 1 ≤ cap := by omega
                by_cases hNc : N = c
                · rw [if_pos hNc] at HAc
                  have hNi : ((N : Int) == (c : Int)) = true := by rw [beq_iff_eq]; omega
                  clear hNc
                  go_wp2_with fail
                  refine HAc.out.mono ?_
                  rintro e w5 ⟨v5, rfl, hown5, b5⟩
                  have B5 := hide (HNS.out.below.trans (b5.mono HNS.out.below.size))
                  have HAT5 := hide (HATr.out.below b5)
                  obtain ⟨co, ccap, rfl, hco⟩ := strs_of_own hown5
                  have hTK : (l.take (n + 1)).length = n + 1 := by rw [List.length_take]; omega
                  rw [hTK]
                  have HC5 := hide hco
                  clear b5 hown5 hco hTK
                  go_wp2_with fail
                  refine (HM.out co ccap ao cap _ (n + 1) HML.out HC5.out (HAT5.out.take (n + 1))).mono ?_
                  rintro e w6 ⟨rfl, nq, rfl⟩
                  go_wp2
                  go_ret
                  exact ⟨rfl, below_drewN B5.out nq⟩
                · rw [if_neg hNc] at HAc
                  have hNi : ((N : Int) == (c : Int)) = false := by rw [beq_eq_false_iff_ne]; omega
                  clear hNc
                  go_wp2_with fail
                  refine HAc.out.mono ?_
                  rintro e w5 ⟨v5, rfl, hown5, b5⟩
                  have B5 := hide (HNS.out.below.trans (b5.mono HNS.out.below.size))
                  have HAT5 := hide (HATr.out.below b5)
                  obtain ⟨co, ccap, rfl, hco⟩ := strs_of_own hown5
                  have hTK : (l.take (n + 1)).length = n + 1 := by rw [List.length_take]; omega
                  rw [hTK]
                  have HC5 := hide hco
                  clear b5 hown5 hco hTK
                  go_wp2_with fail
                  refine (HM.out co ccap ao cap _ (n + 1) HML.out HC5.out (HAT5.out.take (n + 1))).mono ?_
                  rintro e w6 ⟨rfl, nq, rfl⟩
                  go_wp2
                  go_ret
                  exact ⟨rfl, below_drewN B5.out nq⟩
          · have HQ : Hid (m = k ∨ c < (firstF l (m + 1)).length) := Or.inl (by omega)
            by_cases hm0 : m ≤ 0
            · skip
              have HAc := hide (HA.out k c m _ HTr.out hk hk50 HSM.out HCS.out (by omega) HP.out HQ.out)
              have e0 : (firstF l m).length = 0 := by rw [show m = 0 by omega]; rfl
              rw [e0, ← HSE.out] at HAc
              clear e0
              have HML : Hid (m ≤ l.length) := (by omega : m ≤ l.length)
              have hmcap : m ≤ cap := by omega
              by_cases hNc : 0 = c
              · rw [if_pos hNc] at HAc
                have hNi : ((0 : Int) == (c : Int)) = true := by rw [beq_iff_eq]; omega
                clear hNc
                go_wp2_with fail
                refine HAc.out.mono ?_
                rintro e w5 ⟨v5, rfl, hown5, b5⟩
                have B5 := hide (HNS.out.below.trans (b5.mono HNS.out.below.size))
                have HAT5 := hide (HATr.out.below b5)
                obtain ⟨co, ccap, rfl, hco⟩ := strs_of_own hown5
                have hTK : (l.take m).length = m := by rw [List.length_take]; omega
                rw [hTK]
                have HC5 := hide hco
                clear b5 hown5 hco hTK
                go_wp2_with fail
                obtain rfl : m = 0 := by omega
                refine (HM.out co ccap ao cap _ 0 HML.out HC5.out (HAT5.out.take 0)).mono ?_
                rintro e w6 ⟨rfl, nq, rfl⟩
                go_wp2
                go_ret
                exact ⟨rfl, below_drewN B5.out nq⟩
              · rw [if_neg hNc] at HAc
                have hNi : ((0 : Int) == (c : Int)) = false := by rw [beq_eq_false_iff_ne]; omega
                clear hNc
                go_wp2_with fail
                refine HAc.out.mono ?_
                rintro e w5 ⟨v5, rfl, hown5, b5⟩
                have B5 := hide (HNS.out.below.trans (b5.mono HNS.out.below.size))
                have HAT5 := hide (HATr.out.below b5)
                obtain ⟨co, ccap, rfl, hco⟩ := strs_of_own hown5
                have hTK : (l.take m).length = m := by rw [List.length_take]; omega
                rw [hTK]
                have HC5 := hide hco
                clear b5 hown5 hco hTK
                go_wp2_with fail
                obtain rfl : m = 0 := by omega
                refine (HM.out co ccap ao cap _ 0 HML.out HC5.out (HAT5.out.take 0)).mono ?_
                rintro e w6 ⟨rfl, nq, rfl⟩
                go_wp2
                go_ret
                exact ⟨rfl, below_drewN B5.out nq⟩
            · skip
              obtain ⟨n, rfl⟩ : ∃ n, m = n + 1 := ⟨m - 1, by omega⟩
              obtain ⟨g2, hge2, hg2, hcell2⟩ := HEA.out n (by omega)
              cases hge2
              have HAc := hide (HA.out k c (n + 1) _ HTr.out hk hk50 HSM.out HCS.out (by omega) HP.out HQ.out)
              obtain ⟨N, hN⟩ : ∃ N, (firstF l (n + 1)).length = N := ⟨_, rfl⟩
              rw [hN] at HAc hcell2
              rw [← HSE.out] at HAc
              have hN50 : N ≤ 20000400 := by rw [← hN]; exact first50 l (n + 1) (by omega) (fun j h hj => HSM.out j h (by omega))
              clear hN
              have HML : Hid (n + 1 ≤ l.length) := (by omega : n + 1 ≤ l.length)
              have hmcap : n + 1 ≤ cap := by omega
              by_cases hNc : N = c
              · rw [if_pos hNc] at HAc
                have hNi : ((N : Int) == (c : Int)) = true := by rw [beq_iff_eq]; omega
                clear hNc
                go_wp2_with fail
                refine HAc.out.mono ?_
                rintro e w5 ⟨v5, rfl, hown5, b5⟩
                have B5 := hide (HNS.out.below.trans (b5.mono HNS.out.below.size))
                have HAT5 := hide (HATr.out.below b5)
                obtain ⟨co, ccap, rfl, hco⟩ := strs_of_own hown5
                have hTK : (l.take (n + 1)).length = n + 1 := by rw [List.length_take]; omega
                rw [hTK]
                have HC5 := hide hco
                clear b5 hown5 hco hTK
                go_wp2_with fail
                refine (HM.out co ccap ao cap _ (n + 1) HML.out HC5.out (HAT5.out.take (n + 1))).mono ?_
                rintro e w6 ⟨rfl, nq, rfl⟩
                go_wp2
                go_ret
                exact ⟨rfl, below_drewN B5.out nq⟩
              · rw [if_neg hNc] at HAc
                have hNi : ((N : Int) == (c : Int)) = false := by rw [beq_eq_false_iff_ne]; omega
                clear hNc
                go_wp2_with fail
                refine HAc.out.mono ?_
                rintro e w5 ⟨v5, rfl, hown5, b5⟩
                have B5 := hide (HNS.out.below.trans (b5.mono HNS.out.below.size))
                have HAT5 := hide (HATr.out.below b5)
                obtain ⟨co, ccap, rfl, hco⟩ := strs_of_own hown5
                have hTK : (l.take (n + 1)).length = n + 1 := by rw [List.length_take]; omega
                rw [hTK]
                have HC5 := hide hco
                clear b5 hown5 hco hTK
                go_wp2_with fail
                refine (HM.out co ccap ao cap _ (n + 1) HML.out HC5.out (HAT5.out.take (n + 1))).mono ?_
                rintro e w6 ⟨rfl, nq, rfl⟩
                go_wp2
                go_ret
                exact ⟨rfl, below_drewN B5.out nq⟩
end Go.Proofs.YtlalfehnkhenjaaDoor
