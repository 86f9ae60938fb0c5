/-
  CrcBack, walked.
-/
import Derived.Test.YtlalfehnkhenjaaDoorE1
namespace Go.Proofs.YtlalfehnkhenjaaDoor
open Go.RowKit

/-- The frames of the first k bodies. -/
def firstF (l : List (List UInt8)) (k : Nat) : List UInt8 := (l.take k).flatMap frameB
theorem firstF_next (l : List (List UInt8)) (k : Nat) (h : k < l.length) : firstF l (k + 1) = firstF l k ++ frameB l[k] := by
  unfold firstF
  rw [List.take_succ_eq_append_getElem h, List.flatMap_append]
  simp
theorem firstF_all (l : List (List UInt8)) : firstF l l.length = l.flatMap frameB := by unfold firstF; rw [List.take_length]
theorem flat_length (l : List (List UInt8)) : (l.flatMap frameB).length = (l.map (·.length + 8)).sum := by
  induction l with
  | nil => rfl
  | cons b l ih => rw [List.flatMap_cons, List.length_append, frameB_length, ih]; simp
theorem take_sum_le (l : List Nat) (k : Nat) : (l.take k).sum ≤ l.sum := by
  induction l generalizing k with
  | nil => simp
  | cons a l ih =>
    cases k with
    | zero => simp
    | succ k => have := ih k; simp; omega
theorem firstF_le (l : List (List UInt8)) (k : Nat) : (firstF l k).length ≤ (l.map (·.length + 8)).sum := by
  unfold firstF
  rw [flat_length, List.map_take]
  exact take_sum_le _ k

theorem mk_first (l : List (List UInt8)) (k : Nat) (h : k < l.length) : (⟨(firstF l k).toArray⟩ : ByteArray) ++ ⟨(frameB l[k]).toArray⟩ = ⟨(firstF l (k + 1)).toArray⟩ := by
  rw [mk_append, firstF_next l k h]

set_option maxHeartbeats 1000000 in
set_option maxRecDepth 100000 in
theorem back_core (ao : Option Addr) (cap : Nat) (l : List (List UInt8)) (w : World) (hT : Tab w) (hat : StrsAt w ao l) (hlen : l.length ≤ 8796093022208) (hsum : ∀ k, (∀ j (h : j < l.length), j < k → l[j].length ≤ 400000) → (firstF l k).length ≤ 3518507579247263664) (hone : ∀ k (h : k < l.length), l[k].length ≤ 9223372036854775807)
    (HE : Hid (∀ w, Tab w → Calls Tryd.prog 9 #[] w fun e w' => e = .returned (.bool true) ∧ Below w.heap.size w w'))
    (HF : Hid (∀ (x : List UInt8) w, Tab w → x.length ≤ 9223372036854775807 → Calls Tryd.prog 14 #[.string ⟨x.toArray⟩] w fun e w' => e = .returned (.tuple #[.string ⟨(frameF x).1.toArray⟩, .int .i64 (frameF x).2]) ∧ Below w.heap.size w w'))
    (HA : Hid (∀ w, Tab w → (∀ x ∈ l, x.length ≤ 400000) → Calls Tryd.prog 19 #[.string ⟨(firstF l l.length).toArray⟩] w fun e w' => ∃ v, e = .returned (.tuple #[v, .int .i64 (⟨(firstF l l.length).toArray⟩ : ByteArray).size, .int .i64 0]) ∧ w'.ownsRow w.heap.size 9 1 v l.length (strCells l) ∧ Below w.heap.size w w'))
    (HM : Hid (∀ co dap ao cap w, StrsAt w co l → StrsAt w ao l → Calls Tryd.prog 20 #[.slice co l.length dap, .slice ao l.length cap] w fun e w' => e = .returned (.bool true) ∧ ∃ n, w' = w.drewN n)) :
    Calls Tryd.prog 7 #[.slice ao l.length cap] w fun e w' => e = .returned (.bool true) ∧ Below w.heap.size w w' := by
  have HT := hide hT
  have HAT := hide hat
  have HSUM := hide hsum
  have HONE := hide hone
  clear hT hat hsum hone
  go_enter Tryd.func7, Tryd.ntmps7
  go_wp2_with fail
  refine (HE.out _ HT.out).mono ?_
  rintro e w1 ⟨rfl, b1⟩
  have B1 := hide b1
  clear b1
  go_wp2
  go_loopw [4, 5] (fun v i wv => ∃ k : Nat, k ≤ l.length ∧ i = .int .i64 k ∧ v = .string ⟨(firstF l k).toArray⟩ ∧ (∀ j (h : j < l.length), j < k → l[j].length ≤ 400000) ∧ Below w.heap.size w wv) (fun _ i _ => l.length - (intOf i).toNat)
  case atStart => exact ⟨0, by omega, rfl, rfl, fun j h hj => by omega, B1.out⟩
  case round =>
    obtain ⟨k, hk, rfl, rfl, hsm, hbe⟩ := hrel
    have HSM := hide hsm
    have HBE := hide hbe
    have HTr := hide (HT.out.below hbe)
    have HATr := hide (HAT.out.below hbe)
    clear hsm hbe
    have hS : (⟨(firstF l k).toArray⟩ : ByteArray).size ≤ 3518507579247263664 := by rw [mk_size]; exact HSUM.out k HSM.out
    obtain ⟨S, hSe⟩ : ∃ S : ByteArray, S = ⟨(firstF l k).toArray⟩ := ⟨_, rfl⟩
    rw [← hSe] at hS ⊢
    have HSE := hide hSe
    clear hSe
    by_cases hkl : k < l.length
    · obtain ⟨b, off, rfl, hb, c0⟩ := HATr.out k hkl
      have hone := HONE.out k hkl
      have hfr := fun w hT => HF.out l[k] w hT hone
      obtain ⟨X, hX⟩ : ∃ X : ByteArray, X = ⟨l[k].toArray⟩ := ⟨_, rfl⟩
      have hXs : X.size = l[k].length := by rw [hX, mk_size]
      rw [← hX] at c0 hfr
      by_cases h4 : l[k].length ≤ 400000
      · have hF : frameF l[k] = (frameB l[k], 0) := by unfold frameF; rw [if_neg (by omega)]
        rw [hF] at hfr
        have hmk := mk_first l k hkl
        rw [← HSE.out] at hmk
        have hFs : (⟨(frameB l[k]).toArray⟩ : ByteArray).size ≤ 400008 := by rw [mk_size, frameB_length]; omega
        generalize (⟨(frameB l[k]).toArray⟩ : ByteArray) = G at *
        have HFR : Hid (∀ w, Tab w → Calls Tryd.prog 14 #[.string X] w fun e w' => e = .returned (.tuple #[.string G, .int .i64 0]) ∧ Below w.heap.size w w') := hfr
        have HMK := hide hmk
        have H4 := hide h4
        clear hfr hmk hX hF h4 hXs hone
        go_wp2_with fail
        refine (HFR.out _ HTr.out).mono ?_
        rintro e w2 ⟨rfl, b2⟩
        have B2 := hide (HBE.out.trans (b2.mono HBE.out.size))
        clear b2
        go_wp2
        exact ⟨⟨k + 1, by omega, by go_num, by rw [HMK.out], fun j h hj => by
          by_cases hjk : j = k
          · subst hjk; exact H4.out
          · exact HSM.out j h (by omega), B2.out⟩, by simp [intOf]; omega⟩
      · have hF : frameF l[k] = ([], 3) := by unfold frameF; rw [if_pos (by omega)]
        rw [hF] at hfr
        have HFR : Hid (∀ w, Tab w → Calls Tryd.prog 14 #[.string X] w fun e w' => e = .returned (.tuple #[.string ⟨#[]⟩, .int .i64 3]) ∧ Below w.heap.size w w') := hfr
        have hXl : 400000 < X.size := by omega
        have hXm : X.size ≤ 9223372036854775807 := by omega
        have hXd : decide ((400000 : Int) < X.size) = true := by rw [decide_eq_true_eq]; omega
        clear hfr hX hF h4 hXs hone
        go_wp2_with fail
        refine (HFR.out _ HTr.out).mono ?_
        rintro e w2 ⟨rfl, b2⟩
        have B2 := hide (HBE.out.trans (b2.mono HBE.out.size))
        have c2 := (b2.cell (p := ⟨b, off + k, none⟩) hb).trans c0
        clear b2
        go_wp2
        go_ret
        exact ⟨rfl, B2.out⟩
    · have hke : k = l.length := by omega
      have HA2 := hide fun w hT => HA.out w hT (fun x hx => by
        obtain ⟨j, hj, rfl⟩ := List.getElem_of_mem hx
        exact HSM.out j hj (by omega))
      rw [← hke, ← HSE.out] at HA2
      go_wp2_with fail
      refine (HA2.out _ HTr.out).mono ?_
      rintro e w2 ⟨v2, rfl, hown2, b2⟩
      have B2 := hide (HBE.out.trans (b2.mono HBE.out.size))
      have HAT2 := hide (HATr.out.below b2)
      rw [hke] at hown2
      obtain ⟨co, ccap, rfl, hco⟩ := strs_of_own hown2
      have HC2 := hide hco
      clear b2 hown2 hco HA2
      go_wp2_with fail
      refine (HM.out co ccap ao cap _ HC2.out HAT2.out).mono ?_
      rintro e w4 ⟨rfl, nq, rfl⟩
      go_wp2
      go_ret
      exact ⟨rfl, below_drewN B2.out nq⟩

theorem sum_upto (l : List (List UInt8)) (k : Nat) (h : ∀ j (h : j < l.length), j < k → l[j].length ≤ 400000) : (firstF l k).length ≤ 400008 * l.length := by
  induction l generalizing k with
  | nil => simp [firstF]
  | cons b l ih =>
    cases k with
    | zero => simp [firstF]
    | succ k =>
      have h0 : b.length ≤ 400000 := h 0 (by simp) (by omega)
      have h1 := ih k fun j hj hk => by
        have := h (j + 1) (by simpa using hj) (by omega)
        simpa using this
      have e : firstF (b :: l) (k + 1) = frameB b ++ firstF l k := by simp [firstF]
      rw [e, List.length_append, frameB_length, List.length_cons]
      omega

theorem back_walk (ao : Option Addr) (cap : Nat) (l : List (List UInt8)) (w : World) (hT : Tab w) (hat : StrsAt w ao l) (hlen : l.length ≤ 8796093021952) (hone : ∀ x ∈ l, x.length ≤ 9223372036854775807) :
    Calls Tryd.prog 7 #[.slice ao l.length cap] w fun e w' => e = .returned (.bool true) ∧ Below w.heap.size w w' := by
  refine back_core ao cap l w hT hat (by omega) (fun k h => by have := sum_upto l k h; omega) (fun k h => hone l[k] (List.getElem_mem h)) examples_any ?_ ?_ ?_
  · intro x w hT hx
    have h := frame_any ⟨x.toArray⟩ w hT (by rw [mk_size]; omega)
    rw [mk_data] at h
    exact h
  · intro w hT h4
    have hl := sum_upto l l.length fun j hj _ => h4 _ (List.getElem_mem hj)
    have e : allF ((firstF l l.length).length + 1) (firstF l l.length) = (l, (firstF l l.length).length, 0) := by
      rw [firstF_all]
      refine all_frames l _ h4 ?_
      rw [flat_length]
      have : l.length ≤ (l.map (·.length + 8)).sum := by
        clear hat hlen hone h4 hl
        induction l with
        | nil => simp
        | cons b l ih => simp at *; omega
      omega
    have hm : (⟨(firstF l l.length).toArray⟩ : ByteArray).data.toList = firstF l l.length := mk_data _
    have hI : AI (⟨(firstF l l.length).toArray⟩ : ByteArray).data.toList [] 0 (l, (firstF l l.length).length, 0) := by
      rw [← e, hm]
      exact AI.init _
    have h := all_any ⟨(firstF l l.length).toArray⟩ w hT (by rw [mk_size]; omega) _ hI (by simp only; omega)
    rw [mk_size]
    exact h
  · exact fun co dap ao cap w h1 h2 => texts_any co ao dap cap _ w h1 h2 (by unfold maxLen; omega)

end Go.Proofs.YtlalfehnkhenjaaDoor
