/-
  CrcTorn, walked: what All tells of a beginning of frames.
-/
import Derived.Test.YtlalfehnkhenjaaDoorTornW
namespace Go.Proofs.YtlalfehnkhenjaaDoor
open Go.RowKit

theorem firstF_cons (b : List UInt8) (bs : List (List UInt8)) (k : Nat) : (firstF (b :: bs) (k + 1)).length = b.length + 8 + (firstF bs k).length := by
  have e : firstF (b :: bs) (k + 1) = frameB b ++ firstF bs k := by simp [firstF]
  rw [e, List.length_append, frameB_length]

theorem whole_char (bs : List (List UInt8)) (c m : Nat) (hm : m ≤ bs.length) (h1 : ∀ j, j < m → (firstF bs (j + 1)).length ≤ c) (h2 : m = bs.length ∨ c < (firstF bs (m + 1)).length) : wholeF bs c = (m, (firstF bs m).length) := by
  induction bs generalizing c m with
  | nil =>
    have : m = 0 := by simpa using hm
    subst this
    rfl
  | cons b bs ih =>
    unfold wholeF
    cases m with
    | zero =>
      have h3 : c < (firstF (b :: bs) (0 + 1)).length := by
        rcases h2 with h | h
        · simp at h
        · exact h
      rw [firstF_cons] at h3
      have e : (firstF bs 0).length = 0 := rfl
      rw [if_neg (by omega)]
      rfl
    | succ m =>
      have h0 := h1 0 (by omega)
      rw [firstF_cons] at h0
      have e : (firstF bs 0).length = 0 := rfl
      have := ih (c - (b.length + 8)) m (by simpa using hm) (fun j hj => by
        have := h1 (j + 1) (by omega)
        rw [firstF_cons] at this
        omega) (by
        rcases h2 with h | h
        · left; simpa using h
        · right
          rw [firstF_cons] at h
          omega)
      rw [if_pos (by omega), this, firstF_cons]
      refine Prod.ext rfl ?_
      simp only
      omega

theorem firstF_take (l : List (List UInt8)) (K j : Nat) (h : j ≤ K) : firstF (l.take K) j = firstF l j := by
  unfold firstF
  rw [List.take_take, Nat.min_eq_left h]

theorem torn_all (l : List (List UInt8)) (K c m : Nat) (w : World) (hT : Tab w) (hK : K ≤ l.length) (hK50 : K ≤ 50) (hsm : ∀ j (h : j < l.length), j < K → l[j].length ≤ 400000) (hc : c ≤ (firstF l K).length) (hm : m ≤ K) (h1 : ∀ j, j < m → (firstF l (j + 1)).length ≤ c) (h2 : m = K ∨ c < (firstF l (m + 1)).length) :
    Calls Tryd.prog 19 #[.string ((⟨(firstF l K).toArray⟩ : ByteArray).extract 0 c)] w fun e w' => ∃ v, e = .returned (.tuple #[v, .int .i64 (firstF l m).length, .int .i64 (if (firstF l m).length = c then 0 else 2)]) ∧ w'.ownsRow w.heap.size 9 1 v (l.take m).length (strCells (l.take m)) ∧ Below w.heap.size w w' := by
  have hl : (l.take K).length = K := by rw [List.length_take]; omega
  have h50 := first50 l K hK50 hsm
  have hd : ((⟨(firstF l K).toArray⟩ : ByteArray).extract 0 c).data.toList = (firstF l K).take c := by
    rw [ext_data, mk_data]
    simp
  have hw := whole_char (l.take K) c m (by omega) (fun j hj => by rw [firstF_take l K _ (by omega)]; exact h1 j hj) (by
    rcases h2 with h | h
    · left; omega
    · by_cases hmK : m = K
      · left; omega
      · right; rw [firstF_take l K _ (by omega)]; exact h)
  have hall := all_torn (l.take K) (c + K + 1) c (fun b hb => by
    obtain ⟨j, hj, rfl⟩ := List.getElem_of_mem hb
    rw [List.getElem_take]
    exact hsm j (by omega) (by omega)) (by omega) hc
  rw [hw, firstF_take l K m hm] at hall
  simp only at hall
  rw [List.take_take, Nat.min_eq_left hm] at hall
  have hI : AI ((⟨(firstF l K).toArray⟩ : ByteArray).extract 0 c).data.toList [] 0 (l.take m, (firstF l m).length, if (firstF l m).length = c then 0 else 2) := by
    rw [hd]
    refine ⟨Nat.zero_le _, by simp, c + K + 1, by rw [List.length_take]; omega, ?_⟩
    show _ = ([] ++ (allF (c + K + 1) (List.drop 0 (((l.take K).flatMap frameB).take c))).1, _, _)
    rw [List.drop_zero]
    show _ = ([] ++ _, 0 + (allF (c + K + 1) (List.drop 0 (((l.take K).flatMap frameB).take c))).2.1, (allF (c + K + 1) (List.drop 0 (((l.take K).flatMap frameB).take c))).2.2)
    rw [List.drop_zero, hall]
    simp
  exact all_any _ w hT (by
    have h := congrArg List.length hd
    rw [size_list, List.length_take] at h
    omega) _ hI (by simp only [List.length_take]; omega)

theorem torn_walk (ao : Option Addr) (cap : Nat) (l : List (List UInt8)) (cut : Int) (w : World) (hT : Tab w) (hat : StrsAt w ao l) (hlen : l.length ≤ 8796093021952) (hcap : l.length ≤ cap) (hone : ∀ x ∈ l, x.length ≤ 9223372036854775807) (hc1 : -9223372036854775808 ≤ cut) (hc2 : cut ≤ 9223372036854775807) :
    Calls Tryd.prog 8 #[.slice ao l.length cap, .int .i64 cut] w fun e w' => e = .returned (.bool true) ∧ Below w.heap.size w w' := by
  have hF : ∀ (x : List UInt8) w, Tab w → x.length ≤ 9223372036854775807 → Calls Tryd.prog 14 #[.string ⟨x.toArray⟩] w fun e w' => e = .returned (.tuple #[.string ⟨(frameF x).1.toArray⟩, .int .i64 (frameF x).2]) ∧ Below w.heap.size w w' := by
    intro x w hT hx
    have h := frame_any ⟨x.toArray⟩ w hT (by rw [mk_size]; omega)
    rw [mk_data] at h
    exact h
  have hM : ∀ co dap ao cap w m, m ≤ l.length → StrsAt w co (l.take m) → StrsAt w ao (l.take m) → Calls Tryd.prog 20 #[.slice co m dap, .slice ao m cap] w fun e w' => e = .returned (.bool true) ∧ ∃ n, w' = w.drewN n := by
    intro co dap ao cap w m hm h1 h2
    have hl : (l.take m).length = m := by rw [List.length_take]; omega
    have h := texts_any co ao dap cap (l.take m) w h1 h2 (by unfold maxLen; omega)
    rw [hl] at h
    exact h
  have hA := fun K c m w hT h1 h2 h3 h4 h5 h6 h7 => torn_all l K c m w hT h1 h2 h3 h4 h5 h6 h7
  by_cases h0 : 0 ≤ cut
  · obtain ⟨c0, rfl⟩ : ∃ c0 : Nat, cut = (c0 : Int) := ⟨cut.toNat, by omega⟩
    exact torn_pos ao cap l c0 w (by omega) hT hat (by omega) hcap (fun k h => hone _ (List.getElem_mem h)) examples_any hF hA hM
  · obtain ⟨c0, rfl⟩ : ∃ c0 : Nat, cut = -(c0 : Int) - 1 := ⟨(-(cut + 1)).toNat, by omega⟩
    exact torn_neg ao cap l c0 w (by omega) hT hat (by omega) hcap (fun k h => hone _ (List.getElem_mem h)) examples_any hF hA hM

end Go.Proofs.YtlalfehnkhenjaaDoor
