/-
  The document's own Shape, as it runs.
-/
import Derived.Test.YtnbomaalncjkeaaR3
namespace Go.Proofs.Ytnbomaalncjkeaa
open Go.RowKit

theorem letter_cut (k : Int) (h1 : 1 ≤ k) (h2 : k ≤ 4) : ({ data := #[98, 119, 108, 116] } : ByteArray).extract (k.toNat - 1) k.toNat = ⟨#[letterF k]⟩ := by
  have h : k = 1 ∨ k = 2 ∨ k = 3 ∨ k = 4 := by omega
  rcases h with rfl | rfl | rfl | rfl <;> rfl

set_option maxHeartbeats 800000 in
theorem rshape_any (ao : Option Addr) (cap : Nat) (l : List It) (w : World) (hc : ItemsAt w ao l) (hlen : l.length ≤ 4398046511104) :
    Calls Try.prog 13 #[.slice ao l.length cap] w fun e w' => e = .returned (.tuple #[.string ⟨(shapeF l).1.toArray⟩, .bool (kindsB l)]) ∧ Below w.heap.size w w' := by
  have HC := hide hc
  clear hc
  go_enter Try.func13, Try.ntmps13
  go_wp2
  go_loop [4, 5] (fun sv i => ∃ (q : Nat) (S : ByteArray), q ≤ l.length ∧ i = .int .i64 q ∧ sv = .string S ∧ S.size ≤ q ∧ Hid (kindsB (l.take q) = true) ∧ Hid (S.data.toList = lettersOf (l.take q))) (fun _ i => l.length - (intOf i).toNat)
  case atStart => exact ⟨0, ⟨#[]⟩, Nat.zero_le _, rfl, rfl, Nat.le_refl _, rfl, rfl⟩
  case round =>
    obtain ⟨q, S, hq, rfl, rfl, hS, HK, HL⟩ := hrel
    by_cases hql : q < l.length
    · obtain ⟨b, off, rfl, hb, c0, c1, c2⟩ := HC.out q hql
      clear c1 c2
      have HT := hide (kindsB_next l q hql)
      have HN := hide (lettersOf_next l q hql)
      have HF := hide (kindsB_false l q hql)
      generalize l[q] = x at *
      by_cases h1 : 1 ≤ x.k
      · by_cases h2 : x.k ≤ 4
        · have hk : kindB x.k = true := by simp [kindB, h1, h2]
          have HG : Hid (kindsB (l.take (q + 1)) = true) := by
            show kindsB (l.take (q + 1)) = true
            rw [HT.out, HK.out, hk]; rfl
          have HM : Hid ((S ++ ({ data := #[98, 119, 108, 116] } : ByteArray).extract (x.k.toNat - 1) x.k.toNat).data.toList = lettersOf (l.take (q + 1))) := by
            show _ = _
            rw [letter_cut x.k h1 h2, HN.out, ← HL.out]
            simp [ByteArray.data_append]
          have hsz : (({ data := #[98, 119, 108, 116] } : ByteArray).extract (x.k.toNat - 1) x.k.toNat).size = 1 := by rw [letter_cut x.k h1 h2]; rfl
          have HZ := hide hsz
          clear hk HF HT HN hsz
          go_wp2
          go_round
          case rel => exact ⟨q + 1, _, by omega, by go_num, rfl, by rw [ByteArray.size_append, HZ.out]; omega, HG, HM⟩
          case measure => simp [intOf]; omega
        · have hk : kindB x.k = false := by simp [kindB, h2]
          have HE : Hid (shapeF l = ([], 1) ∧ kindsB l = false) := by
            refine ⟨?_, HF.out hk⟩
            rw [shapeF_eq, if_neg (by rw [HF.out hk]; decide)]
          clear HF HT HN hk
          go_wp2
          go_ret2
          exact ⟨ret2 (by rw [HE.out.1]; rfl) (by rw [HE.out.2]; rfl), Below.refl _ _⟩
      · have hk : kindB x.k = false := by simp [kindB, h1]
        have HE : Hid (shapeF l = ([], 1) ∧ kindsB l = false) := by
          refine ⟨?_, HF.out hk⟩
          rw [shapeF_eq, if_neg (by rw [HF.out hk]; decide)]
        clear HF HT HN hk
        go_wp2
        go_ret2
        exact ⟨ret2 (by rw [HE.out.1]; rfl) (by rw [HE.out.2]; rfl), Below.refl _ _⟩
    · have HE : Hid (shapeF l = (S.data.toList, 0) ∧ kindsB l = true) := by
        have h0 := HK.out
        have h1 := HL.out
        rw [List.take_of_length_le (by omega)] at h0 h1
        refine ⟨?_, h0⟩
        rw [shapeF_eq, if_pos h0, h1]
      clear HK HL
      go_wp2
      go_ret2
      exact ⟨ret2 (by rw [HE.out.1]; show Value.string S = .string ⟨S.data.toList.toArray⟩; rw [mk_back]) (by rw [HE.out.2]; rfl), Below.refl _ _⟩

end Go.Proofs.Ytnbomaalncjkeaa
