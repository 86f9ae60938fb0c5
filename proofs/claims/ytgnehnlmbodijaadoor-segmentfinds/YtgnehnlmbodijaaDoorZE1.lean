/-
  The chapter's examples, as the law asks them.
-/
import Derived.Test.YtgnehnlmbodijaaDoorZS8
namespace Go.Proofs.YtgnehnlmbodijaaDoor
open Go.RowKit

theorem mk_cat (a b : List UInt8) : (⟨a.toArray⟩ : ByteArray) ++ ⟨b.toArray⟩ = ⟨(a ++ b).toArray⟩ := by
  apply ByteArray.ext
  simp
def r3 : Rec := ⟨3, ⟨#[]⟩, 0, ⟨#[107]⟩, ⟨#[]⟩⟩
def r5 : Rec := ⟨5, ⟨#[]⟩, 0, ⟨#[]⟩, ⟨#[]⟩⟩
def rbad : Rec := ⟨-1, ⟨#[]⟩, 0, ⟨#[]⟩, ⟨#[]⟩⟩
theorem r3_right : RightP r3 := by decide
theorem r5_right : RightP r5 := by decide
theorem rbad_wrong : ¬ RightP rbad := by decide
theorem rbad_ok : rbad.ok := by refine ⟨?_, ?_, ?_, ?_, ?_, ?_, ?_⟩ <;> decide
def exB : List UInt8 := oneF r3 ++ oneF r5
theorem ex_len : exB.length = 73 := by kernel_rfl
theorem ex_scan : scanF 0 exB = ([(r3, 0), (r5, 37)], 73, 0) := by kernel_rfl
theorem ex_scan4 : scanF 4 exB = ([], 0, 11) := by kernel_rfl
theorem ex_idx : idxF 2 (scanF 0 exB).1 = [(3, 0)] := by rw [ex_scan]; kernel_rfl
theorem ex_find : findF [((3 : Int), (0 : Int))] 5 = 0 := by kernel_rfl
theorem ex_from : (fromF 0 5 1 0 exB).1 = [(r5, 37)] := by kernel_rfl
theorem ents_of_own {w : World} {B : Nat} {v : Value} {l : List (Int × Int)} (h : w.ownsRow B 44 2 v l.length (entCells l)) (hl : l.length ≤ 9223372036854775807) : EntsAt w v l := by
  obtain ⟨ao, cap, rfl⟩ := own_slice h
  refine ⟨ao, cap, rfl, hl, fun i hi => ?_⟩
  obtain ⟨g, rfl, hg, hc⟩ := row_at h (by omega)
  have key : ∀ (l : List (Int × Int)) (i : Nat) (hi : i < l.length), (entCells l)[i * 2]? = some (.int .i64 l[i].1) ∧ (entCells l)[i * 2 + 1]? = some (.int .i64 l[i].2) := by
    intro l
    induction l with
    | nil => intro i hi; simp at hi
    | cons p l ih =>
      intro i hi
      have e : entCells (p :: l) = [.int .i64 p.1, .int .i64 p.2] ++ entCells l := by simp [entCells]
      rw [e]
      cases i with
      | zero => exact ⟨rfl, rfl⟩
      | succ i =>
        have := ih i (by simpa using hi)
        rw [List.getElem?_append_right (by simp; omega), List.getElem?_append_right (by simp; omega)]
        rw [show (i + 1) * 2 - ([Value.int .i64 p.1, .int .i64 p.2] : List Value).length = i * 2 by simp; omega, show (i + 1) * 2 + 1 - ([Value.int .i64 p.1, .int .i64 p.2] : List Value).length = i * 2 + 1 by simp; omega]
        simpa using this
  refine ⟨g, 0, rfl, hg, ?_, ?_⟩
  · rw [Nat.zero_add, hc _ (by omega)]; exact (key l i hi).1
  · rw [Nat.zero_add, hc _ (by omega)]; exact (key l i hi).2
set_option maxHeartbeats 4000000 in
set_option maxRecDepth 100000 in
theorem examples_any (w : World) (hT : Tab w) :
    Calls Tryd.prog 9 #[] w fun e w' => e = .returned (.bool true) ∧ Below w.heap.size w w' := by
  have HT := hide hT
  clear hT
  have HO3 : Hid (∀ W, Tab W → Calls Tryd.prog 10 #[.agg #[.int .i64 3, .string ⟨#[]⟩, .int .i64 0, .string ⟨#[107]⟩, .string ⟨#[]⟩]] W fun e w' => e = .returned (.tuple #[.string ⟨(oneF r3).toArray⟩, .int .i64 0]) ∧ Below W.heap.size W w') := fun W h => one_good r3 r3_right W h
  have HO5 : Hid (∀ W, Tab W → Calls Tryd.prog 10 #[.agg #[.int .i64 5, .string ⟨#[]⟩, .int .i64 0, .string ⟨#[]⟩, .string ⟨#[]⟩]] W fun e w' => e = .returned (.tuple #[.string ⟨(oneF r5).toArray⟩, .int .i64 0]) ∧ Below W.heap.size W w') := fun W h => one_good r5 r5_right W h
  have HOb : Hid (∀ W, Calls Tryd.prog 10 #[.agg #[.int .i64 (-1), .string ⟨#[]⟩, .int .i64 0, .string ⟨#[]⟩, .string ⟨#[]⟩]] W fun e w' => e = .returned (.tuple #[.string ⟨#[]⟩, .int .i64 1]) ∧ Below W.heap.size W w') := fun W => one_bad rbad rbad_ok rbad_wrong W
  have hcat : (⟨(oneF r3).toArray⟩ : ByteArray) ++ ⟨(oneF r5).toArray⟩ = ⟨exB.toArray⟩ := mk_cat _ _
  have hdat : ((⟨exB.toArray⟩ : ByteArray).data.toList) = exB := by simp
  have hsize : (⟨exB.toArray⟩ : ByteArray).size = 73 := by show exB.toArray.size = 73; rw [List.size_toArray]; exact ex_len
  have HS0 : Hid (∀ W, Tab W → Calls Tryd.prog 15 #[.int .i64 0, .string ⟨exB.toArray⟩] W fun e w' => ∃ v, e = .returned (.tuple #[v, .int .i64 73, .int .i64 0]) ∧ w'.ownsRow W.heap.size 23 5 v 2 (recCells [(r3, 0), (r5, 37)]) ∧ Below W.heap.size W w') := fun W h => by
    have := scan_any 0 ⟨exB.toArray⟩ W h (by rw [hsize]; omega) (by rw [hdat, ex_scan]; simp)
    rw [hdat, ex_scan] at this
    exact this
  have HS4 : Hid (∀ W, Tab W → Calls Tryd.prog 15 #[.int .i64 4, .string ⟨exB.toArray⟩] W fun e w' => ∃ v, e = .returned (.tuple #[v, .int .i64 0, .int .i64 11]) ∧ w'.ownsRow W.heap.size 23 5 v 0 [] ∧ Below W.heap.size W w') := fun W h => by
    have := scan_any 4 ⟨exB.toArray⟩ W h (by rw [hsize]; omega) (by rw [hdat, ex_scan4]; simp)
    rw [hdat, ex_scan4] at this
    exact this
  have HI : Hid (∀ W, Tab W → Calls Tryd.prog 17 #[.int .i64 0, .string ⟨exB.toArray⟩, .int .i64 2] W fun e w' => ∃ v, e = .returned (.tuple #[v, .int .i64 0]) ∧ w'.ownsRow W.heap.size 44 2 v 1 (entCells [(3, 0)]) ∧ Below W.heap.size W w') := fun W h => by
    have := index_any 0 ⟨exB.toArray⟩ 2 W h (by rw [hsize]; omega) (by omega) (by omega) (by rw [hdat, ex_scan]; simp)
    rw [hdat, ex_idx] at this
    exact this
  have HF : Hid (∀ W v, Tab W → EntsAt W v [(3, 0)] → Calls Tryd.prog 21 #[.int .i64 0, .string ⟨exB.toArray⟩, v, .int .i64 5, .int .i64 1] W fun e w' => ∃ v', e = .returned v' ∧ w'.ownsRow W.heap.size 23 5 v' 1 (recCells [(r5, 37)]) ∧ Below W.heap.size W w') := fun W v h hv => by
    have e0 : withinF (findF [((3 : Int), (0 : Int))] 5) (⟨exB.toArray⟩ : ByteArray).size = 0 := by rw [ex_find, hsize]; decide
    have := from_any 0 ⟨exB.toArray⟩ v [(3, 0)] 5 1 W h (by rw [hsize]; omega) hv (by rw [e0, hdat, ex_from]; simp)
    rw [e0, hdat, ex_from] at this
    exact this
  have hA : (⟨(oneF r3).toArray⟩ : ByteArray).size = 37 := by show (oneF r3).toArray.size = 37; rw [List.size_toArray]; kernel_rfl
  have hB : (⟨(oneF r5).toArray⟩ : ByteArray).size = 36 := by show (oneF r5).toArray.size = 36; rw [List.size_toArray]; kernel_rfl
  generalize (⟨exB.toArray⟩ : ByteArray) = AB at *
  generalize (⟨(oneF r3).toArray⟩ : ByteArray) = A at *
  generalize (⟨(oneF r5).toArray⟩ : ByteArray) = B at *
  clear hdat
  go_enter Tryd.func9, Tryd.ntmps9
  go_wp2_with fail
  refine (HO3.out _ HT.out).mono ?_
  rintro e w1 ⟨rfl, b1⟩
  have B1 := hide b1
  clear b1 HO3
  go_wp2_with fail
  refine (HO5.out _ (HT.out.below B1.out)).mono ?_
  rintro e w2 ⟨rfl, b2⟩
  have B2 := hide (B1.out.trans (b2.mono B1.out.size))
  clear b2 HO5 B1
  go_wp2_with fail
  refine (HS0.out _ (HT.out.below B2.out)).mono ?_
  rintro e w3 ⟨v3, rfl, o3, b3⟩
  obtain ⟨a3, c3, rfl⟩ := own_slice o3
  have B3 := hide (B2.out.trans (b3.mono B2.out.size))
  clear b3 HS0 B2 o3
  go_wp2_with fail
  refine (HS4.out _ (HT.out.below B3.out)).mono ?_
  rintro e w4 ⟨v4, rfl, o4, b4⟩
  obtain ⟨a4, c4, rfl⟩ := own_slice o4
  have B4 := hide (B3.out.trans (b4.mono B3.out.size))
  clear b4 HS4 B3 o4
  go_wp2_with fail
  refine (HI.out _ (HT.out.below B4.out)).mono ?_
  rintro e w5 ⟨v5, rfl, o5, b5⟩
  have E5 := hide (ents_of_own (l := [(3, 0)]) o5 (by simp))
  obtain ⟨a5, c5, rfl⟩ := own_slice o5
  have B5 := hide (B4.out.trans (b5.mono B4.out.size))
  clear b5 HI B4 o5
  go_wp2_with fail
  refine (HF.out _ _ (HT.out.below B5.out) E5.out).mono ?_
  rintro e w6 ⟨v6, rfl, o6, b6⟩
  have E6 := hide (E5.out.below b6)
  obtain ⟨a6, c6, rfl⟩ := own_slice o6
  obtain ⟨g6, rfl, gl6, hc6⟩ := row_at o6 (by omega)
  have d6 := hc6 0 (by omega)
  have B6 := hide (B5.out.trans (b6.mono B5.out.size))
  clear b6 HF B5 o6 hc6 E5
  go_wp2_with fail
  refine (HOb.out _).mono ?_
  rintro e w7 ⟨rfl, b7⟩
  have E7 := E6.out.below b7
  obtain ⟨ao, cp, hao, _, hat⟩ := E7
  obtain ⟨b5, of5, rfl, hb5, x0, x1⟩ := hat 0 (by simp)
  injection hao with h1 h2 h3
  subst h1
  have d7 : w7.cell? ⟨g6, 0, none⟩ = some (.int .i64 5) := (b7.cell (p := ⟨g6, 0, none⟩) gl6).trans d6
  have B7 := hide (B6.out.trans (b7.mono B6.out.size))
  have hs2 : (A ++ B).size = 73 := by rw [hcat]; exact hsize
  have y0 : w7.cell? ⟨b5, of5, none⟩ = some (.int .i64 3) := x0
  have y1 : w7.cell? ⟨b5, of5 + 1, none⟩ = some (.int .i64 0) := x1
  clear b7 HOb B6 E6 d6 hat x0 x1 h2 h3 hb5 gl6 HT
  go_wp2
  go_ret
  exact ⟨rfl, B7.out⟩
end Go.Proofs.YtgnehnlmbodijaaDoor
