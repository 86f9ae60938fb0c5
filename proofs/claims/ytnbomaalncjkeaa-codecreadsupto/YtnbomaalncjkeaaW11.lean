import Derived.Test.YtnbomaalncjkeaaW10
namespace Go.Proofs.Ytnbomaalncjkeaa
open Go.RowKit

def kindsB (l : List It) : Bool := l.all fun x => kindB x.k
def lettersOf (l : List It) : List UInt8 := l.map fun x => letterF x.k
theorem shapeF_eq (l : List It) : shapeF l = if kindsB l = true then (lettersOf l, 0) else ([], 1) := rfl
theorem kindsB_next (l : List It) (q : Nat) (h : q < l.length) : kindsB (l.take (q + 1)) = (kindsB (l.take q) && kindB l[q].k) := by
  unfold kindsB
  rw [take_next l q h, List.all_append]
  simp only [List.all_cons, List.all_nil, Bool.and_true]
theorem lettersOf_next (l : List It) (q : Nat) (h : q < l.length) : lettersOf (l.take (q + 1)) = lettersOf (l.take q) ++ [letterF l[q].k] := by
  unfold lettersOf
  rw [take_next l q h, List.map_append, List.map_singleton]
theorem kindsB_false (l : List It) (q : Nat) (h : q < l.length) (h1 : kindB l[q].k = false) : kindsB l = false := by
  unfold kindsB
  rw [List.all_eq_false]
  exact ⟨l[q], List.getElem_mem h, by simp [h1]⟩

theorem letter_at (k : Int) (h1 : 1 ≤ k) (h2 : k ≤ 4) (hp : k.toNat - 1 < ({ data := #[98, 119, 108, 116] } : ByteArray).size) : ({ data := #[98, 119, 108, 116] } : ByteArray)[k.toNat - 1]'hp = letterF k := by
  have h : k = 1 ∨ k = 2 ∨ k = 3 ∨ k = 4 := by omega
  rcases h with rfl | rfl | rfl | rfl <;> rfl

set_option maxHeartbeats 800000 in
theorem shape_any (ao : Option Addr) (cap : Nat) (l : List It) (w : World) (hc : ItemsAt w ao l) (hlen : l.length ≤ 4398046511104) :
    Calls Try.prog 12 #[.slice ao l.length cap] w fun e w' => e = .returned (.tuple #[.string ⟨(shapeF l).1.toArray⟩, .int .i64 (shapeF l).2]) ∧ Below w.heap.size w w' := by
  have HC := hide hc
  clear hc
  go_enter Try.func12, Try.ntmps12
  go_wp2_with fail
  refine (Try.Grow w.heap.size w.heap.size l.length _ (Nat.le_refl _) (by show (w.heap.push _)[w.heap.size]? = _; simp) (by simp) (by omega)).mono ?_
  rintro e w2 ⟨rfl, h1, h2⟩
  have HG : Hid (Lib.IsBuilderF 49 5 w.heap.size w.heap.size (Lib.byteCells []) w2 ∧ Below w.heap.size w w2) :=
    ⟨Or.inr (Lib.BuilderAtF.of h1), ((Below.refl _ _).alloc (Nat.le_refl _) _).trans h2⟩
  clear h1 h2
  go_wp2
  go_loopw [12] (fun i wv => ∃ q : Nat, q ≤ l.length ∧ i = .int .i64 q ∧ Hid (kindsB (l.take q) = true) ∧ Hid (Lib.IsBuilderF 49 5 w.heap.size w.heap.size (Lib.byteCells (lettersOf (l.take q))) wv ∧ Below w.heap.size w wv)) (fun i _ => l.length - (intOf i).toNat)
  case atStart => exact ⟨0, Nat.zero_le _, rfl, rfl, HG⟩
  case round =>
    obtain ⟨q, hq, rfl, HK, HV⟩ := hrel
    by_cases hql : q < l.length
    · obtain ⟨b, off, rfl, hb, c0, c1, c2⟩ := HC.out q hql
      have d0 := (HV.out.2.cell (p := ⟨b, off + q * 3, none⟩) hb).trans c0
      have d1 := (HV.out.2.cell (p := ⟨b, off + q * 3 + 1, none⟩) hb).trans c1
      have d2 := (HV.out.2.cell (p := ⟨b, off + q * 3 + 2, none⟩) hb).trans c2
      clear c0 c1 c2
      have HT := hide (kindsB_next l q hql)
      have HL := hide (lettersOf_next l q hql)
      have HF := hide (kindsB_false l q hql)
      have HI := hide (fun w => isKind_any l[q].k w)
      generalize l[q] = x at *
      have hvs := HV.out.2.size
      cases hk : kindB x.k with
      | false =>
        rw [hk] at HI
        have HE : Hid (shapeF l = ([], 1)) := by
          show shapeF l = _
          rw [shapeF_eq, if_neg (by rw [HF.out hk]; decide)]
        clear HF HL HT hk
        go_wp2_with (go_at_call 25; refine (HI.out _).mono ?_; rintro e w' ⟨rfl, rfl⟩)
        go_ret2
        exact ⟨ret2 (by rw [HE.out]; rfl) (by rw [HE.out]; rfl), HV.out.2.alloc hvs _⟩
      | true =>
        rw [hk] at HI
        have HN : Hid (kindsB (l.take (q + 1)) = true) := by
          show kindsB (l.take (q + 1)) = true
          rw [HT.out, HK.out, hk]; rfl
        have hk1 : 1 ≤ x.k ∧ x.k ≤ 4 := by simpa [kindB] using hk
        obtain ⟨hk1, hk2⟩ := hk1
        clear hk HF HT
        have hln : (Lib.byteCells (lettersOf (l.take q))).length + 1 ≤ 140737488355328 := by
          simp only [Lib.byteCells, List.length_map, lettersOf, List.length_take]
          omega
        go_wp2_with (go_at_call 25; refine (HI.out _).mono ?_; rintro e w' ⟨rfl, rfl⟩)
        rw [letter_at x.k hk1 hk2]
        refine (Try.WriteByte w.heap.size w.heap.size _ _ _ (builder_alloc HV.out.1 _) hln (by simp; omega)).mono ?_
        rintro e w3 ⟨rfl, g1, g2, g3⟩
        have HW : Hid (Lib.IsBuilderF 49 5 w.heap.size w.heap.size (Lib.byteCells (lettersOf (l.take (q + 1)))) w3 ∧ Below w.heap.size w w3) := by
          refine ⟨?_, (HV.out.2.alloc hvs _).trans g2⟩
          rw [HL.out, Lib.byteCells, List.map_append]
          exact Or.inr g1
        clear g1 g2 g3 hln
        go_wp2
        go_roundw
        case rel => exact ⟨q + 1, by omega, by go_num, HN, HW⟩
        case measure => simp [intOf]; omega
    · have e1 : l.take q = l := List.take_of_length_le (by omega)
      rw [e1] at HV HK
      clear e1
      have HE : Hid (shapeF l = (lettersOf l, 0)) := by
        show shapeF l = _
        rw [shapeF_eq, if_pos HK.out]
      have hvs := HV.out.2.size
      go_wp2_with fail
      refine (Try.BString w.heap.size w.heap.size (lettersOf l) _ HV.out.1 hvs).mono ?_
      rintro e w3 ⟨rfl, g1, g2, g3⟩
      have HN := hide (HV.out.2.trans g2)
      clear g1 g2 g3
      go_wp2
      go_ret2
      exact ⟨ret2 (by rw [HE.out]; rfl) (by rw [HE.out]; rfl), HN.out⟩

end Go.Proofs.Ytnbomaalncjkeaa
