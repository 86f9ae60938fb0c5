/-
  A view's code on lists: written, read.
-/
import Derived.Test.YtfcpclpaalekiaaZKPure
import Derived.Lib.Repeat
import Derived.Test.YtfcpclpaalekiaaZVM
namespace Go.Proofs.Ytfcpclpaalekiaa.K
theorem beBytes_succ (k v : Nat) : Lib.beBytes (k + 1) v = Lib.beBytes k (v / 256) ++ [(v % 256).toUInt8] := by
  simp [Lib.beBytes, Lib.leBytes]
theorem beNat_beBytes (k v : Nat) (h : v < 256 ^ k) : Lib.beNat (Lib.beBytes k v) = v := by
  induction k generalizing v with
  | zero => simp at h; subst h; rfl
  | succ k ih =>
    rw [beBytes_succ, beNat_snoc, ih (v / 256) (by rw [Nat.pow_succ] at h; omega), Lib.toUInt8_mod]
    omega
theorem snoc_of (l : List UInt8) (k : Nat) (h : l.length = k + 1) : ∃ a c, l = a ++ [c] ∧ a.length = k := by
  have hne : l ≠ [] := by intro e; rw [e] at h; simp at h
  refine ⟨l.dropLast, l.getLast hne, (List.dropLast_concat_getLast hne).symm, by rw [List.length_dropLast]; omega⟩
theorem beBytes_beNat (k : Nat) (l : List UInt8) (h : l.length = k) : Lib.beBytes k (Lib.beNat l) = l := by
  induction k generalizing l with
  | zero => simp at h; subst h; rfl
  | succ k ih =>
    obtain ⟨a, c, rfl, ha⟩ := snoc_of l k h
    have hc := c.toNat_lt
    have h1 : (Lib.beNat a * 256 + c.toNat) / 256 = Lib.beNat a := by omega
    have h2 : (Lib.beNat a * 256 + c.toNat) % 256 = c.toNat := by omega
    rw [beNat_snoc, beBytes_succ, h1, h2, ih a ha]
    simp
theorem kind_cases (k : Int) (h : kindB k = true) : k = 1 ∨ k = 2 ∨ k = 3 ∨ k = 4 := by
  simp [kindB] at h
  omega
theorem kindOfL_letterF (k : Int) (h : kindB k = true) : kindOfL (letterF k) = k := by
  rcases kind_cases k h with rfl | rfl | rfl | rfl <;> rfl
theorem isLetter_letterF (k : Int) (h : kindB k = true) : isLetter (letterF k) = true := by
  rcases kind_cases k h with rfl | rfl | rfl | rfl <;> rfl
theorem letterF_ne (k : Int) : letterF k ≠ 42 := by
  unfold letterF
  split
  · decide
  · split
    · decide
    · split <;> decide
theorem fault_kind (x : It) (h : faultF x = 0) : kindB x.k = true := by
  unfold faultF at h
  cases hk : kindB x.k with
  | true => rfl
  | false => rw [hk] at h; simp at h
theorem fault_shape (x : It) (h : faultF x = 0) : (x.k ≠ 4 ∧ x.s.size = 0 ∧ x.n < 256 ^ widthN x.k) ∨ (x.k = 4 ∧ x.n = 0 ∧ x.s.size ≤ 100000) := by
  have hk := fault_kind x h
  unfold faultF at h
  rw [hk] at h
  simp only [Bool.true_eq_false, if_false] at h
  by_cases h4 : x.k = 4
  · right
    by_cases hn : x.n = 0
    · by_cases hs : 100000 < x.s.size
      · simp [h4, hn, hs] at h
      · exact ⟨h4, hn, by omega⟩
    · simp [h4, hn] at h
  · left
    by_cases hs : x.s.size = 0
    · by_cases hn : x.n < 256 ^ widthN x.k
      · exact ⟨h4, hs, hn⟩
      · simp [h4, hs, hn] at h
    · simp [h4, hs] at h
theorem numOf_lt (x : It) (h : faultF x = 0) (h0 : 0 ≤ x.n) : numOf x < 256 ^ widthN x.k := by
  unfold numOf
  rcases fault_shape x h with ⟨h4, _, hn⟩ | ⟨h4, _, hs⟩
  · rw [if_neg h4]
    obtain ⟨n, hn'⟩ := Int.eq_ofNat_of_zero_le h0
    rw [hn'] at hn ⊢
    rw [Int.toNat_natCast]
    have e : ((256 ^ widthN x.k : Nat) : Int) = (256 : Int) ^ widthN x.k := Int.natCast_pow 256 _
    rw [← e] at hn
    omega
  · have w4 : widthN x.k = 4 := by rw [h4]; rfl
    rw [if_pos h4, w4]
    omega
theorem mk_empty (s : ByteArray) (h : s.size = 0) : s = ⟨#[]⟩ := by
  obtain ⟨d⟩ := s
  congr
  exact Array.eq_empty_of_size_eq_zero h
theorem mk_back (s : ByteArray) : (⟨s.data.toList.toArray⟩ : ByteArray) = s := by obtain ⟨d⟩ := s; rfl
theorem itemF_item (x : It) (rest : List UInt8) (h : faultF x = 0) (h0 : 0 ≤ x.n) : itemF (letterF x.k) (itemB x ++ rest) = (x, rest, 0) := by
  have hk := fault_kind x h
  have hlt := numOf_lt x h h0
  have hl : (Lib.beBytes (widthN x.k) (numOf x)).length = widthN x.k := Lib.beBytes_length _ _
  unfold itemF itemB
  rw [kindOfL_letterF x.k hk, List.append_assoc]
  rw [if_neg (by rw [List.length_append, hl]; omega)]
  rcases fault_shape x h with ⟨h4, hs, _⟩ | ⟨h4, hn, hs⟩
  · rw [if_neg h4, List.take_left' hl, List.drop_left' hl, beNat_beBytes _ _ hlt]
    have e1 : x.s.data.toList = [] := List.eq_nil_of_length_eq_zero (by simpa using hs)
    have e2 : ((numOf x : Nat) : Int) = x.n := by unfold numOf; rw [if_neg h4]; omega
    rw [e1, List.nil_append, e2, ← mk_empty x.s hs]
  · have w4 : widthN x.k = 4 := by rw [h4]; rfl
    rw [w4] at hl hlt ⊢
    have e1 : numOf x = x.s.size := by unfold numOf; rw [if_pos h4]
    rw [if_pos h4, List.take_left' hl, List.drop_left' hl, beNat_beBytes _ _ hlt, e1]
    have e2 : x.s.data.toList.length = x.s.size := by simp
    rw [if_neg (by omega), if_neg (by rw [List.length_append, e2]; omega), List.take_left' e2, List.drop_left' e2, mk_back]
    obtain ⟨k, n, s⟩ := x
    simp only at h4 hn
    subst h4 hn
    rfl
theorem readF_back (l : List It) (m f : Nat) (hm : m + l.length ≤ 1000) (hl : ∀ x ∈ l, faultF x = 0 ∧ 0 ≤ x.n) (hf : l.length < f) :
    readF f [] m (l.map fun x => letterF x.k) (l.flatMap itemB) = (l, 0) := by
  induction l generalizing m f with
  | nil =>
    obtain ⟨g, rfl⟩ : ∃ g, f = g + 1 := ⟨f - 1, by simp at hf; omega⟩
    simp [readF]
  | cons x l ih =>
    obtain ⟨g, rfl⟩ : ∃ g, f = g + 1 := ⟨f - 1, by simp at hf; omega⟩
    obtain ⟨h1, h2⟩ := hl x (by simp)
    have h3 := ih (m + 1) g (by simp at hm; omega) (fun y hy => hl y (by simp [hy])) (by simp at hf; omega)
    rw [List.map_cons, List.flatMap_cons, readF, itemF_item x _ h1 h2]
    simp only [List.length_cons] at hm
    rw [if_neg (by omega), if_pos rfl, h3, if_pos rfl]
theorem indexByte_none (l : List UInt8) (c : UInt8) (h : ∀ x ∈ l, x ≠ c) : Lib.indexByte l c = -1 := by
  induction l with
  | nil => rfl
  | cons b l ih =>
    have h1 : (b == c) = false := by simpa using h b (by simp)
    have h2 := ih fun x hx => h x (by simp [hx])
    simp [Lib.indexByte, h1, h2]
theorem cutStar_letters (l : List UInt8) (h : ∀ x ∈ l, x ≠ 42) : cutStar l = (l, [], false) := by
  unfold cutStar
  rw [indexByte_none l 42 h, if_pos (by omega)]
theorem letters_star (l : List It) : ∀ x ∈ (l.map fun x => letterF x.k), x ≠ 42 := by
  intro x hx
  obtain ⟨y, _, rfl⟩ := List.mem_map.1 hx
  exact letterF_ne y.k
theorem letters_all (l : List It) (h : ∀ x ∈ l, kindB x.k = true) : allL (l.map fun x => letterF x.k) = true := by
  unfold allL
  rw [List.all_eq_true]
  intro x hx
  obtain ⟨y, hy, rfl⟩ := List.mem_map.1 hx
  exact isLetter_letterF y.k (h y hy)
theorem shapeOk_letters (l : List It) (h : ∀ x ∈ l, kindB x.k = true) : shapeOk (l.map fun x => letterF x.k) = true := by
  unfold shapeOk
  rw [cutStar_letters _ (letters_star l)]
  simp only [Bool.false_and, Bool.not_false, Bool.true_and]
  rw [letters_all l h]
  rfl
theorem decF_letters (l : List It) (s : List UInt8) (h : ∀ x ∈ l, kindB x.k = true) : decF (l.map fun x => letterF x.k) s = readF (2 * s.length + 2) [] 0 (l.map fun x => letterF x.k) s := by
  unfold decF
  rw [shapeOk_letters l h, if_pos rfl, cutStar_letters _ (letters_star l)]
theorem firstFault_zero (l : List It) : firstFault l = 0 ↔ ∀ x ∈ l, faultF x = 0 := by
  induction l with
  | nil => simp [firstFault]
  | cons x l ih =>
    simp only [firstFault, List.mem_cons, forall_eq_or_imp]
    by_cases h : faultF x = 0
    · rw [if_pos h, ih]; simp [h]
    · rw [if_neg h]; simp [h]
theorem itemB_pos (x : It) : 1 ≤ (itemB x).length := by
  unfold itemB
  rw [List.length_append, Lib.beBytes_length]
  have : 1 ≤ widthN x.k := by
    unfold widthN
    split
    · omega
    · split <;> omega
  omega
theorem items_le (l : List It) : l.length ≤ (l.flatMap itemB).length := by
  induction l with
  | nil => simp
  | cons x l ih =>
    have := itemB_pos x
    rw [List.flatMap_cons, List.length_append, List.length_cons]
    omega
theorem encF_zero (l : List It) (h : (encF l).2 = 0) : l.length ≤ 1000 ∧ (∀ x ∈ l, faultF x = 0) ∧ encF l = (l.flatMap itemB, 0) := by
  unfold encF at *
  by_cases h1 : 1000 < l.length
  · rw [if_pos h1] at h; simp at h
  · rw [if_neg h1] at h ⊢
    by_cases h2 : firstFault l = 0
    · rw [if_pos h2]
      exact ⟨by omega, (firstFault_zero l).1 h2, rfl⟩
    · rw [if_neg h2] at h
      exact absurd h h2
theorem shapeF_ok (l : List It) (h : ∀ x ∈ l, kindB x.k = true) : shapeF l = (l.map fun x => letterF x.k, 0) := by
  unfold shapeF
  rw [if_pos]
  rw [List.all_eq_true]
  exact h
theorem back_pure (l : List It) (h : (encF l).2 = 0) (hn : ∀ x ∈ l, 0 ≤ x.n) : (shapeF l).2 = 0 ∧ decF (shapeF l).1 (encF l).1 = (l, 0) := by
  obtain ⟨h1, h2, h3⟩ := encF_zero l h
  have hk : ∀ x ∈ l, kindB x.k = true := fun x hx => fault_kind x (h2 x hx)
  rw [shapeF_ok l hk, h3]
  refine ⟨rfl, ?_⟩
  show decF (l.map fun x => letterF x.k) (l.flatMap itemB) = (l, 0)
  rw [decF_letters l _ hk]
  exact readF_back l 0 _ (by omega) (fun x hx => ⟨h2 x hx, hn x hx⟩) (by have := items_le l; omega)
end Go.Proofs.Ytfcpclpaalekiaa.K
namespace Go.Proofs.Ytfcpclpaalekiaa.K
theorem letter_cases (c : UInt8) (h : isLetter c = true) : c = 98 ∨ c = 119 ∨ c = 108 ∨ c = 116 := by
  by_cases h1 : c = 98
  · exact Or.inl h1
  by_cases h2 : c = 119
  · exact Or.inr (Or.inl h2)
  by_cases h3 : c = 108
  · exact Or.inr (Or.inr (Or.inl h3))
  by_cases h4 : c = 116
  · exact Or.inr (Or.inr (Or.inr h4))
  have e := indexByte_none letters c (by
    intro x hx
    simp [letters] at hx
    rcases hx with rfl | rfl | rfl | rfl
    · exact fun e => h1 e.symm
    · exact fun e => h2 e.symm
    · exact fun e => h3 e.symm
    · exact fun e => h4 e.symm)
  unfold isLetter at h
  rw [e] at h
  simp at h
theorem letter_back (c : UInt8) (h : isLetter c = true) : letterF (kindOfL c) = c ∧ kindB (kindOfL c) = true := by
  rcases letter_cases c h with rfl | rfl | rfl | rfl <;> exact ⟨rfl, rfl⟩
theorem widthN_le' (k : Int) : widthN k ≤ 8 := by
  unfold widthN
  split
  · omega
  · split <;> omega
theorem pow_le8 (z : Nat) (h : z ≤ 8) : 256 ^ z ≤ 18446744073709551616 := by
  have : 256 ^ z ≤ 256 ^ 8 := Nat.pow_le_pow_right (by omega) h
  omega
theorem itemF_inv (c : UInt8) (s : List UInt8) (hc : isLetter c = true) (h : (itemF c s).2.2 = 0) :
    s = itemB (itemF c s).1 ++ (itemF c s).2.1 ∧ faultF (itemF c s).1 = 0 ∧ (itemF c s).1.ok ∧ letterF (itemF c s).1.k = c := by
  obtain ⟨hb, hk⟩ := letter_back c hc
  have hz := widthN_le' (kindOfL c)
  unfold itemF at *
  by_cases h1 : s.length < widthN (kindOfL c)
  · rw [if_pos h1] at h; simp at h
  · rw [if_neg h1] at h ⊢
    by_cases h2 : kindOfL c = 4
    · rw [if_pos h2] at h ⊢
      rw [h2] at h1 hb
      have w4 : widthN 4 = 4 := rfl
      rw [w4] at h1
      by_cases h3 : 100000 < Lib.beNat (s.take 4)
      · rw [if_pos h3] at h; simp at h
      · rw [if_neg h3] at h ⊢
        by_cases h4 : (s.drop 4).length < Lib.beNat (s.take 4)
        · rw [if_pos h4] at h; simp at h
        · rw [if_neg h4]
          have ht : (s.take 4).length = 4 := by rw [List.length_take]; omega
          generalize hN : Lib.beNat (s.take 4) = N at *
          have hl : ((s.drop 4).take N).length = N := by rw [List.length_take]; omega
          have hsz : (⟨((s.drop 4).take N).toArray⟩ : ByteArray).size = N := by
            show ((s.drop 4).take N).toArray.size = N
            rw [List.size_toArray]; exact hl
          refine ⟨?_, ?_, ?_, hb⟩
          · unfold itemB numOf
            rw [if_pos rfl, hsz, w4, ← hN, beBytes_beNat 4 _ ht, hN]
            simp only [List.append_assoc]
            show s = s.take 4 ++ ((s.drop 4).take N ++ (s.drop 4).drop N)
            rw [List.take_append_drop, List.take_append_drop]
          · unfold faultF
            rw [hsz]
            simp [kindB]
            omega
          · unfold It.ok
            rw [hsz]
            simp
            omega
    · rw [if_neg h2] at h ⊢
      have ht : (s.take (widthN (kindOfL c))).length = widthN (kindOfL c) := by rw [List.length_take]; omega
      have hlt := beNat_lt (s.take (widthN (kindOfL c)))
      rw [ht] at hlt
      have h8 := pow_le8 _ hz
      refine ⟨?_, ?_, ?_, hb⟩
      · unfold itemB numOf
        rw [if_neg h2, Int.toNat_natCast, beBytes_beNat _ _ ht]
        show s = s.take (widthN (kindOfL c)) ++ [] ++ s.drop (widthN (kindOfL c))
        rw [List.append_nil, List.take_append_drop]
      · have e : ((256 ^ widthN (kindOfL c) : Nat) : Int) = (256 : Int) ^ widthN (kindOfL c) := Int.natCast_pow 256 _
        have hlt' : ((Lib.beNat (s.take (widthN (kindOfL c))) : Nat) : Int) < (256 : Int) ^ widthN (kindOfL c) := by rw [← e]; omega
        have hsz : (⟨#[]⟩ : ByteArray).size = 0 := rfl
        unfold faultF
        simp only [hk, h2, hsz, hlt', Bool.true_eq_false, if_false, ne_eq, not_true, not_false_iff, or_false, and_false, false_and]
        rfl
      · have k1 : 1 ≤ kindOfL c ∧ kindOfL c ≤ 4 := by simpa [kindB] using hk
        unfold It.ok
        refine ⟨by simp only; omega, by simp only; omega, by simp only; omega, by simp only; omega, Nat.zero_le _⟩
theorem allL_cons (c : UInt8) (t : List UInt8) (h : allL (c :: t) = true) : isLetter c = true ∧ allL t = true := by
  simpa [allL] using h
theorem itemF_less' (c : UInt8) (s : List UInt8) (hc : isLetter c = true) (h : (itemF c s).2.2 = 0) : (itemF c s).2.1.length < s.length := by
  have h1 := congrArg List.length (itemF_inv c s hc h).1
  have h2 := itemB_pos (itemF c s).1
  rw [List.length_append] at h1
  omega
theorem readF_again (f : Nat) (again : List UInt8) (m : Nat) (todo rest : List UInt8) (ha : allL again = true) (ht : allL todo = true) (hm : m ≤ 1000)
    (hf : 2 * rest.length + (if todo = [] then 1 else 0) < f) (h : (readF f again m todo rest).2 = 0) :
    rest = (readF f again m todo rest).1.flatMap itemB ∧ (∀ x ∈ (readF f again m todo rest).1, faultF x = 0 ∧ x.ok) ∧ m + (readF f again m todo rest).1.length ≤ 1000 := by
  induction f generalizing m todo rest with
  | zero => omega
  | succ f ih =>
    cases todo with
    | nil =>
      rw [readF] at h ⊢
      by_cases h1 : rest = []
      · subst h1
        rw [if_pos rfl]
        exact ⟨rfl, by simp, by simpa using hm⟩
      · rw [if_neg h1] at h ⊢
        by_cases h2 : again = []
        · rw [if_pos h2] at h; simp at h
        · rw [if_neg h2] at h ⊢
          rw [if_pos rfl] at hf
          exact ih m again rest ha hm (by rw [if_neg h2]; omega) h
    | cons c t =>
      obtain ⟨hc, ht⟩ := allL_cons c t ht
      rw [readF] at h ⊢
      by_cases h1 : m = 1000
      · rw [if_pos h1] at h; simp at h
      · rw [if_neg h1] at h ⊢
        by_cases h2 : (itemF c rest).2.2 = 0
        · rw [if_pos h2] at h ⊢
          by_cases h3 : (readF f again (m + 1) t (itemF c rest).2.1).2 = 0
          · rw [if_pos h3]
            have hl := itemF_less' c rest hc h2
            rw [if_neg (by simp)] at hf
            obtain ⟨g1, g2, g3⟩ := ih (m + 1) t (itemF c rest).2.1 ht (by omega) (by split <;> omega) h3
            obtain ⟨e1, e2, e3, _⟩ := itemF_inv c rest hc h2
            refine ⟨?_, ?_, ?_⟩
            · show rest = List.flatMap itemB ((itemF c rest).1 :: _)
              rw [List.flatMap_cons, ← g1]
              exact e1
            · intro x hx
              rcases List.mem_cons.1 hx with rfl | hx
              · exact ⟨e2, e3⟩
              · exact g2 x hx
            · show m + (List.length ((itemF c rest).1 :: _)) ≤ 1000
              rw [List.length_cons]
              omega
          · rw [if_neg h3] at h; exact absurd h h3
        · rw [if_neg h2] at h; exact absurd h h2
theorem shapeOk_parts (s : List UInt8) (h : shapeOk s = true) : allL (cutStar s).1 = true ∧ allL (cutStar s).2.1 = true := by
  unfold shapeOk at h
  simp only [Bool.and_eq_true] at h
  exact h.2
theorem again_pure (shape s : List UInt8) (h : (decF shape s).2 = 0) :
    encF (decF shape s).1 = (s, 0) ∧ (∀ x ∈ (decF shape s).1, x.ok) ∧ (decF shape s).1.length ≤ 1000 := by
  unfold decF at *
  by_cases h1 : shapeOk shape = true
  · rw [if_pos h1] at h ⊢
    obtain ⟨ha, hb⟩ := shapeOk_parts shape h1
    obtain ⟨g1, g2, g3⟩ := readF_again _ _ 0 _ s hb ha (by omega) (by split <;> omega) h
    refine ⟨?_, fun x hx => (g2 x hx).2, by omega⟩
    unfold encF
    rw [if_neg (by omega), if_pos ((firstFault_zero _).2 fun x hx => (g2 x hx).1), ← g1]
  · rw [if_neg h1] at h; simp at h
end Go.Proofs.Ytfcpclpaalekiaa.K
namespace Go.Proofs.Ytfcpclpaalekiaa.K
end Go.Proofs.Ytfcpclpaalekiaa.K
namespace Go.Proofs.Ytfcpclpaalekiaa.K
theorem indexByte_hit (A G : List UInt8) (c : UInt8) (h : ∀ x ∈ A, x ≠ c) : Lib.indexByte (A ++ c :: G) c = A.length := by
  induction A with
  | nil => simp [Lib.indexByte]
  | cons b A ih =>
    have h1 : (b == c) = false := by simpa using h b (by simp)
    have h2 := ih fun x hx => h x (by simp [hx])
    rw [List.cons_append]
    simp only [Lib.indexByte, h1, h2]
    have h3 : ((A.length : Int) == -1) = false := by rw [beq_eq_false_iff_ne]; omega
    simp [h3]
theorem cutStar_hit (A G : List UInt8) (h : ∀ x ∈ A, x ≠ 42) : cutStar (A ++ 42 :: G) = (A, G, true) := by
  unfold cutStar
  rw [indexByte_hit A G 42 h, if_neg (by omega)]
  simp
theorem itemF_nil (c : UInt8) : (itemF c []).2.2 = 2 := by
  unfold itemF
  have : 1 ≤ widthN (kindOfL c) := by
    unfold widthN
    split
    · omega
    · split <;> omega
  rw [if_pos (by simp; omega)]
theorem star_read (G : List UInt8) (hG : G ≠ []) (hGl : allL G = true) (f' : Nat) : ∀ (f m k : Nat) (todo rest : List UInt8), allL todo = true →
    2 * rest.length + 1 < f → 2 * rest.length + (if todo = [] then 1 else 0) < f' → (readF f [] m (todo ++ Lib.repeatL G k) rest).2 = 0 →
    readF f' G m todo rest = readF f [] m (todo ++ Lib.repeatL G k) rest := by
  induction f' with
  | zero => intro f m k todo rest _ _ h; omega
  | succ f' ih =>
    intro f m k todo rest ht hf hf' h
    obtain ⟨g, rfl⟩ : ∃ g, f = g + 1 := ⟨f - 1, by omega⟩
    cases todo with
    | cons c t =>
      obtain ⟨hc, ht⟩ := allL_cons c t ht
      rw [List.cons_append] at h ⊢
      rw [readF] at h ⊢
      rw [readF]
      by_cases h1 : m = 1000
      · rw [if_pos h1] at h; simp at h
      · rw [if_neg h1] at h ⊢
        rw [if_neg h1]
        by_cases h2 : (itemF c rest).2.2 = 0
        · rw [if_pos h2] at h ⊢
          rw [if_pos h2]
          have hl := itemF_less' c rest hc h2
          rw [if_neg (by simp)] at hf'
          by_cases h3 : (readF g [] (m + 1) (t ++ Lib.repeatL G k) (itemF c rest).2.1).2 = 0
          · have e := ih g (m + 1) k t (itemF c rest).2.1 ht (by omega) (by split <;> omega) h3
            rw [e]
          · rw [if_neg h3] at h; exact absurd h h3
        · rw [if_neg h2] at h; exact absurd h h2
    | nil =>
      rw [if_pos rfl] at hf'
      rw [List.nil_append] at h ⊢
      cases k with
      | zero =>
        show readF (f' + 1) G m [] rest = readF (g + 1) [] m [] rest
        have h' : (readF (g + 1) [] m [] rest).2 = 0 := h
        rw [readF] at h' ⊢
        rw [readF]
        by_cases h1 : rest = []
        · rw [if_pos h1, if_pos h1]
        · rw [if_neg h1, if_pos rfl] at h'; simp at h'
      | succ k =>
        have e : Lib.repeatL G (k + 1) = G ++ Lib.repeatL G k := rfl
        rw [e] at h ⊢
        rw [readF]
        by_cases h1 : rest = []
        · subst h1
          obtain ⟨c, t, hct⟩ : ∃ c t, G = c :: t := by
            cases G with
            | nil => exact absurd rfl hG
            | cons c t => exact ⟨c, t, rfl⟩
          rw [hct, List.cons_append, readF] at h
          by_cases h2 : m = 1000
          · rw [if_pos h2] at h; simp at h
          · rw [if_neg h2, if_neg (by rw [itemF_nil]; decide)] at h
            exact absurd h (by rw [itemF_nil]; decide)
        · rw [if_neg h1, if_neg hG]
          exact ih (g + 1) m k G rest hGl hf (by rw [if_neg hG]; omega) h
theorem allL_append' (a b : List UInt8) : allL (a ++ b) = (allL a && allL b) := by simp [allL]
theorem repeatL_star (G : List UInt8) (k : Nat) (h : ∀ x ∈ G, x ≠ 42) : ∀ x ∈ Lib.repeatL G k, x ≠ 42 := by
  induction k with
  | zero => simp [Lib.repeatL]
  | succ k ih =>
    intro x hx
    have e : Lib.repeatL G (k + 1) = G ++ Lib.repeatL G k := rfl
    rw [e] at hx
    rcases List.mem_append.1 hx with hx | hx
    · exact h x hx
    · exact ih x hx
theorem star_pure (A G s : List UInt8) (k : Nat) (hA : ∀ x ∈ A, x ≠ 42) (hG : ∀ x ∈ G, x ≠ 42) (hne : G ≠ []) (hno : (decF G []).2 ≠ 1) (h : (decF (A ++ Lib.repeatL G k) s).2 = 0) :
    decF (A ++ 42 :: G) s = decF (A ++ Lib.repeatL G k) s := by
  have hGl : allL G = true := by
    unfold decF at hno
    by_cases h1 : shapeOk G = true
    · have := (shapeOk_parts G h1).1
      rwa [cutStar_letters G hG] at this
    · rw [if_neg h1] at hno; exact absurd rfl hno
  have hAll : ∀ x ∈ A ++ Lib.repeatL G k, x ≠ 42 := by
    intro x hx
    rcases List.mem_append.1 hx with hx | hx
    · exact hA x hx
    · exact repeatL_star G k hG x hx
  unfold decF at h ⊢
  by_cases h1 : shapeOk (A ++ Lib.repeatL G k) = true
  · rw [if_pos h1] at h ⊢
    have hl := (shapeOk_parts _ h1).1
    rw [cutStar_letters _ hAll] at hl h ⊢
    have hAl : allL A = true := by
      rw [allL_append'] at hl
      simp at hl
      exact hl.1
    have h2 : shapeOk (A ++ 42 :: G) = true := by
      unfold shapeOk
      rw [cutStar_hit A G hA]
      have e : G.isEmpty = false := by cases G with
        | nil => exact absurd rfl hne
        | cons c t => rfl
      simp [hAl, hGl, e]
    rw [if_pos h2, cutStar_hit A G hA]
    exact star_read G hne hGl (2 * s.length + 2) (2 * s.length + 2) 0 k A s hAl (by omega) (by split <;> omega) h
  · rw [if_neg h1] at h; simp at h
end Go.Proofs.Ytfcpclpaalekiaa.K
namespace Go.Proofs.Ytfcpclpaalekiaa
def memItems (m : MB) : List K.It := [⟨1, m.node, ⟨#[]⟩⟩, ⟨3, m.life, ⟨#[]⟩⟩]
def itemsV (v : VW) : List K.It := ⟨3, v.num, ⟨#[]⟩⟩ :: v.mem.flatMap memItems
def codeV (v : VW) : List UInt8 := (itemsV v).flatMap K.itemB
def pairsOf : List K.It → List MB
  | a :: b :: l => ⟨a.n, b.n⟩ :: pairsOf l
  | _ => []
def viewOf : List K.It → VW
  | a :: l => ⟨a.n, pairsOf l⟩
  | [] => ⟨0, []⟩
def shapeV : List UInt8 := [108, 42, 98, 108]
def decV (s : List UInt8) : VW × Int :=
  if (K.decF shapeV s).2 ≠ 0 then (⟨0, []⟩, (K.decF shapeV s).2) else if (viewOf (K.decF shapeV s).1).right then (viewOf (K.decF shapeV s).1, 0) else (⟨0, []⟩, 10)
theorem pairs_items (L : List MB) : pairsOf (L.flatMap memItems) = L := by
  induction L with
  | nil => rfl
  | cons m L ih => show ⟨m.node, m.life⟩ :: pairsOf (L.flatMap memItems) = m :: L; rw [ih]
theorem view_items (v : VW) : viewOf (itemsV v) = v := by
  show VW.mk v.num (pairsOf (v.mem.flatMap memItems)) = v
  rw [pairs_items]
theorem mem_right {v : VW} (h : v.right) : ∀ m ∈ v.mem, m.right := (ok_rise h.2.2.2.2).2
theorem fault_num {k : Int} {n : Int} (hk : k = 1 ∨ k = 3) (_h0 : 0 ≤ n) (h1 : n < 256 ^ K.widthN k) : K.faultF ⟨k, n, ⟨#[]⟩⟩ = 0 := by
  have k3 : K.kindB 3 = true := by decide
  have k1 : K.kindB 1 = true := by decide
  have z0 : (⟨#[]⟩ : ByteArray).size = 0 := rfl
  unfold K.faultF
  rcases hk with rfl | rfl
  · simp only [k1, z0]
    simp
    omega
  · simp only [k3, z0]
    simp
    omega
theorem itemsV_fault {v : VW} (h : v.right) : ∀ x ∈ itemsV v, K.faultF x = 0 ∧ 0 ≤ x.n := by
  have w3 : (256 : Int) ^ K.widthN 3 = 18446744073709551616 := by decide
  have w1 : (256 : Int) ^ K.widthN 1 = 256 := by decide
  have hbig : big = 9007199254740991 := rfl
  intro x hx
  rcases List.mem_cons.1 hx with rfl | hx
  · have h1 := h.1
    have h2 := h.2.1
    exact ⟨fault_num (.inr rfl) (by omega) (by rw [w3]; omega), by show 0 ≤ v.num; omega⟩
  · obtain ⟨m, hm, hx⟩ := List.mem_flatMap.1 hx
    obtain ⟨r1, r2, r3, r4⟩ := mem_right h m hm
    simp only [memItems, List.mem_cons, List.not_mem_nil, or_false] at hx
    rcases hx with rfl | rfl
    · exact ⟨fault_num (.inl rfl) r1 (by rw [w1]; omega), r1⟩
    · exact ⟨fault_num (.inr rfl) (by omega) (by rw [w3]; omega), by show 0 ≤ m.life; omega⟩
theorem itemsV_len (v : VW) : (itemsV v).length = 1 + 2 * v.mem.length := by
  unfold itemsV
  rw [List.length_cons]
  have : (v.mem.flatMap memItems).length = 2 * v.mem.length := by
    induction v.mem with
    | nil => rfl
    | cons m L ih => rw [List.flatMap_cons, List.length_append, ih, List.length_cons]; simp only [memItems, List.length_cons, List.length_nil]; omega
  omega
theorem encV {v : VW} (h : v.right) : K.encF (itemsV v) = (codeV v, 0) := by
  have hl := h.2.2.2.1
  unfold K.encF
  rw [if_neg (by rw [itemsV_len]; omega), if_pos ((K.firstFault_zero _).2 fun x hx => (itemsV_fault h x hx).1)]
  rfl
theorem shapeV_items (L : List MB) : (L.flatMap memItems).map (fun x => K.letterF x.k) = Lib.repeatL [98, 108] L.length := by
  induction L with
  | nil => rfl
  | cons m L ih =>
    rw [List.flatMap_cons, List.map_append, ih]
    rfl
theorem decV_code {v : VW} (h : v.right) : decV (codeV v) = (v, 0) := by
  have he := encV h
  have hb := K.back_pure (itemsV v) (by rw [he]) fun x hx => (itemsV_fault h x hx).2
  have hs : (K.shapeF (itemsV v)).1 = [108] ++ Lib.repeatL [98, 108] v.mem.length := by
    rw [K.shapeF_ok _ fun x hx => K.fault_kind x (itemsV_fault h x hx).1]
    show K.letterF 3 :: (v.mem.flatMap memItems).map (fun x => K.letterF x.k) = _
    rw [shapeV_items]
    rfl
  have hd : K.decF ([108] ++ Lib.repeatL [98, 108] v.mem.length) (codeV v) = (itemsV v, 0) := by
    have := hb.2
    rw [he, hs] at this
    exact this
  have hstar := K.star_pure [108] [98, 108] (codeV v) v.mem.length (by decide) (by decide) (by decide) (by decide) (by rw [hd])
  have hd2 : K.decF shapeV (codeV v) = (itemsV v, 0) := hstar.trans hd
  unfold decV
  rw [hd2, if_neg (fun e => e rfl)]
  show (if (viewOf (itemsV v)).right then (viewOf (itemsV v), (0 : Int)) else _) = _
  rw [view_items, if_pos h]
theorem readF_kinds (G : List UInt8) (hG : K.allL G = true) (f : Nat) : ∀ (m : Nat) (todo rest : List UInt8), K.allL todo = true → (K.readF f G m todo rest).2 = 0 → 2 * rest.length + (if todo = [] then 1 else 0) < f → ∃ k, (K.readF f G m todo rest).1.map (fun x => K.letterF x.k) = todo ++ Lib.repeatL G k := by
  induction f with
  | zero => intro m todo rest _ _ hf; omega
  | succ f ih =>
    intro m todo rest ht h hf
    cases todo with
    | nil =>
      rw [K.readF] at h ⊢
      by_cases h1 : rest = []
      · rw [if_pos h1]
        exact ⟨0, rfl⟩
      · rw [if_neg h1] at h ⊢
        by_cases h2 : G = []
        · rw [if_pos h2] at h; simp at h
        · rw [if_neg h2] at h ⊢
          rw [if_pos rfl] at hf
          obtain ⟨k, hk⟩ := ih m G rest hG h (by rw [if_neg h2]; omega)
          exact ⟨k + 1, by rw [hk]; rfl⟩
    | cons c t =>
      obtain ⟨hc, ht⟩ := K.allL_cons c t ht
      rw [K.readF] at h ⊢
      by_cases h1 : m = 1000
      · rw [if_pos h1] at h; simp at h
      · rw [if_neg h1] at h ⊢
        by_cases h2 : (K.itemF c rest).2.2 = 0
        · rw [if_pos h2] at h ⊢
          by_cases h3 : (K.readF f G (m + 1) t (K.itemF c rest).2.1).2 = 0
          · rw [if_pos h3]
            have hl := K.itemF_less' c rest hc h2
            rw [if_neg (by simp)] at hf
            obtain ⟨k, hk⟩ := ih (m + 1) t (K.itemF c rest).2.1 ht h3 (by split <;> omega)
            obtain ⟨_, _, _, e4⟩ := K.itemF_inv c rest hc h2
            refine ⟨k, ?_⟩
            show K.letterF (K.itemF c rest).1.k :: _ = c :: (t ++ _)
            rw [hk]
            congr 1
          · rw [if_neg h3] at h; exact absurd h h3
        · rw [if_neg h2] at h; exact absurd h h2
theorem item_num {x : K.It} (h : K.faultF x = 0) {c : UInt8} (hc : K.letterF x.k = c) (hc2 : c = 98 ∨ c = 108) : x = ⟨if c = 98 then 1 else 3, x.n, ⟨#[]⟩⟩ := by
  have hk := K.kind_cases x.k (K.fault_kind x h)
  have hs := K.fault_shape x h
  obtain ⟨k, n, s⟩ := x
  simp only at hk hs hc ⊢
  have hk3 : k = (if c = 98 then 1 else 3) ∧ k ≠ 4 := by
    rcases hk with rfl | rfl | rfl | rfl
    · subst hc; exact ⟨by decide, by decide⟩
    · subst hc; exact absurd hc2 (by decide)
    · subst hc; exact ⟨by decide, by decide⟩
    · subst hc; exact absurd hc2 (by decide)
  rcases hs with ⟨_, e, _⟩ | ⟨e, _⟩
  · rw [K.mk_empty s e, ← hk3.1]
  · exact absurd e hk3.2
theorem items_pairs (l : List K.It) (hf : ∀ x ∈ l, K.faultF x = 0) : ∀ k, l.map (fun x => K.letterF x.k) = Lib.repeatL [98, 108] k → (pairsOf l).flatMap memItems = l := by
  intro k
  induction k generalizing l with
  | zero =>
    intro h
    have e : l = [] := List.map_eq_nil_iff.1 h
    rw [e]
    rfl
  | succ k ih =>
    intro h
    match l, h, hf with
    | [], h, _ => simp [Lib.repeatL] at h
    | [a], h, _ => simp [Lib.repeatL] at h
    | a :: b :: l, h, hf =>
      have h2 : K.letterF a.k :: K.letterF b.k :: l.map (fun x => K.letterF x.k) = 98 :: 108 :: Lib.repeatL [98, 108] k := h
      injection h2 with e1 h2
      injection h2 with e2 h2
      have ha := item_num (hf a (by simp)) e1 (.inl rfl)
      have hb := item_num (hf b (by simp)) e2 (.inr rfl)
      show memItems ⟨a.n, b.n⟩ ++ (pairsOf l).flatMap memItems = _
      rw [ih l (fun x hx => hf x (by simp [hx])) h2]
      simp only [memItems]
      rw [show (⟨1, a.n, ⟨#[]⟩⟩ : K.It) = a from ha.symm, show (⟨3, b.n, ⟨#[]⟩⟩ : K.It) = b from hb.symm]
      rfl
theorem decF_view {s : List UInt8} (h : (K.decF shapeV s).2 = 0) : itemsV (viewOf (K.decF shapeV s).1) = (K.decF shapeV s).1 ∧ codeV (viewOf (K.decF shapeV s).1) = s ∧ (∀ x ∈ (K.decF shapeV s).1, x.ok) ∧ (K.decF shapeV s).1.length ≤ 1000 ∧ ∃ a l, (K.decF shapeV s).1 = a :: l := by
  obtain ⟨h1, h2, h3⟩ := K.again_pure shapeV s h
  have hf := (K.encF_zero _ (by rw [h1])).2.1
  have hs : K.shapeOk shapeV = true := by decide
  have hc : K.cutStar shapeV = ([108], [98, 108], true) := by decide
  have hd : K.decF shapeV s = K.readF (2 * s.length + 2) [98, 108] 0 [108] s := by
    unfold K.decF
    rw [if_pos hs, hc]
  obtain ⟨k, hk⟩ := readF_kinds [98, 108] (by decide) (2 * s.length + 2) 0 [108] s (by decide) (by rw [← hd]; exact h) (by simp)
  rw [← hd] at hk
  generalize (K.decF shapeV s).1 = its at *
  cases its with
  | nil => simp at hk
  | cons a l =>
    have hk2 : K.letterF a.k :: l.map (fun x => K.letterF x.k) = 108 :: Lib.repeatL [98, 108] k := hk
    injection hk2 with e1 e2
    have ha := item_num (hf a (by simp)) e1 (.inr rfl)
    have e3 := items_pairs l (fun x hx => hf x (by simp [hx])) k e2
    have e4 : itemsV (viewOf (a :: l)) = a :: l := by
      show (⟨3, a.n, ⟨#[]⟩⟩ : K.It) :: (pairsOf l).flatMap memItems = a :: l
      rw [e3]
      congr 1
      exact ha.symm
    refine ⟨e4, ?_, h2, h3, a, l, rfl⟩
    unfold codeV
    rw [e4]
    have := (K.encF_zero _ (by rw [h1])).2.2
    rw [h1] at this
    exact (congrArg Prod.fst this).symm
end Go.Proofs.Ytfcpclpaalekiaa
