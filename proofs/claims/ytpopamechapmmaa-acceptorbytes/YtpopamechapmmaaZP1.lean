/-
  An acceptor's code on lists: written, read.
-/
import Derived.Test.YtpopamechapmmaaZGA
import Derived.Test.YtpopamechapmmaaZA2
namespace Go.Proofs.Ytpopamechapmmaa

def AC.zero : AC := ⟨⟨0, 0⟩, ⟨0, 0⟩, ⟨#[]⟩⟩
def itemsA (a : AC) : List K.It := [⟨3, a.p.r, ⟨#[]⟩⟩, ⟨1, a.p.n, ⟨#[]⟩⟩, ⟨3, a.t.r, ⟨#[]⟩⟩, ⟨1, a.t.n, ⟨#[]⟩⟩, ⟨4, 0, a.v⟩]
def codeA (a : AC) : List UInt8 := (itemsA a).flatMap K.itemB
theorem may_bounds {b : BL} (h : b.may = true) : 0 ≤ b.r ∧ b.r ≤ 9007199254740991 ∧ 0 ≤ b.n ∧ b.n < 7 := by
  unfold BL.may BL.right BL.none at h
  rcases Bool.or_eq_true_iff.1 h with h | h
  · have := of_decide_eq_true h; omega
  · have := of_decide_eq_true h; omega
theorem right_bounds {a : AC} (h : a.right = true) : (0 ≤ a.p.r ∧ a.p.r ≤ 9007199254740991 ∧ 0 ≤ a.p.n ∧ a.p.n < 7) ∧ (0 ≤ a.t.r ∧ a.t.r ≤ 9007199254740991 ∧ 0 ≤ a.t.n ∧ a.t.n < 7) ∧ a.v.size ≤ 100000 := by
  unfold AC.right at h
  simp only [Bool.and_eq_true] at h
  obtain ⟨⟨⟨h1, h2⟩, _⟩, h3, _⟩ := h
  exact ⟨may_bounds h1, may_bounds h2, of_decide_eq_true h3⟩
theorem itemsA_fault {a : AC} (h : a.right = true) : ∀ x ∈ itemsA a, K.faultF x = 0 ∧ 0 ≤ x.n := by
  obtain ⟨⟨h1, h2, h3, h4⟩, ⟨h5, h6, h7, h8⟩, h9⟩ := right_bounds h
  intro x hx
  simp only [itemsA, List.mem_cons, List.not_mem_nil, or_false] at hx
  have w3 : (256 : Int) ^ K.widthN 3 = 18446744073709551616 := by decide
  have w1 : (256 : Int) ^ K.widthN 1 = 256 := by decide
  have k3 : K.kindB 3 = true := by decide
  have k1 : K.kindB 1 = true := by decide
  have k4 : K.kindB 4 = true := by decide
  have z0 : (⟨#[]⟩ : ByteArray).size = 0 := rfl
  rcases hx with rfl | rfl | rfl | rfl | rfl
  · refine ⟨?_, h1⟩
    unfold K.faultF
    simp only [k3, z0, w3]
    simp
    omega
  · refine ⟨?_, h3⟩
    unfold K.faultF
    simp only [k1, z0, w1]
    simp
    omega
  · refine ⟨?_, h5⟩
    unfold K.faultF
    simp only [k3, z0, w3]
    simp
    omega
  · refine ⟨?_, h7⟩
    unfold K.faultF
    simp only [k1, z0, w1]
    simp
    omega
  · refine ⟨?_, Int.le_refl _⟩
    unfold K.faultF
    simp only [k4]
    simp
    omega
theorem encA {a : AC} (h : a.right = true) : K.encF (itemsA a) = (codeA a, 0) := by
  unfold K.encF
  rw [if_neg (by simp [itemsA]), if_pos ((K.firstFault_zero _).2 fun x hx => (itemsA_fault h x hx).1)]
  rfl
theorem itemB_len (x : K.It) : (K.itemB x).length = K.widthN x.k + x.s.size := by
  unfold K.itemB
  rw [List.length_append, Lib.beBytes_length]
  simp
theorem codeA_len (a : AC) : (codeA a).length = 22 + a.v.size := by
  simp only [codeA, itemsA, List.flatMap_cons, List.flatMap_nil, List.length_append, List.length_nil, itemB_len]
  have z0 : (⟨#[]⟩ : ByteArray).size = 0 := rfl
  have w3 : K.widthN 3 = 8 := by decide
  have w1 : K.widthN 1 = 1 := by decide
  have w4 : K.widthN 4 = 4 := by decide
  simp only [z0, w1, w3, w4]
  omega
theorem codeA_le {a : AC} (h : a.right = true) : (codeA a).length ≤ 100022 := by
  obtain ⟨_, _, h9⟩ := right_bounds h
  rw [codeA_len]
  omega
def shapeA : List UInt8 := [108, 98, 108, 98, 116]
def accOf : List K.It → AC
  | [a, b, c, d, e] => ⟨⟨a.n, b.n⟩, ⟨c.n, d.n⟩, e.s⟩
  | _ => AC.zero
/-- Decode: the acceptor, the fault. -/
def decA (s : List UInt8) : AC × Int :=
  if (K.decF shapeA s).2 = 0 then if (accOf (K.decF shapeA s).1).right = true then (accOf (K.decF shapeA s).1, 0) else (AC.zero, 10) else (AC.zero, (K.decF shapeA s).2)
theorem readF_len (todo : List UInt8) (f m : Nat) (rest : List UInt8) (ht : K.allL todo = true) (hf : rest.length < f) (h : (K.readF f [] m todo rest).2 = 0) : (K.readF f [] m todo rest).1.length = todo.length := by
  induction todo generalizing f m rest with
  | nil =>
    cases f with
    | zero => omega
    | succ f =>
      simp only [K.readF] at h ⊢
      split
      · rfl
      · rename_i hne
        rw [if_neg hne] at h
        simp at h
  | cons c t ih =>
    cases f with
    | zero => omega
    | succ f =>
      obtain ⟨hc, ht2⟩ := K.allL_cons c t ht
      simp only [K.readF] at h ⊢
      split
      · rename_i hm
        rw [if_pos hm] at h
        simp at h
      · rename_i hm
        rw [if_neg hm] at h
        split
        · rename_i hi
          rw [if_pos hi] at h
          have hl := K.itemF_less' c rest hc hi
          split
          · rename_i hr
            have := ih f (m + 1) (K.itemF c rest).2.1 ht2 (by omega) hr
            simp [this]
          · rename_i hr
            rw [if_neg hr] at h
            exact absurd h hr
        · rename_i hi
          rw [if_neg hi] at h
          exact absurd h hi
theorem cut_shapeA : K.cutStar shapeA = (shapeA, [], false) := by decide
theorem ok_shapeA : K.shapeOk shapeA = true := by decide
theorem decF_A (body : List UInt8) : K.decF shapeA body = K.readF (2 * body.length + 2) [] 0 shapeA body := by
  unfold K.decF
  rw [if_pos ok_shapeA, cut_shapeA]
theorem dec_five (body : List UInt8) (h : (K.decF shapeA body).2 = 0) : ∃ a b c d e, (K.decF shapeA body).1 = [a, b, c, d, e] := by
  rw [decF_A] at h ⊢
  have h5 := readF_len shapeA _ 0 body (by decide) (by omega) h
  generalize (K.readF (2 * body.length + 2) [] 0 shapeA body).1 = l at h5
  match l, h5 with
  | [a, b, c, d, e], _ => exact ⟨a, b, c, d, e, rfl⟩
theorem shape_itemsA (a : AC) : K.shapeF (itemsA a) = (shapeA, 0) := by
  unfold K.shapeF
  rw [if_pos (by simp only [itemsA, List.all_cons, List.all_nil]; decide)]
  simp only [itemsA, List.map_cons, List.map_nil]
  rfl
theorem decF_code {a : AC} (h : a.right = true) : K.decF shapeA (codeA a) = (itemsA a, 0) := by
  have e := K.back_pure (itemsA a) (by rw [encA h]) fun x hx => (itemsA_fault h x hx).2
  rw [shape_itemsA, encA h] at e
  exact e.2
theorem decA_code {a : AC} (h : a.right = true) : decA (codeA a) = (a, 0) := by
  unfold decA
  rw [decF_code h, if_pos rfl]
  have e3 : accOf (itemsA a) = a := rfl
  simp only [e3]
  rw [if_pos h]
def okFor (c : UInt8) (x : K.It) : Prop := (K.kindOfL c = 4 ∧ ∃ s, x = ⟨4, 0, s⟩) ∨ (K.kindOfL c ≠ 4 ∧ ∃ n, x = ⟨K.kindOfL c, n, ⟨#[]⟩⟩)
theorem itemF_okFor (c : UInt8) (s : List UInt8) (h : (K.itemF c s).2.2 = 0) : okFor c (K.itemF c s).1 := by
  unfold K.itemF at *
  by_cases h1 : s.length < K.widthN (K.kindOfL c)
  · rw [if_pos h1] at h; simp at h
  · rw [if_neg h1] at h ⊢
    by_cases h2 : K.kindOfL c = 4
    · rw [if_pos h2] at h ⊢
      by_cases h3 : 100000 < Lib.beNat (s.take 4)
      · rw [if_pos h3] at h; simp at h
      · rw [if_neg h3] at h ⊢
        by_cases h4 : (s.drop 4).length < Lib.beNat (s.take 4)
        · rw [if_pos h4] at h; simp at h
        · rw [if_neg h4]
          exact .inl ⟨h2, _, rfl⟩
    · rw [if_neg h2]
      exact .inr ⟨h2, _, rfl⟩
def fits : List UInt8 → List K.It → Prop
  | [], [] => True
  | c :: t, x :: l => okFor c x ∧ fits t l
  | _, _ => False
theorem readF_fits (todo : List UInt8) (f m : Nat) (rest : List UInt8) (ht : K.allL todo = true) (hf : rest.length < f) (h : (K.readF f [] m todo rest).2 = 0) : fits todo (K.readF f [] m todo rest).1 := by
  induction todo generalizing f m rest with
  | nil =>
    cases f with
    | zero => omega
    | succ f =>
      simp only [K.readF] at h ⊢
      split
      · trivial
      · rename_i hne
        rw [if_neg hne] at h
        simp at h
  | cons c t ih =>
    cases f with
    | zero => omega
    | succ f =>
      obtain ⟨hc, ht2⟩ := K.allL_cons c t ht
      simp only [K.readF] at h ⊢
      split
      · rename_i hm
        rw [if_pos hm] at h
        simp at h
      · rename_i hm
        rw [if_neg hm] at h
        split
        · rename_i hi
          rw [if_pos hi] at h
          have hl := K.itemF_less' c rest hc hi
          split
          · rename_i hr
            exact ⟨itemF_okFor c rest hi, ih f (m + 1) (K.itemF c rest).2.1 ht2 (by omega) hr⟩
          · rename_i hr
            rw [if_neg hr] at h
            exact absurd h hr
        · rename_i hi
          rw [if_neg hi] at h
          exact absurd h hi
theorem kind_l : K.kindOfL 108 = 3 := by decide
theorem kind_b : K.kindOfL 98 = 1 := by decide
theorem kind_t : K.kindOfL 116 = 4 := by decide
theorem dec_items (body : List UInt8) (h : (K.decF shapeA body).2 = 0) : (K.decF shapeA body).1 = itemsA (accOf (K.decF shapeA body).1) := by
  obtain ⟨a, b, c, d, e, h5⟩ := dec_five _ h
  have hf : fits shapeA (K.decF shapeA body).1 := by
    rw [decF_A] at h ⊢
    exact readF_fits shapeA _ 0 body (by decide) (by omega) h
  rw [h5] at hf ⊢
  obtain ⟨ha, hb, hc, hd, he, _⟩ := hf
  have key : ∀ x, okFor 108 x → x = ⟨3, x.n, ⟨#[]⟩⟩ := fun x hx => by
    rcases hx with ⟨h1, _⟩ | ⟨_, n, rfl⟩
    · rw [kind_l] at h1; cases h1
    · rw [kind_l]
  have keb : ∀ x, okFor 98 x → x = ⟨1, x.n, ⟨#[]⟩⟩ := fun x hx => by
    rcases hx with ⟨h1, _⟩ | ⟨_, n, rfl⟩
    · rw [kind_b] at h1; cases h1
    · rw [kind_b]
  have ke : e = ⟨4, 0, e.s⟩ := by
    rcases he with ⟨_, s, rfl⟩ | ⟨h1, _⟩
    · rfl
    · exact absurd kind_t h1
  show [a, b, c, d, e] = [⟨3, a.n, ⟨#[]⟩⟩, ⟨1, b.n, ⟨#[]⟩⟩, ⟨3, c.n, ⟨#[]⟩⟩, ⟨1, d.n, ⟨#[]⟩⟩, ⟨4, 0, e.s⟩]
  rw [← key a ha, ← keb b hb, ← key c hc, ← keb d hd, ← ke]
/-- What is read is written as it stood. -/
theorem decA_back {s : List UInt8} (h : (decA s).2 = 0) : (decA s).1.right = true ∧ codeA (decA s).1 = s := by
  unfold decA at *
  by_cases hd : (K.decF shapeA s).2 = 0
  · rw [if_pos hd] at h ⊢
    by_cases hr : (accOf (K.decF shapeA s).1).right = true
    · rw [if_pos hr]
      refine ⟨hr, ?_⟩
      have h6 := (K.again_pure shapeA s hd).1
      rw [dec_items s hd, encA hr] at h6
      exact congrArg Prod.fst h6
    · rw [if_neg hr] at h; cases h
  · rw [if_neg hd] at h; exact absurd h hd
theorem decA_bad {s : List UInt8} (h : (decA s).2 ≠ 0) : (decA s).1 = AC.zero := by
  unfold decA at *
  by_cases hd : (K.decF shapeA s).2 = 0
  · rw [if_pos hd] at h ⊢
    by_cases hr : (accOf (K.decF shapeA s).1).right = true
    · rw [if_pos hr] at h; exact absurd rfl h
    · rw [if_neg hr]
  · rw [if_neg hd]
end Go.Proofs.Ytpopamechapmmaa
