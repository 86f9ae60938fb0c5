/-
  What a text that Decode takes looks like: its items, one behind the other.
-/
import Derived.Test.YtfoomgdlbkjaeaaGreatZKAppI
import Derived.Lib.Repeat
import Derived.Test.YtfoomgdlbkjaeaaGreatZUV
namespace Go.Proofs.YtfoomgdlbkjaeaaGreat.K
theorem letter_cases (c : UInt8) (h : isLetter c = true) : c = 98 ∨ c = 119 ∨ c = 108 ∨ c = 116 := by
  by_cases h1 : c = 98
  · exact Or.inl h1
  by_cases h2 : c = 119
  · exact Or.inr (Or.inl h2)
  by_cases h3 : c = 108
  · exact Or.inr (Or.inr (Or.inl h3))
  by_cases h4 : c = 116
  · exact Or.inr (Or.inr (Or.inr h4))
  have e := indexByte_none letters c (by
    intro x hx
    simp [letters] at hx
    rcases hx with rfl | rfl | rfl | rfl
    · exact fun e => h1 e.symm
    · exact fun e => h2 e.symm
    · exact fun e => h3 e.symm
    · exact fun e => h4 e.symm)
  unfold isLetter at h
  rw [e] at h
  simp at h
theorem letter_back (c : UInt8) (h : isLetter c = true) : letterF (kindOfL c) = c ∧ kindB (kindOfL c) = true := by
  rcases letter_cases c h with rfl | rfl | rfl | rfl <;> exact ⟨rfl, rfl⟩
theorem widthN_le' (k : Int) : widthN k ≤ 8 := by
  unfold widthN
  split
  · omega
  · split <;> omega
theorem pow_le8 (z : Nat) (h : z ≤ 8) : 256 ^ z ≤ 18446744073709551616 := by
  have : 256 ^ z ≤ 256 ^ 8 := Nat.pow_le_pow_right (by omega) h
  omega
theorem itemF_inv (c : UInt8) (s : List UInt8) (hc : isLetter c = true) (h : (itemF c s).2.2 = 0) :
    s = itemB (itemF c s).1 ++ (itemF c s).2.1 ∧ faultF (itemF c s).1 = 0 ∧ (itemF c s).1.ok ∧ letterF (itemF c s).1.k = c := by
  obtain ⟨hb, hk⟩ := letter_back c hc
  have hz := widthN_le' (kindOfL c)
  unfold itemF at *
  by_cases h1 : s.length < widthN (kindOfL c)
  · rw [if_pos h1] at h; simp at h
  · rw [if_neg h1] at h ⊢
    by_cases h2 : kindOfL c = 4
    · rw [if_pos h2] at h ⊢
      rw [h2] at h1 hb
      have w4 : widthN 4 = 4 := rfl
      rw [w4] at h1
      by_cases h3 : 100000 < Lib.beNat (s.take 4)
      · rw [if_pos h3] at h; simp at h
      · rw [if_neg h3] at h ⊢
        by_cases h4 : (s.drop 4).length < Lib.beNat (s.take 4)
        · rw [if_pos h4] at h; simp at h
        · rw [if_neg h4]
          have ht : (s.take 4).length = 4 := by rw [List.length_take]; omega
          generalize hN : Lib.beNat (s.take 4) = N at *
          have hl : ((s.drop 4).take N).length = N := by rw [List.length_take]; omega
          have hsz : (⟨((s.drop 4).take N).toArray⟩ : ByteArray).size = N := by
            show ((s.drop 4).take N).toArray.size = N
            rw [List.size_toArray]; exact hl
          refine ⟨?_, ?_, ?_, hb⟩
          · unfold itemB numOf
            rw [if_pos rfl, hsz, w4, ← hN, beBytes_beNat 4 _ ht, hN]
            simp only [List.append_assoc]
            show s = s.take 4 ++ ((s.drop 4).take N ++ (s.drop 4).drop N)
            rw [List.take_append_drop, List.take_append_drop]
          · unfold faultF
            rw [hsz]
            simp [kindB]
            omega
          · unfold It.ok
            rw [hsz]
            simp
            omega
    · rw [if_neg h2] at h ⊢
      have ht : (s.take (widthN (kindOfL c))).length = widthN (kindOfL c) := by rw [List.length_take]; omega
      have hlt := beNat_lt (s.take (widthN (kindOfL c)))
      rw [ht] at hlt
      have h8 := pow_le8 _ hz
      refine ⟨?_, ?_, ?_, hb⟩
      · unfold itemB numOf
        rw [if_neg h2, Int.toNat_natCast, beBytes_beNat _ _ ht]
        show s = s.take (widthN (kindOfL c)) ++ [] ++ s.drop (widthN (kindOfL c))
        rw [List.append_nil, List.take_append_drop]
      · have e : ((256 ^ widthN (kindOfL c) : Nat) : Int) = (256 : Int) ^ widthN (kindOfL c) := Int.natCast_pow 256 _
        have hlt' : ((Lib.beNat (s.take (widthN (kindOfL c))) : Nat) : Int) < (256 : Int) ^ widthN (kindOfL c) := by rw [← e]; omega
        have hsz : (⟨#[]⟩ : ByteArray).size = 0 := rfl
        unfold faultF
        simp only [hk, h2, hsz, hlt', Bool.true_eq_false, if_false, ne_eq, not_true, not_false_iff, or_false, and_false, false_and]
        rfl
      · have k1 : 1 ≤ kindOfL c ∧ kindOfL c ≤ 4 := by simpa [kindB] using hk
        unfold It.ok
        refine ⟨by simp only; omega, by simp only; omega, by simp only; omega, by simp only; omega, Nat.zero_le _⟩
theorem allL_cons (c : UInt8) (t : List UInt8) (h : allL (c :: t) = true) : isLetter c = true ∧ allL t = true := by
  simpa [allL] using h
theorem itemF_less' (c : UInt8) (s : List UInt8) (hc : isLetter c = true) (h : (itemF c s).2.2 = 0) : (itemF c s).2.1.length < s.length := by
  have h1 := congrArg List.length (itemF_inv c s hc h).1
  have h2 := itemB_pos (itemF c s).1
  rw [List.length_append] at h1
  omega
theorem readF_again (f : Nat) (again : List UInt8) (m : Nat) (todo rest : List UInt8) (ha : allL again = true) (ht : allL todo = true) (hm : m ≤ 1000)
    (hf : 2 * rest.length + (if todo = [] then 1 else 0) < f) (h : (readF f again m todo rest).2 = 0) :
    rest = (readF f again m todo rest).1.flatMap itemB ∧ (∀ x ∈ (readF f again m todo rest).1, faultF x = 0 ∧ x.ok) ∧ m + (readF f again m todo rest).1.length ≤ 1000 := by
  induction f generalizing m todo rest with
  | zero => omega
  | succ f ih =>
    cases todo with
    | nil =>
      rw [readF] at h ⊢
      by_cases h1 : rest = []
      · subst h1
        rw [if_pos rfl]
        exact ⟨rfl, by simp, by simpa using hm⟩
      · rw [if_neg h1] at h ⊢
        by_cases h2 : again = []
        · rw [if_pos h2] at h; simp at h
        · rw [if_neg h2] at h ⊢
          rw [if_pos rfl] at hf
          exact ih m again rest ha hm (by rw [if_neg h2]; omega) h
    | cons c t =>
      obtain ⟨hc, ht⟩ := allL_cons c t ht
      rw [readF] at h ⊢
      by_cases h1 : m = 1000
      · rw [if_pos h1] at h; simp at h
      · rw [if_neg h1] at h ⊢
        by_cases h2 : (itemF c rest).2.2 = 0
        · rw [if_pos h2] at h ⊢
          by_cases h3 : (readF f again (m + 1) t (itemF c rest).2.1).2 = 0
          · rw [if_pos h3]
            have hl := itemF_less' c rest hc h2
            rw [if_neg (by simp)] at hf
            obtain ⟨g1, g2, g3⟩ := ih (m + 1) t (itemF c rest).2.1 ht (by omega) (by split <;> omega) h3
            obtain ⟨e1, e2, e3, _⟩ := itemF_inv c rest hc h2
            refine ⟨?_, ?_, ?_⟩
            · show rest = List.flatMap itemB ((itemF c rest).1 :: _)
              rw [List.flatMap_cons, ← g1]
              exact e1
            · intro x hx
              rcases List.mem_cons.1 hx with rfl | hx
              · exact ⟨e2, e3⟩
              · exact g2 x hx
            · show m + (List.length ((itemF c rest).1 :: _)) ≤ 1000
              rw [List.length_cons]
              omega
          · rw [if_neg h3] at h; exact absurd h h3
        · rw [if_neg h2] at h; exact absurd h h2
theorem shapeOk_parts (s : List UInt8) (h : shapeOk s = true) : allL (cutStar s).1 = true ∧ allL (cutStar s).2.1 = true := by
  unfold shapeOk at h
  simp only [Bool.and_eq_true] at h
  exact h.2
theorem again_pure (shape s : List UInt8) (h : (decF shape s).2 = 0) :
    encF (decF shape s).1 = (s, 0) ∧ (∀ x ∈ (decF shape s).1, x.ok) ∧ (decF shape s).1.length ≤ 1000 := by
  unfold decF at *
  by_cases h1 : shapeOk shape = true
  · rw [if_pos h1] at h ⊢
    obtain ⟨ha, hb⟩ := shapeOk_parts shape h1
    obtain ⟨g1, g2, g3⟩ := readF_again _ _ 0 _ s hb ha (by omega) (by split <;> omega) h
    refine ⟨?_, fun x hx => (g2 x hx).2, by omega⟩
    unfold encF
    rw [if_neg (by omega), if_pos ((firstFault_zero _).2 fun x hx => (g2 x hx).1), ← g1]
  · rw [if_neg h1] at h; simp at h
end Go.Proofs.YtfoomgdlbkjaeaaGreat.K
namespace Go.Proofs.YtfoomgdlbkjaeaaGreat.K
end Go.Proofs.YtfoomgdlbkjaeaaGreat.K
namespace Go.Proofs.YtfoomgdlbkjaeaaGreat.K
theorem indexByte_hit (A G : List UInt8) (c : UInt8) (h : ∀ x ∈ A, x ≠ c) : Lib.indexByte (A ++ c :: G) c = A.length := by
  induction A with
  | nil => simp [Lib.indexByte]
  | cons b A ih =>
    have h1 : (b == c) = false := by simpa using h b (by simp)
    have h2 := ih fun x hx => h x (by simp [hx])
    rw [List.cons_append]
    simp only [Lib.indexByte, h1, h2]
    have h3 : ((A.length : Int) == -1) = false := by rw [beq_eq_false_iff_ne]; omega
    simp [h3]
theorem cutStar_hit (A G : List UInt8) (h : ∀ x ∈ A, x ≠ 42) : cutStar (A ++ 42 :: G) = (A, G, true) := by
  unfold cutStar
  rw [indexByte_hit A G 42 h, if_neg (by omega)]
  simp
theorem itemF_nil (c : UInt8) : (itemF c []).2.2 = 2 := by
  unfold itemF
  have : 1 ≤ widthN (kindOfL c) := by
    unfold widthN
    split
    · omega
    · split <;> omega
  rw [if_pos (by simp; omega)]
theorem star_read (G : List UInt8) (hG : G ≠ []) (hGl : allL G = true) (f' : Nat) : ∀ (f m k : Nat) (todo rest : List UInt8), allL todo = true →
    2 * rest.length + 1 < f → 2 * rest.length + (if todo = [] then 1 else 0) < f' → (readF f [] m (todo ++ Lib.repeatL G k) rest).2 = 0 →
    readF f' G m todo rest = readF f [] m (todo ++ Lib.repeatL G k) rest := by
  induction f' with
  | zero => intro f m k todo rest _ _ h; omega
  | succ f' ih =>
    intro f m k todo rest ht hf hf' h
    obtain ⟨g, rfl⟩ : ∃ g, f = g + 1 := ⟨f - 1, by omega⟩
    cases todo with
    | cons c t =>
      obtain ⟨hc, ht⟩ := allL_cons c t ht
      rw [List.cons_append] at h ⊢
      rw [readF] at h ⊢
      rw [readF]
      by_cases h1 : m = 1000
      · rw [if_pos h1] at h; simp at h
      · rw [if_neg h1] at h ⊢
        rw [if_neg h1]
        by_cases h2 : (itemF c rest).2.2 = 0
        · rw [if_pos h2] at h ⊢
          rw [if_pos h2]
          have hl := itemF_less' c rest hc h2
          rw [if_neg (by simp)] at hf'
          by_cases h3 : (readF g [] (m + 1) (t ++ Lib.repeatL G k) (itemF c rest).2.1).2 = 0
          · have e := ih g (m + 1) k t (itemF c rest).2.1 ht (by omega) (by split <;> omega) h3
            rw [e]
          · rw [if_neg h3] at h; exact absurd h h3
        · rw [if_neg h2] at h; exact absurd h h2
    | nil =>
      rw [if_pos rfl] at hf'
      rw [List.nil_append] at h ⊢
      cases k with
      | zero =>
        show readF (f' + 1) G m [] rest = readF (g + 1) [] m [] rest
        have h' : (readF (g + 1) [] m [] rest).2 = 0 := h
        rw [readF] at h' ⊢
        rw [readF]
        by_cases h1 : rest = []
        · rw [if_pos h1, if_pos h1]
        · rw [if_neg h1, if_pos rfl] at h'; simp at h'
      | succ k =>
        have e : Lib.repeatL G (k + 1) = G ++ Lib.repeatL G k := rfl
        rw [e] at h ⊢
        rw [readF]
        by_cases h1 : rest = []
        · subst h1
          obtain ⟨c, t, hct⟩ : ∃ c t, G = c :: t := by
            cases G with
            | nil => exact absurd rfl hG
            | cons c t => exact ⟨c, t, rfl⟩
          rw [hct, List.cons_append, readF] at h
          by_cases h2 : m = 1000
          · rw [if_pos h2] at h; simp at h
          · rw [if_neg h2, if_neg (by rw [itemF_nil]; decide)] at h
            exact absurd h (by rw [itemF_nil]; decide)
        · rw [if_neg h1, if_neg hG]
          exact ih (g + 1) m k G rest hGl hf (by rw [if_neg hG]; omega) h
theorem allL_append' (a b : List UInt8) : allL (a ++ b) = (allL a && allL b) := by simp [allL]
theorem repeatL_star (G : List UInt8) (k : Nat) (h : ∀ x ∈ G, x ≠ 42) : ∀ x ∈ Lib.repeatL G k, x ≠ 42 := by
  induction k with
  | zero => simp [Lib.repeatL]
  | succ k ih =>
    intro x hx
    have e : Lib.repeatL G (k + 1) = G ++ Lib.repeatL G k := rfl
    rw [e] at hx
    rcases List.mem_append.1 hx with hx | hx
    · exact h x hx
    · exact ih x hx
theorem star_pure (A G s : List UInt8) (k : Nat) (hA : ∀ x ∈ A, x ≠ 42) (hG : ∀ x ∈ G, x ≠ 42) (hne : G ≠ []) (hno : (decF G []).2 ≠ 1) (h : (decF (A ++ Lib.repeatL G k) s).2 = 0) :
    decF (A ++ 42 :: G) s = decF (A ++ Lib.repeatL G k) s := by
  have hGl : allL G = true := by
    unfold decF at hno
    by_cases h1 : shapeOk G = true
    · have := (shapeOk_parts G h1).1
      rwa [cutStar_letters G hG] at this
    · rw [if_neg h1] at hno; exact absurd rfl hno
  have hAll : ∀ x ∈ A ++ Lib.repeatL G k, x ≠ 42 := by
    intro x hx
    rcases List.mem_append.1 hx with hx | hx
    · exact hA x hx
    · exact repeatL_star G k hG x hx
  unfold decF at h ⊢
  by_cases h1 : shapeOk (A ++ Lib.repeatL G k) = true
  · rw [if_pos h1] at h ⊢
    have hl := (shapeOk_parts _ h1).1
    rw [cutStar_letters _ hAll] at hl h ⊢
    have hAl : allL A = true := by
      rw [allL_append'] at hl
      simp at hl
      exact hl.1
    have h2 : shapeOk (A ++ 42 :: G) = true := by
      unfold shapeOk
      rw [cutStar_hit A G hA]
      have e : G.isEmpty = false := by cases G with
        | nil => exact absurd rfl hne
        | cons c t => rfl
      simp [hAl, hGl, e]
    rw [if_pos h2, cutStar_hit A G hA]
    exact star_read G hne hGl (2 * s.length + 2) (2 * s.length + 2) 0 k A s hAl (by omega) (by split <;> omega) h
  · rw [if_neg h1] at h; simp at h
end Go.Proofs.YtfoomgdlbkjaeaaGreat.K
namespace Go.Proofs.YtfoomgdlbkjaeaaGreat.Y
open Go.RowKit Go.Maps Go.Sort
set_option maxRecDepth 100000
set_option linter.unusedSimpArgs false
set_option linter.unusedVariables false
theorem fWord {n : Int} (_h0 : 0 ≤ n) (h1 : n < 4294967296) : K.faultF ⟨2, n, ⟨#[]⟩⟩ = 0 := by
  have k3 : K.kindB 2 = true := by decide
  have w3 : (256 : Int) ^ K.widthN 2 = 4294967296 := by decide
  have z0 : (⟨#[]⟩ : ByteArray).size = 0 := rfl
  unfold K.faultF
  simp only [k3, z0, w3]
  simp
  omega
theorem iB_len (x : K.It) : (K.itemB x).length = K.widthN x.k + x.s.size := by
  unfold K.itemB
  rw [List.length_append, Lib.beBytes_length]
  simp
structure Fine (l : List K.It) : Prop where
  len : l.length ≤ 1000
  all : ∀ x ∈ l, K.faultF x = 0 ∧ 0 ≤ x.n
theorem fine_enc {l : List K.It} (h : Fine l) : K.encF l = (l.flatMap K.itemB, 0) := by
  have := h.len
  unfold K.encF
  rw [if_neg (by omega), if_pos ((K.firstFault_zero _).2 fun x hx => (h.all x hx).1)]
theorem fine_dec {l : List K.It} (h : Fine l) : K.decF (l.map fun x => K.letterF x.k) (l.flatMap K.itemB) = (l, 0) := by
  have hb := K.back_pure l (by rw [fine_enc h]) fun x hx => (h.all x hx).2
  rw [fine_enc h, K.shapeF_ok _ fun x hx => K.fault_kind x (h.all x hx).1] at hb
  exact hb.2
theorem rep_prods (P : List PU) : (P.flatMap itemsPr).map (fun x => K.letterF x.k) = Lib.repeatL [116, 108, 108] P.length := by
  induction P with
  | nil => rfl
  | cons m L ih => rw [List.flatMap_cons, List.map_append, ih]; rfl
theorem rep_recs (R : List Rec) : (R.flatMap itemsY).map (fun x => K.letterF x.k) = Lib.repeatL [108, 116, 108, 116, 116] R.length := by
  induction R with
  | nil => rfl
  | cons m L ih => rw [List.flatMap_cons, List.map_append, ih]; rfl
section
variable {nm : ByteArray} {lo fi ct : Int} {P : List PU} {R : List Rec}
theorem load_dec (h : Fine (loadItems nm lo fi ct P R)) : K.decF (shapeT P.length) ((loadItems nm lo fi ct P R).flatMap K.itemB) = (loadItems nm lo fi ct P R, 0) := by
  have hd := fine_dec h
  have hs : (loadItems nm lo fi ct P R).map (fun x => K.letterF x.k) = ([116, 108, 108, 108] ++ Lib.repeatL [116, 108, 108] P.length) ++ Lib.repeatL [108, 116, 108, 116, 116] R.length := by
    unfold loadItems
    rw [List.map_append, List.map_append, rep_prods, rep_recs]
    rfl
  rw [hs] at hd
  have hstar := K.star_pure ([116, 108, 108, 108] ++ Lib.repeatL [116, 108, 108] P.length) [108, 116, 108, 116, 116] ((loadItems nm lo fi ct P R).flatMap K.itemB) R.length (fun x hx => by
    rcases List.mem_append.1 hx with hx | hx
    · have h0 : ∀ y ∈ ([116, 108, 108, 108] : List UInt8), y ≠ 42 := by decide
      exact h0 x hx
    · exact K.repeatL_star _ _ (by decide) x hx) (by decide) (by decide) (by decide) (by rw [hd])
  have e : shapeT P.length = ([116, 108, 108, 108] ++ Lib.repeatL [116, 108, 108] P.length) ++ 42 :: [108, 116, 108, 116, 116] := by unfold shapeT; simp
  rw [e, hstar, hd]
theorem head_dec (h : Fine (loadItems nm lo fi ct P R)) : K.decF [116, 108, 108, 108] (((loadItems nm lo fi ct P R).flatMap K.itemB).take (4 + nm.size + 24)) = (itemsHd nm lo fi ct, 0) := by
  have hf : Fine (itemsHd nm lo fi ct) := ⟨by show 4 ≤ 1000; omega, fun x hx => h.all x (by unfold loadItems; simp [hx])⟩
  have hl : ((itemsHd nm lo fi ct).flatMap K.itemB).length = 4 + nm.size + 24 := by
    unfold itemsHd
    simp only [List.flatMap_cons, List.flatMap_nil, List.length_append, List.length_nil, iB_len]
    have w4 : K.widthN 4 = 4 := by decide
    have w3 : K.widthN 3 = 8 := by decide
    have z0 : (⟨#[]⟩ : ByteArray).size = 0 := rfl
    rw [w4, w3, z0]
  have e : ((loadItems nm lo fi ct P R).flatMap K.itemB).take (4 + nm.size + 24) = (itemsHd nm lo fi ct).flatMap K.itemB := by
    unfold loadItems
    rw [List.append_assoc, List.flatMap_append, ← hl, List.take_left]
  rw [e]
  exact fine_dec hf
end
end Go.Proofs.YtfoomgdlbkjaeaaGreat.Y
namespace Go.Proofs.YtfoomgdlbkjaeaaGreat.Y
open Go.RowKit
set_option linter.unusedSimpArgs false
set_option linter.unusedVariables false
open Go.Maps
theorem readF_letters (f : Nat) (again : List UInt8) (m : Nat) (todo rest : List UInt8) (ha : K.allL again = true) (ht : K.allL todo = true)
    (hf : 2 * rest.length + (if todo = [] then 1 else 0) < f) (h : (K.readF f again m todo rest).2 = 0) :
    ∃ k, (K.readF f again m todo rest).1.map (fun x => K.letterF x.k) = todo ++ Lib.repeatL again k := by
  induction f generalizing m todo rest with
  | zero => omega
  | succ f ih =>
    cases todo with
    | nil =>
      rw [K.readF] at h ⊢
      by_cases h1 : rest = []
      · subst h1
        rw [if_pos rfl]
        exact ⟨0, rfl⟩
      · rw [if_neg h1] at h ⊢
        by_cases h2 : again = []
        · rw [if_pos h2] at h; simp at h
        · rw [if_neg h2] at h ⊢
          rw [if_pos rfl] at hf
          obtain ⟨k, hk⟩ := ih m again rest ha (by rw [if_neg h2]; omega) h
          exact ⟨k + 1, hk⟩
    | cons c t =>
      obtain ⟨hc, ht⟩ := K.allL_cons c t ht
      rw [K.readF] at h ⊢
      by_cases h1 : m = 1000
      · rw [if_pos h1] at h; simp at h
      · rw [if_neg h1] at h ⊢
        by_cases h2 : (K.itemF c rest).2.2 = 0
        · rw [if_pos h2] at h ⊢
          by_cases h3 : (K.readF f again (m + 1) t (K.itemF c rest).2.1).2 = 0
          · rw [if_pos h3]
            have hl := K.itemF_less' c rest hc h2
            rw [if_neg (by simp)] at hf
            obtain ⟨k, hk⟩ := ih (m + 1) t (K.itemF c rest).2.1 ht (by split <;> omega) h3
            obtain ⟨_, _, _, e4⟩ := K.itemF_inv c rest hc h2
            refine ⟨k, ?_⟩
            rw [List.map_cons, hk, e4]
            rfl
          · rw [if_neg h3] at h; exact absurd h h3
        · rw [if_neg h2] at h; exact absurd h h2
theorem decF_form (shape s : List UInt8) (h : (K.decF shape s).2 = 0) : ∃ k, (K.decF shape s).1.map (fun x => K.letterF x.k) = (K.cutStar shape).1 ++ Lib.repeatL (K.cutStar shape).2.1 k := by
  unfold K.decF at *
  by_cases h1 : K.shapeOk shape = true
  · rw [if_pos h1] at h ⊢
    obtain ⟨ha, hb⟩ := K.shapeOk_parts shape h1
    exact readF_letters _ _ 0 _ s hb ha (by split <;> omega) h
  · rw [if_neg h1] at h; simp at h
theorem decF_fine (shape s : List UInt8) (h : (K.decF shape s).2 = 0) : Fine (K.decF shape s).1 ∧ s = (K.decF shape s).1.flatMap K.itemB ∧ ∀ x ∈ (K.decF shape s).1, x.ok := by
  have hA := K.again_pure shape s h
  obtain ⟨g1, g2, g3⟩ := hA
  generalize (K.decF shape s).1 = l at g1 g2 g3 ⊢
  unfold K.encF at g1
  rw [if_neg (by omega)] at g1
  by_cases hz : K.firstFault l = 0
  · rw [if_pos hz] at g1
    exact ⟨⟨g3, fun x hx => ⟨(K.firstFault_zero l).1 hz x hx, (g2 x hx).2.2.1⟩⟩, (congrArg Prod.fst g1).symm, g2⟩
  · rw [if_neg hz] at g1
    exact absurd (congrArg Prod.snd g1) hz
theorem item_l {x : K.It} (h : K.faultF x = 0) (hl : K.letterF x.k = 108) : x = ⟨3, x.n, ⟨#[]⟩⟩ := by
  obtain ⟨k, n, s⟩ := x
  have hk := K.fault_kind _ h
  unfold K.kindB at hk
  simp only [Bool.and_eq_true, decide_eq_true_eq] at hk
  simp only at hl
  have h3 : k = 3 := by
    rcases (by omega : k = 1 ∨ k = 2 ∨ k = 3 ∨ k = 4) with rfl | rfl | rfl | rfl
    · exact absurd hl (by decide)
    · exact absurd hl (by decide)
    · rfl
    · exact absurd hl (by decide)
  subst h3
  have hs : s.size = 0 := by
    unfold K.faultF at h
    simp only at h
    rw [if_neg (show ¬ K.kindB (3 : Int) = false from by decide)] at h
    by_cases hz : s.size = 0
    · exact hz
    · rw [if_pos ⟨show (3 : Int) ≠ 4 from by decide, .inl hz⟩] at h
      exact absurd h (by decide)
  have : s = ⟨#[]⟩ := by
    apply ByteArray.ext
    exact Array.eq_empty_of_size_eq_zero hs
  rw [this]
theorem item_t {x : K.It} (h : K.faultF x = 0) (hl : K.letterF x.k = 116) : x = ⟨4, 0, x.s⟩ ∧ x.s.size ≤ 100000 := by
  obtain ⟨k, n, s⟩ := x
  have hk := K.fault_kind _ h
  unfold K.kindB at hk
  simp only [Bool.and_eq_true, decide_eq_true_eq] at hk
  simp only at hl
  have h3 : k = 4 := by
    rcases (by omega : k = 1 ∨ k = 2 ∨ k = 3 ∨ k = 4) with rfl | rfl | rfl | rfl
    · exact absurd hl (by decide)
    · exact absurd hl (by decide)
    · exact absurd hl (by decide)
    · rfl
  subst h3
  unfold K.faultF at h
  simp only at h
  rw [if_neg (show ¬ K.kindB (4 : Int) = false from by decide), if_neg (fun e => e.1 rfl)] at h
  by_cases hz : n = 0
  · subst hz
    rw [if_neg (fun e => e.2 rfl)] at h
    by_cases hs : 100000 < s.size
    · rw [if_pos hs] at h; exact absurd h (by decide)
    · exact ⟨by first | rfl | trivial, by first | (show s.size ≤ _; omega) | (simp; omega)⟩
  · rw [if_pos ⟨True.intro, hz⟩] at h
    exact absurd h (by decide)
theorem item_w {x : K.It} (h : K.faultF x = 0) (h0 : 0 ≤ x.n) (hl : K.letterF x.k = 119) : x = ⟨2, x.n, ⟨#[]⟩⟩ ∧ x.n < 4294967296 := by
  obtain ⟨k, n, s⟩ := x
  have hk := K.fault_kind _ h
  unfold K.kindB at hk
  simp only [Bool.and_eq_true, decide_eq_true_eq] at hk
  simp only at hl h0
  have h3 : k = 2 := by
    rcases (by omega : k = 1 ∨ k = 2 ∨ k = 3 ∨ k = 4) with rfl | rfl | rfl | rfl
    · exact absurd hl (by decide)
    · rfl
    · exact absurd hl (by decide)
    · exact absurd hl (by decide)
  subst h3
  unfold K.faultF at h
  simp only at h
  rw [if_neg (show ¬ K.kindB (2 : Int) = false from by decide)] at h
  have hs : s.size = 0 ∧ n < 4294967296 := by
    by_cases hz : s.size = 0
    · refine ⟨hz, ?_⟩
      by_cases hn : n < 256 ^ K.widthN 2
      · have e : ((256 : Int) ^ K.widthN 2) = 4294967296 := by decide
        rw [e] at hn
        exact hn
      · rw [if_pos ⟨show (2 : Int) ≠ 4 from by decide, .inr hn⟩] at h
        exact absurd h (by decide)
    · rw [if_pos ⟨show (2 : Int) ≠ 4 from by decide, .inl hz⟩] at h
      exact absurd h (by decide)
  have : s = ⟨#[]⟩ := by
    apply ByteArray.ext
    exact Array.eq_empty_of_size_eq_zero hs.1
  rw [this]
  exact ⟨rfl, hs.2⟩
theorem form_prods : ∀ (n : Nat) (l : List K.It) (T : List UInt8), (∀ x ∈ l, K.faultF x = 0) → l.map (fun x => K.letterF x.k) = Lib.repeatL [116, 108, 108] n ++ T → ∃ (P : List PU) (l' : List K.It), P.length = n ∧ l = P.flatMap itemsPr ++ l' ∧ l'.map (fun x => K.letterF x.k) = T
  | 0, l, T, _, h => ⟨[], l, rfl, rfl, h⟩
  | n + 1, l, T, hf, h => by
    have e : Lib.repeatL [116, 108, 108] (n + 1) ++ T = 116 :: 108 :: 108 :: (Lib.repeatL [116, 108, 108] n ++ T) := rfl
    rw [e] at h
    obtain ⟨a, _, rfl, h1, h⟩ := List.map_eq_cons_iff.1 h
    obtain ⟨b, _, rfl, h2, h⟩ := List.map_eq_cons_iff.1 h
    obtain ⟨c, r, rfl, h3, h4⟩ := List.map_eq_cons_iff.1 h
    · obtain ⟨P, l', e1, e2, e3⟩ := form_prods n r T (fun x hx => hf x (by simp [hx])) h4
      have ea := (item_t (hf a (by simp)) h1).1
      have eb := item_l (hf b (by simp)) h2
      have ec := item_l (hf c (by simp)) h3
      refine ⟨⟨a.s, b.n, c.n⟩ :: P, l', by simp [e1], ?_, e3⟩
      rw [List.flatMap_cons, e2]
      unfold itemsPr
      simp only [List.cons_append, List.nil_append]
      rw [← ea, ← eb, ← ec]
theorem form_recs : ∀ (n : Nat) (l : List K.It), (∀ x ∈ l, K.faultF x = 0) → l.map (fun x => K.letterF x.k) = Lib.repeatL [108, 116, 108, 116, 116] n → ∃ R : List Rec, R.length = n ∧ l = R.flatMap itemsY
  | 0, l, _, h => ⟨[], rfl, by
      have h' : l.map (fun x => K.letterF x.k) = [] := h
      rw [List.map_eq_nil_iff] at h'
      rw [h']
      rfl⟩
  | n + 1, l, hf, h => by
    have e : Lib.repeatL [108, 116, 108, 116, 116] (n + 1) = 108 :: 116 :: 108 :: 116 :: 116 :: Lib.repeatL [108, 116, 108, 116, 116] n := rfl
    rw [e] at h
    obtain ⟨a, _, rfl, h1, h⟩ := List.map_eq_cons_iff.1 h
    obtain ⟨b, _, rfl, h2, h⟩ := List.map_eq_cons_iff.1 h
    obtain ⟨c, _, rfl, h3, h⟩ := List.map_eq_cons_iff.1 h
    obtain ⟨d, _, rfl, h4, h⟩ := List.map_eq_cons_iff.1 h
    obtain ⟨f, r, rfl, h5, h6⟩ := List.map_eq_cons_iff.1 h
    · obtain ⟨R, e1, e2⟩ := form_recs n r (fun x hx => hf x (by simp [hx])) h6
      have ea := item_l (hf a (by simp)) h1
      have eb := (item_t (hf b (by simp)) h2).1
      have ec := item_l (hf c (by simp)) h3
      have ed := (item_t (hf d (by simp)) h4).1
      have ef := (item_t (hf f (by simp)) h5).1
      refine ⟨⟨a.n, b.s, c.n, d.s, f.s⟩ :: R, by simp [e1], ?_⟩
      rw [List.flatMap_cons, e2]
      unfold itemsY
      simp only [List.cons_append, List.nil_append]
      rw [← ea, ← eb, ← ec, ← ed, ← ef]
theorem head_form (s : List UInt8) (h : (K.decF [116, 108, 108, 108] s).2 = 0) : ∃ nm lo fi ct, K.decF [116, 108, 108, 108] s = (itemsHd nm lo fi ct, 0) ∧ Fine (itemsHd nm lo fi ct) ∧ nm.size ≤ 100000 := by
  obtain ⟨k, hk⟩ := decF_form _ _ h
  obtain ⟨hF, _, _⟩ := decF_fine _ _ h
  rw [K.cutStar_letters _ (by decide)] at hk
  have hn : ∀ k, Lib.repeatL ([] : List UInt8) k = [] := fun k => by induction k with | zero => rfl | succ k ih => exact ih
  rw [hn k, List.append_nil] at hk
  generalize hR : K.decF [116, 108, 108, 108] s = R at *
  obtain ⟨l, e⟩ := R
  simp only at h hk hF
  subst h
  obtain ⟨a, _, rfl, h1, hk⟩ := List.map_eq_cons_iff.1 hk
  obtain ⟨b, _, rfl, h2, hk⟩ := List.map_eq_cons_iff.1 hk
  obtain ⟨c, _, rfl, h3, hk⟩ := List.map_eq_cons_iff.1 hk
  obtain ⟨d, _, rfl, h4, hk⟩ := List.map_eq_cons_iff.1 hk
  rw [List.map_eq_nil_iff] at hk
  subst hk
  · have ea := item_t (hF.all a (by simp)).1 h1
    have eb := item_l (hF.all b (by simp)).1 h2
    have ec := item_l (hF.all c (by simp)).1 h3
    have ed := item_l (hF.all d (by simp)).1 h4
    have e : [a, b, c, d] = itemsHd a.s b.n c.n d.n := by
      unfold itemsHd
      rw [← ea.1, ← eb, ← ec, ← ed]
    exact ⟨a.s, b.n, c.n, d.n, by rw [e], e ▸ hF, ea.2⟩
theorem load_form (n : Nat) (s : List UInt8) (h : (K.decF (shapeT n) s).2 = 0) : ∃ nm lo fi ct P R, P.length = n ∧ K.decF (shapeT n) s = (loadItems nm lo fi ct P R, 0) ∧ Fine (loadItems nm lo fi ct P R) ∧ s = (loadItems nm lo fi ct P R).flatMap K.itemB := by
  obtain ⟨k, hk⟩ := decF_form _ _ h
  obtain ⟨hF, hs, _⟩ := decF_fine _ _ h
  have e : shapeT n = ([116, 108, 108, 108] ++ Lib.repeatL [116, 108, 108] n) ++ 42 :: [108, 116, 108, 116, 116] := by unfold shapeT; simp
  have hA : ∀ x ∈ [116, 108, 108, 108] ++ Lib.repeatL [116, 108, 108] n, x ≠ (42 : UInt8) := fun x hx => by
    rcases List.mem_append.1 hx with hx | hx
    · have h0 : ∀ y ∈ ([116, 108, 108, 108] : List UInt8), y ≠ 42 := by decide
      exact h0 x hx
    · exact K.repeatL_star _ _ (by decide) x hx
  have hc : K.cutStar (shapeT n) = ([116, 108, 108, 108] ++ Lib.repeatL [116, 108, 108] n, [108, 116, 108, 116, 116], true) := by
    rw [e]
    exact K.cutStar_hit _ _ hA
  rw [hc] at hk
  generalize hR : K.decF (shapeT n) s = R at *
  obtain ⟨l, er⟩ := R
  simp only at h hk hF hs
  subst h
  rw [List.append_assoc] at hk
  obtain ⟨a, _, rfl, h1, hk⟩ := List.map_eq_cons_iff.1 hk
  obtain ⟨b, _, rfl, h2, hk⟩ := List.map_eq_cons_iff.1 hk
  obtain ⟨c, _, rfl, h3, hk⟩ := List.map_eq_cons_iff.1 hk
  obtain ⟨d, r, rfl, h4, h5⟩ := List.map_eq_cons_iff.1 hk
  · have ea := item_t (hF.all a (by simp)).1 h1
    have eb := item_l (hF.all b (by simp)).1 h2
    have ec := item_l (hF.all c (by simp)).1 h3
    have ed := item_l (hF.all d (by simp)).1 h4
    obtain ⟨P, l', p1, p2, p3⟩ := form_prods n r _ (fun x hx => (hF.all x (by simp [hx])).1) h5
    obtain ⟨R, r1, r2⟩ := form_recs k l' (fun x hx => (hF.all x (by rw [p2]; simp [hx])).1) p3
    have e : a :: b :: c :: d :: r = loadItems a.s b.n c.n d.n P R := by
      unfold loadItems itemsHd
      rw [p2, r2, ← ea.1, ← eb, ← ec, ← ed]
      simp
    exact ⟨a.s, b.n, c.n, d.n, P, R, p1, by rw [e], e ▸ hF, e ▸ hs⟩
end Go.Proofs.YtfoomgdlbkjaeaaGreat.Y
