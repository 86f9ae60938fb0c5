/-
  A shape with a star reads as often what stands behind it as it is there.
-/
import Derived.Test.YtmkkcgkakomacaaGreatZKR1
import Derived.Test.YtmkkcgkakomacaaGreatZUS
import Derived.Test.YtmkkcgkakomacaaGreatZT7
import Derived.Test.YtmkkcgkakomacaaGreatZKAppI
import Derived.Lib.Repeat
namespace Go.Proofs.YtmkkcgkakomacaaGreat.Y
open Go.RowKit Go.Maps Go.Sort
set_option maxRecDepth 100000
set_option linter.unusedSimpArgs false
set_option linter.unusedVariables false
def LFull (D : DataW Nat) : Prop := ∀ k, Maps.has D (.string k) = true → pget D k ≠ none
theorem lfull_empty : LFull (.map []) := fun k h => by cases h
theorem lfull_put {D : DataW Nat} (hD : IsMap D) (h : LFull D) (k : List UInt8) (a b : Int) : LFull (pput D k a b) := by
  intro k' hk
  by_cases e : k' = k
  · subst e
    rw [pget_put_same hD]
    simp
  · rw [pget_put_other D e]
    refine h k' ?_
    unfold pput at hk
    rw [has_put_other (fun e' => e (by injection e'))] at hk
    exact hk
theorem has_pget {D : DataW Nat} (hf : LFull D) (x : List UInt8) : Maps.has D (.string x) = true ↔ pget D x ≠ none := by
  constructor
  · exact hf x
  · intro h
    cases hh : Maps.has D (.string x) with
    | true => rfl
    | false =>
      exfalso
      apply h
      unfold pget
      rw [atKey_of_not_has hh]
section
variable {w : World} {b n : Nat} {D : DataW Nat}
theorem lkeys_mem (hown : w.ownsMap Tryz.prog 9 lastR b n D) (x : List UInt8) : x ∈ strKeys D ↔ Maps.has D (.string x) = true := by
  obtain ⟨es, hD, hko⟩ := hown.keysOf
  subst hD
  rw [has_eq, List.any_eq_true]
  show x ∈ es.map (fun p => strOf p.1) ↔ _
  rw [List.mem_map]
  constructor
  · rintro ⟨p, hp, rfl⟩
    obtain ⟨v, hv⟩ := hko p hp
    obtain ⟨a, _, ha, _⟩ := Maps.keyOf_str Tryz.underlying9 hv
    exact ⟨p, hp, by rw [ha]; simp [Lit.sameKey, strOf]⟩
  · rintro ⟨p, hp, hs⟩
    obtain ⟨v, hv⟩ := hko p hp
    obtain ⟨a, _, ha, _⟩ := Maps.keyOf_str Tryz.underlying9 hv
    rw [ha] at hs
    exact ⟨p, hp, by rw [ha]; simpa [Lit.sameKey, strOf] using hs⟩
theorem lkeys_nodup (hown : w.ownsMap Tryz.prog 9 lastR b n D) : (strKeys D).Nodup := by
  obtain ⟨es, hD, hpw⟩ := hown.tidy keyedS
  obtain ⟨es', hD', hko⟩ := hown.keysOf
  obtain rfl : es = es' := by rw [hD] at hD'; simpa using hD'
  subst hD
  show (es.map fun p => strOf p.1).Nodup
  refine List.pairwise_map.2 (hpw.imp_of_mem fun {p q} hp' hq' hne e => hne ?_)
  obtain ⟨v, hv⟩ := hko p hp'
  obtain ⟨a, _, ha, _⟩ := Maps.keyOf_str Tryz.underlying9 hv
  obtain ⟨v', hv'⟩ := hko q hq'
  obtain ⟨c, _, hc, _⟩ := Maps.keyOf_str Tryz.underlying9 hv'
  rw [ha, hc] at e ⊢
  exact congrArg _ e
theorem names_mem (hown : w.ownsMap Tryz.prog 9 lastR b n D) (hf : LFull D) (x : List UInt8) : x ∈ dnames D ↔ pget D x ≠ none := by
  unfold dnames
  rw [List.mem_mergeSort, lkeys_mem hown, has_pget hf]
theorem leB_tr : ∀ a b c : List UInt8, leB a b = true → leB b c = true → leB a c = true := fun a b c h1 h2 => by simp only [leB, decide_eq_true_eq] at *; exact List.le_trans h1 h2
theorem leB_tot : ∀ a b : List UInt8, (leB a b || leB b a) = true := fun a b => by simp only [leB, Bool.or_eq_true, decide_eq_true_eq]; exact List.le_total a b
def RiseL (l : List (List UInt8)) : Prop := l.Pairwise fun a b => a < b
theorem names_rise (hown : w.ownsMap Tryz.prog 9 lastR b n D) : RiseL (dnames D) := by
  have h1 : (dnames D).Pairwise fun a b => leB a b = true := List.pairwise_mergeSort leB_tr leB_tot _
  have h2 : (dnames D).Nodup := (List.mergeSort_perm _ _).nodup_iff.2 (lkeys_nodup hown)
  refine (h1.and h2).imp fun {x y} h => ?_
  have h3 := h.1
  simp only [leB, decide_eq_true_eq] at h3
  rcases List.le_iff_lt_or_eq.1 h3 with h4 | h4
  · exact h4
  · exact absurd h4 h.2
theorem lsize_le (hown : w.ownsMap Tryz.prog 9 lastR b n D) : Maps.size D ≤ n := by
  obtain ⟨es, clock, hb, F, hs, rfl⟩ := hown
  simpa [Maps.size, length_sorted] using hs
end
theorem rise_nodup {l : List (List UInt8)} (h : RiseL l) : l.Nodup := h.imp fun h e => by rw [e] at h; exact absurd h (List.lt_irrefl _)
theorem rise_eq {l m : List (List UInt8)} (hl : RiseL l) (hm : RiseL m) (h : ∀ x, x ∈ l ↔ x ∈ m) : l = m := by
  have hp : l.Perm m := (List.perm_ext_iff_of_nodup (rise_nodup hl) (rise_nodup hm)).2 h
  refine List.Perm.eq_of_pairwise (le := fun a b => leB a b = true) (fun a b _ _ h1 h2 => ?_) ?_ ?_ hp
  · simp only [leB, decide_eq_true_eq] at h1 h2
    exact List.le_antisymm h1 h2
  · exact hl.imp fun h => by simp only [leB, decide_eq_true_eq]; exact List.le_of_lt h
  · exact hm.imp fun h => by simp only [leB, decide_eq_true_eq]; exact List.le_of_lt h
theorem know_isMap : ∀ (l : List PU) {D : DataW Nat}, IsMap D → IsMap (knowD D l)
  | [], D, h => h
  | p :: l, D, h => know_isMap l (h.put _ _)
theorem know_full : ∀ (l : List PU) {D : DataW Nat}, IsMap D → LFull D → LFull (knowD D l)
  | [], D, _, h => h
  | p :: l, D, hm, h => know_full l (hm.put _ _) (lfull_put hm h _ _ _)
theorem know_not : ∀ (l : List PU) {D : DataW Nat} (k : List UInt8), (∀ p ∈ l, p.name.data.toList ≠ k) → pget (knowD D l) k = pget D k
  | [], D, k, _ => rfl
  | p :: l, D, k, h => by
    show pget (knowD (pput D _ _ _) l) k = _
    rw [know_not l k fun q hq => h q (by simp [hq])]
    exact pget_put_other _ (fun e => h p (by simp) e.symm) _ _
theorem know_in : ∀ (l : List PU) {D : DataW Nat} (hm : IsMap D) (hn : (l.map fun p => p.name.data.toList).Nodup) (p : PU), p ∈ l → pget (knowD D l) p.name.data.toList = some (p.off, p.seq)
  | q :: l, D, hm, hn, p, hp => by
    rw [List.map_cons, List.nodup_cons] at hn
    show pget (knowD (pput D _ _ _) l) _ = _
    rcases List.mem_cons.1 hp with rfl | hp
    · rw [know_not l _ fun r hr e => hn.1 (List.mem_map.2 ⟨r, hr, e⟩)]
      exact pget_put_same hm _ _ _
    · exact know_in l (hm.put _ _) hn.2 p hp
theorem prods_names (D : DataW Nat) : (prodsF D).map (fun p => p.name.data.toList) = dnames D := by
  unfold prodsF
  rw [List.map_map]
  exact (List.map_congr_left fun k _ => by simp).trans (List.map_id _)
structure EqT (G H : TG) : Prop where
  name : H.name = G.name
  low : H.low = G.low
  fin : H.fin = G.fin
  recs : H.recs = G.recs
  prod : ∀ k, pget H.D k = pget G.D k
structure Tell (G : TG) : Prop where
  isMap : IsMap G.D
  full : LFull G.D
  prod : ∀ k o s, pget G.D k = some (o, s) → wordB ⟨k.toArray⟩ = true ∧ 0 ≤ s ∧ s ≤ 9007199254740991 ∧ 0 ≤ o ∧ o < (G.fin : Int)
theorem tell_new (s : ByteArray) : Tell (TG.new s) := ⟨isMap_empty, lfull_empty, fun k o s h => by cases h⟩
theorem tell_pub {G : TG} (h : Tell G) (p : ByteArray) (q : Int) (k v : ByteArray) : Tell (pubF G p q k v).2.2 := by
  unfold pubF
  split
  · rename_i hb
    have hadd : Tell (addF G ⟨0, p, q, k, v⟩) := by
      refine ⟨h.isMap.put _ _, lfull_put h.isMap h.full _ _ _, fun x o s hx => ?_⟩
      have hx2 : pget (pput G.D p.data.toList G.fin q) x = some (o, s) := hx
      show _ ∧ _ ∧ _ ∧ _ ∧ o < ((G.fin + 1 : Nat) : Int)
      by_cases e : x = p.data.toList
      · subst e
        rw [pget_put_same h.isMap] at hx2
        injection hx2 with hx2
        injection hx2 with e1 e2
        subst e1 e2
        obtain ⟨_, o2, o3, _⟩ := pubOk_out hb
        have hw : wordB p = true := by
          unfold pubOk at hb
          rw [Bool.and_eq_true] at hb
          exact hb.1
        exact ⟨by rw [show (⟨p.data.toList.toArray⟩ : ByteArray) = p from K.mk_back p]; exact hw, o2, o3, by omega, by omega⟩
      · rw [pget_put_other _ e] at hx2
        obtain ⟨y1, y2, y3, y4, y5⟩ := h.prod x o s hx2
        exact ⟨y1, y2, y3, y4, by omega⟩
    split
    · split
      · exact h
      · split
        · exact h
        · exact hadd
    · exact hadd
  · exact h
theorem tell_trim {G : TG} (h : Tell G) (n : Int) : Tell (trimF G n).2 := by
  unfold trimF
  split
  · exact h
  · split
    · exact h
    · exact ⟨h.isMap, h.full, h.prod⟩
theorem tell_comp {G : TG} (h : Tell G) (n : Int) : Tell (compF G n) := ⟨h.isMap, h.full, h.prod⟩
end Go.Proofs.YtmkkcgkakomacaaGreat.Y
namespace Go.Proofs.YtmkkcgkakomacaaGreat.K
theorem letter_cases (c : UInt8) (h : isLetter c = true) : c = 98 ∨ c = 119 ∨ c = 108 ∨ c = 116 := by
  by_cases h1 : c = 98
  · exact Or.inl h1
  by_cases h2 : c = 119
  · exact Or.inr (Or.inl h2)
  by_cases h3 : c = 108
  · exact Or.inr (Or.inr (Or.inl h3))
  by_cases h4 : c = 116
  · exact Or.inr (Or.inr (Or.inr h4))
  have e := indexByte_none letters c (by
    intro x hx
    simp [letters] at hx
    rcases hx with rfl | rfl | rfl | rfl
    · exact fun e => h1 e.symm
    · exact fun e => h2 e.symm
    · exact fun e => h3 e.symm
    · exact fun e => h4 e.symm)
  unfold isLetter at h
  rw [e] at h
  simp at h
theorem letter_back (c : UInt8) (h : isLetter c = true) : letterF (kindOfL c) = c ∧ kindB (kindOfL c) = true := by
  rcases letter_cases c h with rfl | rfl | rfl | rfl <;> exact ⟨rfl, rfl⟩
theorem widthN_le' (k : Int) : widthN k ≤ 8 := by
  unfold widthN
  split
  · omega
  · split <;> omega
theorem pow_le8 (z : Nat) (h : z ≤ 8) : 256 ^ z ≤ 18446744073709551616 := by
  have : 256 ^ z ≤ 256 ^ 8 := Nat.pow_le_pow_right (by omega) h
  omega
theorem itemF_inv (c : UInt8) (s : List UInt8) (hc : isLetter c = true) (h : (itemF c s).2.2 = 0) :
    s = itemB (itemF c s).1 ++ (itemF c s).2.1 ∧ faultF (itemF c s).1 = 0 ∧ (itemF c s).1.ok ∧ letterF (itemF c s).1.k = c := by
  obtain ⟨hb, hk⟩ := letter_back c hc
  have hz := widthN_le' (kindOfL c)
  unfold itemF at *
  by_cases h1 : s.length < widthN (kindOfL c)
  · rw [if_pos h1] at h; simp at h
  · rw [if_neg h1] at h ⊢
    by_cases h2 : kindOfL c = 4
    · rw [if_pos h2] at h ⊢
      rw [h2] at h1 hb
      have w4 : widthN 4 = 4 := rfl
      rw [w4] at h1
      by_cases h3 : 100000 < Lib.beNat (s.take 4)
      · rw [if_pos h3] at h; simp at h
      · rw [if_neg h3] at h ⊢
        by_cases h4 : (s.drop 4).length < Lib.beNat (s.take 4)
        · rw [if_pos h4] at h; simp at h
        · rw [if_neg h4]
          have ht : (s.take 4).length = 4 := by rw [List.length_take]; omega
          generalize hN : Lib.beNat (s.take 4) = N at *
          have hl : ((s.drop 4).take N).length = N := by rw [List.length_take]; omega
          have hsz : (⟨((s.drop 4).take N).toArray⟩ : ByteArray).size = N := by
            show ((s.drop 4).take N).toArray.size = N
            rw [List.size_toArray]; exact hl
          refine ⟨?_, ?_, ?_, hb⟩
          · unfold itemB numOf
            rw [if_pos rfl, hsz, w4, ← hN, beBytes_beNat 4 _ ht, hN]
            simp only [List.append_assoc]
            show s = s.take 4 ++ ((s.drop 4).take N ++ (s.drop 4).drop N)
            rw [List.take_append_drop, List.take_append_drop]
          · unfold faultF
            rw [hsz]
            simp [kindB]
            omega
          · unfold It.ok
            rw [hsz]
            simp
            omega
    · rw [if_neg h2] at h ⊢
      have ht : (s.take (widthN (kindOfL c))).length = widthN (kindOfL c) := by rw [List.length_take]; omega
      have hlt := beNat_lt (s.take (widthN (kindOfL c)))
      rw [ht] at hlt
      have h8 := pow_le8 _ hz
      refine ⟨?_, ?_, ?_, hb⟩
      · unfold itemB numOf
        rw [if_neg h2, Int.toNat_natCast, beBytes_beNat _ _ ht]
        show s = s.take (widthN (kindOfL c)) ++ [] ++ s.drop (widthN (kindOfL c))
        rw [List.append_nil, List.take_append_drop]
      · have e : ((256 ^ widthN (kindOfL c) : Nat) : Int) = (256 : Int) ^ widthN (kindOfL c) := Int.natCast_pow 256 _
        have hlt' : ((Lib.beNat (s.take (widthN (kindOfL c))) : Nat) : Int) < (256 : Int) ^ widthN (kindOfL c) := by rw [← e]; omega
        have hsz : (⟨#[]⟩ : ByteArray).size = 0 := rfl
        unfold faultF
        simp only [hk, h2, hsz, hlt', Bool.true_eq_false, if_false, ne_eq, not_true, not_false_iff, or_false, and_false, false_and]
        rfl
      · have k1 : 1 ≤ kindOfL c ∧ kindOfL c ≤ 4 := by simpa [kindB] using hk
        unfold It.ok
        refine ⟨by simp only; omega, by simp only; omega, by simp only; omega, by simp only; omega, Nat.zero_le _⟩
theorem allL_cons (c : UInt8) (t : List UInt8) (h : allL (c :: t) = true) : isLetter c = true ∧ allL t = true := by
  simpa [allL] using h
theorem itemF_less' (c : UInt8) (s : List UInt8) (hc : isLetter c = true) (h : (itemF c s).2.2 = 0) : (itemF c s).2.1.length < s.length := by
  have h1 := congrArg List.length (itemF_inv c s hc h).1
  have h2 := itemB_pos (itemF c s).1
  rw [List.length_append] at h1
  omega
theorem shapeOk_parts (s : List UInt8) (h : shapeOk s = true) : allL (cutStar s).1 = true ∧ allL (cutStar s).2.1 = true := by
  unfold shapeOk at h
  simp only [Bool.and_eq_true] at h
  exact h.2
end Go.Proofs.YtmkkcgkakomacaaGreat.K
namespace Go.Proofs.YtmkkcgkakomacaaGreat.K
end Go.Proofs.YtmkkcgkakomacaaGreat.K
namespace Go.Proofs.YtmkkcgkakomacaaGreat.K
theorem indexByte_hit (A G : List UInt8) (c : UInt8) (h : ∀ x ∈ A, x ≠ c) : Lib.indexByte (A ++ c :: G) c = A.length := by
  induction A with
  | nil => simp [Lib.indexByte]
  | cons b A ih =>
    have h1 : (b == c) = false := by simpa using h b (by simp)
    have h2 := ih fun x hx => h x (by simp [hx])
    rw [List.cons_append]
    simp only [Lib.indexByte, h1, h2]
    have h3 : ((A.length : Int) == -1) = false := by rw [beq_eq_false_iff_ne]; omega
    simp [h3]
theorem cutStar_hit (A G : List UInt8) (h : ∀ x ∈ A, x ≠ 42) : cutStar (A ++ 42 :: G) = (A, G, true) := by
  unfold cutStar
  rw [indexByte_hit A G 42 h, if_neg (by omega)]
  simp
theorem itemF_nil (c : UInt8) : (itemF c []).2.2 = 2 := by
  unfold itemF
  have : 1 ≤ widthN (kindOfL c) := by
    unfold widthN
    split
    · omega
    · split <;> omega
  rw [if_pos (by simp; omega)]
theorem star_read (G : List UInt8) (hG : G ≠ []) (hGl : allL G = true) (f' : Nat) : ∀ (f m k : Nat) (todo rest : List UInt8), allL todo = true →
    2 * rest.length + 1 < f → 2 * rest.length + (if todo = [] then 1 else 0) < f' → (readF f [] m (todo ++ Lib.repeatL G k) rest).2 = 0 →
    readF f' G m todo rest = readF f [] m (todo ++ Lib.repeatL G k) rest := by
  induction f' with
  | zero => intro f m k todo rest _ _ h; omega
  | succ f' ih =>
    intro f m k todo rest ht hf hf' h
    obtain ⟨g, rfl⟩ : ∃ g, f = g + 1 := ⟨f - 1, by omega⟩
    cases todo with
    | cons c t =>
      obtain ⟨hc, ht⟩ := allL_cons c t ht
      rw [List.cons_append] at h ⊢
      rw [readF] at h ⊢
      rw [readF]
      by_cases h1 : m = 1000
      · rw [if_pos h1] at h; simp at h
      · rw [if_neg h1] at h ⊢
        rw [if_neg h1]
        by_cases h2 : (itemF c rest).2.2 = 0
        · rw [if_pos h2] at h ⊢
          rw [if_pos h2]
          have hl := itemF_less' c rest hc h2
          rw [if_neg (by simp)] at hf'
          by_cases h3 : (readF g [] (m + 1) (t ++ Lib.repeatL G k) (itemF c rest).2.1).2 = 0
          · have e := ih g (m + 1) k t (itemF c rest).2.1 ht (by omega) (by split <;> omega) h3
            rw [e]
          · rw [if_neg h3] at h; exact absurd h h3
        · rw [if_neg h2] at h; exact absurd h h2
    | nil =>
      rw [if_pos rfl] at hf'
      rw [List.nil_append] at h ⊢
      cases k with
      | zero =>
        show readF (f' + 1) G m [] rest = readF (g + 1) [] m [] rest
        have h' : (readF (g + 1) [] m [] rest).2 = 0 := h
        rw [readF] at h' ⊢
        rw [readF]
        by_cases h1 : rest = []
        · rw [if_pos h1, if_pos h1]
        · rw [if_neg h1, if_pos rfl] at h'; simp at h'
      | succ k =>
        have e : Lib.repeatL G (k + 1) = G ++ Lib.repeatL G k := rfl
        rw [e] at h ⊢
        rw [readF]
        by_cases h1 : rest = []
        · subst h1
          obtain ⟨c, t, hct⟩ : ∃ c t, G = c :: t := by
            cases G with
            | nil => exact absurd rfl hG
            | cons c t => exact ⟨c, t, rfl⟩
          rw [hct, List.cons_append, readF] at h
          by_cases h2 : m = 1000
          · rw [if_pos h2] at h; simp at h
          · rw [if_neg h2, if_neg (by rw [itemF_nil]; decide)] at h
            exact absurd h (by rw [itemF_nil]; decide)
        · rw [if_neg h1, if_neg hG]
          exact ih (g + 1) m k G rest hGl hf (by rw [if_neg hG]; omega) h
theorem allL_append' (a b : List UInt8) : allL (a ++ b) = (allL a && allL b) := by simp [allL]
theorem repeatL_star (G : List UInt8) (k : Nat) (h : ∀ x ∈ G, x ≠ 42) : ∀ x ∈ Lib.repeatL G k, x ≠ 42 := by
  induction k with
  | zero => simp [Lib.repeatL]
  | succ k ih =>
    intro x hx
    have e : Lib.repeatL G (k + 1) = G ++ Lib.repeatL G k := rfl
    rw [e] at hx
    rcases List.mem_append.1 hx with hx | hx
    · exact h x hx
    · exact ih x hx
theorem star_pure (A G s : List UInt8) (k : Nat) (hA : ∀ x ∈ A, x ≠ 42) (hG : ∀ x ∈ G, x ≠ 42) (hne : G ≠ []) (hno : (decF G []).2 ≠ 1) (h : (decF (A ++ Lib.repeatL G k) s).2 = 0) :
    decF (A ++ 42 :: G) s = decF (A ++ Lib.repeatL G k) s := by
  have hGl : allL G = true := by
    unfold decF at hno
    by_cases h1 : shapeOk G = true
    · have := (shapeOk_parts G h1).1
      rwa [cutStar_letters G hG] at this
    · rw [if_neg h1] at hno; exact absurd rfl hno
  have hAll : ∀ x ∈ A ++ Lib.repeatL G k, x ≠ 42 := by
    intro x hx
    rcases List.mem_append.1 hx with hx | hx
    · exact hA x hx
    · exact repeatL_star G k hG x hx
  unfold decF at h ⊢
  by_cases h1 : shapeOk (A ++ Lib.repeatL G k) = true
  · rw [if_pos h1] at h ⊢
    have hl := (shapeOk_parts _ h1).1
    rw [cutStar_letters _ hAll] at hl h ⊢
    have hAl : allL A = true := by
      rw [allL_append'] at hl
      simp at hl
      exact hl.1
    have h2 : shapeOk (A ++ 42 :: G) = true := by
      unfold shapeOk
      rw [cutStar_hit A G hA]
      have e : G.isEmpty = false := by cases G with
        | nil => exact absurd rfl hne
        | cons c t => rfl
      simp [hAl, hGl, e]
    rw [if_pos h2, cutStar_hit A G hA]
    exact star_read G hne hGl (2 * s.length + 2) (2 * s.length + 2) 0 k A s hAl (by omega) (by split <;> omega) h
  · rw [if_neg h1] at h; simp at h
end Go.Proofs.YtmkkcgkakomacaaGreat.K
