/-
  The document's topic is the program's, of any producers: on lists.
-/
import Derived.Test.YtmkkcgkakomacaaGreatZXD
import Derived.Sort.Walk0
namespace Go.Proofs.YtmkkcgkakomacaaGreat.Y
open Go.RowKit Go.Maps
set_option maxRecDepth 100000
set_option linter.unusedVariables false
set_option linter.unusedSimpArgs false
theorem lessB_iff (a b : ByteArray) : lessB a b = true ↔ a.data.toList < b.data.toList := by
  unfold lessB
  rw [ByteArray.toList_eq, ByteArray.toList_eq, bytesLess_eq, decide_eq_true_iff]
theorem nameEq_iff (a b : ByteArray) : (a.toList == b.toList) = true ↔ a = b := by
  rw [beq_iff_eq, ByteArray.toList_eq, ByteArray.toList_eq]
  constructor
  · intro h
    cases a
    cases b
    simp_all
  · rintro rfl
    rfl
theorem names_inj {a b : ByteArray} (h : a.data.toList = b.data.toList) : a = b := by
  cases a
  cases b
  simp_all
def PRises (l : List PR) : Prop := l.Pairwise fun a b => a.name.data.toList < b.name.data.toList
theorem PRises.lt {l : List PR} (h : PRises l) {i j : Nat} (hij : i < j) (hj : j < l.length) : (l[i]'(by omega)).name.data.toList < l[j].name.data.toList := List.pairwise_iff_getElem.1 h i j (by omega) hj hij
theorem got_mem {l : List PR} {nm : ByteArray} {r : PR} (h : xgot l nm = some r) : r ∈ l ∧ r.name = nm := by
  unfold xgot at h
  split at h
  · next ht =>
    rw [thereF, h] at ht
    exact ⟨List.mem_of_getElem? h, (nameEq_iff _ _).1 ht⟩
  · cases h
theorem got_of {l : List PR} (hl : PRises l) {nm : ByteArray} {r : PR} (hm : r ∈ l) (hn : r.name = nm) : xgot l nm = some r := by
  obtain ⟨j, hj, ej⟩ := List.mem_iff_getElem.1 hm
  have hf : findF l nm = j := findF_of (fun i hi hij => by
    rw [lessB_iff, ← hn, ← ej]
    exact hl.lt hij hj) (by omega) (fun h => by
    rw [ej, hn]
    cases hb : lessB nm nm with
    | false => rfl
    | true => exact absurd ((lessB_iff _ _).1 hb) (List.lt_irrefl _))
  have hg : l[findF l nm]? = some r := by rw [hf, List.getElem?_eq_getElem hj, ej]
  have ht : thereF l nm = true := by
    rw [thereF, hg]
    exact (nameEq_iff _ _).2 hn
  rw [xgot, if_pos ht, hg]
def pins (l : List PR) (p : ByteArray) (x : PR) : List PR := l.take (findF l p) ++ [x] ++ l.drop (if thereF l p = true then findF l p + 1 else findF l p)
theorem pins_lo {l : List PR} {p : ByteArray} {r : PR} (h : r ∈ l.take (findF l p)) : r.name.data.toList < p.data.toList := by
  obtain ⟨j, hj, ej⟩ := List.mem_iff_getElem.1 h
  rw [List.length_take] at hj
  rw [List.getElem_take] at ej
  have := (lessB_iff _ _).1 (findF_lt l p j (by omega) (by omega))
  rw [ej] at this
  exact this
theorem pins_hi {l : List PR} (hl : PRises l) {p : ByteArray} {r : PR} (h : r ∈ l.drop (if thereF l p = true then findF l p + 1 else findF l p)) : p.data.toList < r.name.data.toList := by
  obtain ⟨j, hj, ej⟩ := List.mem_iff_getElem.1 h
  rw [List.length_drop] at hj
  rw [List.getElem_drop] at ej
  have hfl := findF_le l p
  cases ht : thereF l p with
  | true =>
    simp only [ht, if_true] at hj ej
    obtain ⟨hk, hg⟩ := there_get ht
    have hn := (got_mem hg).2
    have := hl.lt (i := findF l p) (j := findF l p + 1 + j) (by omega) (by omega)
    rw [ej, hn] at this
    exact this
  | false =>
    simp only [ht] at hj ej
    simp only [Bool.false_eq_true, if_false] at hj ej
    have hk : findF l p < l.length := by omega
    have h1 : ¬ (l[findF l p].name.data.toList < p.data.toList) := fun q => by
      have := findF_at l p hk
      rw [(lessB_iff _ _).2 q] at this
      cases this
    have h2 : l[findF l p].name ≠ p := fun q => by
      rw [thereF, List.getElem?_eq_getElem hk] at ht
      simp only at ht
      rw [(nameEq_iff _ _).2 q] at ht
      cases ht
    have h3 : p.data.toList < l[findF l p].name.data.toList := by
      rcases List.le_total (l[findF l p].name.data.toList) p.data.toList with q | q
      · exact absurd (names_inj (List.le_antisymm q (List.not_lt.1 h1))) h2
      · rcases Classical.em (p.data.toList < l[findF l p].name.data.toList) with e | e
        · exact e
        · exact absurd (names_inj (List.le_antisymm (List.not_lt.1 e) q)) h2
    by_cases hj0 : j = 0
    · subst hj0
      have ej' : l[findF l p] = r := by simpa using ej
      rw [← ej']
      exact h3
    · have := hl.lt (i := findF l p) (j := findF l p + j) (by omega) (by omega)
      rw [ej] at this
      exact List.lt_trans h3 this
theorem pins_rises {l : List PR} (hl : PRises l) (p : ByteArray) {x : PR} (hx : x.name = p) : PRises (pins l p x) := by
  unfold pins PRises
  rw [List.pairwise_append, List.pairwise_append]
  refine ⟨⟨List.Pairwise.sublist (List.take_sublist _ _) hl, List.pairwise_singleton _ _, fun a ha b hb => ?_⟩, List.Pairwise.sublist (List.drop_sublist _ _) hl, fun a ha b hb => ?_⟩
  · rw [List.mem_singleton] at hb
    rw [hb, hx]
    exact pins_lo ha
  · have h2 := pins_hi hl hb
    rcases List.mem_append.1 ha with h | h
    · exact List.lt_trans (pins_lo h) h2
    · rw [List.mem_singleton] at h
      rw [h, hx]
      exact h2
theorem pins_mem {l : List PR} (hl : PRises l) (p : ByteArray) (x : PR) {r : PR} : r ∈ pins l p x ↔ r = x ∨ (r ∈ l ∧ r.name ≠ p) := by
  unfold pins
  rw [List.mem_append, List.mem_append, List.mem_singleton]
  constructor
  · rintro ((h | h) | h)
    · exact .inr ⟨List.mem_of_mem_take h, fun e => by have := pins_lo h; rw [e] at this; exact List.lt_irrefl _ this⟩
    · exact .inl h
    · exact .inr ⟨List.mem_of_mem_drop h, fun e => by have := pins_hi hl h; rw [e] at this; exact List.lt_irrefl _ this⟩
  · rintro (h | ⟨h, hn⟩)
    · exact .inl (.inr h)
    · obtain ⟨j, hj, ej⟩ := List.mem_iff_getElem.1 h
      by_cases h1 : j < findF l p
      · exact .inl (.inl (List.mem_iff_getElem.2 ⟨j, by rw [List.length_take]; omega, by rw [List.getElem_take]; exact ej⟩))
      · refine .inr ?_
        cases ht : thereF l p with
        | false =>
          simp only [Bool.false_eq_true, if_false]
          exact List.mem_iff_getElem.2 ⟨j - findF l p, by rw [List.length_drop]; omega, by rw [List.getElem_drop]; simp only [show findF l p + (j - findF l p) = j by omega]; exact ej⟩
        | true =>
          simp only [if_true]
          obtain ⟨hk, hg⟩ := there_get ht
          have hne : j ≠ findF l p := fun e => by
            subst e
            exact hn (by rw [← ej]; exact (got_mem hg).2)
          exact List.mem_iff_getElem.2 ⟨j - (findF l p + 1), by rw [List.length_drop]; omega, by rw [List.getElem_drop]; simp only [show findF l p + 1 + (j - (findF l p + 1)) = j by omega]; exact ej⟩
theorem got_pins {l : List PR} (hl : PRises l) (p : ByteArray) {x : PR} (hx : x.name = p) (nm : ByteArray) : xgot (pins l p x) nm = if nm = p then some x else xgot l nm := by
  have hr := pins_rises hl p hx
  by_cases h : nm = p
  · rw [if_pos h]
    exact got_of hr ((pins_mem hl p x).2 (.inl rfl)) (hx.trans h.symm)
  · rw [if_neg h]
    cases hg : xgot l nm with
    | some r =>
      obtain ⟨h1, h2⟩ := got_mem hg
      exact got_of hr ((pins_mem hl p x).2 (.inr ⟨h1, by rw [h2]; exact h⟩)) h2
    | none =>
      cases hg2 : xgot (pins l p x) nm with
      | none => rfl
      | some r =>
        obtain ⟨h1, h2⟩ := got_mem hg2
        rcases (pins_mem hl p x).1 h1 with e | ⟨h3, _⟩
        · exact absurd (by rw [← h2, e, hx]) h
        · rw [got_of hl h3 h2] at hg
          cases hg
structure PQ (G : TG) (Y : XG) : Prop where
  name : Y.name = G.name
  low : Y.low = G.low
  fin : Y.fin = G.fin
  recs : Y.recs = G.recs
  isMap : IsMap G.D
  rises : PRises Y.prods
  prod : ∀ nm : ByteArray, pget G.D nm.data.toList = (xgot Y.prods nm).map fun r => (r.off, r.sq)
theorem pq_new (s : ByteArray) : PQ (TG.new s) ⟨s, 0, 0, [], []⟩ := ⟨rfl, rfl, rfl, rfl, ⟨[], rfl⟩, List.Pairwise.nil, fun nm => rfl⟩
theorem pq_add {G : TG} {Y : XG} (h : PQ G Y) (p : ByteArray) (q : Int) (k v : ByteArray) : PQ (addF G ⟨0, p, q, k, v⟩) (xadd Y p q k v) := by
  refine ⟨h.name, h.low, ?_, ?_, ?_, ?_, fun nm => ?_⟩
  · show Y.fin + 1 = ((G.fin + 1 : Nat) : Int)
    rw [h.fin]
    omega
  · show Y.recs ++ [⟨Y.fin, p, q, k, v⟩] = G.recs ++ [⟨G.fin, p, q, k, v⟩]
    rw [h.recs, h.fin]
  · obtain ⟨es, he⟩ := h.isMap
    show IsMap (pput G.D _ _ _)
    unfold pput
    rw [he]
    exact ⟨_, rfl⟩
  · exact pins_rises h.rises p rfl
  · show pget (pput G.D p.data.toList G.fin q) nm.data.toList = (xgot (pins Y.prods p ⟨p, q, Y.fin⟩) nm).map _
    rw [got_pins h.rises p rfl]
    by_cases e : nm = p
    · subst e
      rw [if_pos rfl, pget_put_same h.isMap, h.fin]
      rfl
    · rw [if_neg e, pget_put_other G.D (fun q => e (names_inj q))]
      exact h.prod nm
theorem pq_pub {G : TG} {Y : XG} (h : PQ G Y) (p : ByteArray) (q : Int) (k v : ByteArray) : (pubF G p q k v).1 = (xpubF Y p q k v).1 ∧ (pubF G p q k v).2.1 = (xpubF Y p q k v).2.1 ∧ PQ (pubF G p q k v).2.2 (xpubF Y p q k v).2.2 := by
  unfold pubF xpubF
  by_cases hp : pubOk p q k v = true
  · rw [if_pos hp, if_pos hp, h.prod p]
    cases hg : xgot Y.prods p with
    | none => exact ⟨h.fin.symm, rfl, pq_add h p q k v⟩
    | some r =>
      simp only [Option.map_some]
      by_cases e1 : r.sq = q
      · rw [if_pos e1, if_pos e1]
        exact ⟨rfl, rfl, h⟩
      · rw [if_neg e1, if_neg e1]
        by_cases e2 : q < r.sq
        · rw [if_pos e2, if_pos e2]
          exact ⟨rfl, rfl, h⟩
        · rw [if_neg e2, if_neg e2]
          exact ⟨h.fin.symm, rfl, pq_add h p q k v⟩
  · rw [if_neg hp, if_neg hp]
    exact ⟨rfl, rfl, h⟩
end Go.Proofs.YtmkkcgkakomacaaGreat.Y
