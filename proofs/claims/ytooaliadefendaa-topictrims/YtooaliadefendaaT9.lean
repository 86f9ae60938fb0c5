/-
  TopicOnce on lists; a topic and a row of records of the law's own beside it.
-/
import Derived.Test.YtooaliadefendaaT8a
import Derived.Test.YtooaliadefendaaTK
namespace Go.Proofs.Ytooaliadefendaa.Y
open Go.RowKit Go.Maps

set_option linter.unusedVariables false
theorem bytes_ext {a b : ByteArray} (h : a.data.toList = b.data.toList) : a = b := by
  obtain ⟨⟨x⟩⟩ := a
  obtain ⟨⟨y⟩⟩ := b
  simp only at h
  subst h
  rfl
/-- What a topic is that was published to alone: T all that was told. -/
structure OI (G : TG) (T : List Rec) : Prop where
  recs : G.recs = T
  fin : G.fin = T.length
  low : G.low = 0
  off : ∀ k (h : k < T.length), T[k].off = (k : Int)
  map : IsMap G.D
  none_ : ∀ p : ByteArray, pget G.D p.data.toList = none → ∀ r ∈ T, r.prod ≠ p
  some_ : ∀ (p : ByteArray) (o s : Int), pget G.D p.data.toList = some (o, s) → ∃ k, ∃ h : k < T.length, o = (k : Int) ∧ T[k].prod = p ∧ T[k].seq = s ∧ ∀ r ∈ T, r.prod = p → r.seq ≤ s
theorem oi_new (s : ByteArray) : OI (TG.new s) [] :=
  ⟨rfl, rfl, rfl, fun k h => by simp at h, isMap_empty, fun p _ r hr => by simp at hr, fun p o s h => by cases h⟩
theorem oi_add {G : TG} {T : List Rec} (h : OI G T) {p : ByteArray} {seq : Int} (k v : ByteArray) (hlt : ∀ r ∈ T, r.prod = p → r.seq < seq) : OI (addF G ⟨0, p, seq, k, v⟩) (T ++ [⟨(T.length : Int), p, seq, k, v⟩]) := by
  refine ⟨?_, ?_, h.low, ?_, h.map.put _ _, ?_, ?_⟩
  · show G.recs ++ [_] = _
    rw [h.recs, h.fin]
  · show G.fin + 1 = _
    rw [h.fin]; simp
  · intro i hi
    rw [List.length_append] at hi
    simp at hi
    by_cases e : i < T.length
    · rw [List.getElem_append_left e]; exact h.off i e
    · obtain rfl : i = T.length := by omega
      simp
  · intro q hq r hr
    show r.prod ≠ q
    have hq2 : pget (pput G.D p.data.toList G.fin seq) q.data.toList = none := hq
    by_cases e : q.data.toList = p.data.toList
    · rw [e, pget_put_same h.map] at hq2; cases hq2
    · rw [pget_put_other _ e] at hq2
      rcases List.mem_append.1 hr with hr | hr
      · exact h.none_ q hq2 r hr
      · rw [List.mem_singleton] at hr
        subst hr
        intro e2
        exact e (by rw [← e2])
  · intro q o s hq
    have hq2 : pget (pput G.D p.data.toList G.fin seq) q.data.toList = some (o, s) := hq
    by_cases e : q.data.toList = p.data.toList
    · rw [e, pget_put_same h.map] at hq2
      have e3 := bytes_ext e
      subst e3
      injection hq2 with hq2
      injection hq2 with e1 e2
      subst e1 e2
      refine ⟨T.length, by simp, by rw [h.fin], by simp, by simp, fun r hr hp => ?_⟩
      rcases List.mem_append.1 hr with hr | hr
      · exact Int.le_of_lt (hlt r hr hp)
      · rw [List.mem_singleton] at hr
        subst hr
        exact Int.le_refl _
    · rw [pget_put_other _ e] at hq2
      obtain ⟨i, hi, e1, e2, e3, e4⟩ := h.some_ q o s hq2
      refine ⟨i, by rw [List.length_append]; omega, e1, by rw [List.getElem_append_left hi]; exact e2, by rw [List.getElem_append_left hi]; exact e3, fun r hr hp => ?_⟩
      rcases List.mem_append.1 hr with hr | hr
      · exact e4 r hr hp
      · rw [List.mem_singleton] at hr
        subst hr
        exact absurd (by rw [← hp]) e
theorem once_step {G : TG} {T : List Rec} (h : OI G T) (p : ByteArray) (seq : Int) (k v : ByteArray) :
    (∃ cd, cd ≠ 0 ∧ pubF G p seq k v = (0, cd, G)) ∨
    (∃ i, ∃ hi : i < T.length, pubF G p seq k v = ((i : Int), 0, G) ∧ T[i].prod = p ∧ T[i].seq = seq) ∨
    (pubF G p seq k v = ((T.length : Int), 0, addF G ⟨0, p, seq, k, v⟩) ∧ OI (addF G ⟨0, p, seq, k, v⟩) (T ++ [⟨(T.length : Int), p, seq, k, v⟩]) ∧ ∀ r ∈ T, r.prod = p → r.seq < seq) := by
  unfold pubF
  cases hb : pubOk p seq k v with
  | false => exact .inl ⟨7, by decide, by rw [if_neg (by decide)]⟩
  | true =>
    rw [if_pos rfl]
    cases hg : pget G.D p.data.toList with
    | none =>
      have hlt : ∀ r ∈ T, r.prod = p → r.seq < seq := fun r hr hp => absurd hp (h.none_ p hg r hr)
      exact .inr (.inr ⟨by simp only [h.fin], oi_add h k v hlt, hlt⟩)
    | some g =>
      obtain ⟨o, s⟩ := g
      obtain ⟨i, hi, e1, e2, e3, e4⟩ := h.some_ p o s hg
      simp only
      by_cases h1 : s = seq
      · rw [if_pos h1]
        exact .inr (.inl ⟨i, hi, by rw [e1], e2, by rw [e3, h1]⟩)
      · rw [if_neg h1]
        by_cases h2 : seq < s
        · rw [if_pos h2]
          exact .inl ⟨6, by decide, rfl⟩
        · rw [if_neg h2]
          have hlt : ∀ r ∈ T, r.prod = p → r.seq < seq := fun r hr hp => by have := e4 r hr hp; omega
          exact .inr (.inr ⟨by rw [h.fin], oi_add h k v hlt, hlt⟩)
/-- A topic, and a row of records of the law's own beside it. -/
structure OM (B : Nat) (w0 w : World) (L : LOC) (G : TG) (c : Nat) (T : List Rec) (to_ : Option Addr) (tc : Nat) : Prop where
  held : Held B w0 w L G c
  row : w.ownsRow B 35 5 (.slice to_ T.length tc) T.length (recCells T)
  apart : ∀ j, (Value.slice to_ T.length tc).ownBlock = some j → ¬ L.own j
section
variable {B : Nat} {w0 w w' : World} {L L' : LOC} {G G' : TG} {c c' : Nat} {T T' : List Rec} {to_ to' : Option Addr} {tc tc' : Nat}
theorem OM.size (h : OM B w0 w L G c T to_ tc) : B ≤ w.heap.size := Nat.le_trans h.held.le h.held.below.size
theorem OM.to (h : OM B w0 w L G c T to_ tc) (hb : Below w.heap.size w w') : OM B w0 w' L G c T to_ tc := ⟨h.held.to hb, own_below h.row hb, h.apart⟩
theorem OM.step (h : OM B w0 w L G c T to_ tc) (hh : Held B w0 w' L' G' c') (s : TStep w w' L L') : OM B w0 w' L' G' c' T to_ tc := by
  refine ⟨hh, s.touch.row h.row h.apart, fun j hj e => ?_⟩
  rcases s.own j e with e | e
  · exact h.apart j hj e
  · have := row_lt h.row hj; omega
theorem OM.grown (h : OM B w0 w L G c T to_ tc) (hg : w.grownBy w' (Value.slice to_ T.length tc).ownBlock) (hr : w'.ownsRow B 35 5 (.slice to' T'.length tc') T'.length (recCells T')) (hw : (Value.slice to' T'.length tc').ownBlock = (Value.slice to_ T.length tc).ownBlock ∨ (Value.slice to' T'.length tc').ownBlock = some w.heap.size) : OM B w0 w' L G c T' to' tc' := by
  have hb : Below B w w' := (Below.refl B w).grown hg h.size (fun j hj => (h.row.lt j hj).1)
  refine ⟨⟨h.held.at_.keep (own := fun j => (Value.slice to_ T.length tc).ownBlock = some j) ((Touch.refl _ w).grown hg (fun _ e _ => e)) (fun j hj e => h.apart j e hj), h.held.ok, h.held.below.trans hb, h.held.new, h.held.le⟩, hr, fun j hj e => ?_⟩
  rcases hw with hw | hw
  · exact h.apart j (hw ▸ hj) e
  · rw [hw] at hj
    have := h.held.at_.lt e
    have := Option.some.inj hj
    omega
theorem om_new (h : Held B w0 w L G c) : OM B w0 w L G c [] none 0 := ⟨h, World.ownsRow_nil w _ _ _, fun j hj => by cases hj⟩
end
end Go.Proofs.Ytooaliadefendaa.Y
