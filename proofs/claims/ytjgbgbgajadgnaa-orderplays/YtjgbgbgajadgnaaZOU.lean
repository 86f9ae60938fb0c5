/-
  What each call leaves, on lists: the log stays, what is sure stays sure.
-/
import Derived.Test.YtjgbgbgajadgnaaZOA
namespace Go.Proofs.Ytjgbgbgajadgnaa

theorem mid_mono {l l' : List Nat} (hl : l.length = l'.length) (h0 : l ≠ []) (h : ∀ i (hi : i < l.length), l[i] ≤ l'[i]'(hl ▸ hi)) : midN l ≤ midN l' := by
  have h1 : l' ≠ [] := fun e => h0 (List.eq_nil_of_length_eq_zero (by rw [hl, e]; rfl))
  rw [mid_iff l' h1, ← hl]
  have := (mid_iff l h0 (midN l)).1 (Nat.le_refl _)
  have := cnt_mono hl h (midN l)
  omega
/-- What the sequencer holds to be sure is no more than the middle one. -/
def OS.Inv (o : OS) : Prop := o.first = true → o.sure ≤ midN o.counts
structure OS.Fine (o : OS) : Prop where
  ok : o.Ok
  inv : o.Inv
structure Grew (o o' : OS) : Prop where
  log : o'.log = o.log ∨ ∃ s, o'.log = o.log ++ [s]
  sure : o.sure ≤ o'.sure
  nodes : o'.nodes = o.nodes
  self : o'.self = o.self
theorem Grew.refl (o : OS) : Grew o o := ⟨.inl rfl, Nat.le_refl _, rfl, rfl⟩
theorem counts_mono {o o' : OS} (hn : o'.nodes = o.nodes) (hk : o.Ok) (h : ∀ i, o.had.getD i 0 ≤ o'.had.getD i 0) : midN o.counts ≤ midN o'.counts := by
  refine mid_mono (by unfold OS.counts; rw [hn]; simp) hk.cne fun i hi => ?_
  have hi2 : i < o.nodes.length := by simpa [OS.counts] using hi
  have e1 : o.counts[i] = o.had.getD o.nodes[i] 0 := by simp [OS.counts]
  have e2 : ∀ h : i < o'.counts.length, o'.counts[i] = o'.had.getD (o'.nodes[i]'(by rw [hn]; exact hi2)) 0 := fun h => by simp [OS.counts]
  rw [e1, e2]
  have : o'.nodes[i]'(by rw [hn]; exact hi2) = o.nodes[i] := by simp [hn]
  rw [this]
  exact h _
theorem getD_set (l : List Nat) (i n j : Nat) (hi : i < l.length) : (l.set i n).getD j 0 = if j = i then n else l.getD j 0 := by
  simp only [List.getD_eq_getElem?_getD, List.getElem?_set]
  by_cases e : i = j
  · subst e; simp [hi]
  · have e2 : ¬ j = i := fun x => e x.symm
    simp [e, e2]
theorem keep_had {o : OS} (hk : o.Ok) (s : ByteArray) (i : Nat) : o.had.getD i 0 ≤ (o.keep s).had.getD i 0 := by
  show _ ≤ (o.had.set o.self (o.log.length + 1)).getD i 0
  rw [getD_set _ _ _ _ (by rw [hk.seven]; exact hk.slf)]
  have := hk.get i
  split <;> omega
theorem hasN_had {o : OS} (hk : o.Ok) (node n : Nat) (h7 : node < 7) (i : Nat) : o.had.getD i 0 ≤ (o.hasN node n).had.getD i 0 := by
  show _ ≤ (o.had.set node (max (o.had.getD node 0) n)).getD i 0
  rw [getD_set _ _ _ _ (by rw [hk.seven]; exact h7)]
  split
  · rename_i e; rw [e]; omega
  · exact Nat.le_refl _
theorem make_first (o : OS) : o.make.first = o.first := rfl
theorem Fine.make {o : OS} (h : o.Ok) : o.make.Fine := ⟨h.make, fun _ => Nat.le_refl _⟩
theorem Fine.propose {o : OS} (h : o.Fine) (s : ByteArray) (hs : s.size ≤ 140737488351232) : (o.propose s).1.Fine ∧ Grew o (o.propose s).1 := by
  unfold OS.propose
  by_cases hf : o.first = true
  · rw [if_pos hf]
    by_cases hfit : o.fits s = true
    · rw [if_pos hfit]
      refine ⟨Fine.make (h.ok.keep s hs), .inr ⟨s, rfl⟩, ?_, rfl, rfl⟩
      exact Nat.le_trans (h.inv hf) (counts_mono (o' := o.keep s) rfl h.ok (keep_had h.ok s))
    · rw [if_neg hfit]; exact ⟨h, Grew.refl o⟩
  · rw [if_neg hf]; exact ⟨h, Grew.refl o⟩
theorem Fine.add {o : OS} (h : o.Fine) (i : Int) (s : ByteArray) (hs : s.size ≤ 140737488351232) : (o.add i s).1.Fine ∧ Grew o (o.add i s).1 := by
  unfold OS.add
  split
  · rename_i hc
    refine ⟨⟨h.ok.keep s hs, fun hf => ?_⟩, .inr ⟨s, rfl⟩, Nat.le_refl _, rfl, rfl⟩
    have : o.first = true := hf
    rw [hc.1] at this
    cases this
  · exact ⟨h, Grew.refl o⟩
theorem Fine.has {o : OS} (h : o.Fine) (node n : Int) : (o.has node n).1.Fine ∧ Grew o (o.has node n).1 := by
  unfold OS.has
  split
  · rename_i hc
    obtain ⟨hf, _, _, _, h7⟩ := h.ok.asks hc.1
    refine ⟨Fine.make (h.ok.hasN (by omega)), .inl rfl, ?_, rfl, rfl⟩
    exact Nat.le_trans (h.inv hf) (counts_mono (o' := o.hasN node.toNat n.toNat) rfl h.ok (hasN_had h.ok _ _ h7))
  · exact ⟨h, Grew.refl o⟩
theorem Fine.learn {o : OS} (h : o.Fine) (n : Int) : (o.learn n).1.Fine ∧ Grew o (o.learn n).1 := by
  have hk := h.ok.learn n
  unfold OS.learn at *
  split
  · rename_i hc
    rw [if_pos hc] at hk
    refine ⟨⟨hk, fun hf => ?_⟩, .inl rfl, ?_, rfl, rfl⟩
    · have : o.first = true := hf
      rw [hc.1] at this
      cases this
    · show o.sure ≤ (min n (o.log.length : Int)).toNat
      omega
  · exact ⟨h, Grew.refl o⟩
theorem mid_const {l : List Nat} (h0 : l ≠ []) {n : Nat} (h : ∀ x ∈ l, x = n) : midN l = n := h _ (mid_mem l h0)
theorem Fine.new {self : Int} {nodes : List Int} {log : List ByteArray} (h : newOk self nodes = true) (ht : ∀ s ∈ log, s.size ≤ 140737488351232) : (OS.new self nodes log).Fine := by
  have hk := OS.Ok.new h ht
  refine ⟨hk, fun _ => ?_⟩
  rw [mid_const hk.cne (n := log.length)]
  · exact Nat.le_refl _
  · intro x hx
    obtain ⟨i, hi, rfl⟩ := List.mem_map.1 hx
    have h7 := hk.lt i hi
    have hi' : i ∈ nodes.map Int.toNat := hi
    simp only [OS.new, List.getD_eq_getElem?_getD, List.getElem?_map, List.getElem?_range h7, Option.map_some, Option.getD_some, List.contains_iff_mem]
    rw [if_pos hi']
theorem Grew.take {o o' : OS} (h : Grew o o') : o'.log.take o.log.length = o.log := by
  rcases h.log with e | ⟨s, e⟩
  · rw [e, List.take_length]
  · rw [e, List.take_left]
theorem Grew.len {o o' : OS} (h : Grew o o') : o.log.length ≤ o'.log.length ∧ o'.log.length ≤ o.log.length + 1 := by
  rcases h.log with e | ⟨s, e⟩
  · rw [e]; omega
  · rw [e]; simp
end Go.Proofs.Ytjgbgbgajadgnaa
