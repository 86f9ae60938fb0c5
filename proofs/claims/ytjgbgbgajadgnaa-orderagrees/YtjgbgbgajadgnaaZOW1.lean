/-
  OrderAgrees on lists: what holds of all of them, whatever is told late, lost or twice.
-/
import Derived.Test.YtjgbgbgajadgnaaZOX2
namespace Go.Proofs.Ytjgbgbgajadgnaa
open Go.RowKit

set_option linter.unusedSimpArgs false
set_option linter.unusedVariables false
/-- What was told to one, and where its texts lie. -/
structure TL where
  at0 : Nat
  sure : Nat
  texts : List ByteArray
  ao : Option Addr
  cp : Nat
structure TL.Of (t : TL) (q : OS) : Prop where
  sure : t.sure ≤ q.sure
  at0 : t.at0 ≤ q.log.length
  texts : ∀ j (h : j < t.texts.length), q.log[t.at0 + j]? = some t.texts[j]
theorem TL.Of.grew {t : TL} {q q' : OS} (h : t.Of q) (hg : Grew q q') : t.Of q' := by
  refine ⟨Nat.le_trans h.sure hg.sure, Nat.le_trans h.at0 hg.len.1, fun j hj => ?_⟩
  have h1 := h.texts j hj
  have hlt := (List.getElem?_eq_some_iff.1 h1).1
  have := hg.take
  rw [← this, List.getElem?_take, if_pos hlt] at h1
  exact h1
/-- One of them. -/
structure AgO (n i : Nat) (q o : OS) : Prop where
  fine : o.Fine
  self : o.self = i
  nodes : o.nodes = List.range n
  log : o.log <+: q.log
  sure : o.sure ≤ q.sure
  had : 1 ≤ i → q.had.getD i 0 ≤ o.log.length
theorem pre_grew {q q' : OS} (hg : Grew q q') : q.log <+: q'.log := ⟨q'.log.drop q.log.length, by
  have := List.take_append_drop q.log.length q'.log
  rw [hg.take] at this
  exact this⟩
theorem pre_len {a b : List ByteArray} (h : a <+: b) : a.length ≤ b.length := h.length_le
theorem AgO.q {n i : Nat} {q q' o : OS} (h : AgO n i q o) (hg : Grew q q') (hh : 1 ≤ i → q'.had.getD i 0 ≤ o.log.length) : AgO n i q' o :=
  ⟨h.fine, h.self, h.nodes, h.log.trans (pre_grew hg), Nat.le_trans h.sure hg.sure, hh⟩
theorem AgO.self' {n : Nat} {q : OS} (hf : q.Fine) (h1 : q.self = 0) (h2 : q.nodes = List.range n) : AgO n 0 q q := ⟨hf, h1, h2, List.prefix_refl _, Nat.le_refl _, fun h => by omega⟩
theorem propose_had {q : OS} (hq : q.Ok) (s : ByteArray) (i : Nat) (hi : i ≠ q.self) : (q.propose s).1.had.getD i 0 = q.had.getD i 0 := by
  unfold OS.propose
  split
  · split
    · show (q.had.set q.self _).getD i 0 = _
      rw [getD_set _ _ _ _ (by rw [hq.seven]; exact hq.slf), if_neg hi]
    · rfl
  · rfl
theorem has_had {q : OS} (hq : q.Ok) (w m i : Nat) : (q.has (w : Int) (m : Int)).1.had.getD i 0 ≤ (if i = w then max (q.had.getD w 0) m else q.had.getD i 0) := by
  unfold OS.has
  split
  · rename_i hc
    obtain ⟨_, _, _, _, h7⟩ := hq.asks hc.1
    show (q.had.set w _).getD i 0 ≤ _
    rw [getD_set _ _ _ _ (by rw [hq.seven]; exact h7)]
    split <;> exact Nat.le_refl _
  · by_cases e : i = w
    · rw [if_pos e, e]; exact Nat.le_max_left _ _
    · rw [if_neg e]; exact Nat.le_refl _
theorem AgO.add {n i : Nat} {q o : OS} (h : AgO n i q o) (hi : 1 ≤ i) {t : TL} (ht : t.Of q) (j : Nat) (hj : j < t.texts.length) (hs : t.texts[j].size ≤ 140737488351232) : AgO n i q (o.add ((t.at0 + j : Nat) : Int) t.texts[j]).1 := by
  have hf := Fine.add h.fine ((t.at0 + j : Nat) : Int) t.texts[j] hs
  unfold OS.add at *
  split
  · rename_i hc
    rw [if_pos hc] at hf
    have hl : o.log.length = t.at0 + j := by have := hc.2.1; omega
    refine ⟨hf.1, h.self, h.nodes, ?_, h.sure, fun h1 => ?_⟩
    · show o.log ++ [t.texts[j]] <+: q.log
      obtain ⟨r, hr⟩ := h.log
      have h1 := ht.texts j hj
      rw [← hl, ← hr, List.getElem?_append_right (Nat.le_refl _), Nat.sub_self] at h1
      cases r with
      | nil => simp at h1
      | cons x r =>
        simp at h1
        subst h1
        exact ⟨r, by rw [← hr]; simp⟩
    · have := h.had h1
      show _ ≤ (o.log ++ [t.texts[j]]).length
      rw [List.length_append]
      omega
  · exact h
theorem AgO.learn {n i : Nat} {q o : OS} (h : AgO n i q o) {m : Nat} (hm : m ≤ q.sure) : AgO n i q (o.learn (m : Int)).1 := by
  have hf := Fine.learn h.fine (m : Int)
  unfold OS.learn at *
  split
  · rename_i hc
    rw [if_pos hc] at hf
    refine ⟨hf.1, h.self, h.nodes, h.log, ?_, h.had⟩
    show (min (m : Int) (o.log.length : Int)).toNat ≤ q.sure
    omega
  · exact h
/-- All of them. -/
structure AgS (n : Nat) (S : List (OL × OS)) (q : OS) (T : Nat → List TL) : Prop where
  len : S.length = n
  n0 : 0 < n
  n7 : n ≤ 7
  q0 : ∀ h : 0 < S.length, S[0].2 = q
  each : ∀ i (h : i < S.length), AgO n i q S[i].2
  told : ∀ i, i < n → ∀ t ∈ T i, t.Of q ∧ ∀ s ∈ t.texts, s.size ≤ 140737488351232
theorem AgS.qa {n : Nat} {S : List (OL × OS)} {q : OS} {T : Nat → List TL} (h : AgS n S q T) : AgO n 0 q q := by
  have h0 : 0 < S.length := by rw [h.len]; exact h.n0
  have := h.each 0 h0
  rw [h.q0 h0] at this
  exact this
theorem AgS.sequencer {n : Nat} {S : List (OL × OS)} {q q' : OS} {T : Nat → List TL} (h : AgS n S q T) (L' : OL) (hf : q'.Fine) (hg : Grew q q') (hh : ∀ i (hi : i < S.length), 1 ≤ i → q'.had.getD i 0 ≤ S[i].2.log.length) : AgS n (S.set 0 (L', q')) q' T := by
  have h0 : 0 < S.length := by rw [h.len]; exact h.n0
  have hqa := h.qa
  refine ⟨by rw [List.length_set]; exact h.len, h.n0, h.n7, fun hx => by simp, fun i hi => ?_, fun i hi t ht => ⟨(h.told i hi t ht).1.grew hg, (h.told i hi t ht).2⟩⟩
  rw [List.length_set] at hi
  by_cases e : i = 0
  · subst e
    simp only [List.getElem_set_self]
    exact AgO.self' hf (hg.self.trans hqa.self) (hg.nodes.trans hqa.nodes)
  · rw [List.getElem_set_ne (fun x => e x.symm)]
    exact (h.each i hi).q hg (hh i hi)
theorem AgS.propose {n : Nat} {S : List (OL × OS)} {q : OS} {T : Nat → List TL} (h : AgS n S q T) (L' : OL) (s : ByteArray) (hs : s.size ≤ 140737488351232) : AgS n (S.set 0 (L', (q.propose s).1)) (q.propose s).1 T := by
  have hqa := h.qa
  have hp := Fine.propose hqa.fine s hs
  refine h.sequencer L' hp.1 hp.2 fun i hi h1 => ?_
  rw [propose_had hqa.fine.ok s i (by rw [hqa.self]; omega)]
  exact (h.each i hi).had h1
theorem AgS.has {n : Nat} {S : List (OL × OS)} {q : OS} {T : Nat → List TL} (h : AgS n S q T) (L' : OL) (w : Nat) (hw : w < S.length) (hw1 : 1 ≤ w) : AgS n (S.set 0 (L', (q.has (w : Int) (S[w].2.log.length : Int)).1)) (q.has (w : Int) (S[w].2.log.length : Int)).1 T := by
  have hqa := h.qa
  have hp := Fine.has hqa.fine (w : Int) (S[w].2.log.length : Int)
  refine h.sequencer L' hp.1 hp.2 fun i hi h1 => ?_
  refine Nat.le_trans (has_had hqa.fine.ok w _ i) ?_
  by_cases e : i = w
  · subst e
    rw [if_pos rfl]
    have := (h.each i hi).had h1
    omega
  · rw [if_neg e]
    exact (h.each i hi).had h1
theorem AgS.other {n : Nat} {S : List (OL × OS)} {q o' : OS} {T : Nat → List TL} (h : AgS n S q T) (L' : OL) {w : Nat} (hw : w < S.length) (hw1 : 1 ≤ w) (ho : AgO n w q o') : AgS n (S.set w (L', o')) q T := by
  refine ⟨by rw [List.length_set]; exact h.len, h.n0, h.n7, fun hx => ?_, fun i hi => ?_, h.told⟩
  · rw [List.length_set] at hx
    rw [List.getElem_set_ne (by omega)]
    exact h.q0 hx
  · rw [List.length_set] at hi
    by_cases e : i = w
    · subst e
      simp only [List.getElem_set_self]
      exact ho
    · rw [List.getElem_set_ne (fun x => e x.symm)]
      exact h.each i hi
theorem AgS.tell {n : Nat} {S : List (OL × OS)} {q : OS} {T : Nat → List TL} (h : AgS n S q T) (w : Nat) {t : TL} (ht : t.Of q ∧ ∀ s ∈ t.texts, s.size ≤ 140737488351232) : AgS n S q (fun i => if i = w then T w ++ [t] else T i) := by
  refine ⟨h.len, h.n0, h.n7, h.q0, h.each, fun i hi x hx => ?_⟩
  by_cases e : i = w
  · subst e
    simp only [if_true] at hx
    rcases List.mem_append.1 hx with hx | hx
    · exact h.told i hi x hx
    · simp at hx; subst hx; exact ht
  · rw [if_neg e] at hx
    exact h.told i hi x hx
def lensS (S : List (OL × OS)) : List Nat := S.map fun x => x.2.log.length
theorem AgS.most {n : Nat} {S : List (OL × OS)} {q : OS} {T : Nat → List TL} (h : AgS n S q T) {i : Nat} (hi : i < S.length) : S.length < 2 * cnt (lensS S) S[i].2.sure := by
  have hqa := h.qa
  have hfirst : q.first = true := by
    have h1 := hqa.fine.ok.pos
    unfold OS.first
    rw [hqa.nodes] at *
    rw [hqa.self]
    have := h.n0
    cases n with
    | zero => omega
    | succ n => simp [List.getD_eq_getElem?_getD]
  have hv : S[i].2.sure ≤ midN q.counts := Nat.le_trans (h.each i hi).sure (hqa.fine.inv hfirst)
  have h1 := (mid_iff q.counts hqa.fine.ok.cne _).1 hv
  have hcl : q.counts.length = n := by simp [OS.counts, hqa.nodes]
  rw [hcl] at h1
  rw [h.len]
  refine Nat.lt_of_lt_of_le h1 (Nat.mul_le_mul_left _ (cnt_mono ?_ ?_ _))
  · rw [hcl]; simp [lensS, h.len]
  · intro k hk
    rw [hcl] at hk
    have e1 : q.counts[k]'(by rw [hcl]; exact hk) = q.had.getD k 0 := by simp [OS.counts, hqa.nodes]
    have e2 : (lensS S)[k]'(by simp [lensS, h.len]; exact hk) = (S[k]'(by rw [h.len]; exact hk)).2.log.length := by simp [lensS]
    rw [e1, e2]
    by_cases e : k = 0
    · subst e
      rw [h.q0 (by rw [h.len]; exact hk)]
      exact hqa.fine.ok.get 0
    · exact (h.each k (by rw [h.len]; exact hk)).had (by omega)
theorem AgS.start {n : Nat} (h0 : 0 < n) (hn : n ≤ 7) {log : List ByteArray} (hs : ∀ s ∈ log, s.size ≤ 140737488351232) {S : List (OL × OS)} (hl : S.length = n) (hS : ∀ i (h : i < S.length), S[i].2 = OS.new (i : Int) (rangeI n) log) : AgS n S (OS.new 0 (rangeI n) log) (fun _ => []) := by
  refine ⟨hl, h0, hn, fun h => hS 0 h, fun i hi => ?_, fun i hi t ht => by cases ht⟩
  rw [hS i hi]
  have hf := Fine.new (rangeI_ok n i (by omega) hn) hs
  refine ⟨hf, rfl, rangeI_nat n, List.prefix_refl _, Nat.le_refl _, fun _ => ?_⟩
  rw [new_had i (by omega)]
  show (if _ then log.length else 0) ≤ log.length
  split <;> omega
end Go.Proofs.Ytjgbgbgajadgnaa
