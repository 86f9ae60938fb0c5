/-
  OrderAgrees: what holds between the turns.
-/
import Derived.Test.YtjgbgbgajadgnaaZOW5
namespace Go.Proofs.Ytjgbgbgajadgnaa
open Go.RowKit

set_option linter.unusedSimpArgs false
set_option linter.unusedVariables false
structure AaI (w W : World) (n g oc tg ug : Nat) (U : List Nat) (b : Nat) (S : List (OL × OS)) (q : OS) (T : Nat → List TL) (R : Nat → Option Addr × Nat) (X : Nat → Prop) : Prop where
  ag : AgS n S q T
  t0 : T 0 = []
  en : EnI w W X S g oc
  told : ToldI w W X n tg R T
  srow : W.ownsRow 0 3 1 (.slice (some ⟨ug, 0, none⟩) n n) n (uC U)
  xu : X ug ∧ w.heap.size ≤ ug
  ul : U.length = n
  su : ∀ i (h : i < S.length) (h2 : i < U.length), U[i] ≤ S[i].2.sure
  lq : q.log.length ≤ b
section
variable {w W W' : World} {n g oc tg ug b : Nat} {U : List Nat} {S : List (OL × OS)} {q : OS} {T : Nat → List TL} {R : Nat → Option Addr × Nat} {X : Nat → Prop}
theorem AaI.further (h : AaI w W n g oc tg ug U b S q T R X) (hb : Below W.heap.size W W') : AaI w W' n g oc tg ug U b S q T R X :=
  ⟨h.ag, h.t0, h.en.further hb, h.told.further hb, below_row hb h.srow, h.xu, h.ul, h.su, h.lq⟩
theorem AaI.le {b' : Nat} (h : AaI w W n g oc tg ug U b S q T R X) (hb : b ≤ b') : AaI w W n g oc tg ug U b' S q T R X := { h with lq := Nat.le_trans h.lq hb }
theorem AaI.srowX (h : AaI w W n g oc tg ug U b S q T R X) (ht : Touch (fun j => ¬ X j) W W') : W'.ownsRow 0 3 1 (.slice (some ⟨ug, 0, none⟩) n n) n (uC U) :=
  ht.row h.srow fun k e => (by obtain rfl : ug = k := Option.some.inj e; exact fun hx => hx h.xu.1)
theorem AaI.moreX (h : AaI w W n g oc tg ug U b S q T R X) {X' : Nat → Prop} (h1 : ∀ j, X j → X' j) (h2 : ∀ j, X' j → X j ∨ (∀ i (hi : i < S.length), ¬ S[i].1.all j) ∧ j < W.heap.size) : AaI w W n g oc tg ug U b S q T R X' := by
  refine ⟨h.ag, h.t0, h.en.reX (fun i hi j hj hx => ?_) (fun j hx => ?_) (h1 g h.en.gx), h.told.more h1, h.srow, ⟨h1 ug h.xu.1, h.xu.2⟩, h.ul, h.su, h.lq⟩
  · rcases h2 j hx with e | e
    · exact h.en.grp.xa i hi j hj e
    · exact e.1 i hi hj
  · rcases h2 j hx with e | e
    · exact h.en.grp.xl j e
    · exact e.2
theorem AaI.seq (h : AaI w W n g oc tg ug U b S q T R X) {q' : OS} {L' : OL} {b' : Nat} (hag : AgS n (S.set 0 (L', q')) q' T) (hs : q.sure ≤ q'.sure) (hE : EnI w W' X (S.set 0 (L', q')) g oc) (ht : Touch (fun j => ¬ X j) W W') (hb : q'.log.length ≤ b') : AaI w W' n g oc tg ug U b' (S.set 0 (L', q')) q' T R X := by
  refine ⟨hag, h.t0, hE, h.told.keepX ht, h.srowX ht, h.xu, h.ul, fun i hi h2 => ?_, hb⟩
  rw [List.length_set] at hi
  have h3 := h.su i hi h2
  by_cases e : i = 0
  · subst e
    rw [h.ag.q0 hi] at h3
    simp only [List.getElem_set_self]
    omega
  · rw [List.getElem_set_ne (fun x => e x.symm)]
    exact h3
theorem AaI.oth (h : AaI w W n g oc tg ug U b S q T R X) {wi : Nat} (hw : wi < S.length) {o' : OS} {L' : OL} (hag : AgS n (S.set wi (L', o')) q T) (hs : S[wi].2.sure ≤ o'.sure) (hE : EnI w W' X (S.set wi (L', o')) g oc) (ht : Touch (fun j => ¬ X j) W W') : AaI w W' n g oc tg ug U b (S.set wi (L', o')) q T R X := by
  refine ⟨hag, h.t0, hE, h.told.keepX ht, h.srowX ht, h.xu, h.ul, fun i hi h2 => ?_, h.lq⟩
  rw [List.length_set] at hi
  have h3 := h.su i hi h2
  by_cases e : i = wi
  · subst e
    simp only [List.getElem_set_self]
    omega
  · rw [List.getElem_set_ne (fun x => e x.symm)]
    exact h3
/-- One more is told. -/
theorem AaI.tell (h : AaI w W n g oc tg ug U b S q T R X) {wi : Nat} (hw : wi < n) (hw1 : 1 ≤ wi) {t : TL} (ht : t.Of q ∧ ∀ s ∈ t.texts, s.size ≤ 140737488351232) (htx : W.ownsRow 0 9 1 (.slice t.ao t.texts.length t.cp) t.texts.length (textC t.texts)) (hxt : ∀ j, t.ao.map Addr.block = some j → X j) {w3 : World} {ta : Option Addr} {tc : Nat} (hA : App W w3 0 tTell 3 (R wi).1 ((T wi).length + 1) (tellC (T wi) ++ tellV t) ta tc) :
    ∃ R' X', AaI w (w3.setCell ⟨tg, wi, none⟩ (.slice ta ((T wi).length + 1) tc)) n g oc tg ug U b S q (updT T wi (T wi ++ [t])) R' X' := by
  obtain ⟨hI, hT⟩ := h.told.tell hw htx hxt hA h.en.grp.below.size
  refine ⟨_, _, ?_, ?_, ?_, hI, ?_, ⟨.inl h.xu.1, h.xu.2⟩, h.ul, h.su, h.lq⟩
  · have := h.ag.tell wi ht
    exact this
  · rw [updT_ne _ _ (by omega)]; exact h.t0
  · refine ⟨h.en.grp.wrote hT (fun j _ e => ?_) (fun j e => ?_) (fun j e => ?_), hT.row h.en.row fun k e1 e2 => ?_, .inl h.en.gx⟩
    · rcases e with e | e
      · exact h.told.xr wi hw j e
      · subst e; exact h.told.xg
    · rcases e with e | e
      · exact .inl e
      · rcases hA.new j e with e2 | e2
        · exact .inl (h.told.xr wi hw j e2).1
        · exact .inr e2
    · rcases e with e | e
      · exact Nat.lt_of_lt_of_le (h.en.grp.xl j e) hT.size
      · have := (hA.row.lt j (by rw [ownBlock_slice]; exact e)).2
        simpa using this
    · rcases e2 with e2 | e2
      · exact row_ne h.en.row (h.told.each wi hw) (by decide +kernel) e1 (by unfold rowV; rw [ownBlock_slice]; exact e2)
      · subst e2
        exact row_ne h.en.row h.told.row (by decide +kernel) e1 rfl
  · refine hT.row h.srow fun k e1 e2 => ?_
    rcases e2 with e2 | e2
    · exact row_ne h.srow (h.told.each wi hw) (by decide +kernel) e1 (by unfold rowV; rw [ownBlock_slice]; exact e2)
    · subst e2
      exact row_ne h.srow h.told.row (by decide +kernel) e1 rfl
/-- Behind agree. -/
theorem AaI.agreed (h : AaI w W n g oc tg ug U b S q T R X) (hE : EnI w W' X S g oc) (hu : W'.ownsRow 0 3 1 (.slice (some ⟨ug, 0, none⟩) n n) n (uC (sureS S))) (ht : Touch (fun j => j = ug) W W') : AaI w W' n g oc tg ug (sureS S) b S q T R X :=
  ⟨h.ag, h.t0, hE, h.told.apartRow h.srow (by decide +kernel) (by decide +kernel) (by decide +kernel) (ht.mono fun j _ e => by rw [e]; rfl), hu, h.xu, by simp [sureS, h.ag.len], fun i hi h2 => by simp [sureS], h.lq⟩
end
end Go.Proofs.Ytjgbgbgajadgnaa
