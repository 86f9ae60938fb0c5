/-
  Orders beside each other; the laws' examples, as they run.
-/
import Derived.Test.YtjgbgbgajadgnaaZOJ
namespace Go.Proofs.Ytjgbgbgajadgnaa
open Go.RowKit

set_option linter.unusedSimpArgs false
set_option linter.unusedVariables false
/-- Orders in memory, apart, new since w; X: blocks that are none of theirs. -/
structure Group (w wv : World) (X : Nat → Prop) (S : List (OL × OS)) : Prop where
  each : ∀ i (h : i < S.length), OAt wv S[i].1 S[i].2
  below : Below w.heap.size w wv
  new : ∀ i (h : i < S.length), ∀ j, S[i].1.all j → w.heap.size ≤ j
  apart : ∀ i k (hi : i < S.length) (hk : k < S.length), i ≠ k → ∀ j, S[i].1.all j → ¬ S[k].1.all j
  xa : ∀ i (h : i < S.length), ∀ j, S[i].1.all j → ¬ X j
  xl : ∀ j, X j → j < wv.heap.size
theorem OStep.all {w w' : World} {L L' : OL} (h : OStep w w' L L') {j : Nat} (hj : L'.all j) : L.all j ∨ w.heap.size ≤ j := by
  rcases hj with e | e | e
  · rw [h.b] at e; exact .inl (.inl e)
  · rcases h.own j (.inr e) with e2 | e2
    · exact .inl (e2.elim .inl fun e => .inr (.inl e))
    · exact .inr e2
  · rw [h.no] at e; exact .inl (.inr (.inr e))
theorem own_all {L : OL} {j : Nat} (h : L.own j) : L.all j := h.elim .inl fun e => .inr (.inl e)
theorem Group.nil {w wv : World} {X : Nat → Prop} (hb : Below w.heap.size w wv) (hx : ∀ j, X j → j < wv.heap.size) : Group w wv X [] :=
  ⟨fun i h => by simp at h, hb, fun i h => by simp at h, fun i k h => by simp at h, fun i h => by simp at h, hx⟩
theorem Group.further {w wv w' : World} {X : Nat → Prop} {S : List (OL × OS)} (h : Group w wv X S) (hb : Below wv.heap.size wv w') : Group w w' X S :=
  ⟨fun i hi => (h.each i hi).below hb, h.below.trans (hb.mono h.below.size), h.new, h.apart, h.xa, fun j hj => Nat.lt_of_lt_of_le (h.xl j hj) hb.size⟩
theorem Group.reX {w wv : World} {X X' : Nat → Prop} {S : List (OL × OS)} (h : Group w wv X S) (h1 : ∀ i (h : i < S.length), ∀ j, S[i].1.all j → ¬ X' j) (h2 : ∀ j, X' j → j < wv.heap.size) : Group w wv X' S :=
  ⟨h.each, h.below, h.new, h.apart, h1, h2⟩
theorem Group.snoc {w wv w' : World} {X : Nat → Prop} {S : List (OL × OS)} {L : OL} {o : OS} {b : Nat} (h : Group w wv X S) (hn : NW wv w' L o b) : Group w w' X (S ++ [(L, o)]) := by
  have h1 := h.further hn.below
  have hget : ∀ i (hi : i < (S ++ [(L, o)]).length), (∃ h : i < S.length, (S ++ [(L, o)])[i] = S[i]) ∨ (i = S.length ∧ (S ++ [(L, o)])[i] = (L, o)) := by
    intro i hi
    rw [List.length_append, List.length_cons, List.length_nil] at hi
    by_cases e : i < S.length
    · exact .inl ⟨e, List.getElem_append_left e⟩
    · have e2 : i = S.length := by omega
      subst e2
      exact .inr ⟨rfl, by simp⟩
  refine ⟨fun i hi => ?_, h1.below, fun i hi j hj => ?_, fun i k hi hk hne j hj hj2 => ?_, fun i hi j hj hx => ?_, h1.xl⟩
  · rcases hget i hi with ⟨e, e2⟩ | ⟨_, e2⟩
    · rw [e2]; exact h1.each i e
    · rw [e2]; exact hn.at'
  · rcases hget i hi with ⟨e, e2⟩ | ⟨_, e2⟩
    · rw [e2] at hj; exact h1.new i e j hj
    · rw [e2] at hj; exact Nat.le_trans h.below.size (hn.new j hj)
  · rcases hget i hi with ⟨e, e2⟩ | ⟨e1, e2⟩ <;> rcases hget k hk with ⟨f, f2⟩ | ⟨f1, f2⟩ <;> rw [e2] at hj <;> rw [f2] at hj2
    · exact h1.apart i k e f hne j hj hj2
    · have a := (h.each i e).lt hj; have b := hn.new j hj2; omega
    · have a := (h.each k f).lt hj2; have b := hn.new j hj; omega
    · omega
  · rcases hget i hi with ⟨e, e2⟩ | ⟨_, e2⟩
    · rw [e2] at hj; exact h1.xa i e j hj hx
    · rw [e2] at hj; have a := hn.new j hj; have b := h.xl j hx; omega
theorem Group.step {w wv w' : World} {X : Nat → Prop} {S : List (OL × OS)} {i : Nat} (h : Group w wv X S) (hi : i < S.length) {L' : OL} {o' : OS} (h2 : OAt w' L' o') (hs : OStep wv w' S[i].1 L') : Group w w' X (S.set i (L', o')) := by
  have hb : Below w.heap.size wv w' := hs.touch.toBelow h.below.size fun k hk e => by
    have := h.new i hi k (own_all e)
    omega
  have hget : ∀ k (hk : k < (S.set i (L', o')).length), (k = i ∧ (S.set i (L', o'))[k] = (L', o')) ∨ (∃ h : k < S.length, k ≠ i ∧ (S.set i (L', o'))[k] = S[k]) := by
    intro k hk
    rw [List.length_set] at hk
    by_cases e : k = i
    · subst e; exact .inl ⟨rfl, by simp⟩
    · exact .inr ⟨hk, e, by rw [List.getElem_set_ne (fun x => e x.symm)]⟩
  have hall : ∀ j, L'.all j → S[i].1.all j ∨ wv.heap.size ≤ j := fun j hj => hs.all hj
  refine ⟨fun k hk => ?_, h.below.trans hb, fun k hk j hj => ?_, fun k m hk hm hne j hj hj2 => ?_, fun k hk j hj hx => ?_, fun j hj => Nat.lt_of_lt_of_le (h.xl j hj) hs.touch.size⟩
  · rcases hget k hk with ⟨_, e2⟩ | ⟨e, hne, e2⟩
    · rw [e2]; exact h2
    · rw [e2]; exact (h.each k e).keep hs.touch fun j hj hj2 => h.apart k i e hi hne j hj (own_all hj2)
  · rcases hget k hk with ⟨_, e2⟩ | ⟨e, hne, e2⟩
    · rw [e2] at hj
      rcases hall j hj with a | a
      · exact h.new i hi j a
      · exact Nat.le_trans h.below.size a
    · rw [e2] at hj; exact h.new k e j hj
  · rcases hget k hk with ⟨e1, e2⟩ | ⟨e, hne1, e2⟩ <;> rcases hget m hm with ⟨f1, f2⟩ | ⟨f, hne2, f2⟩ <;> rw [e2] at hj <;> rw [f2] at hj2
    · omega
    · rcases hall j hj with a | a
      · exact h.apart i m hi f (fun x => hne2 x.symm) j a hj2
      · have := (h.each m f).lt hj2; omega
    · rcases hall j hj2 with a | a
      · exact h.apart k i e hi hne1 j hj a
      · have := (h.each k e).lt hj; omega
    · exact h.apart k m e f hne j hj hj2
  · rcases hget k hk with ⟨_, e2⟩ | ⟨e, hne, e2⟩
    · rw [e2] at hj
      rcases hall j hj with a | a
      · exact h.xa i hi j a hx
      · have := h.xl j hx; omega
    · rw [e2] at hj; exact h.xa k e j hj hx
/-- What is none of theirs stays. -/
theorem Group.xtouch {w wv w' : World} {X : Nat → Prop} {S : List (OL × OS)} {i : Nat} (h : Group w wv X S) (hi : i < S.length) {L' : OL} (hs : OStep wv w' S[i].1 L') : ∀ j, X j → ¬ S[i].1.own j := fun j hx hj => h.xa i hi j (own_all hj) hx

theorem mid_eq {l : List Nat} (hl : l ≠ []) (v : Nat) (h1 : l.length < 2 * cnt l v) (h2 : ¬ l.length < 2 * cnt l (v + 1)) : midN l = v := by
  have a := (mid_iff l hl v).2 h1
  have b : ¬ v + 1 ≤ midN l := fun h => h2 ((mid_iff l hl (v + 1)).1 h)
  omega
def tA : ByteArray := ⟨#[97]⟩
def tB : ByteArray := ⟨#[98]⟩
def exO0 : OS := ⟨0, [0, 1, 2], [tA], 5, 1, [1, 1, 1, 0, 0, 0, 0]⟩
def exO1 : OS := ⟨0, [0, 1, 2], [tA, tB], 10, 1, [2, 1, 1, 0, 0, 0, 0]⟩
def exO2 : OS := ⟨0, [0, 1, 2], [tA, tB], 10, 2, [2, 2, 1, 0, 0, 0, 0]⟩
def exP0 : OS := ⟨1, [0, 1, 2], [tA], 5, 1, [1, 1, 1, 0, 0, 0, 0]⟩
def exP1 : OS := ⟨1, [0, 1, 2], [tA, tB], 10, 1, [1, 2, 1, 0, 0, 0, 0]⟩
def exP2 : OS := ⟨1, [0, 1, 2], [tA, tB], 10, 2, [1, 2, 1, 0, 0, 0, 0]⟩
theorem ex_new0 : OS.new 0 [0, 1, 2] [tA] = exO0 := by kernel_rfl
theorem ex_new1 : OS.new 1 [0, 1, 2] [tA] = exP0 := by kernel_rfl
theorem ex_prop : exO0.propose tB = (exO1, 1, 0) := by
  have h : midN [2, 1, 1] = 1 := mid_eq (by simp) 1 (by decide) (by decide)
  have h1 : exO0.first = true := by decide
  have h2 : exO0.fits tB = true := by kernel_rfl
  have h3 : exO0.keep tB = { exO1 with sure := 1 } := by kernel_rfl
  unfold OS.propose
  rw [if_pos h1, if_pos h2, h3]
  unfold OS.make
  rw [show OS.counts { exO1 with sure := 1 } = [2, 1, 1] from rfl, h]
  rfl
theorem ex_wants : exO1.wants 1 9 = (1, [tB]) := by rfl
theorem ex_add2 : exP0.add 2 ⟨#[120]⟩ = (exP0, false) := by
  unfold OS.add
  rw [if_neg]
  rintro ⟨_, h, _⟩
  revert h
  decide
theorem ex_add1 : exP0.add 1 tB = (exP1, true) := by
  have h2 : exP0.fits tB = true := by kernel_rfl
  have h3 : exP0.keep tB = exP1 := by kernel_rfl
  unfold OS.add
  rw [if_pos ⟨by decide, by rfl, h2⟩, h3]
theorem ex_has : exO1.has 1 2 = (exO2, true) := by
  have h : midN [2, 2, 1] = 2 := mid_eq (by simp) 2 (by decide) (by decide)
  unfold OS.has
  rw [if_pos ⟨by decide, by decide, by decide⟩]
  unfold OS.make
  rw [show OS.counts (exO1.hasN (1 : Int).toNat (2 : Int).toNat) = [2, 2, 1] from rfl, h]
  rfl
theorem ex_learn : exP1.learn 2 = (exP2, true) := by
  unfold OS.learn
  rw [if_pos ⟨by decide, by decide⟩]
  rfl
theorem ex_prop2 : exP2.propose ⟨#[99]⟩ = (exP2, 0, 11) := by rfl
end Go.Proofs.Ytjgbgbgajadgnaa
