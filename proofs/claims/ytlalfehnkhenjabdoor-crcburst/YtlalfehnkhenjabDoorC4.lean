/-
  The document's own All, as it runs.
-/
import Derived.Test.YtlalfehnkhenjabDoorC3
import Derived.Laws.AppendOwn
import Derived.Laws.OwnMore
namespace Go.Proofs.YtlalfehnkhenjabDoor
open Go.RowKit

def strCells (l : List (List UInt8)) : List Value := l.map fun b => .string ⟨b.toArray⟩
theorem strCells_snoc (l : List (List UInt8)) (b : List UInt8) : strCells (l ++ [b]) = strCells l ++ [.string ⟨b.toArray⟩] := by simp [strCells]

theorem takeF_ok (s : List UInt8) (h : (takeF s).2.2 = 0) : 8 ≤ (takeF s).2.1 ∧ (takeF s).2.1 ≤ s.length := by
  unfold takeF at *
  by_cases h1 : s.length < 4
  · rw [if_pos h1] at h; simp at h
  · rw [if_neg h1] at h ⊢
    by_cases h2 : 400000 < Lib.beNat (s.take 4)
    · rw [if_pos h2] at h; simp at h
    · rw [if_neg h2] at h ⊢
      by_cases h3 : s.length < 8 + Lib.beNat (s.take 4)
      · rw [if_pos h3] at h; simp at h
      · rw [if_neg h3] at h ⊢
        by_cases h4 : Lib.beNat ((s.drop 4).take 4) ≠ sumF (s.take 4 ++ (s.drop 8).take (Lib.beNat (s.take 4)))
        · rw [if_pos h4] at h; simp at h
        · rw [if_neg h4]
          exact ⟨by simp, by simp only; omega⟩

/-- What is left to tell comes, behind what was told, to the result. -/
structure AI (s : List UInt8) (out : List (List UInt8)) (used : Nat) (R : List (List UInt8) × Nat × Int) : Prop where
  le : used ≤ s.length
  many : 8 * out.length ≤ used
  spec : ∃ f, s.length - used < f ∧ R = (out ++ (allF f (s.drop used)).1, used + (allF f (s.drop used)).2.1, (allF f (s.drop used)).2.2)

theorem AI.init (s : List UInt8) : AI s [] 0 (allF (s.length + 1) s) := ⟨Nat.zero_le _, by simp, s.length + 1, by omega, by simp⟩
theorem AI.done {s : List UInt8} {out : List (List UInt8)} {used : Nat} {R : List (List UInt8) × Nat × Int} (h : AI s out used R) (he : used = s.length) : R = (out, used, 0) := by
  obtain ⟨f, hf, hR⟩ := h.spec
  obtain ⟨g, rfl⟩ : ∃ g, f = g + 1 := ⟨f - 1, by omega⟩
  rw [hR, List.drop_of_length_le (by omega), allF, if_pos rfl]
  simp
theorem AI.ne {s : List UInt8} {used : Nat} (h : used < s.length) : s.drop used ≠ [] := by
  intro e
  have := congrArg List.length e
  simp at this
  omega
theorem AI.fault {s : List UInt8} {out : List (List UInt8)} {used : Nat} {R : List (List UInt8) × Nat × Int} (h : AI s out used R) (hl : used < s.length) (he : (takeF (s.drop used)).2.2 ≠ 0) : R = (out, used, (takeF (s.drop used)).2.2) := by
  obtain ⟨f, hf, hR⟩ := h.spec
  obtain ⟨g, rfl⟩ : ∃ g, f = g + 1 := ⟨f - 1, by omega⟩
  rw [hR, allF, if_neg (AI.ne hl), if_neg he]
  simp
theorem AI.next {s : List UInt8} {out : List (List UInt8)} {used : Nat} {R : List (List UInt8) × Nat × Int} (h : AI s out used R) (hl : used < s.length) (he : (takeF (s.drop used)).2.2 = 0) : AI s (out ++ [(takeF (s.drop used)).1]) (used + (takeF (s.drop used)).2.1) R ∧ 0 < (takeF (s.drop used)).2.1 := by
  obtain ⟨h1, h2⟩ := takeF_ok _ he
  rw [List.length_drop] at h2
  have hm := h.many
  refine ⟨⟨by omega, by rw [List.length_append, List.length_singleton]; omega, ?_⟩, by omega⟩
  obtain ⟨f, hf, hR⟩ := h.spec
  obtain ⟨g, rfl⟩ : ∃ g, f = g + 1 := ⟨f - 1, by omega⟩
  refine ⟨g, by omega, ?_⟩
  rw [hR, allF, if_neg (AI.ne hl), if_pos he, List.drop_drop]
  refine Prod.ext ?_ (Prod.ext ?_ rfl)
  · simp
  · simp only; omega

theorem AI.fits {s : List UInt8} {out : List (List UInt8)} {used : Nat} {R : List (List UInt8) × Nat × Int} (h : AI s out used R) : out.length ≤ R.1.length := by
  obtain ⟨f, _, hR⟩ := h.spec
  rw [hR]
  simp

/-- The world in a round: the list that grows. -/
structure AS (w w' : World) (v : Value) (l : List (List UInt8)) : Prop where
  below : Below w.heap.size w w'
  own : w'.ownsRow w.heap.size 9 1 v l.length (strCells l)

theorem nil_owned (w : World) (b : Nat) (e : TypeId) (z : Nat) : w.ownsRow b e z (.slice none 0 0) 0 [] := ⟨by simp, Or.inl ⟨rfl, rfl⟩⟩
theorem own_below {w w' : World} {B N : Nat} {e : TypeId} {size : Nat} {v : Value} {n : Nat} {xs : List Value} (h : w.ownsRow B e size v n xs) (hb : Below N w w') (hN : w.heap.size ≤ N) : w'.ownsRow B e size v n xs := by
  refine ⟨h.1, ?_⟩
  rcases h.2 with h2 | ⟨g, cap, cur, hv, hg, hh, r⟩
  · exact Or.inl h2
  · exact Or.inr ⟨g, cap, cur, hv, hg, by rw [hb.block g (by have := (Array.getElem?_eq_some_iff.1 hh).1; omega)]; exact hh, r⟩
theorem own_shape {w : World} {B : Nat} {e : TypeId} {size : Nat} {v : Value} {n : Nat} {xs : List Value} (h : w.ownsRow B e size v n xs) : ∃ ao cap, v = .slice ao n cap := by
  rcases h.2 with ⟨h2, h3⟩ | ⟨g, cap, cur, hv, r⟩
  · exact ⟨none, 0, by rw [h2, h3]⟩
  · exact ⟨_, _, hv⟩
theorem AS.init (w : World) : AS w w (.slice none 0 0) [] := ⟨Below.refl _ _, nil_owned _ _ _ _⟩
theorem AS.after {w w' w2 : World} {v : Value} {l : List (List UInt8)} (h : AS w w' v l) (hb : Below w'.heap.size w' w2) : AS w w2 v l :=
  ⟨h.below.trans (hb.mono h.below.size), own_below h.own hb (Nat.le_refl _)⟩
theorem AS.append {w w' w4 : World} {v v' : Value} {l : List (List UInt8)} {b : List UInt8} {o : Obj} (h : AS w w' v l) (hg : (w'.alloc o).grownBy w4 v.ownBlock) (hown : w4.ownsRow w.heap.size 9 1 v' (l.length + 1) (strCells l ++ [.string ⟨b.toArray⟩])) : AS w w4 v' (l ++ [b]) := by
  have hs := h.below.size
  refine ⟨(h.below.alloc (by omega) o).grown hg (by simp; omega) (fun k hk => (h.own.lt k hk).1), ?_⟩
  rw [List.length_append, List.length_singleton, strCells_snoc]; exact hown

theorem cells_new1 (W : World) (a : Value) (t : TypeId) (n : Nat) (hn : n = W.heap.size) : ∀ (j : Nat) (u : Value), [a][j]? = some u → (W.alloc (.cells #[a] t)).cell? ((⟨n, 0, none⟩ : Addr).add j) = some u := by
  subst hn
  intro j u hj
  match j, hj with
  | 0, hj => simp at hj; subst hj; simp [Addr.add]
  | j + 1, hj => simp at hj
theorem Tryd.infoStr : Tryd.prog.info? 9 = some Tryd.t9 := by kernel_rfl
theorem Tryd.zeroStr : Tryd.t9.zero = some (.string ⟨#[]⟩) := by kernel_rfl
theorem Tryd.sizeStr : Tryd.t9.size = 1 := by kernel_rfl
theorem Tryd.bytesStr : Tryd.t9.bytes = 16 := by kernel_rfl


end Go.Proofs.YtlalfehnkhenjabDoor
