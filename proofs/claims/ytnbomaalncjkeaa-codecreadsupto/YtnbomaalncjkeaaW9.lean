import Derived.Test.YtnbomaalncjkeaaW8
namespace Go.Proofs.Ytnbomaalncjkeaa
open Go.RowKit

theorem builder_kept {T e : TypeId} {B b : Nat} {bs : List Value} {w w' : World} (h : Lib.IsBuilderF T e B b bs w) (hk : ∀ i, i < w.heap.size → w'.heap[i]? = w.heap[i]?) : Lib.IsBuilderF T e B b bs w' := by
  have key : ∀ p, Lib.BuilderAtF T e B b p bs w → Lib.BuilderAtF T e B b p bs w' := by
    rintro p ⟨h1, v, h2, ⟨h3, h4⟩, h5⟩
    refine ⟨h1, v, by rw [hk b (Array.getElem?_eq_some_iff.1 h2).1]; exact h2, ⟨h3, ?_⟩, h5⟩
    rcases h4 with h4 | ⟨g, cap, cur, fz, hv, hg, hh, r⟩
    · exact Or.inl h4
    · exact Or.inr ⟨g, cap, cur, fz, hv, hg, by rw [hk g (Array.getElem?_eq_some_iff.1 hh).1]; exact hh, r⟩
  exact h.imp (key _) (key _)

theorem builder_alloc {T e : TypeId} {B b : Nat} {bs : List Value} {w : World} (h : Lib.IsBuilderF T e B b bs w) (o : Obj) : Lib.IsBuilderF T e B b bs (w.alloc o) :=
  builder_kept h fun i hi => Lib.alloc_old w o i hi

theorem builder_lt {T e : TypeId} {B b : Nat} {bs : List Value} {w : World} (h : Lib.IsBuilderF T e B b bs w) : b < w.heap.size := by
  rcases h with h | h
  · obtain ⟨_, v, h2, _⟩ := h; exact (Array.getElem?_eq_some_iff.1 h2).1
  · obtain ⟨_, v, h2, _⟩ := h; exact (Array.getElem?_eq_some_iff.1 h2).1
theorem builder_le {T e : TypeId} {B b : Nat} {bs : List Value} {w : World} (h : Lib.IsBuilderF T e B b bs w) : B ≤ b := by
  rcases h with h | h <;> exact h.1

/-- A box beside the builder is still there. -/
theorem box_kept {w w' : World} {b : Nat} {x0 x1 x2 : Value} (hb : b < w.heap.size) (h : Lib.OthersKept 5 (some b) (w.alloc (.cells #[x0, x1, x2] 39)) w') :
    w'.cell? ⟨w.heap.size, 0, none⟩ = some x0 ∧ w'.cell? ⟨w.heap.size, 1, none⟩ = some x1 ∧ w'.cell? ⟨w.heap.size, 2, none⟩ = some x2 := by
  have h1 : (w.alloc (.cells #[x0, x1, x2] 39)).heap[w.heap.size]? = some (.cells #[x0, x1, x2] 39) := by
    show (w.heap.push _)[w.heap.size]? = _
    simp
  have h2 := h _ _ h1 (by intro e; injection e with e; omega) (by intro c fz e; injection e with e1 e2; exact absurd e2 (by decide))
  exact ⟨by rw [Lib.cell_of_heap h2]; rfl, by rw [Lib.cell_of_heap h2]; rfl, by rw [Lib.cell_of_heap h2]; rfl⟩

set_option maxHeartbeats 400000 in
theorem writeItem_any (B b : Nat) (bs : List Value) (x : It) (w : World) (hx : x.ok) (hsl : x.s.size ≤ 100000) (hlen : bs.length ≤ 900000000)
    (h : Lib.IsBuilderF 49 5 B b bs w) (hBw : B ≤ w.heap.size) :
    Calls Try.prog 22 #[.pointer (some ⟨b, 0, none⟩), .agg #[.int .i64 x.k, .int .u64 x.n, .string x.s]] w fun e w' => e = .returned (.tuple #[]) ∧ Lib.IsBuilderF 49 5 B b (bs ++ Lib.byteCells (itemB x)) w' ∧ Below B w w' := by
  obtain ⟨k, n, s⟩ := x
  obtain ⟨_, _, h0, h1, _⟩ := hx
  simp only at h0 h1 hsl
  obtain ⟨m, rfl⟩ := Int.eq_ofNat_of_zero_le h0
  have HB := hide h
  have HW := hide (fun w => width_any k w)
  have hb := builder_lt h
  clear h
  have e1 : itemB ⟨k, m, s⟩ = Lib.beBytes (widthN k) (if k = 4 then s.size else m) ++ s.data.toList := by simp [itemB, numOf]
  rw [e1]
  clear e1
  have hz := widthN_le k
  have hz0 := widthN_pos k
  by_cases h4 : k = 4
  · subst h4
    rw [if_pos rfl]
    generalize widthN 4 = z at *
    go_enter Try.func22, Try.ntmps22
    go_wp2_with fail
    refine (HW.out _).mono ?_
    rintro e w' ⟨rfl, rfl⟩
    go_wp2_with fail
    refine (writeNumber_any B b bs s.size z _ (by omega) hz hz0 (by omega) (builder_alloc HB.out _) (by simp; omega)).mono ?_
    rintro e w2 ⟨rfl, g1, g2, g3⟩
    obtain ⟨c0, c1, c2⟩ := box_kept hb g3
    clear g3 c0 c1
    have G1 := hide g1
    have G2 := hide g2
    clear g1 g2
    go_wp2_with fail
    refine (Try.WriteString B b _ s _ G1.out (by simp [Lib.byteCells, Lib.beBytes_length]; omega) (by have := G2.out.size; simp at this; omega)).mono ?_
    rintro e w3 ⟨rfl, g4, g5, g6⟩
    clear g6
    have G4 := hide g4
    have G5 := hide g5
    clear g4 g5
    go_wp2
    go_end0
    refine ⟨rfl, ?_, ((Below.refl _ _).alloc hBw _).trans (G2.out.trans G5.out)⟩
    rw [Lib.byteCells, List.map_append, ← List.append_assoc]
    exact Or.inr G4.out
  · have h5 : (k == 4) = false := by rw [beq_eq_false_iff_ne]; exact h4
    rw [if_neg h4]
    clear h4
    generalize widthN k = z at *
    go_enter Try.func22, Try.ntmps22
    go_wp2_with fail
    refine (HW.out _).mono ?_
    rintro e w' ⟨rfl, rfl⟩
    go_wp2_with fail
    refine (writeNumber_any B b bs m z _ (by omega) hz hz0 (by omega) (builder_alloc HB.out _) (by simp; omega)).mono ?_
    rintro e w2 ⟨rfl, g1, g2, g3⟩
    obtain ⟨c0, c1, c2⟩ := box_kept hb g3
    clear g3 c0 c1
    have G1 := hide g1
    have G2 := hide g2
    clear g1 g2
    go_wp2_with fail
    refine (Try.WriteString B b _ s _ G1.out (by simp [Lib.byteCells, Lib.beBytes_length]; omega) (by have := G2.out.size; simp at this; omega)).mono ?_
    rintro e w3 ⟨rfl, g4, g5, g6⟩
    clear g6
    have G4 := hide g4
    have G5 := hide g5
    clear g4 g5
    go_wp2
    go_end0
    refine ⟨rfl, ?_, ((Below.refl _ _).alloc hBw _).trans (G2.out.trans G5.out)⟩
    rw [Lib.byteCells, List.map_append, ← List.append_assoc]
    exact Or.inr G4.out

end Go.Proofs.Ytnbomaalncjkeaa
