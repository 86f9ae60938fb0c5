import Derived.Test.YtnbomaalncjkeaaW12
namespace Go.Proofs.Ytnbomaalncjkeaa
open Go.RowKit

theorem ItemsAt.below {w w' : World} {ao : Option Addr} {l : List It} (h : ItemsAt w ao l) (hb : Below w.heap.size w w') : ItemsAt w' ao l := by
  intro i hi
  obtain ⟨b, off, h1, h2, h3, h4, h5⟩ := h i hi
  refine ⟨b, off, h1, by have := hb.size; omega, ?_, ?_, ?_⟩
  · exact (hb.cell (p := ⟨b, off + i * 3, none⟩) h2).trans h3
  · exact (hb.cell (p := ⟨b, off + i * 3 + 1, none⟩) h2).trans h4
  · exact (hb.cell (p := ⟨b, off + i * 3 + 2, none⟩) h2).trans h5

theorem itemCells_get (l : List It) (i j : Nat) (hi : i < l.length) (hj : j < 3) : (itemCells l)[i * 3 + j]? = (l[i].cells)[j]? := by
  induction l generalizing i with
  | nil => simp at hi
  | cons x l ih =>
    have e : itemCells (x :: l) = x.cells ++ itemCells l := by simp [itemCells]
    have h3 : x.cells.length = 3 := rfl
    rw [e]
    cases i with
    | zero => rw [List.getElem?_append_left (by omega)]; simp
    | succ i =>
      rw [List.getElem?_append_right (by omega), h3]
      have := ih i (by simpa using hi)
      rw [show (i + 1) * 3 + j - 3 = i * 3 + j by omega, this]
      simp

theorem items_of_own {w : World} {B : Nat} {v : Value} {l : List It} (h : w.ownsRow B 39 3 v l.length (itemCells l)) : ∃ ao cap, v = .slice ao l.length cap ∧ ItemsAt w ao l := by
  rcases h.2 with ⟨h1, h2⟩ | ⟨g, cap, cur, hv, hg, hh, hn, _, hs, ht⟩
  · exact ⟨none, 0, by rw [h1, h2], fun i hi => by omega⟩
  · refine ⟨_, _, hv, fun i hi => ⟨g, 0, rfl, (Array.getElem?_eq_some_iff.1 hh).1, ?_⟩⟩
    have key : ∀ j, j < 3 → w.cell? ⟨g, 0 + i * 3 + j, none⟩ = (l[i].cells)[j]? := by
      intro j hj
      rw [Lib.cell_of_heap hh, ← itemCells_get l i j hi hj, ← ht, List.getElem?_take, if_pos (by omega)]
      simp
    refine ⟨?_, ?_, ?_⟩
    · exact key 0 (by omega)
    · exact key 1 (by omega)
    · exact key 2 (by omega)

def exItems : List It := [⟨1, 1, ⟨#[]⟩⟩, ⟨2, 258, ⟨#[]⟩⟩, ⟨4, 0, ⟨#[97, 98]⟩⟩]
theorem ex_enc : encF exItems = ([1, 0, 0, 1, 2, 0, 0, 0, 2, 97, 98], 0) := by kernel_rfl
theorem ex_dec1 : decF [98, 119, 42, 116] [1, 0, 0, 1, 2] = ([⟨1, 1, ⟨#[]⟩⟩, ⟨2, 258, ⟨#[]⟩⟩], 0) := by kernel_rfl
theorem ex_dec2 : decF [116] [0, 0, 0, 2, 97] = ([], 2) := by kernel_rfl
theorem ex_dec3 : decF [98] [97, 98] = ([], 10) := by kernel_rfl
theorem ex_dec4 : decF [120] [] = ([], 1) := by kernel_rfl
theorem ex_dec5 : decF [98, 42] [97] = ([], 1) := by kernel_rfl

theorem dec_nil (shape s : ByteArray) (f : Int) (h : decF shape.data.toList s.data.toList = ([], f)) (h1 : shape.size ≤ maxLen) (h2 : s.size ≤ maxLen) (w : World) :
    Calls Try.prog 16 #[.string shape, .string s] w fun e w' => ∃ v, e = .returned (.tuple #[v, .int .i64 f]) ∧ Below w.heap.size w w' := by
  refine (decode_any shape s w h1 h2 _ h).mono ?_
  rintro e w' ⟨v, rfl, _, hb⟩
  exact ⟨v, rfl, hb⟩

theorem ex_encode (w : World) :
    Calls Try.prog 10 #[.slice (some ⟨w.heap.size, 0, none⟩) 3 3] (w.alloc (.cells #[.int .i64 1, .int .u64 1, .string ⟨#[]⟩, .int .i64 2, .int .u64 258, .string ⟨#[]⟩, .int .i64 4, .int .u64 0, .string ⟨#[97, 98]⟩] 39)) fun e w' =>
      e = .returned (.tuple #[.string ⟨#[1, 0, 0, 1, 2, 0, 0, 0, 2, 97, 98]⟩, .int .i64 0]) ∧ Below w.heap.size w w' := by
  have h := encode_any (some ⟨w.heap.size, 0, none⟩) 3 exItems (w.alloc (.cells #[.int .i64 1, .int .u64 1, .string ⟨#[]⟩, .int .i64 2, .int .u64 258, .string ⟨#[]⟩, .int .i64 4, .int .u64 0, .string ⟨#[97, 98]⟩] 39)) ?_ ?_ (by decide)
  · rw [ex_enc] at h
    refine h.mono ?_
    rintro e w' ⟨rfl, hb⟩
    exact ⟨rfl, ((Below.refl _ _).alloc (Nat.le_refl _) _).trans (hb.mono (by simp))⟩
  · intro i hi
    refine ⟨w.heap.size, 0, rfl, by simp, ?_⟩
    have hi3 : i < 3 := hi
    have h3 : i = 0 ∨ i = 1 ∨ i = 2 := by omega
    rcases h3 with rfl | rfl | rfl
    · refine ⟨?_, ?_, ?_⟩ <;> simp [exItems]
    · refine ⟨?_, ?_, ?_⟩ <;> simp [exItems]
    · refine ⟨?_, ?_, ?_⟩ <;> simp [exItems]
  · intro x hx
    simp [exItems] at hx
    rcases hx with rfl | rfl | rfl <;> (unfold It.ok; decide)

theorem ex_decode (w : World) :
    Calls Try.prog 16 #[.string ⟨#[98, 119, 42, 116]⟩, .string ⟨#[1, 0, 0, 1, 2]⟩] w fun e w' => ∃ g cap, e = .returned (.tuple #[.slice (some ⟨g, 0, none⟩) 2 cap, .int .i64 0]) ∧ g < w'.heap.size ∧ w'.cell? ⟨g, 4, none⟩ = some (.int .u64 258) ∧ Below w.heap.size w w' := by
  refine (decode_any _ _ w (by decide) (by decide) _ ex_dec1).mono ?_
  rintro e w' ⟨v, rfl, hown, hb⟩
  rcases hown.2 with ⟨h1, h2⟩ | ⟨g, cap, cur, hv, hg, hh, hn, _, hs, ht⟩
  · simp at h2
  · refine ⟨g, cap, by rw [hv]; rfl, (Array.getElem?_eq_some_iff.1 hh).1, ?_, hb⟩
    rw [Lib.cell_of_heap hh]
    have h4 : (cur.toList.take 6)[4]? = some (.int .u64 258) := by
      have e : cur.toList.take 6 = itemCells [⟨1, 1, ⟨#[]⟩⟩, ⟨2, 258, ⟨#[]⟩⟩] := ht
      rw [e]; rfl
    rw [List.getElem?_take, if_pos (by omega)] at h4
    simpa using h4

set_option maxHeartbeats 2000000 in
set_option maxRecDepth 100000 in
theorem examples_any (w : World) :
    Calls Try.prog 9 #[] w fun e w' => e = .returned (.bool true) ∧ Below w.heap.size w w' := by
  go_enter Try.func9, Try.ntmps9
  go_wp2_with fail
  refine (ex_encode w).mono ?_
  rintro e w1 ⟨rfl, b1⟩
  have B1 := hide b1
  clear b1
  go_wp2_with fail
  refine (ex_decode _).mono ?_
  rintro e w2 ⟨g, cap, rfl, hg, hc, b2⟩
  have B2 := hide (B1.out.trans (b2.mono B1.out.size))
  clear b2
  go_wp2_with fail
  refine (dec_nil ⟨#[116]⟩ ⟨#[0, 0, 0, 2, 97]⟩ 2 ex_dec2 (by decide) (by decide) _).mono ?_
  rintro e w3 ⟨v3, rfl, b3⟩
  have B3 := hide (B2.out.trans (b3.mono B2.out.size))
  have c3 := (b3.cell (p := ⟨g, 4, none⟩) hg).trans hc
  have g3 : g < w3.heap.size := by have := b3.size; omega
  clear b3 hc hg
  go_wp2_with fail
  refine (dec_nil ⟨#[98]⟩ ⟨#[97, 98]⟩ 10 ex_dec3 (by decide) (by decide) _).mono ?_
  rintro e w4 ⟨v4, rfl, b4⟩
  have B4 := hide (B3.out.trans (b4.mono B3.out.size))
  have c4 := (b4.cell (p := ⟨g, 4, none⟩) g3).trans c3
  have g4 : g < w4.heap.size := by have := b4.size; omega
  clear b4 c3 g3
  go_wp2_with fail
  refine (dec_nil ⟨#[120]⟩ ⟨#[]⟩ 1 ex_dec4 (by decide) (by decide) _).mono ?_
  rintro e w5 ⟨v5, rfl, b5⟩
  have B5 := hide (B4.out.trans (b5.mono B4.out.size))
  have c5 := (b5.cell (p := ⟨g, 4, none⟩) g4).trans c4
  have g5 : g < w5.heap.size := by have := b5.size; omega
  clear b5 c4 g4
  go_wp2_with fail
  refine (dec_nil ⟨#[98, 42]⟩ ⟨#[97]⟩ 1 ex_dec5 (by decide) (by decide) _).mono ?_
  rintro e w6 ⟨v6, rfl, b6⟩
  have B6 := hide (B5.out.trans (b6.mono B5.out.size))
  have c6 := (b6.cell (p := ⟨g, 4, none⟩) g5).trans c5
  clear b6 c5 g5
  go_wp2
  go_ret
  exact ⟨rfl, B6.out⟩

end Go.Proofs.Ytnbomaalncjkeaa
