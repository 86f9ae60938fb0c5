/-
  New of the net.
-/
import Derived.Test.YtjmfimllaejpnaaN4
namespace Go.Proofs.Ytjmfimllaejpnaa
open Go.RowKit Go.Maps

theorem made_all {n : Nat} {x y : Int} : done n n 0 x y ↔ isLink n x y := by
  unfold done isLink
  constructor
  · exact fun h => h.1
  · exact fun h => ⟨h, by omega⟩
theorem fresh_rep {w w1 : World} {n mb : Nat} {D : DataW Nat} {blk : Nat → Nat → Nat} {role : Nat → Nat} (hn : 1 ≤ n ∧ n ≤ 7) (h : Made w w1 n n 0 mb D blk role) :
    ∃ G, Rep (w1.alloc (.cells #[.int .i64 n, .int .i64 0, .map (some mb)] 44)) w1.heap.size G ∧ G.like n 0 (fun _ _ => []) ∧ ∀ j, G.own j → w.heap.size ≤ j := by
  have hB := h.below.size
  have hlt : ∀ j, role j ≠ 0 → j ≠ w1.heap.size := fun j hj e => by have := (h.role0 j hj).2; omega
  refine ⟨⟨n, 0, mb, D, blk, fun _ _ => .slice none 0 0, fun _ _ => [], fun j => if j = w1.heap.size then 1 else role j⟩, ⟨heap_alloc_new w1 _, hn, ⟨Int.le_refl _, by show (0 : Int) ≤ 9223372036854775807; omega⟩, owns_more (h.map.alloc _) (by omega), fun x y hx hy => ?_, h.full, fun x y hl => box_alloc (h.lbox x y (made_all.2 hl)) _, fun x y _ => World.ownsRow_nil _ _ _ _, fun x y _ => Nat.zero_le _, (fun x y _ s hs => by cases hs), if_pos rfl, ?_, fun x y hl => ?_, (fun x y _ j hj => by cases hj), fun j hj => ?_⟩, ⟨rfl, rfl, rfl⟩, fun j hj => ?_⟩
  · show lk D x y = if isLink n x y then some (blk x.toNat y.toNat) else none
    rw [h.look x y hx hy]
    by_cases e : isLink n x y
    · rw [if_pos e, if_pos (made_all.2 e)]
    · rw [if_neg e, if_neg (fun hh => e (made_all.1 hh))]
  · show (if mb = w1.heap.size then 1 else role mb) = 2
    rw [if_neg (hlt mb (by rw [h.roleM]; omega))]
    exact h.roleM
  · have e := h.roleL x y (made_all.2 hl)
    show (if blk x y = w1.heap.size then 1 else role (blk x y)) = lrole x y
    rw [if_neg (hlt _ (by rw [e]; unfold lrole; omega))]
    exact e
  · have hj' : (if j = w1.heap.size then 1 else role j) ≠ 0 := hj
    by_cases e : j = w1.heap.size
    · rw [e]; simp
    · rw [if_neg e] at hj'
      have := (h.role0 j hj').2
      simp; omega
  · have hj' : (if j = w1.heap.size then 1 else role j) ≠ 0 := hj
    by_cases e : j = w1.heap.size
    · omega
    · rw [if_neg e] at hj'
      exact (h.role0 j hj').1
section
set_option maxRecDepth 100000
set_option maxHeartbeats 2000000
theorem new_bad (n : Int) (w : World) (hr : ¬ (1 ≤ n ∧ n ≤ 7)) : Calls Try.prog 5 #[.int .i64 n] w fun e w' => e = .returned (.tuple #[.pointer none, .int .i64 1]) ∧ w' = w := by
  by_cases h0 : n < 1
  · go_enter Try.func5, Try.ntmps5
    go_wp2
    go_ret2
    exact ⟨rfl, rfl⟩
  · have h1 : 7 < n := by omega
    have h2 : decide (n < 1) = false := by simpa using h0
    go_enter Try.func5, Try.ntmps5
    go_wp2
    go_ret2
    exact ⟨rfl, rfl⟩
theorem new_ok (n : Nat) (w : World) (hr : 1 ≤ n ∧ n ≤ 7) :
    Calls Try.prog 5 #[.int .i64 n] w fun e w' => ∃ b G, e = .returned (.tuple #[.pointer (some ⟨b, 0, none⟩), .int .i64 0]) ∧ Rep w' b G ∧ G.like n 0 (fun _ _ => []) ∧ (∀ j, G.own j → w.heap.size ≤ j) ∧ Below w.heap.size w w' := by
  have h0 : ¬ (n : Int) < 1 := by omega
  have h1 : ¬ (7 : Int) < n := by omega
  have h2 : decide ((n : Int) < 1) = false := by simpa using h0
  have h3 : decide ((7 : Int) < n) = false := by simpa using h1
  have HL := hide (linksOf_any n hr.2 w)
  go_enter Try.func5, Try.ntmps5
  go_wp2_with (go_at_call 25; refine HL.out.mono ?_; rintro e w1 ⟨mb, D, blk, role, rfl, hm⟩)
  go_ret2
  obtain ⟨G, g1, g2, g3⟩ := fresh_rep hr hm
  exact ⟨_, G, rfl, g1, g2, g3, hm.below.alloc hm.below.size _⟩
end

end Go.Proofs.Ytjmfimllaejpnaa
