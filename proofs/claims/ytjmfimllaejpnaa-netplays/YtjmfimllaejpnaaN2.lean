/-
  isNode, ofSide, Joined, Cut of the net.
-/
import Derived.Test.YtjmfimllaejpnaaN1
import Derived.Lib.RabinKarpLaws
import Derived.Deep.QuietTactic
namespace Go.Proofs.Ytjmfimllaejpnaa
open Go.RowKit Go.Maps

/-- Is a node of a side? -/
def bit (s : Int) (k : Nat) : Bool := decide (s / 2 ^ k % 2 = 1)
theorem div_in {s : Int} (hs : 0 ≤ s ∧ s ≤ 9223372036854775807) (k : Nat) : 0 ≤ s / 2 ^ k ∧ s / 2 ^ k ≤ 9223372036854775807 := by
  have hp : (0 : Int) < 2 ^ k := Int.pow_pos (by omega)
  refine ⟨Int.ediv_nonneg hs.1 (Int.le_of_lt hp), Int.le_trans (Int.ediv_le_self _ hs.1) hs.2⟩
theorem and_bit {s : Int} (hs : 0 ≤ s ∧ s ≤ 9223372036854775807) (k : Nat) : bits BinOp.and IntKind.i64 (s / 2 ^ k) 1 = s / 2 ^ k % 2 := by
  have h := div_in hs k
  generalize s / 2 ^ k = z at *
  obtain ⟨m, rfl⟩ : ∃ m : Nat, z = m := ⟨z.toNat, by omega⟩
  rw [and_one m (by omega)]
  omega
theorem ofSide_any (b k : Nat) (s : Int) (w : World) (hs : 0 ≤ s ∧ s ≤ 9223372036854775807) (hk : k < 7) (c1 : w.cell? ⟨b, 1, none⟩ = some (.int .i64 s)) : Calls Try.prog 33 #[.pointer (some ⟨b, 0, none⟩), .int .i64 k] w fun e w' => e = .returned (.bool (bit s k)) ∧ w' = w := by
  have e : bit s k = (bits BinOp.and IntKind.i64 (s / 2 ^ k) 1 == 1) := by
    rw [and_bit hs k]
    unfold bit
    by_cases h : s / 2 ^ k % 2 = 1
    · simp [h]
    · simp [h]
  rw [e]
  go_enter Try.func33, Try.ntmps33
  go_wp2
  go_ret
  exact ⟨rfl, rfl⟩
theorem isNode_any (b n : Nat) (k : Int) (w : World) (c0 : w.cell? ⟨b, 0, none⟩ = some (.int .i64 n)) : Calls Try.prog 32 #[.pointer (some ⟨b, 0, none⟩), .int .i64 k] w fun e w' => e = .returned (.bool (decide (0 ≤ k ∧ k < n))) ∧ w' = w := by
  by_cases h0 : 0 ≤ k
  · have e : decide (0 ≤ k ∧ k < (n : Int)) = decide (k < (n : Int)) := by simp [h0]
    rw [e]
    have h0' : decide (0 ≤ k) = true := by simpa using h0
    go_enter Try.func32, Try.ntmps32
    go_wp2
    all_goals (go_ret; exact ⟨rfl, rfl⟩)
  · have e : decide (0 ≤ k ∧ k < (n : Int)) = false := by simp; omega
    rw [e]
    have h0' : decide (0 ≤ k) = false := by simpa using h0
    go_enter Try.func32, Try.ntmps32
    go_wp2
    all_goals (go_ret; exact ⟨rfl, rfl⟩)
def joined (n : Nat) (s : Int) (x y : Int) : Prop := (0 ≤ x ∧ x < n) ∧ (0 ≤ y ∧ y < n) ∧ bit s x.toNat = bit s y.toNat
instance (n : Nat) (s x y : Int) : Decidable (joined n s x y) := by unfold joined; infer_instance
section
variable {w : World} {b : Nat} {G : NG}
set_option maxHeartbeats 1000000
theorem joined_any (h : Rep w b G) (x y : Int) : Calls Try.prog 21 #[.pointer (some ⟨b, 0, none⟩), .int .i64 x, .int .i64 y] w fun e w' => e = .returned (.bool (decide (joined G.n G.side x y))) ∧ w' = w := by
  have c0 : w.cell? ⟨b, 0, none⟩ = some (.int .i64 G.n) := box_cell h.box 0 rfl
  have c1 : w.cell? ⟨b, 1, none⟩ = some (.int .i64 G.side) := box_cell h.box 1 rfl
  have H1 := hide (isNode_any b G.n x w c0)
  have H2 := hide (isNode_any b G.n y w c0)
  have hn := h.nodes.2
  have hs := h.side
  by_cases hx : 0 ≤ x ∧ x < G.n
  · have e1 : decide (0 ≤ x ∧ x < (G.n : Int)) = true := by simpa using hx
    rw [e1] at H1
    by_cases hy : 0 ≤ y ∧ y < G.n
    · have e2 : decide (0 ≤ y ∧ y < (G.n : Int)) = true := by simpa using hy
      rw [e2] at H2
      obtain ⟨a, rfl⟩ : ∃ a : Nat, x = a := ⟨x.toNat, by omega⟩
      obtain ⟨c, rfl⟩ : ∃ c : Nat, y = c := ⟨y.toNat, by omega⟩
      have e0 : joined G.n G.side a c ↔ bit G.side a = bit G.side c := ⟨fun hj => hj.2.2, fun hj => ⟨hx, hy, hj⟩⟩
      have e3 : decide (joined G.n G.side a c) = (bit G.side a == bit G.side c) := by
        by_cases hb : bit G.side a = bit G.side c
        · rw [decide_eq_true (e0.2 hb)]; simp [hb]
        · rw [decide_eq_false (fun hj => hb (e0.1 hj))]; simp [hb]
      rw [e3]
      have H3 := hide (ofSide_any b a G.side w hs (by omega) c1)
      have H4 := hide (ofSide_any b c G.side w hs (by omega) c1)
      clear h c0 c1 e0 e1 e2 e3 hs hx hy
      generalize bit G.side a = p at *
      generalize bit G.side c = q at *
      go_enter Try.func21, Try.ntmps21
      go_wp2_with fail
      refine H1.out.mono ?_
      rintro e w' ⟨rfl, rfl⟩
      go_wp2_with fail
      refine H2.out.mono ?_
      rintro e w' ⟨rfl, rfl⟩
      go_wp2_with fail
      refine H3.out.mono ?_
      rintro e w' ⟨rfl, rfl⟩
      go_wp2_with fail
      refine H4.out.mono ?_
      rintro e w' ⟨rfl, rfl⟩
      go_wp2_with fail
      go_ret
      exact ⟨rfl, rfl⟩
    · have e2 : decide (0 ≤ y ∧ y < (G.n : Int)) = false := by simpa using hy
      rw [e2] at H2
      have e3 : decide (joined G.n G.side x y) = false := by simp [joined, hy]
      rw [e3]
      clear h c0 c1 e1 e2 e3 hs hx hy
      go_enter Try.func21, Try.ntmps21
      go_wp2_with fail
      refine H1.out.mono ?_
      rintro e w' ⟨rfl, rfl⟩
      go_wp2_with fail
      refine H2.out.mono ?_
      rintro e w' ⟨rfl, rfl⟩
      go_wp2_with fail
      go_ret
      exact ⟨rfl, rfl⟩
  · have e1 : decide (0 ≤ x ∧ x < (G.n : Int)) = false := by simpa using hx
    rw [e1] at H1
    have e3 : decide (joined G.n G.side x y) = false := by simp [joined, hx]
    rw [e3]
    clear h c0 c1 e1 e3 hs hx
    go_enter Try.func21, Try.ntmps21
    go_wp2_with fail
    refine H1.out.mono ?_
    rintro e w' ⟨rfl, rfl⟩
    go_wp2_with fail
    go_ret
    exact ⟨rfl, rfl⟩
theorem cut_any (h : Rep w b G) (s : Int) (hs : In64 s) : Calls Try.prog 17 #[.pointer (some ⟨b, 0, none⟩), .int .i64 s] w fun e w' => e = .returned (.tuple #[]) ∧ ∃ G', Step w w' b G G' ∧ G'.like G.n (max s 0) G.q := by
  have c1 : w.cell? ⟨b, 1, none⟩ = some (.int .i64 G.side) := box_cell h.box 1 rfl
  have f1 := box_free h.box 1
  have HP : Hid (∃ G', Step w (w.setCell ⟨b, 1, none⟩ (.int .i64 (max s 0))) b G G' ∧ G'.like G.n (max s 0) G.q) := ⟨_, h.setSide (max s 0) (by unfold In64 at hs; omega), rfl, rfl, rfl⟩
  clear h
  go_enter Try.func17, Try.ntmps17
  go_wp2
  go_end0
  exact ⟨rfl, HP.out⟩
end

end Go.Proofs.Ytjmfimllaejpnaa
