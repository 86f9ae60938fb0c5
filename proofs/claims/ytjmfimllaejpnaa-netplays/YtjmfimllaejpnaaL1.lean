/-
  A link's own calls, but for add and remove: len, has, hasRoom.
-/
import Derived.Test.YtjmfimllaejpnaaK1
namespace Go.Proofs.Ytjmfimllaejpnaa
open Go.RowKit Go.Maps

theorem len_nil (w : World) : Calls Try.prog 34 #[.pointer none] w fun e w' => e = .returned (.int .i64 0) ∧ w' = w := by
  go_enter Try.func34, Try.ntmps34
  go_wp2
  go_ret
  exact ⟨rfl, rfl⟩
theorem len_some (f : Nat) (ao : Option Addr) (n cp : Nat) (w : World) (hc : w.cell? ⟨f, 0, none⟩ = some (.slice ao n cp)) : Calls Try.prog 34 #[.pointer (some ⟨f, 0, none⟩)] w fun e w' => e = .returned (.int .i64 n) ∧ w' = w := by
  go_enter Try.func34, Try.ntmps34
  go_wp2
  go_ret
  exact ⟨rfl, rfl⟩
/-- A link, or none: how many messages it has. -/
def At (w : World) (p : Option Nat) (n : Nat) : Prop :=
  match p with
  | none => n = 0
  | some f => ∃ ao cp, w.cell? ⟨f, 0, none⟩ = some (.slice ao n cp)
theorem len_any (p : Option Nat) (n : Nat) (w : World) (h : At w p n) : Calls Try.prog 34 #[.pointer (p.map fun j => ⟨j, 0, none⟩)] w fun e w' => e = .returned (.int .i64 n) ∧ w' = w := by
  cases p with
  | none =>
    obtain rfl : n = 0 := h
    exact len_nil w
  | some f =>
    obtain ⟨ao, cp, h⟩ := h
    exact len_some f ao n cp w h
theorem has_any (p : Option Nat) (n : Nat) (i : Int) (w : World) (h : At w p n) : Calls Try.prog 29 #[.pointer (p.map fun j => ⟨j, 0, none⟩), .int .i64 i] w fun e w' => e = .returned (.bool (decide (0 ≤ i ∧ i < n))) ∧ w' = w := by
  have HL := hide (len_any p n w h)
  clear h
  generalize (Option.map (fun j => (⟨j, 0, none⟩ : Addr)) p) = pv at *
  by_cases h0 : 0 ≤ i
  · have e : decide (0 ≤ i ∧ i < (n : Int)) = decide (i < (n : Int)) := by simp [h0]
    rw [e]
    have h0' : decide (0 ≤ i) = true := by simpa using h0
    go_enter Try.func29, Try.ntmps29
    go_wp2_with (go_at_call 34; refine HL.out.mono ?_; rintro e w' ⟨rfl, rfl⟩)
    all_goals (go_ret; exact ⟨rfl, rfl⟩)
  · have e : decide (0 ≤ i ∧ i < (n : Int)) = false := by simp; omega
    rw [e]
    have h0' : decide (0 ≤ i) = false := by simpa using h0
    go_enter Try.func29, Try.ntmps29
    go_wp2_with (go_at_call 34; refine HL.out.mono ?_; rintro e w' ⟨rfl, rfl⟩)
    all_goals (go_ret; exact ⟨rfl, rfl⟩)
theorem room_nil (w : World) : Calls Try.prog 26 #[.pointer none] w fun e w' => e = .returned (.bool false) ∧ w' = w := by
  go_enter Try.func26, Try.ntmps26
  go_wp2
  go_ret
  exact ⟨rfl, rfl⟩
theorem room_some (f : Nat) (ao : Option Addr) (n cp : Nat) (w : World) (hc : w.cell? ⟨f, 0, none⟩ = some (.slice ao n cp)) : Calls Try.prog 26 #[.pointer (some ⟨f, 0, none⟩)] w fun e w' => e = .returned (.bool (decide (n < 64))) ∧ w' = w := by
  have e : decide (n < 64) = decide ((n : Int) < 64) := by simp; omega
  rw [e]
  go_enter Try.func26, Try.ntmps26
  go_wp2
  go_ret
  exact ⟨rfl, rfl⟩
theorem room_any (p : Option Nat) (n : Nat) (w : World) (h : At w p n) : Calls Try.prog 26 #[.pointer (p.map fun j => ⟨j, 0, none⟩)] w fun e w' => e = .returned (.bool (p.isSome && decide (n < 64))) ∧ w' = w := by
  cases p with
  | none => exact room_nil w
  | some f =>
    obtain ⟨ao, cp, h⟩ := h
    exact room_some f ao n cp w h

end Go.Proofs.Ytjmfimllaejpnaa
