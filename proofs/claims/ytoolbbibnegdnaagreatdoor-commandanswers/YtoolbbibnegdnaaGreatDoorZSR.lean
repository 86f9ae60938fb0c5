/-
  The program's segment.Right and the document's, as they run (cut out of wip/segment's S1 and R1 by hand).
-/
import Derived.Test.YtoolbbibnegdnaaGreatDoorZSeg1
import Derived.Test.YtoolbbibnegdnaaGreatDoorZHE
import Derived.Test.YtoolbbibnegdnaaGreatDoorZKAppI
namespace Go.Proofs.YtoolbbibnegdnaaGreatDoor
open Go.RowKit

def Rec.v (r : Rec) : Value := .agg #[.int .i64 r.off, .string r.prod, .int .i64 r.seq, .string r.key, .string r.val]
def Rec.cells (r : Rec) : List Value := [.int .i64 r.off, .string r.prod, .int .i64 r.seq, .string r.key, .string r.val]
/-- What a record of the model's memory is. -/
def Rec.ok (r : Rec) : Prop := -9223372036854775808 ≤ r.off ∧ r.off ≤ 9223372036854775807 ∧ -9223372036854775808 ≤ r.seq ∧ r.seq ≤ 9223372036854775807 ∧ r.prod.size ≤ 9223372036854775807 ∧ r.key.size ≤ 9223372036854775807 ∧ r.val.size ≤ 9223372036854775807
theorem RightP.ok {r : Rec} (h : RightP r) : r.ok := by
  obtain ⟨h1, h2, h3, h4, h5, h6, h7⟩ := h
  exact ⟨by omega, by omega, by omega, by omega, by omega, by omega, by omega⟩
theorem RightP.of {off seq : Int} {prod key val : ByteArray} (h1 : 0 ≤ off) (h2 : off ≤ 9007199254740991) (h3 : 0 ≤ seq) (h4 : seq ≤ 9007199254740991) (h5 : (prod.size : Int) ≤ 20) (h6 : (key.size : Int) ≤ 100) (h7 : (val.size : Int) ≤ 1000) : RightP ⟨off, prod, seq, key, val⟩ := by
  unfold RightP
  simp only
  omega
theorem RightP.out {off seq : Int} {prod key val : ByteArray} (h : RightP ⟨off, prod, seq, key, val⟩) : 0 ≤ off ∧ off ≤ 9007199254740991 ∧ 0 ≤ seq ∧ seq ≤ 9007199254740991 ∧ (prod.size : Int) ≤ 20 ∧ (key.size : Int) ≤ 100 ∧ (val.size : Int) ≤ 1000 := by
  unfold RightP at h
  simp only at h
  omega
def numB (n : Int) : Bool := decide (0 ≤ n ∧ n ≤ 9007199254740991)
set_option maxHeartbeats 400000 in
theorem isNumber_any (n : Int) (w : World) :
    Calls Tryz.prog 73 #[.int .i64 n] w fun e w' => e = .returned (.bool (numB n)) ∧ w' = w := by
  by_cases h1 : 0 ≤ n
  · by_cases h2 : n ≤ 9007199254740991
    · have hk : numB n = true := decide_eq_true ⟨h1, h2⟩
      rw [hk]
      clear hk
      go_enter Tryz.func73, Tryz.ntmps73
      go_wp2
      go_ret
      exact ⟨rfl, rfl⟩
    · have hk : numB n = false := decide_eq_false fun e => h2 e.2
      rw [hk]
      clear hk
      go_enter Tryz.func73, Tryz.ntmps73
      go_wp2
      go_ret
      exact ⟨rfl, rfl⟩
  · have hk : numB n = false := decide_eq_false fun e => h1 e.1
    rw [hk]
    clear hk
    go_enter Tryz.func73, Tryz.ntmps73
    go_wp2
    go_ret
    exact ⟨rfl, rfl⟩

set_option maxHeartbeats 1000000 in
theorem right_any (r : Rec) (hr : r.ok) (w : World) :
    Calls Tryz.prog 48 #[r.v] w fun e w' => e = .returned (.bool (decide (RightP r))) ∧ Below w.heap.size w w' := by
  obtain ⟨off, prod, seq, key, val⟩ := r
  obtain ⟨_, _, _, _, z1, z2, z3⟩ := hr
  have HA := hide (isNumber_any off)
  have HB := hide (isNumber_any seq)
  simp only [Rec.v] at *
  by_cases h1 : numB off = true
  · have h1' := of_decide_eq_true h1
    rw [h1] at HA
    by_cases h2 : numB seq = true
    · have h2' := of_decide_eq_true h2
      rw [h2] at HB
      by_cases h3 : (prod.size : Int) ≤ 20
      · by_cases h4 : (key.size : Int) ≤ 100
        · by_cases h5 : (val.size : Int) ≤ 1000
          · have hk : decide (RightP ⟨off, prod, seq, key, val⟩) = true := decide_eq_true (RightP.of h1'.1 h1'.2 h2'.1 h2'.2 h3 h4 h5)
            rw [hk]
            clear hk h1 h2 h1' h2'
            go_enter Tryz.func48, Tryz.ntmps48
            go_wp2_with fail
            refine (HA.out _).mono ?_
            rintro e w' ⟨rfl, rfl⟩
            go_wp2_with fail
            refine (HB.out _).mono ?_
            rintro e w' ⟨rfl, rfl⟩
            go_wp2
            go_ret
            exact ⟨rfl, (Below.refl _ _).alloc (Nat.le_refl _) _⟩
          · have hk : decide (RightP ⟨off, prod, seq, key, val⟩) = false := decide_eq_false fun e => h5 e.out.2.2.2.2.2.2
            rw [hk]
            clear hk h1 h2 h1' h2'
            go_enter Tryz.func48, Tryz.ntmps48
            go_wp2_with fail
            refine (HA.out _).mono ?_
            rintro e w' ⟨rfl, rfl⟩
            go_wp2_with fail
            refine (HB.out _).mono ?_
            rintro e w' ⟨rfl, rfl⟩
            go_wp2
            go_ret
            exact ⟨congrArg (fun b => Ending.returned (.bool b)) (decide_eq_false (by omega)), (Below.refl _ _).alloc (Nat.le_refl _) _⟩
        · have hk : decide (RightP ⟨off, prod, seq, key, val⟩) = false := decide_eq_false fun e => h4 e.out.2.2.2.2.2.1
          rw [hk]
          clear hk h1 h2 h1' h2'
          go_enter Tryz.func48, Tryz.ntmps48
          go_wp2_with fail
          refine (HA.out _).mono ?_
          rintro e w' ⟨rfl, rfl⟩
          go_wp2_with fail
          refine (HB.out _).mono ?_
          rintro e w' ⟨rfl, rfl⟩
          go_wp2
          go_ret
          exact ⟨rfl, (Below.refl _ _).alloc (Nat.le_refl _) _⟩
      · have hk : decide (RightP ⟨off, prod, seq, key, val⟩) = false := decide_eq_false fun e => h3 e.out.2.2.2.2.1
        rw [hk]
        clear hk h1 h2 h1' h2'
        go_enter Tryz.func48, Tryz.ntmps48
        go_wp2_with fail
        refine (HA.out _).mono ?_
        rintro e w' ⟨rfl, rfl⟩
        go_wp2_with fail
        refine (HB.out _).mono ?_
        rintro e w' ⟨rfl, rfl⟩
        go_wp2
        go_ret
        exact ⟨rfl, (Below.refl _ _).alloc (Nat.le_refl _) _⟩
    · have hk : decide (RightP ⟨off, prod, seq, key, val⟩) = false := decide_eq_false fun e => h2 (decide_eq_true ⟨e.out.2.2.1, e.out.2.2.2.1⟩)
      rw [hk]
      rw [Bool.not_eq_true] at h2
      rw [h2] at HB
      clear hk h1 h2 h1'
      go_enter Tryz.func48, Tryz.ntmps48
      go_wp2_with fail
      refine (HA.out _).mono ?_
      rintro e w' ⟨rfl, rfl⟩
      go_wp2_with fail
      refine (HB.out _).mono ?_
      rintro e w' ⟨rfl, rfl⟩
      go_wp2
      go_ret
      exact ⟨rfl, (Below.refl _ _).alloc (Nat.le_refl _) _⟩
  · have hk : decide (RightP ⟨off, prod, seq, key, val⟩) = false := decide_eq_false fun e => h1 (decide_eq_true ⟨e.out.1, e.out.2.1⟩)
    rw [hk]
    rw [Bool.not_eq_true] at h1
    rw [h1] at HA
    clear hk h1 HB
    go_enter Tryz.func48, Tryz.ntmps48
    go_wp2_with fail
    refine (HA.out _).mono ?_
    rintro e w' ⟨rfl, rfl⟩
    go_wp2
    go_ret
    exact ⟨rfl, (Below.refl _ _).alloc (Nat.le_refl _) _⟩

theorem itemsR_ok {r : Rec} (h : RightP r) : ∀ x ∈ itemsR r, x.ok := by
  obtain ⟨h1, h2, h3, h4, h5, h6, h7⟩ := h
  intro x hx
  simp only [itemsR, List.mem_cons, List.not_mem_nil, or_false] at hx
  have z0 : (⟨#[]⟩ : ByteArray).size = 0 := rfl
  rcases hx with rfl | rfl | rfl | rfl | rfl
  · exact ⟨by simp, by simp, by simp only; omega, by simp only; omega, by simp only [z0]; omega⟩
  · exact ⟨by simp, by simp, by simp only; omega, by simp only; omega, by simp only; omega⟩
  · exact ⟨by simp, by simp, by simp only; omega, by simp only; omega, by simp only [z0]; omega⟩
  · exact ⟨by simp, by simp, by simp only; omega, by simp only; omega, by simp only; omega⟩
  · exact ⟨by simp, by simp, by simp only; omega, by simp only; omega, by simp only; omega⟩
set_option maxHeartbeats 2000000 in
theorem rright_any (r : Rec) (hr : r.ok) (w : World) :
    Calls Tryz.prog 50 #[r.v] w fun e w' => e = .returned (.bool (decide (RightP r))) ∧ Below w.heap.size w w' := by
  obtain ⟨off, prod, seq, key, val⟩ := r
  obtain ⟨_, _, _, _, z1, z2, z3⟩ := hr
  simp only [Rec.v] at *
  by_cases h1 : 0 ≤ off
  · by_cases h2 : off ≤ 9007199254740991
    · by_cases h3 : 0 ≤ seq
      · by_cases h4 : seq ≤ 9007199254740991
        · by_cases h5 : (prod.size : Int) ≤ 20
          · by_cases h6 : (key.size : Int) ≤ 100
            · by_cases h7 : (val.size : Int) ≤ 1000
              · have hk : decide (RightP ⟨off, prod, seq, key, val⟩) = true := decide_eq_true (RightP.of h1 h2 h3 h4 h5 h6 h7)
                rw [hk]
                clear hk
                go_enter Tryz.func50, Tryz.ntmps50
                go_wp2
                go_ret
                exact ⟨rfl, (Below.refl _ _).alloc (Nat.le_refl _) _⟩
              · have hk : decide (RightP ⟨off, prod, seq, key, val⟩) = false := decide_eq_false fun e => h7 e.out.2.2.2.2.2.2
                rw [hk]
                clear hk
                go_enter Tryz.func50, Tryz.ntmps50
                go_wp2
                go_ret
                exact ⟨rfl, (Below.refl _ _).alloc (Nat.le_refl _) _⟩
            · have hk : decide (RightP ⟨off, prod, seq, key, val⟩) = false := decide_eq_false fun e => h6 e.out.2.2.2.2.2.1
              rw [hk]
              clear hk
              go_enter Tryz.func50, Tryz.ntmps50
              go_wp2
              go_ret
              exact ⟨rfl, (Below.refl _ _).alloc (Nat.le_refl _) _⟩
          · have hk : decide (RightP ⟨off, prod, seq, key, val⟩) = false := decide_eq_false fun e => h5 e.out.2.2.2.2.1
            rw [hk]
            clear hk
            go_enter Tryz.func50, Tryz.ntmps50
            go_wp2
            go_ret
            exact ⟨rfl, (Below.refl _ _).alloc (Nat.le_refl _) _⟩
        · have hk : decide (RightP ⟨off, prod, seq, key, val⟩) = false := decide_eq_false fun e => h4 e.out.2.2.2.1
          rw [hk]
          clear hk
          go_enter Tryz.func50, Tryz.ntmps50
          go_wp2
          go_ret
          exact ⟨rfl, (Below.refl _ _).alloc (Nat.le_refl _) _⟩
      · have hk : decide (RightP ⟨off, prod, seq, key, val⟩) = false := decide_eq_false fun e => h3 e.out.2.2.1
        rw [hk]
        clear hk
        go_enter Tryz.func50, Tryz.ntmps50
        go_wp2
        go_ret
        exact ⟨rfl, (Below.refl _ _).alloc (Nat.le_refl _) _⟩
    · have hk : decide (RightP ⟨off, prod, seq, key, val⟩) = false := decide_eq_false fun e => h2 e.out.2.1
      rw [hk]
      clear hk
      go_enter Tryz.func50, Tryz.ntmps50
      go_wp2
      go_ret
      exact ⟨rfl, (Below.refl _ _).alloc (Nat.le_refl _) _⟩
  · have hk : decide (RightP ⟨off, prod, seq, key, val⟩) = false := decide_eq_false fun e => h1 e.out.1
    rw [hk]
    clear hk
    go_enter Tryz.func50, Tryz.ntmps50
    go_wp2
    go_ret
    exact ⟨rfl, (Below.refl _ _).alloc (Nat.le_refl _) _⟩
end Go.Proofs.YtoolbbibnegdnaaGreatDoor
