/-
  Right, itemsOf, One, as they run.
-/
import Derived.Test.YtgnehnlmbodijaaDoorZGC
import Derived.Test.YtgnehnlmbodijaaDoorZQD3
import Derived.Test.YtgnehnlmbodijaaDoorZKAppI
namespace Go.Proofs.YtgnehnlmbodijaaDoor
open Go.RowKit

def Rec.v (r : Rec) : Value := .agg #[.int .i64 r.off, .string r.prod, .int .i64 r.seq, .string r.key, .string r.val]
def Rec.cells (r : Rec) : List Value := [.int .i64 r.off, .string r.prod, .int .i64 r.seq, .string r.key, .string r.val]
/-- What a record of the model's memory is. -/
def Rec.ok (r : Rec) : Prop := -9223372036854775808 ≤ r.off ∧ r.off ≤ 9223372036854775807 ∧ -9223372036854775808 ≤ r.seq ∧ r.seq ≤ 9223372036854775807 ∧ r.prod.size ≤ 9223372036854775807 ∧ r.key.size ≤ 9223372036854775807 ∧ r.val.size ≤ 9223372036854775807
theorem RightP.ok {r : Rec} (h : RightP r) : r.ok := by
  obtain ⟨h1, h2, h3, h4, h5, h6, h7⟩ := h
  exact ⟨by omega, by omega, by omega, by omega, by omega, by omega, by omega⟩
theorem RightP.of {off seq : Int} {prod key val : ByteArray} (h1 : 0 ≤ off) (h2 : off ≤ 9007199254740991) (h3 : 0 ≤ seq) (h4 : seq ≤ 9007199254740991) (h5 : (prod.size : Int) ≤ 20) (h6 : (key.size : Int) ≤ 100) (h7 : (val.size : Int) ≤ 1000) : RightP ⟨off, prod, seq, key, val⟩ := by
  unfold RightP
  simp only
  omega
theorem RightP.out {off seq : Int} {prod key val : ByteArray} (h : RightP ⟨off, prod, seq, key, val⟩) : 0 ≤ off ∧ off ≤ 9007199254740991 ∧ 0 ≤ seq ∧ seq ≤ 9007199254740991 ∧ (prod.size : Int) ≤ 20 ∧ (key.size : Int) ≤ 100 ∧ (val.size : Int) ≤ 1000 := by
  unfold RightP at h
  simp only at h
  omega
def numB (n : Int) : Bool := decide (0 ≤ n ∧ n ≤ 9007199254740991)
set_option maxHeartbeats 400000 in
theorem isNumber_any (n : Int) (w : World) :
    Calls Tryd.prog 30 #[.int .i64 n] w fun e w' => e = .returned (.bool (numB n)) ∧ w' = w := by
  by_cases h1 : 0 ≤ n
  · by_cases h2 : n ≤ 9007199254740991
    · have hk : numB n = true := decide_eq_true ⟨h1, h2⟩
      rw [hk]
      clear hk
      go_enter Tryd.func30, Tryd.ntmps30
      go_wp2
      go_ret
      exact ⟨rfl, rfl⟩
    · have hk : numB n = false := decide_eq_false fun e => h2 e.2
      rw [hk]
      clear hk
      go_enter Tryd.func30, Tryd.ntmps30
      go_wp2
      go_ret
      exact ⟨rfl, rfl⟩
  · have hk : numB n = false := decide_eq_false fun e => h1 e.1
    rw [hk]
    clear hk
    go_enter Tryd.func30, Tryd.ntmps30
    go_wp2
    go_ret
    exact ⟨rfl, rfl⟩

set_option maxHeartbeats 1000000 in
theorem right_any (r : Rec) (hr : r.ok) (w : World) :
    Calls Tryd.prog 12 #[r.v] w fun e w' => e = .returned (.bool (decide (RightP r))) ∧ Below w.heap.size w w' := by
  obtain ⟨off, prod, seq, key, val⟩ := r
  obtain ⟨_, _, _, _, z1, z2, z3⟩ := hr
  have HA := hide (isNumber_any off)
  have HB := hide (isNumber_any seq)
  simp only [Rec.v] at *
  by_cases h1 : numB off = true
  · have h1' := of_decide_eq_true h1
    rw [h1] at HA
    by_cases h2 : numB seq = true
    · have h2' := of_decide_eq_true h2
      rw [h2] at HB
      by_cases h3 : (prod.size : Int) ≤ 20
      · by_cases h4 : (key.size : Int) ≤ 100
        · by_cases h5 : (val.size : Int) ≤ 1000
          · have hk : decide (RightP ⟨off, prod, seq, key, val⟩) = true := decide_eq_true (RightP.of h1'.1 h1'.2 h2'.1 h2'.2 h3 h4 h5)
            rw [hk]
            clear hk h1 h2 h1' h2'
            go_enter Tryd.func12, Tryd.ntmps12
            go_wp2_with fail
            refine (HA.out _).mono ?_
            rintro e w' ⟨rfl, rfl⟩
            go_wp2_with fail
            refine (HB.out _).mono ?_
            rintro e w' ⟨rfl, rfl⟩
            go_wp2
            go_ret
            exact ⟨rfl, (Below.refl _ _).alloc (Nat.le_refl _) _⟩
          · have hk : decide (RightP ⟨off, prod, seq, key, val⟩) = false := decide_eq_false fun e => h5 e.out.2.2.2.2.2.2
            rw [hk]
            clear hk h1 h2 h1' h2'
            go_enter Tryd.func12, Tryd.ntmps12
            go_wp2_with fail
            refine (HA.out _).mono ?_
            rintro e w' ⟨rfl, rfl⟩
            go_wp2_with fail
            refine (HB.out _).mono ?_
            rintro e w' ⟨rfl, rfl⟩
            go_wp2
            go_ret
            exact ⟨congrArg (fun b => Ending.returned (.bool b)) (decide_eq_false (by omega)), (Below.refl _ _).alloc (Nat.le_refl _) _⟩
        · have hk : decide (RightP ⟨off, prod, seq, key, val⟩) = false := decide_eq_false fun e => h4 e.out.2.2.2.2.2.1
          rw [hk]
          clear hk h1 h2 h1' h2'
          go_enter Tryd.func12, Tryd.ntmps12
          go_wp2_with fail
          refine (HA.out _).mono ?_
          rintro e w' ⟨rfl, rfl⟩
          go_wp2_with fail
          refine (HB.out _).mono ?_
          rintro e w' ⟨rfl, rfl⟩
          go_wp2
          go_ret
          exact ⟨rfl, (Below.refl _ _).alloc (Nat.le_refl _) _⟩
      · have hk : decide (RightP ⟨off, prod, seq, key, val⟩) = false := decide_eq_false fun e => h3 e.out.2.2.2.2.1
        rw [hk]
        clear hk h1 h2 h1' h2'
        go_enter Tryd.func12, Tryd.ntmps12
        go_wp2_with fail
        refine (HA.out _).mono ?_
        rintro e w' ⟨rfl, rfl⟩
        go_wp2_with fail
        refine (HB.out _).mono ?_
        rintro e w' ⟨rfl, rfl⟩
        go_wp2
        go_ret
        exact ⟨rfl, (Below.refl _ _).alloc (Nat.le_refl _) _⟩
    · have hk : decide (RightP ⟨off, prod, seq, key, val⟩) = false := decide_eq_false fun e => h2 (decide_eq_true ⟨e.out.2.2.1, e.out.2.2.2.1⟩)
      rw [hk]
      rw [Bool.not_eq_true] at h2
      rw [h2] at HB
      clear hk h1 h2 h1'
      go_enter Tryd.func12, Tryd.ntmps12
      go_wp2_with fail
      refine (HA.out _).mono ?_
      rintro e w' ⟨rfl, rfl⟩
      go_wp2_with fail
      refine (HB.out _).mono ?_
      rintro e w' ⟨rfl, rfl⟩
      go_wp2
      go_ret
      exact ⟨rfl, (Below.refl _ _).alloc (Nat.le_refl _) _⟩
  · have hk : decide (RightP ⟨off, prod, seq, key, val⟩) = false := decide_eq_false fun e => h1 (decide_eq_true ⟨e.out.1, e.out.2.1⟩)
    rw [hk]
    rw [Bool.not_eq_true] at h1
    rw [h1] at HA
    clear hk h1 HB
    go_enter Tryd.func12, Tryd.ntmps12
    go_wp2_with fail
    refine (HA.out _).mono ?_
    rintro e w' ⟨rfl, rfl⟩
    go_wp2
    go_ret
    exact ⟨rfl, (Below.refl _ _).alloc (Nat.le_refl _) _⟩

theorem itemsR_ok {r : Rec} (h : RightP r) : ∀ x ∈ itemsR r, x.ok := by
  obtain ⟨h1, h2, h3, h4, h5, h6, h7⟩ := h
  intro x hx
  simp only [itemsR, List.mem_cons, List.not_mem_nil, or_false] at hx
  have z0 : (⟨#[]⟩ : ByteArray).size = 0 := rfl
  rcases hx with rfl | rfl | rfl | rfl | rfl
  · exact ⟨by simp, by simp, by simp only; omega, by simp only; omega, by simp only [z0]; omega⟩
  · exact ⟨by simp, by simp, by simp only; omega, by simp only; omega, by simp only; omega⟩
  · exact ⟨by simp, by simp, by simp only; omega, by simp only; omega, by simp only [z0]; omega⟩
  · exact ⟨by simp, by simp, by simp only; omega, by simp only; omega, by simp only; omega⟩
  · exact ⟨by simp, by simp, by simp only; omega, by simp only; omega, by simp only; omega⟩
theorem items_at (W : World) (r : Rec) (b : Nat) (t : TypeId) (hb : W.heap[b]? = some (.cells #[.int .i64 3, .int .u64 r.off, .string ⟨#[]⟩, .int .i64 4, .int .u64 0, .string r.prod, .int .i64 3, .int .u64 r.seq, .string ⟨#[]⟩, .int .i64 4, .int .u64 0, .string r.key, .int .i64 4, .int .u64 0, .string r.val] t)) : K.ItemsAt W (some ⟨b, 0, none⟩) (itemsR r) := by
  intro i hi
  have hi5 : i < 5 := hi
  have hs := (Array.getElem?_eq_some_iff.1 hb).1
  refine ⟨b, 0, rfl, hs, ?_⟩
  have hc : ∀ k, W.cell? ⟨b, k, none⟩ = (#[Value.int .i64 3, .int .u64 r.off, .string ⟨#[]⟩, .int .i64 4, .int .u64 0, .string r.prod, .int .i64 3, .int .u64 r.seq, .string ⟨#[]⟩, .int .i64 4, .int .u64 0, .string r.key, .int .i64 4, .int .u64 0, .string r.val])[k]? := fun k => by rw [Lib.cell_of_heap hb]
  rw [hc, hc, hc]
  have h5 : i = 0 ∨ i = 1 ∨ i = 2 ∨ i = 3 ∨ i = 4 := by omega
  rcases h5 with rfl | rfl | rfl | rfl | rfl <;> exact ⟨rfl, rfl, rfl⟩

set_option maxHeartbeats 1000000 in
theorem itemsOf_any (r : Rec) (hr : RightP r) (w : World) :
    Calls Tryd.prog 26 #[r.v] w fun e w' => ∃ g, e = .returned (.slice (some ⟨g, 0, none⟩) 5 5) ∧ K.ItemsAt w' (some ⟨g, 0, none⟩) (itemsR r) ∧ Below w.heap.size w w' := by
  have HR := hide hr
  obtain ⟨off, prod, seq, key, val⟩ := r
  obtain ⟨h1, h2, h3, h4, z1, z2, z3⟩ := hr
  simp only [Rec.v] at *
  go_enter Tryd.func26, Tryd.ntmps26
  go_wp2
  go_ret
  refine ⟨w.heap.size + 1, rfl, ?_, ((Below.refl _ _).alloc (Nat.le_refl _) _).alloc (by simp) _⟩
  apply items_at
  have e := heap_alloc_new (w.alloc (Obj.cells #[.int .i64 off, .string prod, .int .i64 seq, .string key, .string val] 23)) (Obj.cells #[.int .i64 3, .int .u64 off, .string ⟨#[]⟩, .int .i64 4, .int .u64 0, .string prod, .int .i64 3, .int .u64 seq, .string ⟨#[]⟩, .int .i64 4, .int .u64 0, .string key, .int .i64 4, .int .u64 0, .string val] 65)
  rw [show (w.alloc (Obj.cells #[.int .i64 off, .string prod, .int .i64 seq, .string key, .string val] 23)).heap.size = w.heap.size + 1 by simp] at e
  exact e

set_option maxHeartbeats 1000000 in
theorem one_bad (r : Rec) (hr : r.ok) (hb : ¬ RightP r) (w : World) :
    Calls Tryd.prog 10 #[r.v] w fun e w' => e = .returned (.tuple #[.string ⟨#[]⟩, .int .i64 1]) ∧ Below w.heap.size w w' := by
  have HR := hide (right_any r hr)
  rw [decide_eq_false hb] at HR
  obtain ⟨off, prod, seq, key, val⟩ := r
  clear hr hb
  simp only [Rec.v] at *
  go_enter Tryd.func10, Tryd.ntmps10
  go_wp2_with fail
  refine (HR.out _).mono ?_
  rintro e w1 ⟨rfl, b1⟩
  go_wp2
  go_ret2
  exact ⟨rfl, ((Below.refl _ _).alloc (Nat.le_refl _) _).trans (b1.mono (by simp))⟩
set_option maxHeartbeats 1000000 in
theorem one_good (r : Rec) (hb : RightP r) (w : World) (hT : Tab w) :
    Calls Tryd.prog 10 #[r.v] w fun e w' => e = .returned (.tuple #[.string ⟨(oneF r).toArray⟩, .int .i64 0]) ∧ Below w.heap.size w w' := by
  have HR := hide (right_any r hb.ok)
  have HI := hide (itemsOf_any r hb)
  have HE : Hid (∀ g w, K.ItemsAt w (some ⟨g, 0, none⟩) (itemsR r) → Calls Tryd.prog 25 #[.slice (some ⟨g, 0, none⟩) 5 5] w fun e w' => e = .returned (.tuple #[.string ⟨(codeR r).toArray⟩, .int .i64 0]) ∧ Below w.heap.size w w') := fun g w h => by
    have := K.encode_any _ 5 (itemsR r) w h (itemsR_ok hb) (by unfold maxLen; simp [itemsR])
    rw [encR hb] at this
    exact this
  have HF : Hid (∀ w, Tab w → Calls Tryd.prog 27 #[.string ⟨(codeR r).toArray⟩] w fun e w' => e = .returned (.tuple #[.string ⟨(oneF r).toArray⟩, .int .i64 0]) ∧ Below w.heap.size w w') := fun w hT => by
    have hl := codeR_le hb
    have := frame_any ⟨(codeR r).toArray⟩ w hT (by show (codeR r).toArray.size ≤ _; simp; omega)
    rw [show ((⟨(codeR r).toArray⟩ : ByteArray).data.toList) = codeR r by simp, frameR hb] at this
    exact this
  have HT := hide hT
  rw [decide_eq_true hb] at HR
  generalize (codeR r).toArray = cd at *
  generalize (oneF r).toArray = fr at *
  obtain ⟨off, prod, seq, key, val⟩ := r
  clear hb hT
  simp only [Rec.v] at *
  go_enter Tryd.func10, Tryd.ntmps10
  go_wp2_with fail
  refine (HR.out _).mono ?_
  rintro e w1 ⟨rfl, b1⟩
  have B1 : Hid (Below w.heap.size w w1) := ((Below.refl _ _).alloc (Nat.le_refl _) _).trans (b1.mono (by simp))
  have c1 := fun k => b1.cell (p := ⟨w.heap.size, k, none⟩) (by simp)
  have e0 := c1 0
  have e1 := c1 1
  have e2 := c1 2
  have e3 := c1 3
  have e4 := c1 4
  rw [Lib.cell_of_heap (heap_alloc_new _ _)] at e0 e1 e2 e3 e4
  clear b1 c1 HR
  go_wp2_with fail
  refine (HI.out _).mono ?_
  rintro e w2 ⟨g, rfl, hat, b2⟩
  have HA := hide hat
  have B2 := hide (B1.out.trans (b2.mono B1.out.size))
  clear hat b2 HI B1
  go_wp2_with fail
  refine (HE.out _ _ HA.out).mono ?_
  rintro e w3 ⟨rfl, b3⟩
  have B3 := hide (B2.out.trans (b3.mono B2.out.size))
  clear b3 HE B2
  go_wp2_with fail
  refine (HF.out _ (HT.out.below B3.out)).mono ?_
  rintro e w4 ⟨rfl, b4⟩
  have B4 := hide (B3.out.trans (b4.mono B3.out.size))
  clear b4
  go_wp2
  go_ret2
  exact ⟨rfl, B4.out⟩
end Go.Proofs.YtgnehnlmbodijaaDoor
