/-
  The contract of strings.Clone at this dump, by the library's theorem; acts as they are made.
-/
import Derived.Shelf.LaysM
import Derived.Shelf.Strconv.Clone
import Derived.Test.YtknldpaaikcedaaGreatZGD
import Derived.WalkSmall
namespace Go.Proofs.YtknldpaaikcedaaGreat
open Go.Shelf Go.RowKit

def shren : Go.Shelf.Ren := ⟨fun | 316 => 77 | n => n, fun | 0 => 0 | 3 => 3 | 4 => 4 | 5 => 5 | 9 => 9 | 37 => 63 | 127 => 116 | n => n, fun | n => n⟩
theorem sh316 : Go.Proofs.LaysM.n316 Tryz.prog shren := {
  mixed := by kernel_rfl
  f316 := Tryz.func77.trans (congrArg some (by kernel_rfl))
  t0 := Tryz.underlying0
  a0 := Tryz.isAgg0
  z0 := Tryz.sizeOf0
  v0 := Tryz.zeroValue0
  t3 := Tryz.underlying3
  a3 := Tryz.isAgg3
  z3 := Tryz.sizeOf3
  v3 := Tryz.zeroValue3
  t4 := Tryz.underlying4
  a4 := Tryz.isAgg4
  z4 := Tryz.sizeOf4
  v4 := Tryz.zeroValue4
  t9 := Tryz.underlying9
  a9 := Tryz.isAgg9
  z9 := Tryz.sizeOf9
  v9 := Tryz.zeroValue9
  t37 := Tryz.underlying63
  a37 := Tryz.isAgg63
  z37 := Tryz.sizeOf63
  v37 := Tryz.zeroValue63
  t127 := Tryz.underlying116
  a127 := Tryz.isAgg116
  z127 := Tryz.sizeOf116
  v127 := Tryz.zeroValue116
  t5 := Tryz.underlying5
  a5 := Tryz.isAgg5
  z5 := Tryz.sizeOf5
  v5 := Tryz.zeroValue5
  i0 := by kernel_rfl
  i3 := by kernel_rfl
  i4 := by kernel_rfl
  i5 := by kernel_rfl
  i9 := by kernel_rfl
  i37 := by kernel_rfl
  i127 := by kernel_rfl }
theorem liteClone (s : ByteArray) (w : World) (hlim : s.size ≤ 281474976710656) :
    Calls Tryz.prog 77 #[.string s] w fun e w' => e = .returned (.string s) ∧ Below w.heap.size w w' := Any.stringslite_Clone sh316 s w hlim
theorem clone_any (s : ByteArray) (w : World) (hs : s.size ≤ 281474976710656) :
    Calls Tryz.prog 59 #[.string s] w fun e w' => e = .returned (.string s) ∧ Below w.heap.size w w' := by
  go_enter Tryz.func59, Tryz.ntmps59
  go_wp2_with (go_at_call 77; refine (liteClone _ _ hs).mono ?_; rintro e w' ⟨rfl, hb⟩)
  go_ret
  exact ⟨rfl, hb⟩


theorem isName_any (s : ByteArray) (w : World) (hs : s.size ≤ 9223372036854775807) : Calls Tryz.prog 47 #[.string s] w fun e w' => e = .returned (.bool (decide (1 ≤ s.size) && decide (s.size ≤ 40))) ∧ w' = w := by
  by_cases h1 : 1 ≤ s.size
  · by_cases h2 : s.size ≤ 40
    · have e : (decide (1 ≤ s.size) && decide (s.size ≤ 40)) = true := by simp [h1, h2]
      rw [e]
      have i1 : (1 : Int) ≤ (s.size : Int) := by omega
      have i2 : (s.size : Int) ≤ 40 := by omega
      go_enter Tryz.func47, Tryz.ntmps47
      go_wp2
      go_ret
      exact ⟨rfl, rfl⟩
    · have e : (decide (1 ≤ s.size) && decide (s.size ≤ 40)) = false := by simp [h2]
      rw [e]
      have i1 : (1 : Int) ≤ (s.size : Int) := by omega
      have i2 : ¬ (s.size : Int) ≤ 40 := by omega
      have i3 : decide ((s.size : Int) ≤ 40) = false := by simpa using i2
      go_enter Tryz.func47, Tryz.ntmps47
      go_wp2
      go_ret
      exact ⟨rfl, rfl⟩
  · have e : (decide (1 ≤ s.size) && decide (s.size ≤ 40)) = false := by simp [h1]
    rw [e]
    have i1 : ¬ (1 : Int) ≤ (s.size : Int) := by omega
    have i3 : decide ((1 : Int) ≤ (s.size : Int)) = false := by simpa using i1
    go_enter Tryz.func47, Tryz.ntmps47
    go_wp2
    go_ret
    exact ⟨rfl, rfl⟩

set_option maxHeartbeats 1000000 in
theorem creating_any (s : ByteArray) (w : World) (hs : s.size ≤ 281474976710656) :
    Calls Tryz.prog 51 #[.string s] w fun e w' => ∃ c d f, e = .returned (.agg #[.func (.func 74) #[] #[.pointer (some ⟨c, 0, none⟩), .pointer (some ⟨d, 0, none⟩)]]) ∧ w'.heap[c]? = some (.cells #[.pointer (some ⟨f, 0, none⟩)] 62 (0, 0)) ∧ w'.heap[d]? = some (.cells #[.string s] 9 (0, 0)) ∧
      w'.heap[f]? = some (.cells #[.slice none 0 0, .slice none 0 0, .slice none 0 0] 66 (0, 0)) ∧ w.heap.size ≤ c ∧ w.heap.size ≤ d ∧ w.heap.size ≤ f ∧ c ≠ d ∧ c ≠ f ∧ d ≠ f ∧ Below w.heap.size w w' := by
  have HC := hide (fun w => clone_any s w hs)
  go_enter Tryz.func51, Tryz.ntmps51
  go_wp2_with fail
  refine (HC.out _).mono ?_
  rintro e w1 ⟨rfl, bb⟩
  have E1 : Hid (w1.heap[w.heap.size]? = some (.cells #[.string s] 9 (0, 0))) := Below.at bb (box_alloc (heap_alloc_new w _) _)
  have E2 : Hid (w1.heap[w.heap.size + 1]? = some (.cells #[.nilFunc] 93 (0, 0))) := Below.at bb (by have h := heap_alloc_new (w.alloc (.cells #[.string s] 9)) (.cells #[.nilFunc] 93); simpa using h)
  have B1 : Hid (Below w.heap.size w w1) := (((Below.refl _ w).alloc (Nat.le_refl _) _).alloc (by simp) _).trans (bb.mono (by simp; omega))
  clear bb
  have l1 := heap_lt E1.out
  have l2 := heap_lt E2.out
  have c1 : w1.cell? ⟨w.heap.size, 0, none⟩ = some (.string s) := box_cell E1.out 0 rfl
  have f1 := box_free E1.out 0
  have c2 : w1.cell? ⟨w.heap.size + 1, 0, none⟩ = some .nilFunc := box_cell E2.out 0 rfl
  have f2 := box_free E2.out 0
  have hmf : ∀ (fn : Fn) (first cap : Array Value) (w : World), (Instr.makeFunc fn first cap).run Tryz.prog w = .ok (.func fn first cap) w := fun _ _ _ _ => rfl
  go_wp2
  have T1 : Hid (Touch (fun j => w.heap.size ≤ j) w ((w1.setCell ⟨w.heap.size, 0, none⟩ (.string s)).setCell ⟨w.heap.size + 1, 0, none⟩ (.func (.func 74) #[] #[.pointer (some ⟨w1.heap.size + 1, 0, none⟩), .pointer (some ⟨w.heap.size, 0, none⟩)]))) := ((Touch.of_below (own := fun j => w.heap.size ≤ j) B1.out).setCell _ _ fun _ => Nat.le_refl _).setCell _ _ fun _ => by show w.heap.size ≤ w.heap.size + 1; omega
  have G1 := hide (box_apart (box_set E1.out 0 (.string s)) (show w.heap.size ≠ w.heap.size + 1 by omega) 0 (.func (.func 74) #[] #[.pointer (some ⟨w1.heap.size + 1, 0, none⟩), .pointer (some ⟨w.heap.size, 0, none⟩)]))
  have G2 := hide (box_set (box_apart E2.out (show w.heap.size + 1 ≠ w.heap.size by omega) 0 (.string s)) 0 (.func (.func 74) #[] #[.pointer (some ⟨w1.heap.size + 1, 0, none⟩), .pointer (some ⟨w.heap.size, 0, none⟩)]))
  have hS : Hid (((w1.setCell ⟨w.heap.size, 0, none⟩ (.string s)).setCell ⟨w.heap.size + 1, 0, none⟩ (.func (.func 74) #[] #[.pointer (some ⟨w1.heap.size + 1, 0, none⟩), .pointer (some ⟨w.heap.size, 0, none⟩)])).heap.size = w1.heap.size) := by show _ = _; rw [World.size_setCell, World.size_setCell]
  generalize (w1.setCell ⟨w.heap.size, 0, none⟩ (.string s)).setCell ⟨w.heap.size + 1, 0, none⟩ (.func (.func 74) #[] #[.pointer (some ⟨w1.heap.size + 1, 0, none⟩), .pointer (some ⟨w.heap.size, 0, none⟩)]) = W2 at *
  clear c1 f1 c2 f2 E1 E2
  have hres : ∀ o p, ((W2.alloc o).alloc p).cell? ⟨w.heap.size + 1, 0, none⟩ = some (.func (.func 74) #[] #[.pointer (some ⟨w1.heap.size + 1, 0, none⟩), .pointer (some ⟨w.heap.size, 0, none⟩)]) := fun o p => box_cell (box_alloc (box_alloc G2.out o) p) 0 rfl
  refine bodyPost_ret (v := .agg #[.func (.func 74) #[] #[.pointer (some ⟨w1.heap.size + 1, 0, none⟩), .pointer (some ⟨w.heap.size, 0, none⟩)]]) (by simp [results, Tryz.results51, go_sem, hres]) rfl ⟨w1.heap.size + 1, w.heap.size, w1.heap.size, rfl, ?_, box_alloc (box_alloc G1.out _) _, ?_, by omega, by omega, by omega, by omega, by omega, by omega, ?_⟩
  · have h := heap_alloc_new (W2.alloc (.cells #[.slice none 0 0, .slice none 0 0, .slice none 0 0] 66)) (.cells #[.pointer (some ⟨w1.heap.size, 0, none⟩)] 62)
    rw [show (W2.alloc (.cells #[.slice none 0 0, .slice none 0 0, .slice none 0 0] 66)).heap.size = w1.heap.size + 1 by simp [hS.out]] at h
    exact h
  · have h := heap_alloc_new W2 (.cells #[.slice none 0 0, .slice none 0 0, .slice none 0 0] 66)
    rw [hS.out] at h
    exact box_alloc h _
  · exact ((T1.out.alloc _).alloc _).toBelow (Nat.le_refl _) fun j hj => by omega


set_option maxHeartbeats 1000000 in
theorem removing_any (s : ByteArray) (w : World) (hs : s.size ≤ 281474976710656) :
    Calls Tryz.prog 61 #[.string s] w fun e w' => ∃ c, e = .returned (.agg #[.func (.func 78) #[] #[.pointer (some ⟨c, 0, none⟩)]]) ∧ w'.heap[c]? = some (.cells #[.string s] 9 (0, 0)) ∧ w.heap.size ≤ c ∧ Below w.heap.size w w' := by
  have HC := hide (fun w => clone_any s w hs)
  go_enter Tryz.func61, Tryz.ntmps61
  go_wp2_with fail
  refine (HC.out _).mono ?_
  rintro e w1 ⟨rfl, bb⟩
  have E1 : Hid (w1.heap[w.heap.size]? = some (.cells #[.string s] 9 (0, 0))) := Below.at bb (box_alloc (heap_alloc_new w _) _)
  have E2 : Hid (w1.heap[w.heap.size + 1]? = some (.cells #[.nilFunc] 93 (0, 0))) := Below.at bb (by have h := heap_alloc_new (w.alloc (.cells #[.string s] 9)) (.cells #[.nilFunc] 93); simpa using h)
  have B1 : Hid (Below w.heap.size w w1) := (((Below.refl _ w).alloc (Nat.le_refl _) _).alloc (by simp) _).trans (bb.mono (by simp; omega))
  clear bb
  have l1 := heap_lt E1.out
  have l2 := heap_lt E2.out
  have c1 : w1.cell? ⟨w.heap.size, 0, none⟩ = some (.string s) := box_cell E1.out 0 rfl
  have f1 := box_free E1.out 0
  have c20 : w1.cell? ⟨w.heap.size + 1, 0, none⟩ = some (.nilFunc) := box_cell E2.out 0 rfl
  have f20 := box_free E2.out 0
  have hmf : ∀ (fn : Fn) (first cap : Array Value) (w : World), (Instr.makeFunc fn first cap).run Tryz.prog w = .ok (.func fn first cap) w := fun _ _ _ _ => rfl
  go_wp2
  have T1 : Hid (Touch (fun j => w.heap.size ≤ j) w ((w1.setCell ⟨w.heap.size, 0, none⟩ (.string s)).setCell ⟨w.heap.size + 1, 0, none⟩ (.func (.func 78) #[] #[.pointer (some ⟨w.heap.size, 0, none⟩)]))) := (((Touch.of_below (own := fun j => w.heap.size ≤ j) B1.out).setCell _ _ fun _ => Nat.le_refl _).setCell _ _ fun _ => by show w.heap.size ≤ w.heap.size + 1; omega)
  have G1 := hide (box_apart (box_set E1.out 0 (.string s)) (show w.heap.size ≠ w.heap.size + 1 by omega) 0 (.func (.func 78) #[] #[.pointer (some ⟨w.heap.size, 0, none⟩)]))
  have G2 := hide (box_set (box_apart E2.out (show w.heap.size + 1 ≠ w.heap.size by omega) 0 (.string s)) 0 (.func (.func 78) #[] #[.pointer (some ⟨w.heap.size, 0, none⟩)]))
  generalize ((w1.setCell ⟨w.heap.size, 0, none⟩ (.string s)).setCell ⟨w.heap.size + 1, 0, none⟩ (.func (.func 78) #[] #[.pointer (some ⟨w.heap.size, 0, none⟩)])) = W2 at *
  have r0 : W2.cell? ⟨w.heap.size + 1, 0, none⟩ = some (.func (.func 78) #[] #[.pointer (some ⟨w.heap.size, 0, none⟩)]) := box_cell G2.out 0 rfl
  refine bodyPost_ret (v := .agg #[.func (.func 78) #[] #[.pointer (some ⟨w.heap.size, 0, none⟩)]]) (by simp [results, Tryz.results61, go_sem, r0]) rfl ⟨w.heap.size, rfl, G1.out, Nat.le_refl _, T1.out.toBelow (Nat.le_refl _) fun j hj => by omega⟩

set_option maxHeartbeats 1000000 in
theorem appending_any (s : ByteArray) (w : World) (hs : s.size ≤ 281474976710656) :
    Calls Tryz.prog 54 #[.string s] w fun e w' => ∃ c, e = .returned (.agg #[.int .i64 s.size, .func (.func 75) #[] #[.pointer (some ⟨c, 0, none⟩)]]) ∧ w'.heap[c]? = some (.cells #[.string s] 9 (0, 0)) ∧ w.heap.size ≤ c ∧ Below w.heap.size w w' := by
  have HC := hide (fun w => clone_any s w hs)
  go_enter Tryz.func54, Tryz.ntmps54
  go_wp2_with fail
  refine (HC.out _).mono ?_
  rintro e w1 ⟨rfl, bb⟩
  have E1 : Hid (w1.heap[w.heap.size]? = some (.cells #[.string s] 9 (0, 0))) := Below.at bb (box_alloc (heap_alloc_new w _) _)
  have E2 : Hid (w1.heap[w.heap.size + 1]? = some (.cells #[.int .i64 0, .nilFunc] 98 (0, 0))) := Below.at bb (by have h := heap_alloc_new (w.alloc (.cells #[.string s] 9)) (.cells #[.int .i64 0, .nilFunc] 98); simpa using h)
  have B1 : Hid (Below w.heap.size w w1) := (((Below.refl _ w).alloc (Nat.le_refl _) _).alloc (by simp) _).trans (bb.mono (by simp; omega))
  clear bb
  have l1 := heap_lt E1.out
  have l2 := heap_lt E2.out
  have c1 : w1.cell? ⟨w.heap.size, 0, none⟩ = some (.string s) := box_cell E1.out 0 rfl
  have f1 := box_free E1.out 0
  have c20 : w1.cell? ⟨w.heap.size + 1, 0, none⟩ = some (.int .i64 0) := box_cell E2.out 0 rfl
  have f20 := box_free E2.out 0
  have c21 : w1.cell? ⟨w.heap.size + 1, 1, none⟩ = some (.nilFunc) := box_cell E2.out 1 rfl
  have f21 := box_free E2.out 1
  have hmf : ∀ (fn : Fn) (first cap : Array Value) (w : World), (Instr.makeFunc fn first cap).run Tryz.prog w = .ok (.func fn first cap) w := fun _ _ _ _ => rfl
  go_wp2
  have T1 : Hid (Touch (fun j => w.heap.size ≤ j) w (((w1.setCell ⟨w.heap.size, 0, none⟩ (.string s)).setCell ⟨w.heap.size + 1, 0, none⟩ (.int .i64 s.size)).setCell ⟨w.heap.size + 1, 1, none⟩ (.func (.func 75) #[] #[.pointer (some ⟨w.heap.size, 0, none⟩)]))) := ((((Touch.of_below (own := fun j => w.heap.size ≤ j) B1.out).setCell _ _ fun _ => Nat.le_refl _).setCell _ _ fun _ => by show w.heap.size ≤ w.heap.size + 1; omega).setCell _ _ fun _ => by show w.heap.size ≤ w.heap.size + 1; omega)
  have G1 := hide (box_apart (box_apart (box_set E1.out 0 (.string s)) (show w.heap.size ≠ w.heap.size + 1 by omega) 0 (.int .i64 s.size)) (show w.heap.size ≠ w.heap.size + 1 by omega) 1 (.func (.func 75) #[] #[.pointer (some ⟨w.heap.size, 0, none⟩)]))
  have G2 := hide (box_set (box_set (box_apart E2.out (show w.heap.size + 1 ≠ w.heap.size by omega) 0 (.string s)) 0 (.int .i64 s.size)) 1 (.func (.func 75) #[] #[.pointer (some ⟨w.heap.size, 0, none⟩)]))
  generalize (((w1.setCell ⟨w.heap.size, 0, none⟩ (.string s)).setCell ⟨w.heap.size + 1, 0, none⟩ (.int .i64 s.size)).setCell ⟨w.heap.size + 1, 1, none⟩ (.func (.func 75) #[] #[.pointer (some ⟨w.heap.size, 0, none⟩)])) = W2 at *
  have r0 : W2.cell? ⟨w.heap.size + 1, 0, none⟩ = some (.int .i64 s.size) := box_cell G2.out 0 rfl
  have r1 : W2.cell? ⟨w.heap.size + 1, 1, none⟩ = some (.func (.func 75) #[] #[.pointer (some ⟨w.heap.size, 0, none⟩)]) := box_cell G2.out 1 rfl
  refine bodyPost_ret (v := .agg #[.int .i64 s.size, .func (.func 75) #[] #[.pointer (some ⟨w.heap.size, 0, none⟩)]]) (by simp [results, Tryz.results54, go_sem, r0, r1]) rfl ⟨w.heap.size, rfl, G1.out, Nat.le_refl _, T1.out.toBelow (Nat.le_refl _) fun j hj => by omega⟩

set_option maxHeartbeats 1000000 in
theorem truncating_any (n : Int) (w : World) :
    Calls Tryz.prog 73 #[.int .i64 n] w fun e w' => ∃ c, e = .returned (.agg #[.int .i64 1, .func (.func 83) #[] #[.pointer (some ⟨c, 0, none⟩)]]) ∧ w'.heap[c]? = some (.cells #[.int .i64 n] 3 (0, 0)) ∧ w.heap.size ≤ c ∧ Below w.heap.size w w' := by
  have hmf : ∀ (fn : Fn) (first cap : Array Value) (w : World), (Instr.makeFunc fn first cap).run Tryz.prog w = .ok (.func fn first cap) w := fun _ _ _ _ => rfl
  go_enter Tryz.func73, Tryz.ntmps73
  go_wp2
  refine bodyPost_ret (v := .agg #[.int .i64 1, .func (.func 83) #[] #[.pointer (some ⟨w.heap.size, 0, none⟩)]]) (by simp [results, Tryz.results73, go_sem]) rfl ⟨w.heap.size, rfl, ?_, Nat.le_refl _, ?_⟩
  · exact box_alloc (heap_alloc_new w _) _
  · exact ((Below.refl _ w).alloc (Nat.le_refl _) _).alloc (by simp) _

set_option maxRecDepth 100000 in
set_option maxHeartbeats 2000000 in
theorem renaming_any (s t : ByteArray) (w : World) (hs : s.size ≤ 281474976710656) (ht : t.size ≤ 281474976710656) :
    Calls Tryz.prog 58 #[.string s, .string t] w fun e w' => ∃ c d, e = .returned (.agg #[.func (.func 76) #[] #[.pointer (some ⟨c, 0, none⟩), .pointer (some ⟨d, 0, none⟩)]]) ∧ w'.heap[c]? = some (.cells #[.string s] 9 (0, 0)) ∧ w'.heap[d]? = some (.cells #[.string t] 9 (0, 0)) ∧ w.heap.size ≤ c ∧ w.heap.size ≤ d ∧ Below w.heap.size w w' := by
  have HC := hide (fun w => clone_any s w hs)
  have HD := hide (fun w => clone_any t w ht)
  go_enter Tryz.func58, Tryz.ntmps58
  go_wp2
  have B0 : Hid (Below w.heap.size w (((w.alloc (.cells #[.string s] 9)).alloc (.cells #[.string t] 9)).alloc (.cells #[.nilFunc] 93))) := (((Below.refl _ w).alloc (Nat.le_refl _) _).alloc (by simp) _).alloc (by simp; omega) _
  have E1 : Hid ((((w.alloc (.cells #[.string s] 9)).alloc (.cells #[.string t] 9)).alloc (.cells #[.nilFunc] 93)).heap[w.heap.size]? = some (.cells #[.string s] 9 (0, 0))) := box_alloc (box_alloc (heap_alloc_new w _) _) _
  have E2 : Hid ((((w.alloc (.cells #[.string s] 9)).alloc (.cells #[.string t] 9)).alloc (.cells #[.nilFunc] 93)).heap[w.heap.size + 1]? = some (.cells #[.string t] 9 (0, 0))) := box_alloc (by have h := heap_alloc_new (w.alloc (.cells #[.string s] 9)) (.cells #[.string t] 9); simpa using h) _
  have E3 : Hid ((((w.alloc (.cells #[.string s] 9)).alloc (.cells #[.string t] 9)).alloc (.cells #[.nilFunc] 93)).heap[w.heap.size + 1 + 1]? = some (.cells #[.nilFunc] 93 (0, 0))) := by have h := heap_alloc_new ((w.alloc (.cells #[.string s] 9)).alloc (.cells #[.string t] 9)) (.cells #[.nilFunc] 93); show _ = _; simpa using h
  generalize ((w.alloc (.cells #[.string s] 9)).alloc (.cells #[.string t] 9)).alloc (.cells #[.nilFunc] 93) = W0 at *
  have c1 : W0.cell? ⟨w.heap.size, 0, none⟩ = some (.string s) := box_cell E1.out 0 rfl
  have c2 : W0.cell? ⟨w.heap.size + 1, 0, none⟩ = some (.string t) := box_cell E2.out 0 rfl
  have f1 := box_free E1.out 0
  have f2 := box_free E2.out 0
  have l1 := heap_lt E1.out
  have l2 := heap_lt E2.out
  go_region_held3 (fun w' => w'.cell? ⟨w.heap.size, 0, none⟩ = some (.string s) ∧ w'.cell? ⟨w.heap.size + 1, 0, none⟩ = some (.string t))
    (go_keep)
    (first
      | (go_at_call 59; refine (HC.out W0.drew).mono ?_; rintro e w1 ⟨rfl, bb⟩; have B1 := hide (show Below W0.heap.size W0 w1 from ⟨bb.os, bb.tape, bb.output, bb.size, bb.block⟩); clear bb; have d1 : w1.cell? ⟨w.heap.size, 0, none⟩ = some (.string s) := box_cell (Below.at B1.out E1.out) 0 rfl; have d2 : w1.cell? ⟨w.heap.size + 1, 0, none⟩ = some (.string t) := box_cell (Below.at B1.out E2.out) 0 rfl)
      | (go_at_call 59; refine (HD.out _).mono ?_; rintro e w2 ⟨rfl, b2⟩; have B2 := hide (B1.out.trans (b2.mono B1.out.size)); clear b2; have d3 : w2.cell? ⟨w.heap.size, 0, none⟩ = some (.string s) := box_cell (Below.at B2.out E1.out) 0 rfl; have d4 : w2.cell? ⟨w.heap.size + 1, 0, none⟩ = some (.string t) := box_cell (Below.at B2.out E2.out) 0 rfl; have f3 : w2.frozen? ⟨w.heap.size, 0, none⟩ = false := box_free (Below.at B2.out E1.out) 0; have f4 : w2.frozen? ⟨w.heap.size + 1, 0, none⟩ = false := box_free (Below.at B2.out E2.out) 0; have g1 : (w2.setCell ⟨w.heap.size, 0, none⟩ (.string s)).cell? ⟨w.heap.size, 0, none⟩ = some (.string s) := box_cell (box_set (Below.at B2.out E1.out) 0 (.string s)) 0 rfl; have g2 : ((w2.setCell ⟨w.heap.size, 0, none⟩ (.string s)).setCell ⟨w.heap.size + 1, 0, none⟩ (.string t)).cell? ⟨w.heap.size + 1, 0, none⟩ = some (.string t) := box_cell (box_set (box_apart (Below.at B2.out E2.out) (show w.heap.size + 1 ≠ w.heap.size by omega) 0 (.string s)) 0 (.string t)) 0 rfl))
  have H1 := hide (box_apart (box_set (Below.at B2.out E1.out) 0 (.string s)) (show w.heap.size ≠ w.heap.size + 1 by omega) 0 (.string t))
  have H2 := hide (box_set (box_apart (Below.at B2.out E2.out) (show w.heap.size + 1 ≠ w.heap.size by omega) 0 (.string s)) 0 (.string t))
  have H3 := hide (box_apart (box_apart (Below.at B2.out E3.out) (show w.heap.size + 1 + 1 ≠ w.heap.size by omega) 0 (.string s)) (show w.heap.size + 1 + 1 ≠ w.heap.size + 1 by omega) 0 (.string t))
  have T1 : Hid (Touch (fun j => w.heap.size ≤ j) w ((w2.setCell ⟨w.heap.size, 0, none⟩ (.string s)).setCell ⟨w.heap.size + 1, 0, none⟩ (.string t))) := ((Touch.of_below (own := fun j => w.heap.size ≤ j) (B0.out.trans (B2.out.mono B0.out.size))).setCell _ _ fun _ => Nat.le_refl _).setCell _ _ fun _ => by show w.heap.size ≤ w.heap.size + 1; omega
  clear g1 g2 f1 f2 f3 f4 c1 c2 d1 d2 d3 d4
  generalize (w2.setCell ⟨w.heap.size, 0, none⟩ (.string s)).setCell ⟨w.heap.size + 1, 0, none⟩ (.string t) = W4 at *
  have c3 : W4.cell? ⟨w.heap.size + 1 + 1, 0, none⟩ = some .nilFunc := box_cell H3.out 0 rfl
  have f3 := box_free H3.out 0
  have hmf : ∀ (fn : Fn) (first cap : Array Value) (w : World), (Instr.makeFunc fn first cap).run Tryz.prog w = .ok (.func fn first cap) w := fun _ _ _ _ => rfl
  go_wp2
  have hres : (W4.setCell ⟨w.heap.size + 1 + 1, 0, none⟩ (.func (.func 76) #[] #[.pointer (some ⟨w.heap.size, 0, none⟩), .pointer (some ⟨w.heap.size + 1, 0, none⟩)])).cell? ⟨w.heap.size + 1 + 1, 0, none⟩ = some (.func (.func 76) #[] #[.pointer (some ⟨w.heap.size, 0, none⟩), .pointer (some ⟨w.heap.size + 1, 0, none⟩)]) := box_cell (box_set H3.out 0 _) 0 rfl
  refine bodyPost_ret (v := .agg #[.func (.func 76) #[] #[.pointer (some ⟨w.heap.size, 0, none⟩), .pointer (some ⟨w.heap.size + 1, 0, none⟩)]]) (by simp [results, Tryz.results58, go_sem, hres]) rfl ⟨w.heap.size, w.heap.size + 1, rfl, box_apart H1.out (by omega) 0 _, box_apart H2.out (by omega) 0 _, by omega, by omega, (T1.out.setCell _ _ fun _ => by show w.heap.size ≤ w.heap.size + 1 + 1; omega).toBelow (Nat.le_refl _) fun j hj => by omega⟩

end Go.Proofs.YtknldpaaikcedaaGreat
