/-
  The document's own width and num, as they run.
-/
import Derived.Test.YtoolbbibnegdnaaGreatDoorZKAppI
import Derived.LoopN
import Derived.Laws.BytesString
import Derived.Laws.IdiomStrings
namespace Go.Proofs.YtoolbbibnegdnaaGreatDoor.K
open Go.RowKit

def rwF (k : Int) : Int := if k = 1 then 1 else if k = 2 then 4 else if k = 3 then 8 else 0

set_option maxHeartbeats 400000 in
theorem rwidth_any (k : Int) (w : World) :
    Calls Tryz.prog 74 #[.int .i64 k] w fun e w' => e = .returned (.int .i64 (rwF k)) ∧ w' = w := by
  by_cases h1 : k = 1
  · subst h1
    go_enter Tryz.func74, Tryz.ntmps74
    go_wp2
    go_ret
    exact ⟨rfl, rfl⟩
  · by_cases h2 : k = 2
    · subst h2
      go_enter Tryz.func74, Tryz.ntmps74
      go_wp2
      go_ret
      exact ⟨rfl, rfl⟩
    · by_cases h3 : k = 3
      · subst h3
        go_enter Tryz.func74, Tryz.ntmps74
        go_wp2
        go_ret
        exact ⟨rfl, rfl⟩
      · have a1 : (k == 1) = false := beq_eq_false_iff_ne.2 h1
        have a2 : (k == 2) = false := beq_eq_false_iff_ne.2 h2
        have a3 : (k == 3) = false := beq_eq_false_iff_ne.2 h3
        have hw : rwF k = 0 := by simp [rwF, h1, h2, h3]
        rw [hw]
        clear hw h1 h2 h3
        go_enter Tryz.func74, Tryz.ntmps74
        go_wp2
        go_ret
        exact ⟨rfl, rfl⟩

theorem conv_nums (w : World) (ns : List Nat) (k : Nat) (hk : ns.length = k) :
    (convert 99 9 (.slice (some ⟨w.heap.size, 0, none⟩) k k)).run Tryz.prog (w.alloc (.cells (ns.map fun n => Value.int .u8 ((n % 256 : Nat) : Int)).toArray 5)) =
      .ok (.string ⟨(ns.map fun n => (n % 256).toUInt8).toArray⟩) (w.alloc (.cells (ns.map fun n => Value.int .u8 ((n % 256 : Nat) : Int)).toArray 5)) := by
  subst hk
  have h := run_convert_bytes_back (P := Tryz.prog) (w.alloc (.cells (ns.map fun n => Value.int .u8 ((n % 256 : Nat) : Int)).toArray 5)) 99 9 5 ⟨w.heap.size, 0, none⟩ ns.length (ns.map fun n => (n % 256).toUInt8) Tryz.underlying99 Tryz.underlying5 Tryz.underlying9 ?_
  · rw [List.length_map] at h
    exact h
  · intro j hj
    rw [List.length_map] at hj
    rw [addr_add]
    have e : (w.alloc (.cells (ns.map fun n => Value.int .u8 ((n % 256 : Nat) : Int)).toArray 5)).heap[w.heap.size]? = some (.cells (ns.map fun n => Value.int .u8 ((n % 256 : Nat) : Int)).toArray 5) := by
      show (w.heap.push _)[w.heap.size]? = _
      simp
    rw [Lib.cell_of_heap e, Nat.zero_add]
    simp only [List.getElem?_toArray, List.getElem?_map, List.getElem_map]
    rw [List.getElem?_eq_getElem hj, Lib.toUInt8_mod]
    rfl

theorem be_1 (v : Nat) : Lib.beBytes 1 v = [v].map fun n => (n % 256).toUInt8 := by
  simp [Lib.beBytes, Lib.leBytes]

set_option maxHeartbeats 2000000 in
theorem num_1 (v : Nat) (w : World) (_hv : v < 18446744073709551616) :
    Calls Tryz.prog 75 #[.int .u64 v, .int .i64 1] w fun e w' => e = .returned (.string ⟨(Lib.beBytes 1 v).toArray⟩) ∧ Below w.heap.size w w' := by
  have hmk : ∀ w, (Instr.makeSlice 99 (.int .i64 1) (.int .i64 1)).run Tryz.prog w = .ok (.slice (some ⟨w.heap.size, 0, none⟩) 1 1) (w.alloc (.cells #[.int .u8 0] 5)) := fun _ => by kernel_rfl
  have hcv := conv_nums w [v] 1 rfl
  rw [← be_1] at hcv
  simp only [List.map_cons, List.map_nil, Int.natCast_emod, Int.cast_ofNat_Int] at hcv
  generalize Lib.beBytes 1 v = L at hcv ⊢
  go_enter Tryz.func75, Tryz.ntmps75
  go_wp2
  refine wp_loop_rounds 2 ?_
  rw [rounds_succ]; go_wp2
  rw [rounds_succ]; go_wp2
  go_ret
  exact ⟨rfl, (Below.refl _ _).alloc (Nat.le_refl _) _⟩

theorem be_4 (v : Nat) : Lib.beBytes 4 v = [v / 256 / 256 / 256, v / 256 / 256, v / 256, v].map fun n => (n % 256).toUInt8 := by
  simp [Lib.beBytes, Lib.leBytes]

set_option maxHeartbeats 2000000 in
theorem num_4 (v : Nat) (w : World) (_hv : v < 18446744073709551616) :
    Calls Tryz.prog 75 #[.int .u64 v, .int .i64 4] w fun e w' => e = .returned (.string ⟨(Lib.beBytes 4 v).toArray⟩) ∧ Below w.heap.size w w' := by
  have hmk : ∀ w, (Instr.makeSlice 99 (.int .i64 4) (.int .i64 4)).run Tryz.prog w = .ok (.slice (some ⟨w.heap.size, 0, none⟩) 4 4) (w.alloc (.cells #[.int .u8 0, .int .u8 0, .int .u8 0, .int .u8 0] 5)) := fun _ => by kernel_rfl
  have hcv := conv_nums w [v / 256 / 256 / 256, v / 256 / 256, v / 256, v] 4 rfl
  rw [← be_4] at hcv
  simp only [List.map_cons, List.map_nil, Int.natCast_emod, Int.natCast_ediv, Int.cast_ofNat_Int] at hcv
  generalize Lib.beBytes 4 v = L at hcv ⊢
  go_enter Tryz.func75, Tryz.ntmps75
  go_wp2
  refine wp_loop_rounds 5 ?_
  rw [rounds_succ]; go_wp2
  rw [rounds_succ]; go_wp2
  rw [rounds_succ]; go_wp2
  rw [rounds_succ]; go_wp2
  rw [rounds_succ]; go_wp2
  go_ret
  exact ⟨rfl, (Below.refl _ _).alloc (Nat.le_refl _) _⟩

theorem be_8 (v : Nat) : Lib.beBytes 8 v = [v / 256 / 256 / 256 / 256 / 256 / 256 / 256, v / 256 / 256 / 256 / 256 / 256 / 256, v / 256 / 256 / 256 / 256 / 256, v / 256 / 256 / 256 / 256, v / 256 / 256 / 256, v / 256 / 256, v / 256, v].map fun n => (n % 256).toUInt8 := by
  simp [Lib.beBytes, Lib.leBytes]

set_option maxHeartbeats 2000000 in
theorem num_8 (v : Nat) (w : World) (_hv : v < 18446744073709551616) :
    Calls Tryz.prog 75 #[.int .u64 v, .int .i64 8] w fun e w' => e = .returned (.string ⟨(Lib.beBytes 8 v).toArray⟩) ∧ Below w.heap.size w w' := by
  have hmk : ∀ w, (Instr.makeSlice 99 (.int .i64 8) (.int .i64 8)).run Tryz.prog w = .ok (.slice (some ⟨w.heap.size, 0, none⟩) 8 8) (w.alloc (.cells #[.int .u8 0, .int .u8 0, .int .u8 0, .int .u8 0, .int .u8 0, .int .u8 0, .int .u8 0, .int .u8 0] 5)) := fun _ => by kernel_rfl
  have hcv := conv_nums w [v / 256 / 256 / 256 / 256 / 256 / 256 / 256, v / 256 / 256 / 256 / 256 / 256 / 256, v / 256 / 256 / 256 / 256 / 256, v / 256 / 256 / 256 / 256, v / 256 / 256 / 256, v / 256 / 256, v / 256, v] 8 rfl
  rw [← be_8] at hcv
  simp only [List.map_cons, List.map_nil, Int.natCast_emod, Int.natCast_ediv, Int.cast_ofNat_Int] at hcv
  generalize Lib.beBytes 8 v = L at hcv ⊢
  go_enter Tryz.func75, Tryz.ntmps75
  go_wp2
  refine wp_loop_rounds 9 ?_
  rw [rounds_succ]; go_wp2
  rw [rounds_succ]; go_wp2
  rw [rounds_succ]; go_wp2
  rw [rounds_succ]; go_wp2
  rw [rounds_succ]; go_wp2
  rw [rounds_succ]; go_wp2
  rw [rounds_succ]; go_wp2
  rw [rounds_succ]; go_wp2
  rw [rounds_succ]; go_wp2
  go_ret
  exact ⟨rfl, (Below.refl _ _).alloc (Nat.le_refl _) _⟩

end Go.Proofs.YtoolbbibnegdnaaGreatDoor.K
