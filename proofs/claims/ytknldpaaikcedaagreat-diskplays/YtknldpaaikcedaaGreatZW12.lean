/-
  Create, Rename, Remove as they run.
-/
import Derived.Test.YtknldpaaikcedaaGreatZW11
import Derived.Deep.QuietTactic
import Derived.BigQuiet
namespace Go.Proofs.YtknldpaaikcedaaGreat
open Go.RowKit Go.Maps

/-- What comes of an act: it is refused ahead of the fuse, the fuse is at its end, or it is done. -/
def Out (G G' : DG) (err refuse : Int) (done : DG → Prop) : Prop :=
  (refuse ≠ 0 ∧ err = refuse ∧ G' = G) ∨ (refuse = 0 ∧ G.fuse = 0 ∧ err = 9 ∧ G' = G.fall) ∨ (refuse = 0 ∧ G.fuse ≠ 0 ∧ err = 0 ∧ done G')
def isName (s : ByteArray) : Bool := decide (1 ≤ s.size) && decide (s.size ≤ 40)
theorem isName_iff (s : ByteArray) : isName s = true ↔ 1 ≤ s.size ∧ s.size ≤ 40 := by simp [isName]

theorem Rep.look {w : World} {b : Nat} {G : DG} (h : Rep w b G) (s : ByteArray) (hs : s.size ≤ maxLen) : (Instr.lookup 50 (.map (some G.nb)) (.string s) false).run Tryz.prog w = .ok (.pointer ((dget G.D s.data.toList).map fun j => ⟨j, 0, none⟩)) w :=
  dlook h.now keyedS Tryz.underlying50 Tryz.underlying9 (zeroFile w) s hs
theorem drew_below (w : World) : Below w.heap.size w w.drew := (Below.refl _ w).drew
theorem tick_role (G : DG) (j : Nat) : G.tick.role j = G.role j := rfl
/-- Cells of blocks that are not the disk's, behind a tick. -/
theorem ticked_at {w : World} {b : Nat} {G : DG} (h : Rep w b G) {k : Nat} {o : Obj} (hk : w.heap[k]? = some o) (h0 : G.role k = (0, 0)) : (ticked w b G.fuse).heap[k]? = some o := (h.tick).touch.at hk fun e => e h0
theorem fresh_role {w : World} {b : Nat} {G : DG} (h : Rep w b G) (k : Nat) (hk : w.heap.size ≤ k) : G.role k = (0, 0) := Classical.byContradiction fun e => by have := h.lt k e; omega

set_option maxRecDepth 100000 in
set_option maxHeartbeats 2000000 in
theorem create_down {w : World} {b : Nat} {G : DG} (h : Rep w b G) (s : ByteArray) (_hs : s.size ≤ maxLen) (hd : G.down = true) :
    Calls Tryz.prog 16 #[.pointer (some ⟨b, 0, none⟩), .string s] w fun e w' => e = .returned (.int .i64 9) ∧ Below w.heap.size w w' := by
  have HR := hide h
  clear h
  unfold maxLen at *
  go_enter Tryz.func16, Tryz.ntmps16
  go_upto_region 1 with fail
  have B0 : Hid (Below w.heap.size w ((w.alloc (.cells #[.pointer (some ⟨b, 0, none⟩)] 24)).alloc (.cells #[.string s] 9))) := (((Below.refl _ w).alloc (Nat.le_refl _) _).alloc (by simp) _)
  have P0 : Hid (((w.alloc (.cells #[.pointer (some ⟨b, 0, none⟩)] 24)).alloc (.cells #[.string s] 9)).heap[w.heap.size]? = some (.cells #[.pointer (some ⟨b, 0, none⟩)] 24 (0, 0))) := (box_alloc (heap_alloc_new w _) _)
  have P1 : Hid (((w.alloc (.cells #[.pointer (some ⟨b, 0, none⟩)] 24)).alloc (.cells #[.string s] 9)).heap[w.heap.size + 1]? = some (.cells #[.string s] 9 (0, 0))) := by have h := heap_alloc_new (w.alloc (.cells #[.pointer (some ⟨b, 0, none⟩)] 24)) (.cells #[.string s] 9); show _ = _; simpa using h
  generalize ((w.alloc (.cells #[.pointer (some ⟨b, 0, none⟩)] 24)).alloc (.cells #[.string s] 9)) = W0 at *
  have p0 : W0.cell? ⟨w.heap.size, 0, none⟩ = some (.pointer (some ⟨b, 0, none⟩)) := box_cell P0.out 0 rfl
  have p1 : W0.cell? ⟨w.heap.size + 1, 0, none⟩ = some (.string s) := box_cell P1.out 0 rfl
  have R0 := hide (HR.out.below B0.out)
  have c2 : W0.cell? ⟨b, 2, none⟩ = some (.bool G.down) := box_cell R0.out.box 2 rfl
  have c3 : W0.cell? ⟨b, 3, none⟩ = some (.map (some G.nb)) := box_cell R0.out.box 3 rfl
  rw [hd] at c2
  go_wp2
  go_ret
  exact ⟨rfl, B0.out⟩

set_option maxRecDepth 100000 in
set_option maxHeartbeats 2000000 in
theorem create_name {w : World} {b : Nat} {G : DG} (h : Rep w b G) (s : ByteArray) (hs : s.size ≤ maxLen) (hd : G.down = false) (hnm : isName s = false) :
    Calls Tryz.prog 16 #[.pointer (some ⟨b, 0, none⟩), .string s] w fun e w' => e = .returned (.int .i64 5) ∧ Below w.heap.size w w' := by
  have HR := hide h
  clear h
  unfold maxLen at *
  go_enter Tryz.func16, Tryz.ntmps16
  go_upto_region 1 with fail
  have B0 : Hid (Below w.heap.size w ((w.alloc (.cells #[.pointer (some ⟨b, 0, none⟩)] 24)).alloc (.cells #[.string s] 9))) := (((Below.refl _ w).alloc (Nat.le_refl _) _).alloc (by simp) _)
  have P0 : Hid (((w.alloc (.cells #[.pointer (some ⟨b, 0, none⟩)] 24)).alloc (.cells #[.string s] 9)).heap[w.heap.size]? = some (.cells #[.pointer (some ⟨b, 0, none⟩)] 24 (0, 0))) := (box_alloc (heap_alloc_new w _) _)
  have P1 : Hid (((w.alloc (.cells #[.pointer (some ⟨b, 0, none⟩)] 24)).alloc (.cells #[.string s] 9)).heap[w.heap.size + 1]? = some (.cells #[.string s] 9 (0, 0))) := by have h := heap_alloc_new (w.alloc (.cells #[.pointer (some ⟨b, 0, none⟩)] 24)) (.cells #[.string s] 9); show _ = _; simpa using h
  generalize ((w.alloc (.cells #[.pointer (some ⟨b, 0, none⟩)] 24)).alloc (.cells #[.string s] 9)) = W0 at *
  have p0 : W0.cell? ⟨w.heap.size, 0, none⟩ = some (.pointer (some ⟨b, 0, none⟩)) := box_cell P0.out 0 rfl
  have p1 : W0.cell? ⟨w.heap.size + 1, 0, none⟩ = some (.string s) := box_cell P1.out 0 rfl
  have R0 := hide (HR.out.below B0.out)
  have c2 : W0.cell? ⟨b, 2, none⟩ = some (.bool G.down) := box_cell R0.out.box 2 rfl
  have c3 : W0.cell? ⟨b, 3, none⟩ = some (.map (some G.nb)) := box_cell R0.out.box 3 rfl
  rw [hd] at c2
  have HI := hide (fun w => isName_any s w (by omega))
  rw [show (decide (1 ≤ s.size) && decide (s.size ≤ 40)) = false from hnm] at HI
  go_wp2_with (go_at_call 47; refine (HI.out _).mono ?_; rintro e w' ⟨rfl, hw⟩; obtain rfl := hw.symm)
  go_ret
  exact ⟨rfl, B0.out⟩

set_option maxRecDepth 100000 in
set_option maxHeartbeats 2000000 in
theorem create_exists {w : World} {b : Nat} {G : DG} (h : Rep w b G) (s : ByteArray) (hs : s.size ≤ maxLen) (hd : G.down = false) (hnm : isName s = true) (f : Nat) (hg : dget G.D s.data.toList = some f) :
    Calls Tryz.prog 16 #[.pointer (some ⟨b, 0, none⟩), .string s] w fun e w' => e = .returned (.int .i64 6) ∧ Below w.heap.size w w' := by
  have HR := hide h
  clear h
  unfold maxLen at *
  go_enter Tryz.func16, Tryz.ntmps16
  go_upto_region 1 with fail
  have B0 : Hid (Below w.heap.size w ((w.alloc (.cells #[.pointer (some ⟨b, 0, none⟩)] 24)).alloc (.cells #[.string s] 9))) := (((Below.refl _ w).alloc (Nat.le_refl _) _).alloc (by simp) _)
  have P0 : Hid (((w.alloc (.cells #[.pointer (some ⟨b, 0, none⟩)] 24)).alloc (.cells #[.string s] 9)).heap[w.heap.size]? = some (.cells #[.pointer (some ⟨b, 0, none⟩)] 24 (0, 0))) := (box_alloc (heap_alloc_new w _) _)
  have P1 : Hid (((w.alloc (.cells #[.pointer (some ⟨b, 0, none⟩)] 24)).alloc (.cells #[.string s] 9)).heap[w.heap.size + 1]? = some (.cells #[.string s] 9 (0, 0))) := by have h := heap_alloc_new (w.alloc (.cells #[.pointer (some ⟨b, 0, none⟩)] 24)) (.cells #[.string s] 9); show _ = _; simpa using h
  generalize ((w.alloc (.cells #[.pointer (some ⟨b, 0, none⟩)] 24)).alloc (.cells #[.string s] 9)) = W0 at *
  have p0 : W0.cell? ⟨w.heap.size, 0, none⟩ = some (.pointer (some ⟨b, 0, none⟩)) := box_cell P0.out 0 rfl
  have p1 : W0.cell? ⟨w.heap.size + 1, 0, none⟩ = some (.string s) := box_cell P1.out 0 rfl
  have R0 := hide (HR.out.below B0.out)
  have c2 : W0.cell? ⟨b, 2, none⟩ = some (.bool G.down) := box_cell R0.out.box 2 rfl
  have c3 : W0.cell? ⟨b, 3, none⟩ = some (.map (some G.nb)) := box_cell R0.out.box 3 rfl
  have hlk : (Instr.lookup 50 (.map (some G.nb)) (.string s) false).run Tryz.prog W0 = .ok (.pointer (some ⟨f, 0, none⟩)) W0 := by have h := R0.out.look s (by unfold maxLen; omega); rw [hg] at h; exact h
  have hlkd : (Instr.lookup 50 (.map (some G.nb)) (.string s) false).run Tryz.prog W0.drew = .ok (.pointer (some ⟨f, 0, none⟩)) W0.drew := by have h := (R0.out.below (drew_below W0)).look s (by unfold maxLen; omega); rw [hg] at h; exact h
  rw [hd] at c2
  have HI := hide (fun w => isName_any s w (by omega))
  rw [show (decide (1 ≤ s.size) && decide (s.size ≤ 40)) = true from hnm] at HI
  go_wp2_with (go_at_call 47; refine (HI.out _).mono ?_; rintro e w' ⟨rfl, hw⟩; obtain rfl := hw.symm)
  go_region
  go_wp2
  go_ret
  exact ⟨rfl, B0.out.drew⟩

set_option maxRecDepth 100000 in
set_option maxHeartbeats 2000000 in
theorem create_full {w : World} {b : Nat} {G : DG} (h : Rep w b G) (s : ByteArray) (hs : s.size ≤ maxLen) (hd : G.down = false) (hnm : isName s = true) (hg : dget G.D s.data.toList = none) (hsz : 200 ≤ Maps.size G.D) :
    Calls Tryz.prog 16 #[.pointer (some ⟨b, 0, none⟩), .string s] w fun e w' => e = .returned (.int .i64 8) ∧ Below w.heap.size w w' := by
  have HR := hide h
  clear h
  unfold maxLen at *
  go_enter Tryz.func16, Tryz.ntmps16
  go_upto_region 1 with fail
  have B0 : Hid (Below w.heap.size w ((w.alloc (.cells #[.pointer (some ⟨b, 0, none⟩)] 24)).alloc (.cells #[.string s] 9))) := (((Below.refl _ w).alloc (Nat.le_refl _) _).alloc (by simp) _)
  have P0 : Hid (((w.alloc (.cells #[.pointer (some ⟨b, 0, none⟩)] 24)).alloc (.cells #[.string s] 9)).heap[w.heap.size]? = some (.cells #[.pointer (some ⟨b, 0, none⟩)] 24 (0, 0))) := (box_alloc (heap_alloc_new w _) _)
  have P1 : Hid (((w.alloc (.cells #[.pointer (some ⟨b, 0, none⟩)] 24)).alloc (.cells #[.string s] 9)).heap[w.heap.size + 1]? = some (.cells #[.string s] 9 (0, 0))) := by have h := heap_alloc_new (w.alloc (.cells #[.pointer (some ⟨b, 0, none⟩)] 24)) (.cells #[.string s] 9); show _ = _; simpa using h
  generalize ((w.alloc (.cells #[.pointer (some ⟨b, 0, none⟩)] 24)).alloc (.cells #[.string s] 9)) = W0 at *
  have p0 : W0.cell? ⟨w.heap.size, 0, none⟩ = some (.pointer (some ⟨b, 0, none⟩)) := box_cell P0.out 0 rfl
  have p1 : W0.cell? ⟨w.heap.size + 1, 0, none⟩ = some (.string s) := box_cell P1.out 0 rfl
  have R0 := hide (HR.out.below B0.out)
  have c2 : W0.cell? ⟨b, 2, none⟩ = some (.bool G.down) := box_cell R0.out.box 2 rfl
  have c3 : W0.cell? ⟨b, 3, none⟩ = some (.map (some G.nb)) := box_cell R0.out.box 3 rfl
  have hlk : (Instr.lookup 50 (.map (some G.nb)) (.string s) false).run Tryz.prog W0 = .ok (.pointer none) W0 := by have h := R0.out.look s (by unfold maxLen; omega); rw [hg] at h; exact h
  have hlkd : (Instr.lookup 50 (.map (some G.nb)) (.string s) false).run Tryz.prog W0.drew = .ok (.pointer none) W0.drew := by have h := (R0.out.below (drew_below W0)).look s (by unfold maxLen; omega); rw [hg] at h; exact h
  have hsz2 : (200 : Int) ≤ (Maps.size G.D : Int) := by omega
  rw [hd] at c2
  have HI := hide (fun w => isName_any s w (by omega))
  rw [show (decide (1 ≤ s.size) && decide (s.size ≤ 40)) = true from hnm] at HI
  go_wp2_with (go_at_call 47; refine (HI.out _).mono ?_; rintro e w' ⟨rfl, hw⟩; obtain rfl := hw.symm)
  go_region
  go_wp2_with (at_len; refine wpList_len_own _ rfl _ 50 rfl 9 62 Tryz.underlying50 ptrR G.nb G.n G.D rfl (R0.out.below (drew_below W0)).now ?_)
  go_ret
  exact ⟨rfl, B0.out.drew⟩

set_option maxRecDepth 100000 in
set_option maxHeartbeats 2000000 in
theorem create_stop {w : World} {b : Nat} {G : DG} (h : Rep w b G) (s : ByteArray) (hs : s.size ≤ maxLen) (hd : G.down = false) (hnm : isName s = true) (hg : dget G.D s.data.toList = none) (hsz : ¬ 200 ≤ Maps.size G.D) (hz : G.fuse = 0) :
    Calls Tryz.prog 16 #[.pointer (some ⟨b, 0, none⟩), .string s] w fun e w' => e = .returned (.int .i64 9) ∧ Step w b G w' G.fall := by
  have HR := hide h
  clear h
  unfold maxLen at *
  go_enter Tryz.func16, Tryz.ntmps16
  go_upto_region 1 with fail
  have B0 : Hid (Below w.heap.size w ((w.alloc (.cells #[.pointer (some ⟨b, 0, none⟩)] 24)).alloc (.cells #[.string s] 9))) := (((Below.refl _ w).alloc (Nat.le_refl _) _).alloc (by simp) _)
  have P0 : Hid (((w.alloc (.cells #[.pointer (some ⟨b, 0, none⟩)] 24)).alloc (.cells #[.string s] 9)).heap[w.heap.size]? = some (.cells #[.pointer (some ⟨b, 0, none⟩)] 24 (0, 0))) := (box_alloc (heap_alloc_new w _) _)
  have P1 : Hid (((w.alloc (.cells #[.pointer (some ⟨b, 0, none⟩)] 24)).alloc (.cells #[.string s] 9)).heap[w.heap.size + 1]? = some (.cells #[.string s] 9 (0, 0))) := by have h := heap_alloc_new (w.alloc (.cells #[.pointer (some ⟨b, 0, none⟩)] 24)) (.cells #[.string s] 9); show _ = _; simpa using h
  generalize ((w.alloc (.cells #[.pointer (some ⟨b, 0, none⟩)] 24)).alloc (.cells #[.string s] 9)) = W0 at *
  have p0 : W0.cell? ⟨w.heap.size, 0, none⟩ = some (.pointer (some ⟨b, 0, none⟩)) := box_cell P0.out 0 rfl
  have p1 : W0.cell? ⟨w.heap.size + 1, 0, none⟩ = some (.string s) := box_cell P1.out 0 rfl
  have R0 := hide (HR.out.below B0.out)
  have c2 : W0.cell? ⟨b, 2, none⟩ = some (.bool G.down) := box_cell R0.out.box 2 rfl
  have c3 : W0.cell? ⟨b, 3, none⟩ = some (.map (some G.nb)) := box_cell R0.out.box 3 rfl
  have hlk : (Instr.lookup 50 (.map (some G.nb)) (.string s) false).run Tryz.prog W0 = .ok (.pointer none) W0 := by have h := R0.out.look s (by unfold maxLen; omega); rw [hg] at h; exact h
  have hlkd : (Instr.lookup 50 (.map (some G.nb)) (.string s) false).run Tryz.prog W0.drew = .ok (.pointer none) W0.drew := by have h := (R0.out.below (drew_below W0)).look s (by unfold maxLen; omega); rw [hg] at h; exact h
  have hsz2 : ¬ (200 : Int) ≤ (Maps.size G.D : Int) := by omega
  have hmf : ∀ (fn : Fn) (first cap : Array Value) (w : World), (Instr.makeFunc fn first cap).run Tryz.prog w = .ok (.func fn first cap) w := fun _ _ _ _ => rfl
  rw [hd] at c2
  have HI := hide (fun w => isName_any s w (by omega))
  rw [show (decide (1 ≤ s.size) && decide (s.size ≤ 40)) = true from hnm] at HI
  go_wp2_with (go_at_call 47; refine (HI.out _).mono ?_; rintro e w' ⟨rfl, hw⟩; obtain rfl := hw.symm)
  go_region
  have RD := hide (R0.out.below (drew_below W0))
  have HA := hide (fun fv => act_stop b fv W0.drew G RD.out hz)
  go_wp2_with (first | (at_len; refine wpList_len_own _ rfl _ 50 rfl 9 62 Tryz.underlying50 ptrR G.nb G.n G.D rfl (R0.out.below (drew_below W0)).now ?_) | (go_at_call 48; refine (HA.out _).mono ?_; rintro e w2 ⟨rfl, rfl⟩))
  go_ret
  exact ⟨rfl, Step.ahead (B0.out.drew) RD.out.fall⟩

set_option maxRecDepth 100000 in
set_option maxHeartbeats 2000000 in
theorem create_go {w : World} {b : Nat} {G : DG} (h : Rep w b G) (s : ByteArray) (hs : s.size ≤ maxLen) (hn : G.n < 100000) (hd : G.down = false) (hnm : isName s = true) (hg : dget G.D s.data.toList = none) (hsz : ¬ 200 ≤ Maps.size G.D) (hz : G.fuse ≠ 0) :
    Calls Tryz.prog 16 #[.pointer (some ⟨b, 0, none⟩), .string s] w fun e w' => e = .returned (.int .i64 0) ∧ ∃ f G', Step w b G w' G' ∧ Created G.tick G' s f := by
  have HR := hide h
  clear h
  unfold maxLen at *
  go_enter Tryz.func16, Tryz.ntmps16
  go_upto_region 1 with fail
  have B0 : Hid (Below w.heap.size w ((w.alloc (.cells #[.pointer (some ⟨b, 0, none⟩)] 24)).alloc (.cells #[.string s] 9))) := (((Below.refl _ w).alloc (Nat.le_refl _) _).alloc (by simp) _)
  have P0 : Hid (((w.alloc (.cells #[.pointer (some ⟨b, 0, none⟩)] 24)).alloc (.cells #[.string s] 9)).heap[w.heap.size]? = some (.cells #[.pointer (some ⟨b, 0, none⟩)] 24 (0, 0))) := (box_alloc (heap_alloc_new w _) _)
  have P1 : Hid (((w.alloc (.cells #[.pointer (some ⟨b, 0, none⟩)] 24)).alloc (.cells #[.string s] 9)).heap[w.heap.size + 1]? = some (.cells #[.string s] 9 (0, 0))) := by have h := heap_alloc_new (w.alloc (.cells #[.pointer (some ⟨b, 0, none⟩)] 24)) (.cells #[.string s] 9); show _ = _; simpa using h
  generalize ((w.alloc (.cells #[.pointer (some ⟨b, 0, none⟩)] 24)).alloc (.cells #[.string s] 9)) = W0 at *
  have p0 : W0.cell? ⟨w.heap.size, 0, none⟩ = some (.pointer (some ⟨b, 0, none⟩)) := box_cell P0.out 0 rfl
  have p1 : W0.cell? ⟨w.heap.size + 1, 0, none⟩ = some (.string s) := box_cell P1.out 0 rfl
  have R0 := hide (HR.out.below B0.out)
  have c2 : W0.cell? ⟨b, 2, none⟩ = some (.bool G.down) := box_cell R0.out.box 2 rfl
  have c3 : W0.cell? ⟨b, 3, none⟩ = some (.map (some G.nb)) := box_cell R0.out.box 3 rfl
  have hlk : (Instr.lookup 50 (.map (some G.nb)) (.string s) false).run Tryz.prog W0 = .ok (.pointer none) W0 := by have h := R0.out.look s (by unfold maxLen; omega); rw [hg] at h; exact h
  have hlkd : (Instr.lookup 50 (.map (some G.nb)) (.string s) false).run Tryz.prog W0.drew = .ok (.pointer none) W0.drew := by have h := (R0.out.below (drew_below W0)).look s (by unfold maxLen; omega); rw [hg] at h; exact h
  have hsz2 : ¬ (200 : Int) ≤ (Maps.size G.D : Int) := by omega
  have hmf : ∀ (fn : Fn) (first cap : Array Value) (w : World), (Instr.makeFunc fn first cap).run Tryz.prog w = .ok (.func fn first cap) w := fun _ _ _ _ => rfl
  rw [hd] at c2
  have HI := hide (fun w => isName_any s w (by omega))
  rw [show (decide (1 ≤ s.size) && decide (s.size ≤ 40)) = true from hnm] at HI
  go_wp2_with (go_at_call 47; refine (HI.out _).mono ?_; rintro e w' ⟨rfl, hw⟩; obtain rfl := hw.symm)
  go_region
  have RD := hide (R0.out.below (drew_below W0))
  have HA := hide (act2_go b 49 (.pointer (some ⟨w.heap.size, 0, none⟩)) (.pointer (some ⟨w.heap.size + 1, 0, none⟩)) W0.drew G (fun w' => ∃ f G', Step (ticked W0.drew b G.fuse) b G.tick w' G' ∧ Created G.tick G' s f) RD.out hz (enters_of Tryz.func49 (by kernel_rfl) rfl)
    (create_act RD.out.tick.rep hn w.heap.size (w.heap.size + 1) s ((isName_iff s).1 hnm) (ticked_at RD.out P0.out (fresh_role HR.out _ (Nat.le_refl _))) (ticked_at RD.out P1.out (fresh_role HR.out _ (by omega))) (fresh_role HR.out _ (Nat.le_refl _)) (fresh_role HR.out _ (by omega))))
  go_wp2_with (first | (at_len; refine wpList_len_own _ rfl _ 50 rfl 9 62 Tryz.underlying50 ptrR G.nb G.n G.D rfl (R0.out.below (drew_below W0)).now ?_) | (go_at_call 48; refine HA.out.mono ?_; rintro e w2 ⟨rfl, f, G', hst, hcr⟩))
  go_ret
  exact ⟨rfl, f, G', Step.ahead (B0.out.drew) (RD.out.tick.trans hst), hcr⟩

set_option maxRecDepth 100000 in
set_option maxHeartbeats 2000000 in
theorem remove_down {w : World} {b : Nat} {G : DG} (h : Rep w b G) (s : ByteArray) (_hs : s.size ≤ maxLen) (hd : G.down = true) :
    Calls Tryz.prog 22 #[.pointer (some ⟨b, 0, none⟩), .string s] w fun e w' => e = .returned (.int .i64 9) ∧ Below w.heap.size w w' := by
  have HR := hide h
  clear h
  unfold maxLen at *
  go_enter Tryz.func22, Tryz.ntmps22
  go_upto_region 1 with fail
  have B0 : Hid (Below w.heap.size w ((w.alloc (.cells #[.pointer (some ⟨b, 0, none⟩)] 24)).alloc (.cells #[.string s] 9))) := (((Below.refl _ w).alloc (Nat.le_refl _) _).alloc (by simp) _)
  have P0 : Hid (((w.alloc (.cells #[.pointer (some ⟨b, 0, none⟩)] 24)).alloc (.cells #[.string s] 9)).heap[w.heap.size]? = some (.cells #[.pointer (some ⟨b, 0, none⟩)] 24 (0, 0))) := (box_alloc (heap_alloc_new w _) _)
  have P1 : Hid (((w.alloc (.cells #[.pointer (some ⟨b, 0, none⟩)] 24)).alloc (.cells #[.string s] 9)).heap[w.heap.size + 1]? = some (.cells #[.string s] 9 (0, 0))) := by have h := heap_alloc_new (w.alloc (.cells #[.pointer (some ⟨b, 0, none⟩)] 24)) (.cells #[.string s] 9); show _ = _; simpa using h
  generalize ((w.alloc (.cells #[.pointer (some ⟨b, 0, none⟩)] 24)).alloc (.cells #[.string s] 9)) = W0 at *
  have p0 : W0.cell? ⟨w.heap.size, 0, none⟩ = some (.pointer (some ⟨b, 0, none⟩)) := box_cell P0.out 0 rfl
  have p1 : W0.cell? ⟨w.heap.size + 1, 0, none⟩ = some (.string s) := box_cell P1.out 0 rfl
  have R0 := hide (HR.out.below B0.out)
  have c2 : W0.cell? ⟨b, 2, none⟩ = some (.bool G.down) := box_cell R0.out.box 2 rfl
  have c3 : W0.cell? ⟨b, 3, none⟩ = some (.map (some G.nb)) := box_cell R0.out.box 3 rfl
  rw [hd] at c2
  go_wp2
  go_ret
  exact ⟨rfl, B0.out⟩

set_option maxRecDepth 100000 in
set_option maxHeartbeats 2000000 in
theorem remove_none {w : World} {b : Nat} {G : DG} (h : Rep w b G) (s : ByteArray) (hs : s.size ≤ maxLen) (hd : G.down = false) (hg : dget G.D s.data.toList = none) :
    Calls Tryz.prog 22 #[.pointer (some ⟨b, 0, none⟩), .string s] w fun e w' => e = .returned (.int .i64 7) ∧ Below w.heap.size w w' := by
  have HR := hide h
  clear h
  unfold maxLen at *
  go_enter Tryz.func22, Tryz.ntmps22
  go_upto_region 1 with fail
  have B0 : Hid (Below w.heap.size w ((w.alloc (.cells #[.pointer (some ⟨b, 0, none⟩)] 24)).alloc (.cells #[.string s] 9))) := (((Below.refl _ w).alloc (Nat.le_refl _) _).alloc (by simp) _)
  have P0 : Hid (((w.alloc (.cells #[.pointer (some ⟨b, 0, none⟩)] 24)).alloc (.cells #[.string s] 9)).heap[w.heap.size]? = some (.cells #[.pointer (some ⟨b, 0, none⟩)] 24 (0, 0))) := (box_alloc (heap_alloc_new w _) _)
  have P1 : Hid (((w.alloc (.cells #[.pointer (some ⟨b, 0, none⟩)] 24)).alloc (.cells #[.string s] 9)).heap[w.heap.size + 1]? = some (.cells #[.string s] 9 (0, 0))) := by have h := heap_alloc_new (w.alloc (.cells #[.pointer (some ⟨b, 0, none⟩)] 24)) (.cells #[.string s] 9); show _ = _; simpa using h
  generalize ((w.alloc (.cells #[.pointer (some ⟨b, 0, none⟩)] 24)).alloc (.cells #[.string s] 9)) = W0 at *
  have p0 : W0.cell? ⟨w.heap.size, 0, none⟩ = some (.pointer (some ⟨b, 0, none⟩)) := box_cell P0.out 0 rfl
  have p1 : W0.cell? ⟨w.heap.size + 1, 0, none⟩ = some (.string s) := box_cell P1.out 0 rfl
  have R0 := hide (HR.out.below B0.out)
  have c2 : W0.cell? ⟨b, 2, none⟩ = some (.bool G.down) := box_cell R0.out.box 2 rfl
  have c3 : W0.cell? ⟨b, 3, none⟩ = some (.map (some G.nb)) := box_cell R0.out.box 3 rfl
  have hlk : (Instr.lookup 50 (.map (some G.nb)) (.string s) false).run Tryz.prog W0 = .ok (.pointer none) W0 := by have h := R0.out.look s (by unfold maxLen; omega); rw [hg] at h; exact h
  have hlkd : (Instr.lookup 50 (.map (some G.nb)) (.string s) false).run Tryz.prog W0.drew = .ok (.pointer none) W0.drew := by have h := (R0.out.below (drew_below W0)).look s (by unfold maxLen; omega); rw [hg] at h; exact h
  rw [hd] at c2
  go_wp2
  go_region
  go_wp2
  go_ret
  exact ⟨rfl, B0.out.drew⟩

set_option maxRecDepth 100000 in
set_option maxHeartbeats 2000000 in
theorem remove_stop {w : World} {b : Nat} {G : DG} (h : Rep w b G) (s : ByteArray) (hs : s.size ≤ maxLen) (hd : G.down = false) (f : Nat) (hg : dget G.D s.data.toList = some f) (hz : G.fuse = 0) :
    Calls Tryz.prog 22 #[.pointer (some ⟨b, 0, none⟩), .string s] w fun e w' => e = .returned (.int .i64 9) ∧ Step w b G w' G.fall := by
  have HR := hide h
  clear h
  unfold maxLen at *
  go_enter Tryz.func22, Tryz.ntmps22
  go_upto_region 1 with fail
  have B0 : Hid (Below w.heap.size w ((w.alloc (.cells #[.pointer (some ⟨b, 0, none⟩)] 24)).alloc (.cells #[.string s] 9))) := (((Below.refl _ w).alloc (Nat.le_refl _) _).alloc (by simp) _)
  have P0 : Hid (((w.alloc (.cells #[.pointer (some ⟨b, 0, none⟩)] 24)).alloc (.cells #[.string s] 9)).heap[w.heap.size]? = some (.cells #[.pointer (some ⟨b, 0, none⟩)] 24 (0, 0))) := (box_alloc (heap_alloc_new w _) _)
  have P1 : Hid (((w.alloc (.cells #[.pointer (some ⟨b, 0, none⟩)] 24)).alloc (.cells #[.string s] 9)).heap[w.heap.size + 1]? = some (.cells #[.string s] 9 (0, 0))) := by have h := heap_alloc_new (w.alloc (.cells #[.pointer (some ⟨b, 0, none⟩)] 24)) (.cells #[.string s] 9); show _ = _; simpa using h
  generalize ((w.alloc (.cells #[.pointer (some ⟨b, 0, none⟩)] 24)).alloc (.cells #[.string s] 9)) = W0 at *
  have p0 : W0.cell? ⟨w.heap.size, 0, none⟩ = some (.pointer (some ⟨b, 0, none⟩)) := box_cell P0.out 0 rfl
  have p1 : W0.cell? ⟨w.heap.size + 1, 0, none⟩ = some (.string s) := box_cell P1.out 0 rfl
  have R0 := hide (HR.out.below B0.out)
  have c2 : W0.cell? ⟨b, 2, none⟩ = some (.bool G.down) := box_cell R0.out.box 2 rfl
  have c3 : W0.cell? ⟨b, 3, none⟩ = some (.map (some G.nb)) := box_cell R0.out.box 3 rfl
  have hlk : (Instr.lookup 50 (.map (some G.nb)) (.string s) false).run Tryz.prog W0 = .ok (.pointer (some ⟨f, 0, none⟩)) W0 := by have h := R0.out.look s (by unfold maxLen; omega); rw [hg] at h; exact h
  have hlkd : (Instr.lookup 50 (.map (some G.nb)) (.string s) false).run Tryz.prog W0.drew = .ok (.pointer (some ⟨f, 0, none⟩)) W0.drew := by have h := (R0.out.below (drew_below W0)).look s (by unfold maxLen; omega); rw [hg] at h; exact h
  have hmf : ∀ (fn : Fn) (first cap : Array Value) (w : World), (Instr.makeFunc fn first cap).run Tryz.prog w = .ok (.func fn first cap) w := fun _ _ _ _ => rfl
  rw [hd] at c2
  go_wp2
  go_region
  have RD := hide (R0.out.below (drew_below W0))
  have HA := hide (fun fv => act_stop b fv W0.drew G RD.out hz)
  go_wp2_with (first | (go_at_call 48; refine (HA.out _).mono ?_; rintro e w2 ⟨rfl, rfl⟩))
  go_ret
  exact ⟨rfl, Step.ahead (B0.out.drew) RD.out.fall⟩

set_option maxRecDepth 100000 in
set_option maxHeartbeats 2000000 in
theorem remove_go {w : World} {b : Nat} {G : DG} (h : Rep w b G) (s : ByteArray) (hs : s.size ≤ maxLen) (hn : G.n < 100000) (hd : G.down = false) (f : Nat) (hg : dget G.D s.data.toList = some f) (hz : G.fuse ≠ 0) :
    Calls Tryz.prog 22 #[.pointer (some ⟨b, 0, none⟩), .string s] w fun e w' => e = .returned (.int .i64 0) ∧ ∃ G' x, Step w b G w' G' ∧ Named G.tick G' x ∧ x.kind = 2 ∧ x.a = s := by
  have HR := hide h
  clear h
  unfold maxLen at *
  go_enter Tryz.func22, Tryz.ntmps22
  go_upto_region 1 with fail
  have B0 : Hid (Below w.heap.size w ((w.alloc (.cells #[.pointer (some ⟨b, 0, none⟩)] 24)).alloc (.cells #[.string s] 9))) := (((Below.refl _ w).alloc (Nat.le_refl _) _).alloc (by simp) _)
  have P0 : Hid (((w.alloc (.cells #[.pointer (some ⟨b, 0, none⟩)] 24)).alloc (.cells #[.string s] 9)).heap[w.heap.size]? = some (.cells #[.pointer (some ⟨b, 0, none⟩)] 24 (0, 0))) := (box_alloc (heap_alloc_new w _) _)
  have P1 : Hid (((w.alloc (.cells #[.pointer (some ⟨b, 0, none⟩)] 24)).alloc (.cells #[.string s] 9)).heap[w.heap.size + 1]? = some (.cells #[.string s] 9 (0, 0))) := by have h := heap_alloc_new (w.alloc (.cells #[.pointer (some ⟨b, 0, none⟩)] 24)) (.cells #[.string s] 9); show _ = _; simpa using h
  generalize ((w.alloc (.cells #[.pointer (some ⟨b, 0, none⟩)] 24)).alloc (.cells #[.string s] 9)) = W0 at *
  have p0 : W0.cell? ⟨w.heap.size, 0, none⟩ = some (.pointer (some ⟨b, 0, none⟩)) := box_cell P0.out 0 rfl
  have p1 : W0.cell? ⟨w.heap.size + 1, 0, none⟩ = some (.string s) := box_cell P1.out 0 rfl
  have R0 := hide (HR.out.below B0.out)
  have c2 : W0.cell? ⟨b, 2, none⟩ = some (.bool G.down) := box_cell R0.out.box 2 rfl
  have c3 : W0.cell? ⟨b, 3, none⟩ = some (.map (some G.nb)) := box_cell R0.out.box 3 rfl
  have hlk : (Instr.lookup 50 (.map (some G.nb)) (.string s) false).run Tryz.prog W0 = .ok (.pointer (some ⟨f, 0, none⟩)) W0 := by have h := R0.out.look s (by unfold maxLen; omega); rw [hg] at h; exact h
  have hlkd : (Instr.lookup 50 (.map (some G.nb)) (.string s) false).run Tryz.prog W0.drew = .ok (.pointer (some ⟨f, 0, none⟩)) W0.drew := by have h := (R0.out.below (drew_below W0)).look s (by unfold maxLen; omega); rw [hg] at h; exact h
  have hmf : ∀ (fn : Fn) (first cap : Array Value) (w : World), (Instr.makeFunc fn first cap).run Tryz.prog w = .ok (.func fn first cap) w := fun _ _ _ _ => rfl
  have hnm : 1 ≤ s.size ∧ s.size ≤ 40 := by
    have h := (HR.out.knownD _ _ hg).2
    rw [show s.data.toList.length = s.size by simp] at h
    exact h
  rw [hd] at c2
  go_wp2
  go_region
  have RD := hide (R0.out.below (drew_below W0))
  have HA := hide (act2_go b 60 (.pointer (some ⟨w.heap.size, 0, none⟩)) (.pointer (some ⟨w.heap.size + 1, 0, none⟩)) W0.drew G (fun w' => ∃ G' x, Step (ticked W0.drew b G.fuse) b G.tick w' G' ∧ Named G.tick G' x ∧ x.kind = 2 ∧ x.a = s) RD.out hz (enters_of Tryz.func60 (by kernel_rfl) rfl)
    (remove_act RD.out.tick.rep hn w.heap.size (w.heap.size + 1) s hnm (ticked_at RD.out P0.out (fresh_role HR.out _ (Nat.le_refl _))) (fresh_role HR.out _ (Nat.le_refl _)) (ticked_at RD.out P1.out (fresh_role HR.out _ (by omega))) (fresh_role HR.out _ (by omega))))
  go_wp2_with (go_at_call 48; refine HA.out.mono ?_; rintro e w2 ⟨rfl, G', x, hst, hcr⟩)
  go_ret
  exact ⟨rfl, G', x, Step.ahead (B0.out.drew) (RD.out.tick.trans hst), hcr⟩

set_option maxRecDepth 100000 in
set_option maxHeartbeats 2000000 in
theorem rename_down {w : World} {b : Nat} {G : DG} (h : Rep w b G) (s t : ByteArray) (_hs : s.size ≤ maxLen) (_ht : t.size ≤ maxLen) (hd : G.down = true) :
    Calls Tryz.prog 20 #[.pointer (some ⟨b, 0, none⟩), .string s, .string t] w fun e w' => e = .returned (.int .i64 9) ∧ Below w.heap.size w w' := by
  have HR := hide h
  clear h
  unfold maxLen at *
  go_enter Tryz.func20, Tryz.ntmps20
  go_upto_region 1 with fail
  have B0 : Hid (Below w.heap.size w (((w.alloc (.cells #[.pointer (some ⟨b, 0, none⟩)] 24)).alloc (.cells #[.string s] 9)).alloc (.cells #[.string t] 9))) := ((((Below.refl _ w).alloc (Nat.le_refl _) _).alloc (by simp) _).alloc (by simp; omega) _)
  have P0 : Hid ((((w.alloc (.cells #[.pointer (some ⟨b, 0, none⟩)] 24)).alloc (.cells #[.string s] 9)).alloc (.cells #[.string t] 9)).heap[w.heap.size]? = some (.cells #[.pointer (some ⟨b, 0, none⟩)] 24 (0, 0))) := (box_alloc (box_alloc (heap_alloc_new w _) _) _)
  have P1 : Hid ((((w.alloc (.cells #[.pointer (some ⟨b, 0, none⟩)] 24)).alloc (.cells #[.string s] 9)).alloc (.cells #[.string t] 9)).heap[w.heap.size + 1]? = some (.cells #[.string s] 9 (0, 0))) := (box_alloc (by have h := heap_alloc_new (w.alloc (.cells #[.pointer (some ⟨b, 0, none⟩)] 24)) (.cells #[.string s] 9); simpa using h) _)
  have P2 : Hid ((((w.alloc (.cells #[.pointer (some ⟨b, 0, none⟩)] 24)).alloc (.cells #[.string s] 9)).alloc (.cells #[.string t] 9)).heap[w.heap.size + 1 + 1]? = some (.cells #[.string t] 9 (0, 0))) := by have h := heap_alloc_new ((w.alloc (.cells #[.pointer (some ⟨b, 0, none⟩)] 24)).alloc (.cells #[.string s] 9)) (.cells #[.string t] 9); show _ = _; simpa using h
  generalize (((w.alloc (.cells #[.pointer (some ⟨b, 0, none⟩)] 24)).alloc (.cells #[.string s] 9)).alloc (.cells #[.string t] 9)) = W0 at *
  have p0 : W0.cell? ⟨w.heap.size, 0, none⟩ = some (.pointer (some ⟨b, 0, none⟩)) := box_cell P0.out 0 rfl
  have p1 : W0.cell? ⟨w.heap.size + 1, 0, none⟩ = some (.string s) := box_cell P1.out 0 rfl
  have p2 : W0.cell? ⟨w.heap.size + 1 + 1, 0, none⟩ = some (.string t) := box_cell P2.out 0 rfl
  have R0 := hide (HR.out.below B0.out)
  have c2 : W0.cell? ⟨b, 2, none⟩ = some (.bool G.down) := box_cell R0.out.box 2 rfl
  have c3 : W0.cell? ⟨b, 3, none⟩ = some (.map (some G.nb)) := box_cell R0.out.box 3 rfl
  rw [hd] at c2
  go_wp2
  go_ret
  exact ⟨rfl, B0.out⟩

set_option maxRecDepth 100000 in
set_option maxHeartbeats 2000000 in
theorem rename_none {w : World} {b : Nat} {G : DG} (h : Rep w b G) (s t : ByteArray) (hs : s.size ≤ maxLen) (_ht : t.size ≤ maxLen) (hd : G.down = false) (hg : dget G.D s.data.toList = none) :
    Calls Tryz.prog 20 #[.pointer (some ⟨b, 0, none⟩), .string s, .string t] w fun e w' => e = .returned (.int .i64 7) ∧ Below w.heap.size w w' := by
  have HR := hide h
  clear h
  unfold maxLen at *
  go_enter Tryz.func20, Tryz.ntmps20
  go_upto_region 1 with fail
  have B0 : Hid (Below w.heap.size w (((w.alloc (.cells #[.pointer (some ⟨b, 0, none⟩)] 24)).alloc (.cells #[.string s] 9)).alloc (.cells #[.string t] 9))) := ((((Below.refl _ w).alloc (Nat.le_refl _) _).alloc (by simp) _).alloc (by simp; omega) _)
  have P0 : Hid ((((w.alloc (.cells #[.pointer (some ⟨b, 0, none⟩)] 24)).alloc (.cells #[.string s] 9)).alloc (.cells #[.string t] 9)).heap[w.heap.size]? = some (.cells #[.pointer (some ⟨b, 0, none⟩)] 24 (0, 0))) := (box_alloc (box_alloc (heap_alloc_new w _) _) _)
  have P1 : Hid ((((w.alloc (.cells #[.pointer (some ⟨b, 0, none⟩)] 24)).alloc (.cells #[.string s] 9)).alloc (.cells #[.string t] 9)).heap[w.heap.size + 1]? = some (.cells #[.string s] 9 (0, 0))) := (box_alloc (by have h := heap_alloc_new (w.alloc (.cells #[.pointer (some ⟨b, 0, none⟩)] 24)) (.cells #[.string s] 9); simpa using h) _)
  have P2 : Hid ((((w.alloc (.cells #[.pointer (some ⟨b, 0, none⟩)] 24)).alloc (.cells #[.string s] 9)).alloc (.cells #[.string t] 9)).heap[w.heap.size + 1 + 1]? = some (.cells #[.string t] 9 (0, 0))) := by have h := heap_alloc_new ((w.alloc (.cells #[.pointer (some ⟨b, 0, none⟩)] 24)).alloc (.cells #[.string s] 9)) (.cells #[.string t] 9); show _ = _; simpa using h
  generalize (((w.alloc (.cells #[.pointer (some ⟨b, 0, none⟩)] 24)).alloc (.cells #[.string s] 9)).alloc (.cells #[.string t] 9)) = W0 at *
  have p0 : W0.cell? ⟨w.heap.size, 0, none⟩ = some (.pointer (some ⟨b, 0, none⟩)) := box_cell P0.out 0 rfl
  have p1 : W0.cell? ⟨w.heap.size + 1, 0, none⟩ = some (.string s) := box_cell P1.out 0 rfl
  have p2 : W0.cell? ⟨w.heap.size + 1 + 1, 0, none⟩ = some (.string t) := box_cell P2.out 0 rfl
  have R0 := hide (HR.out.below B0.out)
  have c2 : W0.cell? ⟨b, 2, none⟩ = some (.bool G.down) := box_cell R0.out.box 2 rfl
  have c3 : W0.cell? ⟨b, 3, none⟩ = some (.map (some G.nb)) := box_cell R0.out.box 3 rfl
  have hlk : (Instr.lookup 50 (.map (some G.nb)) (.string s) false).run Tryz.prog W0 = .ok (.pointer none) W0 := by have h := R0.out.look s (by unfold maxLen; omega); rw [hg] at h; exact h
  have hlkd : (Instr.lookup 50 (.map (some G.nb)) (.string s) false).run Tryz.prog W0.drew = .ok (.pointer none) W0.drew := by have h := (R0.out.below (drew_below W0)).look s (by unfold maxLen; omega); rw [hg] at h; exact h
  rw [hd] at c2
  go_wp2
  go_region
  go_wp2
  go_ret
  exact ⟨rfl, B0.out.drew⟩

set_option maxRecDepth 100000 in
set_option maxHeartbeats 2000000 in
theorem rename_name {w : World} {b : Nat} {G : DG} (h : Rep w b G) (s t : ByteArray) (hs : s.size ≤ maxLen) (ht : t.size ≤ maxLen) (hd : G.down = false) (f : Nat) (hg : dget G.D s.data.toList = some f) (hnm : isName t = false) :
    Calls Tryz.prog 20 #[.pointer (some ⟨b, 0, none⟩), .string s, .string t] w fun e w' => e = .returned (.int .i64 5) ∧ Below w.heap.size w w' := by
  have HR := hide h
  clear h
  unfold maxLen at *
  go_enter Tryz.func20, Tryz.ntmps20
  go_upto_region 1 with fail
  have B0 : Hid (Below w.heap.size w (((w.alloc (.cells #[.pointer (some ⟨b, 0, none⟩)] 24)).alloc (.cells #[.string s] 9)).alloc (.cells #[.string t] 9))) := ((((Below.refl _ w).alloc (Nat.le_refl _) _).alloc (by simp) _).alloc (by simp; omega) _)
  have P0 : Hid ((((w.alloc (.cells #[.pointer (some ⟨b, 0, none⟩)] 24)).alloc (.cells #[.string s] 9)).alloc (.cells #[.string t] 9)).heap[w.heap.size]? = some (.cells #[.pointer (some ⟨b, 0, none⟩)] 24 (0, 0))) := (box_alloc (box_alloc (heap_alloc_new w _) _) _)
  have P1 : Hid ((((w.alloc (.cells #[.pointer (some ⟨b, 0, none⟩)] 24)).alloc (.cells #[.string s] 9)).alloc (.cells #[.string t] 9)).heap[w.heap.size + 1]? = some (.cells #[.string s] 9 (0, 0))) := (box_alloc (by have h := heap_alloc_new (w.alloc (.cells #[.pointer (some ⟨b, 0, none⟩)] 24)) (.cells #[.string s] 9); simpa using h) _)
  have P2 : Hid ((((w.alloc (.cells #[.pointer (some ⟨b, 0, none⟩)] 24)).alloc (.cells #[.string s] 9)).alloc (.cells #[.string t] 9)).heap[w.heap.size + 1 + 1]? = some (.cells #[.string t] 9 (0, 0))) := by have h := heap_alloc_new ((w.alloc (.cells #[.pointer (some ⟨b, 0, none⟩)] 24)).alloc (.cells #[.string s] 9)) (.cells #[.string t] 9); show _ = _; simpa using h
  generalize (((w.alloc (.cells #[.pointer (some ⟨b, 0, none⟩)] 24)).alloc (.cells #[.string s] 9)).alloc (.cells #[.string t] 9)) = W0 at *
  have p0 : W0.cell? ⟨w.heap.size, 0, none⟩ = some (.pointer (some ⟨b, 0, none⟩)) := box_cell P0.out 0 rfl
  have p1 : W0.cell? ⟨w.heap.size + 1, 0, none⟩ = some (.string s) := box_cell P1.out 0 rfl
  have p2 : W0.cell? ⟨w.heap.size + 1 + 1, 0, none⟩ = some (.string t) := box_cell P2.out 0 rfl
  have R0 := hide (HR.out.below B0.out)
  have c2 : W0.cell? ⟨b, 2, none⟩ = some (.bool G.down) := box_cell R0.out.box 2 rfl
  have c3 : W0.cell? ⟨b, 3, none⟩ = some (.map (some G.nb)) := box_cell R0.out.box 3 rfl
  have hlk : (Instr.lookup 50 (.map (some G.nb)) (.string s) false).run Tryz.prog W0 = .ok (.pointer (some ⟨f, 0, none⟩)) W0 := by have h := R0.out.look s (by unfold maxLen; omega); rw [hg] at h; exact h
  have hlkd : (Instr.lookup 50 (.map (some G.nb)) (.string s) false).run Tryz.prog W0.drew = .ok (.pointer (some ⟨f, 0, none⟩)) W0.drew := by have h := (R0.out.below (drew_below W0)).look s (by unfold maxLen; omega); rw [hg] at h; exact h
  have HI := hide (fun w => isName_any t w (by omega))
  rw [show (decide (1 ≤ t.size) && decide (t.size ≤ 40)) = false from hnm] at HI
  rw [hd] at c2
  go_wp2
  go_region
  go_wp2_with (go_at_call 47; refine (HI.out _).mono ?_; rintro e w' ⟨rfl, hw⟩; obtain rfl := hw.symm)
  go_ret
  exact ⟨rfl, B0.out.drew⟩

set_option maxRecDepth 100000 in
set_option maxHeartbeats 2000000 in
theorem rename_stop {w : World} {b : Nat} {G : DG} (h : Rep w b G) (s t : ByteArray) (hs : s.size ≤ maxLen) (ht : t.size ≤ maxLen) (hd : G.down = false) (f : Nat) (hg : dget G.D s.data.toList = some f) (hnm : isName t = true) (hz : G.fuse = 0) :
    Calls Tryz.prog 20 #[.pointer (some ⟨b, 0, none⟩), .string s, .string t] w fun e w' => e = .returned (.int .i64 9) ∧ Step w b G w' G.fall := by
  have HR := hide h
  clear h
  unfold maxLen at *
  go_enter Tryz.func20, Tryz.ntmps20
  go_upto_region 1 with fail
  have B0 : Hid (Below w.heap.size w (((w.alloc (.cells #[.pointer (some ⟨b, 0, none⟩)] 24)).alloc (.cells #[.string s] 9)).alloc (.cells #[.string t] 9))) := ((((Below.refl _ w).alloc (Nat.le_refl _) _).alloc (by simp) _).alloc (by simp; omega) _)
  have P0 : Hid ((((w.alloc (.cells #[.pointer (some ⟨b, 0, none⟩)] 24)).alloc (.cells #[.string s] 9)).alloc (.cells #[.string t] 9)).heap[w.heap.size]? = some (.cells #[.pointer (some ⟨b, 0, none⟩)] 24 (0, 0))) := (box_alloc (box_alloc (heap_alloc_new w _) _) _)
  have P1 : Hid ((((w.alloc (.cells #[.pointer (some ⟨b, 0, none⟩)] 24)).alloc (.cells #[.string s] 9)).alloc (.cells #[.string t] 9)).heap[w.heap.size + 1]? = some (.cells #[.string s] 9 (0, 0))) := (box_alloc (by have h := heap_alloc_new (w.alloc (.cells #[.pointer (some ⟨b, 0, none⟩)] 24)) (.cells #[.string s] 9); simpa using h) _)
  have P2 : Hid ((((w.alloc (.cells #[.pointer (some ⟨b, 0, none⟩)] 24)).alloc (.cells #[.string s] 9)).alloc (.cells #[.string t] 9)).heap[w.heap.size + 1 + 1]? = some (.cells #[.string t] 9 (0, 0))) := by have h := heap_alloc_new ((w.alloc (.cells #[.pointer (some ⟨b, 0, none⟩)] 24)).alloc (.cells #[.string s] 9)) (.cells #[.string t] 9); show _ = _; simpa using h
  generalize (((w.alloc (.cells #[.pointer (some ⟨b, 0, none⟩)] 24)).alloc (.cells #[.string s] 9)).alloc (.cells #[.string t] 9)) = W0 at *
  have p0 : W0.cell? ⟨w.heap.size, 0, none⟩ = some (.pointer (some ⟨b, 0, none⟩)) := box_cell P0.out 0 rfl
  have p1 : W0.cell? ⟨w.heap.size + 1, 0, none⟩ = some (.string s) := box_cell P1.out 0 rfl
  have p2 : W0.cell? ⟨w.heap.size + 1 + 1, 0, none⟩ = some (.string t) := box_cell P2.out 0 rfl
  have R0 := hide (HR.out.below B0.out)
  have c2 : W0.cell? ⟨b, 2, none⟩ = some (.bool G.down) := box_cell R0.out.box 2 rfl
  have c3 : W0.cell? ⟨b, 3, none⟩ = some (.map (some G.nb)) := box_cell R0.out.box 3 rfl
  have hlk : (Instr.lookup 50 (.map (some G.nb)) (.string s) false).run Tryz.prog W0 = .ok (.pointer (some ⟨f, 0, none⟩)) W0 := by have h := R0.out.look s (by unfold maxLen; omega); rw [hg] at h; exact h
  have hlkd : (Instr.lookup 50 (.map (some G.nb)) (.string s) false).run Tryz.prog W0.drew = .ok (.pointer (some ⟨f, 0, none⟩)) W0.drew := by have h := (R0.out.below (drew_below W0)).look s (by unfold maxLen; omega); rw [hg] at h; exact h
  have hmf : ∀ (fn : Fn) (first cap : Array Value) (w : World), (Instr.makeFunc fn first cap).run Tryz.prog w = .ok (.func fn first cap) w := fun _ _ _ _ => rfl
  have HI := hide (fun w => isName_any t w (by omega))
  rw [show (decide (1 ≤ t.size) && decide (t.size ≤ 40)) = true from hnm] at HI
  rw [hd] at c2
  go_wp2
  go_region
  have RD := hide (R0.out.below (drew_below W0))
  have HA := hide (fun fv => act_stop b fv W0.drew G RD.out hz)
  go_wp2_with (first | (go_at_call 47; refine (HI.out _).mono ?_; rintro e w' ⟨rfl, hw⟩; obtain rfl := hw.symm) | (go_at_call 48; refine (HA.out _).mono ?_; rintro e w2 ⟨rfl, rfl⟩))
  go_ret
  exact ⟨rfl, Step.ahead (B0.out.drew) RD.out.fall⟩

set_option maxRecDepth 100000 in
set_option maxHeartbeats 2000000 in
theorem rename_go {w : World} {b : Nat} {G : DG} (h : Rep w b G) (s t : ByteArray) (hs : s.size ≤ maxLen) (ht : t.size ≤ maxLen) (hn : G.n < 100000) (hd : G.down = false) (f : Nat) (hg : dget G.D s.data.toList = some f) (hnm : isName t = true) (hz : G.fuse ≠ 0) :
    Calls Tryz.prog 20 #[.pointer (some ⟨b, 0, none⟩), .string s, .string t] w fun e w' => e = .returned (.int .i64 0) ∧ ∃ G' x, Step w b G w' G' ∧ Named G.tick G' x ∧ x.kind = 1 ∧ x.a = s ∧ x.b = t := by
  have HR := hide h
  clear h
  unfold maxLen at *
  go_enter Tryz.func20, Tryz.ntmps20
  go_upto_region 1 with fail
  have B0 : Hid (Below w.heap.size w (((w.alloc (.cells #[.pointer (some ⟨b, 0, none⟩)] 24)).alloc (.cells #[.string s] 9)).alloc (.cells #[.string t] 9))) := ((((Below.refl _ w).alloc (Nat.le_refl _) _).alloc (by simp) _).alloc (by simp; omega) _)
  have P0 : Hid ((((w.alloc (.cells #[.pointer (some ⟨b, 0, none⟩)] 24)).alloc (.cells #[.string s] 9)).alloc (.cells #[.string t] 9)).heap[w.heap.size]? = some (.cells #[.pointer (some ⟨b, 0, none⟩)] 24 (0, 0))) := (box_alloc (box_alloc (heap_alloc_new w _) _) _)
  have P1 : Hid ((((w.alloc (.cells #[.pointer (some ⟨b, 0, none⟩)] 24)).alloc (.cells #[.string s] 9)).alloc (.cells #[.string t] 9)).heap[w.heap.size + 1]? = some (.cells #[.string s] 9 (0, 0))) := (box_alloc (by have h := heap_alloc_new (w.alloc (.cells #[.pointer (some ⟨b, 0, none⟩)] 24)) (.cells #[.string s] 9); simpa using h) _)
  have P2 : Hid ((((w.alloc (.cells #[.pointer (some ⟨b, 0, none⟩)] 24)).alloc (.cells #[.string s] 9)).alloc (.cells #[.string t] 9)).heap[w.heap.size + 1 + 1]? = some (.cells #[.string t] 9 (0, 0))) := by have h := heap_alloc_new ((w.alloc (.cells #[.pointer (some ⟨b, 0, none⟩)] 24)).alloc (.cells #[.string s] 9)) (.cells #[.string t] 9); show _ = _; simpa using h
  generalize (((w.alloc (.cells #[.pointer (some ⟨b, 0, none⟩)] 24)).alloc (.cells #[.string s] 9)).alloc (.cells #[.string t] 9)) = W0 at *
  have p0 : W0.cell? ⟨w.heap.size, 0, none⟩ = some (.pointer (some ⟨b, 0, none⟩)) := box_cell P0.out 0 rfl
  have p1 : W0.cell? ⟨w.heap.size + 1, 0, none⟩ = some (.string s) := box_cell P1.out 0 rfl
  have p2 : W0.cell? ⟨w.heap.size + 1 + 1, 0, none⟩ = some (.string t) := box_cell P2.out 0 rfl
  have R0 := hide (HR.out.below B0.out)
  have c2 : W0.cell? ⟨b, 2, none⟩ = some (.bool G.down) := box_cell R0.out.box 2 rfl
  have c3 : W0.cell? ⟨b, 3, none⟩ = some (.map (some G.nb)) := box_cell R0.out.box 3 rfl
  have hlk : (Instr.lookup 50 (.map (some G.nb)) (.string s) false).run Tryz.prog W0 = .ok (.pointer (some ⟨f, 0, none⟩)) W0 := by have h := R0.out.look s (by unfold maxLen; omega); rw [hg] at h; exact h
  have hlkd : (Instr.lookup 50 (.map (some G.nb)) (.string s) false).run Tryz.prog W0.drew = .ok (.pointer (some ⟨f, 0, none⟩)) W0.drew := by have h := (R0.out.below (drew_below W0)).look s (by unfold maxLen; omega); rw [hg] at h; exact h
  have hmf : ∀ (fn : Fn) (first cap : Array Value) (w : World), (Instr.makeFunc fn first cap).run Tryz.prog w = .ok (.func fn first cap) w := fun _ _ _ _ => rfl
  have HI := hide (fun w => isName_any t w (by omega))
  rw [show (decide (1 ≤ t.size) && decide (t.size ≤ 40)) = true from hnm] at HI
  have hsm : 1 ≤ s.size ∧ s.size ≤ 40 := by
    have h := (HR.out.knownD _ _ hg).2
    rw [show s.data.toList.length = s.size by simp] at h
    exact h
  rw [hd] at c2
  go_wp2
  go_region
  have RD := hide (R0.out.below (drew_below W0))
  have HA := hide (act3_go b 57 (.pointer (some ⟨w.heap.size, 0, none⟩)) (.pointer (some ⟨w.heap.size + 1, 0, none⟩)) (.pointer (some ⟨w.heap.size + 1 + 1, 0, none⟩)) W0.drew G (fun w' => ∃ G' x, Step (ticked W0.drew b G.fuse) b G.tick w' G' ∧ Named G.tick G' x ∧ x.kind = 1 ∧ x.a = s ∧ x.b = t) RD.out hz (enters_of Tryz.func57 (by kernel_rfl) rfl)
    (rename_act RD.out.tick.rep hn w.heap.size (w.heap.size + 1) (w.heap.size + 1 + 1) s t hsm ((isName_iff t).1 hnm) (by show dget G.D s.data.toList ≠ none; rw [hg]; simp) (ticked_at RD.out P0.out (fresh_role HR.out _ (Nat.le_refl _))) (fresh_role HR.out _ (Nat.le_refl _)) (ticked_at RD.out P1.out (fresh_role HR.out _ (by omega))) (fresh_role HR.out _ (by omega)) (ticked_at RD.out P2.out (fresh_role HR.out _ (by omega))) (fresh_role HR.out _ (by omega))))
  go_wp2_with (first | (go_at_call 47; refine (HI.out _).mono ?_; rintro e w' ⟨rfl, hw⟩; obtain rfl := hw.symm) | (go_at_call 48; refine HA.out.mono ?_; rintro e w2 ⟨rfl, G', x, hst, hcr⟩))
  go_ret
  exact ⟨rfl, G', x, Step.ahead (B0.out.drew) (RD.out.tick.trans hst), hcr⟩


end Go.Proofs.YtknldpaaikcedaaGreat
