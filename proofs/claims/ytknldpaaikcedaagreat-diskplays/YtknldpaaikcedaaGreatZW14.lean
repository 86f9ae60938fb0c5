/-
  Free, Append, Truncate as they run.
-/
import Derived.Test.YtknldpaaikcedaaGreatZW13
namespace Go.Proofs.YtknldpaaikcedaaGreat
open Go.RowKit Go.Maps

theorem used_le {w : World} {b : Nat} {G : DG} (h : Rep w b G) (hn : G.n < 10000) : used G ≤ 10000 * (10000 * 1000000000) := by
  have h1 := usedL_le h (strKeys G.D)
  have h2 := h.now.size_le
  have h3 : (strKeys G.D).length = Maps.size G.D := by
    obtain ⟨es, e⟩ := h.now.isMap
    rw [e]
    simp [strKeys, Maps.size]
  exact Nat.le_trans h1 (Nat.mul_le_mul (by omega) (Nat.mul_le_mul (by omega) h.hq))
attribute [local go_sem ↓] Go.wp_at_zero Go.wp_at_succ
set_option maxRecDepth 100000 in
set_option maxHeartbeats 2000000 in
theorem free_any {w : World} {b : Nat} {G : DG} (h : Rep w b G) (hn : G.n < 10000) :
    Calls Tryz.prog 45 #[.pointer (some ⟨b, 0, none⟩)] w fun e w' => e = .returned (.int .i64 (G.room - used G)) ∧ RowKit.Below w.heap.size w w' := by
  have HR := hide h
  have hu := used_le h hn
  have hr := h.hroom
  have c0 : w.cell? ⟨b, 0, none⟩ = some (.int .i64 G.room) := box_cell h.box 0 rfl
  have HU := hide (fun w' (hb : RowKit.Below w.heap.size w w') => used_any (h.below hb) hn)
  clear h
  generalize G.room = r at *
  generalize used G = u at *
  have hw := IntWalk.i64_left (r - (u : Int))
  rw [IntWalk.wrap64_in _ (by omega)] at hw
  go_enter Tryz.func45, Tryz.ntmps45
  go_wp2
  go_region_held3 (fun w' => w'.cell? ⟨b, 0, none⟩ = some (.int .i64 r))
    (go_keep)
    ((go_at_call 43; refine (HU.out _ (drew_below w)).mono ?_; rintro e w1 ⟨rfl, bb⟩; have B1 := hide (show RowKit.Below w.heap.size w w1 from ⟨bb.os, bb.tape, bb.output, bb.size, bb.block⟩); clear bb; have d0 : w1.cell? ⟨b, 0, none⟩ = some (.int .i64 r) := (B1.out.cell (p := ⟨b, 0, none⟩) (World.block_lt_of_cell? w _ c0)).trans c0))
  go_wp2
  go_ret
  exact ⟨rfl, B1.out⟩

set_option maxRecDepth 100000 in
set_option maxHeartbeats 2000000 in
theorem append_down1 {w : World} {b : Nat} {G : DG} (h : Rep w b G) (k : ByteArray) (hk : k.size ≤ maxLen) (s : ByteArray) (hg : dget G.D k.data.toList = none) (hd : G.down = true) :
    Calls Tryz.prog 17 #[.pointer (some ⟨b, 0, none⟩), .string k, .string s] w fun e w' => e = .returned (.int .i64 9) ∧ RowKit.Below w.heap.size w w' := by
  have HR := hide h
  have c3 : ∀ o, (w.alloc o).cell? ⟨b, 3, none⟩ = some (.map (some G.nb)) := fun o => box_cell (box_alloc h.box o) 3 rfl
  have hlk : ∀ o, (Instr.lookup 50 (.map (some G.nb)) (.string k) false).run Tryz.prog (w.alloc o) = .ok (.pointer none) (w.alloc o) := fun o => by have h1 := (h.below ((Below.refl _ w).alloc (Nat.le_refl _) o)).look k hk; rw [hg] at h1; exact h1
  have hbw : b ≠ w.heap.size := Nat.ne_of_lt (heap_lt h.box)
  clear h
  unfold maxLen at *
  go_enter Tryz.func17, Tryz.ntmps17
  go_upto_region 2 with fail
  have B0 : Hid (RowKit.Below w.heap.size w ((w.alloc (.cells #[.string s] 9)).alloc (.cells #[.pointer none] 62))) := ((Below.refl _ w).alloc (Nat.le_refl _) _).alloc (by simp) _
  have P0 : Hid (((w.alloc (.cells #[.string s] 9)).alloc (.cells #[.pointer none] 62)).heap[w.heap.size]? = some (.cells #[.string s] 9 (0, 0))) := box_alloc (heap_alloc_new w _) _
  have P1 : Hid (((w.alloc (.cells #[.string s] 9)).alloc (.cells #[.pointer none] 62)).heap[w.heap.size + 1]? = some (.cells #[.pointer none] 62 (0, 0))) := by have h := heap_alloc_new (w.alloc (.cells #[.string s] 9)) (.cells #[.pointer none] 62); show _ = _; simpa using h
  generalize ((w.alloc (.cells #[.string s] 9)).alloc (.cells #[.pointer none] 62)) = W0 at *
  have p0 : W0.cell? ⟨w.heap.size, 0, none⟩ = some (.string s) := box_cell P0.out 0 rfl
  have p1 : W0.cell? ⟨w.heap.size + 1, 0, none⟩ = some (.pointer none) := box_cell P1.out 0 rfl
  have R0 := hide (HR.out.below B0.out)
  have c2 : W0.cell? ⟨b, 2, none⟩ = some (.bool G.down) := box_cell R0.out.box 2 rfl
  clear c3 hlk
  rw [hd] at c2
  go_wp2
  go_ret
  exact ⟨rfl, B0.out⟩

set_option maxRecDepth 100000 in
set_option maxHeartbeats 2000000 in
theorem append_down2 {w : World} {b : Nat} {G : DG} (h : Rep w b G) (k : ByteArray) (hk : k.size ≤ maxLen) (s : ByteArray) (f : Nat) (hg : dget G.D k.data.toList = some f) (hd : G.down = true) :
    Calls Tryz.prog 17 #[.pointer (some ⟨b, 0, none⟩), .string k, .string s] w fun e w' => e = .returned (.int .i64 9) ∧ RowKit.Below w.heap.size w w' := by
  have HR := hide h
  have c3 : ∀ o, (w.alloc o).cell? ⟨b, 3, none⟩ = some (.map (some G.nb)) := fun o => box_cell (box_alloc h.box o) 3 rfl
  have hlk : ∀ o, (Instr.lookup 50 (.map (some G.nb)) (.string k) false).run Tryz.prog (w.alloc o) = .ok (.pointer (some ⟨f, 0, none⟩)) (w.alloc o) := fun o => by have h1 := (h.below ((Below.refl _ w).alloc (Nat.le_refl _) o)).look k hk; rw [hg] at h1; exact h1
  have hbw : b ≠ w.heap.size := Nat.ne_of_lt (heap_lt h.box)
  clear h
  unfold maxLen at *
  go_enter Tryz.func17, Tryz.ntmps17
  go_upto_region 2 with fail
  have B0 : Hid (RowKit.Below w.heap.size w ((w.alloc (.cells #[.string s] 9)).alloc (.cells #[.pointer (some ⟨f, 0, none⟩)] 62))) := ((Below.refl _ w).alloc (Nat.le_refl _) _).alloc (by simp) _
  have P0 : Hid (((w.alloc (.cells #[.string s] 9)).alloc (.cells #[.pointer (some ⟨f, 0, none⟩)] 62)).heap[w.heap.size]? = some (.cells #[.string s] 9 (0, 0))) := box_alloc (heap_alloc_new w _) _
  have P1 : Hid (((w.alloc (.cells #[.string s] 9)).alloc (.cells #[.pointer (some ⟨f, 0, none⟩)] 62)).heap[w.heap.size + 1]? = some (.cells #[.pointer (some ⟨f, 0, none⟩)] 62 (0, 0))) := by have h := heap_alloc_new (w.alloc (.cells #[.string s] 9)) (.cells #[.pointer (some ⟨f, 0, none⟩)] 62); show _ = _; simpa using h
  generalize ((w.alloc (.cells #[.string s] 9)).alloc (.cells #[.pointer (some ⟨f, 0, none⟩)] 62)) = W0 at *
  have p0 : W0.cell? ⟨w.heap.size, 0, none⟩ = some (.string s) := box_cell P0.out 0 rfl
  have p1 : W0.cell? ⟨w.heap.size + 1, 0, none⟩ = some (.pointer (some ⟨f, 0, none⟩)) := box_cell P1.out 0 rfl
  have R0 := hide (HR.out.below B0.out)
  have c2 : W0.cell? ⟨b, 2, none⟩ = some (.bool G.down) := box_cell R0.out.box 2 rfl
  clear c3 hlk
  rw [hd] at c2
  go_wp2
  go_ret
  exact ⟨rfl, B0.out⟩

set_option maxRecDepth 100000 in
set_option maxHeartbeats 2000000 in
theorem append_none {w : World} {b : Nat} {G : DG} (h : Rep w b G) (k : ByteArray) (hk : k.size ≤ maxLen) (s : ByteArray) (hg : dget G.D k.data.toList = none) (hd : G.down = false) :
    Calls Tryz.prog 17 #[.pointer (some ⟨b, 0, none⟩), .string k, .string s] w fun e w' => e = .returned (.int .i64 7) ∧ RowKit.Below w.heap.size w w' := by
  have HR := hide h
  have c3 : ∀ o, (w.alloc o).cell? ⟨b, 3, none⟩ = some (.map (some G.nb)) := fun o => box_cell (box_alloc h.box o) 3 rfl
  have hlk : ∀ o, (Instr.lookup 50 (.map (some G.nb)) (.string k) false).run Tryz.prog (w.alloc o) = .ok (.pointer none) (w.alloc o) := fun o => by have h1 := (h.below ((Below.refl _ w).alloc (Nat.le_refl _) o)).look k hk; rw [hg] at h1; exact h1
  have hbw : b ≠ w.heap.size := Nat.ne_of_lt (heap_lt h.box)
  clear h
  unfold maxLen at *
  go_enter Tryz.func17, Tryz.ntmps17
  go_upto_region 2 with fail
  have B0 : Hid (RowKit.Below w.heap.size w ((w.alloc (.cells #[.string s] 9)).alloc (.cells #[.pointer none] 62))) := ((Below.refl _ w).alloc (Nat.le_refl _) _).alloc (by simp) _
  have P0 : Hid (((w.alloc (.cells #[.string s] 9)).alloc (.cells #[.pointer none] 62)).heap[w.heap.size]? = some (.cells #[.string s] 9 (0, 0))) := box_alloc (heap_alloc_new w _) _
  have P1 : Hid (((w.alloc (.cells #[.string s] 9)).alloc (.cells #[.pointer none] 62)).heap[w.heap.size + 1]? = some (.cells #[.pointer none] 62 (0, 0))) := by have h := heap_alloc_new (w.alloc (.cells #[.string s] 9)) (.cells #[.pointer none] 62); show _ = _; simpa using h
  generalize ((w.alloc (.cells #[.string s] 9)).alloc (.cells #[.pointer none] 62)) = W0 at *
  have p0 : W0.cell? ⟨w.heap.size, 0, none⟩ = some (.string s) := box_cell P0.out 0 rfl
  have p1 : W0.cell? ⟨w.heap.size + 1, 0, none⟩ = some (.pointer none) := box_cell P1.out 0 rfl
  have R0 := hide (HR.out.below B0.out)
  have c2 : W0.cell? ⟨b, 2, none⟩ = some (.bool G.down) := box_cell R0.out.box 2 rfl
  clear c3 hlk
  rw [hd] at c2
  go_wp2
  go_ret
  exact ⟨rfl, B0.out⟩

set_option maxRecDepth 100000 in
set_option maxHeartbeats 2000000 in
theorem append_full {w : World} {b : Nat} {G : DG} (h : Rep w b G) (k : ByteArray) (hk : k.size ≤ maxLen) (s : ByteArray) (hss0 : s.size ≤ maxLen) (hn : G.n < 10000) (f : Nat) (hg : dget G.D k.data.toList = some f) (hd : G.down = false) (hfull : G.room - used G < s.size) :
    Calls Tryz.prog 17 #[.pointer (some ⟨b, 0, none⟩), .string k, .string s] w fun e w' => e = .returned (.int .i64 8) ∧ RowKit.Below w.heap.size w w' := by
  have HR := hide h
  have c3 : ∀ o, (w.alloc o).cell? ⟨b, 3, none⟩ = some (.map (some G.nb)) := fun o => box_cell (box_alloc h.box o) 3 rfl
  have hlk : ∀ o, (Instr.lookup 50 (.map (some G.nb)) (.string k) false).run Tryz.prog (w.alloc o) = .ok (.pointer (some ⟨f, 0, none⟩)) (w.alloc o) := fun o => by have h1 := (h.below ((Below.refl _ w).alloc (Nat.le_refl _) o)).look k hk; rw [hg] at h1; exact h1
  have hbw : b ≠ w.heap.size := Nat.ne_of_lt (heap_lt h.box)
  clear h
  unfold maxLen at *
  go_enter Tryz.func17, Tryz.ntmps17
  go_upto_region 2 with fail
  have B0 : Hid (RowKit.Below w.heap.size w ((w.alloc (.cells #[.string s] 9)).alloc (.cells #[.pointer (some ⟨f, 0, none⟩)] 62))) := ((Below.refl _ w).alloc (Nat.le_refl _) _).alloc (by simp) _
  have P0 : Hid (((w.alloc (.cells #[.string s] 9)).alloc (.cells #[.pointer (some ⟨f, 0, none⟩)] 62)).heap[w.heap.size]? = some (.cells #[.string s] 9 (0, 0))) := box_alloc (heap_alloc_new w _) _
  have P1 : Hid (((w.alloc (.cells #[.string s] 9)).alloc (.cells #[.pointer (some ⟨f, 0, none⟩)] 62)).heap[w.heap.size + 1]? = some (.cells #[.pointer (some ⟨f, 0, none⟩)] 62 (0, 0))) := by have h := heap_alloc_new (w.alloc (.cells #[.string s] 9)) (.cells #[.pointer (some ⟨f, 0, none⟩)] 62); show _ = _; simpa using h
  generalize ((w.alloc (.cells #[.string s] 9)).alloc (.cells #[.pointer (some ⟨f, 0, none⟩)] 62)) = W0 at *
  have p0 : W0.cell? ⟨w.heap.size, 0, none⟩ = some (.string s) := box_cell P0.out 0 rfl
  have p1 : W0.cell? ⟨w.heap.size + 1, 0, none⟩ = some (.pointer (some ⟨f, 0, none⟩)) := box_cell P1.out 0 rfl
  have R0 := hide (HR.out.below B0.out)
  have c2 : W0.cell? ⟨b, 2, none⟩ = some (.bool G.down) := box_cell R0.out.box 2 rfl
  clear c3 hlk
  rw [hd] at c2
  have HU := hide (free_any (R0.out.below (drew_below W0)) hn)
  have hrm := HR.out.hroom
  have hud := used_le HR.out hn
  have hss : s.size ≤ 9223372036854775807 := by omega
  go_wp2
  go_region_held3 (fun w' => w'.cell? ⟨w.heap.size, 0, none⟩ = some (.string s))
    (go_keep)
    ((go_at_call 45; refine HU.out.mono ?_; rintro e w1 ⟨rfl, bb⟩; have B1 := hide (show RowKit.Below W0.heap.size W0 w1 from ⟨bb.os, bb.tape, bb.output, bb.size, bb.block⟩); clear bb; have d0 : w1.cell? ⟨w.heap.size, 0, none⟩ = some (.string s) := box_cell (Below.at B1.out P0.out) 0 rfl))
  go_wp2
  go_ret
  exact ⟨rfl, B0.out.trans (B1.out.mono B0.out.size)⟩

set_option maxRecDepth 100000 in
set_option maxHeartbeats 2000000 in
theorem append_stop {w : World} {b : Nat} {G : DG} (h : Rep w b G) (k : ByteArray) (hk : k.size ≤ maxLen) (s : ByteArray) (hss0 : s.size ≤ maxLen) (hn : G.n < 10000) (f : Nat) (hg : dget G.D k.data.toList = some f) (hd : G.down = false) (hfull : ¬ G.room - used G < s.size) (hz : G.fuse = 0) :
    Calls Tryz.prog 17 #[.pointer (some ⟨b, 0, none⟩), .string k, .string s] w fun e w' => e = .returned (.int .i64 9) ∧ Step w b G w' G.fall := by
  have HR := hide h
  have c3 : ∀ o, (w.alloc o).cell? ⟨b, 3, none⟩ = some (.map (some G.nb)) := fun o => box_cell (box_alloc h.box o) 3 rfl
  have hlk : ∀ o, (Instr.lookup 50 (.map (some G.nb)) (.string k) false).run Tryz.prog (w.alloc o) = .ok (.pointer (some ⟨f, 0, none⟩)) (w.alloc o) := fun o => by have h1 := (h.below ((Below.refl _ w).alloc (Nat.le_refl _) o)).look k hk; rw [hg] at h1; exact h1
  have hbw : b ≠ w.heap.size := Nat.ne_of_lt (heap_lt h.box)
  clear h
  unfold maxLen at *
  go_enter Tryz.func17, Tryz.ntmps17
  go_upto_region 2 with fail
  have B0 : Hid (RowKit.Below w.heap.size w ((w.alloc (.cells #[.string s] 9)).alloc (.cells #[.pointer (some ⟨f, 0, none⟩)] 62))) := ((Below.refl _ w).alloc (Nat.le_refl _) _).alloc (by simp) _
  have P0 : Hid (((w.alloc (.cells #[.string s] 9)).alloc (.cells #[.pointer (some ⟨f, 0, none⟩)] 62)).heap[w.heap.size]? = some (.cells #[.string s] 9 (0, 0))) := box_alloc (heap_alloc_new w _) _
  have P1 : Hid (((w.alloc (.cells #[.string s] 9)).alloc (.cells #[.pointer (some ⟨f, 0, none⟩)] 62)).heap[w.heap.size + 1]? = some (.cells #[.pointer (some ⟨f, 0, none⟩)] 62 (0, 0))) := by have h := heap_alloc_new (w.alloc (.cells #[.string s] 9)) (.cells #[.pointer (some ⟨f, 0, none⟩)] 62); show _ = _; simpa using h
  generalize ((w.alloc (.cells #[.string s] 9)).alloc (.cells #[.pointer (some ⟨f, 0, none⟩)] 62)) = W0 at *
  have p0 : W0.cell? ⟨w.heap.size, 0, none⟩ = some (.string s) := box_cell P0.out 0 rfl
  have p1 : W0.cell? ⟨w.heap.size + 1, 0, none⟩ = some (.pointer (some ⟨f, 0, none⟩)) := box_cell P1.out 0 rfl
  have R0 := hide (HR.out.below B0.out)
  have c2 : W0.cell? ⟨b, 2, none⟩ = some (.bool G.down) := box_cell R0.out.box 2 rfl
  clear c3 hlk
  have hmf : ∀ (fn : Fn) (first cap : Array Value) (w : World), (Instr.makeFunc fn first cap).run Tryz.prog w = .ok (.func fn first cap) w := fun _ _ _ _ => rfl
  rw [hd] at c2
  have HU := hide (free_any (R0.out.below (drew_below W0)) hn)
  have hrm := HR.out.hroom
  have hud := used_le HR.out hn
  have hss : s.size ≤ 9223372036854775807 := by omega
  go_wp2
  go_region_held3 (fun w' => w'.cell? ⟨w.heap.size, 0, none⟩ = some (.string s))
    (go_keep)
    ((go_at_call 45; refine HU.out.mono ?_; rintro e w1 ⟨rfl, bb⟩; have B1 := hide (show RowKit.Below W0.heap.size W0 w1 from ⟨bb.os, bb.tape, bb.output, bb.size, bb.block⟩); clear bb; have d0 : w1.cell? ⟨w.heap.size, 0, none⟩ = some (.string s) := box_cell (Below.at B1.out P0.out) 0 rfl))
  have RD := hide (R0.out.below B1.out)
  have HA := hide (fun fv => act_stop b fv w1 G RD.out hz)
  go_wp2_with (go_at_call 48; refine (HA.out _).mono ?_; rintro e w2 ⟨rfl, rfl⟩)
  go_ret
  exact ⟨rfl, Step.ahead (B0.out.trans (B1.out.mono B0.out.size)) RD.out.fall⟩

set_option maxRecDepth 100000 in
set_option maxHeartbeats 2000000 in
theorem append_go {w : World} {b : Nat} {G : DG} (h : Rep w b G) (k : ByteArray) (hk : k.size ≤ maxLen) (s : ByteArray) (hss0 : s.size ≤ maxLen) (hn : G.n < 10000) (f : Nat) (hg : dget G.D k.data.toList = some f) (F : FG) (hF : G.file f = some F) (hd : G.down = false) (hfull : ¬ G.room - used G < s.size) (hz : G.fuse ≠ 0) (hsq : s.size ≤ G.q) :
    Calls Tryz.prog 17 #[.pointer (some ⟨b, 0, none⟩), .string k, .string s] w fun e w' => e = .returned (.int .i64 0) ∧ ∃ G' F' c, Step w b G w' G' ∧ Acted G.tick G' f F F' (FA.mk false c s 0) := by
  have HR := hide h
  have c3 : ∀ o, (w.alloc o).cell? ⟨b, 3, none⟩ = some (.map (some G.nb)) := fun o => box_cell (box_alloc h.box o) 3 rfl
  have hlk : ∀ o, (Instr.lookup 50 (.map (some G.nb)) (.string k) false).run Tryz.prog (w.alloc o) = .ok (.pointer (some ⟨f, 0, none⟩)) (w.alloc o) := fun o => by have h1 := (h.below ((Below.refl _ w).alloc (Nat.le_refl _) o)).look k hk; rw [hg] at h1; exact h1
  have hbw : b ≠ w.heap.size := Nat.ne_of_lt (heap_lt h.box)
  clear h
  unfold maxLen at *
  go_enter Tryz.func17, Tryz.ntmps17
  go_upto_region 2 with fail
  have B0 : Hid (RowKit.Below w.heap.size w ((w.alloc (.cells #[.string s] 9)).alloc (.cells #[.pointer (some ⟨f, 0, none⟩)] 62))) := ((Below.refl _ w).alloc (Nat.le_refl _) _).alloc (by simp) _
  have P0 : Hid (((w.alloc (.cells #[.string s] 9)).alloc (.cells #[.pointer (some ⟨f, 0, none⟩)] 62)).heap[w.heap.size]? = some (.cells #[.string s] 9 (0, 0))) := box_alloc (heap_alloc_new w _) _
  have P1 : Hid (((w.alloc (.cells #[.string s] 9)).alloc (.cells #[.pointer (some ⟨f, 0, none⟩)] 62)).heap[w.heap.size + 1]? = some (.cells #[.pointer (some ⟨f, 0, none⟩)] 62 (0, 0))) := by have h := heap_alloc_new (w.alloc (.cells #[.string s] 9)) (.cells #[.pointer (some ⟨f, 0, none⟩)] 62); show _ = _; simpa using h
  generalize ((w.alloc (.cells #[.string s] 9)).alloc (.cells #[.pointer (some ⟨f, 0, none⟩)] 62)) = W0 at *
  have p0 : W0.cell? ⟨w.heap.size, 0, none⟩ = some (.string s) := box_cell P0.out 0 rfl
  have p1 : W0.cell? ⟨w.heap.size + 1, 0, none⟩ = some (.pointer (some ⟨f, 0, none⟩)) := box_cell P1.out 0 rfl
  have R0 := hide (HR.out.below B0.out)
  have c2 : W0.cell? ⟨b, 2, none⟩ = some (.bool G.down) := box_cell R0.out.box 2 rfl
  clear c3 hlk
  have hmf : ∀ (fn : Fn) (first cap : Array Value) (w : World), (Instr.makeFunc fn first cap).run Tryz.prog w = .ok (.func fn first cap) w := fun _ _ _ _ => rfl
  rw [hd] at c2
  have HU := hide (free_any (R0.out.below (drew_below W0)) hn)
  have hrm := HR.out.hroom
  have hud := used_le HR.out hn
  have hss : s.size ≤ 9223372036854775807 := by omega
  go_wp2
  go_region_held3 (fun w' => w'.cell? ⟨w.heap.size, 0, none⟩ = some (.string s))
    (go_keep)
    ((go_at_call 45; refine HU.out.mono ?_; rintro e w1 ⟨rfl, bb⟩; have B1 := hide (show RowKit.Below W0.heap.size W0 w1 from ⟨bb.os, bb.tape, bb.output, bb.size, bb.block⟩); clear bb; have d0 : w1.cell? ⟨w.heap.size, 0, none⟩ = some (.string s) := box_cell (Below.at B1.out P0.out) 0 rfl))
  have RD := hide (R0.out.below B1.out)
  have HA := hide (act2_go b 52 (.pointer (some ⟨w.heap.size + 1, 0, none⟩)) (.pointer (some ⟨w.heap.size, 0, none⟩)) w1 G (fun w' => ∃ G' F' c, Step (ticked w1 b G.fuse) b G.tick w' G' ∧ Acted G.tick G' f F F' (FA.mk false c s 0)) RD.out hz (enters_of Tryz.func52 (by kernel_rfl) rfl)
    (append_act RD.out.tick.rep (by show G.n < 100000; omega) (w.heap.size + 1) w.heap.size s f F hF hsq (ticked_at RD.out (Below.at B1.out P1.out) (fresh_role HR.out _ (by omega))) (fresh_role HR.out _ (by omega)) (ticked_at RD.out (Below.at B1.out P0.out) (fresh_role HR.out _ (Nat.le_refl _))) (fresh_role HR.out _ (Nat.le_refl _))))
  go_wp2_with (go_at_call 48; refine HA.out.mono ?_; rintro e w2 ⟨rfl, G', F', c, hst, hcr⟩)
  go_ret
  exact ⟨rfl, G', F', c, Step.ahead (B0.out.trans (B1.out.mono B0.out.size)) (RD.out.tick.trans hst), hcr⟩

set_option maxRecDepth 100000 in
set_option maxHeartbeats 2000000 in
theorem truncate_down1 {w : World} {b : Nat} {G : DG} (h : Rep w b G) (k : ByteArray) (hk : k.size ≤ maxLen) (m : Int) (hg : dget G.D k.data.toList = none) (hd : G.down = true) :
    Calls Tryz.prog 37 #[.pointer (some ⟨b, 0, none⟩), .string k, .int .i64 m] w fun e w' => e = .returned (.int .i64 9) ∧ RowKit.Below w.heap.size w w' := by
  have HR := hide h
  have c3 : ∀ o, (w.alloc o).cell? ⟨b, 3, none⟩ = some (.map (some G.nb)) := fun o => box_cell (box_alloc h.box o) 3 rfl
  have hlk : ∀ o, (Instr.lookup 50 (.map (some G.nb)) (.string k) false).run Tryz.prog (w.alloc o) = .ok (.pointer none) (w.alloc o) := fun o => by have h1 := (h.below ((Below.refl _ w).alloc (Nat.le_refl _) o)).look k hk; rw [hg] at h1; exact h1
  have hbw : b ≠ w.heap.size := Nat.ne_of_lt (heap_lt h.box)
  clear h
  unfold maxLen at *
  go_enter Tryz.func37, Tryz.ntmps37
  go_upto_region 2 with fail
  have B0 : Hid (RowKit.Below w.heap.size w ((w.alloc (.cells #[.int .i64 m] 3)).alloc (.cells #[.pointer none] 62))) := ((Below.refl _ w).alloc (Nat.le_refl _) _).alloc (by simp) _
  have P0 : Hid (((w.alloc (.cells #[.int .i64 m] 3)).alloc (.cells #[.pointer none] 62)).heap[w.heap.size]? = some (.cells #[.int .i64 m] 3 (0, 0))) := box_alloc (heap_alloc_new w _) _
  have P1 : Hid (((w.alloc (.cells #[.int .i64 m] 3)).alloc (.cells #[.pointer none] 62)).heap[w.heap.size + 1]? = some (.cells #[.pointer none] 62 (0, 0))) := by have h := heap_alloc_new (w.alloc (.cells #[.int .i64 m] 3)) (.cells #[.pointer none] 62); show _ = _; simpa using h
  generalize ((w.alloc (.cells #[.int .i64 m] 3)).alloc (.cells #[.pointer none] 62)) = W0 at *
  have p0 : W0.cell? ⟨w.heap.size, 0, none⟩ = some (.int .i64 m) := box_cell P0.out 0 rfl
  have p1 : W0.cell? ⟨w.heap.size + 1, 0, none⟩ = some (.pointer none) := box_cell P1.out 0 rfl
  have R0 := hide (HR.out.below B0.out)
  have c2 : W0.cell? ⟨b, 2, none⟩ = some (.bool G.down) := box_cell R0.out.box 2 rfl
  clear c3 hlk
  rw [hd] at c2
  go_wp2
  go_ret
  exact ⟨rfl, B0.out⟩

set_option maxRecDepth 100000 in
set_option maxHeartbeats 2000000 in
theorem truncate_down2 {w : World} {b : Nat} {G : DG} (h : Rep w b G) (k : ByteArray) (hk : k.size ≤ maxLen) (m : Int) (f : Nat) (hg : dget G.D k.data.toList = some f) (hd : G.down = true) :
    Calls Tryz.prog 37 #[.pointer (some ⟨b, 0, none⟩), .string k, .int .i64 m] w fun e w' => e = .returned (.int .i64 9) ∧ RowKit.Below w.heap.size w w' := by
  have HR := hide h
  have c3 : ∀ o, (w.alloc o).cell? ⟨b, 3, none⟩ = some (.map (some G.nb)) := fun o => box_cell (box_alloc h.box o) 3 rfl
  have hlk : ∀ o, (Instr.lookup 50 (.map (some G.nb)) (.string k) false).run Tryz.prog (w.alloc o) = .ok (.pointer (some ⟨f, 0, none⟩)) (w.alloc o) := fun o => by have h1 := (h.below ((Below.refl _ w).alloc (Nat.le_refl _) o)).look k hk; rw [hg] at h1; exact h1
  have hbw : b ≠ w.heap.size := Nat.ne_of_lt (heap_lt h.box)
  clear h
  unfold maxLen at *
  go_enter Tryz.func37, Tryz.ntmps37
  go_upto_region 2 with fail
  have B0 : Hid (RowKit.Below w.heap.size w ((w.alloc (.cells #[.int .i64 m] 3)).alloc (.cells #[.pointer (some ⟨f, 0, none⟩)] 62))) := ((Below.refl _ w).alloc (Nat.le_refl _) _).alloc (by simp) _
  have P0 : Hid (((w.alloc (.cells #[.int .i64 m] 3)).alloc (.cells #[.pointer (some ⟨f, 0, none⟩)] 62)).heap[w.heap.size]? = some (.cells #[.int .i64 m] 3 (0, 0))) := box_alloc (heap_alloc_new w _) _
  have P1 : Hid (((w.alloc (.cells #[.int .i64 m] 3)).alloc (.cells #[.pointer (some ⟨f, 0, none⟩)] 62)).heap[w.heap.size + 1]? = some (.cells #[.pointer (some ⟨f, 0, none⟩)] 62 (0, 0))) := by have h := heap_alloc_new (w.alloc (.cells #[.int .i64 m] 3)) (.cells #[.pointer (some ⟨f, 0, none⟩)] 62); show _ = _; simpa using h
  generalize ((w.alloc (.cells #[.int .i64 m] 3)).alloc (.cells #[.pointer (some ⟨f, 0, none⟩)] 62)) = W0 at *
  have p0 : W0.cell? ⟨w.heap.size, 0, none⟩ = some (.int .i64 m) := box_cell P0.out 0 rfl
  have p1 : W0.cell? ⟨w.heap.size + 1, 0, none⟩ = some (.pointer (some ⟨f, 0, none⟩)) := box_cell P1.out 0 rfl
  have R0 := hide (HR.out.below B0.out)
  have c2 : W0.cell? ⟨b, 2, none⟩ = some (.bool G.down) := box_cell R0.out.box 2 rfl
  clear c3 hlk
  rw [hd] at c2
  go_wp2
  go_ret
  exact ⟨rfl, B0.out⟩

set_option maxRecDepth 100000 in
set_option maxHeartbeats 2000000 in
theorem truncate_none {w : World} {b : Nat} {G : DG} (h : Rep w b G) (k : ByteArray) (hk : k.size ≤ maxLen) (m : Int) (hg : dget G.D k.data.toList = none) (hd : G.down = false) :
    Calls Tryz.prog 37 #[.pointer (some ⟨b, 0, none⟩), .string k, .int .i64 m] w fun e w' => e = .returned (.int .i64 7) ∧ RowKit.Below w.heap.size w w' := by
  have HR := hide h
  have c3 : ∀ o, (w.alloc o).cell? ⟨b, 3, none⟩ = some (.map (some G.nb)) := fun o => box_cell (box_alloc h.box o) 3 rfl
  have hlk : ∀ o, (Instr.lookup 50 (.map (some G.nb)) (.string k) false).run Tryz.prog (w.alloc o) = .ok (.pointer none) (w.alloc o) := fun o => by have h1 := (h.below ((Below.refl _ w).alloc (Nat.le_refl _) o)).look k hk; rw [hg] at h1; exact h1
  have hbw : b ≠ w.heap.size := Nat.ne_of_lt (heap_lt h.box)
  clear h
  unfold maxLen at *
  go_enter Tryz.func37, Tryz.ntmps37
  go_upto_region 2 with fail
  have B0 : Hid (RowKit.Below w.heap.size w ((w.alloc (.cells #[.int .i64 m] 3)).alloc (.cells #[.pointer none] 62))) := ((Below.refl _ w).alloc (Nat.le_refl _) _).alloc (by simp) _
  have P0 : Hid (((w.alloc (.cells #[.int .i64 m] 3)).alloc (.cells #[.pointer none] 62)).heap[w.heap.size]? = some (.cells #[.int .i64 m] 3 (0, 0))) := box_alloc (heap_alloc_new w _) _
  have P1 : Hid (((w.alloc (.cells #[.int .i64 m] 3)).alloc (.cells #[.pointer none] 62)).heap[w.heap.size + 1]? = some (.cells #[.pointer none] 62 (0, 0))) := by have h := heap_alloc_new (w.alloc (.cells #[.int .i64 m] 3)) (.cells #[.pointer none] 62); show _ = _; simpa using h
  generalize ((w.alloc (.cells #[.int .i64 m] 3)).alloc (.cells #[.pointer none] 62)) = W0 at *
  have p0 : W0.cell? ⟨w.heap.size, 0, none⟩ = some (.int .i64 m) := box_cell P0.out 0 rfl
  have p1 : W0.cell? ⟨w.heap.size + 1, 0, none⟩ = some (.pointer none) := box_cell P1.out 0 rfl
  have R0 := hide (HR.out.below B0.out)
  have c2 : W0.cell? ⟨b, 2, none⟩ = some (.bool G.down) := box_cell R0.out.box 2 rfl
  clear c3 hlk
  rw [hd] at c2
  go_wp2
  go_ret
  exact ⟨rfl, B0.out⟩

set_option maxRecDepth 100000 in
set_option maxHeartbeats 2000000 in
theorem truncate_neg {w : World} {b : Nat} {G : DG} (h : Rep w b G) (k : ByteArray) (hk : k.size ≤ maxLen) (m : Int) (f : Nat) (hg : dget G.D k.data.toList = some f) (hd : G.down = false) (hm : m < 0) :
    Calls Tryz.prog 37 #[.pointer (some ⟨b, 0, none⟩), .string k, .int .i64 m] w fun e w' => e = .returned (.int .i64 1) ∧ RowKit.Below w.heap.size w w' := by
  have HR := hide h
  have c3 : ∀ o, (w.alloc o).cell? ⟨b, 3, none⟩ = some (.map (some G.nb)) := fun o => box_cell (box_alloc h.box o) 3 rfl
  have hlk : ∀ o, (Instr.lookup 50 (.map (some G.nb)) (.string k) false).run Tryz.prog (w.alloc o) = .ok (.pointer (some ⟨f, 0, none⟩)) (w.alloc o) := fun o => by have h1 := (h.below ((Below.refl _ w).alloc (Nat.le_refl _) o)).look k hk; rw [hg] at h1; exact h1
  have hbw : b ≠ w.heap.size := Nat.ne_of_lt (heap_lt h.box)
  clear h
  unfold maxLen at *
  go_enter Tryz.func37, Tryz.ntmps37
  go_upto_region 2 with fail
  have B0 : Hid (RowKit.Below w.heap.size w ((w.alloc (.cells #[.int .i64 m] 3)).alloc (.cells #[.pointer (some ⟨f, 0, none⟩)] 62))) := ((Below.refl _ w).alloc (Nat.le_refl _) _).alloc (by simp) _
  have P0 : Hid (((w.alloc (.cells #[.int .i64 m] 3)).alloc (.cells #[.pointer (some ⟨f, 0, none⟩)] 62)).heap[w.heap.size]? = some (.cells #[.int .i64 m] 3 (0, 0))) := box_alloc (heap_alloc_new w _) _
  have P1 : Hid (((w.alloc (.cells #[.int .i64 m] 3)).alloc (.cells #[.pointer (some ⟨f, 0, none⟩)] 62)).heap[w.heap.size + 1]? = some (.cells #[.pointer (some ⟨f, 0, none⟩)] 62 (0, 0))) := by have h := heap_alloc_new (w.alloc (.cells #[.int .i64 m] 3)) (.cells #[.pointer (some ⟨f, 0, none⟩)] 62); show _ = _; simpa using h
  generalize ((w.alloc (.cells #[.int .i64 m] 3)).alloc (.cells #[.pointer (some ⟨f, 0, none⟩)] 62)) = W0 at *
  have p0 : W0.cell? ⟨w.heap.size, 0, none⟩ = some (.int .i64 m) := box_cell P0.out 0 rfl
  have p1 : W0.cell? ⟨w.heap.size + 1, 0, none⟩ = some (.pointer (some ⟨f, 0, none⟩)) := box_cell P1.out 0 rfl
  have R0 := hide (HR.out.below B0.out)
  have c2 : W0.cell? ⟨b, 2, none⟩ = some (.bool G.down) := box_cell R0.out.box 2 rfl
  clear c3 hlk
  rw [hd] at c2
  go_wp2
  go_quiet (fail)
  go_wp2
  go_ret
  exact ⟨rfl, below_drewN B0.out _⟩

set_option maxRecDepth 100000 in
set_option maxHeartbeats 2000000 in
theorem truncate_more {w : World} {b : Nat} {G : DG} (h : Rep w b G) (k : ByteArray) (hk : k.size ≤ maxLen) (m : Int) (f : Nat) (hg : dget G.D k.data.toList = some f) (F : FG) (hF : G.file f = some F) (hd : G.down = false) (hm0 : decide (m < 0) = false) (hm : (F.now.length : Int) < m) :
    Calls Tryz.prog 37 #[.pointer (some ⟨b, 0, none⟩), .string k, .int .i64 m] w fun e w' => e = .returned (.int .i64 1) ∧ RowKit.Below w.heap.size w w' := by
  have HR := hide h
  have c3 : ∀ o, (w.alloc o).cell? ⟨b, 3, none⟩ = some (.map (some G.nb)) := fun o => box_cell (box_alloc h.box o) 3 rfl
  have hlk : ∀ o, (Instr.lookup 50 (.map (some G.nb)) (.string k) false).run Tryz.prog (w.alloc o) = .ok (.pointer (some ⟨f, 0, none⟩)) (w.alloc o) := fun o => by have h1 := (h.below ((Below.refl _ w).alloc (Nat.le_refl _) o)).look k hk; rw [hg] at h1; exact h1
  have hbw : b ≠ w.heap.size := Nat.ne_of_lt (heap_lt h.box)
  clear h
  unfold maxLen at *
  go_enter Tryz.func37, Tryz.ntmps37
  go_upto_region 2 with fail
  have B0 : Hid (RowKit.Below w.heap.size w ((w.alloc (.cells #[.int .i64 m] 3)).alloc (.cells #[.pointer (some ⟨f, 0, none⟩)] 62))) := ((Below.refl _ w).alloc (Nat.le_refl _) _).alloc (by simp) _
  have P0 : Hid (((w.alloc (.cells #[.int .i64 m] 3)).alloc (.cells #[.pointer (some ⟨f, 0, none⟩)] 62)).heap[w.heap.size]? = some (.cells #[.int .i64 m] 3 (0, 0))) := box_alloc (heap_alloc_new w _) _
  have P1 : Hid (((w.alloc (.cells #[.int .i64 m] 3)).alloc (.cells #[.pointer (some ⟨f, 0, none⟩)] 62)).heap[w.heap.size + 1]? = some (.cells #[.pointer (some ⟨f, 0, none⟩)] 62 (0, 0))) := by have h := heap_alloc_new (w.alloc (.cells #[.int .i64 m] 3)) (.cells #[.pointer (some ⟨f, 0, none⟩)] 62); show _ = _; simpa using h
  generalize ((w.alloc (.cells #[.int .i64 m] 3)).alloc (.cells #[.pointer (some ⟨f, 0, none⟩)] 62)) = W0 at *
  have p0 : W0.cell? ⟨w.heap.size, 0, none⟩ = some (.int .i64 m) := box_cell P0.out 0 rfl
  have p1 : W0.cell? ⟨w.heap.size + 1, 0, none⟩ = some (.pointer (some ⟨f, 0, none⟩)) := box_cell P1.out 0 rfl
  have R0 := hide (HR.out.below B0.out)
  have c2 : W0.cell? ⟨b, 2, none⟩ = some (.bool G.down) := box_cell R0.out.box 2 rfl
  clear c3 hlk
  rw [hd] at c2
  have fb : W0.cell? ⟨f, 0, none⟩ = some (.slice F.no F.now.length F.nc) := box_cell (R0.out.files f F hF).box 0 rfl
  go_wp2
  go_quiet (fail)
  go_wp2
  go_ret
  exact ⟨rfl, below_drewN B0.out _⟩

set_option maxRecDepth 100000 in
set_option maxHeartbeats 2000000 in
theorem truncate_stop {w : World} {b : Nat} {G : DG} (h : Rep w b G) (k : ByteArray) (hk : k.size ≤ maxLen) (m : Nat) (f : Nat) (hg : dget G.D k.data.toList = some f) (F : FG) (hF : G.file f = some F) (hd : G.down = false) (hm : m ≤ F.now.length) (hz : G.fuse = 0) :
    Calls Tryz.prog 37 #[.pointer (some ⟨b, 0, none⟩), .string k, .int .i64 (m : Nat)] w fun e w' => e = .returned (.int .i64 9) ∧ Step w b G w' G.fall := by
  have HR := hide h
  have c3 : ∀ o, (w.alloc o).cell? ⟨b, 3, none⟩ = some (.map (some G.nb)) := fun o => box_cell (box_alloc h.box o) 3 rfl
  have hlk : ∀ o, (Instr.lookup 50 (.map (some G.nb)) (.string k) false).run Tryz.prog (w.alloc o) = .ok (.pointer (some ⟨f, 0, none⟩)) (w.alloc o) := fun o => by have h1 := (h.below ((Below.refl _ w).alloc (Nat.le_refl _) o)).look k hk; rw [hg] at h1; exact h1
  have hbw : b ≠ w.heap.size := Nat.ne_of_lt (heap_lt h.box)
  clear h
  unfold maxLen at *
  go_enter Tryz.func37, Tryz.ntmps37
  go_upto_region 2 with fail
  have B0 : Hid (RowKit.Below w.heap.size w ((w.alloc (.cells #[.int .i64 (m : Nat)] 3)).alloc (.cells #[.pointer (some ⟨f, 0, none⟩)] 62))) := ((Below.refl _ w).alloc (Nat.le_refl _) _).alloc (by simp) _
  have P0 : Hid (((w.alloc (.cells #[.int .i64 (m : Nat)] 3)).alloc (.cells #[.pointer (some ⟨f, 0, none⟩)] 62)).heap[w.heap.size]? = some (.cells #[.int .i64 (m : Nat)] 3 (0, 0))) := box_alloc (heap_alloc_new w _) _
  have P1 : Hid (((w.alloc (.cells #[.int .i64 (m : Nat)] 3)).alloc (.cells #[.pointer (some ⟨f, 0, none⟩)] 62)).heap[w.heap.size + 1]? = some (.cells #[.pointer (some ⟨f, 0, none⟩)] 62 (0, 0))) := by have h := heap_alloc_new (w.alloc (.cells #[.int .i64 (m : Nat)] 3)) (.cells #[.pointer (some ⟨f, 0, none⟩)] 62); show _ = _; simpa using h
  generalize ((w.alloc (.cells #[.int .i64 (m : Nat)] 3)).alloc (.cells #[.pointer (some ⟨f, 0, none⟩)] 62)) = W0 at *
  have p0 : W0.cell? ⟨w.heap.size, 0, none⟩ = some (.int .i64 (m : Nat)) := box_cell P0.out 0 rfl
  have p1 : W0.cell? ⟨w.heap.size + 1, 0, none⟩ = some (.pointer (some ⟨f, 0, none⟩)) := box_cell P1.out 0 rfl
  have R0 := hide (HR.out.below B0.out)
  have c2 : W0.cell? ⟨b, 2, none⟩ = some (.bool G.down) := box_cell R0.out.box 2 rfl
  clear c3 hlk
  have hmf : ∀ (fn : Fn) (first cap : Array Value) (w : World), (Instr.makeFunc fn first cap).run Tryz.prog w = .ok (.func fn first cap) w := fun _ _ _ _ => rfl
  have i1 : decide ((m : Int) < 0) = false := by simp
  have i2 : ¬ (F.now.length : Int) < (m : Int) := by omega
  rw [hd] at c2
  have fb : W0.cell? ⟨f, 0, none⟩ = some (.slice F.no F.now.length F.nc) := box_cell (R0.out.files f F hF).box 0 rfl
  go_wp2
  go_quiet (fail)
  have RD := hide (R0.out.below (below_drewN (Below.refl _ W0) nq))
  have HA := hide (fun fv => act_stop b fv (W0.drewN nq) G RD.out hz)
  go_wp2_with (go_at_call 48; refine (HA.out _).mono ?_; rintro e w2 ⟨rfl, rfl⟩)
  go_ret
  exact ⟨rfl, Step.ahead (below_drewN B0.out nq) RD.out.fall⟩

set_option maxRecDepth 100000 in
set_option maxHeartbeats 2000000 in
theorem truncate_go {w : World} {b : Nat} {G : DG} (h : Rep w b G) (k : ByteArray) (hk : k.size ≤ maxLen) (m : Nat) (hn : G.n < 10000) (f : Nat) (hg : dget G.D k.data.toList = some f) (F : FG) (hF : G.file f = some F) (hd : G.down = false) (hm : m ≤ F.now.length) (hz : G.fuse ≠ 0) (hq1 : 1 ≤ G.q) :
    Calls Tryz.prog 37 #[.pointer (some ⟨b, 0, none⟩), .string k, .int .i64 (m : Nat)] w fun e w' => e = .returned (.int .i64 0) ∧ ∃ G' F' c, Step w b G w' G' ∧ Acted G.tick G' f F F' (FA.mk true c ByteArray.empty m) := by
  have HR := hide h
  have c3 : ∀ o, (w.alloc o).cell? ⟨b, 3, none⟩ = some (.map (some G.nb)) := fun o => box_cell (box_alloc h.box o) 3 rfl
  have hlk : ∀ o, (Instr.lookup 50 (.map (some G.nb)) (.string k) false).run Tryz.prog (w.alloc o) = .ok (.pointer (some ⟨f, 0, none⟩)) (w.alloc o) := fun o => by have h1 := (h.below ((Below.refl _ w).alloc (Nat.le_refl _) o)).look k hk; rw [hg] at h1; exact h1
  have hbw : b ≠ w.heap.size := Nat.ne_of_lt (heap_lt h.box)
  clear h
  unfold maxLen at *
  go_enter Tryz.func37, Tryz.ntmps37
  go_upto_region 2 with fail
  have B0 : Hid (RowKit.Below w.heap.size w ((w.alloc (.cells #[.int .i64 (m : Nat)] 3)).alloc (.cells #[.pointer (some ⟨f, 0, none⟩)] 62))) := ((Below.refl _ w).alloc (Nat.le_refl _) _).alloc (by simp) _
  have P0 : Hid (((w.alloc (.cells #[.int .i64 (m : Nat)] 3)).alloc (.cells #[.pointer (some ⟨f, 0, none⟩)] 62)).heap[w.heap.size]? = some (.cells #[.int .i64 (m : Nat)] 3 (0, 0))) := box_alloc (heap_alloc_new w _) _
  have P1 : Hid (((w.alloc (.cells #[.int .i64 (m : Nat)] 3)).alloc (.cells #[.pointer (some ⟨f, 0, none⟩)] 62)).heap[w.heap.size + 1]? = some (.cells #[.pointer (some ⟨f, 0, none⟩)] 62 (0, 0))) := by have h := heap_alloc_new (w.alloc (.cells #[.int .i64 (m : Nat)] 3)) (.cells #[.pointer (some ⟨f, 0, none⟩)] 62); show _ = _; simpa using h
  generalize ((w.alloc (.cells #[.int .i64 (m : Nat)] 3)).alloc (.cells #[.pointer (some ⟨f, 0, none⟩)] 62)) = W0 at *
  have p0 : W0.cell? ⟨w.heap.size, 0, none⟩ = some (.int .i64 (m : Nat)) := box_cell P0.out 0 rfl
  have p1 : W0.cell? ⟨w.heap.size + 1, 0, none⟩ = some (.pointer (some ⟨f, 0, none⟩)) := box_cell P1.out 0 rfl
  have R0 := hide (HR.out.below B0.out)
  have c2 : W0.cell? ⟨b, 2, none⟩ = some (.bool G.down) := box_cell R0.out.box 2 rfl
  clear c3 hlk
  have hmf : ∀ (fn : Fn) (first cap : Array Value) (w : World), (Instr.makeFunc fn first cap).run Tryz.prog w = .ok (.func fn first cap) w := fun _ _ _ _ => rfl
  have i1 : decide ((m : Int) < 0) = false := by simp
  have i2 : ¬ (F.now.length : Int) < (m : Int) := by omega
  rw [hd] at c2
  have fb : W0.cell? ⟨f, 0, none⟩ = some (.slice F.no F.now.length F.nc) := box_cell (R0.out.files f F hF).box 0 rfl
  go_wp2
  go_quiet (fail)
  have RD := hide (R0.out.below (below_drewN (Below.refl _ W0) nq))
  have BD := hide (below_drewN (Below.refl W0.heap.size W0) nq)
  have HA := hide (act2_go b 72 (.pointer (some ⟨w.heap.size + 1, 0, none⟩)) (.pointer (some ⟨w.heap.size, 0, none⟩)) (W0.drewN nq) G (fun w' => ∃ G' F' c, Step (ticked (W0.drewN nq) b G.fuse) b G.tick w' G' ∧ Acted G.tick G' f F F' (FA.mk true c ByteArray.empty m)) RD.out hz (enters_of Tryz.func72 (by kernel_rfl) rfl)
    (truncate_act RD.out.tick.rep (by show G.n < 100000; omega) (w.heap.size + 1) w.heap.size m f F hF hm hq1 (ticked_at RD.out (Below.at BD.out P1.out) (fresh_role HR.out _ (by omega))) (fresh_role HR.out _ (by omega)) (ticked_at RD.out (Below.at BD.out P0.out) (fresh_role HR.out _ (Nat.le_refl _))) (fresh_role HR.out _ (Nat.le_refl _))))
  go_wp2_with (go_at_call 48; refine HA.out.mono ?_; rintro e w2 ⟨rfl, G', F', c, hst, hcr⟩)
  go_ret
  exact ⟨rfl, G', F', c, Step.ahead (below_drewN B0.out nq) (RD.out.tick.trans hst), hcr⟩


end Go.Proofs.YtknldpaaikcedaaGreat
