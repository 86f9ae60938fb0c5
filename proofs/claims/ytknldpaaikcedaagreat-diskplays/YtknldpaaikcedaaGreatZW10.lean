/-
  act of the disk as it runs: its fuse.
-/
import Derived.Test.YtknldpaaikcedaaGreatZW9
namespace Go.Proofs.YtknldpaaikcedaaGreat
open Go.RowKit Go.Maps

/-- The world in which an act is done: a fuse is one less. -/
def ticked (w : World) (b : Nat) (z : Int) : World := if 0 < z then w.setCell ⟨b, 1, none⟩ (.int .i64 (z - 1)) else w
/-- The disk then. -/
def DG.tick (G : DG) : DG := { G with fuse := if 0 < G.fuse then G.fuse - 1 else G.fuse }
theorem Rep.tick {w : World} {b : Nat} {G : DG} (h : Rep w b G) : Step w b G (ticked w b G.fuse) G.tick := by
  unfold ticked DG.tick
  by_cases hz : 0 < G.fuse
  · rw [if_pos hz, if_pos hz]
    exact h.rebox ((Touch.refl _ w).setCell _ _ fun _ => rfl) (G.fuse - 1) G.down (box_set h.box 1 _) (by have := h.hfuse; omega)
  · rw [if_neg hz, if_neg hz]
    exact Step.refl h
/-- The disk goes down. -/
def DG.fall (G : DG) : DG := { G with down := true }
theorem Rep.fall {w : World} {b : Nat} {G : DG} (h : Rep w b G) : Step w b G (w.setCell ⟨b, 2, none⟩ (.bool true)) G.fall :=
  h.rebox ((Touch.refl _ w).setCell _ _ fun _ => rfl) G.fuse true (box_set h.box 2 _) h.hfuse

set_option maxHeartbeats 1000000 in
theorem act_stop (b : Nat) (fv : Value) (w : World) (G : DG) (h : Rep w b G) (hz : G.fuse = 0) :
    Calls Tryz.prog 48 #[.pointer (some ⟨b, 0, none⟩), fv] w fun e w' => e = .returned (.int .i64 9) ∧ w' = w.setCell ⟨b, 2, none⟩ (.bool true) := by
  have c1 : w.cell? ⟨b, 1, none⟩ = some (.int .i64 0) := by have h1 := box_cell h.box 1 rfl; rw [hz] at h1; exact h1
  have c2 : w.cell? ⟨b, 2, none⟩ = some (.bool G.down) := box_cell h.box 2 rfl
  have f2 := box_free h.box 2
  clear h hz
  go_enter Tryz.func48, Tryz.ntmps48
  go_wp2
  go_ret
  exact ⟨rfl, rfl⟩
set_option maxHeartbeats 1000000 in
theorem act2_go (b k : Nat) (p q : Value) (w : World) (G : DG) (Q : World → Prop) (h : Rep w b G) (hz : G.fuse ≠ 0) (hk : ∀ args w, (callFunc k args).run Tryz.prog w = .ok (.enter k args) w)
    (hdo : Calls Tryz.prog k #[p, q] (ticked w b G.fuse) fun e w' => e = .returned (.tuple #[]) ∧ Q w') :
    Calls Tryz.prog 48 #[.pointer (some ⟨b, 0, none⟩), .func (.func k) #[] #[p, q]] w fun e w' => e = .returned (.int .i64 0) ∧ Q w' := by
  have c1 : w.cell? ⟨b, 1, none⟩ = some (.int .i64 G.fuse) := box_cell h.box 1 rfl
  have f1 := box_free h.box 1
  have hf := h.hfuse
  clear h
  have hb : (G.fuse == 0) = false := by rw [beq_eq_false_iff_ne]; exact hz
  unfold ticked at hdo
  generalize G.fuse = z at *
  by_cases hp : 0 < z
  · rw [if_pos hp] at hdo
    have HD := hide hdo
    clear hdo
    go_enter Tryz.func48, Tryz.ntmps48
    go_wp2_with (go_at_fn k; refine HD.out.mono ?_; rintro e w2 ⟨rfl, hq⟩)
    go_ret
    exact ⟨rfl, hq⟩
  · rw [if_neg hp] at hdo
    have HD := hide hdo
    clear hdo
    go_enter Tryz.func48, Tryz.ntmps48
    go_wp2_with (go_at_fn k; refine HD.out.mono ?_; rintro e w2 ⟨rfl, hq⟩)
    go_ret
    exact ⟨rfl, hq⟩
set_option maxHeartbeats 1000000 in
theorem act3_go (b k : Nat) (p q r : Value) (w : World) (G : DG) (Q : World → Prop) (h : Rep w b G) (hz : G.fuse ≠ 0) (hk : ∀ args w, (callFunc k args).run Tryz.prog w = .ok (.enter k args) w)
    (hdo : Calls Tryz.prog k #[p, q, r] (ticked w b G.fuse) fun e w' => e = .returned (.tuple #[]) ∧ Q w') :
    Calls Tryz.prog 48 #[.pointer (some ⟨b, 0, none⟩), .func (.func k) #[] #[p, q, r]] w fun e w' => e = .returned (.int .i64 0) ∧ Q w' := by
  have c1 : w.cell? ⟨b, 1, none⟩ = some (.int .i64 G.fuse) := box_cell h.box 1 rfl
  have f1 := box_free h.box 1
  have hf := h.hfuse
  clear h
  have hb : (G.fuse == 0) = false := by rw [beq_eq_false_iff_ne]; exact hz
  unfold ticked at hdo
  generalize G.fuse = z at *
  by_cases hp : 0 < z
  · rw [if_pos hp] at hdo
    have HD := hide hdo
    clear hdo
    go_enter Tryz.func48, Tryz.ntmps48
    go_wp2_with (go_at_fn k; refine HD.out.mono ?_; rintro e w2 ⟨rfl, hq⟩)
    go_ret
    exact ⟨rfl, hq⟩
  · rw [if_neg hp] at hdo
    have HD := hide hdo
    clear hdo
    go_enter Tryz.func48, Tryz.ntmps48
    go_wp2_with (go_at_fn k; refine HD.out.mono ?_; rintro e w2 ⟨rfl, hq⟩)
    go_ret
    exact ⟨rfl, hq⟩
set_option maxHeartbeats 1000000 in
theorem act1_go (b k : Nat) (p : Value) (w : World) (G : DG) (Q : World → Prop) (h : Rep w b G) (hz : G.fuse ≠ 0) (hk : ∀ args w, (callFunc k args).run Tryz.prog w = .ok (.enter k args) w)
    (hdo : Calls Tryz.prog k #[p] (ticked w b G.fuse) fun e w' => e = .returned (.tuple #[]) ∧ Q w') :
    Calls Tryz.prog 48 #[.pointer (some ⟨b, 0, none⟩), .func (.func k) #[p] #[]] w fun e w' => e = .returned (.int .i64 0) ∧ Q w' := by
  have c1 : w.cell? ⟨b, 1, none⟩ = some (.int .i64 G.fuse) := box_cell h.box 1 rfl
  have f1 := box_free h.box 1
  have hf := h.hfuse
  clear h
  have hb : (G.fuse == 0) = false := by rw [beq_eq_false_iff_ne]; exact hz
  unfold ticked at hdo
  generalize G.fuse = z at *
  by_cases hp : 0 < z
  · rw [if_pos hp] at hdo
    have HD := hide hdo
    clear hdo
    go_enter Tryz.func48, Tryz.ntmps48
    go_wp2_with (go_at_fn k; refine HD.out.mono ?_; rintro e w2 ⟨rfl, hq⟩)
    go_ret
    exact ⟨rfl, hq⟩
  · rw [if_neg hp] at hdo
    have HD := hide hdo
    clear hdo
    go_enter Tryz.func48, Tryz.ntmps48
    go_wp2_with (go_at_fn k; refine HD.out.mono ?_; rintro e w2 ⟨rfl, hq⟩)
    go_ret
    exact ⟨rfl, hq⟩

end Go.Proofs.YtknldpaaikcedaaGreat
