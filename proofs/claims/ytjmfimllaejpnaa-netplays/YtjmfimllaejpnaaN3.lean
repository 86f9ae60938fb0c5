/-
  Take, Drop, Double of the net.
-/
import Derived.Test.YtjmfimllaejpnaaN2
namespace Go.Proofs.Ytjmfimllaejpnaa
open Go.RowKit Go.Maps

/-- There is an i-th message. -/
def NG.has (G : NG) (x y i : Int) : Prop := 0 ≤ i ∧ i < G.len x y
instance (G : NG) (x y i : Int) : Decidable (G.has x y i) := by unfold NG.has; infer_instance
theorem has_link {G : NG} {x y i : Int} (h : G.has x y i) : ∃ a c k : Nat, x = a ∧ y = c ∧ i = k ∧ isLink G.n (a : Int) (c : Int) ∧ k < (G.q a c).length := by
  obtain ⟨h0, h1⟩ := h
  by_cases hl : isLink G.n x y
  · obtain ⟨a, c, rfl, rfl, hl'⟩ := link_nat hl
    rw [len_link hl'] at h1
    exact ⟨a, c, i.toNat, rfl, rfl, by omega, hl', by omega⟩
  · unfold NG.len at h1
    rw [if_neg hl] at h1
    omega
/-- The i-th message. -/
def NG.msg (G : NG) (x y i : Int) : ByteArray := (G.q x.toNat y.toNat).getD i.toNat ⟨#[]⟩
def NG.less (G : NG) (x y i : Int) : Nat → Nat → List ByteArray := setQ G.q x.toNat y.toNat ((G.q x.toNat y.toNat).eraseIdx i.toNat)
def NG.more (G : NG) (x y : Int) (s : ByteArray) : Nat → Nat → List ByteArray := setQ G.q x.toNat y.toNat (G.q x.toNat y.toNat ++ [s])
section
variable {w : World} {b : Nat} {G : NG}
set_option maxHeartbeats 1000000
theorem drop_any (h : Rep w b G) {x y i : Int} (hx : In64 x) (hy : In64 y) :
    Calls Try.prog 13 #[.pointer (some ⟨b, 0, none⟩), .int .i64 x, .int .i64 y, .int .i64 i] w fun e w' => e = .returned (.bool (decide (G.has x y i))) ∧ ∃ G', Step w w' b G G' ∧ G'.like G.n G.side (if G.has x y i then G.less x y i else G.q) := by
  have c2 : w.cell? ⟨b, 2, none⟩ = some (.map (some G.mb)) := box_cell h.box 2 rfl
  have hlk := h.lookup hx hy
  have HH := hide (has_any (G.ptr x y) (G.len x y) i w h.at)
  change Hid (Calls _ _ _ _ fun e w' => e = .returned (.bool (decide (G.has x y i))) ∧ w' = w) at HH
  by_cases hc : G.has x y i
  · rw [if_pos hc]
    rw [decide_eq_true hc] at HH ⊢
    obtain ⟨a, c, k, rfl, rfl, rfl, hl, hk⟩ := has_link hc
    rw [ptr_link hl] at hlk HH
    have HA := hide (netremove_any h hl k hk)
    change Hid (Calls _ _ _ _ fun e w' => e = .returned (.string (G.q a c)[k]) ∧ ∃ G', Step w w' b G G' ∧ G'.like G.n G.side (G.less a c k)) at HA
    simp only [Option.map_some] at hlk HH
    clear h hl hx hy hc
    generalize G.blk a c = f at *
    generalize (G.q a c)[k] = s at *
    go_enter Try.func13, Try.ntmps13
    go_wp2_with (first
      | (go_at_call 29; refine HH.out.mono ?_; rintro e w' ⟨rfl, rfl⟩)
      | (go_at_call 30; refine HA.out.mono ?_; rintro e w1 ⟨rfl, hp⟩))
    go_ret
    exact ⟨rfl, hp⟩
  · rw [if_neg hc]
    rw [decide_eq_false hc] at HH ⊢
    have HS : Hid (∃ G', Step w w b G G' ∧ G'.like G.n G.side G.q) := ⟨G, Step.refl h, like_self G⟩
    clear h hc
    generalize (Option.map (fun j => (⟨j, 0, none⟩ : Addr)) (G.ptr x y)) = pv at *
    go_enter Try.func13, Try.ntmps13
    go_wp2_with (go_at_call 29; refine HH.out.mono ?_; rintro e w' ⟨rfl, rfl⟩)
    go_ret
    exact ⟨rfl, HS.out⟩
def NG.takes (G : NG) (x y i : Int) : Prop := G.has x y i ∧ joined G.n G.side x y
instance (G : NG) (x y i : Int) : Decidable (G.takes x y i) := by unfold NG.takes; infer_instance
theorem take_any (h : Rep w b G) {x y i : Int} (hx : In64 x) (hy : In64 y) :
    Calls Try.prog 11 #[.pointer (some ⟨b, 0, none⟩), .int .i64 x, .int .i64 y, .int .i64 i] w fun e w' => e = .returned (.tuple #[.string (if G.takes x y i then G.msg x y i else ⟨#[]⟩), .bool (decide (G.takes x y i))]) ∧ ∃ G', Step w w' b G G' ∧ G'.like G.n G.side (if G.takes x y i then G.less x y i else G.q) := by
  have c2 : w.cell? ⟨b, 2, none⟩ = some (.map (some G.mb)) := box_cell h.box 2 rfl
  have hlk := h.lookup hx hy
  have HH := hide (has_any (G.ptr x y) (G.len x y) i w h.at)
  change Hid (Calls _ _ _ _ fun e w' => e = .returned (.bool (decide (G.has x y i))) ∧ w' = w) at HH
  have HJ := hide (joined_any h x y)
  have HS : Hid (∃ G', Step w w b G G' ∧ G'.like G.n G.side G.q) := ⟨G, Step.refl h, like_self G⟩
  by_cases hc : G.has x y i
  · rw [decide_eq_true hc] at HH
    by_cases hj : joined G.n G.side x y
    · rw [decide_eq_true hj] at HJ
      have ht : G.takes x y i := ⟨hc, hj⟩
      rw [if_pos ht, if_pos ht, decide_eq_true ht]
      obtain ⟨a, c, k, rfl, rfl, rfl, hl, hk⟩ := has_link hc
      rw [ptr_link hl] at hlk HH
      have HA := hide (netremove_any h hl k hk)
      change Hid (Calls _ _ _ _ fun e w' => e = .returned (.string (G.q a c)[k]) ∧ ∃ G', Step w w' b G G' ∧ G'.like G.n G.side (G.less a c k)) at HA
      have em : G.msg a c k = (G.q a c)[k] := by
        unfold NG.msg
        simp [List.getD, List.getElem?_eq_getElem hk]
      rw [em]
      simp only [Option.map_some] at hlk HH
      clear h hl hx hy hc hj ht em
      generalize G.blk a c = f at *
      generalize (G.q a c)[k] = s at *
      go_enter Try.func11, Try.ntmps11
      go_wp2_with (first
        | (go_at_call 29; refine HH.out.mono ?_; rintro e w' ⟨rfl, rfl⟩)
        | (go_at_call 21; refine HJ.out.mono ?_; rintro e w' ⟨rfl, rfl⟩)
        | (go_at_call 30; refine HA.out.mono ?_; rintro e w1 ⟨rfl, hp⟩))
      go_ret2
      exact ⟨rfl, hp⟩
    · rw [decide_eq_false hj] at HJ
      have ht : ¬ G.takes x y i := fun t => hj t.2
      rw [if_neg ht, if_neg ht, decide_eq_false ht]
      clear h hc hj ht
      generalize (Option.map (fun j => (⟨j, 0, none⟩ : Addr)) (G.ptr x y)) = pv at *
      go_enter Try.func11, Try.ntmps11
      go_wp2_with (first
        | (go_at_call 29; refine HH.out.mono ?_; rintro e w' ⟨rfl, rfl⟩)
        | (go_at_call 21; refine HJ.out.mono ?_; rintro e w' ⟨rfl, rfl⟩))
      go_ret2
      exact ⟨rfl, HS.out⟩
  · rw [decide_eq_false hc] at HH
    have ht : ¬ G.takes x y i := fun t => hc t.1
    rw [if_neg ht, if_neg ht, decide_eq_false ht]
    clear h hc HJ ht
    generalize (Option.map (fun j => (⟨j, 0, none⟩ : Addr)) (G.ptr x y)) = pv at *
    go_enter Try.func11, Try.ntmps11
    go_wp2_with (go_at_call 29; refine HH.out.mono ?_; rintro e w' ⟨rfl, rfl⟩)
    go_ret2
    exact ⟨rfl, HS.out⟩
def NG.doubles (G : NG) (x y i : Int) : Prop := G.has x y i ∧ G.len x y < 64
instance (G : NG) (x y i : Int) : Decidable (G.doubles x y i) := by unfold NG.doubles; infer_instance
theorem double_any (h : Rep w b G) {x y i : Int} (hx : In64 x) (hy : In64 y) :
    Calls Try.prog 15 #[.pointer (some ⟨b, 0, none⟩), .int .i64 x, .int .i64 y, .int .i64 i] w fun e w' => e = .returned (.bool (decide (G.doubles x y i))) ∧ ∃ G', Step w w' b G G' ∧ G'.like G.n G.side (if G.doubles x y i then G.more x y (G.msg x y i) else G.q) := by
  have c2 : w.cell? ⟨b, 2, none⟩ = some (.map (some G.mb)) := box_cell h.box 2 rfl
  have hlk := h.lookup hx hy
  have HH := hide (has_any (G.ptr x y) (G.len x y) i w h.at)
  change Hid (Calls _ _ _ _ fun e w' => e = .returned (.bool (decide (G.has x y i))) ∧ w' = w) at HH
  have HR := hide (room_any (G.ptr x y) (G.len x y) w h.at)
  have HS : Hid (∃ G', Step w w b G G' ∧ G'.like G.n G.side G.q) := ⟨G, Step.refl h, like_self G⟩
  by_cases hc : G.has x y i
  · rw [decide_eq_true hc] at HH
    have hc' := hc
    obtain ⟨a, c, k, rfl, rfl, rfl, hl, hk⟩ := has_link hc'
    rw [ptr_link hl] at hlk HH HR
    rw [len_link hl] at HR
    simp only [Option.isSome_some, Bool.true_and] at HR
    by_cases hj : (G.q a c).length < 64
    · rw [decide_eq_true hj] at HR
      have ht : G.doubles a c k := ⟨hc, by rw [len_link hl]; exact hj⟩
      rw [if_pos ht, decide_eq_true ht]
      have em : G.msg a c k = (G.q a c)[k] := by
        unfold NG.msg
        simp [List.getD, List.getElem?_eq_getElem hk]
      rw [em]
      have HA := hide (netadd_any h hl hj (G.q a c)[k] (h.big a c hl _ (List.getElem_mem hk)))
      change Hid (Calls _ _ _ _ fun e w' => e = .returned (.tuple #[]) ∧ ∃ G', Step w w' b G G' ∧ G'.like G.n G.side (G.more a c (G.q a c)[k])) at HA
      have hrow := h.row a c hl
      have hb := h.lbox a c hl
      obtain ⟨g, cap, e, hgb, hgl⟩ := hrow.form (by omega)
      rw [e] at hb hrow
      have d0 : w.cell? ⟨G.blk a c, 0, none⟩ = some (.slice (some ⟨g, 0, none⟩) (G.q a c).length cap) := box_cell hb 0 rfl
      have r0 : w.cell? ⟨g, k, none⟩ = some (.string (G.q a c)[k]) := by
        have h1 := hrow.cells rfl k (.string (G.q a c)[k]) (by rw [List.getElem?_map, List.getElem?_eq_getElem hk]; rfl)
        rw [Addr.add_lit] at h1
        simpa using h1
      simp only [Option.map_some] at hlk HH HR
      have hk1 : (k : Int) < ((G.q a c).length : Int) := by omega
      clear h hl hx hy hc ht em hrow hb e
      generalize G.blk a c = f at *
      generalize (G.q a c)[k] = s at *
      generalize (G.q a c).length = L at *
      go_enter Try.func15, Try.ntmps15
      go_wp2_with (first
        | (go_at_call 29; refine HH.out.mono ?_; rintro e w' ⟨rfl, rfl⟩)
        | (go_at_call 26; refine HR.out.mono ?_; rintro e w' ⟨rfl, rfl⟩)
        | (go_at_call 27; refine HA.out.mono ?_; rintro e w1 ⟨rfl, hp⟩))
      go_ret
      exact ⟨rfl, hp⟩
    · rw [decide_eq_false hj] at HR
      have ht : ¬ G.doubles a c k := fun t => hj (by rw [← len_link hl]; exact t.2)
      rw [if_neg ht, decide_eq_false ht]
      simp only [Option.map_some] at hlk HH HR
      clear h hc ht hk hj hl hx hy
      generalize G.blk a c = f at *
      go_enter Try.func15, Try.ntmps15
      go_wp2_with (first
        | (go_at_call 29; refine HH.out.mono ?_; rintro e w' ⟨rfl, rfl⟩)
        | (go_at_call 26; refine HR.out.mono ?_; rintro e w' ⟨rfl, rfl⟩))
      go_ret
      exact ⟨rfl, HS.out⟩
  · rw [decide_eq_false hc] at HH
    have ht : ¬ G.doubles x y i := fun t => hc t.1
    rw [if_neg ht, decide_eq_false ht]
    clear h hc HR ht
    generalize (Option.map (fun j => (⟨j, 0, none⟩ : Addr)) (G.ptr x y)) = pv at *
    go_enter Try.func15, Try.ntmps15
    go_wp2_with (go_at_call 29; refine HH.out.mono ?_; rintro e w' ⟨rfl, rfl⟩)
    go_ret
    exact ⟨rfl, HS.out⟩
end

end Go.Proofs.Ytjmfimllaejpnaa
