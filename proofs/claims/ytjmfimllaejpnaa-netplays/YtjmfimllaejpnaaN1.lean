/-
  The net's calls, but for New and Clear.
-/
import Derived.Test.YtjmfimllaejpnaaR1
namespace Go.Proofs.Ytjmfimllaejpnaa
open Go.RowKit Go.Maps

def setQ (q : Nat → Nat → List ByteArray) (a c : Nat) (ms : List ByteArray) : Nat → Nat → List ByteArray := fun x y => if x = a ∧ y = c then ms else q x y
/-- What a state says of a net, but for where it lies. -/
def NG.like (G : NG) (n : Nat) (side : Int) (q : Nat → Nat → List ByteArray) : Prop := G.n = n ∧ G.side = side ∧ G.q = q
theorem like_self (G : NG) : G.like G.n G.side G.q := ⟨rfl, rfl, rfl⟩
theorem len_link {G : NG} {a c : Nat} (h : isLink G.n a c) : G.len a c = (G.q a c).length := by unfold NG.len; rw [if_pos h]; rfl
theorem ptr_link {G : NG} {a c : Nat} (h : isLink G.n a c) : G.ptr a c = some (G.blk a c) := by unfold NG.ptr; rw [if_pos h]; rfl

section
variable {w : World} {b : Nat} {G : NG}
theorem nodes_any (h : Rep w b G) : Calls Try.prog 7 #[.pointer (some ⟨b, 0, none⟩)] w fun e w' => e = .returned (.int .i64 G.n) ∧ w' = w := by
  have c0 : w.cell? ⟨b, 0, none⟩ = some (.int .i64 G.n) := box_cell h.box 0 rfl
  clear h
  go_enter Try.func7, Try.ntmps7
  go_wp2
  go_ret
  exact ⟨rfl, rfl⟩
theorem netlen_any (h : Rep w b G) {x y : Int} (hx : In64 x) (hy : In64 y) : Calls Try.prog 23 #[.pointer (some ⟨b, 0, none⟩), .int .i64 x, .int .i64 y] w fun e w' => e = .returned (.int .i64 (G.len x y)) ∧ w' = w := by
  have c2 : w.cell? ⟨b, 2, none⟩ = some (.map (some G.mb)) := box_cell h.box 2 rfl
  have hlk := h.lookup hx hy
  have HL := hide (len_any (G.ptr x y) (G.len x y) w h.at)
  clear h
  generalize (Option.map (fun j => (⟨j, 0, none⟩ : Addr)) (G.ptr x y)) = pv at *
  go_enter Try.func23, Try.ntmps23
  go_wp2_with (go_at_call 34; refine HL.out.mono ?_; rintro e w' ⟨rfl, rfl⟩)
  go_ret
  exact ⟨rfl, rfl⟩
/-- add, of a link of the net. -/
theorem netadd_any (h : Rep w b G) {a c : Nat} (hl : isLink G.n a c) (hr : (G.q a c).length < 64) (s : ByteArray) (hs : s.size ≤ 281474976710656) :
    Calls Try.prog 27 #[.pointer (some ⟨G.blk a c, 0, none⟩), .string s] w fun e w' => e = .returned (.tuple #[]) ∧ ∃ G', Step w w' b G G' ∧ G'.like G.n G.side (setQ G.q a c (G.q a c ++ [s])) := by
  obtain ⟨ao, cp, e⟩ := row_slice (h.row a c hl)
  have hb := h.lbox a c hl
  have hrow := h.row a c hl
  rw [e] at hb hrow
  have hnf : (Value.slice ao (G.q a c).length cp).ownBlock ≠ some (G.blk a c) := fun hh => by
    rw [← e] at hh
    have h1 := h.roleR a c hl _ hh
    rw [h.roleL a c hl] at h1
    unfold lrole rrole at h1
    omega
  refine (add_any (G.blk a c) ao (G.q a c).length cp _ s w hb hrow (by omega) hs hnf).mono ?_
  rintro e' w' ⟨rfl, g, cap, h1, h2, h3, h4, h5⟩
  refine ⟨rfl, G.put a c (.slice (some ⟨g, 0, none⟩) ((G.q a c).length + 1) cap) (G.q a c ++ [s]), ?_, rfl, rfl, rfl⟩
  refine h.put hl h1 ?_ (by simp; omega) ?_ ?_ ?_
  · rw [List.map_append, List.length_append]
    exact h2
  · intro t ht
    rcases List.mem_append.1 ht with ht | ht
    · exact h.big a c hl t ht
    · rw [List.mem_singleton.1 ht]; exact hs
  · intro j hj
    obtain rfl : g = j := by simpa [Value.ownBlock] using hj
    rw [e]
    exact h3
  · rw [e]
    exact h5
/-- remove, of a link of the net. -/
theorem netremove_any (h : Rep w b G) {a c : Nat} (hl : isLink G.n a c) (i : Nat) (hi : i < (G.q a c).length) :
    Calls Try.prog 30 #[.pointer (some ⟨G.blk a c, 0, none⟩), .int .i64 i] w fun e w' => e = .returned (.string (G.q a c)[i]) ∧ ∃ G', Step w w' b G G' ∧ G'.like G.n G.side (setQ G.q a c ((G.q a c).eraseIdx i)) := by
  have hrow := h.row a c hl
  have hb := h.lbox a c hl
  have hf := h.few a c hl
  obtain ⟨g, cap, e, hgb, hgl⟩ := hrow.form (by omega)
  rw [e] at hb hrow
  have hgf : g ≠ G.blk a c := fun hh => by
    have h1 := h.roleR a c hl g (by rw [e]; rfl)
    rw [hh, h.roleL a c hl] at h1
    unfold lrole rrole at h1
    omega
  refine (remove_any (G.blk a c) g cap i (G.q a c) w hi (by omega) hb hrow hgf).mono ?_
  rintro e' w' ⟨rfl, h1, h2, h3⟩
  refine ⟨rfl, G.put a c (.slice (some ⟨g, 0, none⟩) ((G.q a c).length - 1) cap) ((G.q a c).eraseIdx i), ?_, rfl, rfl, rfl⟩
  have hle : ((G.q a c).eraseIdx i).length = (G.q a c).length - 1 := List.length_eraseIdx_of_lt hi
  refine h.put hl h1 (by rw [hle]; exact h2) (by omega) ?_ ?_ ?_
  · intro t ht
    exact h.big a c hl t (List.mem_of_mem_eraseIdx ht)
  · intro j hj
    left
    obtain rfl : g = j := by simpa [Value.ownBlock] using hj
    rw [e]; rfl
  · rw [e]
    refine h3.mono fun k _ hk => ?_
    rcases hk with hk | hk
    · exact .inl hk
    · exact .inr (by rw [hk]; rfl)

theorem send_any (h : Rep w b G) {x y : Int} (hx : In64 x) (hy : In64 y) (s : ByteArray) (hs : s.size ≤ 281474976710656) :
    Calls Try.prog 9 #[.pointer (some ⟨b, 0, none⟩), .int .i64 x, .int .i64 y, .string s] w fun e w' => e = .returned (.bool (decide (isLink G.n x y ∧ G.len x y < 64))) ∧
      ∃ G', Step w w' b G G' ∧ G'.like G.n G.side (if isLink G.n x y ∧ G.len x y < 64 then setQ G.q x.toNat y.toNat (G.q x.toNat y.toNat ++ [s]) else G.q) := by
  have c2 : w.cell? ⟨b, 2, none⟩ = some (.map (some G.mb)) := box_cell h.box 2 rfl
  have hlk := h.lookup hx hy
  have HR := hide (room_any (G.ptr x y) (G.len x y) w h.at)
  by_cases hc : isLink G.n x y ∧ G.len x y < 64
  · rw [if_pos hc]
    obtain ⟨hl, hn⟩ := hc
    obtain ⟨a, c, rfl, rfl, hl'⟩ := link_nat hl
    rw [ptr_link hl'] at hlk HR
    rw [len_link hl'] at hn HR
    have e1 : decide (isLink G.n a c ∧ G.len a c < 64) = true := by rw [len_link hl']; simp [hl, hn]
    rw [e1]
    have e2 : ((some (G.blk a c)).isSome && decide ((G.q a c).length < 64)) = true := by simp [hn]
    rw [e2] at HR
    have HA := hide (netadd_any h hl' hn s hs)
    have e3 : ((a : Int).toNat) = a := by omega
    have e4 : ((c : Int).toNat) = c := by omega
    rw [e3, e4]
    simp only [Option.map_some] at hlk HR
    clear h hl hl' hn e1 e2 e3 e4 hx hy
    generalize G.blk a c = f at *
    go_enter Try.func9, Try.ntmps9
    go_wp2_with (first
      | (go_at_call 26; refine HR.out.mono ?_; rintro e w' ⟨rfl, rfl⟩)
      | (go_at_call 27; refine HA.out.mono ?_; rintro e w1 ⟨rfl, hp⟩))
    go_ret
    exact ⟨rfl, hp⟩
  · rw [if_neg hc]
    have e1 : decide (isLink G.n x y ∧ G.len x y < 64) = false := by simpa using hc
    rw [e1]
    have e2 : ((G.ptr x y).isSome && decide (G.len x y < 64)) = false := by
      unfold NG.ptr
      by_cases hl : isLink G.n x y
      · rw [if_pos hl]
        have : ¬ G.len x y < 64 := fun hh => hc ⟨hl, hh⟩
        simpa using this
      · rw [if_neg hl]; rfl
    rw [e2] at HR
    have HS : Hid (∃ G', Step w w b G G' ∧ G'.like G.n G.side G.q) := ⟨G, Step.refl h, like_self G⟩
    clear h hc e1 e2
    generalize (Option.map (fun j => (⟨j, 0, none⟩ : Addr)) (G.ptr x y)) = pv at *
    go_enter Try.func9, Try.ntmps9
    go_wp2_with (go_at_call 26; refine HR.out.mono ?_; rintro e w' ⟨rfl, rfl⟩)
    go_ret
    exact ⟨rfl, HS.out⟩
end

end Go.Proofs.Ytjmfimllaejpnaa
