/-
  carillonref05's at, Len, Joined, Cut, as they run.
-/
import Derived.Test.YtjmfimllaejpnaaY1
namespace Go.Proofs.Ytjmfimllaejpnaa
open Go.RowKit Go.Maps

theorem link_iff {n : Nat} {x y : Int} : isLink n x y ↔ 0 ≤ x ∧ x < n ∧ 0 ≤ y ∧ y < n ∧ x ≠ y := Iff.rfl
section
variable {w : World} {b n : Nat} {s : Int} {q : Qs} {Y : YG}
set_option maxHeartbeats 1000000 in
theorem yat_link (h : YR w b n s q Y) (a c : Nat) (hl : isLink n (a : Int) (c : Int)) : Calls Try.prog 28 #[.pointer (some ⟨b, 0, none⟩), .int .i64 a, .int .i64 c] w fun e w' => e = .returned (.int .i64 ((a * n + c : Nat) : Int)) ∧ w' = w := by
  obtain ⟨h1, h2, h3⟩ := link_lt2 hl
  have hk := place_lt h1 h2
  have hn := h.nodes.2
  have hnn : n * n ≤ 49 := Nat.mul_le_mul hn hn
  have c0 := h.c0
  have g1 : ¬ (a : Int) < 0 := by omega
  have g2 : ¬ (n : Int) ≤ (a : Int) := by omega
  have g3 : ¬ (c : Int) < 0 := by omega
  have g4 : ¬ (n : Int) ≤ (c : Int) := by omega
  have g5 : ((a : Int) == (c : Int)) = false := by rw [beq_eq_false_iff_ne]; omega
  have e1 : ((a * n : Nat) : Int) = (a : Int) * (n : Int) := Int.natCast_mul a n
  have m1 : 0 ≤ (a : Int) * (n : Int) := by rw [← e1]; omega
  have m2 : (a : Int) * (n : Int) + (c : Int) ≤ 49 := by rw [← e1]; omega
  clear e1
  clear h hl h1 h2 h3 hk hnn
  go_enter Try.func28, Try.ntmps28
  go_wp2
  go_ret
  exact ⟨rfl, rfl⟩
set_option maxHeartbeats 1000000 in
theorem yat_none (h : YR w b n s q Y) (x y : Int) (hl : ¬ isLink n x y) : Calls Try.prog 28 #[.pointer (some ⟨b, 0, none⟩), .int .i64 x, .int .i64 y] w fun e w' => e = .returned (.int .i64 (-1)) ∧ w' = w := by
  have c0 := h.c0
  clear h
  by_cases g1 : x < 0
  · skip
    clear hl
    go_enter Try.func28, Try.ntmps28
    go_wp2
    go_ret
    exact ⟨rfl, rfl⟩
  · by_cases g2 : (n : Int) ≤ x
    · skip
      clear hl
      go_enter Try.func28, Try.ntmps28
      go_wp2
      go_ret
      exact ⟨rfl, rfl⟩
    · by_cases g3 : y < 0
      · skip
        clear hl
        go_enter Try.func28, Try.ntmps28
        go_wp2
        go_ret
        exact ⟨rfl, rfl⟩
      · by_cases g4 : (n : Int) ≤ y
        · skip
          clear hl
          go_enter Try.func28, Try.ntmps28
          go_wp2
          go_ret
          exact ⟨rfl, rfl⟩
        · obtain rfl : x = y := by
            by_cases e : x = y
            · exact e
            · exact absurd ⟨by omega, by omega, by omega, by omega, e⟩ hl
          clear hl
          go_enter Try.func28, Try.ntmps28
          go_wp2
          go_ret
          exact ⟨rfl, rfl⟩
theorem link_place {n : Nat} {x y : Int} (hl : isLink n x y) : ∃ a c : Nat, x = a ∧ y = c ∧ isLink n (a : Int) (c : Int) ∧ a * n + c < n * n := by
  obtain ⟨a, c, rfl, rfl, h⟩ := link_nat hl
  obtain ⟨h1, h2, _⟩ := link_lt2 h
  exact ⟨a, c, rfl, rfl, h, place_lt h1 h2⟩
theorem YR.nn (h : YR w b n s q Y) : n * n ≤ 49 := Nat.mul_le_mul h.nodes.2 h.nodes.2
theorem YR.rowS (h : YR w b n s q Y) {k : Nat} (hk : k < n * n) : ∃ ao cp, Y.row k = .slice ao (qk n q k).length cp := row_slice (h.row k hk)
set_option maxHeartbeats 1000000 in
theorem ylen_any (h : YR w b n s q Y) (x y : Int) : Calls Try.prog 24 #[.pointer (some ⟨b, 0, none⟩), .int .i64 x, .int .i64 y] w fun e w' => e = .returned (.int .i64 (lenQ n q x y)) ∧ w' = w := by
  unfold lenQ
  by_cases hl : isLink n x y
  · obtain ⟨a, c, rfl, rfl, hl2, hk⟩ := link_place hl
    have HA := hide (yat_link h a c hl2)
    rw [if_pos hl, Int.toNat_natCast, Int.toNat_natCast, ← qk_link (q := q) hl2]
    have hnn := h.nn
    generalize a * n + c = k at *
    obtain ⟨ao, cp, hr⟩ := h.rowS hk
    have c1 := h.c1
    have c2 := (h.ck hk).1
    rw [hr] at c2
    have hk0 : (0 : Int) ≤ (k : Int) := by omega
    have hk1 : (k : Int) < ((n * n : Nat) : Int) := by omega
    generalize n * n = N at *
    generalize qk n q k = M at *
    clear hr hl hl2 h
    go_enter Try.func24, Try.ntmps24
    go_wp2_with fail
    refine HA.out.mono ?_
    rintro e w' ⟨rfl, h5⟩
    obtain rfl := h5.symm
    clear h5 HA
    go_wp2
    go_ret
    exact ⟨rfl, rfl⟩
  · have HA := hide (yat_none h x y hl)
    rw [if_neg hl]
    clear h hl
    go_enter Try.func24, Try.ntmps24
    go_wp2_with fail
    refine HA.out.mono ?_
    rintro e w' ⟨rfl, h5⟩
    obtain rfl := h5.symm
    clear h5 HA
    go_wp2
    go_ret
    exact ⟨rfl, rfl⟩
theorem yjoin_iff {n A C : Nat} {S : Int} (hA : A < n) (hC : C < n) : joined n S A C ↔ S / 2 ^ A % 2 = S / 2 ^ C % 2 := by
  unfold joined bit
  rw [show ((A : Int).toNat) = A by omega, show ((C : Int).toNat) = C by omega]
  constructor
  · rintro ⟨_, _, h⟩
    have h1 := decide_eq_decide.1 h
    have a1 := Int.emod_nonneg (S / 2 ^ A) (b := 2) (by omega)
    have a2 := Int.emod_lt_of_pos (S / 2 ^ A) (b := 2) (by omega)
    have c1 := Int.emod_nonneg (S / 2 ^ C) (b := 2) (by omega)
    have c2 := Int.emod_lt_of_pos (S / 2 ^ C) (b := 2) (by omega)
    omega
  · intro h
    refine ⟨by omega, by omega, ?_⟩
    rw [h]
set_option maxHeartbeats 1000000 in
theorem ycut_any (h : YR w b n s q Y) (i : Int) (hi : In64 i) : Calls Try.prog 18 #[.pointer (some ⟨b, 0, none⟩), .int .i64 i] w fun e w' => e = .returned (.tuple #[]) ∧ YR w' b n (max i 0) q Y ∧ Touch (fun j => Y.own b n j) w w' := by
  have c2 := h.c2
  have f2 := box_free h.box 2
  have HH := hide h
  clear h
  go_enter Try.func18, Try.ntmps18
  go_wp2
  go_end0
  refine ⟨rfl, ?_, (Touch.refl _ w).setCell _ _ fun _ => .inl rfl⟩
  have h := HH.out
  obtain ⟨cur, hc, h1, h2⟩ := h.lst
  refine ⟨h.nodes, by unfold In64 at hi; omega, box_set h.box 2 _, ⟨cur, box_apart hc h.neL.symm _ _, h1, h2⟩, fun k hk => set_row (h.row k hk) _ _ _ (h.neB hk), h.few, h.apart⟩
set_option maxHeartbeats 1000000 in
theorem yjoined_any (h : YR w b n s q Y) (x y : Int) : Calls Try.prog 22 #[.pointer (some ⟨b, 0, none⟩), .int .i64 x, .int .i64 y] w fun e w' => e = .returned (.bool (decide (joined n s x y))) ∧ ∃ k, w' = w.drewN k := by
  have c0 := h.c0
  have c2 := h.c2
  have hn := h.nodes.2
  have hs := h.side
  by_cases hx : 0 ≤ x ∧ x < n
  · by_cases hy : 0 ≤ y ∧ y < n
    · obtain ⟨a, rfl⟩ : ∃ a : Nat, x = a := ⟨x.toNat, by omega⟩
      obtain ⟨c, rfl⟩ : ∃ c : Nat, y = c := ⟨y.toNat, by omega⟩
      have g1 : ¬ (a : Int) < 0 := by omega
      have g2 : ¬ (n : Int) ≤ (a : Int) := by omega
      have g3 : ¬ (c : Int) < 0 := by omega
      have g4 : ¬ (n : Int) ≤ (c : Int) := by omega
      have g5 : (a : Int) ≤ 7 := by omega
      have g6 : (c : Int) ≤ 7 := by omega
      have e3 : decide (joined n s a c) = (s / 2 ^ a % 2 == s / 2 ^ c % 2) := by
        by_cases hb : s / 2 ^ a % 2 = s / 2 ^ c % 2
        · rw [decide_eq_true ((yjoin_iff (by omega) (by omega)).2 hb), beq_iff_eq.2 hb]
        · rw [decide_eq_false fun hj => hb ((yjoin_iff (by omega) (by omega)).1 hj), beq_eq_false_iff_ne.2 hb]
      obtain ⟨dA1, dA2⟩ := div_in hs a
      obtain ⟨dC1, dC2⟩ := div_in hs c
      rw [e3, ← Int.tmod_eq_emod_of_nonneg (b := 2) dA1, ← Int.tmod_eq_emod_of_nonneg (b := 2) dC1]
      clear h e3 hx hy
      go_enter Try.func22, Try.ntmps22
      go_wp2
      go_quiet (fail)
      go_wp2
      go_ret
      exact ⟨rfl, _, rfl⟩
    · have e3 : decide (joined n s x y) = false := decide_eq_false fun hj => hy hj.2.1
      rw [e3]
      have g1 : ¬ x < 0 := by omega
      have g2 : ¬ (n : Int) ≤ x := by omega
      clear h e3
      by_cases g3 : y < 0
      · skip
        go_enter Try.func22, Try.ntmps22
        go_wp2
        go_ret
        exact ⟨rfl, 0, rfl⟩
      · have g4 : (n : Int) ≤ y := by omega
        go_enter Try.func22, Try.ntmps22
        go_wp2
        go_ret
        exact ⟨rfl, 0, rfl⟩
  · have e3 : decide (joined n s x y) = false := decide_eq_false fun hj => hx hj.1
    rw [e3]
    clear h e3
    by_cases g1 : x < 0
    · skip
      go_enter Try.func22, Try.ntmps22
      go_wp2
      go_ret
      exact ⟨rfl, 0, rfl⟩
    · have g2 : (n : Int) ≤ x := by omega
      go_enter Try.func22, Try.ntmps22
      go_wp2
      go_ret
      exact ⟨rfl, 0, rfl⟩
end
end Go.Proofs.Ytjmfimllaejpnaa
