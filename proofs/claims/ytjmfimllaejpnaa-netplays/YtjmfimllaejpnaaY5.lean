/-
  carillonref05's remove, Take, Drop, Double, Clear, New, as they run.
-/
import Derived.Test.YtjmfimllaejpnaaY4
namespace Go.Proofs.Ytjmfimllaejpnaa
open Go.RowKit Go.Maps

section
variable {w w' : World} {b n : Nat} {s : Int} {q : Qs} {Y : YG}
theorem has_iff {x y i : Int} : hasQ n q x y i ↔ isLink n x y ∧ 0 ≤ i ∧ i < ((q x.toNat y.toNat).length : Int) := by
  unfold hasQ lenQ
  constructor
  · rintro ⟨h1, h2⟩
    by_cases hl : isLink n x y
    · rw [if_pos hl] at h2; exact ⟨hl, h1, h2⟩
    · rw [if_neg hl] at h2; omega
  · rintro ⟨h1, h2, h3⟩
    rw [if_pos h1]; exact ⟨h2, h3⟩
/-- The cells that a link's place has. -/
theorem YR.look (h : YR w b n s q Y) {a c : Nat} (hl : isLink n (a : Int) (c : Int)) : ∃ k N ao cp, a * n + c = k ∧ n * n = N ∧ k < N ∧ N ≤ 49 ∧ Y.row k = .slice ao (q a c).length cp ∧ w.cell? ⟨b, 1, none⟩ = some (.slice (some ⟨Y.lb, 0, none⟩) N N) ∧ w.cell? ⟨Y.lb, k, none⟩ = some (.slice ao (q a c).length cp) ∧ (q a c).length ≤ 64 := by
  obtain ⟨h1, h2, _⟩ := link_lt2 hl
  have hk := place_lt h1 h2
  have hq := qk_link (q := q) hl
  obtain ⟨ao, cp, hr⟩ := h.rowS hk
  have hf := h.few _ hk
  have hc := (h.ck hk).1
  rw [hr] at hc
  rw [hq] at hr hc hf
  exact ⟨_, _, ao, cp, rfl, rfl, hk, h.nn, hr, h.c1, hc, hf⟩
set_option maxHeartbeats 2000000 in
theorem yremove_not (h : YR w b n s q Y) (x y i : Int) (hh : ¬ hasQ n q x y i) : Calls Try.prog 31 #[.pointer (some ⟨b, 0, none⟩), .int .i64 x, .int .i64 y, .int .i64 i] w fun e w' => e = .returned (.tuple #[.string ⟨#[]⟩, .bool false]) ∧ w' = w := by
  by_cases hl : isLink n x y
  · obtain ⟨a, c, rfl, rfl, hl2, hk⟩ := link_place hl
    have HA := hide (yat_link h a c hl2)
    obtain ⟨k, N, ao, cp, e1, e2, g1, g2, _, c1, c2, _⟩ := h.look hl2
    have hh2 : ¬ (0 ≤ i ∧ i < ((q a c).length : Int)) := fun e => hh (has_iff.2 ⟨hl, by simpa using e⟩)
    rw [e1] at HA
    have hk0 : (0 : Int) ≤ (k : Int) := by omega
    have hk1 : (k : Int) < (N : Int) := by omega
    generalize q a c = M at *
    clear h hl hl2 hh e1 e2 hk
    by_cases hi : i < 0
    · skip
      go_enter Try.func31, Try.ntmps31
      go_wp2_with fail
      refine HA.out.mono ?_
      rintro e w' ⟨rfl, h5⟩
      obtain rfl := h5.symm
      clear h5 HA
      go_wp2
      go_ret2
      exact ⟨rfl, rfl⟩
    · have hi2 : (M.length : Int) ≤ i := by omega
      go_enter Try.func31, Try.ntmps31
      go_wp2_with fail
      refine HA.out.mono ?_
      rintro e w' ⟨rfl, h5⟩
      obtain rfl := h5.symm
      clear h5 HA
      go_wp2
      go_ret2
      exact ⟨rfl, rfl⟩
  · have HA := hide (yat_none h x y hl)
    clear h hl hh
    go_enter Try.func31, Try.ntmps31
    go_wp2_with fail
    refine HA.out.mono ?_
    rintro e w' ⟨rfl, h5⟩
    obtain rfl := h5.symm
    clear h5 HA
    go_wp2
    go_ret2
    exact ⟨rfl, rfl⟩
theorem yremove_any (h : YR w b n s q Y) (x y i : Int) : Calls Try.prog 31 #[.pointer (some ⟨b, 0, none⟩), .int .i64 x, .int .i64 y, .int .i64 i] w fun e w' => e = .returned (.tuple #[.string (if hasQ n q x y i then msgQ q x y i else ⟨#[]⟩), .bool (decide (hasQ n q x y i))]) ∧ ∃ Y', YR w' b n s (if hasQ n q x y i then lessQ q x y i else q) Y' ∧ YStep w w' b n Y Y' := by
  by_cases hh : hasQ n q x y i
  · rw [if_pos hh, if_pos hh, decide_eq_true hh]
    obtain ⟨hl, h0, h1⟩ := has_iff.1 hh
    obtain ⟨a, c, rfl, rfl, hl2, _⟩ := link_place hl
    obtain ⟨m, rfl⟩ : ∃ m : Nat, i = m := ⟨i.toNat, by omega⟩
    have hm : m < (q a c).length := by simpa using h1
    refine (yremove_has h a c m hl2 hm).mono ?_
    rintro e w' ⟨rfl, hY⟩
    refine ⟨?_, hY⟩
    unfold msgQ
    simp [hm]
  · rw [if_neg hh, if_neg hh, decide_eq_false hh]
    refine (yremove_not h x y i hh).mono ?_
    rintro e w' ⟨rfl, rfl⟩
    exact ⟨rfl, Y, h, YStep.refl w' 0⟩
theorem YR.drewN (h : YR w b n s q Y) (k : Nat) : YR (w.drewN k) b n s q Y := h.below (below_drewN (Below.refl _ w) k)
theorem YStep.drewN {Y' : YG} {k : Nat} (h : YStep (w.drewN k) w' b n Y Y') : YStep w w' b n Y Y' := ⟨(Touch.of_below (below_drewN (Below.refl _ w) k)).andThen h.touch fun _ _ e => e, h.grew⟩
set_option maxHeartbeats 2000000 in
theorem ytake_any (h : YR w b n s q Y) (x y i : Int) : Calls Try.prog 12 #[.pointer (some ⟨b, 0, none⟩), .int .i64 x, .int .i64 y, .int .i64 i] w fun e w' => e = .returned (.tuple #[.string (if takesQ n s q x y i then msgQ q x y i else ⟨#[]⟩), .bool (decide (takesQ n s q x y i))]) ∧ ∃ Y', YR w' b n s (if takesQ n s q x y i then lessQ q x y i else q) Y' ∧ YStep w w' b n Y Y' := by
  have HJ := hide (yjoined_any h x y)
  by_cases hj : joined n s x y
  · have e1 : takesQ n s q x y i ↔ hasQ n q x y i := ⟨fun e => e.1, fun e => ⟨e, hj⟩⟩
    simp only [e1]
    rw [decide_eq_true hj] at HJ
    have HR := hide (fun k => yremove_any (h.drewN k) x y i)
    generalize hb1 : decide (hasQ n q x y i) = B at *
    generalize (if hasQ n q x y i then msgQ q x y i else ⟨#[]⟩) = S at *
    generalize (if hasQ n q x y i then lessQ q x y i else q) = Q at *
    clear h hj e1 hb1
    go_enter Try.func12, Try.ntmps12
    go_wp2_with fail
    refine HJ.out.mono ?_
    rintro e w1 ⟨rfl, k, rfl⟩
    clear HJ
    go_wp2_with fail
    refine (HR.out k).mono ?_
    rintro e w2 ⟨rfl, Y', h1, h2⟩
    have H1 := hide h1
    have H2 := hide h2.drewN
    clear h1 h2 HR
    go_wp2
    go_ret2
    exact ⟨rfl, Y', H1.out, H2.out⟩
  · have e1 : ¬ takesQ n s q x y i := fun e => hj e.2
    rw [if_neg e1, if_neg e1, decide_eq_false e1]
    rw [decide_eq_false hj] at HJ
    have HH := hide h
    clear h hj e1
    go_enter Try.func12, Try.ntmps12
    go_wp2_with fail
    refine HJ.out.mono ?_
    rintro e w1 ⟨rfl, k, rfl⟩
    clear HJ
    go_wp2
    go_ret2
    exact ⟨rfl, Y, HH.out.drewN k, YStep.refl w k⟩
set_option maxHeartbeats 2000000 in
theorem ydrop_any (h : YR w b n s q Y) (x y i : Int) : Calls Try.prog 14 #[.pointer (some ⟨b, 0, none⟩), .int .i64 x, .int .i64 y, .int .i64 i] w fun e w' => e = .returned (.bool (decide (hasQ n q x y i))) ∧ ∃ Y', YR w' b n s (if hasQ n q x y i then lessQ q x y i else q) Y' ∧ YStep w w' b n Y Y' := by
  have HR := hide (yremove_any h x y i)
  generalize decide (hasQ n q x y i) = B at *
  generalize (if hasQ n q x y i then msgQ q x y i else ⟨#[]⟩) = S at *
  generalize (if hasQ n q x y i then lessQ q x y i else q) = Q at *
  clear h
  go_enter Try.func14, Try.ntmps14
  go_wp2_with fail
  refine HR.out.mono ?_
  rintro e w2 ⟨rfl, hY⟩
  have HY := hide hY
  clear hY HR
  go_wp2
  go_ret
  exact ⟨rfl, HY.out⟩
set_option maxHeartbeats 2000000 in
theorem ydouble_any (h : YR w b n s q Y) (x y i : Int) : Calls Try.prog 16 #[.pointer (some ⟨b, 0, none⟩), .int .i64 x, .int .i64 y, .int .i64 i] w fun e w' => e = .returned (.bool (decide (doublesQ n q x y i))) ∧ ∃ Y', YR w' b n s (if doublesQ n q x y i then moreQ q x y (msgQ q x y i) else q) Y' ∧ YStep w w' b n Y Y' := by
  by_cases hl : isLink n x y
  · obtain ⟨a, c, rfl, rfl, hl2, hk⟩ := link_place hl
    have HA := hide (yat_link h a c hl2)
    obtain ⟨k, N, ao, cp, e1, e2, g1, g2, hrow, c1, c2, _⟩ := h.look hl2
    rw [e1] at HA
    have hk0 : (0 : Int) ≤ (k : Int) := by omega
    have hk1 : (k : Int) < (N : Int) := by omega
    by_cases hh : hasQ n q a c i
    · obtain ⟨_, h0, h1⟩ := has_iff.1 hh
      obtain ⟨m, rfl⟩ : ∃ m : Nat, i = m := ⟨i.toNat, by omega⟩
      have hm : m < (q a c).length := by simpa using h1
      have hdb : doublesQ n q a c m ↔ roomQ n q a c := ⟨fun e => ⟨hl, e.2⟩, fun e => ⟨hh, e.2⟩⟩
      have hmsg : msgQ q a c m = (q a c)[m] := by unfold msgQ; simp [hm]
      simp only [hdb, hmsg]
      have HS := hide (ysend_any h a c (q a c)[m])
      have ho := h.row k (by rw [e2]; exact g1)
      rw [hrow, ← e1, qk_link hl2] at ho
      obtain ⟨g, cap, hform, hgb, hgl⟩ := ho.form (by omega)
      obtain ⟨rfl, rfl⟩ : ao = some ⟨g, 0, none⟩ ∧ cp = cap := by cases hform; exact ⟨rfl, rfl⟩
      have r0 : w.cell? ⟨g, m, none⟩ = some (.string (q a c)[m]) := by
        have h1 := ho.cells rfl m (.string (q a c)[m]) (by rw [List.getElem?_map, List.getElem?_eq_getElem hm]; rfl)
        rw [Addr.add_lit] at h1
        simpa using h1
      generalize (q a c)[m] = mm at *
      generalize hb1 : decide (roomQ n q a c) = B at *
      generalize (if roomQ n q a c then moreQ q a c mm else q) = Q at *
      have hs0 : (0 : Int) ≤ (m : Int) := by omega
      have hs1 : (m : Int) < ((q a c).length : Int) := by omega
      have hs2 : ¬ ((m : Int) < 0) := by omega
      have hs3 : ¬ (((q a c).length : Int) ≤ (m : Int)) := by omega
      have hs4 : ¬ ((q a c).length ≤ m) := by omega
      generalize q a c = M at *
      clear h hl hl2 hh e1 e2 hk hrow ho hform hdb hmsg hb1 h0 h1 hm
      go_enter Try.func16, Try.ntmps16
      go_wp2_with fail
      refine HA.out.mono ?_
      rintro e w' ⟨rfl, h5⟩
      obtain rfl := h5.symm
      clear h5 HA
      go_wp2_with fail
      refine HS.out.mono ?_
      rintro e w2 ⟨rfl, hY⟩
      have HY := hide hY
      clear hY HS
      go_wp2
      go_ret
      exact ⟨rfl, HY.out⟩
    · have hd : ¬ doublesQ n q a c i := fun e => hh e.1
      rw [decide_eq_false hd, if_neg hd]
      have hh2 : ¬ (0 ≤ i ∧ i < ((q a c).length : Int)) := fun e => hh (has_iff.2 ⟨hl, by simpa using e⟩)
      have HH := hide h
      generalize q a c = M at *
      clear h hl hl2 hh e1 e2 hk hd hrow
      by_cases hi : i < 0
      · skip
        go_enter Try.func16, Try.ntmps16
        go_wp2_with fail
        refine HA.out.mono ?_
        rintro e w' ⟨rfl, h5⟩
        obtain rfl := h5.symm
        clear h5 HA
        go_wp2
        go_ret
        exact ⟨rfl, Y, HH.out, YStep.refl w 0⟩
      · have hi2 : (M.length : Int) ≤ i := by omega
        go_enter Try.func16, Try.ntmps16
        go_wp2_with fail
        refine HA.out.mono ?_
        rintro e w' ⟨rfl, h5⟩
        obtain rfl := h5.symm
        clear h5 HA
        go_wp2
        go_ret
        exact ⟨rfl, Y, HH.out, YStep.refl w 0⟩
  · have HA := hide (yat_none h x y hl)
    have hd : ¬ doublesQ n q x y i := fun e => hl (has_iff.1 e.1).1
    rw [decide_eq_false hd, if_neg hd]
    have HH := hide h
    clear h hl hd
    go_enter Try.func16, Try.ntmps16
    go_wp2_with fail
    refine HA.out.mono ?_
    rintro e w' ⟨rfl, h5⟩
    obtain rfl := h5.symm
    clear h5 HA
    go_wp2
    go_ret
    exact ⟨rfl, Y, HH.out, YStep.refl w 0⟩
end
end Go.Proofs.Ytjmfimllaejpnaa
