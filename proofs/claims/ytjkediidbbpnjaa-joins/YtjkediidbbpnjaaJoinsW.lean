/-
  GaussJoins as it runs.
-/
import Derived.Test.YtjkediidbbpnjaaPut
namespace Go.Proofs.Ytjkediidbbpnjaa
open Go.RowKit Go.Sort

/-- A slice of texts. -/
def StrsAt (w : World) (ao : Option Addr) (l : List (List UInt8)) : Prop :=
  ∀ (i : Nat) (h : i < l.length), ∃ b off, ao = some ⟨b, off, none⟩ ∧ b < w.heap.size ∧ w.cell? ⟨b, off + i, none⟩ = some (.string ⟨l[i].toArray⟩)
theorem StrsAt.below {w w' : World} {ao : Option Addr} {l : List (List UInt8)} (h : StrsAt w ao l) (hb : Below w.heap.size w w') : StrsAt w' ao l := by
  intro i hi
  obtain ⟨b, off, h1, h2, h3⟩ := h i hi
  exact ⟨b, off, h1, by have := hb.size; omega, (hb.cell (p := ⟨b, off + i, none⟩) h2).trans h3⟩

theorem StrsAt.cell {w : World} {b off : Nat} {l : List (List UInt8)} (h : StrsAt w (some ⟨b, off, none⟩) l) (i : Nat) (hi : i < l.length) : w.cell? ⟨b, off + i, none⟩ = some (.string ⟨l[i].toArray⟩) := by
  obtain ⟨b', off', h1, _, h3⟩ := h i hi
  cases h1
  exact h3

/-- The digest of texts, one behind the other. -/
def dig (d : Pr) (l : List (List UInt8)) : Pr := l.foldl onP d
def stepsOf (l : List (List UInt8)) : Nat := (l.map fun s => 1 + s.length).sum
theorem dig_right (d : Pr) (l : List (List UInt8)) (hd : d.right) : (dig d l).right := by
  induction l generalizing d with
  | nil => exact hd
  | cons s l ih => exact ih _ (runP_right _ _ hd)
theorem dig_run (d : Pr) (l : List (List UInt8)) : dig d l = runP d (l.flatMap textV) := by
  induction l generalizing d with
  | nil => rfl
  | cons s l ih =>
    show dig (onP d s) l = _
    rw [ih, List.flatMap_cons, runP_append]
    rfl
theorem steps_run (l : List (List UInt8)) : (l.flatMap textV).length = stepsOf l := by
  unfold stepsOf
  induction l with
  | nil => rfl
  | cons s l ih => simp [textV, ih]; omega
theorem dig_join (d : Pr) (l : List (List UInt8)) (hd : d.right) : dig d l = joinP d (dig Pr.one l) (stepsOf l) := by
  rw [dig_run, run_join _ _ hd, steps_run, dig_run]
theorem take_one {α : Type} (l : List α) (k : Nat) (h : k < l.length) : l.take (k + 1) = l.take k ++ [l[k]] := by
  rw [List.take_add_one, List.getElem?_eq_getElem h]
  rfl
theorem dig_snoc (d : Pr) (l : List (List UInt8)) (k : Nat) (h : k < l.length) : dig d (l.take (k + 1)) = onP (dig d (l.take k)) l[k] := by
  rw [take_one l k h]
  unfold dig
  rw [List.foldl_append]
  rfl
theorem steps_snoc (l : List (List UInt8)) (k : Nat) (h : k < l.length) : stepsOf (l.take (k + 1)) = stepsOf (l.take k) + 1 + l[k].length := by
  rw [take_one l k h]
  unfold stepsOf
  rw [List.map_append, List.sum_append]
  simp only [List.map_cons, List.map_nil, List.sum_cons, List.sum_nil]
  omega
theorem steps_le (l : List (List UInt8)) (k : Nat) (hk : k ≤ 20) (h : ∀ x ∈ l, x.length ≤ 281474976710656) : stepsOf (l.take k) ≤ 20 * 281474976710657 := by
  have key : ∀ m : List (List UInt8), (∀ x ∈ m, x.length ≤ 281474976710656) → stepsOf m ≤ m.length * 281474976710657 := by
    intro m
    induction m with
    | nil => intro _; exact Nat.le_refl _
    | cons s m ih =>
      intro hm
      have h1 := ih fun x hx => hm x (by simp [hx])
      have h2 := hm s (by simp)
      unfold stepsOf at *
      simp only [List.map_cons, List.sum_cons, List.length_cons]
      omega
  have h1 := key (l.take k) fun x hx => h x (List.mem_of_mem_take hx)
  have h2 : (l.take k).length ≤ 20 := by rw [List.length_take]; omega
  exact Nat.le_trans h1 (Nat.mul_le_mul_right _ h2)

set_option maxHeartbeats 1000000 in
theorem joins_walk (ao bo : Option Addr) (cap dap : Nat) (l m : List (List UInt8)) (w : World) (ha : StrsAt w ao l) (hb : StrsAt w bo m) (_hl : l.length ≤ 8796093021952) (_hm : m.length ≤ 8796093021952) (hx : ∀ x ∈ l, x.length ≤ 281474976710656) (hy : ∀ x ∈ m, x.length ≤ 281474976710656) :
    Calls Try.prog 8 #[.slice ao l.length cap, .slice bo m.length dap] w fun e w' => e = .returned (.bool true) ∧ Below w.heap.size w w' := by
  have HA := hide ha
  have HC := hide hb
  have HX := hide hx
  have HY := hide hy
  have HE := hide examples_any
  have HB := hide Begin_any
  clear ha hb hx hy
  go_enter Try.func8, Try.ntmps8
  go_wp2_with fail
  refine (HE.out _).mono ?_
  rintro e w1 ⟨rfl, bb⟩
  have B := hide bb
  clear bb
  go_wp2_with fail
  refine (HB.out _).mono ?_
  rintro e w2 ⟨rfl, bb⟩
  replace B := hide (bthen B.out bb)
  clear bb
  have nD := B.out.size
  go_wp2
  have D : Hid (Held (w2.alloc (.cells #[.int .i64 1, .int .i64 0] 23)) w2.heap.size 1 0) := Held.at _ _ _ _ rfl
  replace B := hide (below_new B.out (.cells #[.int .i64 1, .int .i64 0] 23))
  generalize w2.alloc (.cells #[.int .i64 1, .int .i64 0] 23) = W3 at *
  generalize w2.heap.size = db at *
  go_loopw [7] (fun iv wv => ∃ (i : Nat), i ≤ l.length ∧ i ≤ 20 ∧ iv = .int .i64 i ∧ Hid (Held wv db (dig Pr.one (l.take i)).re (dig Pr.one (l.take i)).im) ∧ Hid (Below w.heap.size w wv)) (fun i _ => 20 - (intOf i).toNat)
  case atStart => exact ⟨0, Nat.zero_le _, by omega, rfl, D, B⟩
  case round =>
    clear D B
    obtain ⟨i, hi1, hi2, rfl, D, B⟩ := hrel
    by_cases hlt : i < l.length ∧ i < 20
    · obtain ⟨h1, h2⟩ := hlt
      obtain ⟨b, off, rfl, hbl, c0⟩ := (HA.out.below B.out) i h1
      have hsz : (⟨l[i].toArray⟩ : ByteArray).size ≤ 9223372036854775807 := by
        have := HX.out l[i] (List.getElem_mem h1)
        show l[i].toArray.size ≤ _
        rw [List.size_toArray]
        omega
      have HO := hide (On_right (dig Pr.one (l.take i)) ⟨l[i].toArray⟩ (dig_right _ _ one_right) hsz)
      have HS := hide (dig_snoc Pr.one l i h1)
      have d0 := D.out.c0
      have d1 := D.out.c1
      clear hsz
      have HSt : Hid (onP (dig Pr.one (l.take i)) l[i] = dig Pr.one (l.take (i + 1))) := HS.out.symm
      have HO2 : Hid (∀ w, Calls Try.prog 23 #[.agg #[.int .i64 (dig Pr.one (l.take i)).re, .int .i64 (dig Pr.one (l.take i)).im], .string ⟨l[i].toArray⟩] w fun e w' => e = .returned (.tuple #[.agg #[.int .i64 (dig Pr.one (l.take (i + 1))).re, .int .i64 (dig Pr.one (l.take (i + 1))).im], .int .i64 0]) ∧ Below w.heap.size w w') := by
        rw [← HSt.out]
        exact HO.out
      clear HO HS HSt
      obtain ⟨u, hu⟩ : ∃ u, dig Pr.one (l.take (i + 1)) = u := ⟨_, rfl⟩
      have HG := hide hu.symm
      rw [hu] at HO2
      clear hu
      generalize dig Pr.one (l.take i) = v at *
      generalize (⟨l[i].toArray⟩ : ByteArray) = x at *
      go_wp2
      go_region_with (go_at_call 23; refine (HO2.out _).mono ?_; rintro e w4 ⟨rfl, bb⟩; replace D := hide (D.out.past bb); replace B := hide (bpast B.out bb); clear bb; replace d0 := D.out.c0; replace d1 := D.out.c1; have df0 := D.out.f0; have df1 := D.out.f1)
      all_goals go_wp2
      all_goals go_roundw
      all_goals first | exact ⟨i + 1, by omega, by omega, by go_num, hide (by rw [← HG.out]; exact D.out.put _ _), hide (below_box B.out _ nD _ _)⟩ | (simp [intOf]; omega)
    · have hb : (decide (i < l.length) && decide (i < 20)) = false := by simp; omega
      have HL : Hid (l.take i = l.take 20) := by
        by_cases h20 : i = 20
        · rw [h20]; exact hide rfl
        · have : i = l.length := by omega
          rw [this, List.take_length, List.take_of_length_le (by omega)]; exact hide rfl
      have HR := hide (dig_right Pr.one (l.take i) one_right)
      have HDL : Hid (dig Pr.one (l.take i) = dig Pr.one (l.take 20)) := by rw [HL.out]; exact hide rfl
      clear HL HDL HA HX
      generalize dig Pr.one (l.take i) = q at *
      have d0 := D.out.c0
      have d1 := D.out.c1
      by_cases hi3 : i < l.length
      · have hi4 : ¬ i < 20 := by omega
        have nAL := B.out.size
        have neD := D.out.ne
        go_wp2_with fail
        refine (HB.out _).mono ?_
        rintro e w5 ⟨rfl, bb⟩
        have AL : Hid (Held w5 wr.heap.size q.re q.im) := (Held.at _ _ _ _ rfl).below bb
        replace D := hide ((D.out.alloc _).past bb)
        replace B := hide (bpast (below_new B.out _) bb)
        clear bb d0 d1
        generalize wr.heap.size = ab at *
        have nE := B.out.size
        have neE := D.out.ne
        have neA := AL.out.ne
        go_wp2
        have E : Hid (Held (w5.alloc (.cells #[.int .i64 1, .int .i64 0] 23)) w5.heap.size 1 0) := Held.at _ _ _ _ rfl
        replace D := hide (D.out.alloc (.cells #[.int .i64 1, .int .i64 0] 23))
        replace AL := hide (AL.out.alloc (.cells #[.int .i64 1, .int .i64 0] 23))
        replace B := hide (below_new B.out (.cells #[.int .i64 1, .int .i64 0] 23))
        generalize w5.alloc (.cells #[.int .i64 1, .int .i64 0] 23) = W6 at *
        generalize w5.heap.size = eb at *
        have m1 := neD.symm
        have m2 := neE.symm
        have m3 := neA.symm
        go_loopw [10, 11] (fun sv iv wv => ∃ (i : Nat), i ≤ m.length ∧ i ≤ 20 ∧ sv = .int .i64 (stepsOf (m.take i)) ∧ iv = .int .i64 i ∧ Hid (Held wv db q.re q.im) ∧ Hid (Held wv ab (dig q (m.take i)).re (dig q (m.take i)).im) ∧ Hid (Held wv eb (dig Pr.one (m.take i)).re (dig Pr.one (m.take i)).im) ∧ Hid (Below w.heap.size w wv)) (fun _ i _ => 20 - (intOf i).toNat)
        case atStart => exact ⟨0, Nat.zero_le _, by omega, rfl, rfl, D, AL, E, B⟩
        case round =>
          clear D AL E B
          obtain ⟨k, hk1, hk2, rfl, rfl, D, AL, E, B⟩ := hrel
          by_cases hlt2 : k < m.length ∧ k < 20
          · obtain ⟨h1, h2⟩ := hlt2
            obtain ⟨b, off, rfl, hbl, c0⟩ := (HC.out.below B.out) k h1
            have hlen := HY.out m[k] (List.getElem_mem h1)
            have hsz : (⟨m[k].toArray⟩ : ByteArray).size = m[k].length := by
              show m[k].toArray.size = _
              exact List.size_toArray
            have P1 := On_right (dig q (m.take k)) ⟨m[k].toArray⟩ (dig_right _ _ HR.out) (by omega)
            have P2 := On_right (dig Pr.one (m.take k)) ⟨m[k].toArray⟩ (dig_right _ _ one_right) (by omega)
            rw [show (⟨m[k].toArray⟩ : ByteArray).data.toList = m[k] from List.toList_toArray, ← dig_snoc _ m k h1] at P1 P2
            have hst := steps_snoc m k h1
            have hsb := steps_le m k hk2 HY.out
            have HO1 := hide P1
            have HO2 := hide P2
            clear P1 P2
            obtain ⟨x, hx⟩ : ∃ x : ByteArray, (⟨m[k].toArray⟩ : ByteArray) = x := ⟨_, rfl⟩
            have HXk := hide hx
            obtain ⟨u1, hu1⟩ : ∃ u, dig q (m.take (k + 1)) = u := ⟨_, rfl⟩
            obtain ⟨u2, hu2⟩ : ∃ u, dig Pr.one (m.take (k + 1)) = u := ⟨_, rfl⟩
            have HU1 := hide hu1
            have HU2 := hide hu2
            obtain ⟨st, hs⟩ : ∃ st, stepsOf (m.take k) = st := ⟨_, rfl⟩
            rw [hx] at c0 HO1 HO2 hsz
            rw [hu1] at HO1
            rw [hu2] at HO2
            rw [hs] at hst hsb ⊢
            have hx2 : x.size ≤ 281474976710656 := by omega
            have HST : Hid (stepsOf (m.take (k + 1)) = st + 1 + x.size) := by rw [hst, hsz]; exact hide rfl
            clear hx hu1 hu2 hs hst hsz hlen
            generalize dig q (m.take k) = v1 at *
            generalize dig Pr.one (m.take k) = v2 at *
            have a0 := AL.out.c0
            have a1 := AL.out.c1
            go_wp2
            go_region_with (go_at_call 23; refine (HO1.out _).mono ?_; rintro e w7 ⟨rfl, bb⟩; replace D := hide (D.out.past bb); replace AL := hide (AL.out.past bb); replace E := hide (E.out.past bb); replace B := hide (bpast B.out bb); clear bb; replace a0 := AL.out.c0; replace a1 := AL.out.c1; have af0 := AL.out.f0; have af1 := AL.out.f1)
            all_goals
              clear a0 a1 af0 af1
              go_wp2
              replace D := hide (D.out.apart ab neD (.int .i64 u1.re) (.int .i64 u1.im))
              replace E := hide (E.out.apart ab m3 (.int .i64 u1.re) (.int .i64 u1.im))
              replace AL := hide (AL.out.put u1.re u1.im)
              replace B := hide (below_box B.out ab nAL (.int .i64 u1.re) (.int .i64 u1.im))
              generalize (w7.setCell ⟨ab, 0, none⟩ (.int .i64 u1.re)).setCell ⟨ab, 1, none⟩ (.int .i64 u1.im) = W8 at *
              have c1 := (HC.out.below B.out).cell k h1
              rw [HXk.out] at c1
              have e0 := E.out.c0
              have e1 := E.out.c1
              go_region_with (go_at_call 23; refine (HO2.out _).mono ?_; rintro e w9 ⟨rfl, bb⟩; replace D := hide (D.out.past bb); replace AL := hide (AL.out.past bb); replace E := hide (E.out.past bb); replace B := hide (bpast B.out bb); clear bb; replace e0 := E.out.c0; replace e1 := E.out.c1; have ef0 := E.out.f0; have ef1 := E.out.f1)
            all_goals
              clear e0 e1 ef0 ef1 c1
              have c2 := (HC.out.below (below_box B.out eb nE (.int .i64 u2.re) (.int .i64 u2.im))).cell k h1
              rw [HXk.out] at c2
              go_wp2
              go_roundw
            all_goals first | exact ⟨k + 1, by omega, by omega, by rw [HST.out]; go_num, by go_num, hide (D.out.apart eb neE _ _), hide (by rw [HU1.out]; exact AL.out.apart eb neA _ _), hide (by rw [HU2.out]; exact E.out.put _ _), hide (below_box B.out eb nE _ _)⟩ | (simp [intOf]; omega)
          · have hsb := steps_le m k hk2 HY.out
            have hj := Join_right q (dig Pr.one (m.take k)) (stepsOf (m.take k)) HR.out (dig_right _ _ one_right) (by omega)
            rw [← dig_join q (m.take k) HR.out] at hj
            have HJ := hide hj
            have HRt := hide (Right_is (dig q (m.take k)).re (dig q (m.take k)).im true (Pr.right_b (dig_right _ _ HR.out)))
            clear hj hsb
            generalize dig q (m.take k) = v1 at *
            generalize dig Pr.one (m.take k) = v2 at *
            generalize stepsOf (m.take k) = st at *
            have d0 := D.out.c0
            have d1 := D.out.c1
            have e0 := E.out.c0
            have e1 := E.out.c1
            by_cases hk3 : k < m.length
            · have hk4 : ¬ k < 20 := by omega
              go_wp2_with fail
              refine (HJ.out _).mono ?_
              rintro e w7 ⟨rfl, bb⟩
              replace AL := hide (AL.out.past bb)
              replace B := hide (bpast B.out bb)
              clear bb d0 d1 e0 e1
              have a0 := fun o => (AL.out.alloc o).c0
              have a1 := fun o => (AL.out.alloc o).c1
              go_wp2_with fail
              refine (HRt.out _).mono ?_
              rintro e w8 ⟨rfl, bb⟩
              go_wp2
              go_ret
              exact ⟨rfl, bpast (below_new B.out _) bb⟩
            · clear hlt2
              go_wp2_with fail
              refine (HJ.out _).mono ?_
              rintro e w7 ⟨rfl, bb⟩
              replace AL := hide (AL.out.past bb)
              replace B := hide (bpast B.out bb)
              clear bb d0 d1 e0 e1
              have a0 := fun o => (AL.out.alloc o).c0
              have a1 := fun o => (AL.out.alloc o).c1
              go_wp2_with fail
              refine (HRt.out _).mono ?_
              rintro e w8 ⟨rfl, bb⟩
              go_wp2
              go_ret
              exact ⟨rfl, bpast (below_new B.out _) bb⟩
      · clear hlt
        have nAL := B.out.size
        have neD := D.out.ne
        go_wp2_with fail
        refine (HB.out _).mono ?_
        rintro e w5 ⟨rfl, bb⟩
        have AL : Hid (Held w5 wr.heap.size q.re q.im) := (Held.at _ _ _ _ rfl).below bb
        replace D := hide ((D.out.alloc _).past bb)
        replace B := hide (bpast (below_new B.out _) bb)
        clear bb d0 d1
        generalize wr.heap.size = ab at *
        have nE := B.out.size
        have neE := D.out.ne
        have neA := AL.out.ne
        go_wp2
        have E : Hid (Held (w5.alloc (.cells #[.int .i64 1, .int .i64 0] 23)) w5.heap.size 1 0) := Held.at _ _ _ _ rfl
        replace D := hide (D.out.alloc (.cells #[.int .i64 1, .int .i64 0] 23))
        replace AL := hide (AL.out.alloc (.cells #[.int .i64 1, .int .i64 0] 23))
        replace B := hide (below_new B.out (.cells #[.int .i64 1, .int .i64 0] 23))
        generalize w5.alloc (.cells #[.int .i64 1, .int .i64 0] 23) = W6 at *
        generalize w5.heap.size = eb at *
        have m1 := neD.symm
        have m2 := neE.symm
        have m3 := neA.symm
        go_loopw [10, 11] (fun sv iv wv => ∃ (i : Nat), i ≤ m.length ∧ i ≤ 20 ∧ sv = .int .i64 (stepsOf (m.take i)) ∧ iv = .int .i64 i ∧ Hid (Held wv db q.re q.im) ∧ Hid (Held wv ab (dig q (m.take i)).re (dig q (m.take i)).im) ∧ Hid (Held wv eb (dig Pr.one (m.take i)).re (dig Pr.one (m.take i)).im) ∧ Hid (Below w.heap.size w wv)) (fun _ i _ => 20 - (intOf i).toNat)
        case atStart => exact ⟨0, Nat.zero_le _, by omega, rfl, rfl, D, AL, E, B⟩
        case round =>
          clear D AL E B
          obtain ⟨k, hk1, hk2, rfl, rfl, D, AL, E, B⟩ := hrel
          by_cases hlt2 : k < m.length ∧ k < 20
          · obtain ⟨h1, h2⟩ := hlt2
            obtain ⟨b, off, rfl, hbl, c0⟩ := (HC.out.below B.out) k h1
            have hlen := HY.out m[k] (List.getElem_mem h1)
            have hsz : (⟨m[k].toArray⟩ : ByteArray).size = m[k].length := by
              show m[k].toArray.size = _
              exact List.size_toArray
            have P1 := On_right (dig q (m.take k)) ⟨m[k].toArray⟩ (dig_right _ _ HR.out) (by omega)
            have P2 := On_right (dig Pr.one (m.take k)) ⟨m[k].toArray⟩ (dig_right _ _ one_right) (by omega)
            rw [show (⟨m[k].toArray⟩ : ByteArray).data.toList = m[k] from List.toList_toArray, ← dig_snoc _ m k h1] at P1 P2
            have hst := steps_snoc m k h1
            have hsb := steps_le m k hk2 HY.out
            have HO1 := hide P1
            have HO2 := hide P2
            clear P1 P2
            obtain ⟨x, hx⟩ : ∃ x : ByteArray, (⟨m[k].toArray⟩ : ByteArray) = x := ⟨_, rfl⟩
            have HXk := hide hx
            obtain ⟨u1, hu1⟩ : ∃ u, dig q (m.take (k + 1)) = u := ⟨_, rfl⟩
            obtain ⟨u2, hu2⟩ : ∃ u, dig Pr.one (m.take (k + 1)) = u := ⟨_, rfl⟩
            have HU1 := hide hu1
            have HU2 := hide hu2
            obtain ⟨st, hs⟩ : ∃ st, stepsOf (m.take k) = st := ⟨_, rfl⟩
            rw [hx] at c0 HO1 HO2 hsz
            rw [hu1] at HO1
            rw [hu2] at HO2
            rw [hs] at hst hsb ⊢
            have hx2 : x.size ≤ 281474976710656 := by omega
            have HST : Hid (stepsOf (m.take (k + 1)) = st + 1 + x.size) := by rw [hst, hsz]; exact hide rfl
            clear hx hu1 hu2 hs hst hsz hlen
            generalize dig q (m.take k) = v1 at *
            generalize dig Pr.one (m.take k) = v2 at *
            have a0 := AL.out.c0
            have a1 := AL.out.c1
            go_wp2
            go_region_with (go_at_call 23; refine (HO1.out _).mono ?_; rintro e w7 ⟨rfl, bb⟩; replace D := hide (D.out.past bb); replace AL := hide (AL.out.past bb); replace E := hide (E.out.past bb); replace B := hide (bpast B.out bb); clear bb; replace a0 := AL.out.c0; replace a1 := AL.out.c1; have af0 := AL.out.f0; have af1 := AL.out.f1)
            all_goals
              clear a0 a1 af0 af1
              go_wp2
              replace D := hide (D.out.apart ab neD (.int .i64 u1.re) (.int .i64 u1.im))
              replace E := hide (E.out.apart ab m3 (.int .i64 u1.re) (.int .i64 u1.im))
              replace AL := hide (AL.out.put u1.re u1.im)
              replace B := hide (below_box B.out ab nAL (.int .i64 u1.re) (.int .i64 u1.im))
              generalize (w7.setCell ⟨ab, 0, none⟩ (.int .i64 u1.re)).setCell ⟨ab, 1, none⟩ (.int .i64 u1.im) = W8 at *
              have c1 := (HC.out.below B.out).cell k h1
              rw [HXk.out] at c1
              have e0 := E.out.c0
              have e1 := E.out.c1
              go_region_with (go_at_call 23; refine (HO2.out _).mono ?_; rintro e w9 ⟨rfl, bb⟩; replace D := hide (D.out.past bb); replace AL := hide (AL.out.past bb); replace E := hide (E.out.past bb); replace B := hide (bpast B.out bb); clear bb; replace e0 := E.out.c0; replace e1 := E.out.c1; have ef0 := E.out.f0; have ef1 := E.out.f1)
            all_goals
              clear e0 e1 ef0 ef1 c1
              have c2 := (HC.out.below (below_box B.out eb nE (.int .i64 u2.re) (.int .i64 u2.im))).cell k h1
              rw [HXk.out] at c2
              go_wp2
              go_roundw
            all_goals first | exact ⟨k + 1, by omega, by omega, by rw [HST.out]; go_num, by go_num, hide (D.out.apart eb neE _ _), hide (by rw [HU1.out]; exact AL.out.apart eb neA _ _), hide (by rw [HU2.out]; exact E.out.put _ _), hide (below_box B.out eb nE _ _)⟩ | (simp [intOf]; omega)
          · have hsb := steps_le m k hk2 HY.out
            have hj := Join_right q (dig Pr.one (m.take k)) (stepsOf (m.take k)) HR.out (dig_right _ _ one_right) (by omega)
            rw [← dig_join q (m.take k) HR.out] at hj
            have HJ := hide hj
            have HRt := hide (Right_is (dig q (m.take k)).re (dig q (m.take k)).im true (Pr.right_b (dig_right _ _ HR.out)))
            clear hj hsb
            generalize dig q (m.take k) = v1 at *
            generalize dig Pr.one (m.take k) = v2 at *
            generalize stepsOf (m.take k) = st at *
            have d0 := D.out.c0
            have d1 := D.out.c1
            have e0 := E.out.c0
            have e1 := E.out.c1
            by_cases hk3 : k < m.length
            · have hk4 : ¬ k < 20 := by omega
              go_wp2_with fail
              refine (HJ.out _).mono ?_
              rintro e w7 ⟨rfl, bb⟩
              replace AL := hide (AL.out.past bb)
              replace B := hide (bpast B.out bb)
              clear bb d0 d1 e0 e1
              have a0 := fun o => (AL.out.alloc o).c0
              have a1 := fun o => (AL.out.alloc o).c1
              go_wp2_with fail
              refine (HRt.out _).mono ?_
              rintro e w8 ⟨rfl, bb⟩
              go_wp2
              go_ret
              exact ⟨rfl, bpast (below_new B.out _) bb⟩
            · clear hlt2
              go_wp2_with fail
              refine (HJ.out _).mono ?_
              rintro e w7 ⟨rfl, bb⟩
              replace AL := hide (AL.out.past bb)
              replace B := hide (bpast B.out bb)
              clear bb d0 d1 e0 e1
              have a0 := fun o => (AL.out.alloc o).c0
              have a1 := fun o => (AL.out.alloc o).c1
              go_wp2_with fail
              refine (HRt.out _).mono ?_
              rintro e w8 ⟨rfl, bb⟩
              go_wp2
              go_ret
              exact ⟨rfl, bpast (below_new B.out _) bb⟩

end Go.Proofs.Ytjkediidbbpnjaa
