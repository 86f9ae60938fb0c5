/-
  carillonref04's kept, New, as they run.
-/
import Derived.Test.YtknldpaaikcedaaGreatZZ10
namespace Go.Proofs.YtknldpaaikcedaaGreat
open Go.RowKit

def zkept : List ZU → Int → List ZU
  | [], _ => []
  | u :: l, n => if n ≤ 0 then [] else if u.n < 0 then ⟨u.s.extract 0 (min n (u.s.size : Int)).toNat, u.n⟩ :: zkept l (n - min n (u.s.size : Int)) else u :: zkept l (n - 1)
theorem zkept_none (l : List ZU) (n : Int) (h : n ≤ 0) : zkept l n = [] := by
  cases l with
  | nil => rfl
  | cons u l => rw [zkept, if_pos h]
theorem zkept_at (l : List ZU) (n : Int) (i : Nat) (hi : i < l.length) (h : ¬ n ≤ 0) : zkept (l.drop i) n = if l[i].n < 0 then ⟨l[i].s.extract 0 (min n (l[i].s.size : Int)).toNat, l[i].n⟩ :: zkept (l.drop (i + 1)) (n - min n (l[i].s.size : Int)) else l[i] :: zkept (l.drop (i + 1)) (n - 1) := by
  rw [List.drop_eq_getElem_cons hi, zkept, if_neg h]
theorem zkept_len (l : List ZU) (n : Int) : (zkept l n).length ≤ l.length := by
  induction l generalizing n with
  | nil => exact Nat.le_refl _
  | cons u l ih =>
    rw [zkept]
    split
    · exact Nat.zero_le _
    · split
      · exact Nat.succ_le_succ (ih _)
      · exact Nat.succ_le_succ (ih _)
set_option maxHeartbeats 4000000 in
set_option maxRecDepth 100000 in
theorem zkept_any (ao : Option Addr) (c : Nat) (l : List ZU) (n : Int) (w : World) (B : Nat) (hl : l.length ≤ 1000000) (hn : -9223372036854775808 ≤ n ∧ n ≤ 9223372036854775807) (hu : ∀ u ∈ l, u.s.size ≤ 9223372036854775807 ∧ -9223372036854775808 ≤ u.n ∧ u.n ≤ 9223372036854775807) (h : w.ownsRow B 112 2 (.slice ao l.length c) l.length (unCells l)) :
    Calls Tryz.prog 32 #[.slice ao l.length c, .int .i64 n] w fun e w' => ∃ ro rc, e = .returned (.slice ro (zkept l n).length rc) ∧ w'.ownsRow w.heap.size 112 2 (.slice ro (zkept l n).length rc) (zkept l n).length (unCells (zkept l n)) ∧ Below w.heap.size w w' := by
  have HA := hide h
  have HU := hide hu
  have HI0 : Hid (([] : List ZU) ++ zkept (l.drop 0) n = zkept l n) := rfl
  generalize zkept l n = K at *
  obtain ⟨i0, hi0', hz0, hz1, hz2⟩ := zinfo_parts zinfoUn
  clear h hu
  go_enter Tryz.func32, Tryz.ntmps32
  go_wp2
  go_loopw [1, 5, 6] (fun nv ov iv wv => ∃ (m : Int) (i : Nat) (out : List ZU) (oo : Option Addr) (oc : Nat), i ≤ l.length ∧ out.length ≤ i ∧ nv = .int .i64 m ∧ -9223372036854775808 ≤ m ∧ m ≤ 9223372036854775807 ∧ iv = .int .i64 i ∧ ov = .slice oo out.length oc ∧ Hid (out ++ zkept (l.drop i) m = K) ∧ Hid (wv.ownsRow w.heap.size 112 2 (.slice oo out.length oc) out.length (unCells out)) ∧ Hid (Below w.heap.size w wv)) (fun _ _ iv _ => l.length - (intOf iv).toNat)
  case atStart => exact ⟨n, 0, [], none, 0, Nat.zero_le _, Nat.zero_le _, rfl, hn.1, hn.2, rfl, rfl, HI0.out, World.ownsRow_nil _ _ _ _, Below.refl _ _⟩
  case round =>
    obtain ⟨m, i, out, oo, oc, hi, hol, rfl, hm1, hm2, rfl, rfl, HI, OV, BV⟩ := hrel
    by_cases hlt : i < l.length
    · have hi0 : (0 : Int) ≤ (i : Int) := by omega
      have hi1 : (i : Int) < (l.length : Int) := by omega
      by_cases hm : 0 < m
      · obtain ⟨g, rfl, hg, a0, a1⟩ := un_at (zown_below HA.out BV.out) i hlt
        have hk := zkept_at l m i hlt (by omega)
        have hb := HU.out l[i] (List.getElem_mem hlt)
        generalize l[i] = x at *
        obtain ⟨xs, xn⟩ := x
        simp only at a0 a1 hk hb
        by_cases hx : xn < 0
        · rw [if_pos hx] at hk
          by_cases hms : m ≤ (xs.size : Int)
          · have e1 : min m (xs.size : Int) = m := by omega
            rw [e1] at hk
            have H1 := hide (hk ▸ HI.out)
            have hmt : ((m.toNat : Nat) : Int) = m := by omega
            have hsz : (xs.extract 0 m.toNat).size = m.toNat := by rw [ByteArray.size_extract]; omega
            clear hk e1
            go_wp2_with (at_builtin; refine wpList_append_own _ rfl _ _ 73 rfl w.heap.size 112 i0 _ 2 24 Tryz.underlying73 hi0' hz0 hz1 hz2 rfl (by decide) (.slice oo out.length oc) out.length (unCells out) rfl ((OV.out.alloc _).alloc _) ⟨wr.heap.size + 1, 0, none⟩ 1 1 [.string (xs.extract 0 m.toNat), .int .i64 xn] rfl rfl (World.news_of_block (cs := #[.string (xs.extract 0 m.toNat), .int .i64 xn]) (t := 112) (fr := (0, 0)) (by have := heap_alloc_new (wr.alloc (.cells #[.string (xs.extract 0 m.toNat), .int .i64 xn] 112)) (.cells #[.string (xs.extract 0 m.toNat), .int .i64 xn] 112); simpa using this)) (un_ones _ _) (by unfold maxLen; omega) (by omega) (by have := BV.out.size; simp; omega) ?_; intro v4 w4 hown hgrow _; obtain ⟨oo4, oc4, rfl⟩ := row_slice hown)
            have hl4 : (out ++ [(⟨(xs.extract 0 m.toNat), xn⟩ : ZU)]).length = out.length + 1 := by simp
            have O4 : Hid (w4.ownsRow w.heap.size 112 2 (.slice oo4 (out.length + 1) oc4) (out.length + 1) (unCells (out ++ [(⟨(xs.extract 0 m.toNat), xn⟩ : ZU)]))) := by
              rw [unCells_snoc]
              exact hown
            have B4 := hide (((BV.out.alloc BV.out.size _).alloc (by have := BV.out.size; simp; omega) _).grown hgrow (by have := BV.out.size; simp; omega) (fun j hj => (OV.out.lt j hj).1))
            have HL4 := hide hl4
            clear hown hgrow hl4
            refine ⟨⟨(m - m), i + 1, out ++ [(⟨(xs.extract 0 m.toNat), xn⟩ : ZU)], oo4, oc4, by omega, by rw [HL4.out]; omega, by go_num, by omega, by omega, by go_num, by rw [HL4.out], by rw [List.append_assoc]; exact H1.out, by rw [HL4.out]; exact O4.out, B4.out⟩, by simp [intOf]; omega⟩
          · have e1 : min m (xs.size : Int) = (xs.size : Int) := by omega
            have e2 : xs.extract 0 (xs.size : Int).toNat = xs := by simp
            rw [e1, e2] at hk
            have H1 := hide (hk ▸ HI.out)
            have hms2 : (xs.size : Int) ≤ m := by omega
            have hms3 : (xs.size : Int) < m := by omega
            clear hk e1 e2
            go_wp2_with (at_builtin; refine wpList_append_own _ rfl _ _ 73 rfl w.heap.size 112 i0 _ 2 24 Tryz.underlying73 hi0' hz0 hz1 hz2 rfl (by decide) (.slice oo out.length oc) out.length (unCells out) rfl ((OV.out.alloc _).alloc _) ⟨wr.heap.size + 1, 0, none⟩ 1 1 [.string xs, .int .i64 xn] rfl rfl (World.news_of_block (cs := #[.string xs, .int .i64 xn]) (t := 112) (fr := (0, 0)) (by have := heap_alloc_new (wr.alloc (.cells #[.string xs, .int .i64 xn] 112)) (.cells #[.string xs, .int .i64 xn] 112); simpa using this)) (un_ones _ _) (by unfold maxLen; omega) (by omega) (by have := BV.out.size; simp; omega) ?_; intro v4 w4 hown hgrow _; obtain ⟨oo4, oc4, rfl⟩ := row_slice hown)
            have hl4 : (out ++ [(⟨xs, xn⟩ : ZU)]).length = out.length + 1 := by simp
            have O4 : Hid (w4.ownsRow w.heap.size 112 2 (.slice oo4 (out.length + 1) oc4) (out.length + 1) (unCells (out ++ [(⟨xs, xn⟩ : ZU)]))) := by
              rw [unCells_snoc]
              exact hown
            have B4 := hide (((BV.out.alloc BV.out.size _).alloc (by have := BV.out.size; simp; omega) _).grown hgrow (by have := BV.out.size; simp; omega) (fun j hj => (OV.out.lt j hj).1))
            have HL4 := hide hl4
            clear hown hgrow hl4
            refine ⟨⟨(m - (xs.size : Int)), i + 1, out ++ [(⟨xs, xn⟩ : ZU)], oo4, oc4, by omega, by rw [HL4.out]; omega, by go_num, by omega, by omega, by go_num, by rw [HL4.out], by rw [List.append_assoc]; exact H1.out, by rw [HL4.out]; exact O4.out, B4.out⟩, by simp [intOf]; omega⟩
        · rw [if_neg hx] at hk
          have H1 := hide (hk ▸ HI.out)
          clear hk
          go_wp2_with (at_builtin; refine wpList_append_own _ rfl _ _ 73 rfl w.heap.size 112 i0 _ 2 24 Tryz.underlying73 hi0' hz0 hz1 hz2 rfl (by decide) (.slice oo out.length oc) out.length (unCells out) rfl ((OV.out.alloc _).alloc _) ⟨wr.heap.size + 1, 0, none⟩ 1 1 [.string xs, .int .i64 xn] rfl rfl (World.news_of_block (cs := #[.string xs, .int .i64 xn]) (t := 112) (fr := (0, 0)) (by have := heap_alloc_new (wr.alloc (.cells #[.string xs, .int .i64 xn] 112)) (.cells #[.string xs, .int .i64 xn] 112); simpa using this)) (un_ones _ _) (by unfold maxLen; omega) (by omega) (by have := BV.out.size; simp; omega) ?_; intro v4 w4 hown hgrow _; obtain ⟨oo4, oc4, rfl⟩ := row_slice hown)
          have hl4 : (out ++ [(⟨xs, xn⟩ : ZU)]).length = out.length + 1 := by simp
          have O4 : Hid (w4.ownsRow w.heap.size 112 2 (.slice oo4 (out.length + 1) oc4) (out.length + 1) (unCells (out ++ [(⟨xs, xn⟩ : ZU)]))) := by
            rw [unCells_snoc]
            exact hown
          have B4 := hide (((BV.out.alloc BV.out.size _).alloc (by have := BV.out.size; simp; omega) _).grown hgrow (by have := BV.out.size; simp; omega) (fun j hj => (OV.out.lt j hj).1))
          have HL4 := hide hl4
          clear hown hgrow hl4
          refine ⟨⟨(m - 1), i + 1, out ++ [(⟨xs, xn⟩ : ZU)], oo4, oc4, by omega, by rw [HL4.out]; omega, by go_num, by omega, by omega, by go_num, by rw [HL4.out], by rw [List.append_assoc]; exact H1.out, by rw [HL4.out]; exact O4.out, B4.out⟩, by simp [intOf]; omega⟩
      · have h1 := HI.out
        rw [zkept_none _ _ (by omega), List.append_nil] at h1
        subst h1
        clear HI HI0
        go_wp2
        go_ret
        exact ⟨oo, oc, rfl, OV.out, BV.out⟩
    · have hi1 : ¬ (i : Int) < (l.length : Int) := by omega
      have h1 := HI.out
      rw [List.drop_eq_nil_of_le (by omega)] at h1
      simp only [zkept, List.append_nil] at h1
      subst h1
      clear HI HI0
      go_wp2
      go_ret
      exact ⟨oo, oc, rfl, OV.out, BV.out⟩
section
variable {w w' w2 : World} {b : Nat} {S : RD} {X X' X2 : XG} {n n' n2 : Nat}
def RD.fresh (room : Int) : RD := ⟨room, -1, false, [], [], [], []⟩
def xfresh : XG := ⟨.slice none 0 0, .slice none 0 0, .slice none 0 0, .slice none 0 0, fun _ => .slice none 0 0⟩
theorem znew_no (room : Int) (w : World) (h : room < 0 ∨ 1000000000 < room) : Calls Tryz.prog 6 #[.int .i64 room] w fun e w' => e = .returned (.pointer none) ∧ w' = w := by
  by_cases h1 : room < 0
  · go_enter Tryz.func6, Tryz.ntmps6
    go_wp2
    go_ret
    exact ⟨rfl, rfl⟩
  · have h2 : 1000000000 < room := by omega
    clear h
    go_enter Tryz.func6, Tryz.ntmps6
    go_wp2
    go_ret
    exact ⟨rfl, rfl⟩
theorem znew_yes (room : Int) (w : World) (h1 : 0 ≤ room) (h2 : room ≤ 1000000000) : Calls Tryz.prog 6 #[.int .i64 room] w fun e w' => e = .returned (.pointer (some ⟨w.heap.size, 0, none⟩)) ∧ XR w' w.heap.size (RD.fresh room) xfresh ∧ Below w.heap.size w w' := by
  have g1 : ¬ room < 0 := by omega
  have g2 : ¬ 1000000000 < room := by omega
  go_enter Tryz.func6, Tryz.ntmps6
  go_wp2
  go_ret
  refine ⟨rfl, ⟨⟨⟨h1, h2⟩, ⟨by show (-9223372036854775808 : Int) ≤ -1; decide, by show (-1 : Int) ≤ 9223372036854775807; decide⟩, fun f hf => (by cases hf), Nat.zero_le _, Nat.zero_le _, Nat.zero_le _, Nat.zero_le _, fun p hp => (by cases hp), fun p hp => (by cases hp)⟩, heap_alloc_new w _, World.ownsRow_nil _ _ _ _, fun i hi => (by cases hi), World.ownsRow_nil _ _ _ _, World.ownsRow_nil _ _ _ _, World.ownsRow_nil _ _ _ _, fun i j hi => (by cases hi)⟩, (Below.refl _ _).alloc (Nat.le_refl _) _⟩
end
end Go.Proofs.YtknldpaaikcedaaGreat
