/-
  carillonref08's Keep, Gone, as they run.
-/
import Derived.Test.YtobphbncagapfaaC4
namespace Go.Proofs.Ytobphbncagapfaa
open Go.RowKit Go.Maps

theorem Try.infoRec : Try.prog.info? 30 = some Try.t30 := by kernel_rfl
theorem Try.zeroRec : Try.t30.zero = some (.agg #[.int .i64 0, .string ⟨#[]⟩, .int .i64 0, .string ⟨#[]⟩, .string ⟨#[]⟩]) := by kernel_rfl
theorem Try.sizeRec : Try.t30.size = 5 := by kernel_rfl
theorem Try.bytesRec : Try.t30.bytes = 64 := by kernel_rfl
theorem Try.infoI : Try.prog.info? 3 = some Try.t3 := by kernel_rfl
theorem Try.zeroI : Try.t3.zero = some (.int .i64 0) := by kernel_rfl
theorem Try.sizeI : Try.t3.size = 1 := by kernel_rfl
theorem Try.bytesI : Try.t3.bytes = 8 := by kernel_rfl
theorem rec_ones (a c : Int) (b d e : ByteArray) : ∀ u ∈ [Value.int .i64 a, .string b, .int .i64 c, .string d, .string e], u.oneCell' = true := by
  intro u hu
  simp at hu
  rcases hu with rfl | rfl | rfl | rfl | rfl <;> rfl
theorem int_ones (a : Int) : ∀ u ∈ [Value.int .i64 a], u.oneCell' = true := by
  intro u hu
  simp at hu
  subst hu
  rfl
theorem nil_own (w : World) (B : Nat) (e : TypeId) (z : Nat) : w.ownsRow B e z (.slice none 0 0) 0 [] := ⟨by simp, .inl ⟨rfl, rfl⟩⟩
theorem own_below {w w' : World} {B e z : Nat} {v : Value} {n : Nat} {xs : List Value} (h : w.ownsRow B e z v n xs) (hb : Below w.heap.size w w') : w'.ownsRow B e z v n xs := below_row hb h
def intCells (l : List Int) : List Value := l.map (Value.int .i64)
set_option maxHeartbeats 2000000 in
theorem rkeep_any (upto : Int) (l : List Rec) (hl : l.length ≤ 1048576) (v : Value) (w : World) (hat : RecsAt w v l) :
    Calls Try.prog 10 #[v, .int .i64 upto] w fun e w' => ∃ v', e = .returned v' ∧ w'.ownsRow w.heap.size 30 5 v' (keepF upto l).length (recCells (keepF upto l)) ∧ Below w.heap.size w w' := by
  obtain ⟨ao, ac, rfl, _, _⟩ := id hat
  have HA := hide hat
  generalize hK : keepF upto l = KL
  have HS : Hid (∀ (W : World) (k : Nat) (hk : k < l.length), RecsAt W (.slice ao l.length ac) l → Calls Try.prog 15 #[.slice ao l.length ac, .int .i64 k] W fun e w' => e = .returned (.bool (supF l[k] (l.drop (k + 1)))) ∧ Below W.heap.size W w') := fun W k hk h => superseded_any l k hk hl _ W h
  have HK0 := hide hK
  clear hat hK
  go_enter Try.func10, Try.ntmps10
  go_wp2
  go_loopw [5, 6] (fun ov iv wv => ∃ (k : Nat) (out : List Rec) (oo : Option Addr) (oc : Nat), k ≤ l.length ∧ out.length ≤ k ∧ iv = .int .i64 k ∧ ov = .slice oo out.length oc ∧ Hid (out ++ keepF upto (l.drop k) = KL) ∧ Hid (wv.ownsRow w.heap.size 30 5 (.slice oo out.length oc) out.length (recCells out)) ∧ Hid (Below w.heap.size w wv)) (fun _ iv _ => l.length - (intOf iv).toNat)
  case atStart => exact ⟨0, [], none, 0, Nat.zero_le _, Nat.zero_le _, rfl, rfl, HK0.out, nil_own _ _ _ _, Below.refl _ _⟩
  case round =>
    obtain ⟨k, out, oo, oc, hk, hok, rfl, rfl, HI, OV, BV⟩ := hrel
    by_cases hlt : k < l.length
    · have HS2 := hide (HS.out wr k hlt (HA.out.below BV.out))
      have hgo := @keepF_go upto l k hlt
      have hst := @keepF_stay upto l k hlt
      rw [goesF_sup] at hgo hst
      go_wp2_with fail
      refine HS2.out.mono ?_
      rintro e w2 ⟨rfl, b2⟩
      have B2 := hide (BV.out.trans (b2.mono BV.out.size))
      have O2 := hide (own_below OV.out b2)
      clear HS2 OV BV b2 
      obtain ⟨_, b, off, rfl, hb, a0, a1, a2, a3, a4⟩ := (HA.out.below B2.out).five k hlt
      have hi0 : (0 : Int) ≤ (k : Int) := by omega
      have hi1 : (k : Int) < (l.length : Int) := by omega
      generalize supF l[k] (l.drop (k + 1)) = s at *
      generalize l[k] = x at *
      obtain ⟨xo, xp, xs, xk, xv⟩ := x
      simp only at a0 a1 a2 a3 a4 hgo hst
      by_cases hs : s = true
      · subst hs
        by_cases hu : xo < upto
        · have h1 := hgo (by simpa using hu)
          have H1 := hide (h1 ▸ HI.out)
          clear hgo hst h1
          have hu' : ¬ upto ≤ xo := by omega
          go_wp2
          exact ⟨⟨k + 1, out, oo, oc, by omega, by omega, by go_num, rfl, H1.out, O2.out, B2.out⟩, by simp [intOf]; omega⟩
        · have h1 := hst (by simpa using hu)
          have hu' : upto ≤ xo := by omega
          have H1 := hide (h1 ▸ HI.out)
          clear hgo hst h1
          go_wp2_with (at_builtin; refine wpList_append_own _ rfl _ _ 22 rfl w.heap.size 30 Try.t30 _ 5 64 Try.underlying22 Try.infoRec Try.zeroRec Try.sizeRec Try.bytesRec rfl (by decide) (.slice oo out.length oc) out.length (recCells out) rfl (O2.out.alloc _) ⟨w2.heap.size, 0, none⟩ 1 1 [.int .i64 xo, .string xp, .int .i64 xs, .string xk, .string xv] rfl rfl (World.news_of_block (cs := #[.int .i64 xo, .string xp, .int .i64 xs, .string xk, .string xv]) (t := 30) (fr := (0, 0)) (heap_alloc_new w2 _)) (rec_ones _ _ _ _ _) (by unfold maxLen; omega) (by omega) (by have := B2.out.size; simp; omega) ?_; intro v4 w4 hown hgrow _)
          obtain ⟨oo4, oc4, rfl⟩ := row_slice hown
          have hl4 : out.length + 1 = (out ++ [(⟨xo, xp, xs, xk, xv⟩ : Rec)]).length := by simp
          have O4 : Hid (w4.ownsRow w.heap.size 30 5 (.slice oo4 (out ++ [(⟨xo, xp, xs, xk, xv⟩ : Rec)]).length oc4) (out ++ [(⟨xo, xp, xs, xk, xv⟩ : Rec)]).length (recCells (out ++ [(⟨xo, xp, xs, xk, xv⟩ : Rec)]))) := by
            rw [recCells_snoc, ← hl4]
            exact hown
          have B4 := hide ((B2.out.alloc B2.out.size _).grown hgrow (by have := B2.out.size; simp; omega) (fun j hj => (O2.out.lt j hj).1))
          clear hown hgrow hl4
          go_wp2
          exact ⟨⟨k + 1, out ++ [(⟨xo, xp, xs, xk, xv⟩ : Rec)], oo4, oc4, by omega, by simp; omega, by go_num, by simp, by rw [List.append_assoc]; exact H1.out, O4, B4⟩, by simp [intOf]; omega⟩
      · have hs2 : s = false := by simpa using hs
        subst hs2
        have h1 := hst (by simp)
        have H1 := hide (h1 ▸ HI.out)
        clear hgo hst h1
        go_wp2_with (at_builtin; refine wpList_append_own _ rfl _ _ 22 rfl w.heap.size 30 Try.t30 _ 5 64 Try.underlying22 Try.infoRec Try.zeroRec Try.sizeRec Try.bytesRec rfl (by decide) (.slice oo out.length oc) out.length (recCells out) rfl (O2.out.alloc _) ⟨w2.heap.size, 0, none⟩ 1 1 [.int .i64 xo, .string xp, .int .i64 xs, .string xk, .string xv] rfl rfl (World.news_of_block (cs := #[.int .i64 xo, .string xp, .int .i64 xs, .string xk, .string xv]) (t := 30) (fr := (0, 0)) (heap_alloc_new w2 _)) (rec_ones _ _ _ _ _) (by unfold maxLen; omega) (by omega) (by have := B2.out.size; simp; omega) ?_; intro v4 w4 hown hgrow _)
        obtain ⟨oo4, oc4, rfl⟩ := row_slice hown
        have hl4 : out.length + 1 = (out ++ [(⟨xo, xp, xs, xk, xv⟩ : Rec)]).length := by simp
        have O4 : Hid (w4.ownsRow w.heap.size 30 5 (.slice oo4 (out ++ [(⟨xo, xp, xs, xk, xv⟩ : Rec)]).length oc4) (out ++ [(⟨xo, xp, xs, xk, xv⟩ : Rec)]).length (recCells (out ++ [(⟨xo, xp, xs, xk, xv⟩ : Rec)]))) := by
          rw [recCells_snoc, ← hl4]
          exact hown
        have B4 := hide ((B2.out.alloc B2.out.size _).grown hgrow (by have := B2.out.size; simp; omega) (fun j hj => (O2.out.lt j hj).1))
        clear hown hgrow hl4
        go_wp2
        exact ⟨⟨k + 1, out ++ [(⟨xo, xp, xs, xk, xv⟩ : Rec)], oo4, oc4, by omega, by simp; omega, by go_num, by simp, by rw [List.append_assoc]; exact H1.out, O4, B4⟩, by simp [intOf]; omega⟩
    · have hi1 : ¬ (k : Int) < (l.length : Int) := by omega
      have h1 := HI.out
      rw [List.drop_eq_nil_of_le (by omega)] at h1
      simp only [keepF, List.append_nil] at h1
      have H1 := hide h1.symm
      clear h1
      go_wp2
      go_ret
      rw [H1.out]
      exact ⟨_, rfl, OV.out, BV.out⟩
theorem intCells_snoc (l : List Int) (x : Int) : intCells (l ++ [x]) = intCells l ++ [.int .i64 x] := by simp [intCells]
set_option maxHeartbeats 2000000 in
theorem rgone_any (upto : Int) (l : List Rec) (hl : l.length ≤ 1048576) (v : Value) (w : World) (hat : RecsAt w v l) :
    Calls Try.prog 8 #[v, .int .i64 upto] w fun e w' => ∃ v', e = .returned v' ∧ w'.ownsRow w.heap.size 3 1 v' (goneF upto l).length (intCells (goneF upto l)) ∧ Below w.heap.size w w' := by
  obtain ⟨ao, ac, rfl, _, _⟩ := id hat
  have HA := hide hat
  generalize hK : goneF upto l = KL
  have HS : Hid (∀ (W : World) (k : Nat) (hk : k < l.length), RecsAt W (.slice ao l.length ac) l → Calls Try.prog 15 #[.slice ao l.length ac, .int .i64 k] W fun e w' => e = .returned (.bool (supF l[k] (l.drop (k + 1)))) ∧ Below W.heap.size W w') := fun W k hk h => superseded_any l k hk hl _ W h
  have HK0 := hide hK
  clear hat hK
  go_enter Try.func8, Try.ntmps8
  go_wp2
  go_loopw [5, 6] (fun ov iv wv => ∃ (k : Nat) (out : List Int) (oo : Option Addr) (oc : Nat), k ≤ l.length ∧ out.length ≤ k ∧ iv = .int .i64 k ∧ ov = .slice oo out.length oc ∧ Hid (out ++ goneF upto (l.drop k) = KL) ∧ Hid (wv.ownsRow w.heap.size 3 1 (.slice oo out.length oc) out.length (intCells out)) ∧ Hid (Below w.heap.size w wv)) (fun _ iv _ => l.length - (intOf iv).toNat)
  case atStart => exact ⟨0, [], none, 0, Nat.zero_le _, Nat.zero_le _, rfl, rfl, HK0.out, nil_own _ _ _ _, Below.refl _ _⟩
  case round =>
    obtain ⟨k, out, oo, oc, hk, hok, rfl, rfl, HI, OV, BV⟩ := hrel
    by_cases hlt : k < l.length
    · have HS2 := hide (HS.out wr k hlt (HA.out.below BV.out))
      have hgo := @goneF_go upto l k hlt
      have hst := @goneF_stay upto l k hlt
      rw [goesF_sup] at hgo hst
      go_wp2_with fail
      refine HS2.out.mono ?_
      rintro e w2 ⟨rfl, b2⟩
      have B2 := hide (BV.out.trans (b2.mono BV.out.size))
      have O2 := hide (own_below OV.out b2)
      clear HS2 OV BV b2 
      obtain ⟨_, b, off, rfl, hb, a0, a1, a2, a3, a4⟩ := (HA.out.below B2.out).five k hlt
      have hi0 : (0 : Int) ≤ (k : Int) := by omega
      have hi1 : (k : Int) < (l.length : Int) := by omega
      generalize supF l[k] (l.drop (k + 1)) = s at *
      generalize l[k] = x at *
      obtain ⟨xo, xp, xs, xk, xv⟩ := x
      simp only at a0 a1 a2 a3 a4 hgo hst
      by_cases hs : s = true
      · subst hs
        by_cases hu : xo < upto
        · have h1 := hgo (by simpa using hu)
          have H1 := hide (h1 ▸ HI.out)
          clear hgo hst h1
          go_wp2_with (at_builtin; refine wpList_append_own _ rfl _ _ 25 rfl w.heap.size 3 Try.t3 _ 1 8 Try.underlying25 Try.infoI Try.zeroI Try.sizeI Try.bytesI rfl (by decide) (.slice oo out.length oc) out.length (intCells out) rfl (O2.out.alloc _) ⟨w2.heap.size, 0, none⟩ 1 1 [.int .i64 xo] rfl rfl (World.news_of_block (cs := #[.int .i64 xo]) (t := 3) (fr := (0, 0)) (heap_alloc_new w2 _)) (int_ones _) (by unfold maxLen; omega) (by omega) (by have := B2.out.size; simp; omega) ?_; intro v4 w4 hown hgrow _)
          obtain ⟨oo4, oc4, rfl⟩ := row_slice hown
          have hl4 : out.length + 1 = (out ++ [xo]).length := by simp
          have O4 : Hid (w4.ownsRow w.heap.size 3 1 (.slice oo4 (out ++ [xo]).length oc4) (out ++ [xo]).length (intCells (out ++ [xo]))) := by
            rw [intCells_snoc, ← hl4]
            exact hown
          have B4 := hide ((B2.out.alloc B2.out.size _).grown hgrow (by have := B2.out.size; simp; omega) (fun j hj => (O2.out.lt j hj).1))
          clear hown hgrow hl4
          go_wp2
          exact ⟨⟨k + 1, out ++ [xo], oo4, oc4, by omega, by simp; omega, by go_num, by simp, by rw [List.append_assoc]; exact H1.out, O4, B4⟩, by simp [intOf]; omega⟩
        · have h1 := hst (by simpa using hu)
          have H1 := hide (h1 ▸ HI.out)
          clear hgo hst h1
          go_wp2
          exact ⟨⟨k + 1, out, oo, oc, by omega, by omega, by go_num, rfl, H1, O2, B2⟩, by simp [intOf]; omega⟩
      · have hs2 : s = false := by simpa using hs
        subst hs2
        have h1 := hst (by simp)
        have H1 := hide (h1 ▸ HI.out)
        clear hgo hst h1
        go_wp2
        exact ⟨⟨k + 1, out, oo, oc, by omega, by omega, by go_num, rfl, H1, O2, B2⟩, by simp [intOf]; omega⟩
    · have hi1 : ¬ (k : Int) < (l.length : Int) := by omega
      have h1 := HI.out
      rw [List.drop_eq_nil_of_le (by omega)] at h1
      simp only [goneF, List.append_nil] at h1
      have H1 := hide h1.symm
      clear h1
      go_wp2
      go_ret
      rw [H1.out]
      exact ⟨_, rfl, OV.out, BV.out⟩
end Go.Proofs.Ytobphbncagapfaa
