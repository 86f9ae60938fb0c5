/-
  carillonref08's superseded, Keep, Gone, as they run; the laws' records: two lists that are one.
-/
import Derived.Test.YtobphbncagapfaaC3
import Derived.Laws.StructEq
import Derived.Lib.QuietBelow
import Derived.BigQuiet
namespace Go.Proofs.Ytobphbncagapfaa
open Go.RowKit Go.Maps

def supF (r : Rec) (t : List Rec) : Bool := !r.kl.isEmpty && laterF r.kl t
theorem goesF_sup (upto : Int) (r : Rec) (t : List Rec) : goesF upto r t = (supF r t && decide (r.off < upto)) := rfl
set_option maxHeartbeats 2000000 in
set_option maxRecDepth 100000 in
theorem superseded_any (l : List Rec) (i : Nat) (hi : i < l.length) (hl : l.length ≤ 1048576) (v : Value) (w : World) (hat : RecsAt w v l) :
    Calls Try.prog 15 #[v, .int .i64 i] w fun e w' => e = .returned (.bool (supF l[i] (l.drop (i + 1)))) ∧ Below w.heap.size w w' := by
  obtain ⟨ao, ac, rfl, _, _⟩ := id hat
  have HA := hide hat
  clear hat
  obtain ⟨_, b, off, rfl, hb, _, _, _, a3, _⟩ := HA.out.five i hi
  have hi0 : (0 : Int) ≤ (i : Int) := by omega
  have hi1 : (i : Int) < (l.length : Int) := by omega
  have HL : Hid (∀ k, (h : k < l.length) → laterF l[i].kl (l.drop k) = ((l[k].kl == l[i].kl) || laterF l[i].kl (l.drop (k + 1)))) := fun k h => laterF_step _ l k h
  unfold supF
  generalize hx : l[i] = x at *
  obtain ⟨xo, xp, xs, xk, xv⟩ := x
  simp only [Rec.kl] at *
  by_cases hk : xk.data.toList = []
  · have hke : xk.toList.isEmpty = true := by rw [ByteArray.toList_eq]; simpa using hk
    have e1 : xk.data.toList.isEmpty = true := by simpa using hk
    rw [e1]
    simp only [Bool.not_true, Bool.false_and]
    clear HL hx hk e1
    go_enter Try.func15, Try.ntmps15
    go_wp2
    go_loopw [5] (fun iv wv => ∃ k : Nat, i < k ∧ k ≤ l.length ∧ iv = .int .i64 k ∧ Hid (Below w.heap.size w wv)) (fun iv _ => l.length - (intOf iv).toNat)
    case atStart => exact ⟨i + 1, by omega, by omega, by go_num, Below.refl _ _⟩
    case round =>
      obtain ⟨k, hik, hk, rfl, BV⟩ := hrel
      by_cases hlt : k < l.length
      · have hj0 : (0 : Int) ≤ (k : Int) := by omega
        have hj1 : (k : Int) < (l.length : Int) := by omega
        go_wp2_with fail
        have d_a3 := cell_regrown ((BV.out.cell (p := ⟨b, off + i * 5 + 3, none⟩) hb).trans a3)
        refine wp_region_quiet_below (by kernel_rfl) (by kernel_rfl) ?_
        repeat (go_big_quiet_step (first | fail))
        refine wpQuiet_nil ?_
        intro _ hw'
        obtain ⟨⟨dq, osq⟩, hw''⟩ := hw'
        subst hw''
        have bb := below_regrown wr dq osq
        have B4 := hide (BV.out.trans (bb.mono BV.out.size))
        generalize Go.Sort.grow (redrawn wr dq) osq = w4 at *
        clear bb BV d_a3
        go_wp2
        exact ⟨⟨k + 1, by omega, by omega, by go_num, B4.out⟩, by simp [intOf]; omega⟩
      · have hj1 : ¬ (k : Int) < (l.length : Int) := by omega
        go_wp2
        go_ret
        exact ⟨rfl, BV.out⟩
  · have hke : xk.toList.isEmpty = false := by rw [ByteArray.toList_eq]; simpa using hk
    have e1 : xk.data.toList.isEmpty = false := by simpa using hk
    rw [e1]
    simp only [Bool.not_false, Bool.true_and]
    clear e1 hx hk
    generalize hR : laterF xk.data.toList (l.drop (i + 1)) = R
    have HR := hide hR
    clear hR
    go_enter Try.func15, Try.ntmps15
    go_wp2
    go_loopw [5] (fun iv wv => ∃ k : Nat, i < k ∧ k ≤ l.length ∧ iv = .int .i64 k ∧ Hid (laterF xk.data.toList (l.drop k) = R) ∧ Hid (Below w.heap.size w wv)) (fun iv _ => l.length - (intOf iv).toNat)
    case atStart => exact ⟨i + 1, by omega, by omega, by go_num, HR.out, Below.refl _ _⟩
    case round =>
      obtain ⟨k, hik, hk, rfl, HI, BV⟩ := hrel
      by_cases hlt : k < l.length
      · have hj0 : (0 : Int) ≤ (k : Int) := by omega
        have hj1 : (k : Int) < (l.length : Int) := by omega
        obtain ⟨_, b2, off2, hb2, _, _, _, _, c3, _⟩ := HA.out.five k hlt
        injection hb2 with hb2
        injection hb2 with e1 e2 e3
        subst e1 e2
        have h1 := HL.out k hlt
        rw [HI.out] at h1
        generalize l[k] = y at *
        obtain ⟨yo, yp, ys, yk, yv⟩ := y
        simp only at c3 h1
        by_cases he : yk.data.toList = xk.data.toList
        · have e2 : (yk.toList == xk.toList) = true := by rw [ByteArray.toList_eq, ByteArray.toList_eq]; simpa using he
          rw [he] at h1
          simp only [BEq.rfl, Bool.true_or] at h1
          subst h1
          clear HR HL HI
          go_wp2_with fail
          have d_a3 := cell_regrown ((BV.out.cell (p := ⟨b, off + i * 5 + 3, none⟩) hb).trans a3)
          have d_c3 := cell_regrown ((BV.out.cell (p := ⟨b, off + k * 5 + 3, none⟩) hb).trans c3)
          refine wp_region_quiet_below (by kernel_rfl) (by kernel_rfl) ?_
          repeat (go_big_quiet_step (first | fail))
          refine wpQuiet_nil ?_
          intro _ hw'
          obtain ⟨⟨dq, osq⟩, hw''⟩ := hw'
          subst hw''
          have bb := below_regrown wr dq osq
          have B4 := hide (BV.out.trans (bb.mono BV.out.size))
          generalize Go.Sort.grow (redrawn wr dq) osq = w4 at *
          clear bb BV d_a3 d_c3
          go_wp2
          go_ret
          exact ⟨rfl, B4.out⟩
        · have e2 : (yk.toList == xk.toList) = false := by rw [ByteArray.toList_eq, ByteArray.toList_eq]; simpa using he
          have h2 : (yk.data.toList == xk.data.toList) = false := by simpa using he
          rw [h2, Bool.false_or] at h1
          have H1 := hide h1.symm
          clear h1 h2
          go_wp2_with fail
          have d_a3 := cell_regrown ((BV.out.cell (p := ⟨b, off + i * 5 + 3, none⟩) hb).trans a3)
          have d_c3 := cell_regrown ((BV.out.cell (p := ⟨b, off + k * 5 + 3, none⟩) hb).trans c3)
          refine wp_region_quiet_below (by kernel_rfl) (by kernel_rfl) ?_
          repeat (go_big_quiet_step (first | fail))
          refine wpQuiet_nil ?_
          intro _ hw'
          obtain ⟨⟨dq, osq⟩, hw''⟩ := hw'
          subst hw''
          have bb := below_regrown wr dq osq
          have B4 := hide (BV.out.trans (bb.mono BV.out.size))
          generalize Go.Sort.grow (redrawn wr dq) osq = w4 at *
          clear bb BV d_a3 d_c3
          go_wp2
          exact ⟨⟨k + 1, by omega, by omega, by go_num, H1.out, B4.out⟩, by simp [intOf]; omega⟩
      · have hj1 : ¬ (k : Int) < (l.length : Int) := by omega
        have h1 := HI.out
        rw [laterF_none _ _ _ (by omega)] at h1
        subst h1
        clear HI HR HL
        go_wp2
        go_ret
        exact ⟨rfl, BV.out⟩
end Go.Proofs.Ytobphbncagapfaa
