/-
  carillonref14's RightReply (mkrj.py)
-/
import Derived.Test.YtoolbbibnegdnaaGreatDoorZHC
import Derived.Test.YtoolbbibnegdnaaGreatDoorZSR
namespace Go.Proofs.YtoolbbibnegdnaaGreatDoor
open Go.RowKit

attribute [local go_sem ↓] Go.wp_at_zero Go.wp_at_succ
set_option linter.unusedSimpArgs false
set_option linter.unusedVariables false
/-- A row of records, as far as carillonref14's RightReply went over it. -/
structure RecGoR (w W : World) (cs : Array Value) (l : List Rec) (k : Nat) : Prop where
  below : Below w.heap.size w W
  box : W.heap[w.heap.size]? = some (.cells cs 37 (0, 0))
  right : ∀ j (h : j < l.length), j < k → RightP l[j]
theorem RecGoR.next {w W : World} {cs : Array Value} {l : List Rec} {k : Nat} (h : RecGoR w W cs l k) (hk : k < l.length) (hr : RightP l[k]) (W' : World) (hW : Below W.heap.size W W') : RecGoR w W' cs l (k + 1) :=
  ⟨h.below.trans (hW.mono h.below.size), (hW.block _ (heap_lt h.box)).trans h.box, fun j hj hlt => by
    rcases Nat.lt_or_ge j k with h2 | h2
    · exact h.right j hj h2
    · obtain rfl : j = k := by omega
      exact hr⟩
set_option maxHeartbeats 4000000 in
set_option maxRecDepth 100000 in
theorem rrightrep (r : RP) (ao : Option Addr) (cap : Nat) (w : World) (hat : RecsC w ao r.recs) (hok : ∀ x ∈ r.recs, x.ok) (hlen : r.recs.length ≤ 9223372036854775807) :
    Calls Tryz.prog 28 #[r.v ao cap] w fun e w' => e = .returned (.bool (decide r.right)) ∧ Below w.heap.size w w' := by
  have hno := @RP.no r
  have hyes : 0 ≤ r.code → r.code ≤ 255 → (-1 ≤ r.n ∧ r.n ≤ 9007199254740991) → r.recs.length ≤ 50 → (∀ x ∈ r.recs, RightP x) → decide r.right = true := fun a b c d e => decide_eq_true ⟨a, b, c.1, c.2, d, e⟩
  have hbad : (∃ x ∈ r.recs, ¬ RightP x) → decide r.right = false := fun ⟨x, hx, hn⟩ => decide_eq_false fun e => hn (e.2.2.2.2.2 x hx)
  generalize decide r.right = rr at *
  obtain ⟨code, n, l⟩ := r
  simp only [RP.v] at *
  by_cases h1 : code < 0
  · rw [hno (by omega)]
    clear hno hyes hbad
    go_enter Tryz.func28, Tryz.ntmps28
    go_wp2
    go_ret
    exact ⟨rfl, (Below.refl _ _).alloc (Nat.le_refl _) _⟩
  · skip
    by_cases h2 : code > 255
    · rw [hno (by omega)]
      clear hno hyes hbad
      go_enter Tryz.func28, Tryz.ntmps28
      go_wp2
      go_ret
      exact ⟨rfl, (Below.refl _ _).alloc (Nat.le_refl _) _⟩
    · skip
      by_cases h3 : n < -1
      · rw [hno (by omega)]
        clear hno hyes hbad
        go_enter Tryz.func28, Tryz.ntmps28
        go_wp2
        go_ret
        exact ⟨rfl, (Below.refl _ _).alloc (Nat.le_refl _) _⟩
      · skip
        by_cases h4 : n > 9007199254740991
        · rw [hno (by omega)]
          clear hno hyes hbad
          go_enter Tryz.func28, Tryz.ntmps28
          go_wp2
          go_ret
          exact ⟨rfl, (Below.refl _ _).alloc (Nat.le_refl _) _⟩
        · skip
          by_cases h5 : (l.length : Int) > 50
          · rw [hno (by omega)]
            clear hno hyes hbad
            go_enter Tryz.func28, Tryz.ntmps28
            go_wp2
            go_ret
            exact ⟨rfl, (Below.refl _ _).alloc (Nat.le_refl _) _⟩
          · skip
            have HY := hide (hyes (by omega) (by omega) (by omega) (by omega))
            have HN := hide hbad
            have HA := hide hat
            have HO := hide hok
            have HB : Hid (RecGoR w (w.alloc (.cells #[.int .i64 code, .int .i64 n, .slice ao l.length cap] 37)) #[.int .i64 code, .int .i64 n, .slice ao l.length cap] l 0) := ⟨(Below.refl w.heap.size w).alloc (Nat.le_refl _) _, heap_alloc_new w _, fun j h hj => absurd hj (Nat.not_lt_zero _)⟩
            have hle : (l.length : Int) ≤ 50 := by omega
            clear hno hyes hbad hat hok
            go_enter Tryz.func28, Tryz.ntmps28
            go_wp2
            go_loopw [3] (fun iv wv => ∃ k : Nat, k ≤ l.length ∧ iv = .int .i64 k ∧ Hid (RecGoR w wv #[.int .i64 code, .int .i64 n, .slice ao l.length cap] l k)) (fun iv _ => l.length - (intOf iv).toNat)
            case atStart => exact ⟨0, Nat.zero_le _, rfl, HB⟩
            case round =>
              obtain ⟨k, hk, rfl, HJ⟩ := hrel
              have q2 := box_cell HJ.out.box 2 rfl
              by_cases hlt : k < l.length
              · have hlt2 : (k : Int) < (l.length : Int) := by omega
                obtain ⟨b, off, rfl, gl, y0, y1, y2, y3, y4⟩ := (HA.out.below HJ.out.below (Nat.le_refl _)) k hlt
                have HR := hide (rright_any l[k] (HO.out _ (List.getElem_mem _)))
                have HX := hide (HJ.out.next hlt)
                have HZ : Hid (¬ RightP l[k] → rr = false) := fun hr => HN.out ⟨_, List.getElem_mem _, hr⟩
                have hd := @decide_eq_true_iff (RightP l[k]) _
                generalize l[k] = x at *
                obtain ⟨xo, xp, xs, xk, xv⟩ := x
                simp only [Rec.v] at HR y0 y1 y2 y3 y4
                have HW := hide HJ.out.below
                clear HJ HA HO HB
                by_cases hr : RightP ⟨xo, xp, xs, xk, xv⟩
                · rw [decide_eq_true hr] at HR
                  have HQ := hide (HX.out hr)
                  clear hr HX HZ hd
                  go_wp2_with (go_at_call 50; refine (HR.out _).mono ?_; rintro e w4 ⟨rfl, b4⟩; have HW4 := hide b4; clear b4)
                  exact ⟨⟨k + 1, by omega, by go_num, HQ.out _ HW4.out⟩, by simp [intOf]; omega⟩
                · rw [decide_eq_false hr] at HR
                  have HQ := hide (HZ.out hr)
                  clear hr HX HZ hd
                  go_wp2_with fail
                  refine (HR.out _).mono ?_
                  rintro e w4 ⟨rfl, b4⟩
                  have HW4 := hide (HW.out.trans (b4.mono HW.out.size))
                  clear b4
                  go_wp2
                  go_ret
                  exact ⟨by rw [HQ.out]; rfl, HW4.out⟩
              · have hlt2 : ¬ (k : Int) < (l.length : Int) := by omega
                have HQ := hide (HY.out fun x hx => by
                  obtain ⟨j, hj, rfl⟩ := List.mem_iff_getElem.1 hx
                  exact HJ.out.right j hj (by omega))
                have HW := hide HJ.out.below
                clear HJ HB
                go_wp2
                go_ret
                exact ⟨by rw [HQ.out]; rfl, HW.out⟩
end Go.Proofs.YtoolbbibnegdnaaGreatDoor
