/-
  Name; IndexFunc, DeleteFunc at records that rise and the closure of granted, as they run.
-/
import Derived.Test.YtominplelmbecaaZSA
namespace Go.Proofs.Ytominplelmbecaa.Y
open Go.RowKit Go.Maps

set_option linter.unusedVariables false
set_option linter.unusedSimpArgs false
theorem TG.Ok.name {c : Nat} {G : TG} (h : G.Ok c) : G.name.size ≤ 20 := textB_le (b := true) h.word
set_option maxHeartbeats 1000000 in
theorem tname {w : World} {L : LOC} {G : TG} {c : Nat} (h : TAt w L G) (hk : G.Ok c) : Calls Try.prog 37 #[.pointer (some ⟨L.b, 0, none⟩)] w fun e w' => e = .returned (.string G.name) ∧ Below w.heap.size w w' := by
  obtain ⟨c0, c1, c2, c3, c4⟩ := h.cells
  have HC := hide (fun W => clone_any G.name W (by have := hk.name; omega))
  clear h hk
  go_enter Try.func37, Try.ntmps37
  go_wp2_with (go_at_call 31; refine (HC.out _).mono ?_; rintro e w' ⟨rfl, b2⟩)
  go_ret
  exact ⟨rfl, b2⟩
set_option maxHeartbeats 1000000 in
theorem gclo (r : Rec) (eb : Nat) (en : Int) (w : World) (he : w.heap[eb]? = some (.cells #[.int .i64 en] 3 (0, 0))) : Calls Try.prog 63 #[r.v, .pointer (some ⟨eb, 0, none⟩)] w fun e w' => e = .returned (.bool (decide (r.off ≥ en))) ∧ Below w.heap.size w w' := by
  obtain ⟨xo, xp, xs, xk, xv⟩ := r
  simp only [Rec.v]
  have HB := hide ((Below.refl w.heap.size w).alloc (Nat.le_refl _) (.cells #[.int .i64 xo, .string xp, .int .i64 xs, .string xk, .string xv] 63))
  have c0 := box_cell (box_alloc he (.cells #[.int .i64 xo, .string xp, .int .i64 xs, .string xk, .string xv] 63)) 0 rfl
  clear he
  go_enter Try.func63, Try.ntmps63
  go_wp2
  go_ret
  exact ⟨rfl, HB.out⟩
/-- The place of the first record that is not below. -/
def idxF (l : List Rec) (en : Int) : Int := if placeF l en < l.length then placeF l en else -1
set_option maxHeartbeats 4000000 in
theorem gidx (l : List Rec) (hr : Rises l) (en : Int) (eb : Nat) (v : Value) (w : World) (hat : RecsAt w v l) (he : w.heap[eb]? = some (.cells #[.int .i64 en] 3 (0, 0))) (hl : l.length ≤ 1048576) :
    Calls Try.prog 71 #[v, .func (.func 63) #[] #[.pointer (some ⟨eb, 0, none⟩)]] w fun e w' => e = .returned (.int .i64 (idxF l en)) ∧ Below w.heap.size w w' := by
  obtain ⟨ao, ac, rfl, _, _⟩ := id hat
  have HA := hide hat
  have HR := hide hr
  have HE := hide he
  clear hat hr he
  generalize hp : idxF l en = pl
  have HP := hide hp
  clear hp
  go_enter Try.func71, Try.ntmps71
  go_wp2
  go_loopw [8] (fun iv wv => ∃ k : Nat, k ≤ l.length ∧ iv = .int .i64 k ∧ Hid (Below w.heap.size w wv) ∧ Hid (k ≤ placeF l en)) (fun iv _ => l.length - (intOf iv).toNat)
  case atStart => exact ⟨0, Nat.zero_le _, rfl, Below.refl _ _, Nat.zero_le _⟩
  case round =>
    obtain ⟨k, hk, rfl, BV, HI⟩ := hrel
    by_cases hlt : k < l.length
    · have HPL := hide (place_lt HR.out (off := en) k hlt)
      obtain ⟨_, b, of, rfl, hb, a0, a1, a2, a3, a4⟩ := (HA.out.below BV.out).five k hlt
      have HC := hide (fun W hW => gclo l[k] eb en W hW)
      have HEV := hide (Below.at BV.out HE.out)
      have hi1 : (k : Int) < (l.length : Int) := by omega
      generalize l[k] = x at *
      obtain ⟨xo, xp, xs, xk, xv⟩ := x
      simp only [Rec.v] at a0 a1 a2 a3 a4 HPL HC
      by_cases hyx : xo < en
      · have h5 := HPL.out.2 hyx
        have H5 := hide h5
        clear h5
        have hd : decide (xo ≥ en) = false := by simp; omega
        go_wp2_with (go_at_call 63; refine (HC.out _ HEV.out).mono ?_; rintro e w' ⟨rfl, b2⟩)
        exact ⟨⟨k + 1, by omega, by go_num, BV.out.trans (b2.mono BV.out.size), H5.out⟩, by simp [intOf]; omega⟩
      · have h5 : ¬ k < placeF l en := fun h => hyx (HPL.out.1 h)
        have H5 := hide h5
        clear h5
        have hd : decide (xo ≥ en) = true := by simp; omega
        go_wp2_with (go_at_call 63; refine (HC.out _ HEV.out).mono ?_; rintro e w' ⟨rfl, b2⟩)
        go_ret
        refine ⟨?_, BV.out.trans (b2.mono BV.out.size)⟩
        have e5 : placeF l en = k := by have := HI.out; have := H5.out; omega
        rw [← HP.out, idxF, e5, if_pos hlt]
        rfl
    · have hi1 : ¬ (k : Int) < (l.length : Int) := by omega
      go_wp2
      go_ret
      refine ⟨?_, BV.out⟩
      rw [← HP.out, idxF, if_neg (by have := HI.out; omega)]
      rfl
end Go.Proofs.Ytominplelmbecaa.Y
