/-
  goes, as it runs.
-/
import Derived.Test.YtominplelmbecaaZYC2
namespace Go.Proofs.Ytominplelmbecaa.Y
open Go.RowKit Go.Maps
set_option maxRecDepth 100000

theorem key_empty (r : Rec) (h : r.key.data.toList = []) : r.key = ⟨#[]⟩ := by
  obtain ⟨o, p, s, ⟨⟨k⟩⟩, v⟩ := r
  simp only at h
  subst h
  rfl
set_option maxHeartbeats 2000000 in
theorem goes_any (upto : Int) (l : List Rec) (i : Nat) (hi : i < l.length) (hok : l[i].ok) (mb n : Nat) (D : DataW Nat) (hD : Lasts l l.length D) (w : World) (hown : w.ownsMap Try.prog 9 (plainElem Try.prog 3) mb n D) :
    Calls Try.prog 58 #[l[i].v, .int .i64 i, .map (some mb), .int .i64 upto] w fun e w' => e = .returned (.bool (goesF upto l[i] (l.drop (i + 1)))) ∧ Below w.heap.size w w' := by
  have hlast := laterF_last l l[i].kl i
  have hat := hD.2 l[i].kl
  have hli := lastIx_le l l[i].kl l.length
  unfold goesF
  rw [hlast]
  generalize lastIx l l[i].kl l.length = c at *
  clear hlast hD
  generalize l[i] = x at *
  have HO := hide (hown.alloc (.cells #[.int .i64 x.off, .string x.prod, .int .i64 x.seq, .string x.key, .string x.val] 63))
  have HB := hide ((Below.refl w.heap.size w).alloc (Nat.le_refl _) (.cells #[.int .i64 x.off, .string x.prod, .int .i64 x.seq, .string x.key, .string x.val] 63))
  obtain ⟨xo, xp, xs, xk, xv⟩ := x
  simp only [Rec.v, Rec.kl] at *
  clear hown
  by_cases hk : xk.data.toList = []
  · have hk2 := key_empty ⟨xo, xp, xs, xk, xv⟩ hk
    simp only at hk2
    subst hk2
    simp
    go_enter Try.func58, Try.ntmps58
    go_wp2
    go_ret
    exact ⟨rfl, HB.out⟩
  · have hke : xk.toList.isEmpty = false := by rw [ByteArray.toList_eq]; simpa using hk
    obtain ⟨c', hlk, hc', _⟩ := HO.out.lookup_int keyedS Try.underlying103 Try.underlying3 (zeroInt _) (Go.WideMaps.keyOf_string_mk Try.underlying9 (s := xk) (by obtain ⟨_, _, _, _, _, h, _⟩ := hok; simp only at h; unfold maxLen; omega))
    have e : (c : Int) = c' := by rw [hat] at hc'; injection hc' with hc'; injection hc'
    subst e
    have e1 : xk.data.toList.isEmpty = false := by simpa using hk
    rw [e1]
    simp only [Bool.not_false, Bool.true_and]
    clear hc' hat e1 hk
    by_cases h1 : i < c
    · have h1' : (i : Int) < (c : Int) := by omega
      have e2 : decide (i < c) = true := decide_eq_true h1
      rw [e2]
      simp only [Bool.true_and]
      clear e2 h1
      by_cases h2 : xo < upto
      · have e3 : decide (xo < upto) = true := decide_eq_true h2
        rw [e3]
        go_enter Try.func58, Try.ntmps58
        go_wp2
        go_ret
        exact ⟨rfl, HB.out⟩
      · have e3 : decide (xo < upto) = false := decide_eq_false h2
        rw [e3]
        go_enter Try.func58, Try.ntmps58
        go_wp2
        go_ret
        exact ⟨rfl, HB.out⟩
    · have h1' : ¬ (i : Int) < (c : Int) := by omega
      have e2 : decide (i < c) = false := decide_eq_false h1
      rw [e2]
      simp only [Bool.false_and]
      clear e2 h1
      go_enter Try.func58, Try.ntmps58
      go_wp2
      go_ret
      exact ⟨rfl, HB.out⟩
end Go.Proofs.Ytominplelmbecaa.Y
