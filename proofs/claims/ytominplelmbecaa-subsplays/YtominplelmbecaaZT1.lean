/-
  Records that rise, and the place of an offset among them; the binary search, as it runs.
-/
import Derived.Test.YtominplelmbecaaZYC7
import Derived.Test.YtominplelmbecaaZQ1
import Derived.Test.YtominplelmbecaaZGM
namespace Go.Proofs.Ytominplelmbecaa.Y
open Go.RowKit Go.Maps
set_option maxRecDepth 100000

def Rises (l : List Rec) : Prop := l.Pairwise fun a b => a.off < b.off
/-- How many lie below an offset. -/
def placeF (l : List Rec) (off : Int) : Nat := l.countP fun r => decide (r.off < off)
theorem placeF_le (l : List Rec) (off : Int) : placeF l off ≤ l.length := List.countP_le_length
theorem Rises.lt {l : List Rec} (h : Rises l) {i j : Nat} (hij : i < j) (hj : j < l.length) : (l[i]'(by omega)).off < l[j].off := List.pairwise_iff_getElem.1 h i j (by omega) hj hij
theorem place_boundary {off : Int} : ∀ (l : List Rec) (i : Nat), i ≤ l.length → (∀ t (h : t < l.length), t < i → l[t].off < off) → (∀ t (h : t < l.length), i ≤ t → ¬ l[t].off < off) → placeF l off = i
  | [], i, hi, _, _ => by simp at hi; subst hi; rfl
  | a :: r, 0, _, _, h2 => by
    unfold placeF
    rw [List.countP_eq_zero]
    intro x hx
    obtain ⟨t, ht, rfl⟩ := List.getElem_of_mem hx
    simpa using h2 t ht (Nat.zero_le _)
  | a :: r, i + 1, hi, h1, h2 => by
    have ha : a.off < off := h1 0 (by simp) (by omega)
    have ih := place_boundary (off := off) r i (by simpa using hi) (fun t ht hti => h1 (t + 1) (by simpa using ht) (by omega)) (fun t ht hti => h2 (t + 1) (by simpa using ht) (by omega))
    unfold placeF at ih ⊢
    rw [List.countP_cons_of_pos (by simpa using ha), ih]
theorem place_lt {l : List Rec} (hr : Rises l) {off : Int} : ∀ t (h : t < l.length), t < placeF l off ↔ l[t].off < off := by
  -- the boundary: the first that is not below
  have hex : ∃ i, i ≤ l.length ∧ (∀ t (h : t < l.length), t < i → l[t].off < off) ∧ (∀ t (h : t < l.length), i ≤ t → ¬ l[t].off < off) := by
    induction l with
    | nil => exact ⟨0, Nat.le_refl _, fun t h => by simp at h, fun t h => by simp at h⟩
    | cons a r ih =>
      obtain ⟨ha, hr2⟩ := List.pairwise_cons.1 hr
      by_cases h : a.off < off
      · obtain ⟨i, h1, h2, h3⟩ := ih hr2
        refine ⟨i + 1, by simpa using h1, fun t ht hti => ?_, fun t ht hti => ?_⟩
        · cases t with
          | zero => exact h
          | succ t => exact h2 t (by simpa using ht) (by omega)
        · cases t with
          | zero => omega
          | succ t => exact h3 t (by simpa using ht) (by omega)
      · refine ⟨0, Nat.zero_le _, fun t ht hti => by omega, fun t ht _ => ?_⟩
        cases t with
        | zero => exact h
        | succ t =>
          have := ha (r[t]'(by simpa using ht)) (List.getElem_mem _)
          simp only [List.getElem_cons_succ]
          omega
  obtain ⟨i, h1, h2, h3⟩ := hex
  have e := place_boundary l i h1 h2 h3
  intro t ht
  rw [e]
  constructor
  · exact h2 t ht
  · intro h
    apply Classical.byContradiction
    intro hn
    exact h3 t ht (by omega) h
def cmpI (a b : Int) : Int := if a < b then -1 else if b < a then 1 else 0
theorem cmpI_neg (a b : Int) : (cmpI a b < 0) ↔ a < b := by
  unfold cmpI
  by_cases h1 : a < b
  · simp [h1]
  · by_cases h2 : b < a
    · simp [h1, h2]
    · simp [h1, h2]
theorem nan_any (a : Int) (w : World) : Calls Try.prog 64 #[.int .i64 a] w fun e w' => e = .returned (.bool false) ∧ w' = w := by
  go_enter Try.func64, Try.ntmps64
  go_wp2
  go_ret
  exact ⟨rfl, rfl⟩
set_option maxHeartbeats 2000000 in
theorem cmp_any (a b : Int) (w : World) : Calls Try.prog 56 #[.int .i64 a, .int .i64 b] w fun e w' => e = .returned (.int .i64 (cmpI a b)) ∧ w' = w := by
  have HN := hide nan_any
  by_cases h1 : a < b
  · have h3 : cmpI a b = -1 := if_pos h1
    rw [h3]
    clear h3
    go_enter Try.func56, Try.ntmps56
    go_wp2_with (go_at_call 64; refine (HN.out _ _).mono ?_; rintro e w' ⟨rfl, rfl⟩)
    go_ret
    exact ⟨rfl, rfl⟩
  · by_cases h2 : b < a
    · have h3 : cmpI a b = 1 := by unfold cmpI; rw [if_neg h1, if_pos h2]
      rw [h3]
      clear h3
      go_enter Try.func56, Try.ntmps56
      go_wp2_with (go_at_call 64; refine (HN.out _ _).mono ?_; rintro e w' ⟨rfl, rfl⟩)
      go_ret
      exact ⟨rfl, rfl⟩
    · have h3 : cmpI a b = 0 := by unfold cmpI; rw [if_neg h1, if_neg h2]
      rw [h3]
      clear h3
      go_enter Try.func56, Try.ntmps56
      go_wp2_with (go_at_call 64; refine (HN.out _ _).mono ?_; rintro e w' ⟨rfl, rfl⟩)
      go_ret
      exact ⟨rfl, rfl⟩
set_option maxHeartbeats 2000000 in
theorem clo_any (r : Rec) (off : Int) (w : World) : Calls Try.prog 55 #[r.v, .int .i64 off] w fun e w' => e = .returned (.int .i64 (cmpI r.off off)) ∧ Below w.heap.size w w' := by
  obtain ⟨xo, xp, xs, xk, xv⟩ := r
  simp only [Rec.v]
  have HC := hide (cmp_any xo off)
  have HB := hide ((Below.refl w.heap.size w).alloc (Nat.le_refl _) (.cells #[.int .i64 xo, .string xp, .int .i64 xs, .string xk, .string xv] 63))
  generalize cmpI xo off = c at *
  go_enter Try.func55, Try.ntmps55
  go_wp2_with (go_at_call 56; refine (HC.out _).mono ?_; rintro e w' ⟨rfl, rfl⟩)
  go_ret
  exact ⟨rfl, HB.out⟩
set_option maxHeartbeats 4000000 in
theorem bsearch (l : List Rec) (hr : Rises l) (off : Int) (v : Value) (w : World) (hat : RecsAt w v l) (hl : l.length ≤ 1048576) :
    Calls Try.prog 54 #[v, .int .i64 off, .func (.func 55) #[] #[]] w fun e w' => ∃ b, e = .returned (.tuple #[.int .i64 (placeF l off), .bool b]) ∧ Below w.heap.size w w' := by
  obtain ⟨ao, ac, rfl, _, _⟩ := id hat
  have HA := hide hat
  have HR := hide hr
  clear hat hr
  generalize hp : placeF l off = pl
  have HP := hide hp
  clear hp
  go_enter Try.func54, Try.ntmps54
  go_wp2
  go_loopg [9, 10] l.length (fun kx s9 s10 wr => ∃ lo hi : Nat, s9 = .int .i64 lo ∧ s10 = .int .i64 hi ∧ lo ≤ hi ∧ hi ≤ l.length ∧ hi - lo ≤ kx ∧ Hid (Below w.heap.size w wr) ∧ Hid (lo ≤ placeF l off ∧ placeF l off ≤ hi))
  case atStart => exact ⟨0, l.length, rfl, rfl, Nat.zero_le _, Nat.le_refl _, by omega, Below.refl _ _, ⟨Nat.zero_le _, placeF_le _ _⟩⟩
  case round =>
    obtain ⟨lo, hi, rfl, rfl, hlh, hin, hg, BV, HI⟩ := hrel
    by_cases hlt : lo < hi
    · have hm : (lo + hi) / 2 < l.length := by omega
      have HPL := hide (place_lt HR.out (off := off) ((lo + hi) / 2) hm)
      obtain ⟨_, b, of, rfl, hb, a0, a1, a2, a3, a4⟩ := (HA.out.below BV.out).five ((lo + hi) / 2) hm
      have HC := hide (clo_any l[(lo + hi) / 2] off)
      have HS := hide (cmpI_neg l[(lo + hi) / 2].off off)
      generalize l[(lo + hi) / 2] = x at *
      obtain ⟨xo, xp, xs, xk, xv⟩ := x
      simp only [Rec.v] at a0 a1 a2 a3 a4 HPL HC HS
      generalize cmpI xo off = c at *
      by_cases hyx : c < 0
      · have h5 := HPL.out.2 (HS.out.1 hyx)
        have I2 : Hid ((lo + hi) / 2 + 1 ≤ placeF l off ∧ placeF l off ≤ hi) := ⟨h5, HI.out.2⟩
        clear h5
        go_wp2_with (go_at_call 55; refine (HC.out _).mono ?_; rintro e w' ⟨rfl, b2⟩)
        go_roundg (hi - ((lo + hi) / 2 + 1))
        case measure => omega
        case rel => exact ⟨(lo + hi) / 2 + 1, hi, by rw [show ((lo : Int) + (hi : Int)) / 2 + 1 = (((lo + hi) / 2 + 1 : Nat) : Int) by omega], rfl, by omega, hin, Nat.le_refl _, BV.out.trans (b2.mono BV.out.size), I2⟩
      · have h5 : ¬ (lo + hi) / 2 < placeF l off := fun h => hyx (HS.out.2 (HPL.out.1 h))
        have I2 : Hid (lo ≤ placeF l off ∧ placeF l off ≤ (lo + hi) / 2) := ⟨HI.out.1, by omega⟩
        clear h5
        go_wp2_with (go_at_call 55; refine (HC.out _).mono ?_; rintro e w' ⟨rfl, b2⟩)
        go_roundg ((lo + hi) / 2 - lo)
        case measure => omega
        case rel => exact ⟨lo, (lo + hi) / 2, rfl, by rw [show ((lo : Int) + (hi : Int)) / 2 = (((lo + hi) / 2 : Nat) : Int) by omega], by omega, by omega, Nat.le_refl _, BV.out.trans (b2.mono BV.out.size), I2⟩
    · obtain rfl : hi = lo := by omega
      have e : pl = hi := by have := HI.out; rw [HP.out] at this; omega
      subst e
      clear HI HP
      by_cases hn : pl < l.length
      · obtain ⟨_, b, of, rfl, hb, a0, a1, a2, a3, a4⟩ := (HA.out.below BV.out).five pl hn
        have HC := hide (clo_any l[pl] off)
        generalize l[pl] = x at *
        obtain ⟨xo, xp, xs, xk, xv⟩ := x
        simp only [Rec.v] at a0 a1 a2 a3 a4 HC
        generalize cmpI xo off = c at *
        go_wp2_with (go_at_call 55; refine (HC.out _).mono ?_; rintro e w' ⟨rfl, b2⟩)
        go_ret2
        exact ⟨_, rfl, BV.out.trans (b2.mono BV.out.size)⟩
      · go_wp2
        go_ret2
        exact ⟨_, rfl, BV.out⟩
end Go.Proofs.Ytominplelmbecaa.Y
