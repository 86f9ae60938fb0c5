/-
  The program's shared, Common, Prefix, longest, cloned, size, as they run.
-/
import Derived.Test.YtfcpclpaalekiaaZVM
import Derived.Test.YtfcpclpaalekiaaProg
import Derived.ProofKit
import Derived.OpenShut
import Derived.ShutString
import Derived.ChangeOld
import Derived.SizedLaws
import Derived.Deep.Slices
import Derived.Deep.Strs
import Derived.WalkKit
import Derived.Test.YtfcpclpaalekiaaRows
import Derived.Deep.QuietTactic
import Derived.BigQuiet
import Derived.WalkMore
namespace Go.Proofs.Ytfcpclpaalekiaa
open Go.ChangeShapes Go.WideShapes Go.ChangeAt Go.RowKit Go.Deep
theorem own : ownKnob Try.prog.godebug = none := by kernel_rfl
theorem laidOut : laidOutB Try.prog = true := by kernel_rfl
def In64 (a : Int) : Prop := -9223372036854775808 ≤ a ∧ a ≤ 9223372036854775807
def MB.ok (m : MB) : Prop := In64 m.node ∧ In64 m.life
theorem addr_add (b off n : Nat) : (⟨b, off, none⟩ : Addr).add n = ⟨b, off + n, none⟩ := by
  unfold Addr.add
  split
  · rename_i h; subst h; rfl
  · rfl
theorem weights_of {H : Type} {d : DataW H} {t : TypeId} {ts : List TypeId} {ds : List (DataW H)} {j : Nat} (hsz : (DataW.weightsEach Try.prog ts ds).all (· ≤ reachBytes) = true) (ht : ts[j]? = some t) (hd : ds[j]? = some d) : ∀ k ∈ d.weights Try.prog t, k ≤ reachBytes :=
  fun k hk => of_decide_eq_true (List.all_eq_true.1 hsz k (DataW.weights_mem_each (P := Try.prog) ht hd k hk))
end Go.Proofs.Ytfcpclpaalekiaa
namespace Go.Proofs.Ytfcpclpaalekiaa
def comF : List ByteArray → List ByteArray → Nat
  | x :: a, y :: b => if x = y then comF a b + 1 else 0
  | _, _ => 0
theorem comF_le (a b : List ByteArray) : comF a b ≤ a.length ∧ comF a b ≤ b.length := by
  induction a generalizing b with
  | nil => cases b <;> simp [comF]
  | cons x a ih =>
    cases b with
    | nil => simp [comF]
    | cons y b =>
      have := ih b
      simp only [comF, List.length_cons]
      split <;> omega
theorem comF_same (a b : List ByteArray) (i : Nat) (hi : i < comF a b) (h1 : i < a.length) (h2 : i < b.length) : a[i] = b[i] := by
  induction a generalizing b i with
  | nil => simp at h1
  | cons x a ih =>
    cases b with
    | nil => simp at h2
    | cons y b =>
      simp only [comF] at hi
      by_cases e : x = y
      · rw [if_pos e] at hi
        cases i with
        | zero => simpa using e
        | succ i => simpa using ih b i (by omega) (by simpa using h1) (by simpa using h2)
      · rw [if_neg e] at hi; omega
theorem comF_part (a b : List ByteArray) (h1 : comF a b < a.length) (h2 : comF a b < b.length) : a[comF a b] ≠ b[comF a b] := by
  induction a generalizing b with
  | nil => simp at h1
  | cons x a ih =>
    cases b with
    | nil => simp at h2
    | cons y b =>
      by_cases e : x = y
      · have e2 : comF (x :: a) (y :: b) = comF a b + 1 := by simp [comF, e]
        have := ih b (by rw [e2] at h1; simpa using h1) (by rw [e2] at h2; simpa using h2)
        simp only [e2, List.getElem_cons_succ]
        exact this
      · have e2 : comF (x :: a) (y :: b) = 0 := by simp [comF, e]
        simp only [e2, List.getElem_cons_zero]
        exact e
theorem comF_is (a b : List ByteArray) (n : Nat) (h1 : n ≤ a.length) (h2 : n ≤ b.length) (hs : ∀ i (hi : i < n), a[i] = b[i]) (hp : n = a.length ∨ n = b.length ∨ ∃ (h3 : n < a.length) (h4 : n < b.length), a[n] ≠ b[n]) : comF a b = n := by
  have hle := comF_le a b
  rcases Nat.lt_trichotomy (comF a b) n with h | h | h
  · exact absurd (hs _ h) (comF_part a b (by omega) (by omega))
  · exact h
  · rcases hp with e | e | ⟨h3, h4, e⟩
    · omega
    · omega
    · exact absurd (comF_same a b n h h3 h4) e
def preF (a b : List ByteArray) : Bool := decide (comF a b = a.length)
theorem preF_iff (a b : List ByteArray) : preF a b = true ↔ a = b.take a.length := by
  unfold preF
  rw [decide_eq_true_eq]
  constructor
  · intro h
    have hle := comF_le a b
    apply List.ext_getElem
    · rw [List.length_take]; omega
    · intro i h1 h2
      rw [List.getElem_take]
      exact comF_same a b i (by omega) h1 (by rw [List.length_take] at h2; omega)
  · intro h
    have hl : a.length ≤ b.length := by
      have := congrArg List.length h
      rw [List.length_take] at this
      omega
    refine comF_is a b a.length (Nat.le_refl _) hl (fun i hi => ?_) (.inl rfl)
    have : a[i] = (b.take a.length)[i]'(by rw [List.length_take]; omega) := List.getElem_of_eq h hi
    rw [this, List.getElem_take]
theorem preF_takes (l : List ByteArray) (i j : Nat) (h : i ≤ j) : preF (l.take i) (l.take j) = true := by
  rw [preF_iff, List.take_take, List.length_take]
  rcases Nat.le_total i l.length with e | e
  · congr 1; omega
  · rw [List.take_of_length_le e, List.take_of_length_le (by omega)]
def meetF (l : List (List ByteArray)) : Bool := l.all fun a => l.all fun b => preF a b || preF b a
def bestF (l : List (List ByteArray)) : Nat → Nat → Nat
  | 0, _ => 0
  | n + 1, _ => let k := bestF l n 0; if (l.getD k []).length < (l.getD n []).length then n else k
def bestI (l : List (List ByteArray)) (n : Nat) : Nat := bestF l n 0
theorem bestI_succ (l : List (List ByteArray)) (n : Nat) : bestI l (n + 1) = if (l.getD (bestI l n) []).length < (l.getD n []).length then n else bestI l n := rfl
theorem bestI_lt (l : List (List ByteArray)) (n : Nat) (h : 0 < n) : bestI l n < n := by
  induction n with
  | zero => omega
  | succ n ih =>
    rw [bestI_succ]
    split
    · omega
    · rcases Nat.eq_zero_or_pos n with e | e
      · subst e; exact Nat.lt_succ_self 0
      · have := ih e; omega
theorem bestI_most (l : List (List ByteArray)) (n : Nat) (i : Nat) (hi : i < n) : (l.getD i []).length ≤ (l.getD (bestI l n) []).length := by
  induction n with
  | zero => omega
  | succ n ih =>
    rw [bestI_succ]
    rcases Nat.lt_or_ge i n with h | h
    · have := ih h
      split <;> omega
    · obtain rfl : i = n := by omega
      split <;> omega
def longF (l : List (List ByteArray)) : List ByteArray × Int := if l = [] then ([], 1) else if meetF l then (l.getD (bestI l l.length) [], 0) else ([], 11)
theorem meetF_two {l : List (List ByteArray)} (h : meetF l = true) {a b : List ByteArray} (ha : a ∈ l) (hb : b ∈ l) : preF a b = true ∨ preF b a = true := by
  unfold meetF at h
  rw [List.all_eq_true] at h
  have := h a ha
  rw [List.all_eq_true] at this
  have := this b hb
  rwa [Bool.or_eq_true] at this
theorem preF_len {a b : List ByteArray} (h : preF a b = true) : a.length ≤ b.length := by
  have := comF_le a b
  unfold preF at h
  rw [decide_eq_true_eq] at h
  omega
theorem preF_both {a b : List ByteArray} (h : preF a b = true ∨ preF b a = true) (hl : a.length ≤ b.length) : preF a b = true := by
  rcases h with h | h
  · exact h
  · have e : a.length = b.length := Nat.le_antisymm hl (preF_len h)
    have h2 := (preF_iff b a).1 h
    rw [← e, List.take_length] at h2
    rw [preF_iff, h2, List.take_length]
end Go.Proofs.Ytfcpclpaalekiaa
namespace Go.Proofs.Ytfcpclpaalekiaa
open Go.RowKit
set_option maxHeartbeats 4000000
attribute [local go_sem ↓] Go.wp_at_zero Go.wp_at_succ
set_option linter.unusedSimpArgs false
set_option linter.unusedVariables false
def TextsAt (w : World) (ao : Option Addr) (l : List ByteArray) : Prop := ∀ i (h : i < l.length), ∃ g off, ao = some ⟨g, off, none⟩ ∧ g < w.heap.size ∧ w.cell? ⟨g, off + i, none⟩ = some (.string l[i])
theorem TextsAt.below {w w' : World} {ao : Option Addr} {l : List ByteArray} (h : TextsAt w ao l) (hb : Below w.heap.size w w') : TextsAt w' ao l := fun i hi => by
  obtain ⟨g, off, h1, h2, h3⟩ := h i hi
  exact ⟨g, off, h1, Nat.lt_of_lt_of_le h2 hb.size, (hb.cell (p := ⟨g, _, none⟩) h2).trans h3⟩
theorem TextsAt.take {w : World} {ao : Option Addr} {l : List ByteArray} (h : TextsAt w ao l) (k : Nat) : TextsAt w ao (l.take k) := fun i hi => by
  rw [List.length_take] at hi
  obtain ⟨g, off, e, hg, hc⟩ := h i (by omega)
  refine ⟨g, off, e, hg, ?_⟩
  rw [hc, List.getElem_take]
def LogsAt (w : World) (ao : Option Addr) (l : List (List ByteArray)) : Prop := ∀ i (h : i < l.length), ∃ g off, ao = some ⟨g, off, none⟩ ∧ g < w.heap.size ∧ ∃ lo lc, w.cell? ⟨g, off + i, none⟩ = some (.slice lo l[i].length lc) ∧ TextsAt w lo l[i]
theorem LogsAt.below {w w' : World} {ao : Option Addr} {l : List (List ByteArray)} (h : LogsAt w ao l) (hb : Below w.heap.size w w') : LogsAt w' ao l := fun i hi => by
  obtain ⟨g, off, h1, h2, lo, lc, h3, h4⟩ := h i hi
  exact ⟨g, off, h1, Nat.lt_of_lt_of_le h2 hb.size, lo, lc, (hb.cell (p := ⟨g, _, none⟩) h2).trans h3, h4.below hb⟩
theorem toList_ne {x y : ByteArray} (h : ¬ x = y) : (x.toList == y.toList) = false := by
  rw [ByteArray.toList_eq, ByteArray.toList_eq]
  cases e : (x.data.toList == y.data.toList) with
  | false => rfl
  | true => exact absurd (ByteArray.ext (Array.ext' (eq_of_beq e))) h
theorem ptexts_eq (ao bo : Option Addr) (ca cb : Nat) (l : List ByteArray) (w : World) (ha : TextsAt w ao l) (hb : TextsAt w bo l) (hl : l.length ≤ 17592186044416) :
    Calls Try.prog 12 #[.slice ao l.length ca, .slice bo l.length cb] w fun e w' => e = .returned (.bool true) ∧ ∃ n, w' = w.drewN n := by
  have HA := hide ha
  have HB := hide hb
  clear ha hb
  go_enter Try.func12, Try.ntmps12
  go_wp2
  go_loopw [5] (fun i wv => ∃ k : Nat, k ≤ l.length ∧ i = .int .i64 (k : Nat) ∧ ∃ n, wv = w.drewN n) (fun i _ => l.length - (intOf i).toNat)
  case atStart => exact ⟨0, Nat.zero_le _, rfl, 0, rfl⟩
  case round =>
    obtain ⟨k, hk, rfl, nd, rfl⟩ := hrel
    by_cases hlt : k < l.length
    · obtain ⟨g, off, rfl, _, hc1⟩ := HA.out k hlt
      obtain ⟨g2, off2, rfl, _, hc2⟩ := HB.out k hlt
      have h0 : (0 : Int) ≤ (k : Int) := by omega
      have h1 : (k : Int) < (l.length : Int) := by omega
      generalize l[k] = x at *
      go_wp2
      go_quiet (fail)
      go_wp2
      exact ⟨⟨k + 1, by omega, by go_num, ⟨nd + nq, by first | rfl | exact World.drewN_drewN _ _ _⟩⟩, by simp [intOf]; omega⟩
    · have hi1 : ¬ (k : Int) < (l.length : Int) := by omega
      go_wp2
      go_ret
      exact ⟨rfl, nd, rfl⟩
theorem rcommon (ao bo : Option Addr) (ca cb : Nat) (a b : List ByteArray) (w : World) (ha : TextsAt w ao a) (hb : TextsAt w bo b) (hl : a.length ≤ 17592186044416) (hl2 : b.length ≤ 17592186044416) :
    Calls Try.prog 14 #[.slice ao a.length ca, .slice bo b.length cb] w fun e w' => e = .returned (.int .i64 (comF a b : Nat)) ∧ ∃ n, w' = w.drewN n := by
  have HA := hide ha
  have HB := hide hb
  have HC := hide (comF_is a b)
  clear ha hb
  generalize comF a b = cf at *
  go_enter Try.func14, Try.ntmps14
  go_wp2
  have S0 : Hid (∀ i (hi : i < 0) (h1 : i < a.length) (h2 : i < b.length), a[i] = b[i]) := fun i hi => by omega
  go_loopw [5] (fun i wv => ∃ k : Nat, k ≤ a.length ∧ k ≤ b.length ∧ i = .int .i64 (k : Nat) ∧ Hid (∀ i (hi : i < k) (h1 : i < a.length) (h2 : i < b.length), a[i] = b[i]) ∧ ∃ n, wv = w.drewN n) (fun i _ => a.length - (intOf i).toNat)
  case atStart => exact ⟨0, Nat.zero_le _, Nat.zero_le _, rfl, S0, 0, rfl⟩
  case round =>
    obtain ⟨k, hka, hkb, rfl, SV, nd, rfl⟩ := hrel
    by_cases hlt : k < a.length
    · have h0 : (0 : Int) ≤ (k : Int) := by omega
      have h1 : (k : Int) < (a.length : Int) := by omega
      have d1 : decide (k < a.length) = true := decide_eq_true hlt
      by_cases hlt2 : k < b.length
      · have h2 : (k : Int) < (b.length : Int) := by omega
        have d2 : decide (k < b.length) = true := decide_eq_true hlt2
        obtain ⟨g, off, rfl, _, hc1⟩ := HA.out k hlt
        obtain ⟨g2, off2, rfl, _, hc2⟩ := HB.out k hlt2
        by_cases e : a[k] = b[k]
        · have SN : Hid (∀ i (hi : i < k + 1) (h1 : i < a.length) (h2 : i < b.length), a[i] = b[i]) := fun i hi h1 h2 => by
            rcases Nat.lt_or_ge i k with h | h
            · exact SV.out i h h1 h2
            · obtain rfl : i = k := by omega
              exact e
          rw [← e] at hc2
          clear e SV
          generalize a[k] = x at *
          go_wp2
          go_quiet (fail)
          go_wp2
          exact ⟨⟨k + 1, by omega, by omega, by go_num, SN, ⟨nd + nq, by first | rfl | exact World.drewN_drewN _ _ _⟩⟩, by simp [intOf]; omega⟩
        · have HK : Hid (cf = k) := HC.out k hka hkb (fun i hi => SV.out i hi (by omega) (by omega)) (.inr (.inr ⟨hlt, hlt2, e⟩))
          clear SV
          generalize a[k] = x at *
          generalize b[k] = y at *
          have d4 := toList_ne e
          go_wp2
          go_quiet (fail)
          go_wp2
          go_ret
          exact ⟨by rw [HK.out]; rfl, ⟨nd + nq, by first | rfl | exact World.drewN_drewN _ _ _⟩⟩
      · have d2 : decide (k < b.length) = false := decide_eq_false hlt2
        have HK : Hid (cf = k) := HC.out k hka hkb (fun i hi => SV.out i hi (by omega) (by omega)) (.inr (.inl (by omega)))
        clear SV
        go_wp2
        go_quiet (fail)
        go_wp2
        go_ret
        exact ⟨by rw [HK.out]; rfl, ⟨nd + nq, by first | rfl | exact World.drewN_drewN _ _ _⟩⟩
    · have d1 : decide (k < a.length) = false := decide_eq_false hlt
      have HK : Hid (cf = k) := HC.out k hka hkb (fun i hi => SV.out i hi (by omega) (by omega)) (.inl (by omega))
      clear SV
      go_wp2
      go_quiet (fail)
      go_wp2
      go_ret
      exact ⟨by rw [HK.out]; rfl, ⟨nd + nq, by first | rfl | exact World.drewN_drewN _ _ _⟩⟩
theorem rprefix (ao bo : Option Addr) (ca cb : Nat) (a b : List ByteArray) (w : World) (ha : TextsAt w ao a) (hb : TextsAt w bo b) (hl : a.length ≤ 17592186044416) (hl2 : b.length ≤ 17592186044416) :
    Calls Try.prog 16 #[.slice ao a.length ca, .slice bo b.length cb] w fun e w' => e = .returned (.bool (preF a b)) ∧ ∃ n, w' = w.drewN n := by
  have HC := hide (rcommon ao bo ca cb a b w ha hb hl hl2)
  have HP : Hid (preF a b = decide (comF a b = a.length)) := rfl
  clear ha hb
  generalize comF a b = cf at *
  generalize preF a b = pf at *
  go_enter Try.func16, Try.ntmps16
  go_wp2_with (go_at_call 14; refine HC.out.mono ?_; rintro e w1 ⟨rfl, b1⟩)
  go_ret
  refine ⟨?_, b1⟩
  rw [HP.out]
  by_cases q : cf = a.length
  · subst q; simp
  · have q2 : ¬ (cf : Int) = (a.length : Int) := by omega
    simp [q, q2]
end Go.Proofs.Ytfcpclpaalekiaa
namespace Go.Proofs.Ytfcpclpaalekiaa
open Go.RowKit
attribute [local go_sem ↓] Go.wp_at_zero Go.wp_at_succ
set_option linter.unusedSimpArgs false
set_option linter.unusedVariables false
theorem preF_self (a : List ByteArray) : preF a a = true := by rw [preF_iff, List.take_length]
def meets (l : List (List ByteArray)) (i : Nat) : Prop := ∀ a b (ha : a < l.length) (hb : b < a), a < i → preF l[a] l[b] = true ∨ preF l[b] l[a] = true
theorem meetF_iff (l : List (List ByteArray)) : meetF l = true ↔ meets l l.length := by
  constructor
  · intro h a b ha hb _
    exact meetF_two h (List.getElem_mem ha) (List.getElem_mem (by omega))
  · intro h
    unfold meetF
    rw [List.all_eq_true]
    intro x hx
    rw [List.all_eq_true]
    intro y hy
    obtain ⟨i, hi, rfl⟩ := List.getElem_of_mem hx
    obtain ⟨k, hk, rfl⟩ := List.getElem_of_mem hy
    rw [Bool.or_eq_true]
    rcases Nat.lt_trichotomy i k with e | e | e
    · exact (h k i hk e hk).symm
    · subst e; exact .inl (preF_self _)
    · exact h i k hi e hi
theorem meetF_no {l : List (List ByteArray)} {i k : Nat} (hi : i < l.length) (hk : k < i) (h1 : preF l[i] l[k] = false) (h2 : preF l[k] l[i] = false) : meetF l = false := by
  cases h : meetF l with
  | false => rfl
  | true =>
    have := (meetF_iff l).1 h i k hi hk hi
    rw [h1, h2] at this
    simp at this
end Go.Proofs.Ytfcpclpaalekiaa
namespace Go.Proofs.Ytfcpclpaalekiaa
open Go.RowKit Go.Shelf
set_option maxHeartbeats 8000000
attribute [local go_sem ↓] Go.wp_at_zero Go.wp_at_succ
set_option linter.unusedSimpArgs false
set_option linter.unusedVariables false
theorem drewN_below (w : World) (n : Nat) : Below w.heap.size w (w.drewN n) := below_drewN (Below.refl _ w) n
theorem fshared (ao oo : Option Addr) (ca oc : Nat) (a b : List ByteArray) (w : World) (ha : TextsAt w ao a) (hb : LogsAt w oo [b]) (hl : a.length ≤ 17592186044416) (hl2 : b.length ≤ 17592186044416) :
    Calls Try.prog 26 #[.slice ao a.length ca, .slice oo 1 oc] w fun e w' => e = .returned (.int .i64 (comF a b : Nat)) ∧ Below w.heap.size w w' := by
  have HA := hide ha
  have HC := hide (comF_is a b)
  obtain ⟨g0, off0, hoo, hg0, lo, lc, hcl, hbt⟩ := hb 0 (by simp)
  have hcl : w.cell? ⟨g0, off0, none⟩ = some (.slice lo b.length lc) := hcl
  have HB : Hid (TextsAt w lo b) := hbt
  subst hoo
  clear ha hb hbt
  generalize comF a b = cf at *
  go_enter Try.func26, Try.ntmps26
  go_wp2
  go_step3
  go_wp2
  go_step3
  go_wp2
  have S0 : Hid (∀ i (hi : i < 0) (h1 : i < a.length) (h2 : i < b.length), a[i] = b[i]) := fun i hi => by omega
  go_loopw [5, 6, 7, 9, 12] (fun nv _ _ _ iv wv => ∃ k : Nat, k ≤ a.length ∧ k ≤ b.length ∧ nv = .int .i64 (k : Nat) ∧ iv = .int .i64 (k : Nat) ∧ Hid (∀ i (hi : i < k) (h1 : i < a.length) (h2 : i < b.length), a[i] = b[i]) ∧ ∃ n, wv = w.drewN n) (fun _ _ _ _ iv _ => a.length - (intOf iv).toNat)
  case atStart => exact ⟨0, Nat.zero_le _, Nat.zero_le _, rfl, rfl, S0, 0, rfl⟩
  case round =>
    obtain ⟨k, hka, hkb, rfl, rfl, SV, nd, rfl⟩ := hrel
    by_cases hlt : k < a.length
    · have y0 : (0 : Int) ≤ (k : Int) := by omega
      have y1 : (k : Int) < (a.length : Int) := by omega
      obtain ⟨g1, off1, rfl, hg1, hc1⟩ := HA.out k hlt
      have HK : Hid (¬ (k < b.length ∧ ∃ h : k < b.length, a[k] = b[k]) → cf = k) := fun hn => HC.out k hka hkb (fun i hi => SV.out i hi (by omega) (by omega)) (by
        by_cases e1 : k < b.length
        · exact .inr (.inr ⟨hlt, e1, fun e => hn ⟨e1, e1, e⟩⟩)
        · exact .inr (.inl (by omega)))
      have SN : Hid ((∃ h : k < b.length, a[k] = b[k]) → ∀ i (hi : i < k + 1) (h1 : i < a.length) (h2 : i < b.length), a[i] = b[i]) := fun ⟨h, e⟩ i hi h1 h2 => by
        rcases Nat.lt_or_ge i k with h | h
        · exact SV.out i h h1 h2
        · obtain rfl : i = k := by omega
          exact e
      generalize hx : a[k] = x at *
      have HX := hide hx
      clear hx SV
      go_wp2
      go_loopw [9, 19] (fun _ jv wv => ∃ j : Nat, j ≤ 1 ∧ jv = .int .i64 (j : Nat) ∧ Hid (j = 1 → ∃ h : k < b.length, x = b[k]) ∧ ∃ n, wv = w.drewN n) (fun _ jv _ => 1 - (intOf jv).toNat)
      case atStart => exact ⟨0, Nat.zero_le _, rfl, (fun h => by cases h), nd, rfl⟩
      case round =>
        obtain ⟨j, hj, rfl, JV, nd2, rfl⟩ := hrel
        rcases Nat.lt_or_ge j 1 with hj1 | hj1
        · obtain rfl : j = 0 := by omega
          by_cases hlt2 : k < b.length
          · obtain ⟨g2, off2, rfl, hg2, hc2⟩ := HB.out k hlt2
            have y2 : ¬ (b.length : Int) ≤ (k : Int) := by omega
            have y3 : (k : Int) < (b.length : Int) := by omega
            have d2 : decide ((b.length : Int) ≤ (k : Int)) = false := decide_eq_false y2
            by_cases e : x = b[k]
            · have HE : Hid (∃ h : k < b.length, x = b[k]) := ⟨hlt2, e⟩
              rw [← e] at hc2
              clear e
              go_wp2
              exact ⟨⟨1, by omega, rfl, fun _ => HE.out, nd2, rfl⟩, by simp [intOf]⟩
            · have HE : Hid (cf = k) := HK.out fun h => e h.2.2
              have e3 := toList_ne e
              have e4 := toList_ne (fun h => e h.symm)
              clear e
              generalize b[k] = y at *
              go_wp2
              try rw [Exit.noGoto_ret]
              go_ret
              exact ⟨by rw [HE.out]; rfl, drewN_below w _⟩
          · have y2 : (b.length : Int) ≤ (k : Int) := by omega
            have d2 : decide ((b.length : Int) ≤ (k : Int)) = true := decide_eq_true y2
            have HE : Hid (cf = k) := HK.out fun h => hlt2 h.1
            go_wp2
            try rw [Exit.noGoto_ret]
            go_ret
            exact ⟨by rw [HE.out]; rfl, drewN_below w _⟩
        · obtain rfl : j = 1 := by omega
          have HE : Hid (∃ h : k < b.length, x = b[k]) := JV.out rfl
          have SN2 := hide (SN.out HE.out)
          have hlt2 : k < b.length := HE.out.1
          go_wp2
          exact ⟨⟨k + 1, by omega, by omega, by go_num, by go_num, SN2.out, nd2, rfl⟩, by simp [intOf]; omega⟩
    · have y1 : ¬ (k : Int) < (a.length : Int) := by omega
      have HE : Hid (cf = k) := HC.out k hka hkb (fun i hi => SV.out i hi (by omega) (by omega)) (.inl (by omega))
      clear SV
      go_wp2
      try rw [Exit.noGoto_ret]
      go_ret
      exact ⟨by rw [HE.out]; rfl, drewN_below w _⟩
theorem fcommon (ao bo : Option Addr) (ca cb : Nat) (a b : List ByteArray) (w : World) (ha : TextsAt w ao a) (hb : TextsAt w bo b) (hl : a.length ≤ 17592186044416) (hl2 : b.length ≤ 17592186044416) :
    Calls Try.prog 13 #[.slice ao a.length ca, .slice bo b.length cb] w fun e w' => e = .returned (.int .i64 (comF a b : Nat)) ∧ Below w.heap.size w w' := by
  have HC : Hid (∀ w1 oo oc, Below w.heap.size w w1 → LogsAt w1 oo [b] → Calls Try.prog 26 #[.slice ao a.length ca, .slice oo 1 oc] w1 fun e w' => e = .returned (.int .i64 (comF a b : Nat)) ∧ Below w1.heap.size w1 w') := fun w1 oo oc b1 h => fshared ao oo ca oc a b w1 (ha.below b1) h hl hl2
  have HB := hide hb
  have BU := hide ((Below.refl w.heap.size w).alloc (Nat.le_refl _) (.cells #[.slice bo b.length cb] 23))
  have XN := hide (heap_alloc_new w (.cells #[.slice bo b.length cb] 23))
  have LG : Hid (LogsAt (w.alloc (.cells #[.slice bo b.length cb] 23)) (some ⟨w.heap.size, 0, none⟩) [b]) := by
    intro i hi
    obtain rfl : i = 0 := by simpa using hi
    exact ⟨w.heap.size, 0, rfl, heap_lt XN.out, bo, cb, box_cell XN.out 0 rfl, hb.below BU.out⟩
  clear ha hb
  generalize comF a b = cf at *
  go_enter Try.func13, Try.ntmps13
  go_wp2_with (go_at_call 26; refine (HC.out _ _ _ BU.out LG.out).mono ?_; rintro e w1 ⟨rfl, b1⟩; have B1 := hide (BU.out.trans (b1.mono BU.out.size)); clear b1)
  go_ret
  exact ⟨rfl, B1.out⟩
theorem fprefix (ao bo : Option Addr) (ca cb : Nat) (a b : List ByteArray) (w : World) (ha : TextsAt w ao a) (hb : TextsAt w bo b) (hl : a.length ≤ 17592186044416) (hl2 : b.length ≤ 17592186044416) :
    Calls Try.prog 15 #[.slice ao a.length ca, .slice bo b.length cb] w fun e w' => e = .returned (.bool (preF a b)) ∧ Below w.heap.size w w' := by
  have HC := hide (fcommon ao bo ca cb a b w ha hb hl hl2)
  have HP : Hid (preF a b = decide (comF a b = a.length)) := rfl
  clear ha hb
  generalize comF a b = cf at *
  generalize preF a b = pf at *
  go_enter Try.func15, Try.ntmps15
  go_wp2_with (go_at_call 13; refine HC.out.mono ?_; rintro e w1 ⟨rfl, b1⟩)
  go_ret
  refine ⟨?_, b1⟩
  rw [HP.out]
  by_cases q : cf = a.length
  · subst q; simp
  · have q2 : ¬ (cf : Int) = (a.length : Int) := by omega
    simp [q, q2]
end Go.Proofs.Ytfcpclpaalekiaa
