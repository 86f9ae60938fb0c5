/-
  Ballots and acceptors on plain numbers; numbersOf, Right, ahead, Less, same, isNone, isRightOrNone as they run (mka1.py).
-/
import Derived.Test.YtpopamechapmmaaRows
import Derived.Test.YtpopamechapmmaaZM0
import Derived.WalkSpells
import Derived.WalkLawsBesides
import Derived.BigQuiet
import Derived.Lib.QuietBelow
import Derived.Laws.StructEq
namespace Go.Proofs.Ytpopamechapmmaa
open Go.RowKit

theorem below_new {w W : World} (h : Below w.heap.size w W) (o : Obj) : Below w.heap.size w (W.alloc o) := h.alloc h.size o
theorem bthen {w W W' : World} (h : Below w.heap.size w W) (k : Below W.heap.size W W') : Below w.heap.size w W' := h.trans (k.mono h.size)
theorem below_set {w W : World} (h : Below w.heap.size w W) (b o : Nat) (v : Value) (hb : w.heap.size ≤ b) : Below w.heap.size w (W.setCell ⟨b, o, none⟩ v) := h.setCell hb v
theorem drewN_drewN (w : World) (a b : Nat) : (w.drewN a).drewN b = w.drewN (a + b) := by
  simp [World.drewN, Nat.add_assoc]
theorem ret_bool {a b : Bool} (h : b = a) : Ending.returned (.bool a) = .returned (.bool b) := by rw [h]
structure BL where
  r : Int
  n : Int
deriving DecidableEq
def BL.v (b : BL) : Value := .agg #[.int .i64 b.r, .int .i64 b.n]
def BL.right (b : BL) : Bool := decide (1 ≤ b.r ∧ b.r ≤ 9007199254740991 ∧ 0 ≤ b.n ∧ b.n < 7)
def BL.less (a b : BL) : Bool := decide (a.r < b.r ∨ a.r = b.r ∧ a.n < b.n)
def BL.none (b : BL) : Bool := decide (b.r = 0 ∧ b.n = 0)
def BL.same (a b : BL) : Bool := decide (a.r = b.r ∧ a.n = b.n)
def BL.may (b : BL) : Bool := b.right || b.none
theorem BL.same_eq (a b : BL) : a.same b = decide (a = b) := by
  unfold BL.same
  refine decide_eq_decide.2 ⟨fun ⟨h, k⟩ => ?_, fun h => h ▸ ⟨rfl, rfl⟩⟩
  cases a; cases b; simp only at h k; subst h k; rfl

theorem eqIn_nums (d : Nat) (a b c f : Int) (w : World) : (Op.equalIn (d + 2) 63 (.agg #[.int .i64 a, .int .i64 b]) (.agg #[.int .i64 c, .int .i64 f])).run Try.prog w = .ok (a == c && b == f) w := by
  rw [Op.equalIn]
  have h0 : (a == c) = true ∨ (a == c) = false := by cases a == c <;> simp
  have h1 : (b == f) = true ∨ (b == f) = false := by cases b == f <;> simp
  have e0 := fun w => run_equalIn_int (P := Try.prog) w d 3 .i64 .i64 a c Try.underlying3
  have e1 := fun w => run_equalIn_int (P := Try.prog) w d 3 .i64 .i64 b f Try.underlying3
  rcases h0 with h0 | h0 <;> rcases h1 with h1 | h1 <;> rw [h0] at e0 <;> rw [h1] at e1 <;>
    simp [go_sem, List.range', List.forIn_cons, e0, e1, h0, h1]
theorem guard_nums : Try.prog.eqGuardType Try.prog.depth 63 = false := by kernel_rfl
theorem eq_nums (a b c f : Int) (w : World) : (Op.equalIn 10000 63 (.agg #[.int .i64 a, .int .i64 b]) (.agg #[.int .i64 c, .int .i64 f])).run Try.prog w = .ok (a == c && b == f) w := eqIn_nums 9998 a b c f w
theorem same_beq (r n q m : Int) : BL.same ⟨r, n⟩ ⟨q, m⟩ = (r == q && n == m) := by
  unfold BL.same
  by_cases h : r = q <;> by_cases k : n = m <;> simp [h, k]
theorem less_ne {r n q m : Int} (h : ¬ r = q) : BL.less ⟨r, n⟩ ⟨q, m⟩ = decide (r < q) := decide_eq_decide.2 (by show r < q ∨ r = q ∧ n < m ↔ r < q; omega)
theorem less_two (r n m : Int) : BL.less ⟨r, n⟩ ⟨r, m⟩ = decide (n < m) := decide_eq_decide.2 (by show r < r ∨ r = r ∧ n < m ↔ n < m; omega)
theorem less_self (a : BL) : a.less a = false := decide_eq_false (by omega)
theorem numbersOf_any (b : BL) (w : World) : Calls Try.prog 26 #[b.v] w fun e w' => e = .returned b.v ∧ Below w.heap.size w w' := by
  obtain ⟨r, n⟩ := b
  simp only [BL.v]
  go_enter Try.func26, Try.ntmps26
  go_wp2
  refine bodyPost_ret (v := .agg #[.int .i64 r, .int .i64 n]) (by simp [results, Try.results26, go_sem]) rfl ⟨rfl, ?_⟩
  exact below_new (below_new (Below.refl _ w) _) _

set_option maxHeartbeats 1000000 in
theorem pright (b : BL) (w : World) : Calls Try.prog 14 #[b.v] w fun e w' => e = .returned (.bool b.right) ∧ Below w.heap.size w w' := by
  obtain ⟨r, n⟩ := b
  simp only [BL.v]
  have HB := hide (below_new (Below.refl w.heap.size w) (.cells #[.int .i64 r, .int .i64 n] 23))
  by_cases h0 : 1 ≤ r
  · skip
    by_cases h1 : r ≤ 9007199254740991
    · skip
      by_cases h2 : 0 ≤ n
      · skip
        by_cases h3 : n < 7
        · skip
          have e : BL.right ⟨r, n⟩ = true := by unfold BL.right; simp only; exact decide_eq_true (by omega)
          go_enter Try.func14, Try.ntmps14
          rw [e]
          clear e
          go_wp2
          go_ret
          exact ⟨rfl, HB.out⟩
        · skip
          have e : BL.right ⟨r, n⟩ = false := by unfold BL.right; simp only; exact decide_eq_false (by omega)
          go_enter Try.func14, Try.ntmps14
          rw [e]
          clear e
          go_wp2
          go_ret
          exact ⟨rfl, HB.out⟩
      · skip
        have e : BL.right ⟨r, n⟩ = false := by unfold BL.right; simp only; exact decide_eq_false (by omega)
        go_enter Try.func14, Try.ntmps14
        rw [e]
        clear e
        go_wp2
        go_ret
        exact ⟨rfl, HB.out⟩
    · skip
      have e : BL.right ⟨r, n⟩ = false := by unfold BL.right; simp only; exact decide_eq_false (by omega)
      go_enter Try.func14, Try.ntmps14
      rw [e]
      clear e
      go_wp2
      go_ret
      exact ⟨rfl, HB.out⟩
  · skip
    have e : BL.right ⟨r, n⟩ = false := by unfold BL.right; simp only; exact decide_eq_false (by omega)
    go_enter Try.func14, Try.ntmps14
    rw [e]
    clear e
    go_wp2
    go_ret
    exact ⟨rfl, HB.out⟩

set_option maxHeartbeats 1000000 in
theorem ahead_any (a b : BL) (w : World) : Calls Try.prog 27 #[a.v, b.v] w fun e w' => e = .returned (.bool (a.less b)) ∧ Below w.heap.size w w' := by
  obtain ⟨r, n⟩ := a
  obtain ⟨q, m⟩ := b
  simp only [BL.v]
  obtain ⟨c, hc⟩ : ∃ c, c = BL.less ⟨r, n⟩ ⟨q, m⟩ := ⟨_, rfl⟩
  rw [← hc]
  have HC := hide hc
  clear hc
  go_enter Try.func27, Try.ntmps27
  go_wp2
  have HB := hide (below_new (below_new (Below.refl w.heap.size w) (.cells #[.int .i64 r, .int .i64 n] 63)) (.cells #[.int .i64 q, .int .i64 m] 63))
  go_loopw [6] (fun iv wv => ∃ (i k : Nat), iv = .int .i64 i ∧ i ≤ 2 ∧ Hid (1 ≤ i → r = q) ∧ Hid (2 ≤ i → n = m) ∧ wv = ((w.alloc (.cells #[.int .i64 r, .int .i64 n] 63)).alloc (.cells #[.int .i64 q, .int .i64 m] 63)).drewN k) (fun iv _ => 2 - (intOf iv).toNat)
  case atStart => exact ⟨0, 0, rfl, by omega, fun h => by omega, fun h => by omega, rfl⟩
  case round =>
    obtain ⟨i, k, rfl, hi, h1, h2, rfl⟩ := hrel
    rcases (by omega : i = 0 ∨ i = 1 ∨ i = 2) with rfl | rfl | rfl
    · clear h1 h2
      by_cases e : r = q
      · subst e
        go_wp2
        go_quiet (fail)
        go_wp2
        go_roundw
        case rel => exact ⟨1, k + nq, rfl, by omega, fun _ => by first | trivial | rfl, fun h => by omega, by first | trivial | exact drewN_drewN _ _ _⟩
        case measure => simp [intOf]
      · have e1 : (r == q) = false := by rw [beq_eq_false_iff_ne]; exact e
        have e2 : (r != q) = true := by rw [bne_iff_ne]; exact e
        go_wp2
        go_quiet (fail)
        go_wp2
        go_quiet (fail)
        go_wp2
        go_ret
        exact ⟨ret_bool (HC.out.trans (less_ne e)), by first | exact below_drewN (below_drewN (below_drewN HB.out _) _) _ | exact below_drewN (below_drewN HB.out _) _⟩
    · have h1 := h1.out (by omega)
      subst h1
      clear h2
      by_cases e : n = m
      · subst e
        go_wp2
        go_quiet (fail)
        go_wp2
        go_roundw
        case rel => exact ⟨2, k + nq, rfl, by omega, fun _ => by first | trivial | rfl, fun _ => by first | trivial | rfl, by first | trivial | exact drewN_drewN _ _ _⟩
        case measure => simp [intOf]
      · have e1 : (n == m) = false := by rw [beq_eq_false_iff_ne]; exact e
        have e2 : (n != m) = true := by rw [bne_iff_ne]; exact e
        go_wp2
        go_quiet (fail)
        go_wp2
        go_quiet (fail)
        go_wp2
        go_ret
        exact ⟨ret_bool (HC.out.trans (less_two _ _ _)), by first | exact below_drewN (below_drewN (below_drewN HB.out _) _) _ | exact below_drewN (below_drewN HB.out _) _⟩
    · have h1 := h1.out (by omega)
      have h2 := h2.out (by omega)
      subst h1 h2
      go_wp2
      go_ret
      exact ⟨ret_bool (HC.out.trans (less_self _)), below_drewN HB.out _⟩

set_option maxHeartbeats 1000000 in
theorem less_any (a b : BL) (w : World) : Calls Try.prog 13 #[a.v, b.v] w fun e w' => e = .returned (.bool (a.less b)) ∧ Below w.heap.size w w' := by
  have HA := hide (fun W => ahead_any a b W)
  have HN1 := hide (fun W => numbersOf_any a W)
  have HN2 := hide (fun W => numbersOf_any b W)
  generalize a.less b = c at *
  obtain ⟨r, n⟩ := a
  obtain ⟨q, m⟩ := b
  simp only [BL.v] at *
  go_enter Try.func13, Try.ntmps13
  go_wp2_with fail
  have X0 := box_alloc (heap_alloc_new w (.cells #[.int .i64 r, .int .i64 n] 23)) (.cells #[.int .i64 q, .int .i64 m] 23)
  have X1 : ((w.alloc (.cells #[.int .i64 r, .int .i64 n] 23)).alloc (.cells #[.int .i64 q, .int .i64 m] 23)).heap[w.heap.size + 1]? = some (.cells #[.int .i64 q, .int .i64 m] 23) := by have := heap_alloc_new (w.alloc (.cells #[.int .i64 r, .int .i64 n] 23)) (.cells #[.int .i64 q, .int .i64 m] 23); simpa using this
  have B0 := hide (below_new (below_new (Below.refl _ w) (.cells #[.int .i64 r, .int .i64 n] 23)) (.cells #[.int .i64 q, .int .i64 m] 23))
  generalize (w.alloc (.cells #[.int .i64 r, .int .i64 n] 23)).alloc (.cells #[.int .i64 q, .int .i64 m] 23) = w1 at *
  have d0 := cell_regrown (box_cell X0 0 rfl)
  have d1 := cell_regrown (box_cell X0 1 rfl)
  have d2 := cell_regrown (box_cell X1 0 rfl)
  have d3 := cell_regrown (box_cell X1 1 rfl)
  refine wp_region_quiet_below (by kernel_rfl) (by kernel_rfl) ?_
  repeat (go_big_quiet_step (first | (go_at_call 26; first | exact Calls.regrown_of (HN1.out _) | exact Calls.regrown_of (HN2.out _)) | (go_at_call 27; first | exact Calls.regrown_of (HA.out _))))
  refine wpQuiet_nil ?_
  intro _ hw'
  obtain ⟨⟨dq, osq⟩, hw''⟩ := hw'
  subst hw''
  have bb := below_regrown w1 dq osq
  generalize Go.Sort.grow (redrawn w1 dq) osq = w2 at *
  clear d0 d1 d2 d3
  go_wp2
  go_ret
  exact ⟨rfl, bthen B0.out bb⟩
set_option maxHeartbeats 1000000 in
theorem same_any (a b : BL) (w : World) : Calls Try.prog 25 #[a.v, b.v] w fun e w' => e = .returned (.bool (a.same b)) ∧ Below w.heap.size w w' := by
  have HN1 := hide (fun W => numbersOf_any a W)
  have HN2 := hide (fun W => numbersOf_any b W)
  obtain ⟨r, n⟩ := a
  obtain ⟨q, m⟩ := b
  rw [same_beq]
  have hg := guard_nums
  have he := eq_nums r n q m
  generalize (r == q && n == m) = c at *
  simp only [BL.v] at *
  go_enter Try.func25, Try.ntmps25
  go_wp2_with fail
  have X0 := box_alloc (heap_alloc_new w (.cells #[.int .i64 r, .int .i64 n] 23)) (.cells #[.int .i64 q, .int .i64 m] 23)
  have X1 : ((w.alloc (.cells #[.int .i64 r, .int .i64 n] 23)).alloc (.cells #[.int .i64 q, .int .i64 m] 23)).heap[w.heap.size + 1]? = some (.cells #[.int .i64 q, .int .i64 m] 23) := by have := heap_alloc_new (w.alloc (.cells #[.int .i64 r, .int .i64 n] 23)) (.cells #[.int .i64 q, .int .i64 m] 23); simpa using this
  have B0 := hide (below_new (below_new (Below.refl _ w) (.cells #[.int .i64 r, .int .i64 n] 23)) (.cells #[.int .i64 q, .int .i64 m] 23))
  generalize (w.alloc (.cells #[.int .i64 r, .int .i64 n] 23)).alloc (.cells #[.int .i64 q, .int .i64 m] 23) = w1 at *
  have d0 := cell_regrown (box_cell X0 0 rfl)
  have d1 := cell_regrown (box_cell X0 1 rfl)
  have d2 := cell_regrown (box_cell X1 0 rfl)
  have d3 := cell_regrown (box_cell X1 1 rfl)
  refine wp_region_quiet_below (by kernel_rfl) (by kernel_rfl) ?_
  repeat (go_big_quiet_step (first | (go_at_call 26; first | exact Calls.regrown_of (HN1.out _) | exact Calls.regrown_of (HN2.out _))))
  refine wpQuiet_nil ?_
  intro _ hw'
  obtain ⟨⟨dq, osq⟩, hw''⟩ := hw'
  subst hw''
  have bb := below_regrown w1 dq osq
  generalize Go.Sort.grow (redrawn w1 dq) osq = w2 at *
  clear d0 d1 d2 d3
  go_wp2
  go_ret
  exact ⟨rfl, bthen B0.out bb⟩
theorem none_beq (r n : Int) : BL.none ⟨r, n⟩ = (r == 0 && n == 0) := by
  unfold BL.none
  by_cases h : r = 0 <;> by_cases k : n = 0 <;> simp [h, k]
set_option maxHeartbeats 1000000 in
theorem isNone_any (a : BL) (w : World) : Calls Try.prog 29 #[a.v] w fun e w' => e = .returned (.bool a.none) ∧ Below w.heap.size w w' := by
  have HN1 := hide (fun W => numbersOf_any a W)
  obtain ⟨r, n⟩ := a
  rw [none_beq]
  have hg := guard_nums
  have he := eq_nums r n 0 0
  generalize (r == 0 && n == 0) = c at *
  simp only [BL.v] at *
  go_enter Try.func29, Try.ntmps29
  go_wp2_with (go_at_call 26; refine (HN1.out _).mono ?_; rintro e w2 ⟨rfl, bb⟩)
  go_ret
  exact ⟨rfl, bthen (below_new (Below.refl _ w) _) bb⟩
set_option maxHeartbeats 1000000 in
theorem may_any (a : BL) (w : World) : Calls Try.prog 28 #[a.v] w fun e w' => e = .returned (.bool a.may) ∧ Below w.heap.size w w' := by
  have HN := hide (fun W => isNone_any a W)
  have HR := hide (fun W => pright a W)
  unfold BL.may
  have X := heap_alloc_new w (.cells #[.int .i64 a.r, .int .i64 a.n] 23)
  generalize a.right = c at *
  generalize a.none = d at *
  obtain ⟨r, n⟩ := a
  simp only [BL.v] at *
  cases c with
  | true =>
    go_enter Try.func28, Try.ntmps28
    go_wp2_with (go_at_call 14; refine (HR.out _).mono ?_; rintro e w2 ⟨rfl, bb⟩)
    go_ret
    exact ⟨rfl, bthen (below_new (Below.refl _ w) _) bb⟩
  | false =>
    go_enter Try.func28, Try.ntmps28
    go_wp2_with (first | (go_at_call 14; refine (HR.out _).mono ?_; rintro e w2 ⟨rfl, bb⟩; have c0 := box_cell (Below.at bb X) 0 rfl; have c1 := box_cell (Below.at bb X) 1 rfl) | (go_at_call 29; refine (HN.out _).mono ?_; rintro e w3 ⟨rfl, bb3⟩))
    go_ret
    exact ⟨rfl, bthen (bthen (below_new (Below.refl _ w) _) bb) bb3⟩
end Go.Proofs.Ytpopamechapmmaa
