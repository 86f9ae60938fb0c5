/-
  The program's Take, as it runs (mkdt.py).
-/
import Derived.Test.YthgfijmpofbchaaZD7
import Derived.Test.YthgfijmpofbchaaZD8
import Derived.Test.YthgfijmpofbchaaZD9
import Derived.Lib.QuietBelow
import Derived.BigQuiet
import Derived.BigRegion
namespace Go.Proofs.Ythgfijmpofbchaa
open Go.RowKit

/-- A frame's numbers. -/
structure FN (f : FR) (E p q A : Nat) : Prop where
  e : f.epoch = E
  p : f.peer = p
  q : f.seq = q
  a : f.ack = A
/-- What Take leaves. -/
structure Took (w w' : World) (b : Nat) (v v' bv : Value) (l' : LK) (bodies : List ByteArray) : Prop where
  link : PL w' b v' l'
  step : PStep w w' b v v'
  row : w'.ownsRow w.heap.size 9 1 bv bodies.length (bodies.map .string)
theorem below_at {w w' : World} (hb : Below w.heap.size w w') {k : Nat} {o : Obj} (h : w.heap[k]? = some o) : w'.heap[k]? = some o := (hb.block k (heap_lt h)).trans h
section
variable {w : World} {b : Nat} {v : Value} {l : LK}
set_option maxHeartbeats 8000000 in
set_option maxRecDepth 100000 in
theorem ptake_wrong (b : Nat) (w : World) (f : FR) (hf : f.ok) (hr : ¬ f.rightP) : Calls Try.prog 16 #[.pointer (some ⟨b, 0, none⟩), f.v] w fun e w' => e = .returned (.tuple #[.slice none 0 0, .bool false]) ∧ Below w.heap.size w w' := by
  have HR := hide (pright f hf)
  rw [decide_eq_false hr] at HR
  clear hr hf
  obtain ⟨ep, pe, sq, ak, bo⟩ := f
  simp only [FR.v] at *
  have X := hide (heap_alloc_new w (.cells #[.int .i64 ep, .int .i64 pe, .int .i64 sq, .int .i64 ak, .string bo] 31))
  have B0 := hide ((Below.refl w.heap.size w).alloc (Nat.le_refl _) (.cells #[.int .i64 ep, .int .i64 pe, .int .i64 sq, .int .i64 ak, .string bo] 31))
  go_enter Try.func16, Try.ntmps16
  go_wp2_with fail
  generalize w.alloc (.cells #[.int .i64 ep, .int .i64 pe, .int .i64 sq, .int .i64 ak, .string bo] 31) = w1 at *
  have x0 := cell_regrown (box_cell X.out 0 rfl)
  have x1 := cell_regrown (box_cell X.out 1 rfl)
  have x2 := cell_regrown (box_cell X.out 2 rfl)
  have x3 := cell_regrown (box_cell X.out 3 rfl)
  have x4 := cell_regrown (box_cell X.out 4 rfl)
  refine wp_region_quiet_below (by kernel_rfl) (by kernel_rfl) ?_
  repeat (go_big_quiet_step (first | (go_at_call 30; exact Calls.regrown_of (HR.out _))))
  refine wpQuiet_nil ?_
  intro _ hw'
  obtain ⟨⟨dq, osq⟩, hw''⟩ := hw'
  subst hw''
  have X4 := hide (below_at (below_regrown w1 dq osq) X.out)
  have B4 := hide (B0.out.trans ((below_regrown w1 dq osq).mono B0.out.size))
  generalize Go.Sort.grow (redrawn w1 dq) osq = w4 at *
  clear x0 x1 x2 x3 x4 X B0
  go_wp2
  go_ret2
  exact ⟨rfl, B4.out⟩
set_option maxHeartbeats 8000000 in
set_option maxRecDepth 100000 in
theorem ptake_elder (h : PL w b v l) (f : FR) (hf : f.ok) (hr : f.rightP) (he : f.epoch < l.peer) : Calls Try.prog 16 #[.pointer (some ⟨b, 0, none⟩), f.v] w fun e w' => e = .returned (.tuple #[.slice none 0 0, .bool false]) ∧ Below w.heap.size w w' := by
  have HR := hide (pright f hf)
  rw [decide_eq_true hr] at HR
  obtain ⟨ep, pe, sq, ak, bo⟩ := f
  simp only [FR.v] at *
  have g1 : ep < (l.peer : Int) := he
  have g2 : decide (ep < (l.peer : Int)) = true := decide_eq_true g1
  have HH := hide h
  clear he hr hf h
  have X := hide (heap_alloc_new w (.cells #[.int .i64 ep, .int .i64 pe, .int .i64 sq, .int .i64 ak, .string bo] 31))
  have B0 := hide ((Below.refl w.heap.size w).alloc (Nat.le_refl _) (.cells #[.int .i64 ep, .int .i64 pe, .int .i64 sq, .int .i64 ak, .string bo] 31))
  go_enter Try.func16, Try.ntmps16
  go_wp2_with fail
  generalize w.alloc (.cells #[.int .i64 ep, .int .i64 pe, .int .i64 sq, .int .i64 ak, .string bo] 31) = w1 at *
  have x0 := cell_regrown (box_cell X.out 0 rfl)
  have x1 := cell_regrown (box_cell X.out 1 rfl)
  have x2 := cell_regrown (box_cell X.out 2 rfl)
  have x3 := cell_regrown (box_cell X.out 3 rfl)
  have x4 := cell_regrown (box_cell X.out 4 rfl)
  have H1 := hide (HH.out.below B0.out)
  have c1 := cell_regrown H1.out.c.2.1
  refine wp_region_quiet_below (by kernel_rfl) (by kernel_rfl) ?_
  repeat (go_big_quiet_step (first | (go_at_call 30; exact Calls.regrown_of (HR.out _))))
  refine wpQuiet_nil ?_
  intro _ hw'
  obtain ⟨⟨dq, osq⟩, hw''⟩ := hw'
  subst hw''
  have X4 := hide (below_at (below_regrown w1 dq osq) X.out)
  have B4 := hide (B0.out.trans ((below_regrown w1 dq osq).mono B0.out.size))
  generalize Go.Sort.grow (redrawn w1 dq) osq = w4 at *
  clear x0 x1 x2 x3 x4 X B0
  go_wp2
  go_ret2
  exact ⟨rfl, B4.out⟩
set_option maxHeartbeats 8000000 in
set_option maxRecDepth 100000 in
theorem ptake_same_stale (h : PL w b v l) (f : FR) (hf : f.ok) (hr : f.rightP) {E p q A : Nat} (hn : FN f E p q A) (hE : E = l.peer) (hp : p ≠ l.epoch) : Calls Try.prog 16 #[.pointer (some ⟨b, 0, none⟩), f.v] w fun e w' => e = .returned (.tuple #[.slice none 0 0, .bool false]) ∧ ∃ v', Took w w' b v v' (.slice none 0 0) { l with owes := true } [] := by
  have HR := hide (pright f hf)
  rw [decide_eq_true hr] at HR
  obtain ⟨ep, pe, sq, ak, bo⟩ := f
  obtain ⟨hn1, hn2, hn3, hn4⟩ := hn
  simp only at hn1 hn2 hn3 hn4
  subst hn1 hn2 hn3 hn4
  have r2 : (E : Int) ≤ 9007199254740991 := hr.2.1
  have r3 : (q : Int) ≤ 9007199254740991 := hr.2.2.2.2.2.1
  have r4 : (A : Int) ≤ 9007199254740991 := hr.2.2.2.2.2.2.2.1
  have r5 : bo.size ≤ 100000 := hr.2.2.2.2.2.2.2.2.1
  simp only [FR.v] at *
  have g1 : ¬ (E : Int) < (l.peer : Int) := by omega
  have g1b : ¬ (l.peer : Int) < (E : Int) := by omega
  have g1c : decide ((E : Int) < (l.peer : Int)) = false := decide_eq_false g1
  have g1d : decide ((l.peer : Int) < (E : Int)) = false := decide_eq_false g1b
  have m1 : ¬ E < l.peer := by omega
  have m2 : ¬ l.peer < E := by omega
  clear hE
  have HH := hide h
  have HP := hide hp
  clear hr hf h hp
  have X := hide (heap_alloc_new w (.cells #[.int .i64 (E : Int), .int .i64 (p : Int), .int .i64 (q : Int), .int .i64 (A : Int), .string bo] 31))
  have B0 := hide ((Below.refl w.heap.size w).alloc (Nat.le_refl _) (.cells #[.int .i64 (E : Int), .int .i64 (p : Int), .int .i64 (q : Int), .int .i64 (A : Int), .string bo] 31))
  go_enter Try.func16, Try.ntmps16
  go_wp2_with fail
  generalize w.alloc (.cells #[.int .i64 (E : Int), .int .i64 (p : Int), .int .i64 (q : Int), .int .i64 (A : Int), .string bo] 31) = w1 at *
  have x0 := cell_regrown (box_cell X.out 0 rfl)
  have x1 := cell_regrown (box_cell X.out 1 rfl)
  have x2 := cell_regrown (box_cell X.out 2 rfl)
  have x3 := cell_regrown (box_cell X.out 3 rfl)
  have x4 := cell_regrown (box_cell X.out 4 rfl)
  have H1 := hide (HH.out.below B0.out)
  have c1 := cell_regrown H1.out.c.2.1
  refine wp_region_quiet_below (by kernel_rfl) (by kernel_rfl) ?_
  repeat (go_big_quiet_step (first | (go_at_call 30; exact Calls.regrown_of (HR.out _))))
  refine wpQuiet_nil ?_
  intro _ hw'
  obtain ⟨⟨dq, osq⟩, hw''⟩ := hw'
  subst hw''
  have X4 := hide (below_at (below_regrown w1 dq osq) X.out)
  have B4 := hide (B0.out.trans ((below_regrown w1 dq osq).mono B0.out.size))
  generalize Go.Sort.grow (redrawn w1 dq) osq = w4 at *
  clear x0 x1 x2 x3 x4 X B0
  have H4 := hide (HH.out.below B4.out)
  clear H1 c1 HR
  go_wp2_with fail
  have x0 := cell_regrown (box_cell X4.out 0 rfl)
  have c1 := cell_regrown H4.out.c.2.1
  refine wp_region_quiet_below (by kernel_rfl) (by kernel_rfl) ?_
  repeat (go_big_quiet_step (first | fail))
  refine wpQuiet_nil ?_
  intro _ hw'
  obtain ⟨⟨dq, osq⟩, hw''⟩ := hw'
  subst hw''
  have X5 := hide (below_at (below_regrown w4 dq osq) X4.out)
  have B5 := hide (B4.out.trans ((below_regrown w4 dq osq).mono B4.out.size))
  generalize Go.Sort.grow (redrawn w4 dq) osq = w5 at *
  have H5 := hide (HH.out.below B5.out)
  clear x0 c1 X4 B4 H4
  have S5 : Hid (PStep w w5 b v v) := PStep.below B5.out
  obtain ⟨lh, hlh⟩ : ∃ lh, lh = l := ⟨_, rfl⟩
  have hp := HP.out
  have e0 : lh.epoch = l.epoch := by rw [hlh]
  rw [← hlh] at H5
  have g2 : ((p : Int) == (lh.epoch : Int)) = false := by rw [beq_eq_false_iff_ne]; omega
  have g2b : ((p : Int) != (lh.epoch : Int)) = true := by rw [bne_iff_ne]; omega
  have g2c : (p == lh.epoch) = false := by rw [beq_eq_false_iff_ne]; omega
  have g2d : (p != lh.epoch) = true := by rw [bne_iff_ne]; omega
  have HL := hide hlh
  have HE0 := hide e0
  clear hp e0 hlh
  go_wp2_with fail
  have x1 := cell_regrown (box_cell X5.out 1 rfl)
  have c0 := cell_regrown H5.out.c.1
  refine wp_region_quiet_below (by kernel_rfl) (by kernel_rfl) ?_
  repeat (go_big_quiet_step (first | fail))
  refine wpQuiet_nil ?_
  intro _ hw'
  obtain ⟨⟨dq, osq⟩, hw''⟩ := hw'
  subst hw''
  have X7 := hide (below_at (below_regrown w5 dq osq) X5.out)
  have H7 := hide (H5.out.below (below_regrown w5 dq osq))
  have S7 := hide (S5.out.trans (PStep.below (below_regrown w5 dq osq)))
  generalize Go.Sort.grow (redrawn w5 dq) osq = w7 at *
  clear x1 c0 X5 H5 S5
  obtain ⟨_, _, _, _, _, _, _, c7⟩ := H7.out.c
  have f7 := H7.out.f 7
  go_wp2
  go_ret2
  obtain rfl := HL.out
  refine ⟨rfl, v, H7.out.owe true, S7.out.trans (PStep.of ((Touch.refl _ w7).setCell _ _ fun _ => rfl)), World.ownsRow_nil _ _ _ _⟩
set_option maxHeartbeats 8000000 in
set_option maxRecDepth 100000 in
theorem ptake_same_heard (h : PL w b v l) (f : FR) (hf : f.ok) (hr : f.rightP) {E p q A : Nat} (hn : FN f E p q A) (hE : E = l.peer) (hp : p = l.epoch) : Calls Try.prog 16 #[.pointer (some ⟨b, 0, none⟩), f.v] w fun e w' => ∃ ao cp, e = .returned (.tuple #[.slice ao ((l.ackd A).get q f.body).1.length cp, .bool false]) ∧ ∃ v', Took w w' b v v' (.slice ao ((l.ackd A).get q f.body).1.length cp) ((l.ackd A).get q f.body).2 ((l.ackd A).get q f.body).1 := by
  have HR := hide (pright f hf)
  rw [decide_eq_true hr] at HR
  obtain ⟨ep, pe, sq, ak, bo⟩ := f
  obtain ⟨hn1, hn2, hn3, hn4⟩ := hn
  simp only at hn1 hn2 hn3 hn4
  subst hn1 hn2 hn3 hn4
  have r2 : (E : Int) ≤ 9007199254740991 := hr.2.1
  have r3 : (q : Int) ≤ 9007199254740991 := hr.2.2.2.2.2.1
  have r4 : (A : Int) ≤ 9007199254740991 := hr.2.2.2.2.2.2.2.1
  have r5 : bo.size ≤ 100000 := hr.2.2.2.2.2.2.2.2.1
  simp only [FR.v] at *
  have g1 : ¬ (E : Int) < (l.peer : Int) := by omega
  have g1b : ¬ (l.peer : Int) < (E : Int) := by omega
  have g1c : decide ((E : Int) < (l.peer : Int)) = false := decide_eq_false g1
  have g1d : decide ((l.peer : Int) < (E : Int)) = false := decide_eq_false g1b
  have m1 : ¬ E < l.peer := by omega
  have m2 : ¬ l.peer < E := by omega
  clear hE
  have HH := hide h
  have HP := hide hp
  clear hr hf h hp
  have X := hide (heap_alloc_new w (.cells #[.int .i64 (E : Int), .int .i64 (p : Int), .int .i64 (q : Int), .int .i64 (A : Int), .string bo] 31))
  have B0 := hide ((Below.refl w.heap.size w).alloc (Nat.le_refl _) (.cells #[.int .i64 (E : Int), .int .i64 (p : Int), .int .i64 (q : Int), .int .i64 (A : Int), .string bo] 31))
  go_enter Try.func16, Try.ntmps16
  go_wp2_with fail
  generalize w.alloc (.cells #[.int .i64 (E : Int), .int .i64 (p : Int), .int .i64 (q : Int), .int .i64 (A : Int), .string bo] 31) = w1 at *
  have x0 := cell_regrown (box_cell X.out 0 rfl)
  have x1 := cell_regrown (box_cell X.out 1 rfl)
  have x2 := cell_regrown (box_cell X.out 2 rfl)
  have x3 := cell_regrown (box_cell X.out 3 rfl)
  have x4 := cell_regrown (box_cell X.out 4 rfl)
  have H1 := hide (HH.out.below B0.out)
  have c1 := cell_regrown H1.out.c.2.1
  refine wp_region_quiet_below (by kernel_rfl) (by kernel_rfl) ?_
  repeat (go_big_quiet_step (first | (go_at_call 30; exact Calls.regrown_of (HR.out _))))
  refine wpQuiet_nil ?_
  intro _ hw'
  obtain ⟨⟨dq, osq⟩, hw''⟩ := hw'
  subst hw''
  have X4 := hide (below_at (below_regrown w1 dq osq) X.out)
  have B4 := hide (B0.out.trans ((below_regrown w1 dq osq).mono B0.out.size))
  generalize Go.Sort.grow (redrawn w1 dq) osq = w4 at *
  clear x0 x1 x2 x3 x4 X B0
  have H4 := hide (HH.out.below B4.out)
  clear H1 c1 HR
  go_wp2_with fail
  have x0 := cell_regrown (box_cell X4.out 0 rfl)
  have c1 := cell_regrown H4.out.c.2.1
  refine wp_region_quiet_below (by kernel_rfl) (by kernel_rfl) ?_
  repeat (go_big_quiet_step (first | fail))
  refine wpQuiet_nil ?_
  intro _ hw'
  obtain ⟨⟨dq, osq⟩, hw''⟩ := hw'
  subst hw''
  have X5 := hide (below_at (below_regrown w4 dq osq) X4.out)
  have B5 := hide (B4.out.trans ((below_regrown w4 dq osq).mono B4.out.size))
  generalize Go.Sort.grow (redrawn w4 dq) osq = w5 at *
  have H5 := hide (HH.out.below B5.out)
  clear x0 c1 X4 B4 H4
  have S5 : Hid (PStep w w5 b v v) := PStep.below B5.out
  obtain ⟨lh, hlh⟩ : ∃ lh, lh = l := ⟨_, rfl⟩
  have hp := HP.out
  have e0 : lh.epoch = l.epoch := by rw [hlh]
  rw [← hlh] at H5
  have g2 : ((p : Int) == (lh.epoch : Int)) = true := by rw [beq_iff_eq]; omega
  have g2b : ((p : Int) != (lh.epoch : Int)) = false := by rw [bne_eq_false_iff_eq]; omega
  have g2c : (p == lh.epoch) = true := by rw [beq_iff_eq]; omega
  have g2d : (p != lh.epoch) = false := by rw [bne_eq_false_iff_eq]; omega
  have HL := hide hlh
  have HE0 := hide e0
  clear hp e0 hlh
  go_wp2_with fail
  have x1 := cell_regrown (box_cell X5.out 1 rfl)
  have c0 := cell_regrown H5.out.c.1
  refine wp_region_quiet_below (by kernel_rfl) (by kernel_rfl) ?_
  repeat (go_big_quiet_step (first | fail))
  refine wpQuiet_nil ?_
  intro _ hw'
  obtain ⟨⟨dq, osq⟩, hw''⟩ := hw'
  subst hw''
  have X7 := hide (below_at (below_regrown w5 dq osq) X5.out)
  have H7 := hide (H5.out.below (below_regrown w5 dq osq))
  have S7 := hide (S5.out.trans (PStep.below (below_regrown w5 dq osq)))
  generalize Go.Sort.grow (redrawn w5 dq) osq = w7 at *
  clear x1 c0 X5 H5 S5
  have x3 := box_cell X7.out 3 rfl
  have hfb : ¬ pown b v w.heap.size := fun e => by
    rcases S7.out.grew _ e with e2 | e2
    · have := HH.out.lt e2; omega
    · rcases e with e | e
      · have := heap_lt HH.out.box; omega
      · exact absurd (H7.out.row.type e X7.out) (by decide)
  go_wp2_with fail
  refine (pack H7.out A (by omega)).mono ?_
  rintro e w8 ⟨rfl, v8, p8, t8, s8⟩
  have X8 := hide (t8.at X7.out hfb)
  have H8 := hide p8
  have S8 := hide (S7.out.trans ⟨t8, fun j e => .inl (s8 j e)⟩)
  have hgr := H8.out
  clear x3 p8 t8 s8 X7 H7 S7 hfb hgr
  have x2 := box_cell X8.out 2 rfl
  have x4 := box_cell X8.out 4 rfl
  go_wp2_with fail
  refine (preceive H8.out q (by omega) bo r5).mono ?_
  rintro e w9 ⟨ao, cp, rfl, r9, p9, t9⟩
  have H9 := hide p9
  have S9 := hide (S8.out.trans (PStep.of t9))
  have R9 := hide (row_base (B' := w.heap.size) r9 S8.out.touch.size)
  clear r9 p9 t9
  obtain ⟨nn, hnn⟩ : ∃ nn, nn = ((lh.ackd A).get q bo).1.length := ⟨_, rfl⟩
  rw [← hnn] at R9 ⊢
  have HNN := hide hnn
  clear hnn
  go_wp2
  go_ret2
  obtain rfl := HNN.out
  obtain rfl := HL.out
  exact ⟨ao, cp, rfl, v8, H9.out, S9.out, R9.out⟩
set_option maxHeartbeats 8000000 in
set_option maxRecDepth 100000 in
theorem ptake_greater_stale (h : PL w b v l) (f : FR) (hf : f.ok) (hr : f.rightP) {E p q A : Nat} (hn : FN f E p q A) (hE : l.peer < E) (hp : p ≠ l.epoch) : Calls Try.prog 16 #[.pointer (some ⟨b, 0, none⟩), f.v] w fun e w' => e = .returned (.tuple #[.slice none 0 0, .bool (l.hear E).1]) ∧ ∃ v', Took w w' b v v' (.slice none 0 0) { (l.hear E).2 with owes := true } [] := by
  have HR := hide (pright f hf)
  rw [decide_eq_true hr] at HR
  obtain ⟨ep, pe, sq, ak, bo⟩ := f
  obtain ⟨hn1, hn2, hn3, hn4⟩ := hn
  simp only at hn1 hn2 hn3 hn4
  subst hn1 hn2 hn3 hn4
  have r2 : (E : Int) ≤ 9007199254740991 := hr.2.1
  have r3 : (q : Int) ≤ 9007199254740991 := hr.2.2.2.2.2.1
  have r4 : (A : Int) ≤ 9007199254740991 := hr.2.2.2.2.2.2.2.1
  have r5 : bo.size ≤ 100000 := hr.2.2.2.2.2.2.2.2.1
  simp only [FR.v] at *
  have g1 : ¬ (E : Int) < (l.peer : Int) := by omega
  have g1b : (l.peer : Int) < (E : Int) := by omega
  have g1c : decide ((E : Int) < (l.peer : Int)) = false := decide_eq_false g1
  have g1d : decide ((l.peer : Int) < (E : Int)) = true := decide_eq_true g1b
  have m1 : ¬ E < l.peer := by omega
  have HM := hide (fun (W : World) (hW : PL W b v l) => pmeet hW E (by omega) hE)
  have HEP : Hid ((l.hear E).2.epoch = l.epoch) := by show _ = _; unfold LK.hear; rw [if_neg (by omega)]; split <;> rfl
  have HH := hide h
  have HP := hide hp
  clear hr hf h hp
  have X := hide (heap_alloc_new w (.cells #[.int .i64 (E : Int), .int .i64 (p : Int), .int .i64 (q : Int), .int .i64 (A : Int), .string bo] 31))
  have B0 := hide ((Below.refl w.heap.size w).alloc (Nat.le_refl _) (.cells #[.int .i64 (E : Int), .int .i64 (p : Int), .int .i64 (q : Int), .int .i64 (A : Int), .string bo] 31))
  go_enter Try.func16, Try.ntmps16
  go_wp2_with fail
  generalize w.alloc (.cells #[.int .i64 (E : Int), .int .i64 (p : Int), .int .i64 (q : Int), .int .i64 (A : Int), .string bo] 31) = w1 at *
  have x0 := cell_regrown (box_cell X.out 0 rfl)
  have x1 := cell_regrown (box_cell X.out 1 rfl)
  have x2 := cell_regrown (box_cell X.out 2 rfl)
  have x3 := cell_regrown (box_cell X.out 3 rfl)
  have x4 := cell_regrown (box_cell X.out 4 rfl)
  have H1 := hide (HH.out.below B0.out)
  have c1 := cell_regrown H1.out.c.2.1
  refine wp_region_quiet_below (by kernel_rfl) (by kernel_rfl) ?_
  repeat (go_big_quiet_step (first | (go_at_call 30; exact Calls.regrown_of (HR.out _))))
  refine wpQuiet_nil ?_
  intro _ hw'
  obtain ⟨⟨dq, osq⟩, hw''⟩ := hw'
  subst hw''
  have X4 := hide (below_at (below_regrown w1 dq osq) X.out)
  have B4 := hide (B0.out.trans ((below_regrown w1 dq osq).mono B0.out.size))
  generalize Go.Sort.grow (redrawn w1 dq) osq = w4 at *
  clear x0 x1 x2 x3 x4 X B0
  have H4 := hide (HH.out.below B4.out)
  clear H1 c1 HR
  go_wp2_with fail
  have x0 := cell_regrown (box_cell X4.out 0 rfl)
  have c1 := cell_regrown H4.out.c.2.1
  refine wp_region_quiet_below (by kernel_rfl) (by kernel_rfl) ?_
  repeat (go_big_quiet_step (first | fail))
  refine wpQuiet_nil ?_
  intro _ hw'
  obtain ⟨⟨dq, osq⟩, hw''⟩ := hw'
  subst hw''
  have X5 := hide (below_at (below_regrown w4 dq osq) X4.out)
  have B5 := hide (B4.out.trans ((below_regrown w4 dq osq).mono B4.out.size))
  generalize Go.Sort.grow (redrawn w4 dq) osq = w5 at *
  have H5 := hide (HH.out.below B5.out)
  clear x0 c1 X4 B4 H4
  have x0 := box_cell X5.out 0 rfl
  go_wp2_with fail
  refine (HM.out _ H5.out).mono ?_
  rintro e w6 ⟨rfl, v6, p6, s6⟩
  have hfb : ¬ pown b v w.heap.size := fun e => by have := HH.out.lt e; omega
  have X6 := hide (s6.touch.at X5.out hfb)
  have H6 := hide p6
  have S6 := hide ((PStep.below B5.out).trans s6)
  clear x0 p6 s6 X5 H5 hfb
  obtain ⟨lh, hlh⟩ : ∃ lh, lh = (l.hear E).2 := ⟨_, rfl⟩
  have hp := HP.out
  have e0 : lh.epoch = l.epoch := by rw [hlh]; exact HEP.out
  rw [← hlh] at H6
  obtain ⟨rs, hrs⟩ : ∃ rs, rs = (l.hear E).1 := ⟨_, rfl⟩
  rw [← hrs]
  have HRS := hide hrs
  clear hrs
  have g2 : ((p : Int) == (lh.epoch : Int)) = false := by rw [beq_eq_false_iff_ne]; omega
  have g2b : ((p : Int) != (lh.epoch : Int)) = true := by rw [bne_iff_ne]; omega
  have g2c : (p == lh.epoch) = false := by rw [beq_eq_false_iff_ne]; omega
  have g2d : (p != lh.epoch) = true := by rw [bne_iff_ne]; omega
  have HL := hide hlh
  have HE0 := hide e0
  clear hp e0 hlh
  go_wp2_with fail
  have x1 := cell_regrown (box_cell X6.out 1 rfl)
  have c0 := cell_regrown H6.out.c.1
  refine wp_region_quiet_below (by kernel_rfl) (by kernel_rfl) ?_
  repeat (go_big_quiet_step (first | fail))
  refine wpQuiet_nil ?_
  intro _ hw'
  obtain ⟨⟨dq, osq⟩, hw''⟩ := hw'
  subst hw''
  have X7 := hide (below_at (below_regrown w6 dq osq) X6.out)
  have H7 := hide (H6.out.below (below_regrown w6 dq osq))
  have S7 := hide (S6.out.trans (PStep.below (below_regrown w6 dq osq)))
  generalize Go.Sort.grow (redrawn w6 dq) osq = w7 at *
  clear x1 c0 X6 H6 S6
  obtain ⟨_, _, _, _, _, _, _, c7⟩ := H7.out.c
  have f7 := H7.out.f 7
  go_wp2
  go_ret2
  obtain rfl := HL.out
  obtain rfl := HRS.out
  refine ⟨rfl, v6, H7.out.owe true, S7.out.trans (PStep.of ((Touch.refl _ w7).setCell _ _ fun _ => rfl)), World.ownsRow_nil _ _ _ _⟩
set_option maxHeartbeats 8000000 in
set_option maxRecDepth 100000 in
theorem ptake_greater_heard (h : PL w b v l) (f : FR) (hf : f.ok) (hr : f.rightP) {E p q A : Nat} (hn : FN f E p q A) (hE : l.peer < E) (hp : p = l.epoch) : Calls Try.prog 16 #[.pointer (some ⟨b, 0, none⟩), f.v] w fun e w' => ∃ ao cp, e = .returned (.tuple #[.slice ao (((l.hear E).2.ackd A).get q f.body).1.length cp, .bool (l.hear E).1]) ∧ ∃ v', Took w w' b v v' (.slice ao (((l.hear E).2.ackd A).get q f.body).1.length cp) (((l.hear E).2.ackd A).get q f.body).2 (((l.hear E).2.ackd A).get q f.body).1 := by
  have HR := hide (pright f hf)
  rw [decide_eq_true hr] at HR
  obtain ⟨ep, pe, sq, ak, bo⟩ := f
  obtain ⟨hn1, hn2, hn3, hn4⟩ := hn
  simp only at hn1 hn2 hn3 hn4
  subst hn1 hn2 hn3 hn4
  have r2 : (E : Int) ≤ 9007199254740991 := hr.2.1
  have r3 : (q : Int) ≤ 9007199254740991 := hr.2.2.2.2.2.1
  have r4 : (A : Int) ≤ 9007199254740991 := hr.2.2.2.2.2.2.2.1
  have r5 : bo.size ≤ 100000 := hr.2.2.2.2.2.2.2.2.1
  simp only [FR.v] at *
  have g1 : ¬ (E : Int) < (l.peer : Int) := by omega
  have g1b : (l.peer : Int) < (E : Int) := by omega
  have g1c : decide ((E : Int) < (l.peer : Int)) = false := decide_eq_false g1
  have g1d : decide ((l.peer : Int) < (E : Int)) = true := decide_eq_true g1b
  have m1 : ¬ E < l.peer := by omega
  have HM := hide (fun (W : World) (hW : PL W b v l) => pmeet hW E (by omega) hE)
  have HEP : Hid ((l.hear E).2.epoch = l.epoch) := by show _ = _; unfold LK.hear; rw [if_neg (by omega)]; split <;> rfl
  have HH := hide h
  have HP := hide hp
  clear hr hf h hp
  have X := hide (heap_alloc_new w (.cells #[.int .i64 (E : Int), .int .i64 (p : Int), .int .i64 (q : Int), .int .i64 (A : Int), .string bo] 31))
  have B0 := hide ((Below.refl w.heap.size w).alloc (Nat.le_refl _) (.cells #[.int .i64 (E : Int), .int .i64 (p : Int), .int .i64 (q : Int), .int .i64 (A : Int), .string bo] 31))
  go_enter Try.func16, Try.ntmps16
  go_wp2_with fail
  generalize w.alloc (.cells #[.int .i64 (E : Int), .int .i64 (p : Int), .int .i64 (q : Int), .int .i64 (A : Int), .string bo] 31) = w1 at *
  have x0 := cell_regrown (box_cell X.out 0 rfl)
  have x1 := cell_regrown (box_cell X.out 1 rfl)
  have x2 := cell_regrown (box_cell X.out 2 rfl)
  have x3 := cell_regrown (box_cell X.out 3 rfl)
  have x4 := cell_regrown (box_cell X.out 4 rfl)
  have H1 := hide (HH.out.below B0.out)
  have c1 := cell_regrown H1.out.c.2.1
  refine wp_region_quiet_below (by kernel_rfl) (by kernel_rfl) ?_
  repeat (go_big_quiet_step (first | (go_at_call 30; exact Calls.regrown_of (HR.out _))))
  refine wpQuiet_nil ?_
  intro _ hw'
  obtain ⟨⟨dq, osq⟩, hw''⟩ := hw'
  subst hw''
  have X4 := hide (below_at (below_regrown w1 dq osq) X.out)
  have B4 := hide (B0.out.trans ((below_regrown w1 dq osq).mono B0.out.size))
  generalize Go.Sort.grow (redrawn w1 dq) osq = w4 at *
  clear x0 x1 x2 x3 x4 X B0
  have H4 := hide (HH.out.below B4.out)
  clear H1 c1 HR
  go_wp2_with fail
  have x0 := cell_regrown (box_cell X4.out 0 rfl)
  have c1 := cell_regrown H4.out.c.2.1
  refine wp_region_quiet_below (by kernel_rfl) (by kernel_rfl) ?_
  repeat (go_big_quiet_step (first | fail))
  refine wpQuiet_nil ?_
  intro _ hw'
  obtain ⟨⟨dq, osq⟩, hw''⟩ := hw'
  subst hw''
  have X5 := hide (below_at (below_regrown w4 dq osq) X4.out)
  have B5 := hide (B4.out.trans ((below_regrown w4 dq osq).mono B4.out.size))
  generalize Go.Sort.grow (redrawn w4 dq) osq = w5 at *
  have H5 := hide (HH.out.below B5.out)
  clear x0 c1 X4 B4 H4
  have x0 := box_cell X5.out 0 rfl
  go_wp2_with fail
  refine (HM.out _ H5.out).mono ?_
  rintro e w6 ⟨rfl, v6, p6, s6⟩
  have hfb : ¬ pown b v w.heap.size := fun e => by have := HH.out.lt e; omega
  have X6 := hide (s6.touch.at X5.out hfb)
  have H6 := hide p6
  have S6 := hide ((PStep.below B5.out).trans s6)
  clear x0 p6 s6 X5 H5 hfb
  obtain ⟨lh, hlh⟩ : ∃ lh, lh = (l.hear E).2 := ⟨_, rfl⟩
  have hp := HP.out
  have e0 : lh.epoch = l.epoch := by rw [hlh]; exact HEP.out
  rw [← hlh] at H6
  obtain ⟨rs, hrs⟩ : ∃ rs, rs = (l.hear E).1 := ⟨_, rfl⟩
  rw [← hrs]
  have HRS := hide hrs
  clear hrs
  have g2 : ((p : Int) == (lh.epoch : Int)) = true := by rw [beq_iff_eq]; omega
  have g2b : ((p : Int) != (lh.epoch : Int)) = false := by rw [bne_eq_false_iff_eq]; omega
  have g2c : (p == lh.epoch) = true := by rw [beq_iff_eq]; omega
  have g2d : (p != lh.epoch) = false := by rw [bne_eq_false_iff_eq]; omega
  have HL := hide hlh
  have HE0 := hide e0
  clear hp e0 hlh
  go_wp2_with fail
  have x1 := cell_regrown (box_cell X6.out 1 rfl)
  have c0 := cell_regrown H6.out.c.1
  refine wp_region_quiet_below (by kernel_rfl) (by kernel_rfl) ?_
  repeat (go_big_quiet_step (first | fail))
  refine wpQuiet_nil ?_
  intro _ hw'
  obtain ⟨⟨dq, osq⟩, hw''⟩ := hw'
  subst hw''
  have X7 := hide (below_at (below_regrown w6 dq osq) X6.out)
  have H7 := hide (H6.out.below (below_regrown w6 dq osq))
  have S7 := hide (S6.out.trans (PStep.below (below_regrown w6 dq osq)))
  generalize Go.Sort.grow (redrawn w6 dq) osq = w7 at *
  clear x1 c0 X6 H6 S6
  have x3 := box_cell X7.out 3 rfl
  have hfb : ¬ pown b v6 w.heap.size := fun e => by
    rcases S7.out.grew _ e with e2 | e2
    · have := HH.out.lt e2; omega
    · rcases e with e | e
      · have := heap_lt HH.out.box; omega
      · exact absurd (H7.out.row.type e X7.out) (by decide)
  go_wp2_with fail
  refine (pack H7.out A (by omega)).mono ?_
  rintro e w8 ⟨rfl, v8, p8, t8, s8⟩
  have X8 := hide (t8.at X7.out hfb)
  have H8 := hide p8
  have S8 := hide (S7.out.trans ⟨t8, fun j e => .inl (s8 j e)⟩)
  have hgr := H8.out
  clear x3 p8 t8 s8 X7 H7 S7 hfb hgr
  have x2 := box_cell X8.out 2 rfl
  have x4 := box_cell X8.out 4 rfl
  go_wp2_with fail
  refine (preceive H8.out q (by omega) bo r5).mono ?_
  rintro e w9 ⟨ao, cp, rfl, r9, p9, t9⟩
  have H9 := hide p9
  have S9 := hide (S8.out.trans (PStep.of t9))
  have R9 := hide (row_base (B' := w.heap.size) r9 S8.out.touch.size)
  clear r9 p9 t9
  obtain ⟨nn, hnn⟩ : ∃ nn, nn = ((lh.ackd A).get q bo).1.length := ⟨_, rfl⟩
  rw [← hnn] at R9 ⊢
  have HNN := hide hnn
  clear hnn
  go_wp2
  go_ret2
  obtain rfl := HNN.out
  obtain rfl := HL.out
  obtain rfl := HRS.out
  exact ⟨ao, cp, rfl, v8, H9.out, S9.out, R9.out⟩
end
end Go.Proofs.Ythgfijmpofbchaa
