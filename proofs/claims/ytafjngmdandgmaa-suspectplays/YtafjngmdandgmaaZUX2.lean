/-
  The laws' examples, as they run, of what the program answers (mkux.py).
-/
import Derived.Test.YtafjngmdandgmaaZUX1
namespace Go.Proofs.Ytafjngmdandgmaa
open Go.RowKit

attribute [local go_sem ↓] Go.wp_at_zero Go.wp_at_succ
set_option linter.unusedSimpArgs false
set_option linter.unusedVariables false
theorem ux_ret {w W : World} {a : Act} {v : Vux} {r : Bool} (hF : Fux a v) (h0 : v.v0 = .bool r) (hB : Below w.heap.size w W) :
    bodyPost Try.prog Try.f6 (fun e w' => e = .returned (.bool r) ∧ Below w.heap.size w w') .ret a W := by
  have g0 := slot_get (hF.s0.trans h0)
  refine bodyPost_ret (v := .bool r) ?_ hF.defers ⟨rfl, hB⟩
  simp [results, Try.results6, go_sem, g0]
theorem cell_same {w W : World} {p : Addr} (h : W.heap[p.block]? = w.heap[p.block]?) : W.cell? p = w.cell? p := by
  unfold World.cell?
  rw [h]
/-- The suspect, and rows that are not its own (N: their blocks, as they were in wr). -/
structure ExAt (U : Sus) (ad : Addr) (S : SU) (N : Nat → Prop) (w wr W : World) : Prop where
  lies : ∃ O, U.lies W ad O S ∧ ∀ k, O k → w.heap.size ≤ k ∧ ¬ N k
  same : ∀ k, N k → k < wr.heap.size ∧ W.heap[k]? = wr.heap[k]?
  size : wr.heap.size ≤ W.heap.size
  below : Below w.heap.size w W
section
variable {U : Sus} {ad : Addr} {S : SU} {N : Nat → Prop} {w wr W W' : World}
theorem ExAt.stays (h : ExAt U ad S N w wr W) (hb : Below W.heap.size W W') : ExAt U ad S N w wr W' := by
  obtain ⟨⟨O, l, ho⟩, h2, h3, h4⟩ := h
  exact ⟨⟨O, U.below l hb, ho⟩, fun k hk => ⟨(h2 k hk).1, (hb.block k (Nat.lt_of_lt_of_le (h2 k hk).1 h3)).trans (h2 k hk).2⟩, Nat.le_trans h3 hb.size, h4.trans (hb.mono h4.size)⟩
theorem ExAt.turn {S' : SU} {O : Nat → Prop} (h : ExAt U ad S N w wr W) (ho : ∀ k, O k → w.heap.size ≤ k ∧ ¬ N k) (t : Turned U W W' ad O S') : ExAt U ad S' N w wr W' := by
  obtain ⟨O', l, o'⟩ := t.lies
  refine ⟨⟨O', l, fun k hk => ?_⟩, fun k hk => ⟨(h.same k hk).1, (t.touch.block k (Nat.lt_of_lt_of_le (h.same k hk).1 h.size) fun e => (ho k e).2 hk).trans (h.same k hk).2⟩, Nat.le_trans h.size t.touch.size, h.below.trans (t.touch.toBelow h.below.size fun k hk e => by have := (ho k e).1; omega)⟩
  rcases o' k hk with e | e
  · exact ho k e
  · exact ⟨Nat.le_trans h.below.size e, fun c => by have := (h.same k c).1; have := h.size; omega⟩
theorem ExAt.heard (h : ExAt U ad S N w wr W) (x : MB) : Calls Try.prog 11 #[.pointer (some ad), x.v] W fun e w' => e = .returned (.bool (S.hears x)) ∧ ExAt U ad (S.heard x) N w wr w' := by
  obtain ⟨O, l, ho⟩ := h.lies
  refine (U.heard x l).mono ?_
  rintro e w' ⟨rfl, h1, h2⟩
  exact ⟨rfl, h.turn ho ⟨h1, h2⟩⟩
theorem ExAt.tick (h : ExAt U ad S N w wr W) (hn : S.now ≤ 1000000) : Calls Try.prog 9 #[.pointer (some ad)] W fun e w' => (∃ x, e = .returned x) ∧ ExAt U ad S.tick N w wr w' := by
  obtain ⟨O, l, ho⟩ := h.lies
  refine (U.tick l hn).mono ?_
  rintro e w' ⟨h0, h1, h2⟩
  exact ⟨h0, h.turn ho ⟨h1, h2⟩⟩
/-- A row that the suspect gave is none of its own. -/
theorem ExAt.gave (h : ExAt U ad S N w wr W) (hb : Below W.heap.size W W') (b : Nat) (h1 : W.heap.size ≤ b) (h2 : b < W'.heap.size) : ExAt U ad S (fun k => N k ∨ k = b) w W' W' := by
  have h' := h.stays hb
  obtain ⟨O, l, ho⟩ := h.lies
  refine ⟨⟨O, U.below l hb, fun k hk => ⟨(ho k hk).1, fun c => ?_⟩⟩, fun k hk => ⟨?_, rfl⟩, Nat.le_refl _, h'.below⟩
  · rcases c with c | c
    · exact (ho k hk).2 c
    · have := U.lt l k hk
      omega
  · rcases hk with c | c
    · exact Nat.lt_of_lt_of_le (h'.same k c).1 h'.size
    · omega
end
def exS : SU := (SU.new ⟨0, 1⟩).heard ⟨1, 2⟩
def exT (n : Nat) : SU := ⟨exS.self, exS.life, fun k => exS.age k + n, n⟩
theorem exT_tick (n : Nat) : (exT n).tick = exT (n + 1) := rfl
theorem exT_zero : exT 0 = exS := rfl
theorem ex_alive : exS.alive = [⟨0, 1⟩, ⟨1, 2⟩] := by decide
theorem ex_alive5 : (exT 5).alive = [⟨0, 1⟩] := by decide
theorem ex_no (n : Nat) : (exT n).hears ⟨1, 1⟩ = false := by
  show decide _ = false
  exact decide_eq_false fun e => absurd e.2.2 (show ¬ exS.life 1 ≤ 1 by decide)
set_option maxHeartbeats 8000000 in
set_option maxRecDepth 100000 in
theorem examples_walk (U : Sus) : SExSays := by
  intro w
  go_enter Try.func6, Try.ntmps6
  go_upto_region 1 with fail
  rename_i Ko hKo
  refine reg_mono (ux_r1 (R := fun p z W => ∃ W1, Below w.heap.size w W1 ∧ NewGave U ⟨0, 1⟩ W1 p z W) (by kernel_rfl) _ (v := ⟨_, _, _, _, _, _, _, _⟩) ⟨rfl, rfl, rfl, rfl, rfl, rfl, rfl, rfl, rfl, rfl⟩ (fun W hb => (U.gave ⟨0, 1⟩ W).mono ?_) ?_)
  · rintro e w' ⟨p, z, h1, h2⟩
    exact ⟨p, z, h1, W, hb, h2⟩
  rintro a2 w2 p z F2 ⟨W1, bW, n1, _, b1⟩
  refine hKo _ _ ?_
  obtain ⟨ad, rfl, rfl, O, l2, o2⟩ := n1 (by decide)
  have Z2 : ExAt U ad (SU.new ⟨0, 1⟩) (fun _ => False) w w2 w2 := ⟨⟨O, l2, fun k hk => ⟨Nat.le_trans bW.size (o2 k hk), fun e => e⟩⟩, fun _ e => e.elim, Nat.le_refl _, bW.trans (b1.mono bW.size)⟩
  clear bW n1 b1 l2 o2
  refine wp_seq (reg_mono (ux_r2 (R := fun p z W => z = 1 ∧ Below w2.heap.size w2 W) (by kernel_rfl) _ F2 (fun W hb => (U.gave ⟨0, 0⟩ W).mono ?_) ?_))
  · rintro e w' ⟨p, z, h1, h2⟩
    exact ⟨p, z, h1, (h2.2.1 (by decide)).2, hb.trans (h2.2.2.mono hb.size)⟩
  rintro a3 w3 p z F3 ⟨rfl, b3⟩
  have Z3 := Z2.stays b3
  refine wp_seq (wp_seq (reg_mono (ux_r3 (by kernel_rfl) _ F3 rfl rfl rfl ?_)))
  intro a4 F4 h28
  refine wp_cond_false h28 (wp_skip ?_)
  show Code.wp _ _ _ _ _
  refine wp_seq (reg_mono (ux_r5 (R1 := fun W => ExAt U ad exS (fun _ => False) w w2 W) (R2 := fun W => ExAt U ad exS (fun _ => False) w w2 W) (by kernel_rfl) _ F4 rfl (fun W hb => (Z3.stays hb).heard ⟨1, 2⟩) (fun W W' hR hb => ?_) ?_))
  · have := (hR.stays hb).heard ⟨1, 1⟩
    rw [← exT_zero, ex_no 0, SU.heard_no (ex_no 0)] at this
    exact this
  intro a5 w5 F5 Z5
  have H5 := Z5.lies
  obtain ⟨O5, l5, o5⟩ := H5
  refine wp_seq (reg_mono (ux_r6 (n := exS.alive.length) (R := fun ro W => MemsAt W ro exS.alive ∧ Below w5.heap.size w5 W ∧ ∀ a, ro = some a → w5.heap.size ≤ a.block) (by kernel_rfl) _ F5 rfl (U.alive l5) ?_))
  rintro a6 w6 ro rc F6 ⟨m6, b6, f6⟩
  rw [ex_alive] at m6 F6
  obtain ⟨q1, p1, e1, h1, y0, y1⟩ := m6 1 (by simp)
  have Z6 := Z5.gave b6 q1 (f6 _ e1) h1
  clear F2 F3 F4 F5 h28 Z2 Z3 Z5 l5 o5 b3 b6 m6 f6
  refine wp_seq (wp_seq (reg_mono (ux_r7 (by kernel_rfl) _ F6 ?_)))
  intro a7 F7
  refine wp_block (wp_loop (fun a W => ∃ (i : Nat) (v : Vux), i ≤ 5 ∧ Fux a v ∧ v.v1 = .pointer (some ad) ∧ v.v5 = .bool true ∧ v.v6 = .slice ro 2 rc ∧ v.v7 = .int .i64 (i : Int) ∧ ExAt U ad (exT i) (fun k => False ∨ k = q1) w w6 W) (fun a _ => 5 - (intOf (a.tmps.getD 7 undef)).toNat) ⟨0, _, Nat.zero_le _, F7, rfl, rfl, rfl, rfl, Z6⟩ ?_)
  clear F6 F7 Z6
  rintro a8 w8 ⟨i, v8, hi, F8, g1, g5, g6, g7, Z8⟩
  have hm8 : (intOf (a8.tmps.getD 7 undef)).toNat = i := by rw [F8.s7, g7]; simp [intOf]
  refine wp_seq (wp_seq (reg_mono (ux_r8 (by kernel_rfl) _ F8 g7 ?_)))
  intro a9 F9 h41
  by_cases hlt : i < 5
  case pos =>
    rw [decide_eq_true hlt] at h41
    refine wp_cond_true h41 (wp_skip ?_)
    show Code.wp _ _ _ _ _
    refine wp_seq (wp_block (reg_all (ux_r10 (by kernel_rfl) _ F9 g1 (Z8.tick (by show i ≤ 1000000; omega)) ?_)))
    intro a10 w10 F10 Z10
    show Code.wp _ _ _ _ _
    refine reg_all (ux_r9 (by kernel_rfl) _ F10 g7 (by omega) ?_)
    intro a11 F11
    refine ⟨⟨i + 1, _, by omega, F11, g1, g5, g6, rfl, Z10⟩, ?_⟩
    have hm11 : (intOf (a11.tmps.getD 7 undef)).toNat = i + 1 := by rw [F11.s7]; simp only [intOf]; omega
    rw [hm11, hm8]
    omega
  rw [decide_eq_false hlt] at h41
  refine wp_cond_false h41 (wp_exit ?_)
  show Code.wp _ _ _ _ _
  obtain rfl : i = 5 := by omega
  obtain ⟨O8, l8, o8⟩ := Z8.lies
  have s8 := Z8.same q1 (.inr rfl)
  have z0 : w8.cell? ⟨q1, p1 + 1 * 2, none⟩ = _ := (cell_same (p := ⟨q1, _, none⟩) s8.2).trans y0
  have z1 : w8.cell? ⟨q1, p1 + 1 * 2 + 1, none⟩ = _ := (cell_same (p := ⟨q1, _, none⟩) s8.2).trans y1
  have hq8 : q1 < w8.heap.size := Nat.lt_of_lt_of_le s8.1 Z8.size
  refine wp_seq (reg_mono (ux_r11 (n := (exT 5).alive.length) (R := fun ro W => MemsAt W ro (exT 5).alive ∧ Below w8.heap.size w8 W ∧ ∀ a, ro = some a → w8.heap.size ≤ a.block) (by kernel_rfl) _ F9 g1 (U.alive l8) ?_))
  rintro a12 w12 ro2 rc2 F12 ⟨m12, b12, f12⟩
  rw [ex_alive5] at m12 F12
  obtain ⟨q2, p2, e2, h2, x0, x1⟩ := m12 0 (by simp)
  have Z12 := Z8.gave b12 q2 (f12 _ e2) h2
  have u0 := (b12.cell (p := ⟨q1, _, none⟩) hq8).trans z0
  have u1 := (b12.cell (p := ⟨q1, _, none⟩) hq8).trans z1
  refine wp_seq (reg_mono (ux_r12 (b1 := q1) (o1 := p1) (b2 := q2) (o2 := p2) (BW := fun W => ExAt U ad (exT 5) (fun k => (False ∨ k = q1) ∨ k = q2) w w12 W) (by kernel_rfl) _ F12 g1 g5 (by rw [← e1]; exact g6) (by rw [← e2]; rfl) (Z12.stays (Below.refl _ _).drew) ?_ (fun W W' h b => h.stays b) ?_ ?_))
  · intro W h
    have k1 := (h.same q1 (.inl (.inr rfl))).2
    have k2 := (h.same q2 (.inr rfl)).2
    refine ⟨(cell_same (p := ⟨q1, _, none⟩) k1).trans ?_, (cell_same (p := ⟨q1, _, none⟩) k1).trans ?_, (cell_same (p := ⟨q2, _, none⟩) k2).trans ?_, (cell_same (p := ⟨q2, _, none⟩) k2).trans ?_⟩
    · simpa using u0
    · simpa using u1
    · simpa using x0
    · simpa using x1
  · intro W h
    have := h.heard ⟨1, 1⟩
    rw [ex_no 5, SU.heard_no (ex_no 5)] at this
    exact this
  intro a13 w13 F13 Z13
  exact wp_ret (ux_ret F13 rfl Z13.below)
end Go.Proofs.Ytafjngmdandgmaa
