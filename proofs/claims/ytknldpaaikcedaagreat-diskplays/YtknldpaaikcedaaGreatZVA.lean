/-
  act, as it runs: one call at each disk.
-/
import Derived.Test.YtknldpaaikcedaaGreatZGE
namespace Go.Proofs.YtknldpaaikcedaaGreat
open Go.RowKit Go.Maps Go.Sort

section
variable {F : Nat → Prop} {W w w' w4 : World} {b x : Nat} {G G' : DG} {S : RD} {X X' : XG} {φ : Nat → Nat} {er : Int}
theorem vbox5 {W : World} {b : Nat} {t : TypeId} {v0 v1 v2 v3 v4 : Value} (h : W.heap[b]? = some (.cells #[v0, v1, v2, v3, v4] t (0, 0))) :
    W.cell? ⟨b, 0, none⟩ = some v0 ∧ W.cell? ⟨b, 1, none⟩ = some v1 ∧ W.cell? ⟨b, 2, none⟩ = some v2 ∧ W.cell? ⟨b, 3, none⟩ = some v3 ∧ W.cell? ⟨b, 4, none⟩ = some v4 :=
  ⟨box_cell h 0 rfl, box_cell h 1 rfl, box_cell h 2 rfl, box_cell h 3 rfl, box_cell h 4 rfl⟩
/-- What is not theirs is as it was, in the middle too. -/
theorem Mid.touch {op : Int × RD} (h : Duo F W b G x S X φ) (hm : Mid W w' b G op) : Touch (fun j => ¬ F j) W w' := by
  obtain ⟨G', st, _⟩ := hm
  exact (h.stepG st).2.2.2.2.2
def Acts (F : Nat → Prop) (w w' : World) (b : Nat) (G : DG) (x : Nat) : Prop := ∃ G' S' X' φ', Duo F w' b G' x S' X' φ' ∧ G'.n ≤ G.n + 1 ∧ G'.q = G.q ∧ Touch (fun j => ¬ F j) w w'
theorem Outs.acts {op : Int × RD} {D0 : Nat} (h : Outs (fun j => F j ∨ j = D0) W w' b G x op) (hW : Touch (fun j => ¬ F j) w W) : Acts F w w' b G x := by
  obtain ⟨G', X', φ', d, hn, hq, t⟩ := h
  exact ⟨G', op.2, X', φ', d.less fun j hj => .inl hj, hn, hq, hW.andThen (t.mono fun j _ e hf => e (.inl hf)) fun _ _ e => e⟩
set_option maxHeartbeats 8000000 in
set_option maxRecDepth 100000 in
theorem act_any (h : Duo F w b G x S X φ) (hn : G.n < 900) (hq : G.q = 1000000000) (kk : Int) (hk : -9223372036854775808 ≤ kk ∧ kk ≤ 9223372036854775807) (oa ob : ByteArray) (ha : oa.size ≤ 1125899906842624) (hb : ob.size ≤ 1125899906842624) (on : Int) (hm : -9223372036854775808 ≤ on ∧ on ≤ 9223372036854775807) (ks : Value) (hks : ∃ ao n c, ks = .slice ao n c) :
    Calls Tryz.prog 14 #[.pointer (some ⟨b, 0, none⟩), .pointer (some ⟨x, 0, none⟩), .agg #[.int .i64 kk, .string oa, .string ob, .int .i64 on, ks]] w fun e w' => ∃ r : Int, e = .returned (.tuple #[.int .i64 r, .int .i64 r]) ∧ Acts F w w' b G x := by
  obtain ⟨kao, kn, kc, rfl⟩ := hks
  have HP := hide (fun W => pick_any kk 11 W hk (by decide))
  have hpr := pickZ_range kk 11 (by decide)
  generalize pickZ kk 11 = pk at *
  have hD := h.wide (.cells #[.int .i64 kk, .string oa, .string ob, .int .i64 on, .slice kao kn kc] 32)
  have hbx := heap_alloc_new w (.cells #[.int .i64 kk, .string oa, .string ob, .int .i64 on, .slice kao kn kc] 32)
  have HT0 : Hid (Touch (fun j => ¬ F j) w (w.alloc (.cells #[.int .i64 kk, .string oa, .string ob, .int .i64 on, .slice kao kn kc] 32))) := (Touch.refl _ w).alloc _
  have DD := hide hD
  obtain ⟨c0, c1, c2, c3, c4⟩ := vbox5 hbx
  have HBX := hide hbx
  clear h hD hbx
  by_cases hsel : 6 ≤ pk
  · have HC1 := hide (dirsync_one DD.out hn)
    have HC2 := hide (fun w4 hm => dirsync_two (w4 := w4) DD.out hn hm)
    have g0 : (pk == 0) = false := by rw [beq_eq_false_iff_ne]; omega
    have g1 : (pk == 1) = false := by rw [beq_eq_false_iff_ne]; omega
    have g2 : (pk == 2) = false := by rw [beq_eq_false_iff_ne]; omega
    have g3 : (pk == 3) = false := by rw [beq_eq_false_iff_ne]; omega
    have g4 : (pk == 4) = false := by rw [beq_eq_false_iff_ne]; omega
    have g5 : (pk == 5) = false := by rw [beq_eq_false_iff_ne]; omega
    go_enter Tryz.func14, Tryz.ntmps14
    go_wp2_with fail
    refine (HP.out _).mono ?_
    rintro e w1 ⟨rfl, hw⟩
    obtain rfl := hw.symm
    clear hw HP
    go_wp2_with fail
    refine HC1.out.mono ?_
    rintro e w4 ⟨rfl, m4⟩
    go_wp2_with fail
    refine (HC2.out _ m4).mono ?_
    rintro e w5 ⟨rfl, o5⟩
    have O5 := hide o5
    clear o5 m4 HC1 HC2
    go_wp2
    go_ret2
    exact ⟨_, rfl, Outs.acts O5.out HT0.out⟩
  by_cases e0 : pk = 0
  · subst e0
    have HC1 := hide (fun W (hd : Duo (fun j => F j ∨ j = w.heap.size) W b G x S X φ) => create_one hd hn oa ha)
    have HC2 := hide (fun W w4 (hd : Duo (fun j => F j ∨ j = w.heap.size) W b G x S X φ) hm7 => create_two (w4 := w4) hd hn oa ha hm7)
    have HK1 := hide (enters_of Tryz.func16 (by kernel_rfl) rfl)
    have HK2 := hide (enters_of Tryz.func33 (by kernel_rfl) rfl)
    go_enter Tryz.func14, Tryz.ntmps14
    go_wp2_with fail
    refine (HP.out _).mono ?_
    rintro e w1 ⟨rfl, hw⟩
    obtain rfl := hw.symm
    clear hw HP
    go_wp2_with fail
    generalize (S.create oa) = op at *
    obtain ⟨r, T⟩ := op
    simp only at HC1 HC2
    generalize hw0 : w.alloc (.cells #[.int .i64 kk, .string oa, .string ob, .int .i64 on, .slice kao kn kc] 32) = w1 at *
    have HBX2 : Hid (∀ W w4, Duo (fun j => F j ∨ j = w.heap.size) W b G x S X φ → W.heap[w.heap.size]? = w1.heap[w.heap.size]? → Mid W w4 b G (r, T) → w4.cell? ⟨w.heap.size, 1, none⟩ = some (.string oa) ∧ w4.cell? ⟨w.heap.size, 2, none⟩ = some (.string ob) ∧ w4.cell? ⟨w.heap.size, 3, none⟩ = some (.int .i64 on)) := fun W w4 hd hb hm => by
      have t4 := hm.touch hd
      have h5 := t4.at (hb.trans HBX.out) (fun e => e (.inr rfl))
      obtain ⟨_, q1, q2, q3, _⟩ := vbox5 h5
      exact ⟨q1, q2, q3⟩
    have HBX3 : Hid (∀ W w4, W.heap[w.heap.size]? = w1.heap[w.heap.size]? → Outs (fun j => F j ∨ j = w.heap.size) W w4 b G x (r, T) → w4.cell? ⟨w.heap.size, 1, none⟩ = some (.string oa) ∧ w4.cell? ⟨w.heap.size, 2, none⟩ = some (.string ob) ∧ w4.cell? ⟨w.heap.size, 3, none⟩ = some (.int .i64 on)) := fun W w4 hb hm => by
      obtain ⟨_, _, _, _, _, _, t4⟩ := hm
      have h5 := t4.at (hb.trans HBX.out) (fun e => e (.inr rfl))
      obtain ⟨_, q1, q2, q3, _⟩ := vbox5 h5
      exact ⟨q1, q2, q3⟩
    have HDR : Hid (Duo (fun j => F j ∨ j = w.heap.size) w1.drew b G x S X φ) := DD.out.past (Below.refl _ _).drew
    generalize w.heap.size = D0 at *
    go_region_held_law (fun w' => w'.cell? ⟨D0, 1, none⟩ = some (.string oa) ∧ w'.cell? ⟨D0, 2, none⟩ = some (.string ob) ∧ w'.cell? ⟨D0, 3, none⟩ = some (.int .i64 on)) (first | go_keep | exact ⟨z1, z2, z3⟩ | exact ⟨y1, y2, y3⟩) (first
      | (refine zstep_fn (by rfl) 16 (by rfl) 16 _ _ (by rfl) HK1.out [.pointer (some ⟨b, 0, none⟩), .string oa] (by rfl) (HC1.out _ HDR.out) ?_; rintro e w4 ⟨rfl, m4⟩; refine ⟨_, rfl, ?_⟩; obtain ⟨z1, z2, z3⟩ := HBX2.out _ _ HDR.out rfl m4; have M4 := hide m4; clear m4)
      | (refine zstep_fn (by rfl) 20 (by rfl) 33 _ _ (by rfl) HK2.out [.pointer (some ⟨x, 0, none⟩), .string oa] (by rfl) (HC2.out _ _ HDR.out M4.out) ?_; rintro e w5 ⟨rfl, m5⟩; refine ⟨_, rfl, ?_⟩; obtain ⟨y1, y2, y3⟩ := HBX3.out w1.drew _ rfl m5; have M5 := hide m5; clear m5))
    all_goals (
      go_wp2
      go_ret2
      exact ⟨r, rfl, Outs.acts M5.out HT0.out.drew⟩)
  have g0 : (pk == 0) = false := by rw [beq_eq_false_iff_ne]; omega
  by_cases e1 : pk = 1
  · subst e1
    have HC1 := hide (fun W (hd : Duo (fun j => F j ∨ j = w.heap.size) W b G x S X φ) => append_one hd hn hq oa ob ha hb)
    have HC2 := hide (fun W w4 (hd : Duo (fun j => F j ∨ j = w.heap.size) W b G x S X φ) hm7 => append_two (w4 := w4) hd hn oa ob ha hb hm7)
    have HK1 := hide (enters_of Tryz.func17 (by kernel_rfl) rfl)
    have HK2 := hide (enters_of Tryz.func34 (by kernel_rfl) rfl)
    go_enter Tryz.func14, Tryz.ntmps14
    go_wp2_with fail
    refine (HP.out _).mono ?_
    rintro e w1 ⟨rfl, hw⟩
    obtain rfl := hw.symm
    clear hw HP
    go_wp2_with fail
    generalize (S.append oa ob) = op at *
    obtain ⟨r, T⟩ := op
    simp only at HC1 HC2
    generalize hw0 : w.alloc (.cells #[.int .i64 kk, .string oa, .string ob, .int .i64 on, .slice kao kn kc] 32) = w1 at *
    have HBX2 : Hid (∀ W w4, Duo (fun j => F j ∨ j = w.heap.size) W b G x S X φ → W.heap[w.heap.size]? = w1.heap[w.heap.size]? → Mid W w4 b G (r, T) → w4.cell? ⟨w.heap.size, 1, none⟩ = some (.string oa) ∧ w4.cell? ⟨w.heap.size, 2, none⟩ = some (.string ob) ∧ w4.cell? ⟨w.heap.size, 3, none⟩ = some (.int .i64 on)) := fun W w4 hd hb hm => by
      have t4 := hm.touch hd
      have h5 := t4.at (hb.trans HBX.out) (fun e => e (.inr rfl))
      obtain ⟨_, q1, q2, q3, _⟩ := vbox5 h5
      exact ⟨q1, q2, q3⟩
    have HBX3 : Hid (∀ W w4, W.heap[w.heap.size]? = w1.heap[w.heap.size]? → Outs (fun j => F j ∨ j = w.heap.size) W w4 b G x (r, T) → w4.cell? ⟨w.heap.size, 1, none⟩ = some (.string oa) ∧ w4.cell? ⟨w.heap.size, 2, none⟩ = some (.string ob) ∧ w4.cell? ⟨w.heap.size, 3, none⟩ = some (.int .i64 on)) := fun W w4 hb hm => by
      obtain ⟨_, _, _, _, _, _, t4⟩ := hm
      have h5 := t4.at (hb.trans HBX.out) (fun e => e (.inr rfl))
      obtain ⟨_, q1, q2, q3, _⟩ := vbox5 h5
      exact ⟨q1, q2, q3⟩
    have HDR : Hid (Duo (fun j => F j ∨ j = w.heap.size) w1.drew b G x S X φ) := DD.out.past (Below.refl _ _).drew
    generalize w.heap.size = D0 at *
    go_region_held_law (fun w' => w'.cell? ⟨D0, 1, none⟩ = some (.string oa) ∧ w'.cell? ⟨D0, 2, none⟩ = some (.string ob) ∧ w'.cell? ⟨D0, 3, none⟩ = some (.int .i64 on)) (first | go_keep | exact ⟨z1, z2, z3⟩ | exact ⟨y1, y2, y3⟩) (first
      | (refine zstep_fn (by rfl) 28 (by rfl) 17 _ _ (by rfl) HK1.out [.pointer (some ⟨b, 0, none⟩), .string oa, .string ob] (by rfl) (HC1.out _ HDR.out) ?_; rintro e w4 ⟨rfl, m4⟩; refine ⟨_, rfl, ?_⟩; obtain ⟨z1, z2, z3⟩ := HBX2.out _ _ HDR.out rfl m4; have M4 := hide m4; clear m4)
      | (refine zstep_fn (by rfl) 34 (by rfl) 34 _ _ (by rfl) HK2.out [.pointer (some ⟨x, 0, none⟩), .string oa, .string ob] (by rfl) (HC2.out _ _ HDR.out M4.out) ?_; rintro e w5 ⟨rfl, m5⟩; refine ⟨_, rfl, ?_⟩; obtain ⟨y1, y2, y3⟩ := HBX3.out w1.drew _ rfl m5; have M5 := hide m5; clear m5))
    all_goals (
      go_wp2
      go_ret2
      exact ⟨r, rfl, Outs.acts M5.out HT0.out.drew⟩)
  have g1 : (pk == 1) = false := by rw [beq_eq_false_iff_ne]; omega
  by_cases e2 : pk = 2
  · subst e2
    have HC1 := hide (fun W (hd : Duo (fun j => F j ∨ j = w.heap.size) W b G x S X φ) => sync_one hd hn oa ha)
    have HC2 := hide (fun W w4 (hd : Duo (fun j => F j ∨ j = w.heap.size) W b G x S X φ) hm7 => sync_two (w4 := w4) hd hn oa ha hm7)
    have HK1 := hide (enters_of Tryz.func19 (by kernel_rfl) rfl)
    have HK2 := hide (enters_of Tryz.func35 (by kernel_rfl) rfl)
    go_enter Tryz.func14, Tryz.ntmps14
    go_wp2_with fail
    refine (HP.out _).mono ?_
    rintro e w1 ⟨rfl, hw⟩
    obtain rfl := hw.symm
    clear hw HP
    go_wp2_with fail
    generalize (S.sync oa) = op at *
    obtain ⟨r, T⟩ := op
    simp only at HC1 HC2
    generalize hw0 : w.alloc (.cells #[.int .i64 kk, .string oa, .string ob, .int .i64 on, .slice kao kn kc] 32) = w1 at *
    have HBX2 : Hid (∀ W w4, Duo (fun j => F j ∨ j = w.heap.size) W b G x S X φ → W.heap[w.heap.size]? = w1.heap[w.heap.size]? → Mid W w4 b G (r, T) → w4.cell? ⟨w.heap.size, 1, none⟩ = some (.string oa) ∧ w4.cell? ⟨w.heap.size, 2, none⟩ = some (.string ob) ∧ w4.cell? ⟨w.heap.size, 3, none⟩ = some (.int .i64 on)) := fun W w4 hd hb hm => by
      have t4 := hm.touch hd
      have h5 := t4.at (hb.trans HBX.out) (fun e => e (.inr rfl))
      obtain ⟨_, q1, q2, q3, _⟩ := vbox5 h5
      exact ⟨q1, q2, q3⟩
    have HBX3 : Hid (∀ W w4, W.heap[w.heap.size]? = w1.heap[w.heap.size]? → Outs (fun j => F j ∨ j = w.heap.size) W w4 b G x (r, T) → w4.cell? ⟨w.heap.size, 1, none⟩ = some (.string oa) ∧ w4.cell? ⟨w.heap.size, 2, none⟩ = some (.string ob) ∧ w4.cell? ⟨w.heap.size, 3, none⟩ = some (.int .i64 on)) := fun W w4 hb hm => by
      obtain ⟨_, _, _, _, _, _, t4⟩ := hm
      have h5 := t4.at (hb.trans HBX.out) (fun e => e (.inr rfl))
      obtain ⟨_, q1, q2, q3, _⟩ := vbox5 h5
      exact ⟨q1, q2, q3⟩
    have HDR : Hid (Duo (fun j => F j ∨ j = w.heap.size) w1.drew b G x S X φ) := DD.out.past (Below.refl _ _).drew
    generalize w.heap.size = D0 at *
    go_region_held_law (fun w' => w'.cell? ⟨D0, 1, none⟩ = some (.string oa) ∧ w'.cell? ⟨D0, 2, none⟩ = some (.string ob) ∧ w'.cell? ⟨D0, 3, none⟩ = some (.int .i64 on)) (first | go_keep | exact ⟨z1, z2, z3⟩ | exact ⟨y1, y2, y3⟩) (first
      | (refine zstep_fn (by rfl) 40 (by rfl) 19 _ _ (by rfl) HK1.out [.pointer (some ⟨b, 0, none⟩), .string oa] (by rfl) (HC1.out _ HDR.out) ?_; rintro e w4 ⟨rfl, m4⟩; refine ⟨_, rfl, ?_⟩; obtain ⟨z1, z2, z3⟩ := HBX2.out _ _ HDR.out rfl m4; have M4 := hide m4; clear m4)
      | (refine zstep_fn (by rfl) 44 (by rfl) 35 _ _ (by rfl) HK2.out [.pointer (some ⟨x, 0, none⟩), .string oa] (by rfl) (HC2.out _ _ HDR.out M4.out) ?_; rintro e w5 ⟨rfl, m5⟩; refine ⟨_, rfl, ?_⟩; obtain ⟨y1, y2, y3⟩ := HBX3.out w1.drew _ rfl m5; have M5 := hide m5; clear m5))
    all_goals (
      go_wp2
      go_ret2
      exact ⟨r, rfl, Outs.acts M5.out HT0.out.drew⟩)
  have g2 : (pk == 2) = false := by rw [beq_eq_false_iff_ne]; omega
  by_cases e3 : pk = 3
  · subst e3
    have HC1 := hide (fun W (hd : Duo (fun j => F j ∨ j = w.heap.size) W b G x S X φ) => rename_one hd hn oa ob ha hb)
    have HC2 := hide (fun W w4 (hd : Duo (fun j => F j ∨ j = w.heap.size) W b G x S X φ) hm7 => rename_two (w4 := w4) hd hn oa ob ha hb hm7)
    have HK1 := hide (enters_of Tryz.func20 (by kernel_rfl) rfl)
    have HK2 := hide (enters_of Tryz.func36 (by kernel_rfl) rfl)
    go_enter Tryz.func14, Tryz.ntmps14
    go_wp2_with fail
    refine (HP.out _).mono ?_
    rintro e w1 ⟨rfl, hw⟩
    obtain rfl := hw.symm
    clear hw HP
    go_wp2_with fail
    generalize (S.rename oa ob) = op at *
    obtain ⟨r, T⟩ := op
    simp only at HC1 HC2
    generalize hw0 : w.alloc (.cells #[.int .i64 kk, .string oa, .string ob, .int .i64 on, .slice kao kn kc] 32) = w1 at *
    have HBX2 : Hid (∀ W w4, Duo (fun j => F j ∨ j = w.heap.size) W b G x S X φ → W.heap[w.heap.size]? = w1.heap[w.heap.size]? → Mid W w4 b G (r, T) → w4.cell? ⟨w.heap.size, 1, none⟩ = some (.string oa) ∧ w4.cell? ⟨w.heap.size, 2, none⟩ = some (.string ob) ∧ w4.cell? ⟨w.heap.size, 3, none⟩ = some (.int .i64 on)) := fun W w4 hd hb hm => by
      have t4 := hm.touch hd
      have h5 := t4.at (hb.trans HBX.out) (fun e => e (.inr rfl))
      obtain ⟨_, q1, q2, q3, _⟩ := vbox5 h5
      exact ⟨q1, q2, q3⟩
    have HBX3 : Hid (∀ W w4, W.heap[w.heap.size]? = w1.heap[w.heap.size]? → Outs (fun j => F j ∨ j = w.heap.size) W w4 b G x (r, T) → w4.cell? ⟨w.heap.size, 1, none⟩ = some (.string oa) ∧ w4.cell? ⟨w.heap.size, 2, none⟩ = some (.string ob) ∧ w4.cell? ⟨w.heap.size, 3, none⟩ = some (.int .i64 on)) := fun W w4 hb hm => by
      obtain ⟨_, _, _, _, _, _, t4⟩ := hm
      have h5 := t4.at (hb.trans HBX.out) (fun e => e (.inr rfl))
      obtain ⟨_, q1, q2, q3, _⟩ := vbox5 h5
      exact ⟨q1, q2, q3⟩
    have HDR : Hid (Duo (fun j => F j ∨ j = w.heap.size) w1.drew b G x S X φ) := DD.out.past (Below.refl _ _).drew
    generalize w.heap.size = D0 at *
    go_region_held_law (fun w' => w'.cell? ⟨D0, 1, none⟩ = some (.string oa) ∧ w'.cell? ⟨D0, 2, none⟩ = some (.string ob) ∧ w'.cell? ⟨D0, 3, none⟩ = some (.int .i64 on)) (first | go_keep | exact ⟨z1, z2, z3⟩ | exact ⟨y1, y2, y3⟩) (first
      | (refine zstep_fn (by rfl) 52 (by rfl) 20 _ _ (by rfl) HK1.out [.pointer (some ⟨b, 0, none⟩), .string oa, .string ob] (by rfl) (HC1.out _ HDR.out) ?_; rintro e w4 ⟨rfl, m4⟩; refine ⟨_, rfl, ?_⟩; obtain ⟨z1, z2, z3⟩ := HBX2.out _ _ HDR.out rfl m4; have M4 := hide m4; clear m4)
      | (refine zstep_fn (by rfl) 58 (by rfl) 36 _ _ (by rfl) HK2.out [.pointer (some ⟨x, 0, none⟩), .string oa, .string ob] (by rfl) (HC2.out _ _ HDR.out M4.out) ?_; rintro e w5 ⟨rfl, m5⟩; refine ⟨_, rfl, ?_⟩; obtain ⟨y1, y2, y3⟩ := HBX3.out w1.drew _ rfl m5; have M5 := hide m5; clear m5))
    all_goals (
      go_wp2
      go_ret2
      exact ⟨r, rfl, Outs.acts M5.out HT0.out.drew⟩)
  have g3 : (pk == 3) = false := by rw [beq_eq_false_iff_ne]; omega
  by_cases e4 : pk = 4
  · subst e4
    have HC1 := hide (fun W (hd : Duo (fun j => F j ∨ j = w.heap.size) W b G x S X φ) => truncate_one hd hn hq oa on ha hm)
    have HC2 := hide (fun W w4 (hd : Duo (fun j => F j ∨ j = w.heap.size) W b G x S X φ) hm7 => truncate_two (w4 := w4) hd hn oa on ha hm hm7)
    have HK1 := hide (enters_of Tryz.func37 (by kernel_rfl) rfl)
    have HK2 := hide (enters_of Tryz.func38 (by kernel_rfl) rfl)
    go_enter Tryz.func14, Tryz.ntmps14
    go_wp2_with fail
    refine (HP.out _).mono ?_
    rintro e w1 ⟨rfl, hw⟩
    obtain rfl := hw.symm
    clear hw HP
    go_wp2_with fail
    generalize (S.truncate oa on) = op at *
    obtain ⟨r, T⟩ := op
    simp only at HC1 HC2
    generalize hw0 : w.alloc (.cells #[.int .i64 kk, .string oa, .string ob, .int .i64 on, .slice kao kn kc] 32) = w1 at *
    have HBX2 : Hid (∀ W w4, Duo (fun j => F j ∨ j = w.heap.size) W b G x S X φ → W.heap[w.heap.size]? = w1.heap[w.heap.size]? → Mid W w4 b G (r, T) → w4.cell? ⟨w.heap.size, 1, none⟩ = some (.string oa) ∧ w4.cell? ⟨w.heap.size, 2, none⟩ = some (.string ob) ∧ w4.cell? ⟨w.heap.size, 3, none⟩ = some (.int .i64 on)) := fun W w4 hd hb hm => by
      have t4 := hm.touch hd
      have h5 := t4.at (hb.trans HBX.out) (fun e => e (.inr rfl))
      obtain ⟨_, q1, q2, q3, _⟩ := vbox5 h5
      exact ⟨q1, q2, q3⟩
    have HBX3 : Hid (∀ W w4, W.heap[w.heap.size]? = w1.heap[w.heap.size]? → Outs (fun j => F j ∨ j = w.heap.size) W w4 b G x (r, T) → w4.cell? ⟨w.heap.size, 1, none⟩ = some (.string oa) ∧ w4.cell? ⟨w.heap.size, 2, none⟩ = some (.string ob) ∧ w4.cell? ⟨w.heap.size, 3, none⟩ = some (.int .i64 on)) := fun W w4 hb hm => by
      obtain ⟨_, _, _, _, _, _, t4⟩ := hm
      have h5 := t4.at (hb.trans HBX.out) (fun e => e (.inr rfl))
      obtain ⟨_, q1, q2, q3, _⟩ := vbox5 h5
      exact ⟨q1, q2, q3⟩
    have HDR : Hid (Duo (fun j => F j ∨ j = w.heap.size) w1.drew b G x S X φ) := DD.out.past (Below.refl _ _).drew
    generalize w.heap.size = D0 at *
    go_region_held_law (fun w' => w'.cell? ⟨D0, 1, none⟩ = some (.string oa) ∧ w'.cell? ⟨D0, 2, none⟩ = some (.string ob) ∧ w'.cell? ⟨D0, 3, none⟩ = some (.int .i64 on)) (first | go_keep | exact ⟨z1, z2, z3⟩ | exact ⟨y1, y2, y3⟩) (first
      | (refine zstep_fn (by rfl) 66 (by rfl) 37 _ _ (by rfl) HK1.out [.pointer (some ⟨b, 0, none⟩), .string oa, .int .i64 on] (by rfl) (HC1.out _ HDR.out) ?_; rintro e w4 ⟨rfl, m4⟩; refine ⟨_, rfl, ?_⟩; obtain ⟨z1, z2, z3⟩ := HBX2.out _ _ HDR.out rfl m4; have M4 := hide m4; clear m4)
      | (refine zstep_fn (by rfl) 72 (by rfl) 38 _ _ (by rfl) HK2.out [.pointer (some ⟨x, 0, none⟩), .string oa, .int .i64 on] (by rfl) (HC2.out _ _ HDR.out M4.out) ?_; rintro e w5 ⟨rfl, m5⟩; refine ⟨_, rfl, ?_⟩; obtain ⟨y1, y2, y3⟩ := HBX3.out w1.drew _ rfl m5; have M5 := hide m5; clear m5))
    all_goals (
      go_wp2
      go_ret2
      exact ⟨r, rfl, Outs.acts M5.out HT0.out.drew⟩)
  have g4 : (pk == 4) = false := by rw [beq_eq_false_iff_ne]; omega
  have e5 : pk = 5 := by omega
  subst e5
  have HC1 := hide (fun W (hd : Duo (fun j => F j ∨ j = w.heap.size) W b G x S X φ) => remove_one hd hn oa ha)
  have HC2 := hide (fun W w4 (hd : Duo (fun j => F j ∨ j = w.heap.size) W b G x S X φ) hm7 => remove_two (w4 := w4) hd hn oa ha hm7)
  have HK1 := hide (enters_of Tryz.func22 (by kernel_rfl) rfl)
  have HK2 := hide (enters_of Tryz.func39 (by kernel_rfl) rfl)
  go_enter Tryz.func14, Tryz.ntmps14
  go_wp2_with fail
  refine (HP.out _).mono ?_
  rintro e w1 ⟨rfl, hw⟩
  obtain rfl := hw.symm
  clear hw HP
  go_wp2_with fail
  generalize (S.remove oa) = op at *
  obtain ⟨r, T⟩ := op
  simp only at HC1 HC2
  generalize hw0 : w.alloc (.cells #[.int .i64 kk, .string oa, .string ob, .int .i64 on, .slice kao kn kc] 32) = w1 at *
  have HBX2 : Hid (∀ W w4, Duo (fun j => F j ∨ j = w.heap.size) W b G x S X φ → W.heap[w.heap.size]? = w1.heap[w.heap.size]? → Mid W w4 b G (r, T) → w4.cell? ⟨w.heap.size, 1, none⟩ = some (.string oa) ∧ w4.cell? ⟨w.heap.size, 2, none⟩ = some (.string ob) ∧ w4.cell? ⟨w.heap.size, 3, none⟩ = some (.int .i64 on)) := fun W w4 hd hb hm => by
    have t4 := hm.touch hd
    have h5 := t4.at (hb.trans HBX.out) (fun e => e (.inr rfl))
    obtain ⟨_, q1, q2, q3, _⟩ := vbox5 h5
    exact ⟨q1, q2, q3⟩
  have HBX3 : Hid (∀ W w4, W.heap[w.heap.size]? = w1.heap[w.heap.size]? → Outs (fun j => F j ∨ j = w.heap.size) W w4 b G x (r, T) → w4.cell? ⟨w.heap.size, 1, none⟩ = some (.string oa) ∧ w4.cell? ⟨w.heap.size, 2, none⟩ = some (.string ob) ∧ w4.cell? ⟨w.heap.size, 3, none⟩ = some (.int .i64 on)) := fun W w4 hb hm => by
    obtain ⟨_, _, _, _, _, _, t4⟩ := hm
    have h5 := t4.at (hb.trans HBX.out) (fun e => e (.inr rfl))
    obtain ⟨_, q1, q2, q3, _⟩ := vbox5 h5
    exact ⟨q1, q2, q3⟩
  have HDR : Hid (Duo (fun j => F j ∨ j = w.heap.size) w1.drew b G x S X φ) := DD.out.past (Below.refl _ _).drew
  generalize w.heap.size = D0 at *
  go_region_held_law (fun w' => w'.cell? ⟨D0, 1, none⟩ = some (.string oa) ∧ w'.cell? ⟨D0, 2, none⟩ = some (.string ob) ∧ w'.cell? ⟨D0, 3, none⟩ = some (.int .i64 on)) (first | go_keep | exact ⟨z1, z2, z3⟩ | exact ⟨y1, y2, y3⟩) (first
    | (refine zstep_fn (by rfl) 78 (by rfl) 22 _ _ (by rfl) HK1.out [.pointer (some ⟨b, 0, none⟩), .string oa] (by rfl) (HC1.out _ HDR.out) ?_; rintro e w4 ⟨rfl, m4⟩; refine ⟨_, rfl, ?_⟩; obtain ⟨z1, z2, z3⟩ := HBX2.out _ _ HDR.out rfl m4; have M4 := hide m4; clear m4)
    | (refine zstep_fn (by rfl) 82 (by rfl) 39 _ _ (by rfl) HK2.out [.pointer (some ⟨x, 0, none⟩), .string oa] (by rfl) (HC2.out _ _ HDR.out M4.out) ?_; rintro e w5 ⟨rfl, m5⟩; refine ⟨_, rfl, ?_⟩; obtain ⟨y1, y2, y3⟩ := HBX3.out w1.drew _ rfl m5; have M5 := hide m5; clear m5))
  all_goals (
    go_wp2
    go_ret2
    exact ⟨r, rfl, Outs.acts M5.out HT0.out.drew⟩)
end
end Go.Proofs.YtknldpaaikcedaaGreat
