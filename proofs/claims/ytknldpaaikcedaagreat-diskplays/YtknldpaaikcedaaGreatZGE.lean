/-
  Both disks in memory, apart from one another and from what is not theirs.
-/
import Derived.Test.YtknldpaaikcedaaGreatZGC
import Derived.Test.YtknldpaaikcedaaGreatZZ19
import Derived.Test.YtknldpaaikcedaaGreatZZ11
namespace Go.Proofs.YtknldpaaikcedaaGreat
open Go.RowKit Go.Maps Go.Sort

structure Duo (F : Nat → Prop) (w : World) (b : Nat) (G : DG) (x : Nat) (S : RD) (X : XG) (φ : Nat → Nat) : Prop where
  rep : Rep w b G
  xr : XR w x S X
  rel : Rel G S φ
  apart : ∀ j, G.own j → ¬ X.own x S.files.length j
  outG : ∀ j, F j → ¬ G.own j
  outX : ∀ j, F j → ¬ X.own x S.files.length j
  ltF : ∀ j, F j → j < w.heap.size
section
variable {F F' : Nat → Prop} {w w' : World} {b x : Nat} {G G' : DG} {S S' : RD} {X X' : XG} {φ φ' : Nat → Nat}
/-- The program's disk goes on. -/
theorem Duo.stepG (h : Duo F w b G x S X φ) (s : Step w b G w' G') : Rep w' b G' ∧ XR w' x S X ∧ (∀ j, G'.own j → ¬ X.own x S.files.length j) ∧ (∀ j, F j → ¬ G'.own j) ∧ (∀ j, F j → j < w'.heap.size) ∧ Touch (fun j => ¬ F j) w w' := by
  refine ⟨s.rep, h.xr.keep s.touch fun j hj e => h.apart j e hj, fun j hj e => ?_, fun j hj e => ?_, fun j hj => Nat.lt_of_lt_of_le (h.ltF j hj) s.touch.size, s.touch.mono fun j _ e hf => h.outG j hf e⟩
  · rcases s.grow j hj with e1 | e1
    · exact h.apart j e1 e
    · have := h.xr.lt e; omega
  · rcases s.grow j e with e1 | e1
    · exact h.outG j hj e1
    · have := h.ltF j hj; omega
/-- Then the document's. -/
theorem duo_stepX (hr : Rep w b G) (hap : ∀ j, G.own j → ¬ X.own x S.files.length j) (hoG : ∀ j, F j → ¬ G.own j) (hoX : ∀ j, F j → ¬ X.own x S.files.length j) (hlt : ∀ j, F j → j < w.heap.size) (hx' : XR w' x S' X') (s : XStep w w' x S.files.length S'.files.length X X') (hrel : Rel G S' φ') : Duo F w' b G x S' X' φ' ∧ Touch (fun j => ¬ F j) w w' := by
  refine ⟨⟨hr.keep s.touch fun j hj => Classical.byContradiction fun e => hap j e hj, hx', hrel, fun j hj e => ?_, hoG, fun j hj e => ?_, fun j hj => Nat.lt_of_lt_of_le (hlt j hj) s.touch.size⟩, s.touch.mono fun j _ e hf => hoX j hf e⟩
  · rcases s.grew j e with e1 | e1
    · exact hap j hj e1
    · have := hr.lt j hj; omega
  · rcases s.grew j e with e1 | e1
    · exact hoX j hj e1
    · have := hlt j hj; omega
theorem Duo.past (h : Duo F w b G x S X φ) (hb : RowKit.Below w.heap.size w w') : Duo F w' b G x S X φ :=
  ⟨h.rep.below hb, h.xr.below hb, h.rel, h.apart, h.outG, h.outX, fun j hj => Nat.lt_of_lt_of_le (h.ltF j hj) hb.size⟩
theorem Duo.less (h : Duo F w b G x S X φ) (hF : ∀ j, F' j → F j) : Duo F' w b G x S X φ := ⟨h.rep, h.xr, h.rel, h.apart, fun j hj => h.outG j (hF j hj), fun j hj => h.outX j (hF j hj), fun j hj => h.ltF j (hF j hj)⟩
/-- A new block, that is neither's. -/
theorem Duo.wide (h : Duo F w b G x S X φ) (o : Obj) : Duo (fun j => F j ∨ j = w.heap.size) (w.alloc o) b G x S X φ := by
  have hb : RowKit.Below w.heap.size w (w.alloc o) := (Below.refl _ _).alloc (Nat.le_refl _) _
  refine ⟨h.rep.below hb, h.xr.below hb, h.rel, h.apart, fun j hj e => ?_, fun j hj e => ?_, fun j hj => ?_⟩
  · rcases hj with e1 | e1
    · exact h.outG j e1 e
    · have := h.rep.lt j e; omega
  · rcases hj with e1 | e1
    · exact h.outX j e1 e
    · have := h.xr.lt e; omega
  · rcases hj with e1 | e1
    · have := h.ltF j e1; simp; omega
    · simp; omega
/-- One call at each, one behind the other: the program's, then the document's. -/
theorem duo_both {er : Int} {op : Int × RD} (h : Duo F w b G x S X φ) {w2 w3 : World} (s : Step w b G w2 G') (hres : er = op.1 ∧ ∃ φ', Rel G' op.2 φ') (hx' : XR w3 x op.2 X') (s' : XStep w2 w3 x S.files.length op.2.files.length X X') : er = op.1 ∧ ∃ φ', Duo F w3 b G' x op.2 X' φ' ∧ Touch (fun j => ¬ F j) w w3 := by
  obtain ⟨e, φ', hrel⟩ := hres
  obtain ⟨h1, _, h3, h4, h5, h6⟩ := h.stepG s
  obtain ⟨d, t⟩ := duo_stepX h1 h3 h4 h.outX h5 hx' s' hrel
  exact ⟨e, φ', d, h6.andThen t fun _ _ e => e⟩
end
end Go.Proofs.YtknldpaaikcedaaGreat
/-
  One call at each disk: the program's, then the document's.
-/
namespace Go.Proofs.YtknldpaaikcedaaGreat
open Go.RowKit Go.Maps Go.Sort

section
variable {F : Nat → Prop} {W w w' w4 : World} {b x : Nat} {G G' : DG} {S : RD} {X X' : XG} {φ : Nat → Nat} {er : Int}
theorem res_nq {rf : Int} {does : Prop} (hd : does → G'.n ≤ G.tick.n + 1 ∧ G'.q = G.tick.q) (hr : Res rf does G er G') : G'.n ≤ G.n + 1 ∧ G'.q = G.q := by
  rcases hr with ⟨_, _, h3⟩ | ⟨_, _, _, h4⟩ | ⟨_, _, _, _, h5⟩ | ⟨_, _, _, _, h5⟩
  · subst h3; exact ⟨Nat.le_succ _, rfl⟩
  · subst h4; exact ⟨Nat.le_succ _, rfl⟩
  · subst h5; exact ⟨Nat.le_succ _, rfl⟩
  · exact hd h5
/-- The program's call is done. -/
def Mid (W w' : World) (b : Nat) (G : DG) (op : Int × RD) : Prop := ∃ G', Step W b G w' G' ∧ (∃ φ', Rel G' op.2 φ') ∧ G'.n ≤ G.n + 1 ∧ G'.q = G.q
/-- Both are. -/
def Outs (F : Nat → Prop) (W w' : World) (b : Nat) (G : DG) (x : Nat) (op : Int × RD) : Prop := ∃ G' X' φ', Duo F w' b G' x op.2 X' φ' ∧ G'.n ≤ G.n + 1 ∧ G'.q = G.q ∧ Touch (fun j => ¬ F j) W w'
theorem mid_out {op : Int × RD} (h : Duo F W b G x S X φ) (hm : Mid W w4 b G op) {w5 : World} (hx : XR w5 x op.2 X') (hs : XStep w4 w5 x S.files.length op.2.files.length X X') : Outs F W w5 b G x op := by
  obtain ⟨G', st, hφ, hn, hq⟩ := hm
  obtain ⟨_, φ', d, t⟩ := duo_both h st ⟨rfl, hφ⟩ hx hs
  exact ⟨G', X', φ', d, hn, hq, t⟩
theorem create_one (h : Duo F W b G x S X φ) (hn : G.n < 900) (k : ByteArray) (hk : k.size ≤ 1125899906842624) : Calls Tryz.prog 16 #[.pointer (some ⟨b, 0, none⟩), .string k] W fun e w' => e = .returned (.int .i64 (S.create k).1) ∧ Mid W w' b G (S.create k) := by
  refine (create_sum h.rep (by omega) k (by unfold maxLen; omega)).mono ?_
  rintro e w' ⟨er, G', rfl, st, rs⟩
  obtain ⟨e1, hφ⟩ := create_rel h.rep h.rel k rs
  refine ⟨by rw [e1], G', st, hφ, res_nq ?_ rs⟩
  · rintro ⟨f, c⟩
    exact ⟨by rw [c.n]; exact Nat.le_refl _, c.q⟩
theorem create_two (h : Duo F W b G x S X φ) (hn : G.n < 900) (k : ByteArray) (hk : k.size ≤ 1125899906842624) (hm9 : Mid W w4 b G (S.create k)) : Calls Tryz.prog 33 #[.pointer (some ⟨x, 0, none⟩), .string k] w4 fun e w' => e = .returned (.int .i64 (S.create k).1) ∧ Outs F W w' b G x (S.create k) := by
  have hm8 := hm9
  obtain ⟨G', st, ⟨φ', hrel⟩, hn', hq'⟩ := hm9
  have hok := (rel_ok st.rep (by omega) hrel).1
  have hx := (h.stepG st).2.1
  refine (zcreate_any hx k (by omega) (by have := h.rel.nf; omega) hok).mono ?_
  rintro e w' ⟨rfl, X', x', s'⟩
  exact ⟨rfl, mid_out h hm8 x' s'⟩
theorem append_one (h : Duo F W b G x S X φ) (hn : G.n < 900) (hq : G.q = 1000000000) (k t : ByteArray) (hk : k.size ≤ 1125899906842624) (ht : t.size ≤ 1125899906842624) : Calls Tryz.prog 17 #[.pointer (some ⟨b, 0, none⟩), .string k, .string t] W fun e w' => e = .returned (.int .i64 (S.append k t).1) ∧ Mid W w' b G (S.append k t) := by
  refine (append_sum h.rep (by omega) k t (by unfold maxLen; omega) (by unfold maxLen; omega) (.inr (by have := h.rep.hroom; omega))).mono ?_
  rintro e w' ⟨er, G', rfl, st, rs⟩
  obtain ⟨e1, hφ⟩ := append_rel h.rep h.rel k t rs
  refine ⟨by rw [e1], G', st, hφ, res_nq ?_ rs⟩
  · rintro ⟨f, F, F2, c, _, _, hc⟩
    exact ⟨by rw [hc.n]; exact Nat.le_refl _, hc.q⟩
theorem append_two (h : Duo F W b G x S X φ) (hn : G.n < 900) (k t : ByteArray) (_hk : k.size ≤ 1125899906842624) (ht : t.size ≤ 1125899906842624) (hm9 : Mid W w4 b G (S.append k t)) : Calls Tryz.prog 34 #[.pointer (some ⟨x, 0, none⟩), .string k, .string t] w4 fun e w' => e = .returned (.int .i64 (S.append k t).1) ∧ Outs F W w' b G x (S.append k t) := by
  have hm8 := hm9
  obtain ⟨G', st, ⟨φ', hrel⟩, hn', hq'⟩ := hm9
  have hok := (rel_ok st.rep (by omega) hrel).1
  have hsm := (rel_ok h.rep (by omega) h.rel).2
  have hx := (h.stepG st).2.1
  refine (zappend_any hx k t hsm ht hok).mono ?_
  rintro e w' ⟨rfl, X', x', s'⟩
  exact ⟨rfl, mid_out h hm8 x' s'⟩
theorem sync_one (h : Duo F W b G x S X φ) (hn : G.n < 900) (k : ByteArray) (hk : k.size ≤ 1125899906842624) : Calls Tryz.prog 19 #[.pointer (some ⟨b, 0, none⟩), .string k] W fun e w' => e = .returned (.int .i64 (S.sync k).1) ∧ Mid W w' b G (S.sync k) := by
  refine (sync_sum h.rep (by omega) k (by unfold maxLen; omega)).mono ?_
  rintro e w' ⟨er, G', rfl, st, rs⟩
  obtain ⟨e1, hφ⟩ := sync_rel h.rep h.rel k rs
  refine ⟨by rw [e1], G', st, hφ, res_nq ?_ rs⟩
  · rintro ⟨f, F, F2, _, _, hc⟩
    exact ⟨by rw [hc.n]; show G.n ≤ G.n + 1; omega, hc.q⟩
theorem sync_two (h : Duo F W b G x S X φ) (hn : G.n < 900) (k : ByteArray) (_hk : k.size ≤ 1125899906842624) (hm9 : Mid W w4 b G (S.sync k)) : Calls Tryz.prog 35 #[.pointer (some ⟨x, 0, none⟩), .string k] w4 fun e w' => e = .returned (.int .i64 (S.sync k).1) ∧ Outs F W w' b G x (S.sync k) := by
  have hm8 := hm9
  obtain ⟨G', st, ⟨φ', hrel⟩, hn', hq'⟩ := hm9
  have hok := (rel_ok st.rep (by omega) hrel).1
  have hx := (h.stepG st).2.1
  refine (zsync_any hx k hok).mono ?_
  rintro e w' ⟨rfl, X', x', s'⟩
  exact ⟨rfl, mid_out h hm8 x' s'⟩
theorem rename_one (h : Duo F W b G x S X φ) (hn : G.n < 900) (k t : ByteArray) (hk : k.size ≤ 1125899906842624) (ht : t.size ≤ 1125899906842624) : Calls Tryz.prog 20 #[.pointer (some ⟨b, 0, none⟩), .string k, .string t] W fun e w' => e = .returned (.int .i64 (S.rename k t).1) ∧ Mid W w' b G (S.rename k t) := by
  refine (rename_sum h.rep (by omega) k t (by unfold maxLen; omega) (by unfold maxLen; omega)).mono ?_
  rintro e w' ⟨er, G', rfl, st, rs⟩
  obtain ⟨e1, hφ⟩ := rename_rel h.rep h.rel k t rs
  refine ⟨by rw [e1], G', st, hφ, res_nq ?_ rs⟩
  · rintro ⟨f, y, _, c, _⟩
    exact ⟨by rw [c.n]; exact Nat.le_refl _, c.q⟩
theorem rename_two (h : Duo F W b G x S X φ) (hn : G.n < 900) (k t : ByteArray) (_hk : k.size ≤ 1125899906842624) (ht : t.size ≤ 1125899906842624) (hm9 : Mid W w4 b G (S.rename k t)) : Calls Tryz.prog 36 #[.pointer (some ⟨x, 0, none⟩), .string k, .string t] w4 fun e w' => e = .returned (.int .i64 (S.rename k t).1) ∧ Outs F W w' b G x (S.rename k t) := by
  have hm8 := hm9
  obtain ⟨G', st, ⟨φ', hrel⟩, hn', hq'⟩ := hm9
  have hok := (rel_ok st.rep (by omega) hrel).1
  have hx := (h.stepG st).2.1
  refine (zrename_any hx k t (by omega) hok).mono ?_
  rintro e w' ⟨rfl, X', x', s'⟩
  exact ⟨rfl, mid_out h hm8 x' s'⟩
theorem truncate_one (h : Duo F W b G x S X φ) (hn : G.n < 900) (hq : G.q = 1000000000) (k : ByteArray) (m : Int) (hk : k.size ≤ 1125899906842624) (hm : -9223372036854775808 ≤ m ∧ m ≤ 9223372036854775807) : Calls Tryz.prog 37 #[.pointer (some ⟨b, 0, none⟩), .string k, .int .i64 m] W fun e w' => e = .returned (.int .i64 (S.truncate k m).1) ∧ Mid W w' b G (S.truncate k m) := by
  refine (truncate_sum h.rep (by omega) k m (by unfold maxLen; omega) (by omega)).mono ?_
  rintro e w' ⟨er, G', rfl, st, rs⟩
  obtain ⟨e1, hφ⟩ := truncate_rel h.rep h.rel k m hm rs
  refine ⟨by rw [e1], G', st, hφ, res_nq ?_ rs⟩
  · rintro ⟨f, F, F2, c, _, _, _, hc⟩
    exact ⟨by rw [hc.n]; exact Nat.le_refl _, hc.q⟩
theorem truncate_two (h : Duo F W b G x S X φ) (hn : G.n < 900) (k : ByteArray) (m : Int) (_hk : k.size ≤ 1125899906842624) (_hm : -9223372036854775808 ≤ m ∧ m ≤ 9223372036854775807) (hm9 : Mid W w4 b G (S.truncate k m)) : Calls Tryz.prog 38 #[.pointer (some ⟨x, 0, none⟩), .string k, .int .i64 m] w4 fun e w' => e = .returned (.int .i64 (S.truncate k m).1) ∧ Outs F W w' b G x (S.truncate k m) := by
  have hm8 := hm9
  obtain ⟨G', st, ⟨φ', hrel⟩, hn', hq'⟩ := hm9
  have hok := (rel_ok st.rep (by omega) hrel).1
  have hx := (h.stepG st).2.1
  refine (ztruncate_any hx k m hok).mono ?_
  rintro e w' ⟨rfl, X', x', s'⟩
  exact ⟨rfl, mid_out h hm8 x' s'⟩
theorem remove_one (h : Duo F W b G x S X φ) (hn : G.n < 900) (k : ByteArray) (hk : k.size ≤ 1125899906842624) : Calls Tryz.prog 22 #[.pointer (some ⟨b, 0, none⟩), .string k] W fun e w' => e = .returned (.int .i64 (S.remove k).1) ∧ Mid W w' b G (S.remove k) := by
  refine (remove_sum h.rep (by omega) k (by unfold maxLen; omega)).mono ?_
  rintro e w' ⟨er, G', rfl, st, rs⟩
  obtain ⟨e1, hφ⟩ := remove_rel h.rep h.rel k rs
  refine ⟨by rw [e1], G', st, hφ, res_nq ?_ rs⟩
  · rintro ⟨f, y, _, c, _⟩
    exact ⟨by rw [c.n]; exact Nat.le_refl _, c.q⟩
theorem remove_two (h : Duo F W b G x S X φ) (hn : G.n < 900) (k : ByteArray) (_hk : k.size ≤ 1125899906842624) (hm9 : Mid W w4 b G (S.remove k)) : Calls Tryz.prog 39 #[.pointer (some ⟨x, 0, none⟩), .string k] w4 fun e w' => e = .returned (.int .i64 (S.remove k).1) ∧ Outs F W w' b G x (S.remove k) := by
  have hm8 := hm9
  obtain ⟨G', st, ⟨φ', hrel⟩, hn', hq'⟩ := hm9
  have hok := (rel_ok st.rep (by omega) hrel).1
  have hx := (h.stepG st).2.1
  refine (zremove_any hx k hok).mono ?_
  rintro e w' ⟨rfl, X', x', s'⟩
  exact ⟨rfl, mid_out h hm8 x' s'⟩
theorem dirsync_one (h : Duo F W b G x S X φ) (hn : G.n < 900)  : Calls Tryz.prog 18 #[.pointer (some ⟨b, 0, none⟩)] W fun e w' => e = .returned (.int .i64 (S.dirsync).1) ∧ Mid W w' b G (S.dirsync) := by
  refine (dirsync_sum h.rep (by omega)).mono ?_
  rintro e w' ⟨er, G', rfl, st, rs⟩
  obtain ⟨e1, hφ⟩ := dirsync_rel h.rel rs
  refine ⟨by rw [e1], G', st, hφ, res_nq ?_ rs⟩
  · intro c
    exact ⟨by rw [c.n]; show G.n ≤ G.n + 1; omega, c.q⟩
theorem dirsync_two (h : Duo F W b G x S X φ) (_hn : G.n < 900)  (hm9 : Mid W w4 b G (S.dirsync)) : Calls Tryz.prog 40 #[.pointer (some ⟨x, 0, none⟩)] w4 fun e w' => e = .returned (.int .i64 (S.dirsync).1) ∧ Outs F W w' b G x (S.dirsync) := by
  have hm8 := hm9
  obtain ⟨G', st, ⟨φ', hrel⟩, hn', hq'⟩ := hm9
  have hx := (h.stepG st).2.1
  refine (zdirsync_any hx).mono ?_
  rintro e w' ⟨rfl, X', x', s'⟩
  exact ⟨rfl, mid_out h hm8 x' s'⟩
theorem fuse_one (h : Duo F W b G x S X φ) (n : Int) (hn : -9223372036854775808 ≤ n ∧ n ≤ 9223372036854775807) : Calls Tryz.prog 10 #[.pointer (some ⟨b, 0, none⟩), .int .i64 n] W fun e w' => e = .returned (.tuple #[]) ∧ Mid W w' b G (0, { S with fuse := max n (-1) }) := by
  refine (fuse_any h.rep n hn).mono ?_
  rintro e w' ⟨rfl, st⟩
  exact ⟨rfl, _, st, ⟨φ, fuse_rel h.rel n hn rfl⟩, Nat.le_succ _, rfl⟩
theorem fuse_two (h : Duo F W b G x S X φ) (n : Int) (hn : -9223372036854775808 ≤ n ∧ n ≤ 9223372036854775807) (hm9 : Mid W w4 b G (0, { S with fuse := max n (-1) })) : Calls Tryz.prog 11 #[.pointer (some ⟨x, 0, none⟩), .int .i64 n] w4 fun e w' => e = .returned (.tuple #[]) ∧ Outs F W w' b G x (0, { S with fuse := max n (-1) }) := by
  have hm8 := hm9
  obtain ⟨G', st, _⟩ := hm9
  have hx := (h.stepG st).2.1
  refine (zfuse_any hx n hn).mono ?_
  rintro e w' ⟨rfl, x', s'⟩
  exact ⟨rfl, mid_out h hm8 x' s'⟩
theorem crash_one (h : Duo F W b G x S X φ) (hn : G.n < 900) (dirs : Int) (hdi : -9223372036854775808 ≤ dirs ∧ dirs ≤ 9223372036854775807) (ko : Option Addr) (kc : Nat) (us : List Int) (hus : ∀ u ∈ us, -9223372036854775808 ≤ u ∧ u ≤ 9223372036854775807) (hul : us.length ≤ 4611686018427387904) (hk : NumsAt W ko us) (hk0 : us ≠ [] → ∀ kb off, ko = some ⟨kb, off, none⟩ → G.role kb = (0, 0)) :
    Calls Tryz.prog 12 #[.pointer (some ⟨b, 0, none⟩), .int .i64 dirs, .slice ko us.length kc] W fun e w' => e = .returned (.tuple #[]) ∧ Mid W w' b G (0, S.crash dirs us) := by
  refine (crash_any h.rep (by omega) dirs hdi ko kc us hus hul hk hk0).mono ?_
  rintro e w' ⟨rfl, G', st, c⟩
  exact ⟨rfl, G', st, ⟨φ, crash_rel h.rep st.rep h.rel dirs us c⟩, by rw [c.n]; exact Nat.le_succ _, c.q⟩
theorem crash_two (h : Duo F W b G x S X φ) (hn : G.n < 900) (dirs : Int) (hdi : -9223372036854775808 ≤ dirs ∧ dirs ≤ 9223372036854775807) (ko : Option Addr) (kc : Nat) (us : List Int) (hus : ∀ u ∈ us, -9223372036854775808 ≤ u ∧ u ≤ 9223372036854775807) (hul : us.length ≤ 4611686018427387904) (hk : NumsAt w4 ko us) (hk0 : us ≠ [] → ∀ kb off, ko = some ⟨kb, off, none⟩ → ¬ X.own x S.files.length kb) (hm9 : Mid W w4 b G (0, S.crash dirs us)) :
    Calls Tryz.prog 13 #[.pointer (some ⟨x, 0, none⟩), .int .i64 dirs, .slice ko us.length kc] w4 fun e w' => e = .returned (.tuple #[]) ∧ Outs F W w' b G x (0, S.crash dirs us) := by
  have hm8 := hm9
  obtain ⟨G', st, ⟨φ', hrel⟩, hn', hq'⟩ := hm9
  have hok := (rel_ok st.rep (by omega) hrel).1
  have hx := (h.stepG st).2.1
  have hnf := h.rel.nf
  refine (zcrash_any hx dirs hdi ko kc us hus hul hk hk0 (fun i hi e => ?_) (fun s hs => ?_) hok).mono ?_
  · obtain ⟨j, h1, h2⟩ := crash_found h.rep h.rel i hi e
    rw [zid_some h1]
    omega
  · have := h.rel.sid s hs
    omega
  · rintro e w' ⟨rfl, X', x', s'⟩
    exact ⟨rfl, mid_out h hm8 x' s'⟩
end
end Go.Proofs.YtknldpaaikcedaaGreat
