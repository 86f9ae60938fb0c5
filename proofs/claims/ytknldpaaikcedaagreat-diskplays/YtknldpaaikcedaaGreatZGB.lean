/-
  carillonref04's disk in memory; name, Fuse, act, bytes, as they run.
-/
import Derived.Test.YtknldpaaikcedaaGreatZGA
import Derived.Lib.QuietBelow
namespace Go.Proofs.YtknldpaaikcedaaGreat
open Go.RowKit

structure RD where
  room : Int
  fuse : Int
  down : Bool
  files : List ZF
  dir : List ZN
  lasts : List ZN
  since : List ZS
structure XG where
  fv : Value
  dv : Value
  lv : Value
  sv : Value
  uv : Nat → Value
def stCells (l : List ZS) : List Value := l.flatMap fun x => [.int .i64 x.kind, .string x.a, .string x.b, .int .i64 x.id]
def filesC (fs : List ZF) (uv : Nat → Value) : List Value := fs.zipIdx.flatMap fun p => [.string p.1.lasts, uv p.2]
structure ZF.ok (f : ZF) : Prop where
  fits : zfits f.lasts f.since
  big : f.lasts.size + zsum f.since ≤ 1152921504606846976
  num : ∀ u ∈ f.since, -9223372036854775808 ≤ u.n ∧ u.n ≤ 9223372036854775807
  few : f.since.length ≤ 1000
structure RD.ok (S : RD) : Prop where
  room : 0 ≤ S.room ∧ S.room ≤ 1000000000
  fuse : -9223372036854775808 ≤ S.fuse ∧ S.fuse ≤ 9223372036854775807
  files : ∀ f ∈ S.files, f.ok
  nf : S.files.length ≤ 1000
  nd : S.dir.length ≤ 1000
  nl : S.lasts.length ≤ 1000
  ns : S.since.length ≤ 1000
  dir : ∀ p ∈ S.dir, p.2 < S.files.length
  lasts : ∀ p ∈ S.lasts, p.2 < S.files.length
structure XR (w : World) (b : Nat) (S : RD) (X : XG) : Prop where
  ok : S.ok
  box : w.heap[b]? = some (.cells #[.int .i64 S.room, X.fv, X.dv, X.lv, X.sv, .int .i64 S.fuse, .bool S.down] 61 (0, 0))
  files : w.ownsRow 0 75 2 X.fv S.files.length (filesC S.files X.uv)
  units : ∀ i (h : i < S.files.length), w.ownsRow 0 112 2 (X.uv i) S.files[i].since.length (unCells S.files[i].since)
  dir : w.ownsRow 0 77 2 X.dv S.dir.length (nmCells S.dir)
  lasts : w.ownsRow 0 77 2 X.lv S.lasts.length (nmCells S.lasts)
  steps : w.ownsRow 0 72 4 X.sv S.since.length (stCells S.since)
  apart : ∀ i j, i < S.files.length → j < S.files.length → i ≠ j → ∀ k, (X.uv i).ownBlock = some k → (X.uv j).ownBlock ≠ some k
/-- Its own blocks: those that it writes, and those that it reads alone. -/
def XG.own (X : XG) (b n j : Nat) : Prop := j = b ∨ X.fv.ownBlock = some j ∨ (∃ i, i < n ∧ (X.uv i).ownBlock = some j) ∨ X.sv.ownBlock = some j ∨ X.dv.ownBlock = some j ∨ X.lv.ownBlock = some j
section
variable {w w' : World} {b : Nat} {S : RD} {X : XG}
theorem XR.keep {own : Nat → Prop} (h : XR w b S X) (ht : Touch own w w') (hn : ∀ j, X.own b S.files.length j → ¬ own j) : XR w' b S X :=
  ⟨h.ok, ht.at h.box (hn _ (.inl rfl)), ht.row h.files fun j hj => hn j (.inr (.inl hj)), fun i hi => ht.row (h.units i hi) fun j hj => hn j (.inr (.inr (.inl ⟨i, hi, hj⟩))), ht.row h.dir fun j hj => hn j (.inr (.inr (.inr (.inr (.inl hj))))), ht.row h.lasts fun j hj => hn j (.inr (.inr (.inr (.inr (.inr hj))))), ht.row h.steps fun j hj => hn j (.inr (.inr (.inr (.inl hj)))), h.apart⟩
theorem XR.below (h : XR w b S X) (hb : Below w.heap.size w w') : XR w' b S X := h.keep (own := fun _ => False) (Touch.of_below hb) fun _ _ e => e
theorem XR.lt (h : XR w b S X) {j : Nat} (hj : X.own b S.files.length j) : j < w.heap.size := by
  rcases hj with rfl | e | ⟨i, hi, e⟩ | e | e | e
  · exact heap_lt h.box
  · exact row_lt h.files e
  · exact row_lt (h.units i hi) e
  · exact row_lt h.steps e
  · exact row_lt h.dir e
  · exact row_lt h.lasts e
theorem XR.c (h : XR w b S X) : w.cell? ⟨b, 0, none⟩ = some (.int .i64 S.room) ∧ w.cell? ⟨b, 1, none⟩ = some X.fv ∧ w.cell? ⟨b, 2, none⟩ = some X.dv ∧ w.cell? ⟨b, 3, none⟩ = some X.lv ∧ w.cell? ⟨b, 4, none⟩ = some X.sv ∧ w.cell? ⟨b, 5, none⟩ = some (.int .i64 S.fuse) ∧ w.cell? ⟨b, 6, none⟩ = some (.bool S.down) :=
  ⟨box_cell h.box 0 rfl, box_cell h.box 1 rfl, box_cell h.box 2 rfl, box_cell h.box 3 rfl, box_cell h.box 4 rfl, box_cell h.box 5 rfl, box_cell h.box 6 rfl⟩
theorem XR.file (h : XR w b S X) {i : Nat} (hi : i < S.files.length) : ∃ g c uo uc, X.fv = .slice (some ⟨g, 0, none⟩) S.files.length c ∧ g < w.heap.size ∧ X.uv i = .slice uo S.files[i].since.length uc ∧ w.cell? ⟨g, i * 2, none⟩ = some (.string S.files[i].lasts) ∧ w.cell? ⟨g, i * 2 + 1, none⟩ = some (.slice uo S.files[i].since.length uc) := by
  obtain ⟨ao, c, hv⟩ := row_slice h.files
  have hf := h.files
  rw [hv] at hf
  obtain ⟨g, rfl, hg, h3, h4⟩ := row_two hf i hi
  obtain ⟨uo, uc, hu⟩ := row_slice (h.units i hi)
  have hz : i < S.files.zipIdx.length := by rw [List.length_zipIdx]; exact hi
  obtain ⟨g3, g4⟩ := pair_get (fun p : ZF × Nat => Value.string p.1.lasts) (fun p => X.uv p.2) S.files.zipIdx i hz
  have hzi : S.files.zipIdx[i] = (S.files[i], i) := by simp
  rw [hzi] at g3 g4
  exact ⟨g, c, uo, uc, hv, hg, hu, h3.trans g3, by rw [← hu]; exact h4.trans g4⟩
def RD.bytes (S : RD) (i : Nat) : ByteArray := match S.files[i]? with
  | some f => zdone f.lasts f.since
  | none => ⟨#[]⟩
theorem RD.bytes_at {i : Nat} (hi : i < S.files.length) : S.bytes i = zdone S.files[i].lasts S.files[i].since := by
  unfold RD.bytes
  rw [List.getElem?_eq_getElem hi]
set_option maxHeartbeats 2000000 in
set_option maxRecDepth 100000 in
theorem zbytes_any (h : XR w b S X) (i : Nat) (hi : i < S.files.length) : Calls Tryz.prog 26 #[.pointer (some ⟨b, 0, none⟩), .int .i64 i] w fun e w' => e = .returned (.string (S.bytes i)) ∧ Below w.heap.size w w' := by
  obtain ⟨g, c, uo, uc, hfv, hg, hu, f0, f1⟩ := h.file hi
  obtain ⟨_, c1, _⟩ := h.c
  rw [hfv] at c1
  have hok := h.ok.files S.files[i] (List.getElem_mem hi)
  have hn := h.ok.nf
  have ho := h.units i hi
  rw [hu] at ho
  rw [RD.bytes_at hi]
  have HD : Hid (∀ W, Below w.heap.size w W → Calls Tryz.prog 31 #[.string S.files[i].lasts, .slice uo S.files[i].since.length uc] W fun e w' => e = .returned (.string (zdone S.files[i].lasts S.files[i].since)) ∧ w' = W) := fun W hb => zdone_any S.files[i].lasts uo uc S.files[i].since W 0 (by have := hok.few; omega) hok.fits (by have := hok.big; omega) hok.num (below_row hb ho)
  generalize zdone S.files[i].lasts S.files[i].since = R at *
  generalize S.files[i].lasts = fl at *
  generalize S.files[i].since.length = ul at *
  have hi0 : (0 : Int) ≤ (i : Int) := by omega
  clear ho hok hfv hu h
  generalize S.files.length = FL at *
  have hi1 : (i : Int) < (FL : Int) := by omega
  go_enter Tryz.func26, Tryz.ntmps26
  go_wp2_with fail
  have HK1 := hide (enters_of Tryz.func31 (by kernel_rfl) rfl)
  go_region_held_law (fun w' => w'.cell? ⟨b, 1, none⟩ = some (.slice (some ⟨g, 0, none⟩) FL c) ∧ w'.cell? ⟨g, i * 2, none⟩ = some (.string fl) ∧ w'.cell? ⟨g, i * 2 + 1, none⟩ = some (.slice uo ul uc)) (go_keep) (first | (refine zstep_fn (by rfl) 21 (by rfl) 31 _ _ (by rfl) HK1.out [.string fl, .slice uo ul uc] (by rfl) (HD.out _ (by first | exact Below.refl _ _ | exact (Below.refl _ _).drew)) ?_; rintro e w4 ⟨rfl, hw4⟩; subst hw4; refine ⟨_, rfl, ?_⟩))
  all_goals (
    go_wp2
    go_ret
    exact ⟨rfl, (Below.refl _ _).drew⟩)
def RD.used (S : RD) (n : Nat) : Nat := ((S.dir.take n).map fun p => (S.bytes p.2).size).sum
theorem used_succ (n : Nat) (h : n < S.dir.length) : S.used (n + 1) = S.used n + (S.bytes S.dir[n].2).size := by
  unfold RD.used
  rw [List.take_succ_eq_append_getElem h, List.map_append, List.sum_append]
  simp
theorem zdone_size (s : ByteArray) (l : List ZU) : (zdone s l).size ≤ s.size + zsum l := by
  induction l generalizing s with
  | nil => simp [zdone, zsum]
  | cons u l ih =>
    have h1 := ih (u.run s)
    have h2 := run_size u s
    simp only [zdone, zsum]
    omega
end
end Go.Proofs.YtknldpaaikcedaaGreat
/-
  carillonref04's Used, Free, act, Fuse, name, Read, as they run.
-/
namespace Go.Proofs.YtknldpaaikcedaaGreat
open Go.RowKit

section
variable {w w' : World} {b : Nat} {S : RD} {X : XG}
theorem XR.nm (h : XR w b S X) {i : Nat} (hi : i < S.dir.length) : ∃ g c, X.dv = .slice (some ⟨g, 0, none⟩) S.dir.length c ∧ g < w.heap.size ∧ w.cell? ⟨g, i * 2, none⟩ = some (.string S.dir[i].1) ∧ w.cell? ⟨g, i * 2 + 1, none⟩ = some (.int .i64 S.dir[i].2) := by
  obtain ⟨ao, c, hv⟩ := row_slice h.dir
  have hd := h.dir
  rw [hv] at hd
  obtain ⟨g, rfl, h1, h2, h3⟩ := nm_at hd i hi
  exact ⟨g, c, hv, h1, h2, h3⟩
theorem bytes_le (h : S.ok) (i : Nat) : (S.bytes i).size ≤ 1152921504606846976 := by
  unfold RD.bytes
  cases hf : S.files[i]? with
  | none => show (ByteArray.mk #[]).size ≤ _; decide
  | some f =>
    have hm : f ∈ S.files := List.mem_of_getElem? hf
    have h1 := zdone_size f.lasts f.since
    have h2 := (h.files f hm).big
    simp only
    omega
/-- What a disk that keeps within its room has: each file's bytes. -/
def RD.small (S : RD) : Prop := ∀ i, (S.bytes i).size ≤ 1000000000000
theorem used_small (h : S.small) (n : Nat) : S.used n ≤ 1000000000000 * n := by
  induction n with
  | zero => simp [RD.used]
  | succ n ih =>
    by_cases hn : n < S.dir.length
    · rw [used_succ n hn]
      have := h S.dir[n].2
      omega
    · have e : S.used (n + 1) = S.used n := by unfold RD.used; rw [List.take_of_length_le (by omega), List.take_of_length_le (by omega)]
      rw [e]
      omega
set_option maxHeartbeats 2000000 in
set_option maxRecDepth 100000 in
theorem zused_any (h : XR w b S X) (hsm : S.small) : Calls Tryz.prog 44 #[.pointer (some ⟨b, 0, none⟩)] w fun e w' => e = .returned (.int .i64 (S.used S.dir.length)) ∧ Below w.heap.size w w' := by
  have HH := hide h
  have HS := hide hsm
  have hnd := h.ok.nd
  obtain ⟨do', dc, hdv⟩ := row_slice h.dir
  have HDV := hide hdv
  clear h hsm hdv
  go_enter Tryz.func44, Tryz.ntmps44
  go_wp2
  go_loopw [3, 4] (fun nv iv wv => ∃ i : Nat, i ≤ S.dir.length ∧ nv = .int .i64 (S.used i) ∧ iv = .int .i64 i ∧ Hid (Below w.heap.size w wv)) (fun _ iv _ => S.dir.length - (intOf iv).toNat)
  case atStart => exact ⟨0, Nat.zero_le _, by simp [RD.used], rfl, Below.refl _ _⟩
  case round =>
    obtain ⟨i, hi, rfl, rfl, BV⟩ := hrel
    have hX := HH.out.below BV.out
    have HX := hide hX
    obtain ⟨_, _, c2, _⟩ := hX.c
    rw [HDV.out] at c2
    by_cases hlt : i < S.dir.length
    · obtain ⟨g, c, hdv2, hg, n0, n1⟩ := hX.nm hlt
      rw [HDV.out] at hdv2
      injection hdv2 with e1 e2 e3
      subst e1
      have hidx := hX.ok.dir S.dir[i] (List.getElem_mem hlt)
      have HB := hide (fun W (hb : Below wr.heap.size wr W) => zbytes_any (HX.out.below hb) S.dir[i].2 hidx)
      have hus := used_succ i hlt
      have hu1 := used_small HS.out i
      have hb1 := HS.out S.dir[i].2
      have hi0 : (0 : Int) ≤ (i : Int) := by omega
      have hi1 : (i : Int) < (S.dir.length : Int) := by omega
      generalize S.bytes S.dir[i].2 = R at *
      generalize S.dir[i].2 = di at *
      have HUS := hide hus
      clear hX n0 hidx hus
      go_wp2_with fail
      refine (HB.out _ (Below.refl _ _)).mono ?_
      rintro e w2 ⟨rfl, b2⟩
      have B2 := hide (BV.out.trans (b2.mono BV.out.size))
      clear b2 HB HX BV
      go_wp2
      go_roundw
      case rel => exact ⟨i + 1, by omega, by rw [HUS.out]; go_num, by go_num, B2.out⟩
      case measure => simp [intOf]; omega
    · have hi1 : ¬ (i : Int) < (S.dir.length : Int) := by omega
      obtain rfl : i = S.dir.length := by omega
      go_wp2
      go_ret
      exact ⟨rfl, BV.out⟩
set_option maxHeartbeats 1000000 in
set_option maxRecDepth 100000 in
theorem zfree_any (h : XR w b S X) (hsm : S.small) : Calls Tryz.prog 46 #[.pointer (some ⟨b, 0, none⟩)] w fun e w' => e = .returned (.int .i64 (S.room - S.used S.dir.length)) ∧ Below w.heap.size w w' := by
  have HU := hide (fun W (hb : Below w.heap.size w W) => zused_any (h.below hb) hsm)
  have hu1 := used_small hsm S.dir.length
  have hnd := h.ok.nd
  have hro := h.ok.room
  obtain ⟨c0, _⟩ := h.c
  have hub : b < w.heap.size := heap_lt h.box
  generalize S.used S.dir.length = U at *
  generalize S.room = ro at *
  clear h hsm
  go_enter Tryz.func46, Tryz.ntmps46
  have HK1 := hide (enters_of Tryz.func44 (by kernel_rfl) rfl)
  go_wp2_with fail
  go_region_held_law (fun w' => w'.cell? ⟨b, 0, none⟩ = some (.int .i64 ro)) (first | go_keep | exact z0) (first
    | (refine zstep_fn (by rfl) 8 (by rfl) 44 _ _ (by rfl) HK1.out [.pointer (some ⟨b, 0, none⟩)] (by rfl) (HU.out _ (by first | exact Below.refl _ _ | exact (Below.refl _ _).drew)) ?_; rintro e w4 ⟨rfl, b4⟩; refine ⟨_, rfl, ?_⟩; have B4 : Hid (Below w.heap.size w w4) := ⟨b4.os, b4.tape, b4.output, b4.size, b4.block⟩; have z0 := (B4.out.cell (p := ⟨b, 0, none⟩) hub).trans c0; clear b4))
  all_goals (
    go_wp2
    go_ret
    have hwr : IntKind.i64.wrap (ro - (U : Int)) = ro - (U : Int) := by rw [IntKind.wrap_i64]; omega
    rw [hwr]
    exact ⟨rfl, B4.out⟩)
/-- A call of it that leaves its own blocks and new ones alone touched. -/
structure XStep (w w' : World) (b n n' : Nat) (X X' : XG) : Prop where
  touch : Touch (fun j => X.own b n j) w w'
  grew : ∀ j, X'.own b n' j → X.own b n j ∨ w.heap.size ≤ j
theorem XStep.same (w w' : World) (n : Nat) (h : Below w.heap.size w w') : XStep w w' b n n X X := ⟨Touch.of_below h, fun _ e => .inl e⟩
/-- Some of the box's cells are others. -/
theorem XR.boxed {S' : RD} (h : XR w b S X) (hok : S'.ok) (hf : S'.files = S.files) (hd : S'.dir = S.dir) (hl : S'.lasts = S.lasts) (hs : S'.since = S.since) {w1 : World} (ht : Touch (fun j => j = b) w w1) (hb : w1.heap[b]? = some (.cells #[.int .i64 S'.room, X.fv, X.dv, X.lv, X.sv, .int .i64 S'.fuse, .bool S'.down] 61 (0, 0)))
    (hne : ∀ v, (v = X.fv ∨ (∃ i, i < S.files.length ∧ v = X.uv i) ∨ v = X.sv ∨ v = X.dv ∨ v = X.lv) → v.ownBlock ≠ some b) : XR w1 b S' X ∧ XStep w w1 b S.files.length S.files.length X X := by
  obtain ⟨r', f', d', fs', di', la', si'⟩ := S'
  simp only at hf hd hl hs hb
  subst hf hd hl hs
  refine ⟨⟨hok, hb, ht.row h.files fun k hk e => hne _ (.inl rfl) (by rw [hk, e]), fun i hi => ht.row (h.units i hi) fun k hk e => hne _ (.inr (.inl ⟨i, hi, rfl⟩)) (by rw [hk, e]), ht.row h.dir fun k hk e => hne _ (.inr (.inr (.inr (.inl rfl)))) (by rw [hk, e]), ht.row h.lasts fun k hk e => hne _ (.inr (.inr (.inr (.inr rfl)))) (by rw [hk, e]), ht.row h.steps fun k hk e => hne _ (.inr (.inr (.inl rfl))) (by rw [hk, e]), h.apart⟩, ht.mono fun k _ e => .inl e, fun _ e => .inl e⟩
theorem zown_type {B : Nat} {e : TypeId} {z : Nat} {v : Value} {m : Nat} {xs : List Value} (h : w.ownsRow B e z v m xs) {j : Nat} (hj : v.ownBlock = some j) {cs : Array Value} {t : TypeId} (hb : w.heap[j]? = some (.cells cs t (0, 0))) : e = t := by
  rcases h.2 with ⟨rfl, _⟩ | ⟨g, c, cur, rfl, _, hh, _⟩
  · cases hj
  · have e' : g = j := Option.some.inj hj
    subst e'
    rw [hh] at hb
    injection hb with hb
    injection hb with _ h3 _
theorem XR.ne (h : XR w b S X) : ∀ v, (v = X.fv ∨ (∃ i, i < S.files.length ∧ v = X.uv i) ∨ v = X.sv ∨ v = X.dv ∨ v = X.lv) → v.ownBlock ≠ some b := by
  rintro v (rfl | ⟨i, hi, rfl⟩ | rfl | rfl | rfl) e
  · exact absurd (zown_type h.files e h.box) (by decide)
  · exact absurd (zown_type (h.units i hi) e h.box) (by decide)
  · exact absurd (zown_type h.steps e h.box) (by decide)
  · exact absurd (zown_type h.dir e h.box) (by decide)
  · exact absurd (zown_type h.lasts e h.box) (by decide)
theorem zfuse_any (h : XR w b S X) (n : Int) (hn : -9223372036854775808 ≤ n ∧ n ≤ 9223372036854775807) : Calls Tryz.prog 11 #[.pointer (some ⟨b, 0, none⟩), .int .i64 n] w fun e w' => e = .returned (.tuple #[]) ∧ XR w' b { S with fuse := max n (-1) } X ∧ XStep w w' b S.files.length S.files.length X X := by
  obtain ⟨_, _, _, _, _, c5, _⟩ := h.c
  have f5 := box_free h.box 5
  have HH : Hid (∀ m, m = max n (-1) → XR (w.setCell ⟨b, 5, none⟩ (.int .i64 m)) b { S with fuse := max n (-1) } X ∧ XStep w (w.setCell ⟨b, 5, none⟩ (.int .i64 m)) b S.files.length S.files.length X X) := by
    rintro m rfl
    exact h.boxed (S' := { S with fuse := max n (-1) }) ⟨h.ok.room, by show -9223372036854775808 ≤ max n (-1) ∧ max n (-1) ≤ 9223372036854775807; omega, h.ok.files, h.ok.nf, h.ok.nd, h.ok.nl, h.ok.ns, h.ok.dir, h.ok.lasts⟩ rfl rfl rfl rfl ((Touch.refl _ w).setCell _ _ fun _ => rfl) (box_set h.box 5 _) h.ne
  clear h
  go_enter Tryz.func11, Tryz.ntmps11
  go_wp2
  all_goals (
    go_end0
    exact ⟨rfl, HH.out _ (by omega)⟩)
/-- May an act be done? What then is. -/
def RD.tick (S : RD) : Bool × RD := if S.fuse = 0 then (false, { S with down := true }) else if 0 < S.fuse then (true, { S with fuse := S.fuse - 1 }) else (true, S)
set_option maxHeartbeats 1000000 in
theorem zact_any (h : XR w b S X) : Calls Tryz.prog 71 #[.pointer (some ⟨b, 0, none⟩)] w fun e w' => e = .returned (.bool S.tick.1) ∧ XR w' b S.tick.2 X ∧ XStep w w' b S.files.length S.files.length X X := by
  obtain ⟨_, _, _, _, _, c5, c6⟩ := h.c
  have f5 := box_free h.box 5
  have f6 := box_free h.box 6
  have hfu := h.ok.fuse
  by_cases h0 : S.fuse = 0
  · have HH : Hid (XR (w.setCell ⟨b, 6, none⟩ (.bool true)) b { S with down := true } X ∧ XStep w (w.setCell ⟨b, 6, none⟩ (.bool true)) b S.files.length S.files.length X X) :=
      h.boxed (S' := { S with down := true }) ⟨h.ok.room, h.ok.fuse, h.ok.files, h.ok.nf, h.ok.nd, h.ok.nl, h.ok.ns, h.ok.dir, h.ok.lasts⟩ rfl rfl rfl rfl ((Touch.refl _ w).setCell _ _ fun _ => rfl) (box_set h.box 6 _) h.ne
    have e : S.tick = (false, { S with down := true }) := by unfold RD.tick; rw [if_pos h0]
    rw [e]
    rw [h0] at c5
    clear h e h0 hfu
    go_enter Tryz.func71, Tryz.ntmps71
    go_wp2
    go_ret
    exact ⟨rfl, HH.out⟩
  · have g0 : (S.fuse == 0) = false := by rw [beq_eq_false_iff_ne]; exact h0
    by_cases h1 : 0 < S.fuse
    · have HH : Hid (XR (w.setCell ⟨b, 5, none⟩ (.int .i64 (S.fuse - 1))) b { S with fuse := S.fuse - 1 } X ∧ XStep w (w.setCell ⟨b, 5, none⟩ (.int .i64 (S.fuse - 1))) b S.files.length S.files.length X X) :=
        h.boxed (S' := { S with fuse := S.fuse - 1 }) ⟨h.ok.room, by simp only; omega, h.ok.files, h.ok.nf, h.ok.nd, h.ok.nl, h.ok.ns, h.ok.dir, h.ok.lasts⟩ rfl rfl rfl rfl ((Touch.refl _ w).setCell _ _ fun _ => rfl) (box_set h.box 5 _) h.ne
      have e : S.tick = (true, { S with fuse := S.fuse - 1 }) := by unfold RD.tick; rw [if_neg h0, if_pos h1]
      rw [e]
      clear h e h0
      generalize S.fuse = fu at *
      go_enter Tryz.func71, Tryz.ntmps71
      go_wp2
      go_ret
      exact ⟨rfl, HH.out⟩
    · have e : S.tick = (true, S) := by unfold RD.tick; rw [if_neg h0, if_neg h1]
      rw [e]
      have HH := hide h
      clear h e h0
      go_enter Tryz.func71, Tryz.ntmps71
      go_wp2
      go_ret
      exact ⟨rfl, HH.out, XStep.same _ _ _ (Below.refl _ _)⟩
def zname (s : ByteArray) : Bool := decide (1 ≤ s.size ∧ s.size ≤ 40)
theorem zname_any (s : ByteArray) (w : World) (hs : s.size ≤ 9223372036854775807) : Calls Tryz.prog 70 #[.string s] w fun e w' => e = .returned (.bool (zname s)) ∧ w' = w := by
  by_cases h1 : 1 ≤ s.size
  · by_cases h2 : s.size ≤ 40
    · have e : zname s = true := decide_eq_true ⟨h1, h2⟩
      rw [e]
      clear e
      have g1 : (1 : Int) ≤ (s.size : Int) := by omega
      have g2 : (s.size : Int) ≤ 40 := by omega
      go_enter Tryz.func70, Tryz.ntmps70
      go_wp2
      go_ret
      exact ⟨rfl, rfl⟩
    · have e : zname s = false := decide_eq_false fun h => h2 h.2
      rw [e]
      clear e
      have g1 : (1 : Int) ≤ (s.size : Int) := by omega
      have g2 : ¬ (s.size : Int) ≤ 40 := by omega
      go_enter Tryz.func70, Tryz.ntmps70
      go_wp2
      go_ret
      exact ⟨rfl, rfl⟩
  · have e : zname s = false := decide_eq_false fun h => h1 h.1
    rw [e]
    clear e
    have g1 : ¬ (1 : Int) ≤ (s.size : Int) := by omega
    go_enter Tryz.func70, Tryz.ntmps70
    go_wp2
    go_ret
    exact ⟨rfl, rfl⟩
end
end Go.Proofs.YtknldpaaikcedaaGreat
/-
  carillonref04's Read, DirSync, as they run.
-/
namespace Go.Proofs.YtknldpaaikcedaaGreat
open Go.RowKit

section
variable {w w' : World} {b : Nat} {S : RD} {X : XG}
theorem zfind_mem (l : List ZN) (k : ByteArray) : zfind l k = -1 ∨ ∃ p ∈ l, zfind l k = (p.2 : Int) ∧ p.1 = k := by
  induction l with
  | nil => exact .inl rfl
  | cons p l ih =>
    unfold zfind
    by_cases h : p.1 = k
    · rw [if_pos h]
      exact .inr ⟨p, List.mem_cons_self, rfl, h⟩
    · rw [if_neg h]
      rcases ih with e | ⟨q, hq, e⟩
      · exact .inl e
      · exact .inr ⟨q, List.mem_cons_of_mem _ hq, e⟩
theorem find_ok (h : S.ok) (k : ByteArray) : zfind S.dir k = -1 ∨ ∃ i : Nat, zfind S.dir k = i ∧ i < S.files.length := by
  rcases zfind_mem S.dir k with e | ⟨p, hp, e, _⟩
  · exact .inl e
  · exact .inr ⟨p.2, e, h.dir p hp⟩
theorem XR.find (h : XR w b S X) (k : ByteArray) : ∃ ao c, X.dv = .slice ao S.dir.length c ∧ ∀ W, Below w.heap.size w W → Calls Tryz.prog 25 #[.slice ao S.dir.length c, .string k] W fun e w' => e = .returned (.int .i64 (zfind S.dir k)) ∧ w' = W := by
  obtain ⟨ao, c, hv⟩ := row_slice h.dir
  have hd := h.dir
  rw [hv] at hd
  exact ⟨ao, c, hv, fun W hb => zfind_any ao c S.dir k W 0 (by have := h.ok.nd; omega) (below_row hb hd)⟩
def RD.read (S : RD) (k : ByteArray) : ByteArray × Int := if S.down then (⟨#[]⟩, 9) else if zfind S.dir k < 0 then (⟨#[]⟩, 7) else (S.bytes (zfind S.dir k).toNat, 0)
set_option maxHeartbeats 1000000 in
set_option maxRecDepth 100000 in
theorem zread_any (h : XR w b S X) (k : ByteArray) : Calls Tryz.prog 9 #[.pointer (some ⟨b, 0, none⟩), .string k] w fun e w' => e = .returned (.tuple #[.string (S.read k).1, .int .i64 (S.read k).2]) ∧ Below w.heap.size w w' := by
  obtain ⟨ao, c, hdv, hf⟩ := h.find k
  obtain ⟨_, _, c2, _, _, _, c6⟩ := h.c
  rw [hdv] at c2
  have HF := hide (hf w (Below.refl _ _))
  have hfo := find_ok h.ok k
  have HB := hide (fun i hi => zbytes_any h i hi)
  cases hd : S.down with
  | true =>
    have e : S.read k = (⟨#[]⟩, 9) := by unfold RD.read; rw [hd]; rfl
    rw [e]
    rw [hd] at c6
    generalize zfind S.dir k = z at *
    clear h hf hfo hdv e hd
    go_enter Tryz.func9, Tryz.ntmps9
    go_wp2_with fail
    refine HF.out.mono ?_
    rintro e w1 ⟨rfl, hw⟩
    obtain rfl := hw.symm
    clear hw HF
    go_wp2
    go_ret2
    exact ⟨rfl, Below.refl _ _⟩
  | false =>
    rw [hd] at c6
    rcases hfo with hz | ⟨i, hz, hi⟩
    · have e : S.read k = (⟨#[]⟩, 7) := by unfold RD.read; rw [hd, hz]; rfl
      rw [e]
      rw [hz] at HF
      clear h hf hdv e hd hz HB
      go_enter Tryz.func9, Tryz.ntmps9
      go_wp2_with fail
      refine HF.out.mono ?_
      rintro e w1 ⟨rfl, hw⟩
      obtain rfl := hw.symm
      clear hw HF
      go_wp2
      go_ret2
      exact ⟨rfl, Below.refl _ _⟩
    · have e : S.read k = (S.bytes i, 0) := by
        unfold RD.read
        rw [hd, hz, if_neg (by decide), if_neg (by omega)]
        rfl
      rw [e]
      rw [hz] at HF
      have HB2 := hide (HB.out i hi)
      generalize S.bytes i = R at *
      have hi0 : ¬ (i : Int) < 0 := by omega
      clear h hf hdv e hd hz HB hi
      go_enter Tryz.func9, Tryz.ntmps9
      go_wp2_with fail
      refine HF.out.mono ?_
      rintro e w1 ⟨rfl, hw⟩
      obtain rfl := hw.symm
      clear hw HF
      go_wp2_with fail
      refine HB2.out.mono ?_
      rintro e w2 ⟨rfl, b2⟩
      have B2 := hide b2
      clear b2 HB2
      go_wp2
      go_ret2
      exact ⟨rfl, B2.out⟩
/-- The directory's lists are others. -/
theorem XR.dirs {S' : RD} {X' : XG} (h : XR w b S X) (hok : S'.ok) (hf : S'.files = S.files) (hu : X'.uv = X.uv) (hfv : X'.fv = X.fv) {w1 : World} (ht : Touch (fun j => j = b ∨ X.sv.ownBlock = some j) w w1) (hb : w1.heap[b]? = some (.cells #[.int .i64 S'.room, X'.fv, X'.dv, X'.lv, X'.sv, .int .i64 S'.fuse, .bool S'.down] 61 (0, 0)))
    (hd : w1.ownsRow 0 77 2 X'.dv S'.dir.length (nmCells S'.dir)) (hl : w1.ownsRow 0 77 2 X'.lv S'.lasts.length (nmCells S'.lasts)) (hs : w1.ownsRow 0 72 4 X'.sv S'.since.length (stCells S'.since))
    (hold : ∀ v, (v = X'.dv ∨ v = X'.lv ∨ v = X'.sv) → ∀ j, v.ownBlock = some j → (X.dv.ownBlock = some j ∨ X.lv.ownBlock = some j ∨ X.sv.ownBlock = some j) ∨ w.heap.size ≤ j) : XR w1 b S' X' ∧ XStep w w1 b S.files.length S'.files.length X X' := by
  obtain ⟨r', f', d', fs', di', la', si'⟩ := S'
  obtain ⟨fv', dv', lv', sv', uv'⟩ := X'
  simp only at hf hu hfv hb hd hl hs hold
  subst hf hu hfv
  have hfs : ∀ k, X.fv.ownBlock = some k → ¬ (k = b ∨ X.sv.ownBlock = some k) := fun k hk e => by
    rcases e with e | e
    · exact h.ne _ (.inl rfl) (by rw [hk, e])
    · rcases h.steps.2 with ⟨hv, _⟩ | ⟨g, c, cur, hv, _, hh, _⟩
      · rw [hv] at e; cases e
      · rw [hv] at e
        have e' : g = k := Option.some.inj e
        subst e'
        exact absurd (zown_type h.files hk hh) (by decide)
  have hus : ∀ i (hi : i < S.files.length) k, (X.uv i).ownBlock = some k → ¬ (k = b ∨ X.sv.ownBlock = some k) := fun i hi k hk e => by
    rcases e with e | e
    · exact h.ne _ (.inr (.inl ⟨i, hi, rfl⟩)) (by rw [hk, e])
    · rcases h.steps.2 with ⟨hv, _⟩ | ⟨g, c, cur, hv, _, hh, _⟩
      · rw [hv] at e; cases e
      · rw [hv] at e
        have e' : g = k := Option.some.inj e
        subst e'
        exact absurd (zown_type (h.units i hi) hk hh) (by decide)
  refine ⟨⟨hok, hb, ht.row h.files hfs, fun i hi => ht.row (h.units i hi) (hus i hi), hd, hl, hs, h.apart⟩, ht.mono fun k _ e => ?_, fun j hj => ?_⟩
  · rcases e with e | e
    · exact .inl e
    · exact .inr (.inr (.inr (.inl e)))
  · have old : (X.dv.ownBlock = some j ∨ X.lv.ownBlock = some j ∨ X.sv.ownBlock = some j) → X.own b S.files.length j := by
      rintro (e | e | e)
      · exact .inr (.inr (.inr (.inr (.inl e))))
      · exact .inr (.inr (.inr (.inr (.inr e))))
      · exact .inr (.inr (.inr (.inl e)))
    rcases hj with e | e | e | e | e | e
    · exact .inl (.inl e)
    · exact .inl (.inr (.inl e))
    · exact .inl (.inr (.inr (.inl e)))
    · exact (hold _ (.inr (.inr rfl)) j e).imp old id
    · exact (hold _ (.inl rfl) j e).imp old id
    · exact (hold _ (.inr (.inl rfl)) j e).imp old id
end
end Go.Proofs.YtknldpaaikcedaaGreat
/-
  carillonref04's DirSync, Append, Truncate, as they run.
-/
namespace Go.Proofs.YtknldpaaikcedaaGreat
open Go.RowKit

section
variable {w w' w2 : World} {b : Nat} {S : RD} {X X' X2 : XG} {n n' n2 : Nat}
theorem XStep.trans (h1 : XStep w w' b n n' X X') (h2 : XStep w' w2 b n' n2 X' X2) : XStep w w2 b n n2 X X2 := by
  have hs := h1.touch.size
  refine ⟨h1.touch.andThen (h2.touch.mono (own' := fun j => X.own b n j ∨ w.heap.size ≤ j) fun k _ e => h1.grew k e) fun k hk e => ?_, fun j hj => ?_⟩
  · rcases e with e | e
    · exact e
    · omega
  · rcases h2.grew j hj with e | e
    · exact h1.grew j e
    · exact .inr (by omega)
theorem tick_same (S : RD) : S.tick.2.dir = S.dir ∧ S.tick.2.files = S.files ∧ S.tick.2.lasts = S.lasts ∧ S.tick.2.since = S.since ∧ S.tick.2.room = S.room := by
  unfold RD.tick
  split
  · exact ⟨rfl, rfl, rfl, rfl, rfl⟩
  · split <;> exact ⟨rfl, rfl, rfl, rfl, rfl⟩
theorem tick_bytes (S : RD) (i : Nat) : S.tick.2.bytes i = S.bytes i := by
  unfold RD.bytes
  rw [(tick_same S).2.1]
def RD.dirsync (S : RD) : Int × RD := if S.down then (9, S) else if S.tick.1 = false then (9, S.tick.2) else (0, { S.tick.2 with lasts := S.tick.2.dir, since := [] })
set_option maxHeartbeats 2000000 in
set_option maxRecDepth 100000 in
theorem zdirsync_any (h : XR w b S X) : Calls Tryz.prog 40 #[.pointer (some ⟨b, 0, none⟩)] w fun e w' => e = .returned (.int .i64 S.dirsync.1) ∧ ∃ X', XR w' b S.dirsync.2 X' ∧ XStep w w' b S.files.length S.dirsync.2.files.length X X' := by
  obtain ⟨_, _, _, _, _, _, c6⟩ := h.c
  have HA := hide (zact_any h)
  have HH := hide h
  have HFL := hide (tick_same S).2.1
  cases hd : S.down with
  | true =>
    have e : S.dirsync = (9, S) := by unfold RD.dirsync; rw [hd]; rfl
    rw [e]
    rw [hd] at c6
    clear h e hd
    go_enter Tryz.func40, Tryz.ntmps40
    go_wp2
    go_ret
    exact ⟨rfl, X, HH.out, XStep.same _ _ _ (Below.refl _ _)⟩
  | false =>
    rw [hd] at c6
    cases ht : S.tick.1 with
    | false =>
      have e : S.dirsync = (9, S.tick.2) := by unfold RD.dirsync; rw [hd, ht]; rfl
      rw [e]
      rw [ht] at HA
      clear h e hd ht
      go_enter Tryz.func40, Tryz.ntmps40
      go_wp2_with fail
      refine HA.out.mono ?_
      rintro e w1 ⟨rfl, x1, s1⟩
      have X1 := hide x1
      have S1 := hide s1
      clear x1 s1 HA
      go_wp2
      go_ret
      exact ⟨rfl, X, X1.out, by rw [HFL.out]; exact S1.out⟩
    | true =>
      have e : S.dirsync = (0, { S.tick.2 with lasts := S.tick.2.dir, since := [] }) := by unfold RD.dirsync; rw [hd, ht]; rfl
      rw [e]
      rw [ht] at HA
      clear h e hd ht
      generalize S.tick.2 = T at *
      go_enter Tryz.func40, Tryz.ntmps40
      go_wp2_with fail
      refine HA.out.mono ?_
      rintro e w1 ⟨rfl, x1, s1⟩
      obtain ⟨_, _, d2, d3, d4, _, _⟩ := x1.c
      have f3 := box_free x1.box 3
      have f4 := box_free x1.box 4
      obtain ⟨ao, c, hv⟩ := row_slice x1.dir
      obtain ⟨lo, lc, hlv⟩ := row_slice x1.lasts
      obtain ⟨so, sc, hsv⟩ := row_slice x1.steps
      have S1 := hide s1
      have HF : Hid (XR ((w1.setCell ⟨b, 3, none⟩ X.dv).setCell ⟨b, 4, none⟩ (.slice none 0 0)) b { T with lasts := T.dir, since := [] } { X with lv := X.dv, sv := .slice none 0 0 } ∧ XStep w1 ((w1.setCell ⟨b, 3, none⟩ X.dv).setCell ⟨b, 4, none⟩ (.slice none 0 0)) b T.files.length T.files.length X { X with lv := X.dv, sv := .slice none 0 0 }) := by
        have hb3 := box_set x1.box 3 X.dv
        have hb4 := box_set hb3 4 (.slice none 0 0)
        have hnd := x1.ne X.dv (.inr (.inr (.inr (.inl rfl))))
        have hdr : ((w1.setCell ⟨b, 3, none⟩ X.dv).setCell ⟨b, 4, none⟩ (.slice none 0 0)).ownsRow 0 77 2 X.dv T.dir.length (nmCells T.dir) := set_row (set_row x1.dir _ _ _ hnd) _ _ _ hnd
        exact x1.dirs (S' := { T with lasts := T.dir, since := [] }) (X' := { X with lv := X.dv, sv := .slice none 0 0 }) ⟨x1.ok.room, x1.ok.fuse, x1.ok.files, x1.ok.nf, x1.ok.nd, x1.ok.nd, Nat.zero_le _, x1.ok.dir, x1.ok.dir⟩ rfl rfl rfl (((Touch.refl _ w1).setCell _ _ fun _ => .inl rfl).setCell _ _ fun _ => .inl rfl) hb4 hdr hdr (World.ownsRow_nil _ _ _ _) (by
          rintro v (rfl | rfl | rfl) j hj
          · exact .inl (.inl hj)
          · exact .inl (.inl hj)
          · cases hj)
      rw [hv] at d2 HF
      rw [hlv] at d3
      rw [hsv] at d4
      clear x1 s1 HA hv hlv hsv
      go_wp2
      go_ret
      exact ⟨rfl, _, HF.out.1, by have s2 := S1.out; rw [← HFL.out] at s2 ⊢; exact s2.trans HF.out.2⟩
end
end Go.Proofs.YtknldpaaikcedaaGreat
/-
  carillonref04: a file of the list is another one.
-/
namespace Go.Proofs.YtknldpaaikcedaaGreat
open Go.RowKit

def upd (uv : Nat → Value) (i : Nat) (v : Value) : Nat → Value := fun j => if j = i then v else uv j
theorem filesC_length (fs : List ZF) (uv : Nat → Value) : (filesC fs uv).length = fs.length * 2 := by
  have key : ∀ (l : List (ZF × Nat)), (l.flatMap fun p => [Value.string p.1.lasts, uv p.2]).length = l.length * 2 := by
    intro l
    induction l with
    | nil => rfl
    | cons p l ih => simp only [List.flatMap_cons, List.length_append, ih, List.length_cons, List.length_nil]; omega
  unfold filesC
  rw [key, List.length_zipIdx]
theorem filesC_get (fs : List ZF) (uv : Nat → Value) (i : Nat) (h : i < fs.length) : (filesC fs uv)[i * 2]? = some (.string fs[i].lasts) ∧ (filesC fs uv)[i * 2 + 1]? = some (uv i) := by
  have hz : i < fs.zipIdx.length := by rw [List.length_zipIdx]; exact h
  obtain ⟨g3, g4⟩ := pair_get (fun p : ZF × Nat => Value.string p.1.lasts) (fun p => uv p.2) fs.zipIdx i hz
  have hzi : fs.zipIdx[i] = (fs[i], i) := by simp
  rw [hzi] at g3 g4
  exact ⟨g3, g4⟩
theorem filesC_set (fs : List ZF) (uv : Nat → Value) (i : Nat) (f : ZF) (v : Value) : filesC (fs.set i f) (upd uv i v) = ((filesC fs uv).set (i * 2) (.string f.lasts)).set (i * 2 + 1) v := by
  apply List.ext_getElem?
  intro k
  by_cases hk : k < fs.length * 2
  · have hj : k / 2 < fs.length := by omega
    have hj2 : k / 2 < (fs.set i f).length := by rw [List.length_set]; exact hj
    obtain ⟨a1, a2⟩ := filesC_get fs uv (k / 2) hj
    obtain ⟨b1, b2⟩ := filesC_get (fs.set i f) (upd uv i v) (k / 2) hj2
    rw [List.getElem_set] at b1
    have hl := filesC_length fs uv
    rcases Nat.mod_two_eq_zero_or_one k with hm | hm
    · have e : k = k / 2 * 2 := by omega
      rw [← e] at a1 b1
      rw [b1, List.getElem?_set_ne (by omega), List.getElem?_set]
      by_cases hi : i = k / 2
      · rw [if_pos hi, if_pos (by omega), if_pos (by omega)]
      · rw [if_neg hi, if_neg (by omega), a1]
    · have e : k = k / 2 * 2 + 1 := by omega
      rw [← e] at a2 b2
      rw [b2, List.getElem?_set]
      unfold upd
      by_cases hi : k / 2 = i
      · rw [if_pos hi, if_pos (by omega), if_pos (by rw [List.length_set]; omega)]
      · rw [if_neg hi, if_neg (by omega), List.getElem?_set_ne (by omega), a2]
  · rw [List.getElem?_eq_none (by rw [filesC_length, List.length_set]; omega), List.getElem?_eq_none (by rw [List.length_set, List.length_set, filesC_length]; omega)]
theorem own_set {w : World} {B : Nat} {e : TypeId} {z g n c k : Nat} {xs : List Value} (h : w.ownsRow B e z (.slice (some ⟨g, 0, none⟩) n c) n xs) (v : Value) (_hk : k < n * z) : (w.setCell ⟨g, k, none⟩ v).ownsRow B e z (.slice (some ⟨g, 0, none⟩) n c) n (xs.set k v) := by
  refine ⟨by rw [List.length_set]; exact h.1, ?_⟩
  rcases h.2 with ⟨hv, _⟩ | ⟨g', cap, cur, hv, hg, hh, h1, h2, h3, h4⟩
  · cases hv
  · injection hv with e1 e2 e3
    injection e1 with e1
    injection e1 with e1 _ _
    subst e1 e3
    refine .inr ⟨g, c, cur.setIfInBounds k v, rfl, hg, box_set hh k v, h1, h2, by simpa using h3, ?_⟩
    rw [Array.toList_setIfInBounds, List.take_set, h4]
section
variable {w w' w2 : World} {b : Nat} {S : RD} {X X' X2 : XG} {n n' n2 : Nat}
theorem XR.fneq (h : XR w b S X) {i k : Nat} (hi : i < S.files.length) (hk : (X.uv i).ownBlock = some k) : X.fv.ownBlock ≠ some k := fun e => by
  rcases h.files.2 with ⟨hv, _⟩ | ⟨g, c, cur, hv, _, hh, _⟩
  · rw [hv] at e; cases e
  · rw [hv] at e
    have e' : g = k := Option.some.inj e
    subst e'
    exact absurd (zown_type (h.units i hi) hk hh) (by decide)
theorem XR.rneq {t : TypeId} {z : Nat} {v : Value} {m : Nat} {xs : List Value} (h : XR w b S X) (hr : w.ownsRow 0 t z v m xs) (h1 : t ≠ 75) (h2 : t ≠ 112) {i : Nat} (hi : i < S.files.length) : ∀ k, v.ownBlock = some k → ¬ (X.fv.ownBlock = some k ∨ (X.uv i).ownBlock = some k) := by
  intro k hk e
  rcases hr.2 with ⟨hv, _⟩ | ⟨g, c, cur, hv, _, hh, _⟩
  · rw [hv] at hk; cases hk
  · rw [hv] at hk
    have e' : g = k := Option.some.inj hk
    subst e'
    rcases e with e | e
    · exact h1 (zown_type h.files e hh).symm
    · exact h2 (zown_type (h.units i hi) e hh).symm
theorem XR.fput (h : XR w b S X) {i : Nat} (hi : i < S.files.length) (f : ZF) (hf : f.ok) (v : Value) {W : World} (ht : Touch (fun j => X.fv.ownBlock = some j ∨ (X.uv i).ownBlock = some j) w W)
    (hr : W.ownsRow 0 75 2 X.fv S.files.length (filesC (S.files.set i f) (upd X.uv i v))) (hu : W.ownsRow 0 112 2 v f.since.length (unCells f.since)) (hv : ∀ j, v.ownBlock = some j → (X.uv i).ownBlock = some j ∨ w.heap.size ≤ j) :
    XR W b { S with files := S.files.set i f } { X with uv := upd X.uv i v } ∧ XStep w W b S.files.length S.files.length X { X with uv := upd X.uv i v } := by
  have hlen : (S.files.set i f).length = S.files.length := List.length_set
  refine ⟨⟨⟨h.ok.room, h.ok.fuse, fun g hg => ?_, by rw [hlen]; exact h.ok.nf, h.ok.nd, h.ok.nl, h.ok.ns, fun p hp => by rw [hlen]; exact h.ok.dir p hp, fun p hp => by rw [hlen]; exact h.ok.lasts p hp⟩, ?_, by rw [hlen]; exact hr, fun j hj => ?_, ?_, ?_, ?_, fun j k hj hk hne t ht1 => ?_⟩, ?_, fun j hj => ?_⟩
  · rcases List.mem_or_eq_of_mem_set hg with e | e
    · exact h.ok.files g e
    · rw [e]; exact hf
  · refine ht.at h.box fun e => ?_
    rcases e with e | e
    · exact h.ne _ (.inl rfl) e
    · exact h.ne _ (.inr (.inl ⟨i, hi, rfl⟩)) e
  · have hj' : j < S.files.length := by rw [← hlen]; exact hj
    show W.ownsRow 0 112 2 (upd X.uv i v j) (S.files.set i f)[j].since.length (unCells (S.files.set i f)[j].since)
    rw [List.getElem_set]
    unfold upd
    by_cases e : i = j
    · rw [if_pos e, if_pos e.symm]; exact hu
    · rw [if_neg e, if_neg (Ne.symm e)]
      exact ht.row (h.units j hj') fun k hk e2 => by
        rcases e2 with e2 | e2
        · exact h.fneq hj' hk e2
        · exact h.apart i j hi hj' e k e2 hk
  · exact ht.row h.dir (h.rneq h.dir (by decide) (by decide) hi)
  · exact ht.row h.lasts (h.rneq h.lasts (by decide) (by decide) hi)
  · exact ht.row h.steps (h.rneq h.steps (by decide) (by decide) hi)
  · have hj' : j < S.files.length := by rw [← hlen]; exact hj
    have hk' : k < S.files.length := by rw [← hlen]; exact hk
    simp only [upd] at ht1 ⊢
    by_cases e1 : j = i
    · subst e1
      rw [if_pos rfl] at ht1
      rw [if_neg (Ne.symm hne)]
      rcases hv t ht1 with e2 | e2
      · exact h.apart j k hj' hk' hne t e2
      · intro e3; have := row_lt (h.units k hk') e3; omega
    · rw [if_neg e1] at ht1
      by_cases e2 : k = i
      · subst e2
        rw [if_pos rfl]
        intro e3
        rcases hv t e3 with e4 | e4
        · exact h.apart j k hj' hk' hne t ht1 e4
        · have := row_lt (h.units j hj') ht1; omega
      · rw [if_neg e2]; exact h.apart j k hj' hk' hne t ht1
  · exact ht.mono fun k _ e => by
      rcases e with e | e
      · exact .inr (.inl e)
      · exact .inr (.inr (.inl ⟨i, hi, e⟩))
  · rcases hj with e | e | ⟨k, hk, e⟩ | e | e | e
    · exact .inl (.inl e)
    · exact .inl (.inr (.inl e))
    · simp only [upd] at e
      by_cases e1 : k = i
      · rw [if_pos e1] at e
        rcases hv j e with e2 | e2
        · exact .inl (.inr (.inr (.inl ⟨i, hi, e2⟩)))
        · exact .inr e2
      · rw [if_neg e1] at e
        exact .inl (.inr (.inr (.inl ⟨k, hk, e⟩)))
    · exact .inl (.inr (.inr (.inr (.inl e))))
    · exact .inl (.inr (.inr (.inr (.inr (.inl e)))))
    · exact .inl (.inr (.inr (.inr (.inr (.inr e)))))
end
end Go.Proofs.YtknldpaaikcedaaGreat
