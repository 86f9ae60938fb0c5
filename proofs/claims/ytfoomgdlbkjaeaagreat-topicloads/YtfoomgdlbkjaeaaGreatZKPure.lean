/-
  The codec's calls as plain functions on lists of bytes and items: what the walks are held against; nothing of the program is in this text.
-/
import Derived.Test.YtfoomgdlbkjaeaaGreatZT8
import Derived.Test.YtfoomgdlbkjaeaaGreatZTK
import Derived.Shelf.SlIter.Nil
import Derived.Shelf.SortM.Plain
import Derived.Shelf.SortM.SortNone
import Derived.Test.YtfoomgdlbkjaeaaGreatProg
import Derived.Sort.OwnSorted
import Derived.Sort.KeysCollected
import Derived.Shelf.Strings.Builder1
import Derived.Shelf.Strings.Builder2
import Derived.Shelf.Strings.BuilderK
import Derived.Shelf.Small.Strs
import Derived.Shelf.LaysM
import Derived.Shelf.Strconv.Clone
import Derived.Shelf.Strings.Search1
import Derived.Lib.Endian
import Derived.Lib.Bytealg
import Derived.Lib.Strings
namespace Go.Proofs.YtfoomgdlbkjaeaaGreat.Y
open Go.RowKit
set_option maxHeartbeats 4000000
set_option maxRecDepth 100000
attribute [local go_sem ↓] Go.wp_at_zero Go.wp_at_succ
set_option linter.unusedSimpArgs false
set_option linter.unusedVariables false
def exG1 : TG := addF (TG.new ⟨#[116]⟩) ⟨0, ⟨#[112]⟩, 1, ⟨#[107]⟩, ⟨#[118]⟩⟩
def exG2 : TG := addF exG1 ⟨0, ⟨#[112]⟩, 5, ⟨#[107]⟩, ⟨#[120]⟩⟩
theorem ex_p1 : pubF (TG.new ⟨#[116]⟩) ⟨#[112]⟩ 1 ⟨#[107]⟩ ⟨#[118]⟩ = (0, 0, exG1) := by kernel_rfl
theorem ex_p2 : pubF exG1 ⟨#[112]⟩ 1 ⟨#[107]⟩ ⟨#[119]⟩ = (0, 0, exG1) := by kernel_rfl
theorem ex_p3 : pubF exG1 ⟨#[112]⟩ 0 ⟨#[107]⟩ ⟨#[119]⟩ = (0, 6, exG1) := by kernel_rfl
theorem ex_p4 : pubF exG1 ⟨#[112]⟩ 5 ⟨#[107]⟩ ⟨#[120]⟩ = (1, 0, exG2) := by kernel_rfl
theorem ex_r : readF (compF exG2 9).recs 0 9 = [⟨1, ⟨#[112]⟩, 5, ⟨#[107]⟩, ⟨#[120]⟩⟩] := by kernel_rfl
theorem ex_t3 : trimF (compF exG2 9) 3 = (7, compF exG2 9) := by kernel_rfl
theorem ex_t2 : (trimF (compF exG2 9) 2).1 = 0 := by kernel_rfl
theorem ex_lo : (trimF (compF exG2 9) 2).2.low = 2 := by kernel_rfl
theorem ex_fi : (trimF (compF exG2 9) 2).2.fin = 2 := by kernel_rfl
theorem ex_w : wordB ⟨#[116]⟩ = true := by kernel_rfl
theorem ex_nw : wordB ⟨#[84]⟩ = false := by kernel_rfl
theorem z1 (b : UInt8) : (⟨#[b]⟩ : ByteArray).size ≤ 281474976710656 := by show 1 ≤ _; omega
theorem examples_any (w : World) : Calls Tryz.prog 6 #[] w fun e w' => e = .returned (.bool true) ∧ Below w.heap.size w w' := by
  go_enter Tryz.func6, Tryz.ntmps6
  refine wp_seq (reg_mono (ex_r0 (by kernel_rfl) _ (v := ⟨_, _, _, _, _, _, _, _, _, _, _, _, _, _⟩) ⟨rfl, rfl, rfl, rfl, rfl, rfl, rfl, rfl, rfl, rfl, rfl, rfl, rfl, rfl, rfl, rfl⟩ ?_))
  intro a0 F0
  try dsimp only at F0
  refine wp_seq (reg_mono (ex_r1 (by kernel_rfl) _ F0 (held_new ⟨#[116]⟩ (z1 _) ex_w (Below.refl w.heap.size w) (Nat.le_refl _)) ?_))
  rintro a1 w1 L F1 ⟨H1, _, _⟩
  try dsimp only at F1
  refine wp_seq (reg_mono (ex_r2 (by kernel_rfl) _ F1 (R := fun w' => Below w1.heap.size w1 w') ((tnew ⟨#[84]⟩ (z1 _) w1).mono fun e w' ⟨b, h⟩ => by
    rcases h with ⟨_, h⟩ | ⟨h, _⟩
    · exact ⟨h, b⟩
    · rw [ex_nw] at h; cases h) ?_))
  intro a2 w2 F2 b2
  try dsimp only at F2
  have H2 := H1.to b2
  refine wp_seq (wp_seq (reg_mono (ex_r3 (by kernel_rfl) _ F2 rfl rfl rfl ?_)))
  intro a3 F3 g3
  try dsimp only at F3
  refine wp_cond_false g3 (wp_skip ?_)
  have E5 := held_pub H2 (by omega) ⟨#[112]⟩ 1 ⟨#[107]⟩ ⟨#[118]⟩ (z1 _) (z1 _) (z1 _)
  rw [ex_p1] at E5
  dsimp only at E5
  refine wp_seq (reg_mono (ex_r5 (by kernel_rfl) _ F3 rfl (x := 0) (y := 0) E5 ?_))
  rintro a5 w5 F5 ⟨L5, e5, H5, _⟩
  try dsimp only at F5
  rw [← e5] at F5
  have E6 := held_pub H5 (by omega) ⟨#[112]⟩ 1 ⟨#[107]⟩ ⟨#[119]⟩ (z1 _) (z1 _) (z1 _)
  rw [ex_p2] at E6
  dsimp only at E6
  refine wp_seq (reg_mono (ex_r6 (by kernel_rfl) _ F5 rfl (x := 0) (y := 0) E6 ?_))
  rintro a6 w6 F6 ⟨L6, e6, H6, _⟩
  try dsimp only at F6
  rw [← e6] at F6
  have E7 := held_pub H6 (by omega) ⟨#[112]⟩ 0 ⟨#[107]⟩ ⟨#[119]⟩ (z1 _) (z1 _) (z1 _)
  rw [ex_p3] at E7
  dsimp only at E7
  refine wp_seq (reg_mono (ex_r7 (by kernel_rfl) _ F6 rfl (x := 0) (y := 6) E7 ?_))
  rintro a7 w7 F7 ⟨L7, e7, H7, _⟩
  try dsimp only at F7
  rw [← e7] at F7
  have E8 := held_pub H7 (by omega) ⟨#[112]⟩ 5 ⟨#[107]⟩ ⟨#[120]⟩ (z1 _) (z1 _) (z1 _)
  rw [ex_p4] at E8
  dsimp only at E8
  refine wp_seq (reg_mono (ex_r8 (by kernel_rfl) _ F7 rfl (x := 1) (y := 0) E8 ?_))
  rintro a8 w8 F8 ⟨L8, e8, H8, _⟩
  try dsimp only at F8
  rw [← e8] at F8
  refine wp_seq (reg_mono (ex_r9 (by kernel_rfl) _ F8 rfl (held_comp H8 9) ?_))
  rintro a9 w9 F9 ⟨L9, e9, H9, _⟩
  try dsimp only at F9
  rw [← e9] at F9
  have HR := held_read H9 0 9 (by omega)
  rw [ex_r] at HR
  refine wp_seq (reg_mono (ex_r10 (by kernel_rfl) _ F9 rfl (n := 1) HR ?_))
  rintro a10 w10 ao cp F10 ⟨O10, H10, _⟩
  try dsimp only at F10
  have R10 := recs_of_own (l := [⟨1, ⟨#[112]⟩, 5, ⟨#[107]⟩, ⟨#[120]⟩⟩]) O10
  have E11 := held_trim H10 3
  rw [ex_t3] at E11
  dsimp only at E11
  refine wp_seq (reg_mono (ex_r11 (by kernel_rfl) _ F10 rfl (x := 7) E11 ?_))
  rintro a11 w11 F11 ⟨L11, e11, H11, s11⟩
  try dsimp only at F11
  rw [← e11] at F11
  have E12 := held_trim H11 2
  rw [ex_t2] at E12
  refine wp_seq (reg_mono (ex_r12 (by kernel_rfl) _ F11 rfl (x := 0) E12 ?_))
  rintro a12 w12 F12 ⟨L12, e12, H12, s12⟩
  try dsimp only at F12
  rw [← e12] at F12
  obtain ⟨_, bb, off, rfl, hbb, c0, _⟩ := R10.five 0 (by decide)
  have hnot : ¬ L9.own bb := fun e => by
    have h1 := H9.at_.lt e
    have h2 := (O10.lt bb rfl).1
    omega
  have d1 := s11.touch.cell _ c0 hnot
  have d2 := s12.touch.cell _ d1 (fun e => (s11.own _ e).elim hnot (fun e => by have e2 : w10.heap.size ≤ bb := e; omega))
  refine wp_seq (reg_mono (ex_r13 (by kernel_rfl) _ F12 rfl rfl rfl rfl rfl rfl rfl rfl rfl rfl rfl d2 (by have := tlow H12.at_; rw [ex_lo] at this; exact this) (by have := tend H12.at_; rw [ex_fi] at this; exact this) ?_))
  intro a13 F13
  try dsimp only at F13
  refine wp_ret ?_
  refine bodyPost_ret (v := .bool true) ?_ F13.defers ⟨rfl, H12.below⟩
  simp [results, Tryz.results6, go_sem, slot_get F13.s0]
end Go.Proofs.YtfoomgdlbkjaeaaGreat.Y
namespace Go.Proofs.YtfoomgdlbkjaeaaGreat.Y
open Go.RowKit Go.Maps
set_option maxRecDepth 100000
set_option linter.unusedVariables false
structure OI (G : TG) (T : List Rec) : Prop where
  recs : G.recs = T
  fin : G.fin = T.length
  low : G.low = 0
  off : ∀ k (h : k < T.length), T[k].off = (k : Int)
  map : IsMap G.D
  none_ : ∀ p : ByteArray, pget G.D p.data.toList = none → ∀ r ∈ T, r.prod ≠ p
  some_ : ∀ (p : ByteArray) (o s : Int), pget G.D p.data.toList = some (o, s) → ∃ k, ∃ h : k < T.length, o = (k : Int) ∧ T[k].prod = p ∧ T[k].seq = s ∧ ∀ r ∈ T, r.prod = p → r.seq ≤ s
structure OM (B : Nat) (w0 w : World) (L : LOC) (G : TG) (c : Nat) (T : List Rec) (to_ : Option Addr) (tc : Nat) : Prop where
  held : Held B w0 w L G c
  row : w.ownsRow B 39 5 (.slice to_ T.length tc) T.length (recCells T)
  apart : ∀ j, (Value.slice to_ T.length tc).ownBlock = some j → ¬ L.own j
section
variable {B : Nat} {w0 w w' : World} {L L' : LOC} {G G' : TG} {c c' : Nat} {T T' : List Rec} {to_ to' : Option Addr} {tc tc' : Nat}
theorem OM.size (h : OM B w0 w L G c T to_ tc) : B ≤ w.heap.size := Nat.le_trans h.held.le h.held.below.size
theorem OM.to (h : OM B w0 w L G c T to_ tc) (hb : Below w.heap.size w w') : OM B w0 w' L G c T to_ tc := ⟨h.held.to hb, own_below h.row hb, h.apart⟩
theorem OM.step (h : OM B w0 w L G c T to_ tc) (hh : Held B w0 w' L' G' c') (s : TStep w w' L L') : OM B w0 w' L' G' c' T to_ tc := by
  refine ⟨hh, s.touch.row h.row h.apart, fun j hj e => ?_⟩
  rcases s.own j e with e | e
  · exact h.apart j hj e
  · have := row_lt h.row hj; omega
theorem OM.grown (h : OM B w0 w L G c T to_ tc) (hg : w.grownBy w' (Value.slice to_ T.length tc).ownBlock) (hr : w'.ownsRow B 39 5 (.slice to' T'.length tc') T'.length (recCells T')) (hw : (Value.slice to' T'.length tc').ownBlock = (Value.slice to_ T.length tc).ownBlock ∨ (Value.slice to' T'.length tc').ownBlock = some w.heap.size) : OM B w0 w' L G c T' to' tc' := by
  have hb : Below B w w' := (Below.refl B w).grown hg h.size (fun j hj => (h.row.lt j hj).1)
  refine ⟨⟨h.held.at_.keep (own := fun j => (Value.slice to_ T.length tc).ownBlock = some j) ((Touch.refl _ w).grown hg (fun _ e _ => e)) (fun j hj e => h.apart j e hj), h.held.ok, h.held.below.trans hb, h.held.new, h.held.le⟩, hr, fun j hj e => ?_⟩
  rcases hw with hw | hw
  · exact h.apart j (hw ▸ hj) e
  · rw [hw] at hj
    have := h.held.at_.lt e
    have := Option.some.inj hj
    omega
end
end Go.Proofs.YtfoomgdlbkjaeaaGreat.Y
namespace Go.Proofs
open Go.Shelf
def Tryz.shKeys_ren : Go.Shelf.Ren := ⟨fun | 7 => 38 | 10 => 68 | n => n, fun | 23 => 50 | 26 => 9 | 3 => 57 | 28 => 71 | 0 => 0 | 27 => 70 | 33 => 47 | 4 => 4 | n => n, fun | n => n⟩
theorem Tryz.shKeys : Go.Proofs.SlLaysZ.n7 Tryz.prog Tryz.shKeys_ren := {
  mixed := by kernel_rfl
  f7 := ⟨Tryz.f38.name, by decide, Tryz.func38.trans (congrArg some (by kernel_rfl))⟩
  f10 := ⟨Tryz.f68.name, by decide, Tryz.func68.trans (congrArg some (by kernel_rfl))⟩
  t0 := Tryz.underlying0
  a0 := Tryz.isAgg0
  z0 := Tryz.sizeOf0
  v0 := Tryz.zeroValue0
  t4 := Tryz.underlying4
  a4 := Tryz.isAgg4
  z4 := Tryz.sizeOf4
  v4 := Tryz.zeroValue4
  t23 := Tryz.underlying50
  a23 := Tryz.isAgg50
  z23 := Tryz.sizeOf50
  v23 := Tryz.zeroValue50
  t26 := Tryz.underlying9
  a26 := Tryz.isAgg9
  z26 := Tryz.sizeOf9
  v26 := Tryz.zeroValue9
  t27 := Tryz.underlying70
  a27 := Tryz.isAgg70
  z27 := Tryz.sizeOf70
  v27 := Tryz.zeroValue70
  t28 := Tryz.underlying71
  a28 := Tryz.isAgg71
  z28 := Tryz.sizeOf71
  v28 := Tryz.zeroValue71
  t33 := Tryz.underlying47
  a33 := Tryz.isAgg47
  z33 := Tryz.sizeOf47
  v33 := Tryz.zeroValue47 }
def Tryz.shSorted_ren : Go.Shelf.Ren := ⟨fun | 6 => 37 | 8 => 66 | 9 => 67 | 11 => 85 | 13 => 87 | 12 => 86 | 23 => 121 | 24 => 122 | 14 => 112 | 15 => 113 | 16 => 114 | 17 => 115 | 18 => 116 | 19 => 117 | 20 => 118 | 21 => 119 | 22 => 120 | 25 => 132 | 26 => 133 | 27 => 134 | 28 => 135 | 29 => 136 | 30 => 137 | 31 => 142 | n => n, fun | 26 => 9 | 28 => 71 | 24 => 68 | 0 => 0 | 3 => 3 | 37 => 94 | 48 => 160 | 50 => 81 | 4 => 4 | 40 => 154 | 39 => 153 | 45 => 61 | 5 => 5 | 9 => 9 | 51 => 172 | 55 => 176 | 57 => 181 | 58 => 33 | 33 => 47 | n => n, fun | n => n⟩
theorem Tryz.shSorted : Go.Proofs.SlLaysZ.n6 Tryz.prog Tryz.shSorted_ren := {
  mixed := by kernel_rfl
  f6 := ⟨Tryz.f37.name, by decide, Tryz.func37.trans (congrArg some (by kernel_rfl))⟩
  f8 := ⟨Tryz.f66.name, by decide, Tryz.func66.trans (congrArg some (by kernel_rfl))⟩
  f11 := ⟨Tryz.f85.name, by decide, Tryz.func85.trans (congrArg some (by kernel_rfl))⟩
  t0 := Tryz.underlying0
  a0 := Tryz.isAgg0
  z0 := Tryz.sizeOf0
  v0 := Tryz.zeroValue0
  t24 := Tryz.underlying68
  a24 := Tryz.isAgg68
  z24 := Tryz.sizeOf68
  v24 := Tryz.zeroValue68
  t26 := Tryz.underlying9
  a26 := Tryz.isAgg9
  z26 := Tryz.sizeOf9
  v26 := Tryz.zeroValue9
  t28 := Tryz.underlying71
  a28 := Tryz.isAgg71
  z28 := Tryz.sizeOf71
  v28 := Tryz.zeroValue71
  i26 := by kernel_rfl }
def Tryz.shSort_ren : Go.Shelf.Ren := ⟨fun | 6 => 67 | 8 => 87 | 9 => 86 | 19 => 121 | 20 => 122 | 21 => 112 | 22 => 113 | 23 => 114 | 24 => 115 | 25 => 116 | 26 => 117 | 27 => 118 | 28 => 119 | 29 => 120 | 36 => 132 | 31 => 133 | 32 => 134 | 37 => 135 | 38 => 136 | 39 => 137 | 41 => 142 | n => n, fun | 27 => 68 | 29 => 9 | 3 => 3 | 32 => 94 | 26 => 68 | 0 => 0 | 44 => 160 | 46 => 81 | 4 => 4 | 36 => 154 | 35 => 153 | 41 => 61 | 5 => 5 | 9 => 9 | 53 => 172 | 57 => 176 | 63 => 181 | 64 => 33 | n => n, fun | n => n⟩
theorem Tryz.shSort : Go.Proofs.SlLaysM.n6 Tryz.prog Tryz.shSort_ren := {
  mixed := by kernel_rfl
  f6 := ⟨Tryz.f67.name, by decide, Tryz.func67.trans (congrArg some (by kernel_rfl))⟩
  f8 := Tryz.func87.trans (congrArg some (by kernel_rfl))
  f9 := ⟨Tryz.f86.name, by decide, Tryz.func86.trans (congrArg some (by kernel_rfl))⟩
  f19 := Tryz.func121.trans (congrArg some (by kernel_rfl))
  f20 := Tryz.func122.trans (congrArg some (by kernel_rfl))
  f21 := ⟨Tryz.f112.name, by decide, Tryz.func112.trans (congrArg some (by kernel_rfl))⟩
  f22 := ⟨Tryz.f113.name, by decide, Tryz.func113.trans (congrArg some (by kernel_rfl))⟩
  f23 := ⟨Tryz.f114.name, by decide, Tryz.func114.trans (congrArg some (by kernel_rfl))⟩
  f24 := ⟨Tryz.f115.name, by decide, Tryz.func115.trans (congrArg some (by kernel_rfl))⟩
  f25 := ⟨Tryz.f116.name, by decide, Tryz.func116.trans (congrArg some (by kernel_rfl))⟩
  f26 := ⟨Tryz.f117.name, by decide, Tryz.func117.trans (congrArg some (by kernel_rfl))⟩
  f27 := ⟨Tryz.f118.name, by decide, Tryz.func118.trans (congrArg some (by kernel_rfl))⟩
  f28 := ⟨Tryz.f119.name, by decide, Tryz.func119.trans (congrArg some (by kernel_rfl))⟩
  f29 := ⟨Tryz.f120.name, by decide, Tryz.func120.trans (congrArg some (by kernel_rfl))⟩
  f31 := Tryz.func133.trans (congrArg some (by kernel_rfl))
  f32 := Tryz.func134.trans (congrArg some (by kernel_rfl))
  f36 := ⟨Tryz.f132.name, by decide, Tryz.func132.trans (congrArg some (by kernel_rfl))⟩
  f37 := ⟨Tryz.f135.name, by decide, Tryz.func135.trans (congrArg some (by kernel_rfl))⟩
  f38 := ⟨Tryz.f136.name, by decide, Tryz.func136.trans (congrArg some (by kernel_rfl))⟩
  f39 := ⟨Tryz.f137.name, by decide, Tryz.func137.trans (congrArg some (by kernel_rfl))⟩
  f41 := ⟨Tryz.f142.name, by decide, Tryz.func142.trans (congrArg some (by kernel_rfl))⟩
  t0 := Tryz.underlying0
  a0 := Tryz.isAgg0
  z0 := Tryz.sizeOf0
  v0 := Tryz.zeroValue0
  t3 := Tryz.underlying3
  a3 := Tryz.isAgg3
  z3 := Tryz.sizeOf3
  v3 := Tryz.zeroValue3
  t4 := Tryz.underlying4
  a4 := Tryz.isAgg4
  z4 := Tryz.sizeOf4
  v4 := Tryz.zeroValue4
  t5 := Tryz.underlying5
  a5 := Tryz.isAgg5
  z5 := Tryz.sizeOf5
  v5 := Tryz.zeroValue5
  t9 := Tryz.underlying9
  a9 := Tryz.isAgg9
  z9 := Tryz.sizeOf9
  v9 := Tryz.zeroValue9
  t26 := Tryz.underlying68
  a26 := Tryz.isAgg68
  z26 := Tryz.sizeOf68
  v26 := Tryz.zeroValue68
  t27 := Tryz.underlying68
  a27 := Tryz.isAgg68
  z27 := Tryz.sizeOf68
  v27 := Tryz.zeroValue68
  t29 := Tryz.underlying9
  a29 := Tryz.isAgg9
  z29 := Tryz.sizeOf9
  v29 := Tryz.zeroValue9
  t32 := Tryz.underlying94
  a32 := Tryz.isAgg94
  z32 := Tryz.sizeOf94
  v32 := Tryz.zeroValue94
  t35 := Tryz.underlying153
  a35 := Tryz.isAgg153
  z35 := Tryz.sizeOf153
  v35 := Tryz.zeroValue153
  t36 := Tryz.underlying154
  a36 := Tryz.isAgg154
  z36 := Tryz.sizeOf154
  v36 := Tryz.zeroValue154
  t41 := Tryz.underlying61
  a41 := Tryz.isAgg61
  z41 := Tryz.sizeOf61
  v41 := Tryz.zeroValue61
  t44 := Tryz.underlying160
  a44 := Tryz.isAgg160
  z44 := Tryz.sizeOf160
  v44 := Tryz.zeroValue160
  t46 := Tryz.underlying81
  a46 := Tryz.isAgg81
  z46 := Tryz.sizeOf81
  v46 := Tryz.zeroValue81
  t53 := Tryz.underlying172
  a53 := Tryz.isAgg172
  z53 := Tryz.sizeOf172
  v53 := Tryz.zeroValue172
  t57 := Tryz.underlying176
  a57 := Tryz.isAgg176
  z57 := Tryz.sizeOf176
  v57 := Tryz.zeroValue176
  t63 := Tryz.underlying181
  a63 := Tryz.isAgg181
  z63 := Tryz.sizeOf181
  v63 := Tryz.zeroValue181
  t64 := Tryz.underlying33
  a64 := Tryz.isAgg33
  z64 := Tryz.sizeOf33
  v64 := Tryz.zeroValue33 }
end Go.Proofs
namespace Go.Proofs.YtfoomgdlbkjaeaaGreat.Y
open Go.RowKit Go.Maps
set_option maxHeartbeats 1000000
set_option maxRecDepth 100000
open Go.Sort Go.Shelf
def dnames (D : DataW Nat) : List (List UInt8) := (strKeys D).mergeSort leB
def keysFn (b : Nat) : Value := .func (.func 68) #[] #[.pointer (some ⟨b, 0, none⟩)]
theorem tkeys (mb : Nat) (w : World) : Calls Tryz.prog 38 #[.map (some mb)] w fun e w' => e = .returned (keysFn w.heap.size) ∧ w' = w.alloc (.cells #[.map (some mb)] 50) :=
  (callsIn_wide (n := 5)).1 (AnyZ.keys_in Tryz.shKeys Fence.wide 5 trivial rfl (some mb) w)
theorem tsorted {mb n : Nat} {D : DataW Nat} {w : World} (hown : w.ownsMap Tryz.prog 9 lastR mb n D) (hn : n < 1000000000) :
    Calls Tryz.prog 37 #[keysFn w.heap.size] (w.alloc (.cells #[.map (some mb)] 50)) fun e w' => ∃ ao cp, e = .returned (.slice ao (dnames D).length cp) ∧ w'.ownsRow w.heap.size 9 1 (.slice ao (dnames D).length cp) (dnames D).length ((dnames D).map encStr) ∧ Below w.heap.size w w' := by
  have hsz := hown.size_le
  have hmax : Maps.size D ≤ maxLen := by unfold maxLen; omega
  have hbl := hown.lt
  have hseq : SeqGives Fence.wide 2 Tryz.prog 68 #[.pointer (some ⟨w.heap.size, 0, none⟩)] encStr (fun ss => ss.Perm (strKeys D)) (Maps.size D) (w.alloc (.cells #[.map (some mb)] 50)) :=
    AnyZ.keys_gives (ρ := Tryz.shKeys_ren) { Tryz.shKeys with } Fence.wide _ trivial rfl (by omega) w.heap.size mb n D _ (by simp) (by simp) (hown.alloc _)
  have hsorts : AnyZ.SortsIn Tryz.prog Tryz.shSorted_ren Fence.wide 4 :=
    ⟨fun blk off cap ss W hH hblk hsz => callsIn_wide.2 (AnyM.slices_Sort_string Tryz.shSort blk off cap ss W hH hblk hsz), fun p cap W => callsIn_wide.2 (AnyM.slices_Sort_string_none Tryz.shSort p cap W)⟩
  have hS := AnyZ.sorted_in Tryz.shSorted Fence.wide 5 trivial trivial trivial trivial rfl (by omega) hsorts (enters_of Tryz.func67 (by kernel_rfl) rfl) 68 #[.pointer (some ⟨w.heap.size, 0, none⟩)] trivial (enters_of Tryz.func68 (by kernel_rfl) rfl) _ _ hmax (by omega) _ hseq
  refine ((callsIn_wide (n := 5)).1 hS).mono ?_
  rintro e w' ⟨v, ss, rfl, hP, hrow, hnil, hb⟩
  have e1 : ss.mergeSort (fun x y => decide (x ≤ y)) = dnames D := mergeSort_of_perm hP
  have e2 : ss.length = (dnames D).length := by rw [← e1, List.length_mergeSort]
  rw [e1, e2] at hrow
  obtain ⟨ao, cp, rfl⟩ := row_slice hrow
  exact ⟨ao, cp, rfl, ownsRow_base_a hrow (by simp), ((Below.refl _ w).alloc (Nat.le_refl _) _).trans (hb.mono (by simp))⟩
end Go.Proofs.YtfoomgdlbkjaeaaGreat.Y
namespace Go.Proofs.YtfoomgdlbkjaeaaGreat.K
open Go.Shelf Go.RowKit
def Tryz.shren : Go.Shelf.Ren := ⟨fun | 137 => 138 | 165 => 71 | 166 => 93 | 167 => 125 | 169 => 73 | 217 => 143 | 240 => 90 | 241 => 91 | 266 => 147 | 276 => 123 | 277 => 124 | 316 => 55 | n => n, fun | 0 => 0 | 3 => 3 | 4 => 4 | 5 => 5 | 9 => 9 | 20 => 20 | 37 => 111 | 70 => 110 | 72 => 113 | 75 => 139 | 80 => 41 | 127 => 128 | 164 => 162 | n => n, fun | n => n⟩
theorem Tryz.sh165 : Go.Proofs.Lays.n165 Tryz.prog Tryz.shren := {
  mixed := by kernel_rfl
  f165 := Tryz.func71.trans (congrArg some (by kernel_rfl))
  f240 := Tryz.func90.trans (congrArg some (by kernel_rfl))
  f241 := Tryz.func91.trans (congrArg some (by kernel_rfl))
  f276 := Tryz.func123.trans (congrArg some (by kernel_rfl))
  f277 := Tryz.func124.trans (congrArg some (by kernel_rfl))
  t0 := Tryz.underlying0
  a0 := Tryz.isAgg0
  z0 := Tryz.sizeOf0
  v0 := Tryz.zeroValue0
  t3 := Tryz.underlying3
  a3 := Tryz.isAgg3
  z3 := Tryz.sizeOf3
  v3 := Tryz.zeroValue3
  t4 := Tryz.underlying4
  a4 := Tryz.isAgg4
  z4 := Tryz.sizeOf4
  v4 := Tryz.zeroValue4
  t9 := Tryz.underlying9
  a9 := Tryz.isAgg9
  z9 := Tryz.sizeOf9
  v9 := Tryz.zeroValue9
  t20 := Tryz.underlying20
  a20 := Tryz.isAgg20
  z20 := Tryz.sizeOf20
  v20 := Tryz.zeroValue20
  t37 := Tryz.underlying111
  a37 := Tryz.isAgg111
  z37 := Tryz.sizeOf111
  v37 := Tryz.zeroValue111
  t70 := Tryz.underlying110
  a70 := Tryz.isAgg110
  z70 := Tryz.sizeOf110
  v70 := Tryz.zeroValue110
  t72 := Tryz.underlying113
  a72 := Tryz.isAgg113
  z72 := Tryz.sizeOf113
  v72 := Tryz.zeroValue113
  t164 := Tryz.underlying162
  a164 := Tryz.isAgg162
  z164 := Tryz.sizeOf162
  v164 := Tryz.zeroValue162 }
theorem Tryz.sh166 : Go.Proofs.Lays.n166 Tryz.prog Tryz.shren := {
  mixed := by kernel_rfl
  f166 := Tryz.func93.trans (congrArg some (by kernel_rfl))
  f240 := Tryz.func90.trans (congrArg some (by kernel_rfl))
  f276 := Tryz.func123.trans (congrArg some (by kernel_rfl))
  t0 := Tryz.underlying0
  a0 := Tryz.isAgg0
  z0 := Tryz.sizeOf0
  v0 := Tryz.zeroValue0
  t3 := Tryz.underlying3
  a3 := Tryz.isAgg3
  z3 := Tryz.sizeOf3
  v3 := Tryz.zeroValue3
  t4 := Tryz.underlying4
  a4 := Tryz.isAgg4
  z4 := Tryz.sizeOf4
  v4 := Tryz.zeroValue4
  t9 := Tryz.underlying9
  a9 := Tryz.isAgg9
  z9 := Tryz.sizeOf9
  v9 := Tryz.zeroValue9
  t20 := Tryz.underlying20
  a20 := Tryz.isAgg20
  z20 := Tryz.sizeOf20
  v20 := Tryz.zeroValue20
  t37 := Tryz.underlying111
  a37 := Tryz.isAgg111
  z37 := Tryz.sizeOf111
  v37 := Tryz.zeroValue111
  t70 := Tryz.underlying110
  a70 := Tryz.isAgg110
  z70 := Tryz.sizeOf110
  v70 := Tryz.zeroValue110
  t72 := Tryz.underlying113
  a72 := Tryz.isAgg113
  z72 := Tryz.sizeOf113
  v72 := Tryz.zeroValue113
  t75 := Tryz.underlying139
  a75 := Tryz.isAgg139
  z75 := Tryz.sizeOf139
  v75 := Tryz.zeroValue139
  t164 := Tryz.underlying162
  a164 := Tryz.isAgg162
  z164 := Tryz.sizeOf162
  v164 := Tryz.zeroValue162 }
theorem Tryz.sh167 : Go.Proofs.Lays.n167 Tryz.prog Tryz.shren := {
  mixed := by kernel_rfl
  f167 := Tryz.func125.trans (congrArg some (by kernel_rfl))
  f240 := Tryz.func90.trans (congrArg some (by kernel_rfl))
  f276 := Tryz.func123.trans (congrArg some (by kernel_rfl))
  t0 := Tryz.underlying0
  a0 := Tryz.isAgg0
  z0 := Tryz.sizeOf0
  v0 := Tryz.zeroValue0
  t4 := Tryz.underlying4
  a4 := Tryz.isAgg4
  z4 := Tryz.sizeOf4
  v4 := Tryz.zeroValue4
  t5 := Tryz.underlying5
  a5 := Tryz.isAgg5
  z5 := Tryz.sizeOf5
  v5 := Tryz.zeroValue5
  t9 := Tryz.underlying9
  a9 := Tryz.isAgg9
  z9 := Tryz.sizeOf9
  v9 := Tryz.zeroValue9
  t20 := Tryz.underlying20
  a20 := Tryz.isAgg20
  z20 := Tryz.sizeOf20
  v20 := Tryz.zeroValue20
  t37 := Tryz.underlying111
  a37 := Tryz.isAgg111
  z37 := Tryz.sizeOf111
  v37 := Tryz.zeroValue111
  t70 := Tryz.underlying110
  a70 := Tryz.isAgg110
  z70 := Tryz.sizeOf110
  v70 := Tryz.zeroValue110
  t72 := Tryz.underlying113
  a72 := Tryz.isAgg113
  z72 := Tryz.sizeOf113
  v72 := Tryz.zeroValue113
  t75 := Tryz.underlying139
  a75 := Tryz.isAgg139
  z75 := Tryz.sizeOf139
  v75 := Tryz.zeroValue139
  t164 := Tryz.underlying162
  a164 := Tryz.isAgg162
  z164 := Tryz.sizeOf162
  v164 := Tryz.zeroValue162 }
theorem Tryz.sh169 : Go.Proofs.Lays.n169 Tryz.prog Tryz.shren := {
  mixed := by kernel_rfl
  f169 := Tryz.func73.trans (congrArg some (by kernel_rfl))
  t0 := Tryz.underlying0
  a0 := Tryz.isAgg0
  z0 := Tryz.sizeOf0
  v0 := Tryz.zeroValue0
  t3 := Tryz.underlying3
  a3 := Tryz.isAgg3
  z3 := Tryz.sizeOf3
  v3 := Tryz.zeroValue3
  t9 := Tryz.underlying9
  a9 := Tryz.isAgg9
  z9 := Tryz.sizeOf9
  v9 := Tryz.zeroValue9
  t37 := Tryz.underlying111
  a37 := Tryz.isAgg111
  z37 := Tryz.sizeOf111
  v37 := Tryz.zeroValue111
  t70 := Tryz.underlying110
  a70 := Tryz.isAgg110
  z70 := Tryz.sizeOf110
  v70 := Tryz.zeroValue110
  t72 := Tryz.underlying113
  a72 := Tryz.isAgg113
  z72 := Tryz.sizeOf113
  v72 := Tryz.zeroValue113
  t127 := Tryz.underlying128
  a127 := Tryz.isAgg128
  z127 := Tryz.sizeOf128
  v127 := Tryz.zeroValue128 }
theorem Tryz.sh137 : Go.Proofs.Lays.n137 Tryz.prog Tryz.shren := {
  mixed := by kernel_rfl
  f137 := Tryz.func138.trans (congrArg some (by kernel_rfl))
  f217 := Tryz.func143.trans (congrArg some (by kernel_rfl))
  f266 := Tryz.func147.trans (congrArg some (by kernel_rfl))
  t3 := Tryz.underlying3
  a3 := Tryz.isAgg3
  z3 := Tryz.sizeOf3
  v3 := Tryz.zeroValue3
  t5 := Tryz.underlying5
  a5 := Tryz.isAgg5
  z5 := Tryz.sizeOf5
  v5 := Tryz.zeroValue5
  t9 := Tryz.underlying9
  a9 := Tryz.isAgg9
  z9 := Tryz.sizeOf9
  v9 := Tryz.zeroValue9 }
theorem Tryz.sh316 : Go.Proofs.LaysM.n316 Tryz.prog Tryz.shren := {
  mixed := by kernel_rfl
  f316 := Tryz.func55.trans (congrArg some (by kernel_rfl))
  t0 := Tryz.underlying0
  a0 := Tryz.isAgg0
  z0 := Tryz.sizeOf0
  v0 := Tryz.zeroValue0
  t3 := Tryz.underlying3
  a3 := Tryz.isAgg3
  z3 := Tryz.sizeOf3
  v3 := Tryz.zeroValue3
  t4 := Tryz.underlying4
  a4 := Tryz.isAgg4
  z4 := Tryz.sizeOf4
  v4 := Tryz.zeroValue4
  t9 := Tryz.underlying9
  a9 := Tryz.isAgg9
  z9 := Tryz.sizeOf9
  v9 := Tryz.zeroValue9
  t37 := Tryz.underlying111
  a37 := Tryz.isAgg111
  z37 := Tryz.sizeOf111
  v37 := Tryz.zeroValue111
  t127 := Tryz.underlying128
  a127 := Tryz.isAgg128
  z127 := Tryz.sizeOf128
  v127 := Tryz.zeroValue128
  t5 := Tryz.underlying5
  a5 := Tryz.isAgg5
  z5 := Tryz.sizeOf5
  v5 := Tryz.zeroValue5
  i0 := by kernel_rfl
  i3 := by kernel_rfl
  i4 := by kernel_rfl
  i5 := by kernel_rfl
  i9 := by kernel_rfl
  i37 := by kernel_rfl
  i127 := by kernel_rfl }
theorem Tryz.shX : Builder.Extra Tryz.prog Tryz.shren := {
  sizeBuilder := by kernel_rfl
  liesBuilder := by kernel_rfl
  t5 := Tryz.underlying5
  a5 := Tryz.isAgg5
  z5 := Tryz.sizeOf5
  v5 := Tryz.zeroValue5
  infoByte := by kernel_rfl
  cellsByte := by kernel_rfl
  sizeByte := by kernel_rfl
  neB5 := by decide }
theorem Tryz.WriteByte (B b : Nat) (bs : List Value) (c : Int) (w : World) (h : Lib.IsBuilderF 113 5 B b bs w) (hlen : bs.length + 1 ≤ 140737488355328) (hBw : B ≤ w.heap.size) :
    Calls Tryz.prog 125 #[.pointer (some ⟨b, 0, none⟩), .int .u8 c] w fun e w' => e = .returned .nilIface ∧ (Lib.BuilderAtF 113 5 B b (.pointer (some ⟨b, 0, none⟩)) (bs ++ [.int .u8 c]) w' ∧ Below B w w' ∧ Lib.OthersKept 5 (some b) w w') := Any.Builder_WriteByte_k Tryz.sh167 Tryz.shX B b bs c w h hlen hBw
theorem Tryz.WriteString (B b : Nat) (bs : List Value) (s : ByteArray) (w : World) (h : Lib.IsBuilderF 113 5 B b bs w) (hlen : bs.length + s.size ≤ 140737488355328) (hBw : B ≤ w.heap.size) :
    Calls Tryz.prog 93 #[.pointer (some ⟨b, 0, none⟩), .string s] w fun e w' => e = .returned (.tuple #[.int .i64 s.size, .nilIface]) ∧ (Lib.BuilderAtF 113 5 B b (.pointer (some ⟨b, 0, none⟩)) (bs ++ Lib.strCells s) w' ∧ Below B w w' ∧ Lib.OthersKept 5 (some b) w w') := Any.Builder_WriteString_k Tryz.sh166 Tryz.shX B b bs s w h hlen hBw
theorem Tryz.BString (B b : Nat) (l : List UInt8) (w : World) (h : Lib.IsBuilderF 113 5 B b (Lib.byteCells l) w) (hBw : B ≤ w.heap.size) :
    Calls Tryz.prog 73 #[.pointer (some ⟨b, 0, none⟩)] w fun e w' => e = .returned (.string ⟨l.toArray⟩) ∧ (Lib.IsBuilderF 113 5 B b (Lib.byteCells l) w' ∧ Below B w w' ∧ Lib.OthersKept 5 (some b) w w') := Any.Builder_String_any_k Tryz.sh169 Tryz.shX B b l w h hBw
theorem Tryz.Grow (B b n : Nat) (w : World) (hB : B ≤ b) (hbk : w.heap[b]? = some (.cells #[.pointer none, .slice none 0 0] 113 (0, 0))) (hBw : B ≤ w.heap.size) (hn : n ≤ 281474976710656) :
    Calls Tryz.prog 71 #[.pointer (some ⟨b, 0, none⟩), .int .i64 n] w fun e w' => e = .returned (.tuple #[]) ∧ (Lib.BuilderAt 113 5 B b (.pointer (some ⟨b, 0, none⟩)) [] w' ∧ Below B w w') := Any.Builder_Grow_fresh Tryz.sh165 Tryz.shX B b n w hB hbk hBw hn
theorem Tryz.IndexByte (s : ByteArray) (c : Int) (w : World) :
    Calls Tryz.prog 138 #[.string s, .int .u8 c] w fun e w' => e = .returned (.int .i64 (Lib.indexByte s.data.toList c.toNat.toUInt8)) ∧ w' = w := Any.strings_IndexByte Tryz.sh137 s c w
theorem Tryz.liteIndexByte (s : ByteArray) (c : Int) (w : World) :
    Calls Tryz.prog 143 #[.string s, .int .u8 c] w fun e w' => e = .returned (.int .i64 (Lib.indexByte s.data.toList c.toNat.toUInt8)) ∧ w' = w := Any.stringslite_IndexByte { Tryz.sh137 with } s c w
theorem Tryz.liteClone (s : ByteArray) (w : World) (hlim : s.size ≤ 281474976710656) :
    Calls Tryz.prog 55 #[.string s] w fun e w' => e = .returned (.string s) ∧ Below w.heap.size w w' := Any.stringslite_Clone Tryz.sh316 s w hlim
end Go.Proofs.YtfoomgdlbkjaeaaGreat.K
namespace Go.Proofs.YtfoomgdlbkjaeaaGreat.K
structure It where
  k : Int
  n : Int
  s : ByteArray
def It.zero : It := ⟨0, 0, ⟨#[]⟩⟩
def It.ok (x : It) : Prop := -9223372036854775808 ≤ x.k ∧ x.k ≤ 9223372036854775807 ∧ 0 ≤ x.n ∧ x.n < 18446744073709551616 ∧ x.s.size ≤ 9223372036854775807
def widthN (k : Int) : Nat := if k = 1 then 1 else if k = 3 then 8 else 4
def kindB (k : Int) : Bool := decide (1 ≤ k) && decide (k ≤ 4)
def faultF (x : It) : Int :=
  if kindB x.k = false then 1
  else if x.k ≠ 4 ∧ (x.s.size ≠ 0 ∨ ¬ x.n < 256 ^ widthN x.k) then 1
  else if x.k = 4 ∧ x.n ≠ 0 then 1
  else if 100000 < x.s.size then 3 else 0
def numOf (x : It) : Nat := if x.k = 4 then x.s.size else x.n.toNat
def itemB (x : It) : List UInt8 := Lib.beBytes (widthN x.k) (numOf x) ++ x.s.data.toList
def firstFault : List It → Int
  | [] => 0
  | x :: l => if faultF x = 0 then firstFault l else faultF x
def encF (l : List It) : List UInt8 × Int :=
  if 1000 < l.length then ([], 3) else if firstFault l = 0 then (l.flatMap itemB, 0) else ([], firstFault l)
def letterF (k : Int) : UInt8 := if k = 1 then 98 else if k = 2 then 119 else if k = 3 then 108 else 116
def shapeF (l : List It) : List UInt8 × Int := if l.all (fun x => kindB x.k) = true then (l.map fun x => letterF x.k, 0) else ([], 1)
def letters : List UInt8 := [98, 119, 108, 116]
def kindOfL (c : UInt8) : Int := Lib.indexByte letters c + 1
def isLetter (c : UInt8) : Bool := decide (0 ≤ Lib.indexByte letters c)
def allL (l : List UInt8) : Bool := l.all isLetter
def itemF (c : UInt8) (s : List UInt8) : It × List UInt8 × Int :=
  if s.length < widthN (kindOfL c) then (It.zero, [], 2)
  else if kindOfL c = 4 then
    if 100000 < Lib.beNat (s.take 4) then (It.zero, [], 3)
    else if (s.drop 4).length < Lib.beNat (s.take 4) then (It.zero, [], 2)
    else (⟨4, 0, ⟨((s.drop 4).take (Lib.beNat (s.take 4))).toArray⟩⟩, (s.drop 4).drop (Lib.beNat (s.take 4)), 0)
  else (⟨kindOfL c, Lib.beNat (s.take (widthN (kindOfL c))), ⟨#[]⟩⟩, s.drop (widthN (kindOfL c)), 0)
def readF : Nat → List UInt8 → Nat → List UInt8 → List UInt8 → List It × Int
  | 0, _, _, _, _ => ([], 0)
  | f + 1, again, m, [], rest => if rest = [] then ([], 0) else if again = [] then ([], 10) else readF f again m again rest
  | f + 1, again, m, c :: t, rest =>
    if m = 1000 then ([], 3)
    else if (itemF c rest).2.2 = 0 then
      if (readF f again (m + 1) t (itemF c rest).2.1).2 = 0 then ((itemF c rest).1 :: (readF f again (m + 1) t (itemF c rest).2.1).1, 0)
      else ([], (readF f again (m + 1) t (itemF c rest).2.1).2)
    else ([], (itemF c rest).2.2)
def cutStar (s : List UInt8) : List UInt8 × List UInt8 × Bool :=
  if Lib.indexByte s 42 < 0 then (s, [], false) else (s.take (Lib.indexByte s 42).toNat, s.drop ((Lib.indexByte s 42).toNat + 1), true)
def shapeOk (s : List UInt8) : Bool :=
  !((cutStar s).2.2 && (cutStar s).2.1.isEmpty) && (allL (cutStar s).1 && allL (cutStar s).2.1)
def decF (shape s : List UInt8) : List It × Int :=
  if shapeOk shape = true then readF (2 * s.length + 2) (cutStar shape).2.1 0 (cutStar shape).1 s else ([], 1)
theorem beFrom_snoc (l : List UInt8) (a : Nat) (c : UInt8) : Lib.beFrom a (l ++ [c]) = Lib.beFrom a l * 256 + c.toNat := by
  induction l generalizing a with
  | nil => rfl
  | cons b r ih => simp [Lib.beFrom, ih]
theorem beNat_snoc (l : List UInt8) (c : UInt8) : Lib.beNat (l ++ [c]) = Lib.beNat l * 256 + c.toNat := beFrom_snoc l 0 c
theorem beFrom_lt (l : List UInt8) (a : Nat) : Lib.beFrom a l < (a + 1) * 256 ^ l.length := by
  induction l generalizing a with
  | nil => simp [Lib.beFrom]
  | cons b r ih =>
    have h1 := ih (a * 256 + b.toNat)
    have h2 := b.toNat_lt
    simp only [Lib.beFrom, List.length_cons, Nat.pow_succ]
    refine Nat.lt_of_lt_of_le h1 ?_
    rw [Nat.mul_comm (256 ^ r.length) 256, ← Nat.mul_assoc]
    exact Nat.mul_le_mul_right _ (by omega)
theorem beNat_lt (l : List UInt8) : Lib.beNat l < 256 ^ l.length := by
  have := beFrom_lt l 0
  simpa [Lib.beNat] using this
end Go.Proofs.YtfoomgdlbkjaeaaGreat.K
