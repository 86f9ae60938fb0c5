/-
  The document's own width and num, as they run.
-/
import Derived.Test.YtfoomgdlbkjaeaaGreatZVB
import Derived.BigQuiet
import Derived.Test.YtfoomgdlbkjaeaaGreatZKAppI
import Derived.LoopN
import Derived.Laws.BytesString
import Derived.Laws.IdiomStrings
namespace Go.Proofs.YtfoomgdlbkjaeaaGreat.Y
open Go.RowKit
set_option maxHeartbeats 8000000
set_option maxRecDepth 100000
attribute [local go_sem ↓] Go.wp_at_zero Go.wp_at_succ
set_option linter.unusedSimpArgs false
set_option linter.unusedVariables false
open Go.Maps
theorem xshape (n : Nat) : (⟨#[116, 108, 108, 108]⟩ : ByteArray) ++ ⟨(Lib.repeatL [116, 108, 108] n).toArray⟩ ++ ⟨#[42, 108, 116, 108, 116, 116]⟩ = shapeS n := by
  unfold shapeS shapeT
  apply ByteArray.ext
  simp [ByteArray.data_append]
theorem frame_xl (t : Array Value) (h : t.size = 85) : ∃ u : Nat → Value, t = List.toArray (u 0 :: u 1 :: u 2 :: u 3 :: u 4 :: u 5 :: u 6 :: u 7 :: u 8 :: u 9 :: u 10 :: u 11 :: u 12 :: u 13 :: u 14 :: u 15 :: u 16 :: u 17 :: u 18 :: u 19 :: u 20 :: u 21 :: u 22 :: u 23 :: u 24 :: u 25 :: u 26 :: u 27 :: u 28 :: u 29 :: u 30 :: u 31 :: u 32 :: u 33 :: u 34 :: u 35 :: u 36 :: u 37 :: u 38 :: u 39 :: u 40 :: u 41 :: u 42 :: u 43 :: u 44 :: u 45 :: u 46 :: u 47 :: u 48 :: u 49 :: u 50 :: u 51 :: u 52 :: u 53 :: u 54 :: u 55 :: u 56 :: u 57 :: u 58 :: u 59 :: u 60 :: u 61 :: u 62 :: u 63 :: u 64 :: u 65 :: u 66 :: u 67 :: u 68 :: u 69 :: u 70 :: u 71 :: u 72 :: u 73 :: u 74 :: u 75 :: u 76 :: u 77 :: u 78 :: u 79 :: u 80 :: u 81 :: u 82 :: u 83 :: u 84 :: []) := by
  refine ⟨fun i => t.getD i undef, ?_⟩
  refine Eq.trans (b := ((List.range 85).map fun i => t.getD i undef).toArray) ?_ rfl
  apply Array.ext
  · simp [h]
  · intro k h1 h2
    simp [Array.getD, h1]
structure Vxl where
  v0 : Value
  v2 : Value
  v3 : Value
  v4 : Value
  v5 : Value
  v6 : Value
  v7 : Value
  v8 : Value
  v9 : Value
  v10 : Value
structure Fxl (a : Act) (v : Vxl) : Prop where
  size : a.tmps.size = 85
  defers : a.defers = []
  s0 : a.tmps.getD 0 undef = v.v0
  s2 : a.tmps.getD 2 undef = v.v2
  s3 : a.tmps.getD 3 undef = v.v3
  s4 : a.tmps.getD 4 undef = v.v4
  s5 : a.tmps.getD 5 undef = v.v5
  s6 : a.tmps.getD 6 undef = v.v6
  s7 : a.tmps.getD 7 undef = v.v7
  s8 : a.tmps.getD 8 undef = v.v8
  s9 : a.tmps.getD 9 undef = v.v9
  s10 : a.tmps.getD 10 undef = v.v10
theorem frx_xl {a : Act} {v0 v2 v3 v4 v5 v6 v7 v8 v9 v10 : Value} (h : Fxl a ⟨v0, v2, v3, v4, v5, v6, v7, v8, v9, v10⟩) : ∃ u : Nat → Value, a = ⟨List.toArray (v0 :: u 1 :: v2 :: v3 :: v4 :: v5 :: v6 :: v7 :: v8 :: v9 :: v10 :: u 11 :: u 12 :: u 13 :: u 14 :: u 15 :: u 16 :: u 17 :: u 18 :: u 19 :: u 20 :: u 21 :: u 22 :: u 23 :: u 24 :: u 25 :: u 26 :: u 27 :: u 28 :: u 29 :: u 30 :: u 31 :: u 32 :: u 33 :: u 34 :: u 35 :: u 36 :: u 37 :: u 38 :: u 39 :: u 40 :: u 41 :: u 42 :: u 43 :: u 44 :: u 45 :: u 46 :: u 47 :: u 48 :: u 49 :: u 50 :: u 51 :: u 52 :: u 53 :: u 54 :: u 55 :: u 56 :: u 57 :: u 58 :: u 59 :: u 60 :: u 61 :: u 62 :: u 63 :: u 64 :: u 65 :: u 66 :: u 67 :: u 68 :: u 69 :: u 70 :: u 71 :: u 72 :: u 73 :: u 74 :: u 75 :: u 76 :: u 77 :: u 78 :: u 79 :: u 80 :: u 81 :: u 82 :: u 83 :: u 84 :: []), []⟩ := by
  obtain ⟨t', d'⟩ := a
  obtain ⟨hs, hd, q0, q2, q3, q4, q5, q6, q7, q8, q9, q10⟩ := h
  obtain ⟨u, hu⟩ := frame_xl t' hs
  simp only at hd q0 q2 q3 q4 q5 q6 q7 q8 q9 q10
  subst hu hd
  have e0 : u 0 = v0 := q0
  have e2 : u 2 = v2 := q2
  have e3 : u 3 = v3 := q3
  have e4 : u 4 = v4 := q4
  have e5 : u 5 = v5 := q5
  have e6 : u 6 = v6 := q6
  have e7 : u 7 = v7 := q7
  have e8 : u 8 = v8 := q8
  have e9 : u 9 = v9 := q9
  have e10 : u 10 = v10 := q10
  refine ⟨u, ?_⟩
  rw [e0, e2, e3, e4, e5, e6, e7, e8, e9, e10]
theorem xl_r0 {K : Act → World → Prop} {c : Code} (hc : regOf (Tryz.f25.body.getD .skip) 0 = some c) (a : Act) {v : Vxl} {wq : World}  (hF : Fxl a v) (hQ : ∀ a', Fxl a' { v with v2 := .pointer none } → K a' wq) :
    Code.wp Tryz.prog c (Exit.then K fun _ _ _ => False) a wq := by
  have HQ := hide hQ
  clear hQ
  obtain ⟨v0, v2, v3, v4, v5, v6, v7, v8, v9, v10⟩ := v
  obtain ⟨u, rfl⟩ := frx_xl hF
  clear hF
  simp only [Tryz.f25, Option.getD_some, regOf] at hc
  injection hc with hc
  subst hc
  go_wp2
  exact HQ.out _ ⟨rfl, rfl, rfl, rfl, rfl, rfl, rfl, rfl, rfl, rfl, rfl, rfl⟩
theorem xl_r2 {K : Act → World → Prop} {c : Code} (hc : regOf (Tryz.f25.body.getD .skip) 2 = some c) (a : Act) {v : Vxl} {wq : World}  (hF : Fxl a v) (hQ : ∀ a', Fxl a' { v with v2 := .pointer none } → K a' wq) :
    Code.wp Tryz.prog c (Exit.then K fun _ _ _ => False) a wq := by
  have HQ := hide hQ
  clear hQ
  obtain ⟨v0, v2, v3, v4, v5, v6, v7, v8, v9, v10⟩ := v
  obtain ⟨u, rfl⟩ := frx_xl hF
  clear hF
  simp only [Tryz.f25, Option.getD_some, regOf] at hc
  injection hc with hc
  subst hc
  go_wp2
  exact HQ.out _ ⟨rfl, rfl, rfl, rfl, rfl, rfl, rfl, rfl, rfl, rfl, rfl, rfl⟩
theorem xl_r5 {K : Act → World → Prop} {c : Code} (hc : regOf (Tryz.f25.body.getD .skip) 5 = some c) (a : Act) {v : Vxl} {wq : World}  (hF : Fxl a v) (hQ : ∀ a', Fxl a' { v with v2 := .pointer none } → K a' wq) :
    Code.wp Tryz.prog c (Exit.then K fun _ _ _ => False) a wq := by
  have HQ := hide hQ
  clear hQ
  obtain ⟨v0, v2, v3, v4, v5, v6, v7, v8, v9, v10⟩ := v
  obtain ⟨u, rfl⟩ := frx_xl hF
  clear hF
  simp only [Tryz.f25, Option.getD_some, regOf] at hc
  injection hc with hc
  subst hc
  go_wp2
  exact HQ.out _ ⟨rfl, rfl, rfl, rfl, rfl, rfl, rfl, rfl, rfl, rfl, rfl, rfl⟩
theorem xl_r8 {K : Act → World → Prop} {c : Code} (hc : regOf (Tryz.f25.body.getD .skip) 8 = some c) (a : Act) {v : Vxl} {wq : World}  (hF : Fxl a v) (hQ : ∀ a', Fxl a' { v with v2 := .pointer none } → K a' wq) :
    Code.wp Tryz.prog c (Exit.then K fun _ _ _ => False) a wq := by
  have HQ := hide hQ
  clear hQ
  obtain ⟨v0, v2, v3, v4, v5, v6, v7, v8, v9, v10⟩ := v
  obtain ⟨u, rfl⟩ := frx_xl hF
  clear hF
  simp only [Tryz.f25, Option.getD_some, regOf] at hc
  injection hc with hc
  subst hc
  go_wp2
  exact HQ.out _ ⟨rfl, rfl, rfl, rfl, rfl, rfl, rfl, rfl, rfl, rfl, rfl, rfl⟩
theorem xl_r12 {K : Act → World → Prop} {c : Code} (hc : regOf (Tryz.f25.body.getD .skip) 12 = some c) (a : Act) {v : Vxl} {wq : World}  (hF : Fxl a v) (hQ : ∀ a', Fxl a' { v with v2 := .pointer none } → K a' wq) :
    Code.wp Tryz.prog c (Exit.then K fun _ _ _ => False) a wq := by
  have HQ := hide hQ
  clear hQ
  obtain ⟨v0, v2, v3, v4, v5, v6, v7, v8, v9, v10⟩ := v
  obtain ⟨u, rfl⟩ := frx_xl hF
  clear hF
  simp only [Tryz.f25, Option.getD_some, regOf] at hc
  injection hc with hc
  subst hc
  go_wp2
  exact HQ.out _ ⟨rfl, rfl, rfl, rfl, rfl, rfl, rfl, rfl, rfl, rfl, rfl, rfl⟩
theorem xl_r15 {K : Act → World → Prop} {c : Code} (hc : regOf (Tryz.f25.body.getD .skip) 15 = some c) (a : Act) {v : Vxl} {wq : World}  (hF : Fxl a v) (hQ : ∀ a', Fxl a' { v with v2 := .pointer none } → K a' wq) :
    Code.wp Tryz.prog c (Exit.then K fun _ _ _ => False) a wq := by
  have HQ := hide hQ
  clear hQ
  obtain ⟨v0, v2, v3, v4, v5, v6, v7, v8, v9, v10⟩ := v
  obtain ⟨u, rfl⟩ := frx_xl hF
  clear hF
  simp only [Tryz.f25, Option.getD_some, regOf] at hc
  injection hc with hc
  subst hc
  go_wp2
  exact HQ.out _ ⟨rfl, rfl, rfl, rfl, rfl, rfl, rfl, rfl, rfl, rfl, rfl, rfl⟩
theorem xl_r1 {K : Act → World → Prop} {c : Code} (hc : regOf (Tryz.f25.body.getD .skip) 1 = some c) (a : Act) {v : Vxl} {wq : World} {s : ByteArray} (hF : Fxl a v) (h0v : v.v0 = .string s) (hs : s.size ≤ 9223372036854775807) (hQ : ∀ a', Fxl a' v → a'.tmps.getD 13 undef = .bool (decide ((s.size : Int) < 4)) → K a' wq) :
    Code.wp Tryz.prog c (Exit.then K fun _ _ _ => False) a wq := by
  have HQ := hide hQ
  clear hQ
  obtain ⟨v0, v2, v3, v4, v5, v6, v7, v8, v9, v10⟩ := v
  simp only at h0v HQ
  subst h0v
  obtain ⟨u, rfl⟩ := frx_xl hF
  clear hF
  simp only [Tryz.f25, Option.getD_some, regOf] at hc
  injection hc with hc
  subst hc
  go_wp2
  exact HQ.out _ ⟨rfl, rfl, rfl, rfl, rfl, rfl, rfl, rfl, rfl, rfl, rfl, rfl⟩ (by first | rfl | (simp; done))
theorem xl_r3 {K : Act → World → Prop} {c : Code} (hc : regOf (Tryz.f25.body.getD .skip) 3 = some c) (a : Act) {v : Vxl} {wq : World} {s : ByteArray} {N : Nat} (hF : Fxl a v) (h0v : v.v0 = .string s) (hs : s.size ≤ 9223372036854775807) (m0 : 0 < s.size) (m1 : 1 < s.size) (m2 : 2 < s.size) (m3 : 3 < s.size) (hN : N = s[0].toNat * 16777216 + s[1].toNat * 65536 + s[2].toNat * 256 + s[3].toNat) (hQ : ∀ a' n, Fxl a' { v with v3 := .int .i64 (N : Int) } → K a' (wq.drewN n)) :
    Code.wp Tryz.prog c (Exit.then K fun _ _ _ => False) a wq := by
  have HQ := hide hQ
  clear hQ
  obtain ⟨v0, v2, v3, v4, v5, v6, v7, v8, v9, v10⟩ := v
  simp only at h0v HQ
  subst h0v
  obtain ⟨u, rfl⟩ := frx_xl hF
  clear hF
  simp only [Tryz.f25, Option.getD_some, regOf] at hc
  injection hc with hc
  subst hc
  have l0 : (0 : Int) < s.size := by omega
  have l1 : (1 : Int) < s.size := by omega
  have l2 : (2 : Int) < s.size := by omega
  have l3 : (3 : Int) < s.size := by omega
  have eN : wrap64 (wrap64 (wrap64 (wrap64 (wrap64 ((s[0].toNat : Int)) * 16777216) + wrap64 (wrap64 (s[1].toNat : Int) * 65536)) + wrap64 (wrap64 (s[2].toNat : Int) * 256)) + wrap64 (s[3].toNat : Int)) = (N : Int) := by
    have b0 := s[0].toNat_lt
    have b1 := s[1].toNat_lt
    have b2 := s[2].toNat_lt
    have b3 := s[3].toNat_lt
    subst hN
    generalize s[0].toNat = x0 at *
    generalize s[1].toNat = x1 at *
    generalize s[2].toNat = x2 at *
    generalize s[3].toNat = x3 at *
    have W : ∀ x : Int, 0 ≤ x → x ≤ 1099511627776 → wrap64 x = x := fun x p q => by unfold wrap64; omega
    rw [W (x0 : Int) (by omega) (by omega), W ((x0 : Int) * 16777216) (by omega) (by omega), W (x1 : Int) (by omega) (by omega), W ((x1 : Int) * 65536) (by omega) (by omega), W ((x0 : Int) * 16777216 + x1 * 65536) (by omega) (by omega), W (x2 : Int) (by omega) (by omega), W ((x2 : Int) * 256) (by omega) (by omega), W ((x0 : Int) * 16777216 + x1 * 65536 + x2 * 256) (by omega) (by omega), W (x3 : Int) (by omega) (by omega), W ((x0 : Int) * 16777216 + x1 * 65536 + x2 * 256 + x3) (by omega) (by omega)]
    omega
  clear hN
  go_wp2
  go_quiet (fail)
  go_wp2
  exact HQ.out _ _ ⟨rfl, rfl, rfl, rfl, congrArg (Value.int IntKind.i64) eN, rfl, rfl, rfl, rfl, rfl, rfl, rfl⟩
theorem xl_r4a {K : Act → World → Prop} {c : Code} (hc : regOf (Tryz.f25.body.getD .skip) 4 = some c) (a : Act) {v : Vxl} {wq : World} {s : ByteArray} {n : Nat} (hF : Fxl a v) (h0v : v.v0 = .string s) (h3v : v.v3 = .int .i64 (n : Int)) (h0 : (n : Int) > 20) (hn : n < 4294967296) (hs : s.size ≤ 9223372036854775807) (hQ : ∀ a', Fxl a' v → a'.tmps.getD 41 undef = .bool true → K a' wq) :
    Code.wp Tryz.prog c (Exit.then K fun _ _ _ => False) a wq := by
  have HQ := hide hQ
  clear hQ
  obtain ⟨v0, v2, v3, v4, v5, v6, v7, v8, v9, v10⟩ := v
  simp only at h0v h3v HQ
  subst h0v h3v
  obtain ⟨u, rfl⟩ := frx_xl hF
  clear hF
  simp only [Tryz.f25, Option.getD_some, regOf] at hc
  injection hc with hc
  subst hc
  go_wp2
  exact HQ.out _ ⟨rfl, rfl, rfl, rfl, rfl, rfl, rfl, rfl, rfl, rfl, rfl, rfl⟩ (by first | rfl | (simp; done))
theorem xl_r4b {K : Act → World → Prop} {c : Code} (hc : regOf (Tryz.f25.body.getD .skip) 4 = some c) (a : Act) {v : Vxl} {wq : World} {s : ByteArray} {n : Nat} (hF : Fxl a v) (h0v : v.v0 = .string s) (h3v : v.v3 = .int .i64 (n : Int)) (h0 : ¬ (n : Int) > 20) (hs : s.size ≤ 9223372036854775807) (hQ : ∀ a', Fxl a' v → a'.tmps.getD 41 undef = .bool (decide ((s.size : Int) < 4 + n + 24)) → K a' wq) :
    Code.wp Tryz.prog c (Exit.then K fun _ _ _ => False) a wq := by
  have HQ := hide hQ
  clear hQ
  obtain ⟨v0, v2, v3, v4, v5, v6, v7, v8, v9, v10⟩ := v
  simp only at h0v h3v HQ
  subst h0v h3v
  obtain ⟨u, rfl⟩ := frx_xl hF
  clear hF
  simp only [Tryz.f25, Option.getD_some, regOf] at hc
  injection hc with hc
  subst hc
  go_wp2
  exact HQ.out _ ⟨rfl, rfl, rfl, rfl, rfl, rfl, rfl, rfl, rfl, rfl, rfl, rfl⟩ (by first | rfl | (simp; done))
theorem xl_r7a {K : Act → World → Prop} {c : Code} (hc : regOf (Tryz.f25.body.getD .skip) 7 = some c) (a : Act) {v : Vxl} {wq : World} {er : Int} (hF : Fxl a v) (h5v : v.v5 = .int .i64 er) (h0 : er ≠ 0) (hQ : ∀ a', Fxl a' v → a'.tmps.getD 59 undef = .bool true → K a' wq) :
    Code.wp Tryz.prog c (Exit.then K fun _ _ _ => False) a wq := by
  have HQ := hide hQ
  clear hQ
  obtain ⟨v0, v2, v3, v4, v5, v6, v7, v8, v9, v10⟩ := v
  simp only at h5v HQ
  subst h5v
  obtain ⟨u, rfl⟩ := frx_xl hF
  clear hF
  simp only [Tryz.f25, Option.getD_some, regOf] at hc
  injection hc with hc
  subst hc
  go_wp2
  exact HQ.out _ ⟨rfl, rfl, rfl, rfl, rfl, rfl, rfl, rfl, rfl, rfl, rfl, rfl⟩ (by first | rfl | (simp; done))
theorem xl_r7b {K : Act → World → Prop} {c : Code} (hc : regOf (Tryz.f25.body.getD .skip) 7 = some c) (a : Act) {v : Vxl} {wq : World} {g cp : Nat} {ct : Int} (hF : Fxl a v) (h4v : v.v4 = .slice (some ⟨g, 0, none⟩) 4 cp) (h5v : v.v5 = .int .i64 0) (hB : wq.cell? ⟨g, 10, none⟩ = some (.int .u64 ct)) (hQ : ∀ a', Fxl a' v → a'.tmps.getD 59 undef = .bool (decide (ct > 333)) → K a' wq) :
    Code.wp Tryz.prog c (Exit.then K fun _ _ _ => False) a wq := by
  have HQ := hide hQ
  clear hQ
  obtain ⟨v0, v2, v3, v4, v5, v6, v7, v8, v9, v10⟩ := v
  simp only at h4v h5v HQ
  subst h4v h5v
  obtain ⟨u, rfl⟩ := frx_xl hF
  clear hF
  simp only [Tryz.f25, Option.getD_some, regOf] at hc
  injection hc with hc
  subst hc
  go_wp2
  exact HQ.out _ ⟨rfl, rfl, rfl, rfl, rfl, rfl, rfl, rfl, rfl, rfl, rfl, rfl⟩ (by first | rfl | (simp; done))
theorem xl_r6 {K : Act → World → Prop} {c : Code} (hc : regOf (Tryz.f25.body.getD .skip) 6 = some c) (a : Act) {v : Vxl} {wq : World} {s : ByteArray} {n n4 : Nat} {er : Int} {R : Option Addr → Nat → World → Prop} (hF : Fxl a v) (h0v : v.v0 = .string s) (h3v : v.v3 = .int .i64 (n : Int)) (hn : n ≤ 20) (hs : s.size ≤ 9223372036854775807) (hz : (4 : Int) + n + 24 ≤ s.size) (hE : Calls Tryz.prog 51 #[.string ⟨#[116, 108, 108, 108]⟩, .string (s.extract 0 ((4 : Int) + n + 24).toNat)] wq fun e w' => ∃ ao cp, e = .returned (.tuple #[.slice ao n4 cp, .int .i64 er]) ∧ R ao cp w')
    (hQ : ∀ a' w1 ao cp, Fxl a' { v with v4 := .slice ao n4 cp, v5 := .int .i64 er } → R ao cp w1 → K a' w1) :
    Code.wp Tryz.prog c (Exit.then K fun _ _ _ => False) a wq := by
  have HQ := hide hQ
  clear hQ
  obtain ⟨v0, v2, v3, v4, v5, v6, v7, v8, v9, v10⟩ := v
  simp only at h0v h3v HQ
  subst h0v h3v
  obtain ⟨u, rfl⟩ := frx_xl hF
  clear hF
  simp only [Tryz.f25, Option.getD_some, regOf] at hc
  injection hc with hc
  subst hc
  have HE := hide hE
  clear hE
  have g0 : (0 : Int) ≤ 4 + n + 24 := by omega
  go_wp2_with (go_at_call 51; refine HE.out.mono ?_; rintro e w1 ⟨ao, cp, rfl, r1⟩; have R1 := hide r1; clear r1)
  exact HQ.out _ _ _ _ ⟨rfl, rfl, rfl, rfl, rfl, rfl, rfl, rfl, rfl, rfl, rfl, rfl⟩ R1.out
theorem xl_r9 {K : Act → World → Prop} {c : Code} (hc : regOf (Tryz.f25.body.getD .skip) 9 = some c) (a : Act) {v : Vxl} {wq : World} {g cp : Nat} {ct : Int} (hF : Fxl a v) (h4v : v.v4 = .slice (some ⟨g, 0, none⟩) 4 cp) (hB : wq.cell? ⟨g, 10, none⟩ = some (.int .u64 ct)) (hQ : ∀ a', Fxl a' { v with v6 := .int .i64 (wrap64 ct) } → K a' wq) :
    Code.wp Tryz.prog c (Exit.then K fun _ _ _ => False) a wq := by
  have HQ := hide hQ
  clear hQ
  obtain ⟨v0, v2, v3, v4, v5, v6, v7, v8, v9, v10⟩ := v
  simp only at h4v HQ
  subst h4v
  obtain ⟨u, rfl⟩ := frx_xl hF
  clear hF
  simp only [Tryz.f25, Option.getD_some, regOf] at hc
  injection hc with hc
  subst hc
  go_wp2
  exact HQ.out _ ⟨rfl, rfl, rfl, rfl, rfl, rfl, rfl, rfl, rfl, rfl, rfl, rfl⟩
theorem xl_r10 {K : Act → World → Prop} {c : Code} (hc : regOf (Tryz.f25.body.getD .skip) 10 = some c) (a : Act) {v : Vxl} {wq : World} {s : ByteArray} {n : Nat} {n7 : Nat} {er : Int} {R : Option Addr → Nat → World → Prop} (hF : Fxl a v) (h0v : v.v0 = .string s) (h6v : v.v6 = .int .i64 (n : Int)) (hn : n ≤ 1000) (hE : Calls Tryz.prog 51 #[.string (shapeS n), .string s] wq fun e w' => ∃ ao cp, e = .returned (.tuple #[.slice ao n7 cp, .int .i64 er]) ∧ R ao cp w')
    (hQ : ∀ a' w1 ao cp, Fxl a' { v with v7 := .slice ao n7 cp, v8 := .int .i64 er } → R ao cp w1 → K a' w1) :
    Code.wp Tryz.prog c (Exit.then K fun _ _ _ => False) a wq := by
  have HQ := hide hQ
  clear hQ
  obtain ⟨v0, v2, v3, v4, v5, v6, v7, v8, v9, v10⟩ := v
  simp only at h0v h6v HQ
  subst h0v h6v
  obtain ⟨u, rfl⟩ := frx_xl hF
  clear hF
  simp only [Tryz.f25, Option.getD_some, regOf] at hc
  injection hc with hc
  subst hc
  have HP : Hid (Calls Tryz.prog 52 #[.string ⟨#[116, 108, 108]⟩, .int .i64 (n : Int)] wq fun e w' => e = .returned (.string ⟨(Lib.repeatL [116, 108, 108] n).toArray⟩) ∧ w' = wq) := xrepeat ⟨#[116, 108, 108]⟩ n (by decide) hn wq
  rw [← xshape n] at hE
  have hz : (⟨(Lib.repeatL [116, 108, 108] n).toArray⟩ : ByteArray).size = 3 * n := by
    show (Lib.repeatL [116, 108, 108] n).toArray.size = _
    rw [List.size_toArray, Lib.repeatL_length]
    simp
    omega
  have HE := hide hE
  clear hE
  generalize (⟨(Lib.repeatL [116, 108, 108] n).toArray⟩ : ByteArray) = B at *
  go_wp2_with (go_at_call 52; refine HP.out.mono ?_; rintro e w1 ⟨rfl, rfl⟩)
  go_wp2_with (go_at_call 51; refine HE.out.mono ?_; rintro e w1 ⟨ao, cp, rfl, r1⟩; have R1 := hide r1; clear r1)
  exact HQ.out _ _ _ _ ⟨rfl, rfl, rfl, rfl, rfl, rfl, rfl, rfl, rfl, rfl, rfl, rfl⟩ R1.out
theorem xl_r11 {K : Act → World → Prop} {c : Code} (hc : regOf (Tryz.f25.body.getD .skip) 11 = some c) (a : Act) {v : Vxl} {wq : World} {er : Int} (hF : Fxl a v) (h8v : v.v8 = .int .i64 er) (hQ : ∀ a', Fxl a' v → a'.tmps.getD 75 undef = .bool (er != 0) → K a' wq) :
    Code.wp Tryz.prog c (Exit.then K fun _ _ _ => False) a wq := by
  have HQ := hide hQ
  clear hQ
  obtain ⟨v0, v2, v3, v4, v5, v6, v7, v8, v9, v10⟩ := v
  simp only at h8v HQ
  subst h8v
  obtain ⟨u, rfl⟩ := frx_xl hF
  clear hF
  simp only [Tryz.f25, Option.getD_some, regOf] at hc
  injection hc with hc
  subst hc
  go_wp2
  exact HQ.out _ ⟨rfl, rfl, rfl, rfl, rfl, rfl, rfl, rfl, rfl, rfl, rfl, rfl⟩ (by first | rfl | (simp; done))
theorem xl_r13 {K : Act → World → Prop} {c : Code} (hc : regOf (Tryz.f25.body.getD .skip) 13 = some c) (a : Act) {v : Vxl} {wq : World} {ro : Option Addr} {rn rc : Nat} {n : Int} {ok : Bool} {R : Option Addr → World → Prop} (hF : Fxl a v) (h7v : v.v7 = .slice ro rn rc) (h6v : v.v6 = .int .i64 n) (hE : Calls Tryz.prog 53 #[.slice ro rn rc, .int .i64 n] wq fun e w' => ∃ po, e = .returned (.tuple #[.pointer po, .bool ok]) ∧ R po w')
    (hQ : ∀ a' w1 po, Fxl a' { v with v9 := .pointer po, v10 := .bool ok } → R po w1 → K a' w1) :
    Code.wp Tryz.prog c (Exit.then K fun _ _ _ => False) a wq := by
  have HQ := hide hQ
  clear hQ
  obtain ⟨v0, v2, v3, v4, v5, v6, v7, v8, v9, v10⟩ := v
  simp only at h7v h6v HQ
  subst h7v h6v
  obtain ⟨u, rfl⟩ := frx_xl hF
  clear hF
  simp only [Tryz.f25, Option.getD_some, regOf] at hc
  injection hc with hc
  subst hc
  have HE := hide hE
  clear hE
  go_wp2_with (go_at_call 53; refine HE.out.mono ?_; rintro e w1 ⟨po, rfl, r1⟩; have R1 := hide r1; clear r1)
  exact HQ.out _ _ _ ⟨rfl, rfl, rfl, rfl, rfl, rfl, rfl, rfl, rfl, rfl, rfl, rfl⟩ R1.out
theorem xl_r14 {K : Act → World → Prop} {c : Code} (hc : regOf (Tryz.f25.body.getD .skip) 14 = some c) (a : Act) {v : Vxl} {wq : World} {b : Bool} (hF : Fxl a v) (h10v : v.v10 = .bool b) (hQ : ∀ a', Fxl a' v → a'.tmps.getD 83 undef = .bool (!b) → K a' wq) :
    Code.wp Tryz.prog c (Exit.then K fun _ _ _ => False) a wq := by
  have HQ := hide hQ
  clear hQ
  obtain ⟨v0, v2, v3, v4, v5, v6, v7, v8, v9, v10⟩ := v
  simp only at h10v HQ
  subst h10v
  obtain ⟨u, rfl⟩ := frx_xl hF
  clear hF
  simp only [Tryz.f25, Option.getD_some, regOf] at hc
  injection hc with hc
  subst hc
  go_wp2
  exact HQ.out _ ⟨rfl, rfl, rfl, rfl, rfl, rfl, rfl, rfl, rfl, rfl, rfl, rfl⟩ (by first | rfl | (simp; done))
theorem xl_r16 {K : Act → World → Prop} {c : Code} (hc : regOf (Tryz.f25.body.getD .skip) 16 = some c) (a : Act) {v : Vxl} {wq : World}  (hF : Fxl a v) (hQ : ∀ a', Fxl a' { v with v2 := v.v9 } → K a' wq) :
    Code.wp Tryz.prog c (Exit.then K fun _ _ _ => False) a wq := by
  have HQ := hide hQ
  clear hQ
  obtain ⟨v0, v2, v3, v4, v5, v6, v7, v8, v9, v10⟩ := v
  obtain ⟨u, rfl⟩ := frx_xl hF
  clear hF
  simp only [Tryz.f25, Option.getD_some, regOf] at hc
  injection hc with hc
  subst hc
  go_wp2
  exact HQ.out _ ⟨rfl, rfl, rfl, rfl, rfl, rfl, rfl, rfl, rfl, rfl, rfl, rfl⟩
theorem xl_ret {W : World} {a : Act} {v : Vxl} {x : Option Addr} {R : Ending → World → Prop} (hF : Fxl a v) (h2 : v.v2 = .pointer x) (h : R (.returned (.pointer x)) W) : bodyPost Tryz.prog Tryz.f25 R .ret a W := by
  have g0 := slot_get (hF.s2.trans h2)
  refine bodyPost_ret (v := .pointer x) ?_ hF.defers h
  simp [results, Tryz.results25, go_sem, g0]
end Go.Proofs.YtfoomgdlbkjaeaaGreat.Y
namespace Go.Proofs.YtfoomgdlbkjaeaaGreat.Y
open Go.RowKit
set_option linter.unusedSimpArgs false
set_option linter.unusedVariables false
open Go.Maps
theorem dec_four (a b c d : UInt8) : K.decF [119] [a, b, c, d] = ([⟨2, ((a.toNat * 16777216 + b.toNat * 65536 + c.toNat * 256 + d.toNat : Nat) : Int), ⟨#[]⟩⟩], 0) := by
  have h1 : K.shapeOk [119] = true := by decide
  have h2 : K.cutStar [119] = ([119], [], false) := K.cutStar_letters _ (by decide)
  have h3 : K.itemF 119 [a, b, c, d] = (⟨2, (Lib.beNat [a, b, c, d] : Int), ⟨#[]⟩⟩, [], 0) := by
    unfold K.itemF
    have k1 : K.kindOfL 119 = 2 := by decide
    have k2 : K.widthN 2 = 4 := by decide
    rw [k1, k2]
    rfl
  have h4 : Lib.beNat [a, b, c, d] = a.toNat * 16777216 + b.toNat * 65536 + c.toNat * 256 + d.toNat := by
    unfold Lib.beNat
    simp only [Lib.beFrom]
    omega
  unfold K.decF
  rw [if_pos h1, h2]
  show K.readF (9 + 1) [] 0 [119] [a, b, c, d] = _
  rw [K.readF, if_neg (by decide), h3]
  simp only
  rw [if_pos trivial]
  have h5 : K.readF 9 [] 1 [] [] = ([], 0) := by rw [K.readF, if_pos rfl]
  rw [h5, h4]
  rfl
theorem take_four (s : ByteArray) (m0 : 0 < s.size) (m1 : 1 < s.size) (m2 : 2 < s.size) (m3 : 3 < s.size) : s.data.toList.take 4 = [s[0], s[1], s[2], s[3]] := by
  have hl : s.data.toList.length = s.size := by simp
  apply List.ext_getElem
  · rw [List.length_take, hl]
    simp
    omega
  · intro i h1 h2
    simp only [List.length_cons, List.length_nil] at h2
    rcases (by omega : i = 0 ∨ i = 1 ∨ i = 2 ∨ i = 3) with rfl | rfl | rfl | rfl <;> simp <;> rfl
theorem headW_num (s : ByteArray) (m0 : 0 < s.size) (m1 : 1 < s.size) (m2 : 2 < s.size) (m3 : 3 < s.size) : headW s = ([⟨2, ((s[0].toNat * 16777216 + s[1].toNat * 65536 + s[2].toNat * 256 + s[3].toNat : Nat) : Int), ⟨#[]⟩⟩], 0) := by
  unfold headW
  rw [take_four s m0 m1 m2 m3]
  exact dec_four _ _ _ _
end Go.Proofs.YtfoomgdlbkjaeaaGreat.Y
namespace Go.Proofs.YtfoomgdlbkjaeaaGreat.K
open Go.RowKit
set_option maxHeartbeats 400000
def rwF (k : Int) : Int := if k = 1 then 1 else if k = 2 then 4 else if k = 3 then 8 else 0
theorem rwidth_any (k : Int) (w : World) :
    Calls Tryz.prog 102 #[.int .i64 k] w fun e w' => e = .returned (.int .i64 (rwF k)) ∧ w' = w := by
  by_cases h1 : k = 1
  · subst h1
    go_enter Tryz.func102, Tryz.ntmps102
    go_wp2
    go_ret
    exact ⟨rfl, rfl⟩
  · by_cases h2 : k = 2
    · subst h2
      go_enter Tryz.func102, Tryz.ntmps102
      go_wp2
      go_ret
      exact ⟨rfl, rfl⟩
    · by_cases h3 : k = 3
      · subst h3
        go_enter Tryz.func102, Tryz.ntmps102
        go_wp2
        go_ret
        exact ⟨rfl, rfl⟩
      · have a1 : (k == 1) = false := beq_eq_false_iff_ne.2 h1
        have a2 : (k == 2) = false := beq_eq_false_iff_ne.2 h2
        have a3 : (k == 3) = false := beq_eq_false_iff_ne.2 h3
        have hw : rwF k = 0 := by simp [rwF, h1, h2, h3]
        rw [hw]
        clear hw h1 h2 h3
        go_enter Tryz.func102, Tryz.ntmps102
        go_wp2
        go_ret
        exact ⟨rfl, rfl⟩
end Go.Proofs.YtfoomgdlbkjaeaaGreat.K
