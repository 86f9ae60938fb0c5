/-
  take, as it runs (mkst.py).
-/
import Derived.Test.YtlfodldlkchmoaaGreatZSO
import Derived.Test.YtlfodldlkchmoaaGreatZSM
namespace Go.Proofs.YtlfodldlkchmoaaGreat.Y
open Go.RowKit
set_option maxHeartbeats 8000000
set_option maxRecDepth 100000
attribute [local go_sem ↓] Go.wp_at_zero Go.wp_at_succ
set_option linter.unusedSimpArgs false
set_option linter.unusedVariables false
theorem frame_tk (t : Array Value) (h : t.size = 35) : ∃ u : Nat → Value, t = List.toArray (u 0 :: u 1 :: u 2 :: u 3 :: u 4 :: u 5 :: u 6 :: u 7 :: u 8 :: u 9 :: u 10 :: u 11 :: u 12 :: u 13 :: u 14 :: u 15 :: u 16 :: u 17 :: u 18 :: u 19 :: u 20 :: u 21 :: u 22 :: u 23 :: u 24 :: u 25 :: u 26 :: u 27 :: u 28 :: u 29 :: u 30 :: u 31 :: u 32 :: u 33 :: u 34 :: []) := by
  refine ⟨fun i => t.getD i undef, ?_⟩
  refine Eq.trans (b := ((List.range 35).map fun i => t.getD i undef).toArray) ?_ rfl
  apply Array.ext
  · simp [h]
  · intro k h1 h2
    simp [Array.getD, h1]
structure Vtk where
  v0 : Value
  v1 : Value
  v2 : Value
  v3 : Value
  v5 : Value
  v8 : Value
  v9 : Value
  v10 : Value
  v11 : Value
  v12 : Value
  v13 : Value
  v14 : Value
structure Ftk (a : Act) (v : Vtk) : Prop where
  size : a.tmps.size = 35
  defers : a.defers = []
  s0 : a.tmps.getD 0 undef = v.v0
  s1 : a.tmps.getD 1 undef = v.v1
  s2 : a.tmps.getD 2 undef = v.v2
  s3 : a.tmps.getD 3 undef = v.v3
  s5 : a.tmps.getD 5 undef = v.v5
  s8 : a.tmps.getD 8 undef = v.v8
  s9 : a.tmps.getD 9 undef = v.v9
  s10 : a.tmps.getD 10 undef = v.v10
  s11 : a.tmps.getD 11 undef = v.v11
  s12 : a.tmps.getD 12 undef = v.v12
  s13 : a.tmps.getD 13 undef = v.v13
  s14 : a.tmps.getD 14 undef = v.v14
theorem frx_tk {a : Act} {v0 v1 v2 v3 v5 v8 v9 v10 v11 v12 v13 v14 : Value} (h : Ftk a ⟨v0, v1, v2, v3, v5, v8, v9, v10, v11, v12, v13, v14⟩) : ∃ u : Nat → Value, a = ⟨List.toArray (v0 :: v1 :: v2 :: v3 :: u 4 :: v5 :: u 6 :: u 7 :: v8 :: v9 :: v10 :: v11 :: v12 :: v13 :: v14 :: u 15 :: u 16 :: u 17 :: u 18 :: u 19 :: u 20 :: u 21 :: u 22 :: u 23 :: u 24 :: u 25 :: u 26 :: u 27 :: u 28 :: u 29 :: u 30 :: u 31 :: u 32 :: u 33 :: u 34 :: []), []⟩ := by
  obtain ⟨t', d'⟩ := a
  obtain ⟨hs, hd, q0, q1, q2, q3, q5, q8, q9, q10, q11, q12, q13, q14⟩ := h
  obtain ⟨u, hu⟩ := frame_tk t' hs
  simp only at hd q0 q1 q2 q3 q5 q8 q9 q10 q11 q12 q13 q14
  subst hu hd
  have e0 : u 0 = v0 := q0
  have e1 : u 1 = v1 := q1
  have e2 : u 2 = v2 := q2
  have e3 : u 3 = v3 := q3
  have e5 : u 5 = v5 := q5
  have e8 : u 8 = v8 := q8
  have e9 : u 9 = v9 := q9
  have e10 : u 10 = v10 := q10
  have e11 : u 11 = v11 := q11
  have e12 : u 12 = v12 := q12
  have e13 : u 13 = v13 := q13
  have e14 : u 14 = v14 := q14
  refine ⟨u, ?_⟩
  rw [e0, e1, e2, e3, e5, e8, e9, e10, e11, e12, e13, e14]
theorem tk_r0 {K : Act → World → Prop} {c : Code} (hc : regOf (Tryz.f134.body.getD .skip) 0 = some c) (a : Act) {v : Vtk} {wq : World} {xn xt : ByteArray} {xc xx : Int} (hF : Ftk a v) (h1v : v.v1 = .agg #[.string xn, .string xt, .int .i64 xc, .int .i64 xx]) (hQ : ∀ a', Ftk a' { v with v5 := .pointer (some ⟨wq.heap.size, 0, none⟩), v8 := .pointer (some ⟨wq.heap.size + 1, 0, none⟩), v9 := .slice none 0 0, v10 := .int .i64 0 } → K a' ((wq.alloc (.cells #[.string xn, .string xt, .int .i64 xc, .int .i64 xx] 91)).alloc (.cells #[.string ⟨#[]⟩, .string ⟨#[]⟩, .int .i64 0, .int .i64 0] 91))) :
    Code.wp Tryz.prog c (Exit.then K fun _ _ _ => False) a wq := by
  have HQ := hide hQ
  clear hQ
  obtain ⟨v0, v1, v2, v3, v5, v8, v9, v10, v11, v12, v13, v14⟩ := v
  simp only at h1v HQ
  subst h1v
  obtain ⟨u, rfl⟩ := frx_tk hF
  clear hF
  simp only [Tryz.f134, Option.getD_some, regOf] at hc
  injection hc with hc
  subst hc
  go_wp2
  exact HQ.out _ ⟨rfl, rfl, rfl, rfl, rfl, rfl, rfl, rfl, rfl, rfl, rfl, rfl, rfl, rfl⟩
theorem tk_r1 {K : Act → World → Prop} {c : Code} (hc : regOf (Tryz.f134.body.getD .skip) 1 = some c) (a : Act) {v : Vtk} {wq : World} {sb : Nat} {xn xt : ByteArray} {xc xx : Int} (hF : Ftk a v) (h5v : v.v5 = .pointer (some ⟨sb, 0, none⟩)) (hS : wq.heap[sb]? = some (.cells #[.string xn, .string xt, .int .i64 xc, .int .i64 xx] 91 (0, 0))) (hk : SB.ok ⟨xn, xt, xc, xx⟩)
    (hQ : ∀ a' w1, Ftk a' { v with v11 := .pointer (some ⟨w1.heap.size, 0, none⟩) } → Below wq.heap.size wq w1 → K a' (w1.alloc (.cells #[.string xn, .string xt, .int .i64 xc, .int .i64 xx] 190))) :
    Code.wp Tryz.prog c (Exit.then K fun _ _ _ => False) a wq := by
  have HQ := hide hQ
  clear hQ
  obtain ⟨v0, v1, v2, v3, v5, v8, v9, v10, v11, v12, v13, v14⟩ := v
  simp only at h5v HQ
  subst h5v
  obtain ⟨u, rfl⟩ := frx_tk hF
  clear hF
  simp only [Tryz.f134, Option.getD_some, regOf] at hc
  injection hc with hc
  subst hc
  obtain ⟨⟨c0, c1, c2, c3⟩, _⟩ := box4 hS
  have HE := hide (fun W => sown ⟨xn, xt, xc, xx⟩ hk W)
  simp only [SB.v] at HE
  clear hS hk
  go_wp2_with (go_at_call 133; refine (HE.out _).mono ?_; rintro e w1 ⟨rfl, b1⟩; have B1 := hide b1; clear b1)
  exact HQ.out _ _ ⟨rfl, rfl, rfl, rfl, rfl, rfl, rfl, rfl, rfl, rfl, rfl, rfl, rfl, rfl⟩ B1.out
theorem tk_r2 {K : Act → World → Prop} {c : Code} (hc : regOf (Tryz.f134.body.getD .skip) 2 = some c) (a : Act) {v : Vtk} {wq : World} {sb : Nat} {xn xt : ByteArray} {xc xx : Int} (hF : Ftk a v) (h11v : v.v11 = .pointer (some ⟨sb, 0, none⟩)) (hS : wq.heap[sb]? = some (.cells #[.string xn, .string xt, .int .i64 xc, .int .i64 xx] 190 (0, 0))) (hk : SB.ok ⟨xn, xt, xc, xx⟩)
    (hQ : ∀ a' w1, Ftk a' v → a'.tmps.getD 19 undef = .bool (!(SB.right ⟨xn, xt, xc, xx⟩)) → Below wq.heap.size wq w1 → K a' w1) :
    Code.wp Tryz.prog c (Exit.then K fun _ _ _ => False) a wq := by
  have HQ := hide hQ
  clear hQ
  obtain ⟨v0, v1, v2, v3, v5, v8, v9, v10, v11, v12, v13, v14⟩ := v
  simp only at h11v HQ
  subst h11v
  obtain ⟨u, rfl⟩ := frx_tk hF
  clear hF
  simp only [Tryz.f134, Option.getD_some, regOf] at hc
  injection hc with hc
  subst hc
  obtain ⟨⟨c0, c1, c2, c3⟩, _⟩ := box4 hS
  have HE := hide (fun W => sright ⟨xn, xt, xc, xx⟩ hk W)
  simp only [SB.v] at HE
  clear hS hk
  generalize SB.right ⟨xn, xt, xc, xx⟩ = rr at *
  go_wp2_with (go_at_call 165; refine (HE.out _).mono ?_; rintro e w1 ⟨rfl, b1⟩; have B1 := hide b1; clear b1)
  exact HQ.out _ _ ⟨rfl, rfl, rfl, rfl, rfl, rfl, rfl, rfl, rfl, rfl, rfl, rfl, rfl, rfl⟩ (by first | rfl | (simp; done)) B1.out
theorem tk_r3 {K : Act → World → Prop} {c : Code} (hc : regOf (Tryz.f134.body.getD .skip) 3 = some c) (a : Act) {v : Vtk} {wq : World} {sb rb : Nat} {xn xt : ByteArray} {xc xx : Int} (hF : Ftk a v) (h11v : v.v11 = .pointer (some ⟨sb, 0, none⟩)) (h8v : v.v8 = .pointer (some ⟨rb, 0, none⟩)) (hS : wq.heap[sb]? = some (.cells #[.string xn, .string xt, .int .i64 xc, .int .i64 xx] 190 (0, 0))) (hR : wq.heap[rb]? = some (.cells #[.string ⟨#[]⟩, .string ⟨#[]⟩, .int .i64 0, .int .i64 0] 91 (0, 0)))
    (hQ : ∀ a', Ftk a' { v with v9 := .slice none 0 0, v10 := .int .i64 7 } → K a' (set4 wq rb (.string xn) (.string xt) (.int .i64 xc) (.int .i64 xx))) :
    Code.wp Tryz.prog c (Exit.then K fun _ _ _ => False) a wq := by
  have HQ := hide hQ
  clear hQ
  obtain ⟨v0, v1, v2, v3, v5, v8, v9, v10, v11, v12, v13, v14⟩ := v
  simp only at h11v h8v HQ
  subst h11v h8v
  obtain ⟨u, rfl⟩ := frx_tk hF
  clear hF
  simp only [Tryz.f134, Option.getD_some, regOf] at hc
  injection hc with hc
  subst hc
  obtain ⟨⟨c0, c1, c2, c3⟩, _⟩ := box4 hS
  obtain ⟨⟨d0, d1, d2, d3⟩, f0, f1, f2, f3⟩ := box4 hR
  unfold set4 at HQ
  clear hS hR
  go_wp2
  exact HQ.out _ ⟨rfl, rfl, rfl, rfl, rfl, rfl, rfl, rfl, rfl, rfl, rfl, rfl, rfl, rfl⟩
theorem tk_r6 {K : Act → World → Prop} {c : Code} (hc : regOf (Tryz.f134.body.getD .skip) 6 = some c) (a : Act) {v : Vtk} {wq : World} {sb rb : Nat} {xn xt : ByteArray} {xc xx : Int} (hF : Ftk a v) (h11v : v.v11 = .pointer (some ⟨sb, 0, none⟩)) (h8v : v.v8 = .pointer (some ⟨rb, 0, none⟩)) (hS : wq.heap[sb]? = some (.cells #[.string xn, .string xt, .int .i64 xc, .int .i64 xx] 190 (0, 0))) (hR : wq.heap[rb]? = some (.cells #[.string ⟨#[]⟩, .string ⟨#[]⟩, .int .i64 0, .int .i64 0] 91 (0, 0)))
    (hQ : ∀ a', Ftk a' { v with v9 := .slice none 0 0, v10 := .int .i64 7 } → K a' (set4 wq rb (.string xn) (.string xt) (.int .i64 xc) (.int .i64 xx))) :
    Code.wp Tryz.prog c (Exit.then K fun _ _ _ => False) a wq := by
  have HQ := hide hQ
  clear hQ
  obtain ⟨v0, v1, v2, v3, v5, v8, v9, v10, v11, v12, v13, v14⟩ := v
  simp only at h11v h8v HQ
  subst h11v h8v
  obtain ⟨u, rfl⟩ := frx_tk hF
  clear hF
  simp only [Tryz.f134, Option.getD_some, regOf] at hc
  injection hc with hc
  subst hc
  obtain ⟨⟨c0, c1, c2, c3⟩, _⟩ := box4 hS
  obtain ⟨⟨d0, d1, d2, d3⟩, f0, f1, f2, f3⟩ := box4 hR
  unfold set4 at HQ
  clear hS hR
  go_wp2
  exact HQ.out _ ⟨rfl, rfl, rfl, rfl, rfl, rfl, rfl, rfl, rfl, rfl, rfl, rfl, rfl, rfl⟩
theorem tk_r7 {K : Act → World → Prop} {c : Code} (hc : regOf (Tryz.f134.body.getD .skip) 7 = some c) (a : Act) {v : Vtk} {wq : World} {sb rb : Nat} {xn xt : ByteArray} {xc xx : Int} {ao : Option Addr} {ln cp : Nat} (hF : Ftk a v) (h12v : v.v12 = .pointer (some ⟨sb, 0, none⟩)) (h8v : v.v8 = .pointer (some ⟨rb, 0, none⟩)) (h13v : v.v13 = .slice ao ln cp) (hS : wq.heap[sb]? = some (.cells #[.string xn, .string xt, .int .i64 xc, .int .i64 xx] 190 (0, 0))) (hR : wq.heap[rb]? = some (.cells #[.string ⟨#[]⟩, .string ⟨#[]⟩, .int .i64 0, .int .i64 0] 91 (0, 0)))
    (hQ : ∀ a', Ftk a' { v with v9 := .slice ao ln cp, v10 := .int .i64 0 } → K a' (set4 wq rb (.string xn) (.string xt) (.int .i64 xc) (.int .i64 xx))) :
    Code.wp Tryz.prog c (Exit.then K fun _ _ _ => False) a wq := by
  have HQ := hide hQ
  clear hQ
  obtain ⟨v0, v1, v2, v3, v5, v8, v9, v10, v11, v12, v13, v14⟩ := v
  simp only at h12v h8v h13v HQ
  subst h12v h8v h13v
  obtain ⟨u, rfl⟩ := frx_tk hF
  clear hF
  simp only [Tryz.f134, Option.getD_some, regOf] at hc
  injection hc with hc
  subst hc
  obtain ⟨⟨c0, c1, c2, c3⟩, _⟩ := box4 hS
  obtain ⟨⟨d0, d1, d2, d3⟩, f0, f1, f2, f3⟩ := box4 hR
  unfold set4 at HQ
  clear hS hR
  go_wp2
  exact HQ.out _ ⟨rfl, rfl, rfl, rfl, rfl, rfl, rfl, rfl, rfl, rfl, rfl, rfl, rfl, rfl⟩
theorem tk_r4poll {K : Act → World → Prop} {c : Code} (hc : regOf (Tryz.f134.body.getD .skip) 4 = some c) (a : Act) {v : Vtk} {wq : World} {sb : Nat} {xn xt yn yt : ByteArray} {xc xx yc yx n : Int} {tp : Option Addr} {ok : Bool} {R : Option Addr → Nat → Nat → World → Prop} (hF : Ftk a v) (h0v : v.v0 = .func (.func 135) #[] #[]) (h2v : v.v2 = .pointer tp) (h3v : v.v3 = .int .i64 n) (h11v : v.v11 = .pointer (some ⟨sb, 0, none⟩)) (hS : wq.heap[sb]? = some (.cells #[.string xn, .string xt, .int .i64 xc, .int .i64 xx] 190 (0, 0))) (hE : Calls Tryz.prog 135 #[.agg #[.string xn, .string xt, .int .i64 xc, .int .i64 xx], .pointer tp, .int .i64 n] wq fun e w' => ∃ ao ln cp, e = .returned (.tuple #[.agg #[.string yn, .string yt, .int .i64 yc, .int .i64 yx], .slice ao ln cp, .bool ok]) ∧ Below wq.heap.size wq w' ∧ R ao ln cp w')
    (hQ : ∀ a' w1 ao ln cp, Ftk a' { v with v12 := .pointer (some ⟨w1.heap.size, 0, none⟩), v13 := .slice ao ln cp, v14 := .bool ok } → Below wq.heap.size wq w1 → R ao ln cp w1 → K a' (w1.alloc (.cells #[.string yn, .string yt, .int .i64 yc, .int .i64 yx] 190))) :
    Code.wp Tryz.prog c (Exit.then K fun _ _ _ => False) a wq := by
  have HQ := hide hQ
  clear hQ
  obtain ⟨v0, v1, v2, v3, v5, v8, v9, v10, v11, v12, v13, v14⟩ := v
  simp only at h0v h2v h3v h11v HQ
  subst h0v h2v h3v h11v
  obtain ⟨u, rfl⟩ := frx_tk hF
  clear hF
  simp only [Tryz.f134, Option.getD_some, regOf] at hc
  injection hc with hc
  subst hc
  obtain ⟨⟨c0, c1, c2, c3⟩, _⟩ := box4 hS
  have HE := hide hE
  clear hS hE
  go_wp2_with (go_at_call 135; refine HE.out.mono ?_; rintro e w1 ⟨ao, ln, cp, rfl, b1, r1⟩; have B1 := hide b1; have R1 := hide r1; clear b1 r1)
  exact HQ.out _ _ _ _ _ ⟨rfl, rfl, rfl, rfl, rfl, rfl, rfl, rfl, rfl, rfl, rfl, rfl, rfl, rfl⟩ B1.out R1.out
theorem tk_r4ack {K : Act → World → Prop} {c : Code} (hc : regOf (Tryz.f134.body.getD .skip) 4 = some c) (a : Act) {v : Vtk} {wq : World} {sb : Nat} {xn xt yn yt : ByteArray} {xc xx yc yx n : Int} {tp : Option Addr} {ok : Bool} {R : Option Addr → Nat → Nat → World → Prop} (hF : Ftk a v) (h0v : v.v0 = .func (.func 136) #[] #[]) (h2v : v.v2 = .pointer tp) (h3v : v.v3 = .int .i64 n) (h11v : v.v11 = .pointer (some ⟨sb, 0, none⟩)) (hS : wq.heap[sb]? = some (.cells #[.string xn, .string xt, .int .i64 xc, .int .i64 xx] 190 (0, 0))) (hE : Calls Tryz.prog 136 #[.agg #[.string xn, .string xt, .int .i64 xc, .int .i64 xx], .pointer tp, .int .i64 n] wq fun e w' => ∃ ao ln cp, e = .returned (.tuple #[.agg #[.string yn, .string yt, .int .i64 yc, .int .i64 yx], .slice ao ln cp, .bool ok]) ∧ Below wq.heap.size wq w' ∧ R ao ln cp w')
    (hQ : ∀ a' w1 ao ln cp, Ftk a' { v with v12 := .pointer (some ⟨w1.heap.size, 0, none⟩), v13 := .slice ao ln cp, v14 := .bool ok } → Below wq.heap.size wq w1 → R ao ln cp w1 → K a' (w1.alloc (.cells #[.string yn, .string yt, .int .i64 yc, .int .i64 yx] 190))) :
    Code.wp Tryz.prog c (Exit.then K fun _ _ _ => False) a wq := by
  have HQ := hide hQ
  clear hQ
  obtain ⟨v0, v1, v2, v3, v5, v8, v9, v10, v11, v12, v13, v14⟩ := v
  simp only at h0v h2v h3v h11v HQ
  subst h0v h2v h3v h11v
  obtain ⟨u, rfl⟩ := frx_tk hF
  clear hF
  simp only [Tryz.f134, Option.getD_some, regOf] at hc
  injection hc with hc
  subst hc
  obtain ⟨⟨c0, c1, c2, c3⟩, _⟩ := box4 hS
  have HE := hide hE
  clear hS hE
  go_wp2_with (go_at_call 136; refine HE.out.mono ?_; rintro e w1 ⟨ao, ln, cp, rfl, b1, r1⟩; have B1 := hide b1; have R1 := hide r1; clear b1 r1)
  exact HQ.out _ _ _ _ _ ⟨rfl, rfl, rfl, rfl, rfl, rfl, rfl, rfl, rfl, rfl, rfl, rfl, rfl, rfl⟩ B1.out R1.out
theorem tk_r4seek {K : Act → World → Prop} {c : Code} (hc : regOf (Tryz.f134.body.getD .skip) 4 = some c) (a : Act) {v : Vtk} {wq : World} {sb : Nat} {xn xt yn yt : ByteArray} {xc xx yc yx n : Int} {tp : Option Addr} {ok : Bool} {R : Option Addr → Nat → Nat → World → Prop} (hF : Ftk a v) (h0v : v.v0 = .func (.func 137) #[] #[]) (h2v : v.v2 = .pointer tp) (h3v : v.v3 = .int .i64 n) (h11v : v.v11 = .pointer (some ⟨sb, 0, none⟩)) (hS : wq.heap[sb]? = some (.cells #[.string xn, .string xt, .int .i64 xc, .int .i64 xx] 190 (0, 0))) (hE : Calls Tryz.prog 137 #[.agg #[.string xn, .string xt, .int .i64 xc, .int .i64 xx], .pointer tp, .int .i64 n] wq fun e w' => ∃ ao ln cp, e = .returned (.tuple #[.agg #[.string yn, .string yt, .int .i64 yc, .int .i64 yx], .slice ao ln cp, .bool ok]) ∧ Below wq.heap.size wq w' ∧ R ao ln cp w')
    (hQ : ∀ a' w1 ao ln cp, Ftk a' { v with v12 := .pointer (some ⟨w1.heap.size, 0, none⟩), v13 := .slice ao ln cp, v14 := .bool ok } → Below wq.heap.size wq w1 → R ao ln cp w1 → K a' (w1.alloc (.cells #[.string yn, .string yt, .int .i64 yc, .int .i64 yx] 190))) :
    Code.wp Tryz.prog c (Exit.then K fun _ _ _ => False) a wq := by
  have HQ := hide hQ
  clear hQ
  obtain ⟨v0, v1, v2, v3, v5, v8, v9, v10, v11, v12, v13, v14⟩ := v
  simp only at h0v h2v h3v h11v HQ
  subst h0v h2v h3v h11v
  obtain ⟨u, rfl⟩ := frx_tk hF
  clear hF
  simp only [Tryz.f134, Option.getD_some, regOf] at hc
  injection hc with hc
  subst hc
  obtain ⟨⟨c0, c1, c2, c3⟩, _⟩ := box4 hS
  have HE := hide hE
  clear hS hE
  go_wp2_with (go_at_call 137; refine HE.out.mono ?_; rintro e w1 ⟨ao, ln, cp, rfl, b1, r1⟩; have B1 := hide b1; have R1 := hide r1; clear b1 r1)
  exact HQ.out _ _ _ _ _ ⟨rfl, rfl, rfl, rfl, rfl, rfl, rfl, rfl, rfl, rfl, rfl, rfl, rfl, rfl⟩ B1.out R1.out
theorem tk_r5 {K : Act → World → Prop} {c : Code} (hc : regOf (Tryz.f134.body.getD .skip) 5 = some c) (a : Act) {v : Vtk} {wq : World} {ok : Bool} (hF : Ftk a v) (h14v : v.v14 = .bool ok) (hQ : ∀ a', Ftk a' v → a'.tmps.getD 31 undef = .bool (!ok) → K a' wq) :
    Code.wp Tryz.prog c (Exit.then K fun _ _ _ => False) a wq := by
  have HQ := hide hQ
  clear hQ
  obtain ⟨v0, v1, v2, v3, v5, v8, v9, v10, v11, v12, v13, v14⟩ := v
  simp only at h14v HQ
  subst h14v
  obtain ⟨u, rfl⟩ := frx_tk hF
  clear hF
  simp only [Tryz.f134, Option.getD_some, regOf] at hc
  injection hc with hc
  subst hc
  go_wp2
  exact HQ.out _ ⟨rfl, rfl, rfl, rfl, rfl, rfl, rfl, rfl, rfl, rfl, rfl, rfl, rfl, rfl⟩ (by first | rfl | (simp; done))
theorem stake_poll {w : World} (S : SB) (hk : S.ok) (tp : Option Addr) (n : Int) (S1 : SB) (ok : Bool) {R : Option Addr → Nat → Nat → World → Prop}
    (hE : S.right = true → ∀ W, Below w.heap.size w W → w.heap.size + 1 < W.heap.size → Calls Tryz.prog 135 #[S.v, .pointer tp, .int .i64 n] W fun e w' => ∃ ao ln cp, e = .returned (.tuple #[S1.v, .slice ao ln cp, .bool ok]) ∧ Below W.heap.size W w' ∧ R ao ln cp w') :
    Calls Tryz.prog 134 #[.func (.func 135) #[] #[], S.v, .pointer tp, .int .i64 n] w fun e w' => Below w.heap.size w w' ∧ ((S.right = true ∧ ok = true ∧ ∃ ao ln cp W, e = .returned (.tuple #[S1.v, .slice ao ln cp, .int .i64 0]) ∧ R ao ln cp W ∧ Touch (fun j => j = w.heap.size + 1) W w' ∧ w.heap.size + 1 < W.heap.size) ∨ ((S.right && ok) = false ∧ e = .returned (.tuple #[S.v, .slice none 0 0, .int .i64 7]))) := by
  obtain ⟨xn, xt, xc, xx⟩ := S
  obtain ⟨yn, yt, yc, yx⟩ := S1
  simp only [SB.v] at *
  have hb1 : Below w.heap.size w ((w.alloc (.cells #[.string xn, .string xt, .int .i64 xc, .int .i64 xx] 91)).alloc (.cells #[.string ⟨#[]⟩, .string ⟨#[]⟩, .int .i64 0, .int .i64 0] 91)) := ((Below.refl w.heap.size w).alloc (Nat.le_refl _) _).alloc (by simp) _
  have x1 : ((w.alloc (.cells #[.string xn, .string xt, .int .i64 xc, .int .i64 xx] 91)).alloc (.cells #[.string ⟨#[]⟩, .string ⟨#[]⟩, .int .i64 0, .int .i64 0] 91)).heap[w.heap.size]? = some (.cells #[.string xn, .string xt, .int .i64 xc, .int .i64 xx] 91 (0, 0)) := box_alloc (heap_alloc_new w _) _
  have x2 : ((w.alloc (.cells #[.string xn, .string xt, .int .i64 xc, .int .i64 xx] 91)).alloc (.cells #[.string ⟨#[]⟩, .string ⟨#[]⟩, .int .i64 0, .int .i64 0] 91)).heap[w.heap.size + 1]? = some (.cells #[.string ⟨#[]⟩, .string ⟨#[]⟩, .int .i64 0, .int .i64 0] 91 (0, 0)) := by
    have := heap_alloc_new (w.alloc (.cells #[.string xn, .string xt, .int .i64 xc, .int .i64 xx] 91)) (.cells #[.string ⟨#[]⟩, .string ⟨#[]⟩, .int .i64 0, .int .i64 0] 91)
    simpa using this
  go_enter Tryz.func134, Tryz.ntmps134
  refine wp_seq (reg_mono (tk_r0 (by kernel_rfl) _ (v := ⟨_, _, _, _, _, _, _, _, _, _, _, _⟩) ⟨rfl, rfl, rfl, rfl, rfl, rfl, rfl, rfl, rfl, rfl, rfl, rfl, rfl, rfl⟩ rfl ?_))
  intro a1 F1
  try dsimp only at F1
  generalize (w.alloc (.cells #[.string xn, .string xt, .int .i64 xc, .int .i64 xx] 91)).alloc (.cells #[.string ⟨#[]⟩, .string ⟨#[]⟩, .int .i64 0, .int .i64 0] 91) = w1 at *
  refine wp_seq (reg_mono (tk_r1 (by kernel_rfl) _ F1 rfl x1 hk ?_))
  intro a2 w2 F2 b2
  try dsimp only at F2
  have b2a : Below w1.heap.size w1 (w2.alloc (.cells #[.string xn, .string xt, .int .i64 xc, .int .i64 xx] 190)) := b2.alloc b2.size _
  have y2 : (w2.alloc (.cells #[.string xn, .string xt, .int .i64 xc, .int .i64 xx] 190)).heap[w2.heap.size]? = some (.cells #[.string xn, .string xt, .int .i64 xc, .int .i64 xx] 190 (0, 0)) := heap_alloc_new w2 _
  have x2a := Below.at b2a x2
  have B2 := hb1.trans (b2a.mono hb1.size)
  generalize w2.alloc (.cells #[.string xn, .string xt, .int .i64 xc, .int .i64 xx] 190) = w3 at *
  generalize w2.heap.size = wb at *
  refine wp_seq (wp_seq (reg_mono (tk_r2 (by kernel_rfl) _ F2 rfl y2 hk ?_)))
  intro a3 w4 F3 s3 b4
  have y4 := Below.at b4 y2
  have x4 := Below.at b4 x2a
  have B4 := B2.trans (b4.mono B2.size)
  cases hr : SB.right ⟨xn, xt, xc, xx⟩ with
  | false =>
    rw [hr] at s3
    refine wp_cond_true s3 ?_
    refine wp_seq (reg_mono (tk_r3 (by kernel_rfl) _ F3 rfl rfl y4 x4 ?_))
    intro a9 F9
    try dsimp only at F9
    refine wp_ret ?_
    simp only [Exit.then]
    have X9 := set4_box (x0 := .string xn) (x1 := .string xt) (x2 := .int .i64 xc) (x3 := .int .i64 xx) x4
    obtain ⟨⟨e0, e1, e2, e3⟩, _⟩ := box4 X9
    refine bodyPost_ret (v := .tuple #[.agg #[.string xn, .string xt, .int .i64 xc, .int .i64 xx], .slice none 0 0, .int .i64 7]) ?_ F9.defers ⟨set4_below B4 (Nat.le_succ _), .inr ⟨rfl, rfl⟩⟩
    simp [results, Tryz.results134, go_sem, slot_get F9.s8, slot_get F9.s9, slot_get F9.s10, e0, e1, e2, e3]
  | true =>
    rw [hr] at s3
    refine wp_cond_false s3 (wp_skip ?_)
    refine wp_seq (reg_mono (tk_r4poll (by kernel_rfl) _ F3 rfl rfl rfl rfl y4 (hE hr w4 B4 (heap_lt x4)) ?_))
    intro a5 w5 ao ln cp F5 b5 r5
    try dsimp only at F5
    have b5a : Below w4.heap.size w4 (w5.alloc (.cells #[.string yn, .string yt, .int .i64 yc, .int .i64 yx] 190)) := b5.alloc b5.size _
    have hlt5 : w.heap.size + 1 < w5.heap.size := Nat.lt_of_lt_of_le (heap_lt x4) b5.size
    have y5 : (w5.alloc (.cells #[.string yn, .string yt, .int .i64 yc, .int .i64 yx] 190)).heap[w5.heap.size]? = some (.cells #[.string yn, .string yt, .int .i64 yc, .int .i64 yx] 190 (0, 0)) := heap_alloc_new w5 _
    have t5 : Touch (fun j => j = w.heap.size + 1) w5 (w5.alloc (.cells #[.string yn, .string yt, .int .i64 yc, .int .i64 yx] 190)) := (Touch.refl _ _).alloc _
    have x5 := Below.at b5a x4
    have y4b := Below.at b5a y4
    have B5 := B4.trans (b5a.mono B4.size)
    generalize w5.alloc (.cells #[.string yn, .string yt, .int .i64 yc, .int .i64 yx] 190) = w6 at *
    refine wp_seq (wp_seq (reg_mono (tk_r5 (by kernel_rfl) _ F5 rfl ?_)))
    intro a6 F6 s6
    cases ok with
    | false =>
      refine wp_cond_true s6 ?_
      refine wp_seq (reg_mono (tk_r6 (by kernel_rfl) _ F6 rfl rfl y4b x5 ?_))
      intro a9 F9
      try dsimp only at F9
      refine wp_ret ?_
      simp only [Exit.then]
      have X9 := set4_box (x0 := .string xn) (x1 := .string xt) (x2 := .int .i64 xc) (x3 := .int .i64 xx) x5
      obtain ⟨⟨e0, e1, e2, e3⟩, _⟩ := box4 X9
      refine bodyPost_ret (v := .tuple #[.agg #[.string xn, .string xt, .int .i64 xc, .int .i64 xx], .slice none 0 0, .int .i64 7]) ?_ F9.defers ⟨set4_below B5 (Nat.le_succ _), .inr ⟨rfl, rfl⟩⟩
      simp [results, Tryz.results134, go_sem, slot_get F9.s8, slot_get F9.s9, slot_get F9.s10, e0, e1, e2, e3]
    | true =>
      refine wp_cond_false s6 (wp_skip ?_)
      refine wp_seq (reg_mono (tk_r7 (by kernel_rfl) _ F6 rfl rfl rfl y5 x5 ?_))
      intro a9 F9
      try dsimp only at F9
      refine wp_ret ?_
      have X9 := set4_box (x0 := .string yn) (x1 := .string yt) (x2 := .int .i64 yc) (x3 := .int .i64 yx) x5
      obtain ⟨⟨e0, e1, e2, e3⟩, _⟩ := box4 X9
      refine bodyPost_ret (v := .tuple #[.agg #[.string yn, .string yt, .int .i64 yc, .int .i64 yx], .slice ao ln cp, .int .i64 0]) ?_ F9.defers ⟨set4_below B5 (Nat.le_succ _), .inl ⟨rfl, rfl, ao, ln, cp, w5, rfl, r5, t5.andThen (set4_touch _ _) (fun _ _ e => e), hlt5⟩⟩
      simp [results, Tryz.results134, go_sem, slot_get F9.s8, slot_get F9.s9, slot_get F9.s10, e0, e1, e2, e3]
theorem stake_ack {w : World} (S : SB) (hk : S.ok) (tp : Option Addr) (n : Int) (S1 : SB) (ok : Bool) {R : Option Addr → Nat → Nat → World → Prop}
    (hE : S.right = true → ∀ W, Below w.heap.size w W → w.heap.size + 1 < W.heap.size → Calls Tryz.prog 136 #[S.v, .pointer tp, .int .i64 n] W fun e w' => ∃ ao ln cp, e = .returned (.tuple #[S1.v, .slice ao ln cp, .bool ok]) ∧ Below W.heap.size W w' ∧ R ao ln cp w') :
    Calls Tryz.prog 134 #[.func (.func 136) #[] #[], S.v, .pointer tp, .int .i64 n] w fun e w' => Below w.heap.size w w' ∧ ((S.right = true ∧ ok = true ∧ ∃ ao ln cp W, e = .returned (.tuple #[S1.v, .slice ao ln cp, .int .i64 0]) ∧ R ao ln cp W ∧ Touch (fun j => j = w.heap.size + 1) W w' ∧ w.heap.size + 1 < W.heap.size) ∨ ((S.right && ok) = false ∧ e = .returned (.tuple #[S.v, .slice none 0 0, .int .i64 7]))) := by
  obtain ⟨xn, xt, xc, xx⟩ := S
  obtain ⟨yn, yt, yc, yx⟩ := S1
  simp only [SB.v] at *
  have hb1 : Below w.heap.size w ((w.alloc (.cells #[.string xn, .string xt, .int .i64 xc, .int .i64 xx] 91)).alloc (.cells #[.string ⟨#[]⟩, .string ⟨#[]⟩, .int .i64 0, .int .i64 0] 91)) := ((Below.refl w.heap.size w).alloc (Nat.le_refl _) _).alloc (by simp) _
  have x1 : ((w.alloc (.cells #[.string xn, .string xt, .int .i64 xc, .int .i64 xx] 91)).alloc (.cells #[.string ⟨#[]⟩, .string ⟨#[]⟩, .int .i64 0, .int .i64 0] 91)).heap[w.heap.size]? = some (.cells #[.string xn, .string xt, .int .i64 xc, .int .i64 xx] 91 (0, 0)) := box_alloc (heap_alloc_new w _) _
  have x2 : ((w.alloc (.cells #[.string xn, .string xt, .int .i64 xc, .int .i64 xx] 91)).alloc (.cells #[.string ⟨#[]⟩, .string ⟨#[]⟩, .int .i64 0, .int .i64 0] 91)).heap[w.heap.size + 1]? = some (.cells #[.string ⟨#[]⟩, .string ⟨#[]⟩, .int .i64 0, .int .i64 0] 91 (0, 0)) := by
    have := heap_alloc_new (w.alloc (.cells #[.string xn, .string xt, .int .i64 xc, .int .i64 xx] 91)) (.cells #[.string ⟨#[]⟩, .string ⟨#[]⟩, .int .i64 0, .int .i64 0] 91)
    simpa using this
  go_enter Tryz.func134, Tryz.ntmps134
  refine wp_seq (reg_mono (tk_r0 (by kernel_rfl) _ (v := ⟨_, _, _, _, _, _, _, _, _, _, _, _⟩) ⟨rfl, rfl, rfl, rfl, rfl, rfl, rfl, rfl, rfl, rfl, rfl, rfl, rfl, rfl⟩ rfl ?_))
  intro a1 F1
  try dsimp only at F1
  generalize (w.alloc (.cells #[.string xn, .string xt, .int .i64 xc, .int .i64 xx] 91)).alloc (.cells #[.string ⟨#[]⟩, .string ⟨#[]⟩, .int .i64 0, .int .i64 0] 91) = w1 at *
  refine wp_seq (reg_mono (tk_r1 (by kernel_rfl) _ F1 rfl x1 hk ?_))
  intro a2 w2 F2 b2
  try dsimp only at F2
  have b2a : Below w1.heap.size w1 (w2.alloc (.cells #[.string xn, .string xt, .int .i64 xc, .int .i64 xx] 190)) := b2.alloc b2.size _
  have y2 : (w2.alloc (.cells #[.string xn, .string xt, .int .i64 xc, .int .i64 xx] 190)).heap[w2.heap.size]? = some (.cells #[.string xn, .string xt, .int .i64 xc, .int .i64 xx] 190 (0, 0)) := heap_alloc_new w2 _
  have x2a := Below.at b2a x2
  have B2 := hb1.trans (b2a.mono hb1.size)
  generalize w2.alloc (.cells #[.string xn, .string xt, .int .i64 xc, .int .i64 xx] 190) = w3 at *
  generalize w2.heap.size = wb at *
  refine wp_seq (wp_seq (reg_mono (tk_r2 (by kernel_rfl) _ F2 rfl y2 hk ?_)))
  intro a3 w4 F3 s3 b4
  have y4 := Below.at b4 y2
  have x4 := Below.at b4 x2a
  have B4 := B2.trans (b4.mono B2.size)
  cases hr : SB.right ⟨xn, xt, xc, xx⟩ with
  | false =>
    rw [hr] at s3
    refine wp_cond_true s3 ?_
    refine wp_seq (reg_mono (tk_r3 (by kernel_rfl) _ F3 rfl rfl y4 x4 ?_))
    intro a9 F9
    try dsimp only at F9
    refine wp_ret ?_
    simp only [Exit.then]
    have X9 := set4_box (x0 := .string xn) (x1 := .string xt) (x2 := .int .i64 xc) (x3 := .int .i64 xx) x4
    obtain ⟨⟨e0, e1, e2, e3⟩, _⟩ := box4 X9
    refine bodyPost_ret (v := .tuple #[.agg #[.string xn, .string xt, .int .i64 xc, .int .i64 xx], .slice none 0 0, .int .i64 7]) ?_ F9.defers ⟨set4_below B4 (Nat.le_succ _), .inr ⟨rfl, rfl⟩⟩
    simp [results, Tryz.results134, go_sem, slot_get F9.s8, slot_get F9.s9, slot_get F9.s10, e0, e1, e2, e3]
  | true =>
    rw [hr] at s3
    refine wp_cond_false s3 (wp_skip ?_)
    refine wp_seq (reg_mono (tk_r4ack (by kernel_rfl) _ F3 rfl rfl rfl rfl y4 (hE hr w4 B4 (heap_lt x4)) ?_))
    intro a5 w5 ao ln cp F5 b5 r5
    try dsimp only at F5
    have b5a : Below w4.heap.size w4 (w5.alloc (.cells #[.string yn, .string yt, .int .i64 yc, .int .i64 yx] 190)) := b5.alloc b5.size _
    have hlt5 : w.heap.size + 1 < w5.heap.size := Nat.lt_of_lt_of_le (heap_lt x4) b5.size
    have y5 : (w5.alloc (.cells #[.string yn, .string yt, .int .i64 yc, .int .i64 yx] 190)).heap[w5.heap.size]? = some (.cells #[.string yn, .string yt, .int .i64 yc, .int .i64 yx] 190 (0, 0)) := heap_alloc_new w5 _
    have t5 : Touch (fun j => j = w.heap.size + 1) w5 (w5.alloc (.cells #[.string yn, .string yt, .int .i64 yc, .int .i64 yx] 190)) := (Touch.refl _ _).alloc _
    have x5 := Below.at b5a x4
    have y4b := Below.at b5a y4
    have B5 := B4.trans (b5a.mono B4.size)
    generalize w5.alloc (.cells #[.string yn, .string yt, .int .i64 yc, .int .i64 yx] 190) = w6 at *
    refine wp_seq (wp_seq (reg_mono (tk_r5 (by kernel_rfl) _ F5 rfl ?_)))
    intro a6 F6 s6
    cases ok with
    | false =>
      refine wp_cond_true s6 ?_
      refine wp_seq (reg_mono (tk_r6 (by kernel_rfl) _ F6 rfl rfl y4b x5 ?_))
      intro a9 F9
      try dsimp only at F9
      refine wp_ret ?_
      simp only [Exit.then]
      have X9 := set4_box (x0 := .string xn) (x1 := .string xt) (x2 := .int .i64 xc) (x3 := .int .i64 xx) x5
      obtain ⟨⟨e0, e1, e2, e3⟩, _⟩ := box4 X9
      refine bodyPost_ret (v := .tuple #[.agg #[.string xn, .string xt, .int .i64 xc, .int .i64 xx], .slice none 0 0, .int .i64 7]) ?_ F9.defers ⟨set4_below B5 (Nat.le_succ _), .inr ⟨rfl, rfl⟩⟩
      simp [results, Tryz.results134, go_sem, slot_get F9.s8, slot_get F9.s9, slot_get F9.s10, e0, e1, e2, e3]
    | true =>
      refine wp_cond_false s6 (wp_skip ?_)
      refine wp_seq (reg_mono (tk_r7 (by kernel_rfl) _ F6 rfl rfl rfl y5 x5 ?_))
      intro a9 F9
      try dsimp only at F9
      refine wp_ret ?_
      have X9 := set4_box (x0 := .string yn) (x1 := .string yt) (x2 := .int .i64 yc) (x3 := .int .i64 yx) x5
      obtain ⟨⟨e0, e1, e2, e3⟩, _⟩ := box4 X9
      refine bodyPost_ret (v := .tuple #[.agg #[.string yn, .string yt, .int .i64 yc, .int .i64 yx], .slice ao ln cp, .int .i64 0]) ?_ F9.defers ⟨set4_below B5 (Nat.le_succ _), .inl ⟨rfl, rfl, ao, ln, cp, w5, rfl, r5, t5.andThen (set4_touch _ _) (fun _ _ e => e), hlt5⟩⟩
      simp [results, Tryz.results134, go_sem, slot_get F9.s8, slot_get F9.s9, slot_get F9.s10, e0, e1, e2, e3]
theorem stake_seek {w : World} (S : SB) (hk : S.ok) (tp : Option Addr) (n : Int) (S1 : SB) (ok : Bool) {R : Option Addr → Nat → Nat → World → Prop}
    (hE : S.right = true → ∀ W, Below w.heap.size w W → w.heap.size + 1 < W.heap.size → Calls Tryz.prog 137 #[S.v, .pointer tp, .int .i64 n] W fun e w' => ∃ ao ln cp, e = .returned (.tuple #[S1.v, .slice ao ln cp, .bool ok]) ∧ Below W.heap.size W w' ∧ R ao ln cp w') :
    Calls Tryz.prog 134 #[.func (.func 137) #[] #[], S.v, .pointer tp, .int .i64 n] w fun e w' => Below w.heap.size w w' ∧ ((S.right = true ∧ ok = true ∧ ∃ ao ln cp W, e = .returned (.tuple #[S1.v, .slice ao ln cp, .int .i64 0]) ∧ R ao ln cp W ∧ Touch (fun j => j = w.heap.size + 1) W w' ∧ w.heap.size + 1 < W.heap.size) ∨ ((S.right && ok) = false ∧ e = .returned (.tuple #[S.v, .slice none 0 0, .int .i64 7]))) := by
  obtain ⟨xn, xt, xc, xx⟩ := S
  obtain ⟨yn, yt, yc, yx⟩ := S1
  simp only [SB.v] at *
  have hb1 : Below w.heap.size w ((w.alloc (.cells #[.string xn, .string xt, .int .i64 xc, .int .i64 xx] 91)).alloc (.cells #[.string ⟨#[]⟩, .string ⟨#[]⟩, .int .i64 0, .int .i64 0] 91)) := ((Below.refl w.heap.size w).alloc (Nat.le_refl _) _).alloc (by simp) _
  have x1 : ((w.alloc (.cells #[.string xn, .string xt, .int .i64 xc, .int .i64 xx] 91)).alloc (.cells #[.string ⟨#[]⟩, .string ⟨#[]⟩, .int .i64 0, .int .i64 0] 91)).heap[w.heap.size]? = some (.cells #[.string xn, .string xt, .int .i64 xc, .int .i64 xx] 91 (0, 0)) := box_alloc (heap_alloc_new w _) _
  have x2 : ((w.alloc (.cells #[.string xn, .string xt, .int .i64 xc, .int .i64 xx] 91)).alloc (.cells #[.string ⟨#[]⟩, .string ⟨#[]⟩, .int .i64 0, .int .i64 0] 91)).heap[w.heap.size + 1]? = some (.cells #[.string ⟨#[]⟩, .string ⟨#[]⟩, .int .i64 0, .int .i64 0] 91 (0, 0)) := by
    have := heap_alloc_new (w.alloc (.cells #[.string xn, .string xt, .int .i64 xc, .int .i64 xx] 91)) (.cells #[.string ⟨#[]⟩, .string ⟨#[]⟩, .int .i64 0, .int .i64 0] 91)
    simpa using this
  go_enter Tryz.func134, Tryz.ntmps134
  refine wp_seq (reg_mono (tk_r0 (by kernel_rfl) _ (v := ⟨_, _, _, _, _, _, _, _, _, _, _, _⟩) ⟨rfl, rfl, rfl, rfl, rfl, rfl, rfl, rfl, rfl, rfl, rfl, rfl, rfl, rfl⟩ rfl ?_))
  intro a1 F1
  try dsimp only at F1
  generalize (w.alloc (.cells #[.string xn, .string xt, .int .i64 xc, .int .i64 xx] 91)).alloc (.cells #[.string ⟨#[]⟩, .string ⟨#[]⟩, .int .i64 0, .int .i64 0] 91) = w1 at *
  refine wp_seq (reg_mono (tk_r1 (by kernel_rfl) _ F1 rfl x1 hk ?_))
  intro a2 w2 F2 b2
  try dsimp only at F2
  have b2a : Below w1.heap.size w1 (w2.alloc (.cells #[.string xn, .string xt, .int .i64 xc, .int .i64 xx] 190)) := b2.alloc b2.size _
  have y2 : (w2.alloc (.cells #[.string xn, .string xt, .int .i64 xc, .int .i64 xx] 190)).heap[w2.heap.size]? = some (.cells #[.string xn, .string xt, .int .i64 xc, .int .i64 xx] 190 (0, 0)) := heap_alloc_new w2 _
  have x2a := Below.at b2a x2
  have B2 := hb1.trans (b2a.mono hb1.size)
  generalize w2.alloc (.cells #[.string xn, .string xt, .int .i64 xc, .int .i64 xx] 190) = w3 at *
  generalize w2.heap.size = wb at *
  refine wp_seq (wp_seq (reg_mono (tk_r2 (by kernel_rfl) _ F2 rfl y2 hk ?_)))
  intro a3 w4 F3 s3 b4
  have y4 := Below.at b4 y2
  have x4 := Below.at b4 x2a
  have B4 := B2.trans (b4.mono B2.size)
  cases hr : SB.right ⟨xn, xt, xc, xx⟩ with
  | false =>
    rw [hr] at s3
    refine wp_cond_true s3 ?_
    refine wp_seq (reg_mono (tk_r3 (by kernel_rfl) _ F3 rfl rfl y4 x4 ?_))
    intro a9 F9
    try dsimp only at F9
    refine wp_ret ?_
    simp only [Exit.then]
    have X9 := set4_box (x0 := .string xn) (x1 := .string xt) (x2 := .int .i64 xc) (x3 := .int .i64 xx) x4
    obtain ⟨⟨e0, e1, e2, e3⟩, _⟩ := box4 X9
    refine bodyPost_ret (v := .tuple #[.agg #[.string xn, .string xt, .int .i64 xc, .int .i64 xx], .slice none 0 0, .int .i64 7]) ?_ F9.defers ⟨set4_below B4 (Nat.le_succ _), .inr ⟨rfl, rfl⟩⟩
    simp [results, Tryz.results134, go_sem, slot_get F9.s8, slot_get F9.s9, slot_get F9.s10, e0, e1, e2, e3]
  | true =>
    rw [hr] at s3
    refine wp_cond_false s3 (wp_skip ?_)
    refine wp_seq (reg_mono (tk_r4seek (by kernel_rfl) _ F3 rfl rfl rfl rfl y4 (hE hr w4 B4 (heap_lt x4)) ?_))
    intro a5 w5 ao ln cp F5 b5 r5
    try dsimp only at F5
    have b5a : Below w4.heap.size w4 (w5.alloc (.cells #[.string yn, .string yt, .int .i64 yc, .int .i64 yx] 190)) := b5.alloc b5.size _
    have hlt5 : w.heap.size + 1 < w5.heap.size := Nat.lt_of_lt_of_le (heap_lt x4) b5.size
    have y5 : (w5.alloc (.cells #[.string yn, .string yt, .int .i64 yc, .int .i64 yx] 190)).heap[w5.heap.size]? = some (.cells #[.string yn, .string yt, .int .i64 yc, .int .i64 yx] 190 (0, 0)) := heap_alloc_new w5 _
    have t5 : Touch (fun j => j = w.heap.size + 1) w5 (w5.alloc (.cells #[.string yn, .string yt, .int .i64 yc, .int .i64 yx] 190)) := (Touch.refl _ _).alloc _
    have x5 := Below.at b5a x4
    have y4b := Below.at b5a y4
    have B5 := B4.trans (b5a.mono B4.size)
    generalize w5.alloc (.cells #[.string yn, .string yt, .int .i64 yc, .int .i64 yx] 190) = w6 at *
    refine wp_seq (wp_seq (reg_mono (tk_r5 (by kernel_rfl) _ F5 rfl ?_)))
    intro a6 F6 s6
    cases ok with
    | false =>
      refine wp_cond_true s6 ?_
      refine wp_seq (reg_mono (tk_r6 (by kernel_rfl) _ F6 rfl rfl y4b x5 ?_))
      intro a9 F9
      try dsimp only at F9
      refine wp_ret ?_
      simp only [Exit.then]
      have X9 := set4_box (x0 := .string xn) (x1 := .string xt) (x2 := .int .i64 xc) (x3 := .int .i64 xx) x5
      obtain ⟨⟨e0, e1, e2, e3⟩, _⟩ := box4 X9
      refine bodyPost_ret (v := .tuple #[.agg #[.string xn, .string xt, .int .i64 xc, .int .i64 xx], .slice none 0 0, .int .i64 7]) ?_ F9.defers ⟨set4_below B5 (Nat.le_succ _), .inr ⟨rfl, rfl⟩⟩
      simp [results, Tryz.results134, go_sem, slot_get F9.s8, slot_get F9.s9, slot_get F9.s10, e0, e1, e2, e3]
    | true =>
      refine wp_cond_false s6 (wp_skip ?_)
      refine wp_seq (reg_mono (tk_r7 (by kernel_rfl) _ F6 rfl rfl rfl y5 x5 ?_))
      intro a9 F9
      try dsimp only at F9
      refine wp_ret ?_
      have X9 := set4_box (x0 := .string yn) (x1 := .string yt) (x2 := .int .i64 yc) (x3 := .int .i64 yx) x5
      obtain ⟨⟨e0, e1, e2, e3⟩, _⟩ := box4 X9
      refine bodyPost_ret (v := .tuple #[.agg #[.string yn, .string yt, .int .i64 yc, .int .i64 yx], .slice ao ln cp, .int .i64 0]) ?_ F9.defers ⟨set4_below B5 (Nat.le_succ _), .inl ⟨rfl, rfl, ao, ln, cp, w5, rfl, r5, t5.andThen (set4_touch _ _) (fun _ _ e => e), hlt5⟩⟩
      simp [results, Tryz.results134, go_sem, slot_get F9.s8, slot_get F9.s9, slot_get F9.s10, e0, e1, e2, e3]
end Go.Proofs.YtlfodldlkchmoaaGreat.Y
