/-
  New, Attach, Right (mksw.py).
-/
import Derived.Test.YtlfodldlkchmoaaGreatZSU
namespace Go.Proofs.YtlfodldlkchmoaaGreat.Y
open Go.RowKit
set_option maxHeartbeats 8000000
set_option maxRecDepth 100000
attribute [local go_sem ↓] Go.wp_at_zero Go.wp_at_succ
set_option linter.unusedSimpArgs false
set_option linter.unusedVariables false
theorem frame_nw (t : Array Value) (h : t.size = 30) : ∃ u : Nat → Value, t = List.toArray (u 0 :: u 1 :: u 2 :: u 3 :: u 4 :: u 5 :: u 6 :: u 7 :: u 8 :: u 9 :: u 10 :: u 11 :: u 12 :: u 13 :: u 14 :: u 15 :: u 16 :: u 17 :: u 18 :: u 19 :: u 20 :: u 21 :: u 22 :: u 23 :: u 24 :: u 25 :: u 26 :: u 27 :: u 28 :: u 29 :: []) := by
  refine ⟨fun i => t.getD i undef, ?_⟩
  refine Eq.trans (b := ((List.range 30).map fun i => t.getD i undef).toArray) ?_ rfl
  apply Array.ext
  · simp [h]
  · intro k h1 h2
    simp [Array.getD, h1]
structure Vnw where
  v0 : Value
  v1 : Value
  v2 : Value
  v6 : Value
  v7 : Value
  v8 : Value
  v9 : Value
structure Fnw (a : Act) (v : Vnw) : Prop where
  size : a.tmps.size = 30
  defers : a.defers = []
  s0 : a.tmps.getD 0 undef = v.v0
  s1 : a.tmps.getD 1 undef = v.v1
  s2 : a.tmps.getD 2 undef = v.v2
  s6 : a.tmps.getD 6 undef = v.v6
  s7 : a.tmps.getD 7 undef = v.v7
  s8 : a.tmps.getD 8 undef = v.v8
  s9 : a.tmps.getD 9 undef = v.v9
theorem frx_nw {a : Act} {v0 v1 v2 v6 v7 v8 v9 : Value} (h : Fnw a ⟨v0, v1, v2, v6, v7, v8, v9⟩) : ∃ u : Nat → Value, a = ⟨List.toArray (v0 :: v1 :: v2 :: u 3 :: u 4 :: u 5 :: v6 :: v7 :: v8 :: v9 :: u 10 :: u 11 :: u 12 :: u 13 :: u 14 :: u 15 :: u 16 :: u 17 :: u 18 :: u 19 :: u 20 :: u 21 :: u 22 :: u 23 :: u 24 :: u 25 :: u 26 :: u 27 :: u 28 :: u 29 :: []), []⟩ := by
  obtain ⟨t', d'⟩ := a
  obtain ⟨hs, hd, q0, q1, q2, q6, q7, q8, q9⟩ := h
  obtain ⟨u, hu⟩ := frame_nw t' hs
  simp only at hd q0 q1 q2 q6 q7 q8 q9
  subst hu hd
  have e0 : u 0 = v0 := q0
  have e1 : u 1 = v1 := q1
  have e2 : u 2 = v2 := q2
  have e6 : u 6 = v6 := q6
  have e7 : u 7 = v7 := q7
  have e8 : u 8 = v8 := q8
  have e9 : u 9 = v9 := q9
  refine ⟨u, ?_⟩
  rw [e0, e1, e2, e6, e7, e8, e9]
theorem nw_r0 {K : Act → World → Prop} {c : Code} (hc : regOf (Tryz.f106.body.getD .skip) 0 = some c) (a : Act) {v : Vnw} {wq : World}  (hF : Fnw a v) (hQ : ∀ a', Fnw a' { v with v6 := .pointer (some ⟨wq.heap.size, 0, none⟩), v7 := .int .i64 0 } → K a' (wq.alloc (.cells #[.string ⟨#[]⟩, .string ⟨#[]⟩, .int .i64 0, .int .i64 0] 91))) :
    Code.wp Tryz.prog c (Exit.then K fun _ _ _ => False) a wq := by
  have HQ := hide hQ
  clear hQ
  obtain ⟨v0, v1, v2, v6, v7, v8, v9⟩ := v
  obtain ⟨u, rfl⟩ := frx_nw hF
  clear hF
  simp only [Tryz.f106, Option.getD_some, regOf] at hc
  injection hc with hc
  subst hc
  go_wp2
  exact HQ.out _ ⟨rfl, rfl, rfl, rfl, rfl, rfl, rfl, rfl, rfl⟩
theorem nw_r1 {K : Act → World → Prop} {c : Code} (hc : regOf (Tryz.f106.body.getD .skip) 1 = some c) (a : Act) {v : Vnw} {wq : World} {n : Int} (hF : Fnw a v) (h2v : v.v2 = .int .i64 n) (hQ : ∀ a', Fnw a' v → a'.tmps.getD 11 undef = .bool (decide (n < 0)) → K a' wq) :
    Code.wp Tryz.prog c (Exit.then K fun _ _ _ => False) a wq := by
  have HQ := hide hQ
  clear hQ
  obtain ⟨v0, v1, v2, v6, v7, v8, v9⟩ := v
  simp only at h2v HQ
  subst h2v
  obtain ⟨u, rfl⟩ := frx_nw hF
  clear hF
  simp only [Tryz.f106, Option.getD_some, regOf] at hc
  injection hc with hc
  subst hc
  go_wp2
  exact HQ.out _ ⟨rfl, rfl, rfl, rfl, rfl, rfl, rfl, rfl, rfl⟩ (by first | rfl | (simp; done))
theorem nw_r2 {K : Act → World → Prop} {c : Code} (hc : regOf (Tryz.f106.body.getD .skip) 2 = some c) (a : Act) {v : Vnw} {wq : World} {L : LOC} {G : TG} (hF : Fnw a v) (h1v : v.v1 = .pointer (some ⟨L.b, 0, none⟩)) (hT : TAt wq L G) (hQ : ∀ a', Fnw a' { v with v2 := .int .i64 (G.fin : Int) } → K a' wq) :
    Code.wp Tryz.prog c (Exit.then K fun _ _ _ => False) a wq := by
  have HQ := hide hQ
  clear hQ
  obtain ⟨v0, v1, v2, v6, v7, v8, v9⟩ := v
  simp only at h1v HQ
  subst h1v
  obtain ⟨u, rfl⟩ := frx_nw hF
  clear hF
  simp only [Tryz.f106, Option.getD_some, regOf] at hc
  injection hc with hc
  subst hc
  have HT := hide hT
  clear hT
  go_wp2_with (go_at_call 23; refine (tend HT.out).mono ?_; rintro e w1 ⟨rfl, rfl⟩)
  exact HQ.out _ ⟨rfl, rfl, rfl, rfl, rfl, rfl, rfl, rfl, rfl⟩
theorem nw_r3 {K : Act → World → Prop} {c : Code} (hc : regOf (Tryz.f106.body.getD .skip) 3 = some c) (a : Act) {v : Vnw} {wq : World} {L : LOC} {nm tn yn yt : ByteArray} {n yc yx cd : Int} (hF : Fnw a v) (h0v : v.v0 = .string nm) (h1v : v.v1 = .pointer (some ⟨L.b, 0, none⟩)) (h2v : v.v2 = .int .i64 n) (hN : Calls Tryz.prog 131 #[.pointer (some ⟨L.b, 0, none⟩)] wq fun e w' => e = .returned (.string tn) ∧ Below wq.heap.size wq w') (hE : ∀ W, Below wq.heap.size wq W → Calls Tryz.prog 110 #[.agg #[.string nm, .string tn, .int .i64 0, .int .i64 0], .pointer (some ⟨L.b, 0, none⟩), .int .i64 n] W fun e w' => e = .returned (.tuple #[.agg #[.string yn, .string yt, .int .i64 yc, .int .i64 yx], .int .i64 cd]) ∧ Below W.heap.size W w')
    (hQ : ∀ a' w1, Fnw a' { v with v8 := .pointer (some ⟨w1.heap.size, 0, none⟩), v9 := .int .i64 cd } → Below wq.heap.size wq w1 → K a' (w1.alloc (.cells #[.string yn, .string yt, .int .i64 yc, .int .i64 yx] 91))) :
    Code.wp Tryz.prog c (Exit.then K fun _ _ _ => False) a wq := by
  have HQ := hide hQ
  clear hQ
  obtain ⟨v0, v1, v2, v6, v7, v8, v9⟩ := v
  simp only at h0v h1v h2v HQ
  subst h0v h1v h2v
  obtain ⟨u, rfl⟩ := frx_nw hF
  clear hF
  simp only [Tryz.f106, Option.getD_some, regOf] at hc
  injection hc with hc
  subst hc
  have HN := hide hN
  have HE := hide hE
  clear hN hE
  go_wp2_with (first | (go_at_call 131; refine HN.out.mono ?_; rintro e w1 ⟨rfl, b1⟩; have B1 := hide b1; clear b1) | (go_at_call 110; refine (HE.out _ B1.out).mono ?_; rintro e w2 ⟨rfl, b2⟩; have B2 := hide b2; clear b2))
  exact HQ.out _ _ ⟨rfl, rfl, rfl, rfl, rfl, rfl, rfl, rfl, rfl⟩ (B1.out.trans (B2.out.mono B1.out.size))
theorem nw_r4 {K : Act → World → Prop} {c : Code} (hc : regOf (Tryz.f106.body.getD .skip) 4 = some c) (a : Act) {v : Vnw} {wq : World} {cd : Int} (hF : Fnw a v) (h9v : v.v9 = .int .i64 cd) (hQ : ∀ a', Fnw a' v → a'.tmps.getD 25 undef = .bool (!(cd == 0)) → K a' wq) :
    Code.wp Tryz.prog c (Exit.then K fun _ _ _ => False) a wq := by
  have HQ := hide hQ
  clear hQ
  obtain ⟨v0, v1, v2, v6, v7, v8, v9⟩ := v
  simp only at h9v HQ
  subst h9v
  obtain ⟨u, rfl⟩ := frx_nw hF
  clear hF
  simp only [Tryz.f106, Option.getD_some, regOf] at hc
  injection hc with hc
  subst hc
  go_wp2
  exact HQ.out _ ⟨rfl, rfl, rfl, rfl, rfl, rfl, rfl, rfl, rfl⟩ (by first | rfl | (simp; done))
theorem nw_r5 {K : Act → World → Prop} {c : Code} (hc : regOf (Tryz.f106.body.getD .skip) 5 = some c) (a : Act) {v : Vnw} {wq : World} {rb : Nat} {cd : Int} (hF : Fnw a v) (h6v : v.v6 = .pointer (some ⟨rb, 0, none⟩)) (h9v : v.v9 = .int .i64 cd) (hR : wq.heap[rb]? = some (.cells #[.string ⟨#[]⟩, .string ⟨#[]⟩, .int .i64 0, .int .i64 0] 91 (0, 0)))
    (hQ : ∀ a', Fnw a' { v with v7 := .int .i64 cd } → K a' (set4 wq rb (.string ⟨#[]⟩) (.string ⟨#[]⟩) (.int .i64 0) (.int .i64 0))) :
    Code.wp Tryz.prog c (Exit.then K fun _ _ _ => False) a wq := by
  have HQ := hide hQ
  clear hQ
  obtain ⟨v0, v1, v2, v6, v7, v8, v9⟩ := v
  simp only at h6v h9v HQ
  subst h6v h9v
  obtain ⟨u, rfl⟩ := frx_nw hF
  clear hF
  simp only [Tryz.f106, Option.getD_some, regOf] at hc
  injection hc with hc
  subst hc
  obtain ⟨⟨d0, d1, d2, d3⟩, f0, f1, f2, f3⟩ := box4 hR
  unfold set4 at HQ
  clear hR
  go_wp2
  exact HQ.out _ ⟨rfl, rfl, rfl, rfl, rfl, rfl, rfl, rfl, rfl⟩
theorem nw_r6 {K : Act → World → Prop} {c : Code} (hc : regOf (Tryz.f106.body.getD .skip) 6 = some c) (a : Act) {v : Vnw} {wq : World} {sb rb : Nat} {yn yt : ByteArray} {yc yx cd : Int} (hF : Fnw a v) (h6v : v.v6 = .pointer (some ⟨rb, 0, none⟩)) (h8v : v.v8 = .pointer (some ⟨sb, 0, none⟩)) (h9v : v.v9 = .int .i64 cd) (hS : wq.heap[sb]? = some (.cells #[.string yn, .string yt, .int .i64 yc, .int .i64 yx] 91 (0, 0))) (hR : wq.heap[rb]? = some (.cells #[.string ⟨#[]⟩, .string ⟨#[]⟩, .int .i64 0, .int .i64 0] 91 (0, 0)))
    (hQ : ∀ a', Fnw a' { v with v7 := .int .i64 cd } → K a' (set4 wq rb (.string yn) (.string yt) (.int .i64 yc) (.int .i64 yx))) :
    Code.wp Tryz.prog c (Exit.then K fun _ _ _ => False) a wq := by
  have HQ := hide hQ
  clear hQ
  obtain ⟨v0, v1, v2, v6, v7, v8, v9⟩ := v
  simp only at h6v h8v h9v HQ
  subst h6v h8v h9v
  obtain ⟨u, rfl⟩ := frx_nw hF
  clear hF
  simp only [Tryz.f106, Option.getD_some, regOf] at hc
  injection hc with hc
  subst hc
  obtain ⟨⟨c0, c1, c2, c3⟩, _⟩ := box4 hS
  obtain ⟨⟨d0, d1, d2, d3⟩, f0, f1, f2, f3⟩ := box4 hR
  unfold set4 at HQ
  clear hS hR
  go_wp2
  exact HQ.out _ ⟨rfl, rfl, rfl, rfl, rfl, rfl, rfl, rfl, rfl⟩
def newF (nm : ByteArray) (G : TG) (n : Int) : SB × Int := if (seekF ⟨nm, G.name, 0, 0⟩ G (if n < 0 then (G.fin : Int) else n)).2 = 0 then seekF ⟨nm, G.name, 0, 0⟩ G (if n < 0 then (G.fin : Int) else n) else (⟨⟨#[]⟩, ⟨#[]⟩, 0, 0⟩, (seekF ⟨nm, G.name, 0, 0⟩ G (if n < 0 then (G.fin : Int) else n)).2)
theorem snew_tail {w w1 : World} {L : LOC} {G : TG} {c : Nat} (T1 : TAt w1 L G) (hk : G.Ok c) (nm : ByteArray) (hn : nm.size ≤ 281474976710656) (n : Int) (P : SB × Int) (hP : seekF ⟨nm, G.name, 0, 0⟩ G n = P) (hb1 : Below w.heap.size w w1) (x1 : w1.heap[w.heap.size]? = some (.cells #[.string ⟨#[]⟩, .string ⟨#[]⟩, .int .i64 0, .int .i64 0] 91 (0, 0))) {Q : Exit → Act → World → Prop} {a : Act} {v : Vnw} (F : Fnw a v) (h0 : v.v0 = .string nm) (h1 : v.v1 = .pointer (some ⟨L.b, 0, none⟩)) (h2 : v.v2 = .int .i64 n) (h6 : v.v6 = .pointer (some ⟨w.heap.size, 0, none⟩))
    {r3 r4 r5 r6 : Code} (e3 : regOf (Tryz.f106.body.getD .skip) 3 = some r3) (e4 : regOf (Tryz.f106.body.getD .skip) 4 = some r4) (e5 : regOf (Tryz.f106.body.getD .skip) 5 = some r5) (e6 : regOf (Tryz.f106.body.getD .skip) 6 = some r6)
    (hQ : ∀ a' w', Fnw a' { v with v7 := .int .i64 P.2, v8 := a'.tmps.getD 8 undef, v9 := .int .i64 P.2 } → Below w.heap.size w w' → (∃ z : SB, z = (if P.2 = 0 then P.1 else ⟨⟨#[]⟩, ⟨#[]⟩, 0, 0⟩) ∧ w'.heap[w.heap.size]? = some (.cells #[.string z.name, .string z.top, .int .i64 z.cur, .int .i64 z.next] 91 (0, 0))) → Q .ret a' w') :
    Code.wp Tryz.prog (r3.seq ((r4.seq (Code.cond (Operand.tmp 25) (r5.seq Code.ret) Code.skip)).seq (r6.seq Code.ret))) Q a w1 := by
  obtain ⟨⟨yn, yt, yc, yx⟩, cd⟩ := P
  have HS := fun W (hW : Below w1.heap.size w1 W) => sseekP (T1.below hW) hk ⟨nm, G.name, 0, 0⟩ ⟨hn, by have := hk.name; simp only; omega⟩ n
  rw [hP] at HS
  simp only [SB.v] at HS
  refine wp_seq (reg_mono (nw_r3 e3 _ F h0 h1 h2 (tname T1 hk) HS ?_))
  intro a3 w2 F3 b2
  try dsimp only at F3
  have b2a : Below w1.heap.size w1 (w2.alloc (.cells #[.string yn, .string yt, .int .i64 yc, .int .i64 yx] 91)) := b2.alloc b2.size _
  have y2 : (w2.alloc (.cells #[.string yn, .string yt, .int .i64 yc, .int .i64 yx] 91)).heap[w2.heap.size]? = some (.cells #[.string yn, .string yt, .int .i64 yc, .int .i64 yx] 91 (0, 0)) := heap_alloc_new w2 _
  have x2 := Below.at b2a x1
  have B2 := hb1.trans (b2a.mono hb1.size)
  generalize w2.alloc (.cells #[.string yn, .string yt, .int .i64 yc, .int .i64 yx] 91) = w3 at *
  generalize w2.heap.size = sb at *
  refine wp_seq (wp_seq (reg_mono (nw_r4 e4 _ F3 rfl ?_)))
  intro a4 F4 s4
  by_cases hc : cd = 0
  · have s4' : a4.tmps.getD 25 undef = .bool false := by rw [s4, hc]; rfl
    refine wp_cond_false s4' (wp_skip ?_)
    refine wp_seq (reg_mono (nw_r6 e6 _ F4 h6 rfl rfl y2 x2 ?_))
    intro a5 F5
    try dsimp only at F5
    refine wp_ret ?_
    have X9 := set4_box (x0 := .string yn) (x1 := .string yt) (x2 := .int .i64 yc) (x3 := .int .i64 yx) x2
    refine hQ _ _ ⟨F5.size, F5.defers, F5.s0, F5.s1, F5.s2, F5.s6, F5.s7, rfl, F5.s9⟩ (set4_below B2 (Nat.le_refl _)) ⟨_, rfl, ?_⟩
    rw [if_pos hc]
    exact X9
  · have s4' : a4.tmps.getD 25 undef = .bool true := by rw [s4, beq_eq_false_iff_ne.2 hc]; rfl
    refine wp_cond_true s4' ?_
    refine wp_seq (reg_mono (nw_r5 e5 _ F4 h6 rfl x2 ?_))
    intro a5 F5
    try dsimp only at F5
    refine wp_ret ?_
    have X9 := set4_box (x0 := .string ⟨#[]⟩) (x1 := .string ⟨#[]⟩) (x2 := .int .i64 0) (x3 := .int .i64 0) x2
    refine hQ _ _ ⟨F5.size, F5.defers, F5.s0, F5.s1, F5.s2, F5.s6, F5.s7, rfl, F5.s9⟩ (set4_below B2 (Nat.le_refl _)) ⟨_, rfl, ?_⟩
    rw [if_neg hc]
    exact X9
theorem snew {w : World} {L : LOC} {G : TG} {c : Nat} (h : TAt w L G) (hk : G.Ok c) (nm : ByteArray) (hn : nm.size ≤ 281474976710656) (n : Int) :
    Calls Tryz.prog 106 #[.string nm, .pointer (some ⟨L.b, 0, none⟩), .int .i64 n] w fun e w' => e = .returned (.tuple #[SB.v (newF nm G n).1, .int .i64 (newF nm G n).2]) ∧ Below w.heap.size w w' := by
  have hb1 : Below w.heap.size w (w.alloc (.cells #[.string ⟨#[]⟩, .string ⟨#[]⟩, .int .i64 0, .int .i64 0] 91)) := (Below.refl w.heap.size w).alloc (Nat.le_refl _) _
  have x1 : (w.alloc (.cells #[.string ⟨#[]⟩, .string ⟨#[]⟩, .int .i64 0, .int .i64 0] 91)).heap[w.heap.size]? = some (.cells #[.string ⟨#[]⟩, .string ⟨#[]⟩, .int .i64 0, .int .i64 0] 91 (0, 0)) := heap_alloc_new w _
  have T1 := h.below hb1
  go_enter Tryz.func106, Tryz.ntmps106
  refine wp_seq (reg_mono (nw_r0 (by kernel_rfl) _ (v := ⟨_, _, _, _, _, _, _⟩) ⟨rfl, rfl, rfl, rfl, rfl, rfl, rfl, rfl, rfl⟩ ?_))
  intro a1 F1
  try dsimp only at F1
  generalize w.alloc (.cells #[.string ⟨#[]⟩, .string ⟨#[]⟩, .int .i64 0, .int .i64 0] 91) = w1 at *
  have fin : ∀ (m : Int), m = (if n < 0 then (G.fin : Int) else n) → ∀ (a' : Act) (w' : World) (v : Vnw) (y8 : Value), v.v6 = .pointer (some ⟨w.heap.size, 0, none⟩) → Fnw a' { v with v7 := .int .i64 (seekF ⟨nm, G.name, 0, 0⟩ G m).2, v8 := y8, v9 := .int .i64 (seekF ⟨nm, G.name, 0, 0⟩ G m).2 } → Below w.heap.size w w' → (∃ z : SB, z = (if (seekF ⟨nm, G.name, 0, 0⟩ G m).2 = 0 then (seekF ⟨nm, G.name, 0, 0⟩ G m).1 else ⟨⟨#[]⟩, ⟨#[]⟩, 0, 0⟩) ∧ w'.heap[w.heap.size]? = some (.cells #[.string z.name, .string z.top, .int .i64 z.cur, .int .i64 z.next] 91 (0, 0))) → bodyPost Tryz.prog Tryz.f106 (fun e w' => e = .returned (.tuple #[SB.v (newF nm G n).1, .int .i64 (newF nm G n).2]) ∧ Below w.heap.size w w') .ret a' w' := by
    rintro m rfl a' w' v y8 h6 F B ⟨z, hz, X⟩
    obtain ⟨⟨e0, e1, e2, e3⟩, _⟩ := box4 X
    have s6 := F.s6
    simp only [h6] at s6
    refine bodyPost_ret (v := .tuple #[SB.v (newF nm G n).1, .int .i64 (newF nm G n).2]) ?_ F.defers ⟨rfl, B⟩
    have e4 : (newF nm G n).1 = z := by
      unfold newF
      rw [hz]
      by_cases q : (seekF ⟨nm, G.name, 0, 0⟩ G (if n < 0 then (G.fin : Int) else n)).2 = 0
      · rw [if_pos q, if_pos q]
      · rw [if_neg q, if_neg q]
    have e5 : (newF nm G n).2 = (seekF ⟨nm, G.name, 0, 0⟩ G (if n < 0 then (G.fin : Int) else n)).2 := by
      unfold newF
      by_cases q : (seekF ⟨nm, G.name, 0, 0⟩ G (if n < 0 then (G.fin : Int) else n)).2 = 0
      · rw [if_pos q]
      · rw [if_neg q]
    rw [e4, e5]
    simp [results, Tryz.results106, go_sem, slot_get s6, slot_get F.s7, e0, e1, e2, e3, SB.v]
  refine wp_seq (wp_seq (reg_mono (nw_r1 (by kernel_rfl) _ F1 rfl ?_)))
  intro a2 F2 s2
  by_cases h0 : n < 0
  · rw [decide_eq_true h0] at s2
    refine wp_cond_true s2 (reg_all (nw_r2 (by kernel_rfl) _ F2 rfl T1 ?_))
    intro a3 F3
    try dsimp only at F3
    exact snew_tail (w := w) T1 hk nm hn _ _ rfl hb1 x1 F3 rfl rfl rfl rfl (by kernel_rfl) (by kernel_rfl) (by kernel_rfl) (by kernel_rfl) fun a' w' F B X => fin _ (if_pos h0).symm a' w' _ _ rfl F B X
  · rw [decide_eq_false h0] at s2
    refine wp_cond_false s2 (wp_skip ?_)
    exact snew_tail (w := w) T1 hk nm hn _ _ rfl hb1 x1 F2 rfl rfl rfl rfl (by kernel_rfl) (by kernel_rfl) (by kernel_rfl) (by kernel_rfl) fun a' w' F B X => fin _ (if_neg h0).symm a' w' _ _ rfl F B X
theorem frame_at (t : Array Value) (h : t.size = 8) : ∃ u : Nat → Value, t = List.toArray (u 0 :: u 1 :: u 2 :: u 3 :: u 4 :: u 5 :: u 6 :: u 7 :: []) := by
  refine ⟨fun i => t.getD i undef, ?_⟩
  refine Eq.trans (b := ((List.range 8).map fun i => t.getD i undef).toArray) ?_ rfl
  apply Array.ext
  · simp [h]
  · intro k h1 h2
    simp [Array.getD, h1]
structure Vat where
  v0 : Value
  v1 : Value
  v2 : Value
structure Fat (a : Act) (v : Vat) : Prop where
  size : a.tmps.size = 8
  defers : a.defers = []
  s0 : a.tmps.getD 0 undef = v.v0
  s1 : a.tmps.getD 1 undef = v.v1
  s2 : a.tmps.getD 2 undef = v.v2
theorem frx_at {a : Act} {v0 v1 v2 : Value} (h : Fat a ⟨v0, v1, v2⟩) : ∃ u : Nat → Value, a = ⟨List.toArray (v0 :: v1 :: v2 :: u 3 :: u 4 :: u 5 :: u 6 :: u 7 :: []), []⟩ := by
  obtain ⟨t', d'⟩ := a
  obtain ⟨hs, hd, q0, q1, q2⟩ := h
  obtain ⟨u, hu⟩ := frame_at t' hs
  simp only at hd q0 q1 q2
  subst hu hd
  have e0 : u 0 = v0 := q0
  have e1 : u 1 = v1 := q1
  have e2 : u 2 = v2 := q2
  refine ⟨u, ?_⟩
  rw [e0, e1, e2]
theorem at_r0 {K : Act → World → Prop} {c : Code} (hc : regOf (Tryz.f107.body.getD .skip) 0 = some c) (a : Act) {v : Vat} {wq : World} {xn xt : ByteArray} {xc xx : Int} (hF : Fat a v) (h0v : v.v0 = .agg #[.string xn, .string xt, .int .i64 xc, .int .i64 xx]) (hQ : ∀ a', Fat a' { v with v1 := .pointer (some ⟨wq.heap.size, 0, none⟩), v2 := .pointer (some ⟨wq.heap.size + 1, 0, none⟩) } → K a' ((wq.alloc (.cells #[.string xn, .string xt, .int .i64 xc, .int .i64 xx] 91)).alloc (.cells #[.string ⟨#[]⟩, .string ⟨#[]⟩, .int .i64 0, .int .i64 0] 91))) :
    Code.wp Tryz.prog c (Exit.then K fun _ _ _ => False) a wq := by
  have HQ := hide hQ
  clear hQ
  obtain ⟨v0, v1, v2⟩ := v
  simp only at h0v HQ
  subst h0v
  obtain ⟨u, rfl⟩ := frx_at hF
  clear hF
  simp only [Tryz.f107, Option.getD_some, regOf] at hc
  injection hc with hc
  subst hc
  go_wp2
  exact HQ.out _ ⟨rfl, rfl, rfl, rfl, rfl⟩
theorem at_r1 {K : Act → World → Prop} {c : Code} (hc : regOf (Tryz.f107.body.getD .skip) 1 = some c) (a : Act) {v : Vat} {wq : World} {sb rb : Nat} {xn xt : ByteArray} {xc xx : Int} (hF : Fat a v) (h1v : v.v1 = .pointer (some ⟨sb, 0, none⟩)) (h2v : v.v2 = .pointer (some ⟨rb, 0, none⟩)) (hS : wq.heap[sb]? = some (.cells #[.string xn, .string xt, .int .i64 xc, .int .i64 xx] 91 (0, 0))) (hR : wq.heap[rb]? = some (.cells #[.string ⟨#[]⟩, .string ⟨#[]⟩, .int .i64 0, .int .i64 0] 91 (0, 0))) (hk : SB.ok ⟨xn, xt, xc, xx⟩)
    (hQ : ∀ a' w1, Fat a' v → Below wq.heap.size wq w1 → K a' (set4 w1 rb (.string xn) (.string xt) (.int .i64 xc) (.int .i64 xc))) :
    Code.wp Tryz.prog c (Exit.then K fun _ _ _ => False) a wq := by
  have HQ := hide hQ
  clear hQ
  obtain ⟨v0, v1, v2⟩ := v
  simp only at h1v h2v HQ
  subst h1v h2v
  obtain ⟨u, rfl⟩ := frx_at hF
  clear hF
  simp only [Tryz.f107, Option.getD_some, regOf] at hc
  injection hc with hc
  subst hc
  have HS := hide hS
  have HR := hide hR
  have HK := hide hk
  clear hS hR hk
  unfold set4 at HQ
  refine wp_region_last 5 rfl (by kernel_rfl) rfl rfl (by kernel_rfl) ?_
  intro ops' hops'
  simp only [idle, List.setIfInBounds_toArray, List.set_cons_succ, List.set_cons_zero] at hops'
  subst hops'
  refine wpAny_phi (ns := 8) (uses := (fun i => match i with | 0 => [3] | 1 => [4] | 2 => [5] | 3 => [6] | 4 => [7] | 5 => [] | _ => [])) (by kernel_rfl) (by kernel_rfl) (fun _ w w' => Below w.heap.size w w') (fun w => Below wq.heap.size wq w) (fun _ _ _ h r => h.trans (r.mono h.size)) ((Below.refl _ _).drew) (fun i => match i with | 0 => fun s w => s 3 = .agg #[.string xn, .string xt, .int .i64 xc, .int .i64 xx] | 1 => fun s w => s 4 = .agg #[.string xn, .string xt, .int .i64 xc, .int .i64 xx] | 2 => fun s w => s 5 = .pointer (some ⟨sb, 2, none⟩) | 3 => fun s w => s 6 = .int .i64 xc | 4 => fun s w => s 7 = .agg #[.string xn, .string xt, .int .i64 xc, .int .i64 xc] | 5 => fun s w => True | _ => fun _ _ => True) ?phc ?phh ?pstep ?pdone
  case phc =>
    intro i s s' w hx h
    match i, hx, h with
    | 0, hx, h =>
      have e3 := hx 3 (by simp)
      first | exact (show _ from by simp only [← e3] at *; exact h) | (simp only [e3] at h; exact h)
    | 1, hx, h =>
      have e4 := hx 4 (by simp)
      first | exact (show _ from by simp only [← e4] at *; exact h) | (simp only [e4] at h; exact h)
    | 2, hx, h =>
      have e5 := hx 5 (by simp)
      first | exact (show _ from by simp only [← e5] at *; exact h) | (simp only [e5] at h; exact h)
    | 3, hx, h =>
      have e6 := hx 6 (by simp)
      first | exact (show _ from by simp only [← e6] at *; exact h) | (simp only [e6] at h; exact h)
    | 4, hx, h =>
      have e7 := hx 7 (by simp)
      first | exact (show _ from by simp only [← e7] at *; exact h) | (simp only [e7] at h; exact h)
    | 5, hx, h =>
      exact h
    | (n + 6), _, h => exact h
  case phh =>
    intro i j s w w' hij h hb r
    match i, hij, h with
    | 0, hij, h =>
      exact h
    | 1, hij, h =>
      exact h
    | 2, hij, h =>
      exact h
    | 3, hij, h =>
      exact h
    | 4, hij, h =>
      exact h
    | 5, hij, h =>
      exact h
    | (n + 6), _, h => exact h
  case pstep =>
    intro i o ho a' w' hsa hb hd
    match i, ho with
    | 0, ho =>
      obtain rfl := Option.some.inj ho
      try dsimp only at hd
      have g1 : a'.tmps.getD 1 undef = .pointer (some ⟨sb, 0, none⟩) := hsa.rest 1 (by rfl)
      obtain ⟨⟨z0, z1, z2, z3⟩, _⟩ := box4 (Below.at hb HS.out)
      refine wpOp_of rfl rfl ?_
      refine op_run (v := .agg #[.string xn, .string xt, .int .i64 xc, .int .i64 xx]) (w' := w') ?_ ⟨_, rfl, ?_, ?_⟩
      · simp only [execOp, Act.eval, List.map_toArray, List.map_cons, List.map_nil, g1, z0, z1, z2, z3]; first | (go_simp; done) | rfl
      · try dsimp only
        exact (slots_put (ns := 8) (hsa.size.trans rfl) (by decide))
      · exact Below.refl _ _
    | 1, ho =>
      obtain rfl := Option.some.inj ho
      try dsimp only at hd
      have d0 : a'.tmps.getD 3 undef = .agg #[.string xn, .string xt, .int .i64 xc, .int .i64 xx] := hd 0 (by rfl)
      refine wpOp_of rfl rfl ?_
      refine op_call 133 _ _ rfl (enters_of Tryz.func133 (by kernel_rfl) rfl) [.agg #[.string xn, .string xt, .int .i64 xc, .int .i64 xx]] (by simp only [List.map, Act.eval, d0]) (sown ⟨xn, xt, xc, xx⟩ HK.out _) ?_
      rintro e w'' ⟨rfl, b2⟩
      refine ⟨_, rfl, _, rfl, ?_, ?_⟩
      · try dsimp only
        exact (slots_put (ns := 8) (hsa.size.trans rfl) (by decide))
      · exact b2
    | 2, ho =>
      obtain rfl := Option.some.inj ho
      try dsimp only at hd
      have g1 : a'.tmps.getD 1 undef = .pointer (some ⟨sb, 0, none⟩) := hsa.rest 1 (by rfl)
      refine wpOp_of rfl rfl ?_
      refine op_run (v := .pointer (some ⟨sb, 2, none⟩)) (w' := w') ?_ ⟨_, rfl, ?_, ?_⟩
      · simp only [execOp, Act.eval, List.map_toArray, List.map_cons, List.map_nil, g1]; first | (go_simp; done) | rfl
      · try dsimp only
        exact (slots_put (ns := 8) (hsa.size.trans rfl) (by decide))
      · exact Below.refl _ _
    | 3, ho =>
      obtain rfl := Option.some.inj ho
      try dsimp only at hd
      have d2 : a'.tmps.getD 5 undef = .pointer (some ⟨sb, 2, none⟩) := hd 2 (by rfl)
      have y := box_cell (Below.at hb HS.out) 2 rfl
      refine wpOp_of rfl rfl ?_
      refine op_run (v := .int .i64 xc) (w' := w') ?_ ⟨_, rfl, ?_, ?_⟩
      · simp only [execOp, Act.eval, List.map_toArray, List.map_cons, List.map_nil, d2, y]; first | (go_simp; done) | rfl
      · try dsimp only
        exact (slots_put (ns := 8) (hsa.size.trans rfl) (by decide))
      · exact Below.refl _ _
    | 4, ho =>
      obtain rfl := Option.some.inj ho
      try dsimp only at hd
      have d1 : a'.tmps.getD 4 undef = .agg #[.string xn, .string xt, .int .i64 xc, .int .i64 xx] := hd 1 (by rfl)
      have d3 : a'.tmps.getD 6 undef = .int .i64 xc := hd 3 (by rfl)
      refine wpOp_of rfl rfl ?_
      refine op_call 132 _ _ rfl (enters_of Tryz.func132 (by kernel_rfl) rfl) [.agg #[.string xn, .string xt, .int .i64 xc, .int .i64 xx], .int .i64 xc] (by simp only [List.map, Act.eval, d1, d3]) (sfrom ⟨xn, xt, xc, xx⟩ xc _) ?_
      rintro e w'' ⟨rfl, b2⟩
      refine ⟨_, rfl, _, rfl, ?_, ?_⟩
      · try dsimp only
        exact (slots_put (ns := 8) (hsa.size.trans rfl) (by decide))
      · exact b2
    | 5, ho =>
      obtain rfl := Option.some.inj ho
      try dsimp only at hd
      refine wpOp_of rfl rfl ?_
      refine op_run (v := undef) (w' := w') ?_ ⟨_, rfl, ?_, ?_⟩
      · rfl
      · try dsimp only
        trivial
      · exact Below.refl _ _
    | (n + 6), ho => exact absurd ho (by simp)
  case pdone =>
    intro a' w' hsa hb hd
    have d0 : a'.tmps.getD 3 undef = .agg #[.string xn, .string xt, .int .i64 xc, .int .i64 xx] := hd 0 (by decide)
    have d1 : a'.tmps.getD 4 undef = .agg #[.string xn, .string xt, .int .i64 xc, .int .i64 xx] := hd 1 (by decide)
    have d2 : a'.tmps.getD 5 undef = .pointer (some ⟨sb, 2, none⟩) := hd 2 (by decide)
    have d3 : a'.tmps.getD 6 undef = .int .i64 xc := hd 3 (by decide)
    have d4 : a'.tmps.getD 7 undef = .agg #[.string xn, .string xt, .int .i64 xc, .int .i64 xc] := hd 4 (by decide)
    have d5 : True := hd 5 (by decide)
    intro K2 hK2
    have hR2 := Below.at hb HR.out
    obtain ⟨⟨z0, z1, z2, z3⟩, f0, f1, f2, f3⟩ := box4 hR2
    have g2 : a'.tmps.getD 2 undef = .pointer (some ⟨rb, 0, none⟩) := hsa.rest 2 (by rfl)
    refine op_skip (w' := ((((w'.setCell ⟨rb, 0, none⟩ (.string xn)).setCell ⟨rb, 1, none⟩ (.string xt)).setCell ⟨rb, 2, none⟩ (.int .i64 xc)).setCell ⟨rb, 3, none⟩ (.int .i64 xc))) ?_ (hK2 _ _ ?_)
    · simp only [execOp, Act.eval, d4, g2]
      first | (go_simp; done) | (go_simp; rfl)
    exact HQ.out _ _ ⟨hsa.size.trans rfl, hsa.defers.trans rfl, hsa.rest 0 (by rfl), hsa.rest 1 (by rfl), hsa.rest 2 (by rfl)⟩ hb
theorem sattach {w : World} (S : SB) (ho : S.ok) : Calls Tryz.prog 107 #[S.v] w fun e w' => e = .returned (SB.v { S with next := S.cur }) ∧ Below w.heap.size w w' := by
  obtain ⟨xn, xt, xc, xx⟩ := S
  simp only [SB.v] at *
  have hb1 : Below w.heap.size w ((w.alloc (.cells #[.string xn, .string xt, .int .i64 xc, .int .i64 xx] 91)).alloc (.cells #[.string ⟨#[]⟩, .string ⟨#[]⟩, .int .i64 0, .int .i64 0] 91)) := ((Below.refl w.heap.size w).alloc (Nat.le_refl _) _).alloc (by simp) _
  have x1 : ((w.alloc (.cells #[.string xn, .string xt, .int .i64 xc, .int .i64 xx] 91)).alloc (.cells #[.string ⟨#[]⟩, .string ⟨#[]⟩, .int .i64 0, .int .i64 0] 91)).heap[w.heap.size]? = some (.cells #[.string xn, .string xt, .int .i64 xc, .int .i64 xx] 91 (0, 0)) := box_alloc (heap_alloc_new w _) _
  have x2 : ((w.alloc (.cells #[.string xn, .string xt, .int .i64 xc, .int .i64 xx] 91)).alloc (.cells #[.string ⟨#[]⟩, .string ⟨#[]⟩, .int .i64 0, .int .i64 0] 91)).heap[w.heap.size + 1]? = some (.cells #[.string ⟨#[]⟩, .string ⟨#[]⟩, .int .i64 0, .int .i64 0] 91 (0, 0)) := by
    have := heap_alloc_new (w.alloc (.cells #[.string xn, .string xt, .int .i64 xc, .int .i64 xx] 91)) (.cells #[.string ⟨#[]⟩, .string ⟨#[]⟩, .int .i64 0, .int .i64 0] 91)
    simpa using this
  go_enter Tryz.func107, Tryz.ntmps107
  refine wp_seq (reg_mono (at_r0 (by kernel_rfl) _ (v := ⟨_, _, _⟩) ⟨rfl, rfl, rfl, rfl, rfl⟩ rfl ?_))
  intro a1 F1
  try dsimp only at F1
  generalize (w.alloc (.cells #[.string xn, .string xt, .int .i64 xc, .int .i64 xx] 91)).alloc (.cells #[.string ⟨#[]⟩, .string ⟨#[]⟩, .int .i64 0, .int .i64 0] 91) = w1 at *
  refine wp_seq (reg_mono (at_r1 (by kernel_rfl) _ F1 rfl rfl x1 x2 ho ?_))
  intro a2 w2 F2 b2
  refine wp_ret ?_
  have X9 := set4_box (x0 := .string xn) (x1 := .string xt) (x2 := .int .i64 xc) (x3 := .int .i64 xc) (Below.at b2 x2)
  obtain ⟨⟨e0, e1, e2, e3⟩, _⟩ := box4 X9
  refine bodyPost_ret (v := .agg #[.string xn, .string xt, .int .i64 xc, .int .i64 xc]) ?_ F2.defers ⟨rfl, set4_below (hb1.trans (b2.mono hb1.size)) (Nat.le_succ _)⟩
  simp [results, Tryz.results107, go_sem, slot_get F2.s2, e0, e1, e2, e3]
end Go.Proofs.YtlfodldlkchmoaaGreat.Y
