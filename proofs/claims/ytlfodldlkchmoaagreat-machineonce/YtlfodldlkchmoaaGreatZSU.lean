/-
  Poll, Ack, Seek (mkst.py).
-/
import Derived.Test.YtlfodldlkchmoaaGreatZST
import Derived.Test.YtlfodldlkchmoaaGreatZSP
namespace Go.Proofs.YtlfodldlkchmoaaGreat.Y
open Go.RowKit
set_option maxHeartbeats 8000000
set_option maxRecDepth 100000
attribute [local go_sem ↓] Go.wp_at_zero Go.wp_at_succ
set_option linter.unusedSimpArgs false
set_option linter.unusedVariables false
theorem right_out {S : SB} (h : S.right = true) : 0 ≤ S.cur ∧ S.cur ≤ S.next ∧ S.next ≤ 9007199254740991 := by
  unfold SB.right at h
  simp only [Bool.and_eq_true, decide_eq_true_eq] at h
  exact ⟨h.1.1.2, h.1.2, h.2⟩
def pollF (S : SB) (G : TG) (n : Int) : SB × List Rec × Int := if (S.right && (pollI S G n).2.2) = true then ((pollI S G n).1, (pollI S G n).2.1, 0) else (S, [], 7)
def ackF (S : SB) (n : Int) : SB × Int := if (S.right && (ackI S n).2) = true then ((ackI S n).1, 0) else (S, 7)
def seekF (S : SB) (G : TG) (n : Int) : SB × Int := if (S.right && (seekI S G n).2) = true then ((seekI S G n).1, 0) else (S, 7)
theorem tkpoll {w : World} {L : LOC} {G : TG} {c : Nat} (h : TAt w L G) (hk : G.Ok c) (S : SB) (ho : S.ok) (n : Int) (hn : n ≤ 9223372036854775807) :
    Calls Tryz.prog 134 #[.func (.func 135) #[] #[], S.v, .pointer (some ⟨L.b, 0, none⟩), .int .i64 n] w fun e w' => ∃ ao cp, e = .returned (.tuple #[SB.v (pollF S G n).1, .slice ao (pollF S G n).2.1.length cp, .int .i64 (pollF S G n).2.2]) ∧ RecsAt w' (.slice ao (pollF S G n).2.1.length cp) (pollF S G n).2.1 ∧ Below w.heap.size w w' ∧ ∀ g, (Value.slice ao 0 cp).ownBlock = some g → w.heap.size ≤ g := by
  refine (stake_poll S ho _ n (pollI S G n).1 (pollI S G n).2.2 (R := fun ao ln cp w' => ln = (pollI S G n).2.1.length ∧ RecsAt w' (.slice ao (pollI S G n).2.1.length cp) (pollI S G n).2.1 ∧ ∀ g, (Value.slice ao 0 cp).ownBlock = some g → w.heap.size + 1 < g) fun hr W hW hs => (spoll0 (h.below hW) hk S (right_out hr).1 (by have := right_out hr; omega) n hn).mono ?_).mono ?_
  · rintro e w' ⟨ao, cp, rfl, r, b, g⟩
    exact ⟨ao, _, cp, rfl, b, rfl, r, fun x hx => Nat.lt_of_lt_of_le hs (g x hx)⟩
  · rintro e w' ⟨hb, ⟨h1, h2, ao, ln, cp, W, rfl, ⟨rfl, r, g⟩, t, _⟩ | ⟨h1, rfl⟩⟩
    · have e1 : pollF S G n = ((pollI S G n).1, (pollI S G n).2.1, 0) := by rw [pollF, if_pos (by rw [h1, h2]; rfl)]
      rw [e1]
      exact ⟨ao, cp, rfl, recs_touch r t (fun j hj e2 => by have := g j ((own_block _ _ _ _).trans hj); omega), hb, fun x hx => by have := g x hx; omega⟩
    · have e1 : pollF S G n = (S, [], 7) := by rw [pollF, if_neg (by rw [h1]; simp)]
      rw [e1]
      exact ⟨none, 0, rfl, recs_nil _, hb, fun g hg => by cases hg⟩
theorem tkack {w : World} (S : SB) (ho : S.ok) (tp : Option Addr) (n : Int) :
    Calls Tryz.prog 134 #[.func (.func 136) #[] #[], S.v, .pointer tp, .int .i64 n] w fun e w' => e = .returned (.tuple #[SB.v (ackF S n).1, .slice none 0 0, .int .i64 (ackF S n).2]) ∧ Below w.heap.size w w' := by
  refine (stake_ack S ho tp n (ackI S n).1 (ackI S n).2 (R := fun ao ln cp w' => ao = none ∧ ln = 0 ∧ cp = 0) fun hr W hW hs => (sack S tp n (right_out hr).2.2).mono ?_).mono ?_
  · rintro e w' ⟨rfl, b⟩
    exact ⟨none, 0, 0, rfl, b, rfl, rfl, rfl⟩
  · rintro e w' ⟨hb, ⟨h1, h2, ao, ln, cp, W, rfl, ⟨rfl, rfl, rfl⟩, t, _⟩ | ⟨h1, rfl⟩⟩
    · have e1 : ackF S n = ((ackI S n).1, 0) := by rw [ackF, if_pos (by rw [h1, h2]; rfl)]
      rw [e1]
      exact ⟨rfl, hb⟩
    · have e1 : ackF S n = (S, 7) := by rw [ackF, if_neg (by rw [h1]; simp)]
      rw [e1]
      exact ⟨rfl, hb⟩
theorem tkseek {w : World} {L : LOC} {G : TG} {c : Nat} (h : TAt w L G) (hk : G.Ok c) (S : SB) (ho : S.ok) (n : Int) :
    Calls Tryz.prog 134 #[.func (.func 137) #[] #[], S.v, .pointer (some ⟨L.b, 0, none⟩), .int .i64 n] w fun e w' => e = .returned (.tuple #[SB.v (seekF S G n).1, .slice none 0 0, .int .i64 (seekF S G n).2]) ∧ Below w.heap.size w w' := by
  refine (stake_seek S ho _ n (seekI S G n).1 (seekI S G n).2 (R := fun ao ln cp w' => ao = none ∧ ln = 0 ∧ cp = 0) fun hr W hW hs => (sseek (h.below hW) hk S n).mono ?_).mono ?_
  · rintro e w' ⟨rfl, b⟩
    exact ⟨none, 0, 0, rfl, b, rfl, rfl, rfl⟩
  · rintro e w' ⟨hb, ⟨h1, h2, ao, ln, cp, W, rfl, ⟨rfl, rfl, rfl⟩, t, _⟩ | ⟨h1, rfl⟩⟩
    · have e1 : seekF S G n = ((seekI S G n).1, 0) := by rw [seekF, if_pos (by rw [h1, h2]; rfl)]
      rw [e1]
      exact ⟨rfl, hb⟩
    · have e1 : seekF S G n = (S, 7) := by rw [seekF, if_neg (by rw [h1]; simp)]
      rw [e1]
      exact ⟨rfl, hb⟩
theorem frame_pp (t : Array Value) (h : t.size = 16) : ∃ u : Nat → Value, t = List.toArray (u 0 :: u 1 :: u 2 :: u 3 :: u 4 :: u 5 :: u 6 :: u 7 :: u 8 :: u 9 :: u 10 :: u 11 :: u 12 :: u 13 :: u 14 :: u 15 :: []) := by
  refine ⟨fun i => t.getD i undef, ?_⟩
  refine Eq.trans (b := ((List.range 16).map fun i => t.getD i undef).toArray) ?_ rfl
  apply Array.ext
  · simp [h]
  · intro k h1 h2
    simp [Array.getD, h1]
structure Vpp where
  v0 : Value
  v1 : Value
  v2 : Value
  v3 : Value
  v6 : Value
  v7 : Value
  v8 : Value
structure Fpp (a : Act) (v : Vpp) : Prop where
  size : a.tmps.size = 16
  defers : a.defers = []
  s0 : a.tmps.getD 0 undef = v.v0
  s1 : a.tmps.getD 1 undef = v.v1
  s2 : a.tmps.getD 2 undef = v.v2
  s3 : a.tmps.getD 3 undef = v.v3
  s6 : a.tmps.getD 6 undef = v.v6
  s7 : a.tmps.getD 7 undef = v.v7
  s8 : a.tmps.getD 8 undef = v.v8
theorem frx_pp {a : Act} {v0 v1 v2 v3 v6 v7 v8 : Value} (h : Fpp a ⟨v0, v1, v2, v3, v6, v7, v8⟩) : ∃ u : Nat → Value, a = ⟨List.toArray (v0 :: v1 :: v2 :: v3 :: u 4 :: u 5 :: v6 :: v7 :: v8 :: u 9 :: u 10 :: u 11 :: u 12 :: u 13 :: u 14 :: u 15 :: []), []⟩ := by
  obtain ⟨t', d'⟩ := a
  obtain ⟨hs, hd, q0, q1, q2, q3, q6, q7, q8⟩ := h
  obtain ⟨u, hu⟩ := frame_pp t' hs
  simp only at hd q0 q1 q2 q3 q6 q7 q8
  subst hu hd
  have e0 : u 0 = v0 := q0
  have e1 : u 1 = v1 := q1
  have e2 : u 2 = v2 := q2
  have e3 : u 3 = v3 := q3
  have e6 : u 6 = v6 := q6
  have e7 : u 7 = v7 := q7
  have e8 : u 8 = v8 := q8
  refine ⟨u, ?_⟩
  rw [e0, e1, e2, e3, e6, e7, e8]
theorem pp_r0 {K : Act → World → Prop} {c : Code} (hc : regOf (Tryz.f108.body.getD .skip) 0 = some c) (a : Act) {v : Vpp} {wq : World} {xn xt : ByteArray} {xc xx : Int} (hF : Fpp a v) (h0v : v.v0 = .agg #[.string xn, .string xt, .int .i64 xc, .int .i64 xx]) (hQ : ∀ a', Fpp a' { v with v3 := .pointer (some ⟨wq.heap.size, 0, none⟩), v6 := .pointer (some ⟨wq.heap.size + 1, 0, none⟩), v7 := .slice none 0 0, v8 := .int .i64 0 } → K a' ((wq.alloc (.cells #[.string xn, .string xt, .int .i64 xc, .int .i64 xx] 91)).alloc (.cells #[.string ⟨#[]⟩, .string ⟨#[]⟩, .int .i64 0, .int .i64 0] 91))) :
    Code.wp Tryz.prog c (Exit.then K fun _ _ _ => False) a wq := by
  have HQ := hide hQ
  clear hQ
  obtain ⟨v0, v1, v2, v3, v6, v7, v8⟩ := v
  simp only at h0v HQ
  subst h0v
  obtain ⟨u, rfl⟩ := frx_pp hF
  clear hF
  simp only [Tryz.f108, Option.getD_some, regOf] at hc
  injection hc with hc
  subst hc
  go_wp2
  exact HQ.out _ ⟨rfl, rfl, rfl, rfl, rfl, rfl, rfl, rfl, rfl⟩
theorem frame_pa (t : Array Value) (h : t.size = 17) : ∃ u : Nat → Value, t = List.toArray (u 0 :: u 1 :: u 2 :: u 3 :: u 4 :: u 5 :: u 6 :: u 7 :: u 8 :: u 9 :: u 10 :: u 11 :: u 12 :: u 13 :: u 14 :: u 15 :: u 16 :: []) := by
  refine ⟨fun i => t.getD i undef, ?_⟩
  refine Eq.trans (b := ((List.range 17).map fun i => t.getD i undef).toArray) ?_ rfl
  apply Array.ext
  · simp [h]
  · intro k h1 h2
    simp [Array.getD, h1]
structure Vpa where
  v0 : Value
  v1 : Value
  v2 : Value
  v4 : Value
  v5 : Value
  v7 : Value
structure Fpa (a : Act) (v : Vpa) : Prop where
  size : a.tmps.size = 17
  defers : a.defers = []
  s0 : a.tmps.getD 0 undef = v.v0
  s1 : a.tmps.getD 1 undef = v.v1
  s2 : a.tmps.getD 2 undef = v.v2
  s4 : a.tmps.getD 4 undef = v.v4
  s5 : a.tmps.getD 5 undef = v.v5
  s7 : a.tmps.getD 7 undef = v.v7
theorem frx_pa {a : Act} {v0 v1 v2 v4 v5 v7 : Value} (h : Fpa a ⟨v0, v1, v2, v4, v5, v7⟩) : ∃ u : Nat → Value, a = ⟨List.toArray (v0 :: v1 :: v2 :: u 3 :: v4 :: v5 :: u 6 :: v7 :: u 8 :: u 9 :: u 10 :: u 11 :: u 12 :: u 13 :: u 14 :: u 15 :: u 16 :: []), []⟩ := by
  obtain ⟨t', d'⟩ := a
  obtain ⟨hs, hd, q0, q1, q2, q4, q5, q7⟩ := h
  obtain ⟨u, hu⟩ := frame_pa t' hs
  simp only at hd q0 q1 q2 q4 q5 q7
  subst hu hd
  have e0 : u 0 = v0 := q0
  have e1 : u 1 = v1 := q1
  have e2 : u 2 = v2 := q2
  have e4 : u 4 = v4 := q4
  have e5 : u 5 = v5 := q5
  have e7 : u 7 = v7 := q7
  refine ⟨u, ?_⟩
  rw [e0, e1, e2, e4, e5, e7]
theorem pa_r0 {K : Act → World → Prop} {c : Code} (hc : regOf (Tryz.f109.body.getD .skip) 0 = some c) (a : Act) {v : Vpa} {wq : World} {xn xt : ByteArray} {xc xx : Int} (hF : Fpa a v) (h0v : v.v0 = .agg #[.string xn, .string xt, .int .i64 xc, .int .i64 xx]) (hQ : ∀ a', Fpa a' { v with v2 := .pointer (some ⟨wq.heap.size, 0, none⟩), v4 := .pointer (some ⟨wq.heap.size + 1, 0, none⟩), v5 := .int .i64 0 } → K a' ((wq.alloc (.cells #[.string xn, .string xt, .int .i64 xc, .int .i64 xx] 91)).alloc (.cells #[.string ⟨#[]⟩, .string ⟨#[]⟩, .int .i64 0, .int .i64 0] 91))) :
    Code.wp Tryz.prog c (Exit.then K fun _ _ _ => False) a wq := by
  have HQ := hide hQ
  clear hQ
  obtain ⟨v0, v1, v2, v4, v5, v7⟩ := v
  simp only at h0v HQ
  subst h0v
  obtain ⟨u, rfl⟩ := frx_pa hF
  clear hF
  simp only [Tryz.f109, Option.getD_some, regOf] at hc
  injection hc with hc
  subst hc
  go_wp2
  exact HQ.out _ ⟨rfl, rfl, rfl, rfl, rfl, rfl, rfl, rfl⟩
theorem frame_ps (t : Array Value) (h : t.size = 20) : ∃ u : Nat → Value, t = List.toArray (u 0 :: u 1 :: u 2 :: u 3 :: u 4 :: u 5 :: u 6 :: u 7 :: u 8 :: u 9 :: u 10 :: u 11 :: u 12 :: u 13 :: u 14 :: u 15 :: u 16 :: u 17 :: u 18 :: u 19 :: []) := by
  refine ⟨fun i => t.getD i undef, ?_⟩
  refine Eq.trans (b := ((List.range 20).map fun i => t.getD i undef).toArray) ?_ rfl
  apply Array.ext
  · simp [h]
  · intro k h1 h2
    simp [Array.getD, h1]
structure Vps where
  v0 : Value
  v1 : Value
  v2 : Value
  v3 : Value
  v6 : Value
  v7 : Value
  v9 : Value
structure Fps (a : Act) (v : Vps) : Prop where
  size : a.tmps.size = 20
  defers : a.defers = []
  s0 : a.tmps.getD 0 undef = v.v0
  s1 : a.tmps.getD 1 undef = v.v1
  s2 : a.tmps.getD 2 undef = v.v2
  s3 : a.tmps.getD 3 undef = v.v3
  s6 : a.tmps.getD 6 undef = v.v6
  s7 : a.tmps.getD 7 undef = v.v7
  s9 : a.tmps.getD 9 undef = v.v9
theorem frx_ps {a : Act} {v0 v1 v2 v3 v6 v7 v9 : Value} (h : Fps a ⟨v0, v1, v2, v3, v6, v7, v9⟩) : ∃ u : Nat → Value, a = ⟨List.toArray (v0 :: v1 :: v2 :: v3 :: u 4 :: u 5 :: v6 :: v7 :: u 8 :: v9 :: u 10 :: u 11 :: u 12 :: u 13 :: u 14 :: u 15 :: u 16 :: u 17 :: u 18 :: u 19 :: []), []⟩ := by
  obtain ⟨t', d'⟩ := a
  obtain ⟨hs, hd, q0, q1, q2, q3, q6, q7, q9⟩ := h
  obtain ⟨u, hu⟩ := frame_ps t' hs
  simp only at hd q0 q1 q2 q3 q6 q7 q9
  subst hu hd
  have e0 : u 0 = v0 := q0
  have e1 : u 1 = v1 := q1
  have e2 : u 2 = v2 := q2
  have e3 : u 3 = v3 := q3
  have e6 : u 6 = v6 := q6
  have e7 : u 7 = v7 := q7
  have e9 : u 9 = v9 := q9
  refine ⟨u, ?_⟩
  rw [e0, e1, e2, e3, e6, e7, e9]
theorem ps_r0 {K : Act → World → Prop} {c : Code} (hc : regOf (Tryz.f110.body.getD .skip) 0 = some c) (a : Act) {v : Vps} {wq : World} {xn xt : ByteArray} {xc xx : Int} (hF : Fps a v) (h0v : v.v0 = .agg #[.string xn, .string xt, .int .i64 xc, .int .i64 xx]) (hQ : ∀ a', Fps a' { v with v3 := .pointer (some ⟨wq.heap.size, 0, none⟩), v6 := .pointer (some ⟨wq.heap.size + 1, 0, none⟩), v7 := .int .i64 0 } → K a' ((wq.alloc (.cells #[.string xn, .string xt, .int .i64 xc, .int .i64 xx] 91)).alloc (.cells #[.string ⟨#[]⟩, .string ⟨#[]⟩, .int .i64 0, .int .i64 0] 91))) :
    Code.wp Tryz.prog c (Exit.then K fun _ _ _ => False) a wq := by
  have HQ := hide hQ
  clear hQ
  obtain ⟨v0, v1, v2, v3, v6, v7, v9⟩ := v
  simp only at h0v HQ
  subst h0v
  obtain ⟨u, rfl⟩ := frx_ps hF
  clear hF
  simp only [Tryz.f110, Option.getD_some, regOf] at hc
  injection hc with hc
  subst hc
  go_wp2
  exact HQ.out _ ⟨rfl, rfl, rfl, rfl, rfl, rfl, rfl, rfl, rfl⟩
theorem pp_r1 {K : Act → World → Prop} {c : Code} (hc : regOf (Tryz.f108.body.getD .skip) 1 = some c) (a : Act) {v : Vpp} {wq : World} {sb rb : Nat} {xn xt yn yt : ByteArray} {xc xx yc yx n cd : Int} {tp : Option Addr} {R : Option Addr → Nat → Nat → World → Prop} (hF : Fpp a v) (h1v : v.v1 = .pointer tp) (h2v : v.v2 = .int .i64 n) (h3v : v.v3 = .pointer (some ⟨sb, 0, none⟩)) (h6v : v.v6 = .pointer (some ⟨rb, 0, none⟩)) (hS : wq.heap[sb]? = some (.cells #[.string xn, .string xt, .int .i64 xc, .int .i64 xx] 91 (0, 0))) (hR : wq.heap[rb]? = some (.cells #[.string ⟨#[]⟩, .string ⟨#[]⟩, .int .i64 0, .int .i64 0] 91 (0, 0))) (hE : Calls Tryz.prog 134 #[.func (.func 135) #[] #[], .agg #[.string xn, .string xt, .int .i64 xc, .int .i64 xx], .pointer tp, .int .i64 n] wq fun e w' => ∃ ao ln cp, e = .returned (.tuple #[.agg #[.string yn, .string yt, .int .i64 yc, .int .i64 yx], .slice ao ln cp, .int .i64 cd]) ∧ Below wq.heap.size wq w' ∧ R ao ln cp w')
    (hQ : ∀ a' w1 ao ln cp, Fpp a' { v with v7 := .slice ao ln cp, v8 := .int .i64 cd } → Below wq.heap.size wq w1 → R ao ln cp w1 → K a' (set4 w1 rb (.string yn) (.string yt) (.int .i64 yc) (.int .i64 yx))) :
    Code.wp Tryz.prog c (Exit.then K fun _ _ _ => False) a wq := by
  have HQ := hide hQ
  clear hQ
  obtain ⟨v0, v1, v2, v3, v6, v7, v8⟩ := v
  simp only at h1v h2v h3v h6v HQ
  subst h1v h2v h3v h6v
  obtain ⟨u, rfl⟩ := frx_pp hF
  clear hF
  simp only [Tryz.f108, Option.getD_some, regOf] at hc
  injection hc with hc
  subst hc
  have HE := hide hE
  have HS := hide hR
  obtain ⟨⟨c0, c1, c2, c3⟩, _⟩ := box4 hS
  unfold set4 at HQ
  clear hE hS hR
  go_wp2_with (go_at_call 134; refine HE.out.mono ?_; rintro e w1 ⟨ao, ln, cp, rfl, b1, r1⟩; have R1 := hide r1; clear r1; have hR2 := Below.at b1 HS.out; obtain ⟨⟨d0, d1, d2, d3⟩, f0, f1, f2, f3⟩ := box4 hR2; have B1 := hide b1; clear b1 hR2 c0 c1 c2 c3)
  exact HQ.out _ _ _ _ _ ⟨rfl, rfl, rfl, rfl, rfl, rfl, rfl, rfl, rfl⟩ B1.out R1.out
theorem pa_r1 {K : Act → World → Prop} {c : Code} (hc : regOf (Tryz.f109.body.getD .skip) 1 = some c) (a : Act) {v : Vpa} {wq : World} {sb : Nat} {xn xt yn yt : ByteArray} {xc xx yc yx n cd : Int} (hF : Fpa a v) (h1v : v.v1 = .int .i64 n) (h2v : v.v2 = .pointer (some ⟨sb, 0, none⟩)) (hS : wq.heap[sb]? = some (.cells #[.string xn, .string xt, .int .i64 xc, .int .i64 xx] 91 (0, 0))) (hE : Calls Tryz.prog 134 #[.func (.func 136) #[] #[], .agg #[.string xn, .string xt, .int .i64 xc, .int .i64 xx], .pointer none, .int .i64 n] wq fun e w' => e = .returned (.tuple #[.agg #[.string yn, .string yt, .int .i64 yc, .int .i64 yx], .slice none 0 0, .int .i64 cd]) ∧ Below wq.heap.size wq w')
    (hQ : ∀ a' w1, Fpa a' { v with v7 := .int .i64 cd } → Below wq.heap.size wq w1 → K a' (set4 w1 sb (.string yn) (.string yt) (.int .i64 yc) (.int .i64 yx))) :
    Code.wp Tryz.prog c (Exit.then K fun _ _ _ => False) a wq := by
  have HQ := hide hQ
  clear hQ
  obtain ⟨v0, v1, v2, v4, v5, v7⟩ := v
  simp only at h1v h2v HQ
  subst h1v h2v
  obtain ⟨u, rfl⟩ := frx_pa hF
  clear hF
  simp only [Tryz.f109, Option.getD_some, regOf] at hc
  injection hc with hc
  subst hc
  have HE := hide hE
  have HS := hide hS
  obtain ⟨⟨c0, c1, c2, c3⟩, _⟩ := box4 hS
  unfold set4 at HQ
  clear hE hS
  go_wp2_with (go_at_call 134; refine HE.out.mono ?_; rintro e w1 ⟨rfl, b1⟩; have hR2 := Below.at b1 HS.out; obtain ⟨⟨d0, d1, d2, d3⟩, f0, f1, f2, f3⟩ := box4 hR2; have B1 := hide b1; clear b1 hR2 c0 c1 c2 c3)
  exact HQ.out _ _ ⟨rfl, rfl, rfl, rfl, rfl, rfl, rfl, rfl⟩ B1.out
theorem ps_r1 {K : Act → World → Prop} {c : Code} (hc : regOf (Tryz.f110.body.getD .skip) 1 = some c) (a : Act) {v : Vps} {wq : World} {sb : Nat} {xn xt yn yt : ByteArray} {xc xx yc yx n cd : Int} {tp : Option Addr} (hF : Fps a v) (h1v : v.v1 = .pointer tp) (h2v : v.v2 = .int .i64 n) (h3v : v.v3 = .pointer (some ⟨sb, 0, none⟩)) (hS : wq.heap[sb]? = some (.cells #[.string xn, .string xt, .int .i64 xc, .int .i64 xx] 91 (0, 0))) (hE : Calls Tryz.prog 134 #[.func (.func 137) #[] #[], .agg #[.string xn, .string xt, .int .i64 xc, .int .i64 xx], .pointer tp, .int .i64 n] wq fun e w' => e = .returned (.tuple #[.agg #[.string yn, .string yt, .int .i64 yc, .int .i64 yx], .slice none 0 0, .int .i64 cd]) ∧ Below wq.heap.size wq w')
    (hQ : ∀ a' w1, Fps a' { v with v9 := .int .i64 cd } → Below wq.heap.size wq w1 → K a' (set4 w1 sb (.string yn) (.string yt) (.int .i64 yc) (.int .i64 yx))) :
    Code.wp Tryz.prog c (Exit.then K fun _ _ _ => False) a wq := by
  have HQ := hide hQ
  clear hQ
  obtain ⟨v0, v1, v2, v3, v6, v7, v9⟩ := v
  simp only at h1v h2v h3v HQ
  subst h1v h2v h3v
  obtain ⟨u, rfl⟩ := frx_ps hF
  clear hF
  simp only [Tryz.f110, Option.getD_some, regOf] at hc
  injection hc with hc
  subst hc
  have HE := hide hE
  have HS := hide hS
  obtain ⟨⟨c0, c1, c2, c3⟩, _⟩ := box4 hS
  unfold set4 at HQ
  clear hE hS
  go_wp2_with (go_at_call 134; refine HE.out.mono ?_; rintro e w1 ⟨rfl, b1⟩; have hR2 := Below.at b1 HS.out; obtain ⟨⟨d0, d1, d2, d3⟩, f0, f1, f2, f3⟩ := box4 hR2; have B1 := hide b1; clear b1 hR2 c0 c1 c2 c3)
  exact HQ.out _ _ ⟨rfl, rfl, rfl, rfl, rfl, rfl, rfl, rfl, rfl⟩ B1.out
theorem pa_r2 {K : Act → World → Prop} {c : Code} (hc : regOf (Tryz.f109.body.getD .skip) 2 = some c) (a : Act) {v : Vpa} {wq : World} {sb rb : Nat} {xn xt : ByteArray} {xc xx cd : Int} (hF : Fpa a v) (h2v : v.v2 = .pointer (some ⟨sb, 0, none⟩)) (h4v : v.v4 = .pointer (some ⟨rb, 0, none⟩)) (h7v : v.v7 = .int .i64 cd) (hS : wq.heap[sb]? = some (.cells #[.string xn, .string xt, .int .i64 xc, .int .i64 xx] 91 (0, 0))) (hR : wq.heap[rb]? = some (.cells #[.string ⟨#[]⟩, .string ⟨#[]⟩, .int .i64 0, .int .i64 0] 91 (0, 0)))
    (hQ : ∀ a', Fpa a' { v with v5 := .int .i64 cd } → K a' (set4 wq rb (.string xn) (.string xt) (.int .i64 xc) (.int .i64 xx))) :
    Code.wp Tryz.prog c (Exit.then K fun _ _ _ => False) a wq := by
  have HQ := hide hQ
  clear hQ
  obtain ⟨v0, v1, v2, v4, v5, v7⟩ := v
  simp only at h2v h4v h7v HQ
  subst h2v h4v h7v
  obtain ⟨u, rfl⟩ := frx_pa hF
  clear hF
  simp only [Tryz.f109, Option.getD_some, regOf] at hc
  injection hc with hc
  subst hc
  obtain ⟨⟨c0, c1, c2, c3⟩, _⟩ := box4 hS
  obtain ⟨⟨d0, d1, d2, d3⟩, f0, f1, f2, f3⟩ := box4 hR
  unfold set4 at HQ
  clear hS hR
  go_wp2
  exact HQ.out _ ⟨rfl, rfl, rfl, rfl, rfl, rfl, rfl, rfl⟩
theorem ps_r2 {K : Act → World → Prop} {c : Code} (hc : regOf (Tryz.f110.body.getD .skip) 2 = some c) (a : Act) {v : Vps} {wq : World} {sb rb : Nat} {xn xt : ByteArray} {xc xx cd : Int} (hF : Fps a v) (h3v : v.v3 = .pointer (some ⟨sb, 0, none⟩)) (h6v : v.v6 = .pointer (some ⟨rb, 0, none⟩)) (h9v : v.v9 = .int .i64 cd) (hS : wq.heap[sb]? = some (.cells #[.string xn, .string xt, .int .i64 xc, .int .i64 xx] 91 (0, 0))) (hR : wq.heap[rb]? = some (.cells #[.string ⟨#[]⟩, .string ⟨#[]⟩, .int .i64 0, .int .i64 0] 91 (0, 0)))
    (hQ : ∀ a', Fps a' { v with v7 := .int .i64 cd } → K a' (set4 wq rb (.string xn) (.string xt) (.int .i64 xc) (.int .i64 xx))) :
    Code.wp Tryz.prog c (Exit.then K fun _ _ _ => False) a wq := by
  have HQ := hide hQ
  clear hQ
  obtain ⟨v0, v1, v2, v3, v6, v7, v9⟩ := v
  simp only at h3v h6v h9v HQ
  subst h3v h6v h9v
  obtain ⟨u, rfl⟩ := frx_ps hF
  clear hF
  simp only [Tryz.f110, Option.getD_some, regOf] at hc
  injection hc with hc
  subst hc
  obtain ⟨⟨c0, c1, c2, c3⟩, _⟩ := box4 hS
  obtain ⟨⟨d0, d1, d2, d3⟩, f0, f1, f2, f3⟩ := box4 hR
  unfold set4 at HQ
  clear hS hR
  go_wp2
  exact HQ.out _ ⟨rfl, rfl, rfl, rfl, rfl, rfl, rfl, rfl, rfl⟩
theorem spoll {w : World} {L : LOC} {G : TG} {c : Nat} (h : TAt w L G) (hk : G.Ok c) (S : SB) (ho : S.ok) (n : Int) (hn : n ≤ 9223372036854775807) :
    Calls Tryz.prog 108 #[S.v, .pointer (some ⟨L.b, 0, none⟩), .int .i64 n] w fun e w' => ∃ ao cp, e = .returned (.tuple #[SB.v (pollF S G n).1, .slice ao (pollF S G n).2.1.length cp, .int .i64 (pollF S G n).2.2]) ∧ RecsAt w' (.slice ao (pollF S G n).2.1.length cp) (pollF S G n).2.1 ∧ Below w.heap.size w w' ∧ ∀ g, (Value.slice ao 0 cp).ownBlock = some g → w.heap.size ≤ g := by
  have HE := hide (fun W (hW : Below w.heap.size w W) => tkpoll (h.below hW) hk S ho n hn)
  generalize hP : pollF S G n = P at *
  clear hP
  obtain ⟨⟨yn, yt, yc, yx⟩, RL, cd⟩ := P
  obtain ⟨xn, xt, xc, xx⟩ := S
  simp only [SB.v] at *
  have hb1 : Below w.heap.size w ((w.alloc (.cells #[.string xn, .string xt, .int .i64 xc, .int .i64 xx] 91)).alloc (.cells #[.string ⟨#[]⟩, .string ⟨#[]⟩, .int .i64 0, .int .i64 0] 91)) := ((Below.refl w.heap.size w).alloc (Nat.le_refl _) _).alloc (by simp) _
  have x1 : ((w.alloc (.cells #[.string xn, .string xt, .int .i64 xc, .int .i64 xx] 91)).alloc (.cells #[.string ⟨#[]⟩, .string ⟨#[]⟩, .int .i64 0, .int .i64 0] 91)).heap[w.heap.size]? = some (.cells #[.string xn, .string xt, .int .i64 xc, .int .i64 xx] 91 (0, 0)) := box_alloc (heap_alloc_new w _) _
  have x2 : ((w.alloc (.cells #[.string xn, .string xt, .int .i64 xc, .int .i64 xx] 91)).alloc (.cells #[.string ⟨#[]⟩, .string ⟨#[]⟩, .int .i64 0, .int .i64 0] 91)).heap[w.heap.size + 1]? = some (.cells #[.string ⟨#[]⟩, .string ⟨#[]⟩, .int .i64 0, .int .i64 0] 91 (0, 0)) := by
    have := heap_alloc_new (w.alloc (.cells #[.string xn, .string xt, .int .i64 xc, .int .i64 xx] 91)) (.cells #[.string ⟨#[]⟩, .string ⟨#[]⟩, .int .i64 0, .int .i64 0] 91)
    simpa using this
  go_enter Tryz.func108, Tryz.ntmps108
  refine wp_seq (reg_mono (pp_r0 (by kernel_rfl) _ (v := ⟨_, _, _, _, _, _, _⟩) ⟨rfl, rfl, rfl, rfl, rfl, rfl, rfl, rfl, rfl⟩ rfl ?_))
  intro a1 F1
  try dsimp only at F1
  generalize (w.alloc (.cells #[.string xn, .string xt, .int .i64 xc, .int .i64 xx] 91)).alloc (.cells #[.string ⟨#[]⟩, .string ⟨#[]⟩, .int .i64 0, .int .i64 0] 91) = w1 at *
  refine wp_seq (reg_mono (pp_r1 (yn := yn) (yt := yt) (yc := yc) (yx := yx) (cd := cd) (by kernel_rfl) _ F1 rfl rfl rfl rfl x1 x2 (R := fun ao ln cp w' => ln = RL.length ∧ RecsAt w' (.slice ao RL.length cp) RL ∧ ∀ g, (Value.slice ao 0 cp).ownBlock = some g → w1.heap.size ≤ g) ((HE.out w1 hb1).mono ?_) ?_))
  · rintro e w2 ⟨ao, cp, rfl, r2, b2, n2⟩
    exact ⟨ao, _, cp, rfl, b2, rfl, r2, n2⟩
  rintro a2 w2 ao ln cp F2 b2 ⟨rfl, r2, n2⟩
  try dsimp only at F2
  have hlt := heap_lt x2
  refine wp_ret ?_
  have X9 := set4_box (x0 := .string yn) (x1 := .string yt) (x2 := .int .i64 yc) (x3 := .int .i64 yx) (Below.at b2 x2)
  obtain ⟨⟨e0, e1, e2, e3⟩, _⟩ := box4 X9
  refine bodyPost_ret (v := .tuple #[.agg #[.string yn, .string yt, .int .i64 yc, .int .i64 yx], .slice ao RL.length cp, .int .i64 cd]) ?_ F2.defers ⟨ao, cp, rfl, recs_touch r2 (set4_touch _ _) (fun j hj e => by have := n2 j ((own_block _ _ _ _).trans hj); omega), set4_below (hb1.trans (b2.mono hb1.size)) (Nat.le_succ _), fun g hg => Nat.le_trans hb1.size (n2 g hg)⟩
  simp [results, Tryz.results108, go_sem, slot_get F2.s6, slot_get F2.s7, slot_get F2.s8, e0, e1, e2, e3]
theorem sseekP {w : World} {L : LOC} {G : TG} {c : Nat} (h : TAt w L G) (hk : G.Ok c) (S : SB) (ho : S.ok) (n : Int) :
    Calls Tryz.prog 110 #[S.v, .pointer (some ⟨L.b, 0, none⟩), .int .i64 n] w fun e w' => e = .returned (.tuple #[SB.v (seekF S G n).1, .int .i64 (seekF S G n).2]) ∧ Below w.heap.size w w' := by
  have HE := hide (fun W (hW : Below w.heap.size w W) => tkseek (h.below hW) hk S ho n)
  generalize hP : seekF S G n = P at *
  clear hP
  obtain ⟨⟨yn, yt, yc, yx⟩, cd⟩ := P
  obtain ⟨xn, xt, xc, xx⟩ := S
  simp only [SB.v] at *
  have hb1 : Below w.heap.size w ((w.alloc (.cells #[.string xn, .string xt, .int .i64 xc, .int .i64 xx] 91)).alloc (.cells #[.string ⟨#[]⟩, .string ⟨#[]⟩, .int .i64 0, .int .i64 0] 91)) := ((Below.refl w.heap.size w).alloc (Nat.le_refl _) _).alloc (by simp) _
  have x1 : ((w.alloc (.cells #[.string xn, .string xt, .int .i64 xc, .int .i64 xx] 91)).alloc (.cells #[.string ⟨#[]⟩, .string ⟨#[]⟩, .int .i64 0, .int .i64 0] 91)).heap[w.heap.size]? = some (.cells #[.string xn, .string xt, .int .i64 xc, .int .i64 xx] 91 (0, 0)) := box_alloc (heap_alloc_new w _) _
  have x2 : ((w.alloc (.cells #[.string xn, .string xt, .int .i64 xc, .int .i64 xx] 91)).alloc (.cells #[.string ⟨#[]⟩, .string ⟨#[]⟩, .int .i64 0, .int .i64 0] 91)).heap[w.heap.size + 1]? = some (.cells #[.string ⟨#[]⟩, .string ⟨#[]⟩, .int .i64 0, .int .i64 0] 91 (0, 0)) := by
    have := heap_alloc_new (w.alloc (.cells #[.string xn, .string xt, .int .i64 xc, .int .i64 xx] 91)) (.cells #[.string ⟨#[]⟩, .string ⟨#[]⟩, .int .i64 0, .int .i64 0] 91)
    simpa using this
  go_enter Tryz.func110, Tryz.ntmps110
  refine wp_seq (reg_mono (ps_r0 (by kernel_rfl) _ (v := ⟨_, _, _, _, _, _, _⟩) ⟨rfl, rfl, rfl, rfl, rfl, rfl, rfl, rfl, rfl⟩ rfl ?_))
  intro a1 F1
  try dsimp only at F1
  generalize (w.alloc (.cells #[.string xn, .string xt, .int .i64 xc, .int .i64 xx] 91)).alloc (.cells #[.string ⟨#[]⟩, .string ⟨#[]⟩, .int .i64 0, .int .i64 0] 91) = w1 at *
  refine wp_seq (reg_mono (ps_r1 (by kernel_rfl) _ F1 rfl rfl rfl x1 (HE.out w1 hb1) ?_))
  intro a2 w2 F2 b2
  try dsimp only at F2
  have hne : w.heap.size + 1 ≠ w.heap.size := by omega
  have y1 := set4_box (x0 := .string yn) (x1 := .string yt) (x2 := .int .i64 yc) (x3 := .int .i64 yx) (Below.at b2 x1)
  have y2 := (set4_touch (w := w2) (b := w.heap.size) (.string yn) (.string yt) (x2 := .int .i64 yc) (x3 := .int .i64 yx)).at (Below.at b2 x2) hne
  have B2 := set4_below (x0 := .string yn) (x1 := .string yt) (x2 := .int .i64 yc) (x3 := .int .i64 yx) (hb1.trans (b2.mono hb1.size)) (Nat.le_refl w.heap.size)
  generalize set4 w2 w.heap.size (.string yn) (.string yt) (.int .i64 yc) (.int .i64 yx) = w3 at *
  refine wp_seq (reg_mono (ps_r2 (by kernel_rfl) _ F2 rfl rfl rfl y1 y2 ?_))
  intro a3 F3
  try dsimp only at F3
  refine wp_ret ?_
  have X9 := set4_box (x0 := .string yn) (x1 := .string yt) (x2 := .int .i64 yc) (x3 := .int .i64 yx) y2
  obtain ⟨⟨e0, e1, e2, e3⟩, _⟩ := box4 X9
  refine bodyPost_ret (v := .tuple #[.agg #[.string yn, .string yt, .int .i64 yc, .int .i64 yx], .int .i64 cd]) ?_ F3.defers ⟨rfl, set4_below B2 (Nat.le_succ _)⟩
  simp [results, Tryz.results110, go_sem, slot_get F3.s6, slot_get F3.s7, e0, e1, e2, e3]
theorem sackP {w : World} (S : SB) (ho : S.ok) (n : Int) :
    Calls Tryz.prog 109 #[S.v, .int .i64 n] w fun e w' => e = .returned (.tuple #[SB.v (ackF S n).1, .int .i64 (ackF S n).2]) ∧ Below w.heap.size w w' := by
  have HE := hide (fun W (hW : Below w.heap.size w W) => tkack (w := W) S ho none n)
  generalize hP : ackF S n = P at *
  clear hP
  obtain ⟨⟨yn, yt, yc, yx⟩, cd⟩ := P
  obtain ⟨xn, xt, xc, xx⟩ := S
  simp only [SB.v] at *
  have hb1 : Below w.heap.size w ((w.alloc (.cells #[.string xn, .string xt, .int .i64 xc, .int .i64 xx] 91)).alloc (.cells #[.string ⟨#[]⟩, .string ⟨#[]⟩, .int .i64 0, .int .i64 0] 91)) := ((Below.refl w.heap.size w).alloc (Nat.le_refl _) _).alloc (by simp) _
  have x1 : ((w.alloc (.cells #[.string xn, .string xt, .int .i64 xc, .int .i64 xx] 91)).alloc (.cells #[.string ⟨#[]⟩, .string ⟨#[]⟩, .int .i64 0, .int .i64 0] 91)).heap[w.heap.size]? = some (.cells #[.string xn, .string xt, .int .i64 xc, .int .i64 xx] 91 (0, 0)) := box_alloc (heap_alloc_new w _) _
  have x2 : ((w.alloc (.cells #[.string xn, .string xt, .int .i64 xc, .int .i64 xx] 91)).alloc (.cells #[.string ⟨#[]⟩, .string ⟨#[]⟩, .int .i64 0, .int .i64 0] 91)).heap[w.heap.size + 1]? = some (.cells #[.string ⟨#[]⟩, .string ⟨#[]⟩, .int .i64 0, .int .i64 0] 91 (0, 0)) := by
    have := heap_alloc_new (w.alloc (.cells #[.string xn, .string xt, .int .i64 xc, .int .i64 xx] 91)) (.cells #[.string ⟨#[]⟩, .string ⟨#[]⟩, .int .i64 0, .int .i64 0] 91)
    simpa using this
  go_enter Tryz.func109, Tryz.ntmps109
  refine wp_seq (reg_mono (pa_r0 (by kernel_rfl) _ (v := ⟨_, _, _, _, _, _⟩) ⟨rfl, rfl, rfl, rfl, rfl, rfl, rfl, rfl⟩ rfl ?_))
  intro a1 F1
  try dsimp only at F1
  generalize (w.alloc (.cells #[.string xn, .string xt, .int .i64 xc, .int .i64 xx] 91)).alloc (.cells #[.string ⟨#[]⟩, .string ⟨#[]⟩, .int .i64 0, .int .i64 0] 91) = w1 at *
  refine wp_seq (reg_mono (pa_r1 (by kernel_rfl) _ F1 rfl rfl x1 (HE.out w1 hb1) ?_))
  intro a2 w2 F2 b2
  try dsimp only at F2
  have hne : w.heap.size + 1 ≠ w.heap.size := by omega
  have y1 := set4_box (x0 := .string yn) (x1 := .string yt) (x2 := .int .i64 yc) (x3 := .int .i64 yx) (Below.at b2 x1)
  have y2 := (set4_touch (w := w2) (b := w.heap.size) (.string yn) (.string yt) (x2 := .int .i64 yc) (x3 := .int .i64 yx)).at (Below.at b2 x2) hne
  have B2 := set4_below (x0 := .string yn) (x1 := .string yt) (x2 := .int .i64 yc) (x3 := .int .i64 yx) (hb1.trans (b2.mono hb1.size)) (Nat.le_refl w.heap.size)
  generalize set4 w2 w.heap.size (.string yn) (.string yt) (.int .i64 yc) (.int .i64 yx) = w3 at *
  refine wp_seq (reg_mono (pa_r2 (by kernel_rfl) _ F2 rfl rfl rfl y1 y2 ?_))
  intro a3 F3
  try dsimp only at F3
  refine wp_ret ?_
  have X9 := set4_box (x0 := .string yn) (x1 := .string yt) (x2 := .int .i64 yc) (x3 := .int .i64 yx) y2
  obtain ⟨⟨e0, e1, e2, e3⟩, _⟩ := box4 X9
  refine bodyPost_ret (v := .tuple #[.agg #[.string yn, .string yt, .int .i64 yc, .int .i64 yx], .int .i64 cd]) ?_ F3.defers ⟨rfl, set4_below B2 (Nat.le_succ _)⟩
  simp [results, Tryz.results109, go_sem, slot_get F3.s4, slot_get F3.s5, e0, e1, e2, e3]
end Go.Proofs.YtlfodldlkchmoaaGreat.Y
