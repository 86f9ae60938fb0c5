/-
  granted, as it runs (mksg.py).
-/
import Derived.Test.YtlfodldlkchmoaaGreatZSD
import Derived.Test.YtlfodldlkchmoaaGreatZC2
import Derived.Test.YtlfodldlkchmoaaGreatZPhiG
import Derived.Test.YtlfodldlkchmoaaGreatZC4
namespace Go.Proofs.YtlfodldlkchmoaaGreat.Y
open Go.RowKit
set_option maxHeartbeats 8000000
set_option maxRecDepth 100000
attribute [local go_sem ↓] Go.wp_at_zero Go.wp_at_succ
set_option linter.unusedSimpArgs false
set_option linter.unusedVariables false
theorem frame_gr (t : Array Value) (h : t.size = 21) : ∃ u : Nat → Value, t = List.toArray (u 0 :: u 1 :: u 2 :: u 3 :: u 4 :: u 5 :: u 6 :: u 7 :: u 8 :: u 9 :: u 10 :: u 11 :: u 12 :: u 13 :: u 14 :: u 15 :: u 16 :: u 17 :: u 18 :: u 19 :: u 20 :: []) := by
  refine ⟨fun i => t.getD i undef, ?_⟩
  refine Eq.trans (b := ((List.range 21).map fun i => t.getD i undef).toArray) ?_ rfl
  apply Array.ext
  · simp [h]
  · intro k h1 h2
    simp [Array.getD, h1]
structure Vgr where
  v0 : Value
  v1 : Value
  v2 : Value
  v3 : Value
  v6 : Value
  v7 : Value
structure Fgr (a : Act) (v : Vgr) : Prop where
  size : a.tmps.size = 21
  defers : a.defers = []
  s0 : a.tmps.getD 0 undef = v.v0
  s1 : a.tmps.getD 1 undef = v.v1
  s2 : a.tmps.getD 2 undef = v.v2
  s3 : a.tmps.getD 3 undef = v.v3
  s6 : a.tmps.getD 6 undef = v.v6
  s7 : a.tmps.getD 7 undef = v.v7
theorem frx_gr {a : Act} {v0 v1 v2 v3 v6 v7 : Value} (h : Fgr a ⟨v0, v1, v2, v3, v6, v7⟩) : ∃ u : Nat → Value, a = ⟨List.toArray (v0 :: v1 :: v2 :: v3 :: u 4 :: u 5 :: v6 :: v7 :: u 8 :: u 9 :: u 10 :: u 11 :: u 12 :: u 13 :: u 14 :: u 15 :: u 16 :: u 17 :: u 18 :: u 19 :: u 20 :: []), []⟩ := by
  obtain ⟨t', d'⟩ := a
  obtain ⟨hs, hd, q0, q1, q2, q3, q6, q7⟩ := h
  obtain ⟨u, hu⟩ := frame_gr t' hs
  simp only at hd q0 q1 q2 q3 q6 q7
  subst hu hd
  have e0 : u 0 = v0 := q0
  have e1 : u 1 = v1 := q1
  have e2 : u 2 = v2 := q2
  have e3 : u 3 = v3 := q3
  have e6 : u 6 = v6 := q6
  have e7 : u 7 = v7 := q7
  refine ⟨u, ?_⟩
  rw [e0, e1, e2, e3, e6, e7]
theorem gr_r0 {K : Act → World → Prop} {c : Code} (hc : regOf (Tryz.f166.body.getD .skip) 0 = some c) (a : Act) {v : Vgr} {wq : World} {xn xt : ByteArray} {xc xx : Int} (hF : Fgr a v) (h0v : v.v0 = .agg #[.string xn, .string xt, .int .i64 xc, .int .i64 xx]) (hQ : ∀ a', Fgr a' { v with v3 := .pointer (some ⟨wq.heap.size, 0, none⟩), v6 := .slice none 0 0 } → K a' (wq.alloc (.cells #[.string xn, .string xt, .int .i64 xc, .int .i64 xx] 190))) :
    Code.wp Tryz.prog c (Exit.then K fun _ _ _ => False) a wq := by
  have HQ := hide hQ
  clear hQ
  obtain ⟨v0, v1, v2, v3, v6, v7⟩ := v
  simp only at h0v HQ
  subst h0v
  obtain ⟨u, rfl⟩ := frx_gr hF
  clear hF
  simp only [Tryz.f166, Option.getD_some, regOf] at hc
  injection hc with hc
  subst hc
  go_wp2
  exact HQ.out _ ⟨rfl, rfl, rfl, rfl, rfl, rfl, rfl, rfl⟩
theorem gr_r1 {K : Act → World → Prop} {c : Code} (hc : regOf (Tryz.f166.body.getD .skip) 1 = some c) (a : Act) {v : Vgr} {wq : World} {L : LOC} {G : TG} {sb : Nat} {xn xt : ByteArray} {xc xx mm : Int} (hF : Fgr a v) (h1v : v.v1 = .pointer (some ⟨L.b, 0, none⟩)) (h3v : v.v3 = .pointer (some ⟨sb, 0, none⟩)) (hT : TAt wq L G) (hS : wq.heap[sb]? = some (.cells #[.string xn, .string xt, .int .i64 xc, .int .i64 xx] 190 (0, 0))) (hM : max xc (G.low : Int) = mm) (m1 : 0 ≤ mm) (m2 : mm ≤ 100000000000000000)
    (hQ : ∀ a' w' eb, Fgr a' { v with v7 := .pointer (some ⟨eb, 0, none⟩) } → Below wq.heap.size wq w' → wq.heap.size ≤ eb → w'.heap[eb]? = some (.cells #[.int .i64 (mm + 100)] 3 (0, 0)) → K a' w') :
    Code.wp Tryz.prog c (Exit.then K fun _ _ _ => False) a wq := by
  have HQ := hide hQ
  clear hQ
  obtain ⟨v0, v1, v2, v3, v6, v7⟩ := v
  simp only at h1v h3v HQ
  subst h1v h3v
  obtain ⟨u, rfl⟩ := frx_gr hF
  clear hF
  simp only [Tryz.f166, Option.getD_some, regOf] at hc
  injection hc with hc
  subst hc
  have HS := hide hS
  have HT := hide hT
  have HMX := hide hM
  have HM1 := hide m1
  have HM2 := hide m2
  clear hS hT hM m1 m2
  refine wp_region_last 7 rfl (by kernel_rfl) rfl rfl (by kernel_rfl) ?_
  intro ops' hops'
  simp only [idle, List.setIfInBounds_toArray, List.set_cons_succ, List.set_cons_zero] at hops'
  subst hops'
  refine wpAny_phi (ns := 21) (uses := (fun i => match i with | 0 => [8] | 1 => [9] | 2 => [10] | 3 => [11] | 4 => [12] | 5 => [13] | 6 => [7] | 7 => [] | _ => [])) (by kernel_rfl) (by kernel_rfl) (fun _ w w' => Below w.heap.size w w') (fun w => Below wq.heap.size wq w) (fun _ _ _ h r => h.trans (r.mono h.size)) ((Below.refl _ _).drew) (fun i => match i with | 0 => fun s w => s 8 = .pointer (some ⟨sb, 2, none⟩) | 1 => fun s w => s 9 = .int .i64 xc | 2 => fun s w => s 10 = .pointer (some ⟨L.b, 0, none⟩) | 3 => fun s w => s 11 = .int .i64 (G.low : Int) | 4 => fun s w => s 12 = .int .i64 mm | 5 => fun s w => s 13 = .int .i64 (mm + 100) | 6 => fun s w => ∃ eb, s 7 = .pointer (some ⟨eb, 0, none⟩) ∧ wq.heap.size ≤ eb ∧ w.heap[eb]? = some (.cells #[.int .i64 0] 3 (0, 0)) | 7 => fun s w => True | _ => fun _ _ => True) ?phc ?phh ?pstep ?pdone
  case phc =>
    intro i s s' w hx h
    match i, hx, h with
    | 0, hx, h =>
      have e8 := hx 8 (by simp)
      first | exact (show _ from by simp only [← e8] at *; exact h) | (simp only [e8] at h; exact h)
    | 1, hx, h =>
      have e9 := hx 9 (by simp)
      first | exact (show _ from by simp only [← e9] at *; exact h) | (simp only [e9] at h; exact h)
    | 2, hx, h =>
      have e10 := hx 10 (by simp)
      first | exact (show _ from by simp only [← e10] at *; exact h) | (simp only [e10] at h; exact h)
    | 3, hx, h =>
      have e11 := hx 11 (by simp)
      first | exact (show _ from by simp only [← e11] at *; exact h) | (simp only [e11] at h; exact h)
    | 4, hx, h =>
      have e12 := hx 12 (by simp)
      first | exact (show _ from by simp only [← e12] at *; exact h) | (simp only [e12] at h; exact h)
    | 5, hx, h =>
      have e13 := hx 13 (by simp)
      first | exact (show _ from by simp only [← e13] at *; exact h) | (simp only [e13] at h; exact h)
    | 6, hx, h =>
      have e7 := hx 7 (by simp)
      first | exact (show _ from by simp only [← e7] at *; exact h) | (simp only [e7] at h; exact h)
    | 7, hx, h =>
      exact h
    | (n + 8), _, h => exact h
  case phh =>
    intro i j s w w' hij h hb r
    match i, hij, h with
    | 0, hij, h =>
      exact h
    | 1, hij, h =>
      exact h
    | 2, hij, h =>
      exact h
    | 3, hij, h =>
      exact h
    | 4, hij, h =>
      exact h
    | 5, hij, h =>
      exact h
    | 6, hij, h =>
      obtain ⟨eb, h1, h0, h2⟩ := h
      exact ⟨eb, h1, h0, Below.at r h2⟩
    | 7, hij, h =>
      exact h
    | (n + 8), _, h => exact h
  case pstep =>
    intro i o ho a' w' hsa hb hd
    match i, ho with
    | 0, ho =>
      obtain rfl := Option.some.inj ho
      try dsimp only at hd
      have g3 : a'.tmps.getD 3 undef = .pointer (some ⟨sb, 0, none⟩) := hsa.rest 3 (by rfl)
      refine wpOp_of rfl rfl ?_
      refine op_run (v := .pointer (some ⟨sb, 2, none⟩)) (w' := w') ?_ ⟨_, rfl, ?_, ?_⟩
      · simp only [execOp, Act.eval, List.map_toArray, List.map_cons, List.map_nil, g3]; first | (go_simp; done) | rfl
      · try dsimp only
        exact (slots_put (ns := 21) (hsa.size.trans rfl) (by decide))
      · exact Below.refl _ _
    | 1, ho =>
      obtain rfl := Option.some.inj ho
      try dsimp only at hd
      have d0 : a'.tmps.getD 8 undef = .pointer (some ⟨sb, 2, none⟩) := hd 0 (by rfl)
      have y := box_cell (Below.at hb HS.out) 2 rfl
      refine wpOp_of rfl rfl ?_
      refine op_run (v := .int .i64 xc) (w' := w') ?_ ⟨_, rfl, ?_, ?_⟩
      · simp only [execOp, Act.eval, List.map_toArray, List.map_cons, List.map_nil, d0, y]; first | (go_simp; done) | rfl
      · try dsimp only
        exact (slots_put (ns := 21) (hsa.size.trans rfl) (by decide))
      · exact Below.refl _ _
    | 2, ho =>
      obtain rfl := Option.some.inj ho
      try dsimp only at hd
      have g1 : a'.tmps.getD 1 undef = .pointer (some ⟨L.b, 0, none⟩) := hsa.rest 1 (by rfl)
      refine wpOp_of rfl rfl ?_
      refine op_run (v := .pointer (some ⟨L.b, 0, none⟩)) (w' := w') ?_ ⟨_, rfl, ?_, ?_⟩
      · simp only [execOp, Act.eval, List.map_toArray, List.map_cons, List.map_nil, g1]; first | (go_simp; done) | rfl
      · try dsimp only
        exact (slots_put (ns := 21) (hsa.size.trans rfl) (by decide))
      · exact Below.refl _ _
    | 3, ho =>
      obtain rfl := Option.some.inj ho
      try dsimp only at hd
      have d2 : a'.tmps.getD 10 undef = .pointer (some ⟨L.b, 0, none⟩) := hd 2 (by rfl)
      refine wpOp_of rfl rfl ?_
      refine op_call 38 _ _ rfl (enters_of Tryz.func38 (by kernel_rfl) rfl) [.pointer (some ⟨L.b, 0, none⟩)] (by simp only [List.map, Act.eval, d2]) (tlow (HT.out.below hb)) ?_
      rintro e w'' ⟨rfl, rfl⟩
      refine ⟨_, rfl, _, rfl, ?_, ?_⟩
      · try dsimp only
        exact (slots_put (ns := 21) (hsa.size.trans rfl) (by decide))
      · exact Below.refl _ _
    | 4, ho =>
      obtain rfl := Option.some.inj ho
      try dsimp only at hd
      have d1 : a'.tmps.getD 9 undef = .int .i64 xc := hd 1 (by rfl)
      have d3 : a'.tmps.getD 11 undef = .int .i64 (G.low : Int) := hd 3 (by rfl)
      have y := HMX.out
      refine wpOp_of rfl rfl ?_
      refine op_run (v := .int .i64 mm) (w' := w') ?_ ⟨_, rfl, ?_, ?_⟩
      · simp only [execOp, Act.eval, List.map_toArray, List.map_cons, List.map_nil, d1, d3, y]; first | (go_simp; done) | rfl
      · try dsimp only
        exact (slots_put (ns := 21) (hsa.size.trans rfl) (by decide))
      · exact Below.refl _ _
    | 5, ho =>
      obtain rfl := Option.some.inj ho
      try dsimp only at hd
      have d4 : a'.tmps.getD 12 undef = .int .i64 mm := hd 4 (by rfl)
      have y1 := HM1.out
      have y2 := HM2.out
      have y : IntKind.i64.wrap (mm + 100) = mm + 100 := by rw [IntKind.wrap_i64]; omega
      refine wpOp_of rfl rfl ?_
      refine op_run (v := .int .i64 (mm + 100)) (w' := w') ?_ ⟨_, rfl, ?_, ?_⟩
      · simp only [execOp, Act.eval, List.map_toArray, List.map_cons, List.map_nil, d4, y]; first | (go_simp; done) | rfl
      · try dsimp only
        exact (slots_put (ns := 21) (hsa.size.trans rfl) (by decide))
      · exact Below.refl _ _
    | 6, ho =>
      obtain rfl := Option.some.inj ho
      try dsimp only at hd
      refine wpOp_of rfl rfl ?_
      refine op_run (v := Value.pointer (some ⟨w'.heap.size, 0, none⟩)) (w' := w'.alloc (.cells #[.int .i64 0] 3)) ?_ ⟨_, rfl, ?_, ?_⟩
      · simp only [execOp, Act.eval, List.map_toArray, List.map_cons, List.map_nil]; first | (go_simp; done) | rfl
      · try dsimp only
        exact ⟨_, (slots_put (ns := 21) (hsa.size.trans rfl) (by decide)), hb.size, heap_alloc_new _ _⟩
      · exact (Below.refl _ _).alloc (Nat.le_refl _) _
    | 7, ho =>
      obtain rfl := Option.some.inj ho
      try dsimp only at hd
      refine wpOp_of rfl rfl ?_
      refine op_run (v := undef) (w' := w') ?_ ⟨_, rfl, ?_, ?_⟩
      · rfl
      · try dsimp only
        trivial
      · exact Below.refl _ _
    | (n + 8), ho => exact absurd ho (by simp)
  case pdone =>
    intro a' w' hsa hb hd
    have d0 : a'.tmps.getD 8 undef = .pointer (some ⟨sb, 2, none⟩) := hd 0 (by decide)
    have d1 : a'.tmps.getD 9 undef = .int .i64 xc := hd 1 (by decide)
    have d2 : a'.tmps.getD 10 undef = .pointer (some ⟨L.b, 0, none⟩) := hd 2 (by decide)
    have d3 : a'.tmps.getD 11 undef = .int .i64 (G.low : Int) := hd 3 (by decide)
    have d4 : a'.tmps.getD 12 undef = .int .i64 mm := hd 4 (by decide)
    have d5 : a'.tmps.getD 13 undef = .int .i64 (mm + 100) := hd 5 (by decide)
    have d6 : ∃ eb, a'.tmps.getD 7 undef = .pointer (some ⟨eb, 0, none⟩) ∧ wq.heap.size ≤ eb ∧ w'.heap[eb]? = some (.cells #[.int .i64 0] 3 (0, 0)) := hd 6 (by decide)
    have d7 : True := hd 7 (by decide)
    obtain ⟨eb, d6, h0, h2⟩ := d6
    intro K2 hK2
    have f0 := box_cell h2 0 rfl
    have f1 := box_free h2 0
    refine op_skip (w' := w'.setCell ⟨eb, 0, none⟩ (.int .i64 (mm + 100))) ?_ (hK2 _ _ ?_)
    · simp only [execOp, Act.eval, d6, d5]
      first | (go_simp; done) | (go_simp; rfl)
    exact HQ.out _ _ eb ⟨hsa.size.trans rfl, hsa.defers.trans rfl, hsa.rest 0 (by rfl), hsa.rest 1 (by rfl), hsa.rest 2 (by rfl), hsa.rest 3 (by rfl), hsa.rest 6 (by rfl), d6⟩ (hb.setCell (p := ⟨eb, 0, none⟩) h0 _) h0 (box_set h2 0 _)
theorem gr_r2 {K : Act → World → Prop} {c : Code} (hc : regOf (Tryz.f166.body.getD .skip) 2 = some c) (a : Act) {v : Vgr} {wq : World} {L : LOC} {sb eb : Nat} {xn xt : ByteArray} {xc xx many : Int} {R1 R2 : World → Option Addr → Nat → Nat → Prop} (hF : Fgr a v) (h1v : v.v1 = .pointer (some ⟨L.b, 0, none⟩)) (h2v : v.v2 = .int .i64 many) (h3v : v.v3 = .pointer (some ⟨sb, 0, none⟩)) (h7v : v.v7 = .pointer (some ⟨eb, 0, none⟩)) (hS : wq.heap[sb]? = some (.cells #[.string xn, .string xt, .int .i64 xc, .int .i64 xx] 190 (0, 0))) (hE : Calls Tryz.prog 21 #[.pointer (some ⟨L.b, 0, none⟩), .int .i64 xx, .int .i64 many] wq fun e w' => ∃ ao n cp, e = .returned (.slice ao n cp) ∧ R1 w' ao n cp)
    (hD : ∀ w' ao n cp, R1 w' ao n cp → Calls Tryz.prog 180 #[.slice ao n cp, .func (.func 181) #[] #[.pointer (some ⟨eb, 0, none⟩)]] w' fun e w'' => ∃ m, e = .returned (.slice ao m cp) ∧ R2 w'' ao m cp)
    (hQ : ∀ a' w' ao m cp, Fgr a' { v with v6 := .slice ao m cp } → R2 w' ao m cp → K a' w') :
    Code.wp Tryz.prog c (Exit.then K fun _ _ _ => False) a wq := by
  have HQ := hide hQ
  clear hQ
  obtain ⟨v0, v1, v2, v3, v6, v7⟩ := v
  simp only at h1v h2v h3v h7v HQ
  subst h1v h2v h3v h7v
  obtain ⟨u, rfl⟩ := frx_gr hF
  clear hF
  simp only [Tryz.f166, Option.getD_some, regOf] at hc
  injection hc with hc
  subst hc
  have HE := hide hE
  have HD := hide hD
  have c3 := box_cell hS 3 rfl
  clear hE hD hS
  go_wp2_with (first | (go_at_call 21; refine HE.out.mono ?_; rintro e w1 ⟨ao, n, cp, rfl, r1⟩; have R1' := hide r1; clear r1) | (go_at_call 180; refine (HD.out _ _ _ _ R1'.out).mono ?_; rintro e w2 ⟨m, rfl, r2⟩; have R2' := hide r2; clear r2))
  exact HQ.out _ _ _ _ _ ⟨rfl, rfl, rfl, rfl, rfl, rfl, rfl, rfl⟩ R2'.out
def grantF (G : TG) (S : SB) (many : Int) : List Rec := (readF G.recs S.next many).take (placeF (readF G.recs S.next many) (max S.cur G.low + 100))
theorem Rises.read {l : List Rec} (h : Rises l) (off most : Int) : Rises (readF l off most) := List.Pairwise.sublist ((List.take_sublist _ _).trans (List.drop_sublist _ _)) h
theorem touch_new {B : Nat} {w w' : World} {own : Nat → Prop} (h : Touch own w w') (hB : B ≤ w.heap.size) (hn : ∀ k, own k → B ≤ k) : Below B w w' := h.toBelow hB fun k hk e => by have := hn k e; omega
theorem sgrant {w : World} {L : LOC} {G : TG} {c : Nat} (h : TAt w L G) (hk : G.Ok c) (S : SB) (c0 : 0 ≤ S.cur) (c1 : S.cur ≤ 9007199254740991) (many : Int) (hm : many ≤ 9223372036854775807) :
    Calls Tryz.prog 166 #[S.v, .pointer (some ⟨L.b, 0, none⟩), .int .i64 many] w fun e w' => ∃ ao cp, e = .returned (.slice ao (grantF G S many).length cp) ∧ RecsAt w' (.slice ao (grantF G S many).length cp) (grantF G S many) ∧ Below w.heap.size w w' ∧ ∀ g, (Value.slice ao 0 cp).ownBlock = some g → w.heap.size ≤ g := by
  have hlow : (G.low : Int) ≤ 100000000000000000 := by have := hk.low; have := hk.fin; have := hk.big; omega
  have hgl : (grantF G S many).length = placeF (readF G.recs S.next many) (max S.cur G.low + 100) := by
    unfold grantF
    rw [List.length_take, Nat.min_eq_left (placeF_le _ _)]
  rw [hgl]
  unfold grantF
  have hrl : (readF G.recs S.next many).length ≤ 1048576 := by
    unfold readF
    rw [List.length_take, List.length_drop]
    have := hk.len; have := hk.big
    omega
  have HR := hide (hk.rises.read S.next many)
  obtain ⟨xn, xt, xc, xx⟩ := S
  simp only at c0 c1 hrl HR ⊢
  obtain ⟨mm, hmm⟩ : ∃ mm, max xc (G.low : Int) = mm := ⟨_, rfl⟩
  rw [hmm]
  have hb1 : Below w.heap.size w (w.alloc (.cells #[.string xn, .string xt, .int .i64 xc, .int .i64 xx] 190)) := (Below.refl w.heap.size w).alloc (Nat.le_refl _) _
  have B1 := hide hb1
  have hs1 : (w.alloc (.cells #[.string xn, .string xt, .int .i64 xc, .int .i64 xx] 190)).heap.size = w.heap.size + 1 := by simp
  have T1 := hide (h.below hb1)
  have X1 := hide (heap_alloc_new w (.cells #[.string xn, .string xt, .int .i64 xc, .int .i64 xx] 190))
  have HK := hide hk
  clear h hk hb1 hgl
  simp only [SB.v]
  go_enter Tryz.func166, Tryz.ntmps166
  refine wp_seq (reg_mono (gr_r0 (by kernel_rfl) _ (v := ⟨_, _, _, _, _, _⟩) ⟨rfl, rfl, rfl, rfl, rfl, rfl, rfl, rfl⟩ rfl ?_))
  intro a1 F1
  try dsimp only at F1
  generalize w.alloc (.cells #[.string xn, .string xt, .int .i64 xc, .int .i64 xx] 190) = w1 at *
  refine wp_seq (reg_mono (gr_r1 (by kernel_rfl) _ F1 rfl rfl T1.out X1.out hmm (by omega) (by omega) ?_))
  intro a2 w2 eb F2 b2 he x2
  try dsimp only at F2
  have hE2 := Below.at b2 X1.out
  have T2 := T1.out.below b2
  have B2 := B1.out.trans (b2.mono B1.out.size)
  refine wp_seq (reg_mono (gr_r2 (by kernel_rfl) _ F2 rfl rfl rfl rfl hE2 (R1 := fun w' ao n cp => n = (readF G.recs xx many).length ∧ w'.ownsRow w2.heap.size 42 5 (.slice ao (readF G.recs xx many).length cp) (readF G.recs xx many).length (recCells (readF G.recs xx many)) ∧ Below w2.heap.size w2 w')
    (R2 := fun w' ao m cp => m = placeF (readF G.recs xx many) (mm + 100) ∧ RecsAt w' (.slice ao (placeF (readF G.recs xx many) (mm + 100)) cp) ((readF G.recs xx many).take (placeF (readF G.recs xx many) (mm + 100))) ∧ Below w2.heap.size w2 w' ∧ ∀ g, (Value.slice ao 0 cp).ownBlock = some g → w2.heap.size ≤ g) ?_ ?_ ?_))
  · refine (tread T2 HK.out xx many hm).mono ?_
    rintro e w3 ⟨v3, rfl, o3, b3⟩
    obtain ⟨ao, cp, rfl⟩ := row_slice o3
    exact ⟨ao, _, cp, rfl, rfl, o3, b3⟩
  · rintro w3 ao n cp ⟨rfl, o3, b3⟩
    refine (gdel _ HR.out (mm + 100) eb ao cp w3 (OwnsQ.of_row o3) (Below.at b3 x2) hrl).mono ?_
    rintro e w4 ⟨rfl, r4, t4⟩
    refine ⟨_, rfl, rfl, r4, b3.trans (touch_new t4 b3.size fun k hk => ?_), fun g hg => ?_⟩
    · exact (o3.lt k hk).1
    · exact (o3.lt g ((own_block _ _ _ _).trans hg)).1
  · rintro a3 w3 ao m cp F3 ⟨rfl, r3, b3, n3⟩
    refine wp_ret ?_
    refine bodyPost_ret (v := .slice ao (placeF (readF G.recs xx many) (mm + 100)) cp) ?_ F3.defers ⟨ao, cp, rfl, r3, B2.trans (b3.mono B2.size), fun g hg => Nat.le_trans B2.size (n3 g hg)⟩
    simp [results, Tryz.results166, go_sem, slot_get F3.s6]
end Go.Proofs.YtlfodldlkchmoaaGreat.Y
