/-
  carillonref15's Publish, whole (mkxc.py).
-/
import Derived.Test.YtmkkcgkakomacaaGreatZXB
namespace Go.Proofs.YtmkkcgkakomacaaGreat.Y
open Go.RowKit
set_option maxHeartbeats 8000000
set_option maxRecDepth 100000
attribute [local go_sem ↓] Go.wp_at_zero Go.wp_at_succ
set_option linter.unusedSimpArgs false
set_option linter.unusedVariables false
theorem elemPrs : Tryz.prog.elem 42 = 64 := by kernel_rfl
theorem sizeOfPr (w : World) : (sizeOf 64).run Tryz.prog w = .ok 3 w := by kernel_rfl
theorem underPrs : Tryz.prog.underlying 42 = some (.slice (Tryz.prog.elem 42)) := by rw [elemPrs]; exact Tryz.underlying42
theorem infoPr : Tryz.prog.info? 64 = some Tryz.t64 := by kernel_rfl
theorem zeroPr : Tryz.t64.zero = some (.agg #[.string ⟨#[]⟩, .int .i64 0, .int .i64 0]) := by kernel_rfl
theorem sizePr : Tryz.t64.size = 3 := by kernel_rfl
theorem bytesPr : Tryz.t64.bytes = 32 := by kernel_rfl
theorem pslice_from {w : World} {ao : Option Addr} {n cap : Nat} {xs : List Value} (h : OwnsQ w 64 3 (.slice ao n cap) n xs) (k : Nat) (hk : k ≤ n) :
    ∃ ao' cap', (∀ W, (Instr.slice 42 (.slice ao n cap) (some (.int .i64 k)) none none).run Tryz.prog W = .ok (.slice ao' (n - k) cap') W) ∧ OwnsQ w 64 3 (.slice ao' (n - k) cap') (n - k) (xs.drop (k * 3)) ∧ ∀ j, (Value.slice ao' (n - k) cap').ownBlock = some j → (Value.slice ao n cap).ownBlock = some j := by
  have hr : ∀ W, (Instr.slice 42 (.slice ao n cap) (some (.int .i64 k)) none none).run Tryz.prog W = .ok (sliced ao k n cap 3) W := by
    intro W
    rw [run_slice_l (P := Tryz.prog) W 42 ao n cap underPrs .i64 k (by omega) (by omega), elemPrs, sizeOfPr]
    rfl
  rcases h.2 with ⟨hv, hn⟩ | ⟨g, off, c, cur, hv, hg, h4, h5, h6, h7⟩
  · injection hv with h1 h2 h3
    subst h1 hn h3
    obtain rfl : k = 0 := by omega
    refine ⟨none, 0, fun W => by rw [hr]; rfl, ?_, fun j hj => hj⟩
    have := h.1
    simp at this
    subst this
    exact OwnsQ.nil _ _ _
  · injection hv with h1 h2 h3
    subst h1 h3
    by_cases hc : cap = k
    · refine ⟨some ⟨g, off, none⟩, cap - k, fun W => by rw [hr, sliced, if_pos hc], ?_, fun j hj => hj⟩
      have := h.cut k hk
      rw [if_pos hc] at this
      exact this
    · refine ⟨some ⟨g, off + k * 3, none⟩, cap - k, fun W => by rw [hr, sliced, if_neg hc, Option.map_some, Addr.add_lit], ?_, fun j hj => hj⟩
      have := h.cut k hk
      rw [if_neg hc] at this
      exact this
theorem pslice_upto {w : World} {ao : Option Addr} {n cap : Nat} {xs : List Value} (h : OwnsQ w 64 3 (.slice ao n cap) n xs) (k : Nat) (hk : k ≤ n) :
    (∀ W, (Instr.slice 42 (.slice ao n cap) none (some (.int .i64 k)) none).run Tryz.prog W = .ok (.slice ao k cap) W) ∧ OwnsQ w 64 3 (.slice ao k cap) k (xs.take (k * 3)) := by
  have hcap := q_cap h
  constructor
  · intro W
    rw [run_slice_h (P := Tryz.prog) W 42 ao n cap underPrs .i64 k (by omega) (by omega), elemPrs, sizeOfPr]
    simp only [Result.andThen, sliced, Int.toNat_natCast, Nat.sub_zero]
    by_cases h0 : cap = 0
    · rw [if_pos h0]
    · rw [if_neg h0]
      cases ao with
      | none => rfl
      | some a =>
        simp [Addr.add]
  · refine ⟨by rw [List.length_take, h.1]; omega, ?_⟩
    rcases h.2 with ⟨hv, hn⟩ | ⟨g, off, c, cur, hv, hg, h4, h5, h6, h7⟩
    · injection hv with h1 h2 h3
      subst h1 h3
      obtain rfl : k = 0 := by omega
      exact .inl ⟨rfl, rfl⟩
    · injection hv with h1 h2 h3
      subst h1 h3
      exact .inr ⟨g, off, cap, cur, rfl, hg, by omega, h5, h6, fun j hj => by rw [h7 j (by omega), List.getElem?_take_of_lt hj]⟩
theorem q_news {w : World} {e : TypeId} {z m c : Nat} {ad : Addr} {news : List Value} (h : OwnsQ w e z (.slice (some ad) m c) m news) : ∀ (j : Nat) (x : Value), news[j]? = some x → w.cell? (ad.add j) = some x := by
  intro j x hj
  have hl : j < news.length := (List.getElem?_eq_some_iff.1 hj).1
  rw [h.1] at hl
  obtain ⟨off, hd, hc, _⟩ := h.cell
  rw [hd, Addr.add_lit, hc j hl]
  exact hj
theorem app_pr {w : World} {B n m oc xc : Nat} {oo xo : Option Addr} {xs news : List Value} (hown : w.ownsRow B 64 3 (.slice oo n oc) n xs) (hx : OwnsQ w 64 3 (.slice xo m xc) m news) (h1 : ∀ u ∈ news, u.oneCell' = true) (hl : n + m ≤ 1000000) (hB : B ≤ w.heap.size) :
    ∃ to' tc' w', (Builtin.append_ #[42, 42] 42 #[.slice oo n oc, .slice xo m xc]).run Tryz.prog w = .ok (.slice to' (n + m) tc') w' ∧ w'.ownsRow B 64 3 (.slice to' (n + m) tc') (n + m) (xs ++ news) ∧ w.grownBy w' (Value.slice oo n oc).ownBlock := by
  cases xo with
  | none =>
    rcases hx.2 with ⟨hv, hn⟩ | ⟨g, off, cap, cur, hv, _⟩
    · injection hv with _ _ h3
      subst h3 hn
      have hl0 : news = [] := List.eq_nil_of_length_eq_zero (by have := hx.1; omega)
      subst hl0
      have hr := run_append_owned_none (P := Tryz.prog) w B 42 42 64 _ 3 Tryz.underlying42 infoPr (.slice oo n oc) n xs hown
      refine ⟨oo, oc, w, by simpa using hr, by simpa using hown, ⟨rfl, rfl, rfl, Nat.le_refl _, fun _ _ _ => rfl⟩⟩
    · cases hv
  | some ad =>
    obtain ⟨v', w', hr, h2, h3, _, h4⟩ := run_append_own_at (P := Tryz.prog) w B 42 42 64 _ _ 3 32 Tryz.underlying42 infoPr zeroPr sizePr bytesPr rfl (by decide) (.slice oo n oc) n xs hown ad m xc news hx.1 (q_news hx) h1 (by unfold maxLen; omega) (by omega) hB
    obtain ⟨to', tc', rfl⟩ := row_slice h2
    exact ⟨to', tc', w', hr, h2, h3⟩
theorem app_rec {w : World} {B n m oc xc : Nat} {oo xo : Option Addr} {xs news : List Value} (hown : w.ownsRow B 39 5 (.slice oo n oc) n xs) (hx : OwnsQ w 39 5 (.slice xo m xc) m news) (h1 : ∀ u ∈ news, u.oneCell' = true) (hl : n + m ≤ 1000000) (hB : B ≤ w.heap.size) :
    ∃ to' tc' w', (Builtin.append_ #[35, 35] 35 #[.slice oo n oc, .slice xo m xc]).run Tryz.prog w = .ok (.slice to' (n + m) tc') w' ∧ w'.ownsRow B 39 5 (.slice to' (n + m) tc') (n + m) (xs ++ news) ∧ w.grownBy w' (Value.slice oo n oc).ownBlock := by
  cases xo with
  | none =>
    rcases hx.2 with ⟨hv, hn⟩ | ⟨g, off, cap, cur, hv, _⟩
    · injection hv with _ _ h3
      subst h3 hn
      have hl0 : news = [] := List.eq_nil_of_length_eq_zero (by have := hx.1; omega)
      subst hl0
      have hr := run_append_owned_none (P := Tryz.prog) w B 35 35 39 _ 5 Tryz.underlying35 Tryz.infoRec (.slice oo n oc) n xs hown
      refine ⟨oo, oc, w, by simpa using hr, by simpa using hown, ⟨rfl, rfl, rfl, Nat.le_refl _, fun _ _ _ => rfl⟩⟩
    · cases hv
  | some ad =>
    obtain ⟨v', w', hr, h2, h3, _, h4⟩ := run_append_own_at (P := Tryz.prog) w B 35 35 39 _ _ 5 64 Tryz.underlying35 Tryz.infoRec Tryz.zeroRec Tryz.sizeRec Tryz.bytesRec rfl (by decide) (.slice oo n oc) n xs hown ad m xc news hx.1 (q_news hx) h1 (by unfold maxLen; omega) (by omega) hB
    obtain ⟨to', tc', rfl⟩ := row_slice h2
    exact ⟨to', tc', w', hr, h2, h3⟩
theorem q_lit {w : World} {e : TypeId} {z : Nat} {cs : Array Value} (hs : cs.size = z) : OwnsQ (w.alloc (.cells cs e)) e z (.slice (some ⟨w.heap.size, 0, none⟩) 1 1) 1 cs.toList :=
  ⟨by simp [hs], .inr ⟨w.heap.size, 0, 1, cs, rfl, heap_alloc_new _ _, Nat.le_refl _, by unfold maxLen; omega, by omega, fun j hj => by rw [Nat.zero_add, Array.getElem?_toList]⟩⟩
theorem xset {w : World} {b o : Nat} {t : TypeId} {cs : Array Value} {x : Value} (h : w.heap[b]? = some (.cells cs t (0, 0))) : (w.setCell ⟨b, o, none⟩ x).heap[b]? = some (.cells (cs.setIfInBounds o x) t (0, 0)) := by
  simp [World.setCell, Array.getElem?_modify, h]
theorem grown_below {w w' : World} {B : Nat} {row : Option Nat} (hg : w.grownBy w' row) (hr : ∀ k, row = some k → B ≤ k) (hB : B ≤ w.heap.size) : Below B w w' :=
  ⟨hg.os, hg.tape, hg.output, hg.size, fun k hk => hg.block k (Nat.lt_of_lt_of_le hk hB) fun e => by have := hr k e.symm; omega⟩
def xgot (l : List PR) (p : ByteArray) : Option PR := if thereF l p = true then l[findF l p]? else none
def xadd (G : XG) (p : ByteArray) (q : Int) (k v : ByteArray) : XG :=
  { G with prods := G.prods.take (findF G.prods p) ++ [⟨p, q, G.fin⟩] ++ G.prods.drop (if thereF G.prods p = true then findF G.prods p + 1 else findF G.prods p), recs := G.recs ++ [⟨G.fin, p, q, k, v⟩], fin := G.fin + 1 }
def xpubF (G : XG) (p : ByteArray) (q : Int) (k v : ByteArray) : Int × Int × XG :=
  if pubOk p q k v = true then
    match xgot G.prods p with
    | some r => if r.sq = q then (r.off, 0, G) else if q < r.sq then (0, 6, G) else (G.fin, 0, xadd G p q k v)
    | none => (G.fin, 0, xadd G p q k v)
  else (0, 7, G)
theorem there_get {l : List PR} {p : ByteArray} (h : thereF l p = true) : ∃ hk : findF l p < l.length, xgot l p = some l[findF l p] := by
  by_cases hk : findF l p < l.length
  · exact ⟨hk, by rw [xgot, if_pos h, List.getElem?_eq_getElem hk]⟩
  · rw [thereF, List.getElem?_eq_none (by omega)] at h
    cases h
theorem xp_ret {W : World} {a : Act} {v : Vxp} {x y : Int} {R : Ending → World → Prop} (hF : Fxp a v) (h2 : v.v10 = .int .i64 x) (h3 : v.v11 = .int .i64 y) (h : R (.returned (.tuple #[.int .i64 x, .int .i64 y])) W) :
    bodyPost Tryz.prog Tryz.f11 R .ret a W := by
  have g2 := slot_get (hF.s10.trans h2)
  have g3 := slot_get (hF.s11.trans h3)
  refine bodyPost_ret (v := .tuple #[.int .i64 x, .int .i64 y]) ?_ hF.defers h
  simp [results, Tryz.results11, go_sem, g2, g3]
theorem recCells_oneX (l : List Rec) : ∀ u ∈ recCells l, u.oneCell' = true := by
  intro u hu
  obtain ⟨x, _, hx⟩ := List.mem_flatMap.1 hu
  simp [Rec.cells] at hx
  rcases hx with rfl | rfl | rfl | rfl | rfl <;> rfl
theorem xp_tail {w w1 : World} {X : XL} {G : XG} (h : XAt w1 X G) (b1 : Below w.heap.size w w1) (hlt : ∀ j, X.own j → j < w.heap.size) (hp : G.prods.length ≤ 100000) (hr : G.recs.length ≤ 100000) (f0 : 0 ≤ G.fin) (f1 : G.fin ≤ 9223372036854775806) (p : ByteArray) (q : Int) (k vl : ByteArray) {Q : Exit → Act → World → Prop} {a : Act} {v : Vxp} (F : Fxp a v) (q0 : v.v0 = .pointer (some ⟨X.b, 0, none⟩)) (q1 : v.v1 = .string p) (q2 : v.v2 = .int .i64 q) (q3 : v.v3 = .string k) (q4 : v.v4 = .string vl) (q13 : v.v13 = .int .i64 (findF G.prods p : Nat)) (q14 : v.v14 = .bool (thereF G.prods p))
    {r9 r10 r11 r12 r13 r14 r15 r16 r17 r18 r19 r20 : Code} (e9 : regOf (Tryz.f11.body.getD .skip) 9 = some r9) (e10 : regOf (Tryz.f11.body.getD .skip) 10 = some r10) (e11 : regOf (Tryz.f11.body.getD .skip) 11 = some r11) (e12 : regOf (Tryz.f11.body.getD .skip) 12 = some r12) (e13 : regOf (Tryz.f11.body.getD .skip) 13 = some r13) (e14 : regOf (Tryz.f11.body.getD .skip) 14 = some r14) (e15 : regOf (Tryz.f11.body.getD .skip) 15 = some r15) (e16 : regOf (Tryz.f11.body.getD .skip) 16 = some r16) (e17 : regOf (Tryz.f11.body.getD .skip) 17 = some r17) (e18 : regOf (Tryz.f11.body.getD .skip) 18 = some r18) (e19 : regOf (Tryz.f11.body.getD .skip) 19 = some r19) (e20 : regOf (Tryz.f11.body.getD .skip) 20 = some r20)
    (hQ : ∀ a' w' X', Fxp a' { v with v10 := .int .i64 G.fin, v11 := .int .i64 0, v13 := a'.tmps.getD 13 undef, v15 := a'.tmps.getD 15 undef, v16 := a'.tmps.getD 16 undef, v17 := a'.tmps.getD 17 undef } → XAt w' X' (xadd G p q k vl) → XStep w w' X X' → Q .ret a' w') :
    Code.wp Tryz.prog (r9.seq (r10.seq (r11.seq (r12.seq ((r13.seq (.cond (.tmp 99) r14 .skip)).seq (r15.seq (r16.seq (r17.seq (r18.seq (r19.seq (r20.seq .ret))))))))))) Q a w1 := by
  obtain ⟨v0, v1, v2, v3, v4, v10, v11, v12, v13, v14, v15, v16, v17⟩ := v
  simp only at q0 q1 q2 q3 q4 q13 q14
  subst q0 q1 q2 q3 q4 q13 q14
  have hfl := findF_le G.prods p
  have hth : thereF G.prods p = true → findF G.prods p < G.prods.length := fun e => (there_get e).1
  generalize hfk : findF G.prods p = fk at *
  generalize hft : thereF G.prods p = ft at *
  obtain ⟨_, _, hc2, hc3, hc4⟩ := xcells h
  refine wp_seq (reg_mono (xp_r9 e9 _ F rfl rfl rfl hc2 ?_))
  intro a9 F9
  try dsimp only at F9
  have P2 := heap_alloc_new w1 (.cells #[.string p, .int .i64 q, .int .i64 G.fin] 64)
  have b2 : Below w1.heap.size w1 (w1.alloc (.cells #[.string p, .int .i64 q, .int .i64 G.fin] 64)) := (Below.refl _ _).alloc (Nat.le_refl _) _
  have h2 := h.below b2
  have hB12 := b1.trans (b2.mono b1.size)
  have hxb : X.b < w1.heap.size := heap_lt h.box
  generalize w1.heap.size = pb at *
  generalize w1.alloc _ = w2 at *
  have hpb : pb < w2.heap.size := heap_lt P2
  clear h hc2 hc3 hc4
  obtain ⟨_, _, hc2, hc3, hc4⟩ := xcells h2
  obtain ⟨B, hBe⟩ : ∃ B, w2.heap.size = B := ⟨_, rfl⟩
  rw [hBe] at hpb
  have hxB : X.b < B := by omega
  have hXl : ∀ j, X.own j → j < B := fun j hj => by have := h2.lt hj; omega
  refine wp_seq (reg_mono (xp_r10 e10 _ F9 ?_))
  intro a10 F10
  try dsimp only at F10
  -- the producers ahead of it
  obtain ⟨hs1, hq1⟩ := pslice_upto h2.prow fk hfl
  rw [prsCells_take] at hq1
  obtain ⟨t3, c3, w3, r3, o3, g3⟩ := app_pr (nil_own w2 B 64 3) hq1 (prsCells_one _) (by omega) (by omega)
  refine wp_seq (reg_mono (xp_r11 e11 _ F10 rfl rfl rfl hc3 hs1 r3 ?_))
  intro a11 F11
  try dsimp only at F11
  have B3 : Below B w2 w3 := grown_below g3 (fun k e => by cases e) (by omega)
  simp only [Nat.zero_add, List.nil_append] at o3 F11
  -- it
  have P3 := (B3.block pb hpb).trans P2
  have o3' := own_below o3 ((Below.refl w3.heap.size w3).alloc (Nat.le_refl _) (.cells #[.string p, .int .i64 q, .int .i64 G.fin] 64))
  obtain ⟨t4, c4, w4, r4, o4, g4⟩ := app_pr o3' (q_lit (w := w3) (e := 64) (cs := #[.string p, .int .i64 q, .int .i64 G.fin]) rfl) (by intro u hu; simp at hu; rcases hu with rfl | rfl | rfl <;> rfl) (by omega) (by have := B3.size; simp; omega)
  refine wp_seq (reg_mono (xp_r12 e12 _ F11 rfl rfl (box_cell P3 0 rfl) (box_cell P3 1 rfl) (box_cell P3 2 rfl) r4 ?_))
  intro a12 F12
  try dsimp only at F12
  have hsz3 : B ≤ w3.heap.size := by have := B3.size; omega
  have B4 : Below B w2 w4 := B3.trans ((((Below.refl B w3).alloc hsz3 _)).trans (grown_below g4 (fun k e => (o3.lt k e).1) (by simp; omega)))
  have ho4 : prsCells (G.prods.take fk) ++ (#[Value.string p, .int .i64 q, .int .i64 G.fin] : Array Value).toList = prsCells (G.prods.take fk ++ [⟨p, q, G.fin⟩]) := by rw [prsCells_append]; rfl
  rw [ho4] at o4
  refine wp_seq (wp_seq (reg_mono (xp_r13 e13 _ F12 rfl ?_)))
  intro a13 F13 g13
  obtain ⟨dk, hdk⟩ : ∃ dk : Nat, (if ft = true then fk + 1 else fk) = dk := ⟨_, rfl⟩
  have hdl : dk ≤ G.prods.length := by
    subst hdk
    split
    · next e => exact hth e
    · exact hfl
  have key : ∀ a14 v13, Fxp a14 { v0 := .pointer (some ⟨X.b, 0, none⟩), v1 := .string p, v2 := .int .i64 q, v3 := .string k, v4 := .string vl, v10 := v10, v11 := v11, v12 := v12, v13 := v13, v14 := .bool ft, v15 := .pointer (some ⟨pb, 0, none⟩), v16 := .slice t4 (fk + 1) c4, v17 := v17 } → v13 = .int .i64 (dk : Nat) → Code.wp Tryz.prog (r15.seq (r16.seq (r17.seq (r18.seq (r19.seq (r20.seq .ret)))))) Q a14 w4 := by
    intro a14 v13 F14 hv13
    subst hv13
    obtain ⟨po5, pc5, hs5, hq5, _⟩ := pslice_from h2.prow dk hdl
    rw [prsCells_drop] at hq5
    have hq5' : OwnsQ w4 64 3 (.slice po5 (G.prods.length - dk) pc5) (G.prods.length - dk) (prsCells (G.prods.drop dk)) := hq5.congr fun j hj => B4.block j (by have := hq5.lt hj; omega)
    have hsz4 : B ≤ w4.heap.size := by have := B4.size; omega
    obtain ⟨t5, c5, w5, r5, o5, g5⟩ := app_pr o4 hq5' (prsCells_one _) (by omega) hsz4
    have B5 : Below B w2 w5 := B4.trans (grown_below g5 (fun k e => (o4.lt k e).1) hsz4)
    have X5 := (B5.block X.b hxB).trans h2.box
    have hc3' : w4.cell? ⟨X.b, 3, none⟩ = some (.slice X.po G.prods.length X.pc) := box_cell ((B4.block X.b hxB).trans h2.box) 3 rfl
    refine wp_seq (reg_mono (xp_r15 e15 _ F14 rfl rfl rfl hc3' hs5 r5 X5 ?_))
    intro a15 F15
    try dsimp only at F15
    have hsz5 : B ≤ w5.heap.size := by have := B5.size; omega
    have X6 := xset (o := 3) (x := .slice t5 (fk + 1 + (G.prods.length - dk)) c5) X5
    have T6 : Touch (fun j => j = X.b) w2 (w5.setCell ⟨X.b, 3, none⟩ (.slice t5 (fk + 1 + (G.prods.length - dk)) c5)) := (Touch.of_below (own := fun j => j = X.b) (by rw [hBe]; exact B5)).setCell _ _ (fun _ => rfl)
    have O5 := OwnsQ.of_row o5
    have n5 : ∀ j, (Value.slice t5 (fk + 1 + (G.prods.length - dk)) c5).ownBlock = some j → B ≤ j := fun j hj => (o5.lt j hj).1
    have O6 := O5.set X.b 3 (.slice t5 (fk + 1 + (G.prods.length - dk)) c5) (fun e => by have := n5 _ e; omega)
    have hsz6 : B ≤ (w5.setCell ⟨X.b, 3, none⟩ (.slice t5 (fk + 1 + (G.prods.length - dk)) c5)).heap.size := by simp [World.setCell]; exact hsz5
    generalize w5.setCell _ _ = w6 at *
    simp only [List.setIfInBounds_toArray, List.set_cons_succ, List.set_cons_zero] at X6
    refine wp_seq (reg_mono (xp_r16 e16 _ F15 ?_))
    intro a16 F16
    try dsimp only at F16
    have R6 : OwnsQ w6 39 5 (.slice X.ro G.recs.length X.rc) G.recs.length (recCells G.recs) := h2.row.keep T6 fun j hj e => by
      subst e
      have := h2.row.type hj h2.box
      exact absurd this (by decide)
    obtain ⟨t7, c7, w7, r7, o7, g7⟩ := app_rec (nil_own w6 w6.heap.size 39 5) R6 (recCells_oneX _) (by omega) (Nat.le_refl _)
    refine wp_seq (reg_mono (xp_r17 e17 _ F16 rfl rfl (box_cell X6 4 rfl) r7 ?_))
    intro a17 F17
    try dsimp only at F17
    simp only [Nat.zero_add, List.nil_append] at o7 F17
    have B7 : Below w6.heap.size w6 w7 := grown_below g7 (fun k e => by cases e) (Nat.le_refl _)
    have X7 := Below.at B7 X6
    have T7 := T6.below B7
    have O7 : OwnsQ w7 64 3 _ _ _ := O6.congr fun j hj => B7.block j (O6.lt hj)
    have b8 : Below w7.heap.size w7 (w7.alloc (.cells #[.int .i64 G.fin, .string p, .int .i64 q, .string k, .string vl] 39)) := (Below.refl _ _).alloc (Nat.le_refl _) _
    obtain ⟨t8, c8, w8, r8, o8, g8⟩ := app_rec (own_below o7 b8) (q_lit (w := w7) (e := 39) (cs := #[.int .i64 G.fin, .string p, .int .i64 q, .string k, .string vl]) rfl) (by intro u hu; simp at hu; rcases hu with rfl | rfl | rfl | rfl | rfl <;> rfl) (by omega) (by have := B7.size; simp; omega)
    have hsz7 : w6.heap.size ≤ w7.heap.size := B7.size
    have hB8 : Below w6.heap.size w7 w8 := ((Below.refl w6.heap.size w7).alloc hsz7 _).trans (grown_below g8 (fun k e => (o7.lt k e).1) (by simp; omega))
    have hx6 : X.b < w6.heap.size := by omega
    have X8 := (hB8.block X.b hx6).trans X7
    have O8 : OwnsQ w8 64 3 _ _ _ := O7.congr fun j hj => hB8.block j (O6.lt hj)
    have T8 : Touch (fun j => j = X.b) w2 w8 := T7.andThen (Touch.of_below (own := fun _ => False) b8) (fun _ _ e => e.elim) |>.grown g8 (fun k e hk => by have := (o7.lt k e).1; omega)
    refine wp_seq (reg_mono (xp_r18 e18 _ F17 rfl rfl rfl rfl rfl rfl (box_cell X7 2 rfl) r8 X8 ?_))
    intro a18 F18
    try dsimp only at F18
    have n8 : ∀ j, (Value.slice t8 (G.recs.length + 1) c8).ownBlock = some j → w6.heap.size ≤ j := fun j hj => (o8.lt j hj).1
    have X9 := xset (o := 4) (x := .slice t8 (G.recs.length + 1) c8) X8
    have T9 := T8.setCell ⟨X.b, 4, none⟩ (.slice t8 (G.recs.length + 1) c8) (fun _ => rfl)
    have O9 := O8.set X.b 4 (.slice t8 (G.recs.length + 1) c8) (fun e => by have := n5 _ e; omega)
    have R9 := (OwnsQ.of_row o8).set X.b 4 (.slice t8 (G.recs.length + 1) c8) (fun e => by have := n8 _ e; omega)
    generalize w8.setCell _ _ = w9 at *
    simp only [List.setIfInBounds_toArray, List.set_cons_succ, List.set_cons_zero] at X9
    refine wp_seq (reg_mono (xp_r19 e19 _ F18 rfl X9 (by omega) f1 ?_))
    intro a19 F19
    try dsimp only at F19
    have X10 := xset (o := 2) (x := .int .i64 (G.fin + 1)) X9
    have T10 := T9.setCell ⟨X.b, 2, none⟩ (.int .i64 (G.fin + 1)) (fun _ => rfl)
    have O10 := O9.set X.b 2 (.int .i64 (G.fin + 1)) (fun e => by have := n5 _ e; omega)
    have R10 := R9.set X.b 2 (.int .i64 (G.fin + 1)) (fun e => by have := n8 _ e; omega)
    generalize w9.setCell _ _ = w10 at *
    simp only [List.setIfInBounds_toArray, List.set_cons_succ, List.set_cons_zero] at X10
    have P10 := T10.at P2 (fun e => by omega)
    refine wp_seq (reg_mono (xp_r20 e20 _ F19 rfl (box_cell P10 2 rfl) ?_))
    intro a20 F20
    try dsimp only at F20
    refine wp_ret (hQ a20 w10 ⟨X.b, t5, c5, t8, c8⟩ ⟨F20.size, F20.defers, F20.s0, F20.s1, F20.s2, F20.s3, F20.s4, F20.s10, F20.s11, F20.s12, rfl, F20.s14, rfl, rfl, rfl⟩ ?_ ?_)
    · have el : (xadd G p q k vl).prods.length = fk + 1 + (G.prods.length - dk) := by
        simp only [xadd, hfk, hft, hdk, List.length_append, List.length_take, List.length_drop, List.length_cons, List.length_nil]
        omega
      have el2 : (xadd G p q k vl).recs.length = G.recs.length + 1 := by simp [xadd]
      have ep : prsCells (G.prods.take fk ++ [⟨p, q, G.fin⟩]) ++ prsCells (G.prods.drop dk) = prsCells (xadd G p q k vl).prods := by
        rw [← prsCells_append]
        simp only [xadd, hfk, hft, hdk]
      have er : recCells G.recs ++ (#[Value.int .i64 G.fin, .string p, .int .i64 q, .string k, .string vl] : Array Value).toList = recCells (xadd G p q k vl).recs := by
        rw [show (xadd G p q k vl).recs = G.recs ++ [⟨G.fin, p, q, k, vl⟩] from rfl, recCells_snoc]
      refine ⟨?_, ?_, ?_⟩
      · rw [el, el2]
        exact X10
      · rw [el, ← ep]
        exact O10
      · rw [el2, ← er]
        exact R10
    · refine ⟨⟨T10.os.trans hB12.os, T10.tape.trans hB12.tape, T10.output.trans hB12.output, Nat.le_trans hB12.size T10.size, fun j hj hn => (T10.block j (Nat.lt_of_lt_of_le hj hB12.size) hn).trans (hB12.block j hj)⟩, rfl, ?_⟩
      rintro j (rfl | hj | hj)
      · exact .inl (.inl rfl)
      · refine .inr ?_
        have := n5 j ((own_block _ _ _ _).trans hj)
        have := hB12.size
        omega
      · refine .inr ?_
        have h9 := n8 j ((own_block _ _ _ _).trans hj)
        have := hB12.size
        omega
  cases ft with
  | false =>
    refine wp_cond_false g13 (wp_skip ?_)
    show Code.wp _ _ _ _ _
    exact key _ _ F13 (by rw [← hdk]; rfl)
  | true =>
    refine wp_cond_true g13 ?_
    refine reg_all (xp_r14 e14 _ F13 rfl (by omega) ?_)
    intro a14 F14
    try dsimp only at F14
    show Code.wp _ _ _ _ _
    exact key _ _ F14 (by rw [← hdk]; rfl)
theorem xpub {w : World} {X : XL} {G : XG} (h : XAt w X G) (hp : G.prods.length ≤ 100000) (hr : G.recs.length ≤ 100000) (f0 : 0 ≤ G.fin) (f1 : G.fin ≤ 9223372036854775806) (p : ByteArray) (q : Int) (k vl : ByteArray) (z1 : p.size ≤ 281474976710656) (z2 : k.size ≤ 281474976710656) (z3 : vl.size ≤ 281474976710656) :
    Calls Tryz.prog 11 #[.pointer (some ⟨X.b, 0, none⟩), .string p, .int .i64 q, .string k, .string vl] w fun e w' => e = .returned (.tuple #[.int .i64 (xpubF G p q k vl).1, .int .i64 (xpubF G p q k vl).2.1]) ∧ ∃ X', XAt w' X' (xpubF G p q k vl).2.2 ∧ XStep w w' X X' := by
  have hlt : ∀ j, X.own j → j < w.heap.size := fun j hj => h.lt hj
  go_enter Tryz.func11, Tryz.ntmps11
  refine wp_seq (reg_mono (xp_r0 (by kernel_rfl) _ (v := ⟨_, _, _, _, _, _, _, _, _, _, _, _, _⟩) ⟨rfl, rfl, rfl, rfl, rfl, rfl, rfl, rfl, rfl, rfl, rfl, rfl, rfl, rfl, rfl⟩ ?_))
  intro a0 F0
  try dsimp only at F0
  refine wp_seq (reg_mono (xp_r1 (by kernel_rfl) _ F0 rfl (rword p (by omega) w) ?_))
  intro a1 w1 F1 hw1
  obtain rfl := hw1.symm
  try dsimp only at F1
  by_cases hok : pubOk p q k vl = true
  case neg =>
    have e : xpubF G p q k vl = (0, 7, G) := by rw [xpubF, if_neg hok]
    rw [e]
    refine wp_seq (wp_seq (reg_mono (xp_r2b (by kernel_rfl) _ F1 rfl rfl rfl rfl ?_ ?_)))
    · simp only [pubOk, greatB, Bool.and_eq_true, decide_eq_true_eq, not_and] at hok
      by_cases h1 : wordB p = true
      · right
        have h2 := hok h1
        omega
      · left
        simpa using h1
    intro a2 F2 g2
    refine wp_cond_true g2 ?_
    refine wp_seq (reg_mono (xp_r3 (by kernel_rfl) _ F2 ?_))
    intro a3 F3
    try dsimp only at F3
    refine wp_ret ?_
    simp only [Exit.then]
    exact xp_ret F3 rfl rfl ⟨rfl, X, h, XStep.below (Below.refl _ _)⟩
  obtain ⟨_, k1, k2, k3, k4⟩ := pubOk_out hok
  have hw : wordB p = true := by simp only [pubOk, Bool.and_eq_true] at hok; exact hok.1
  rw [hw] at F1
  refine wp_seq (wp_seq (reg_mono (xp_r2a (by kernel_rfl) _ F1 rfl rfl rfl rfl k1 k2 k3 k4 ?_)))
  intro a2 F2 g2
  refine wp_cond_false g2 (wp_skip ?_)
  show Code.wp _ _ _ _ _
  refine wp_seq (reg_mono (xp_r4 (by kernel_rfl) _ F2 rfl rfl (xfind h (by omega) p) ?_))
  intro a4 w4 F4 b4
  try dsimp only at F4
  have h4 := h.below b4
  obtain ⟨_, _, _, hc3, _⟩ := xcells h4
  cases hft : thereF G.prods p with
  | false =>
    rw [hft] at F4
    have e : xpubF G p q k vl = (G.fin, 0, xadd G p q k vl) := by rw [xpubF, if_pos hok, xgot, hft]; rfl
    rw [e]
    refine wp_seq (wp_seq (reg_mono (xp_r5b (by kernel_rfl) _ F4 rfl ?_)))
    intro a5 F5 g5
    refine wp_cond_false g5 (wp_skip ?_)
    show Code.wp _ _ _ _ _
    refine wp_seq (wp_seq (reg_mono (xp_r7b (by kernel_rfl) _ F5 rfl ?_)))
    intro a7 F7 g7
    refine wp_cond_false g7 (wp_skip ?_)
    show Code.wp _ _ _ _ _
    refine xp_tail h4 b4 hlt hp hr f0 f1 p q k vl F7 rfl rfl rfl rfl rfl rfl (by rw [hft]) (by kernel_rfl) (by kernel_rfl) (by kernel_rfl) (by kernel_rfl) (by kernel_rfl) (by kernel_rfl) (by kernel_rfl) (by kernel_rfl) (by kernel_rfl) (by kernel_rfl) (by kernel_rfl) (by kernel_rfl) ?_
    intro a' w' X' F' hX hS
    exact xp_ret F' rfl rfl ⟨rfl, X', hX, hS⟩
  | true =>
    obtain ⟨hk, hg⟩ := there_get hft
    rw [hft] at F4
    obtain ⟨pb, po, hX, hpb, hp0, hp1, hp2⟩ := h4.prod hk
    rw [hX] at hc3
    refine wp_seq (wp_seq (reg_mono (xp_r5a (by kernel_rfl) _ F4 rfl rfl rfl rfl hk hc3 hp1 ?_)))
    intro a5 F5 g5
    by_cases es : G.prods[findF G.prods p].sq = q
    case pos =>
      have e : xpubF G p q k vl = (G.prods[findF G.prods p].off, 0, G) := by rw [xpubF, if_pos hok, hg]; simp only; rw [if_pos es]
      rw [e]
      rw [show (G.prods[findF G.prods p].sq == q) = true by rw [es]; simp] at g5
      refine wp_cond_true g5 ?_
      refine wp_seq (reg_mono (xp_r6 (by kernel_rfl) _ F5 rfl rfl hk hc3 hp2 ?_))
      intro a6 F6
      try dsimp only at F6
      refine wp_ret ?_
      simp only [Exit.then]
      exact xp_ret F6 rfl rfl ⟨rfl, X, h4, XStep.below b4⟩
    rw [show (G.prods[findF G.prods p].sq == q) = false from beq_eq_false_iff_ne.2 es] at g5
    refine wp_cond_false g5 (wp_skip ?_)
    show Code.wp _ _ _ _ _
    by_cases el : q < G.prods[findF G.prods p].sq
    case pos =>
      have e : xpubF G p q k vl = (0, 6, G) := by rw [xpubF, if_pos hok, hg]; simp only; rw [if_neg es, if_pos el]
      rw [e]
      refine wp_seq (wp_seq (reg_mono (xp_r7t (by kernel_rfl) _ F5 rfl rfl rfl rfl hk hc3 hp1 el ?_)))
      intro a7 F7 g7
      refine wp_cond_true g7 ?_
      refine wp_seq (reg_mono (xp_r8 (by kernel_rfl) _ F7 ?_))
      intro a8 F8
      try dsimp only at F8
      refine wp_ret ?_
      simp only [Exit.then]
      exact xp_ret F8 rfl rfl ⟨rfl, X, h4, XStep.below b4⟩
    have e : xpubF G p q k vl = (G.fin, 0, xadd G p q k vl) := by rw [xpubF, if_pos hok, hg]; simp only; rw [if_neg es, if_neg el]
    rw [e]
    refine wp_seq (wp_seq (reg_mono (xp_r7f (by kernel_rfl) _ F5 rfl rfl rfl rfl hk hc3 hp1 el ?_)))
    intro a7 F7 g7
    refine wp_cond_false g7 (wp_skip ?_)
    show Code.wp _ _ _ _ _
    refine xp_tail h4 b4 hlt hp hr f0 f1 p q k vl F7 rfl rfl rfl rfl rfl rfl (by rw [hft]) (by kernel_rfl) (by kernel_rfl) (by kernel_rfl) (by kernel_rfl) (by kernel_rfl) (by kernel_rfl) (by kernel_rfl) (by kernel_rfl) (by kernel_rfl) (by kernel_rfl) (by kernel_rfl) (by kernel_rfl) ?_
    intro a' w' X' F' hX hS
    exact xp_ret F' rfl rfl ⟨rfl, X', hX, hS⟩
end Go.Proofs.YtmkkcgkakomacaaGreat.Y
