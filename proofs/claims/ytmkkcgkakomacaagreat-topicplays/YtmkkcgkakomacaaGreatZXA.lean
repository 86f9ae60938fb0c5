/-
  carillonref15's topic in memory; New, find (mkxa.py).
-/
import Derived.Test.YtmkkcgkakomacaaGreatZT7
import Derived.Test.YtmkkcgkakomacaaGreatZRW
import Derived.Test.YtmkkcgkakomacaaGreatZYC4
namespace Go.Proofs.YtmkkcgkakomacaaGreat.Y
open Go.RowKit
set_option maxHeartbeats 8000000
set_option maxRecDepth 100000
attribute [local go_sem ↓] Go.wp_at_zero Go.wp_at_succ
set_option linter.unusedSimpArgs false
set_option linter.unusedVariables false
structure PR where
  name : ByteArray
  sq : Int
  off : Int
structure XG where
  name : ByteArray
  low : Int
  fin : Int
  prods : List PR
  recs : List Rec
def PR.cells (p : PR) : List Value := [.string p.name, .int .i64 p.sq, .int .i64 p.off]
def prsCells (l : List PR) : List Value := l.flatMap PR.cells
theorem prsCells_length (l : List PR) : (prsCells l).length = l.length * 3 := by
  induction l with
  | nil => rfl
  | cons a r ih => rw [prsCells, List.flatMap_cons, List.length_append, ← prsCells, ih, List.length_cons]; simp [PR.cells]; omega
theorem prsCells_append (k l : List PR) : prsCells (k ++ l) = prsCells k ++ prsCells l := by simp [prsCells]
theorem prsCells_one (l : List PR) : ∀ u ∈ prsCells l, u.oneCell' = true := by
  intro u hu
  obtain ⟨x, _, hx⟩ := List.mem_flatMap.1 hu
  simp [PR.cells] at hx
  rcases hx with rfl | rfl | rfl <;> rfl
theorem prsCells_drop (l : List PR) (k : Nat) : (prsCells l).drop (k * 3) = prsCells (l.drop k) := by
  induction k generalizing l with
  | zero => simp
  | succ k ih =>
    cases l with
    | nil => simp [prsCells]
    | cons a r =>
      rw [List.drop_succ_cons, ← ih r, prsCells, List.flatMap_cons, ← prsCells, show (k + 1) * 3 = 3 + k * 3 by omega, ← List.drop_drop]
      rfl
theorem prsCells_take (l : List PR) (k : Nat) : (prsCells l).take (k * 3) = prsCells (l.take k) := by
  induction k generalizing l with
  | zero => simp [prsCells]
  | succ k ih =>
    cases l with
    | nil => simp [prsCells]
    | cons a r =>
      have e1 : ∀ q : List PR, prsCells (a :: q) = PR.cells a ++ prsCells q := fun q => rfl
      rw [List.take_succ_cons, e1, e1, ← ih r, show (k + 1) * 3 = (PR.cells a).length + k * 3 by simp [PR.cells]; omega, List.take_length_add_append]
theorem prsCells_get (l : List PR) (k : Nat) (h : k < l.length) : (prsCells l)[k * 3]? = some (.string l[k].name) ∧ (prsCells l)[k * 3 + 1]? = some (.int .i64 l[k].sq) ∧ (prsCells l)[k * 3 + 2]? = some (.int .i64 l[k].off) := by
  have e : prsCells l = (prsCells l).take (k * 3) ++ (prsCells l).drop (k * 3) := (List.take_append_drop _ _).symm
  have hl : ((prsCells l).take (k * 3)).length = k * 3 := by rw [List.length_take, prsCells_length]; omega
  have hd : (prsCells l).drop (k * 3) = PR.cells l[k] ++ prsCells (l.drop (k + 1)) := by
    rw [prsCells_drop, List.drop_eq_getElem_cons h, prsCells, List.flatMap_cons]
    rfl
  rw [e, hd]
  refine ⟨?_, ?_, ?_⟩
  all_goals rw [List.getElem?_append_right (by omega), hl]
  · rw [Nat.sub_self]; rfl
  · rw [show k * 3 + 1 - k * 3 = 1 by omega]; rfl
  · rw [show k * 3 + 2 - k * 3 = 2 by omega]; rfl
def lessB (a b : ByteArray) : Bool := Op.bytesLess a.toList b.toList
def findF : List PR → ByteArray → Nat
  | [], _ => 0
  | p :: r, nm => if lessB p.name nm = true then findF r nm + 1 else 0
def thereF (l : List PR) (nm : ByteArray) : Bool := match l[findF l nm]? with
  | some p => p.name.toList == nm.toList
  | none => false
theorem findF_le : ∀ (l : List PR) (nm : ByteArray), findF l nm ≤ l.length
  | [], _ => Nat.le_refl _
  | p :: r, nm => by
    unfold findF
    split
    · exact Nat.succ_le_succ (findF_le r nm)
    · exact Nat.zero_le _
theorem findF_lt : ∀ (l : List PR) (nm : ByteArray) (k : Nat) (h : k < l.length), k < findF l nm → lessB l[k].name nm = true
  | p :: r, nm, k, h, hk => by
    unfold findF at hk
    split at hk
    · cases k with
      | zero => assumption
      | succ k => exact findF_lt r nm k (Nat.lt_of_succ_lt_succ h) (Nat.lt_of_succ_lt_succ hk)
    · exact absurd hk (Nat.not_lt_zero _)
theorem findF_at : ∀ (l : List PR) (nm : ByteArray) (h : findF l nm < l.length), lessB l[findF l nm].name nm = false
  | p :: r, nm, h => by
    by_cases hp : lessB p.name nm = true
    · have e : findF (p :: r) nm = findF r nm + 1 := by rw [findF, if_pos hp]
      have h2 : findF r nm < r.length := by rw [e] at h; exact Nat.lt_of_succ_lt_succ h
      have h3 := findF_at r nm h2
      simp only [e, List.getElem_cons_succ]
      exact h3
    · have e : findF (p :: r) nm = 0 := by rw [findF, if_neg hp]
      simp only [e, List.getElem_cons_zero]
      simpa using hp
theorem findF_of {l : List PR} {nm : ByteArray} {k : Nat} (h1 : ∀ j (h : j < l.length), j < k → lessB l[j].name nm = true) (h2 : k ≤ l.length) (h3 : ∀ h : k < l.length, lessB l[k].name nm = false) : findF l nm = k := by
  rcases Nat.lt_trichotomy (findF l nm) k with h | h | h
  · have := findF_at l nm (by omega)
    rw [h1 _ (by omega) h] at this
    cases this
  · exact h
  · have h4 := findF_le l nm
    have := findF_lt l nm k (by omega) h
    rw [h3 (by omega)] at this
    cases this
structure XL where
  b : Nat
  po : Option Addr
  pc : Nat
  ro : Option Addr
  rc : Nat
def XL.own (X : XL) (j : Nat) : Prop := j = X.b ∨ (Value.slice X.po 0 X.pc).ownBlock = some j ∨ (Value.slice X.ro 0 X.rc).ownBlock = some j
structure XAt (w : World) (X : XL) (G : XG) : Prop where
  box : w.heap[X.b]? = some (.cells #[.string G.name, .int .i64 G.low, .int .i64 G.fin, .slice X.po G.prods.length X.pc, .slice X.ro G.recs.length X.rc] 44 (0, 0))
  prow : OwnsQ w 64 3 (.slice X.po G.prods.length X.pc) G.prods.length (prsCells G.prods)
  row : OwnsQ w 39 5 (.slice X.ro G.recs.length X.rc) G.recs.length (recCells G.recs)
section
variable {w w' : World} {X X' : XL} {G G' : XG}
theorem XAt.keep {own : Nat → Prop} (h : XAt w X G) (ht : Touch own w w') (hn : ∀ j, X.own j → ¬ own j) : XAt w' X G :=
  ⟨ht.at h.box (hn _ (.inl rfl)), h.prow.keep ht fun j hj => hn j (.inr (.inl ((own_block _ _ _ _).trans hj))), h.row.keep ht fun j hj => hn j (.inr (.inr ((own_block _ _ _ _).trans hj)))⟩
theorem XAt.below (h : XAt w X G) (hb : Below w.heap.size w w') : XAt w' X G := h.keep (own := fun _ => False) (Touch.of_below hb) fun _ _ e => e
theorem XAt.lt (h : XAt w X G) {j : Nat} (hj : X.own j) : j < w.heap.size := by
  rcases hj with rfl | hj | hj
  · exact heap_lt h.box
  · exact h.prow.lt ((own_block _ _ _ _).trans hj)
  · exact h.row.lt ((own_block _ _ _ _).trans hj)
theorem xcells (h : XAt w X G) : w.cell? ⟨X.b, 0, none⟩ = some (.string G.name) ∧ w.cell? ⟨X.b, 1, none⟩ = some (.int .i64 G.low) ∧ w.cell? ⟨X.b, 2, none⟩ = some (.int .i64 G.fin) ∧ w.cell? ⟨X.b, 3, none⟩ = some (.slice X.po G.prods.length X.pc) ∧ w.cell? ⟨X.b, 4, none⟩ = some (.slice X.ro G.recs.length X.rc) :=
  ⟨box_cell h.box 0 rfl, box_cell h.box 1 rfl, box_cell h.box 2 rfl, box_cell h.box 3 rfl, box_cell h.box 4 rfl⟩
theorem XAt.prod (h : XAt w X G) {k : Nat} (hk : k < G.prods.length) : ∃ pb po, X.po = some ⟨pb, po, none⟩ ∧ pb < w.heap.size ∧ w.cell? ⟨pb, po + k * 3, none⟩ = some (.string G.prods[k].name) ∧ w.cell? ⟨pb, po + k * 3 + 1, none⟩ = some (.int .i64 G.prods[k].sq) ∧ w.cell? ⟨pb, po + k * 3 + 2, none⟩ = some (.int .i64 G.prods[k].off) := by
  obtain ⟨e1, e2, e3⟩ := prsCells_get G.prods k hk
  rcases hX : X.po with _ | ad
  · have := h.prow.2
    rw [hX] at this
    rcases this with ⟨_, h0⟩ | ⟨_, _, _, _, hv, _⟩
    · omega
    · cases hv
  · have hq := h.prow
    rw [hX] at hq
    obtain ⟨off, hd, hc, _⟩ := hq.cell
    refine ⟨ad.block, off, by rw [← hd], ?_, ?_, ?_, ?_⟩
    · exact hq.lt rfl
    · rw [hc _ (by omega)]; exact e1
    · rw [Nat.add_assoc, hc _ (by omega)]; exact e2
    · rw [Nat.add_assoc, hc _ (by omega)]; exact e3
structure XStep (w w' : World) (X X' : XL) : Prop where
  touch : Touch (fun j => j = X.b) w w'
  b : X'.b = X.b
  own : ∀ j, X'.own j → X.own j ∨ w.heap.size ≤ j
theorem XStep.below (h : Below w.heap.size w w') : XStep w w' X X := ⟨Touch.of_below h, rfl, fun _ h => .inl h⟩
end
theorem xnew (s : ByteArray) (hs : s.size ≤ 281474976710656) (w : World) : Calls Tryz.prog 8 #[.string s] w fun e w' =>
    (wordB s = false ∧ e = .returned (.pointer none) ∧ w' = w) ∨ (wordB s = true ∧ ∃ X : XL, e = .returned (.pointer (some ⟨X.b, 0, none⟩)) ∧ XAt w' X ⟨s, 0, 0, [], []⟩ ∧ Below w.heap.size w w' ∧ ∀ j, X.own j → w.heap.size ≤ j) := by
  have HW := hide (rword s (by omega) w)
  cases hw : wordB s with
  | false =>
    rw [hw] at HW
    go_enter Tryz.func8, Tryz.ntmps8
    go_wp2_with (go_at_call 28; refine HW.out.mono ?_; rintro e w1 ⟨rfl, rfl⟩)
    go_ret
    simp
  | true =>
    rw [hw] at HW
    have HB := hide (show Below w.heap.size w (w.alloc (.cells #[.string s, .int .i64 0, .int .i64 0, .slice none 0 0, .slice none 0 0] 44)) from (Below.refl _ _).alloc (Nat.le_refl _) _)
    have HX := hide (heap_alloc_new w (.cells #[.string s, .int .i64 0, .int .i64 0, .slice none 0 0, .slice none 0 0] 44))
    go_enter Tryz.func8, Tryz.ntmps8
    go_wp2_with (go_at_call 28; refine HW.out.mono ?_; rintro e w1 ⟨rfl, h1⟩; obtain rfl := h1.symm)
    go_ret
    refine .inr ⟨trivial, ⟨w.heap.size, none, 0, none, 0⟩, rfl, ⟨HX.out, OwnsQ.nil _ _ _, OwnsQ.nil _ _ _⟩, HB.out, ?_⟩
    rintro j (rfl | hj | hj)
    · exact Nat.le_refl _
    · cases hj
    · cases hj
theorem frame_xf (t : Array Value) (h : t.size = 48) : ∃ u : Nat → Value, t = List.toArray (u 0 :: u 1 :: u 2 :: u 3 :: u 4 :: u 5 :: u 6 :: u 7 :: u 8 :: u 9 :: u 10 :: u 11 :: u 12 :: u 13 :: u 14 :: u 15 :: u 16 :: u 17 :: u 18 :: u 19 :: u 20 :: u 21 :: u 22 :: u 23 :: u 24 :: u 25 :: u 26 :: u 27 :: u 28 :: u 29 :: u 30 :: u 31 :: u 32 :: u 33 :: u 34 :: u 35 :: u 36 :: u 37 :: u 38 :: u 39 :: u 40 :: u 41 :: u 42 :: u 43 :: u 44 :: u 45 :: u 46 :: u 47 :: []) := by
  refine ⟨fun i => t.getD i undef, ?_⟩
  refine Eq.trans (b := ((List.range 48).map fun i => t.getD i undef).toArray) ?_ rfl
  apply Array.ext
  · simp [h]
  · intro k h1 h2
    simp [Array.getD, h1]
structure Vxf where
  v0 : Value
  v1 : Value
  v4 : Value
  v5 : Value
  v6 : Value
structure Fxf (a : Act) (v : Vxf) : Prop where
  size : a.tmps.size = 48
  defers : a.defers = []
  s0 : a.tmps.getD 0 undef = v.v0
  s1 : a.tmps.getD 1 undef = v.v1
  s4 : a.tmps.getD 4 undef = v.v4
  s5 : a.tmps.getD 5 undef = v.v5
  s6 : a.tmps.getD 6 undef = v.v6
theorem frx_xf {a : Act} {v0 v1 v4 v5 v6 : Value} (h : Fxf a ⟨v0, v1, v4, v5, v6⟩) : ∃ u : Nat → Value, a = ⟨List.toArray (v0 :: v1 :: u 2 :: u 3 :: v4 :: v5 :: v6 :: u 7 :: u 8 :: u 9 :: u 10 :: u 11 :: u 12 :: u 13 :: u 14 :: u 15 :: u 16 :: u 17 :: u 18 :: u 19 :: u 20 :: u 21 :: u 22 :: u 23 :: u 24 :: u 25 :: u 26 :: u 27 :: u 28 :: u 29 :: u 30 :: u 31 :: u 32 :: u 33 :: u 34 :: u 35 :: u 36 :: u 37 :: u 38 :: u 39 :: u 40 :: u 41 :: u 42 :: u 43 :: u 44 :: u 45 :: u 46 :: u 47 :: []), []⟩ := by
  obtain ⟨t', d'⟩ := a
  obtain ⟨hs, hd, q0, q1, q4, q5, q6⟩ := h
  obtain ⟨u, hu⟩ := frame_xf t' hs
  simp only at hd q0 q1 q4 q5 q6
  subst hu hd
  have e0 : u 0 = v0 := q0
  have e1 : u 1 = v1 := q1
  have e4 : u 4 = v4 := q4
  have e5 : u 5 = v5 := q5
  have e6 : u 6 = v6 := q6
  refine ⟨u, ?_⟩
  rw [e0, e1, e4, e5, e6]
theorem xf_r0 {K : Act → World → Prop} {c : Code} (hc : regOf (Tryz.f32.body.getD .skip) 0 = some c) (a : Act) {v : Vxf} {wq : World}  (hF : Fxf a v) (hQ : ∀ a', Fxf a' { v with v4 := .int .i64 0, v5 := .bool false } → K a' wq) :
    Code.wp Tryz.prog c (Exit.then K fun _ _ _ => False) a wq := by
  have HQ := hide hQ
  clear hQ
  obtain ⟨v0, v1, v4, v5, v6⟩ := v
  obtain ⟨u, rfl⟩ := frx_xf hF
  clear hF
  simp only [Tryz.f32, Option.getD_some, regOf] at hc
  injection hc with hc
  subst hc
  go_wp2
  exact HQ.out _ ⟨rfl, rfl, rfl, rfl, rfl, rfl, rfl⟩
theorem xf_r1 {K : Act → World → Prop} {c : Code} (hc : regOf (Tryz.f32.body.getD .skip) 1 = some c) (a : Act) {v : Vxf} {wq : World}  (hF : Fxf a v) (hQ : ∀ a', Fxf a' { v with v6 := .int .i64 0 } → K a' wq) :
    Code.wp Tryz.prog c (Exit.then K fun _ _ _ => False) a wq := by
  have HQ := hide hQ
  clear hQ
  obtain ⟨v0, v1, v4, v5, v6⟩ := v
  obtain ⟨u, rfl⟩ := frx_xf hF
  clear hF
  simp only [Tryz.f32, Option.getD_some, regOf] at hc
  injection hc with hc
  subst hc
  go_wp2
  exact HQ.out _ ⟨rfl, rfl, rfl, rfl, rfl, rfl, rfl⟩
theorem xf_r3 {K : Act → World → Prop} {c : Code} (hc : regOf (Tryz.f32.body.getD .skip) 3 = some c) (a : Act) {v : Vxf} {wq : World} {i : Nat} (hF : Fxf a v) (h6v : v.v6 = .int .i64 (i : Int)) (hi : i ≤ 1000000)
    (hQ : ∀ a', Fxf a' { v with v6 := .int .i64 ((i + 1 : Nat) : Int) } → K a' wq) :
    Code.wp Tryz.prog c (Exit.then K fun _ _ _ => False) a wq := by
  have HQ := hide hQ
  clear hQ
  obtain ⟨v0, v1, v4, v5, v6⟩ := v
  simp only at h6v HQ
  subst h6v
  obtain ⟨u, rfl⟩ := frx_xf hF
  clear hF
  simp only [Tryz.f32, Option.getD_some, regOf] at hc
  injection hc with hc
  subst hc
  go_wp2
  exact HQ.out _ ⟨rfl, rfl, rfl, rfl, rfl, rfl, (by first | rfl | (simp; done) | (go_num; done))⟩
theorem xf_r2a {K : Act → World → Prop} {c : Code} (hc : regOf (Tryz.f32.body.getD .skip) 2 = some c) (a : Act) {v : Vxf} {wq : World} {xb pb po n pc k : Nat} {nm s : ByteArray} (hF : Fxf a v) (h0v : v.v0 = .pointer (some ⟨xb, 0, none⟩)) (h1v : v.v1 = .string nm) (h6v : v.v6 = .int .i64 (k : Int)) (hk : k < n) (hcb : wq.cell? ⟨xb, 3, none⟩ = some (.slice (some ⟨pb, po, none⟩) n pc)) (hs : wq.cell? ⟨pb, po + k * 3, none⟩ = some (.string s))
    (hQ : ∀ a', Fxf a' v → a'.tmps.getD 25 undef = .bool (lessB s nm) → K a' wq) :
    Code.wp Tryz.prog c (Exit.then K fun _ _ _ => False) a wq := by
  have HQ := hide hQ
  clear hQ
  obtain ⟨v0, v1, v4, v5, v6⟩ := v
  simp only at h0v h1v h6v HQ
  subst h0v h1v h6v
  obtain ⟨u, rfl⟩ := frx_xf hF
  clear hF
  simp only [Tryz.f32, Option.getD_some, regOf] at hc
  injection hc with hc
  subst hc
  have e1 : (k : Int) < (n : Int) := by omega
  unfold lessB at HQ
  go_wp2
  exact HQ.out _ ⟨rfl, rfl, rfl, rfl, rfl, rfl, rfl⟩ (by first | rfl | (simp; done))
theorem xf_r2b {K : Act → World → Prop} {c : Code} (hc : regOf (Tryz.f32.body.getD .skip) 2 = some c) (a : Act) {v : Vxf} {wq : World} {xb n pc : Nat} {ao : Option Addr} (hF : Fxf a v) (h0v : v.v0 = .pointer (some ⟨xb, 0, none⟩)) (h6v : v.v6 = .int .i64 (n : Int)) (hcb : wq.cell? ⟨xb, 3, none⟩ = some (.slice ao n pc))
    (hQ : ∀ a', Fxf a' v → a'.tmps.getD 25 undef = .bool false → K a' wq) :
    Code.wp Tryz.prog c (Exit.then K fun _ _ _ => False) a wq := by
  have HQ := hide hQ
  clear hQ
  obtain ⟨v0, v1, v4, v5, v6⟩ := v
  simp only at h0v h6v HQ
  subst h0v h6v
  obtain ⟨u, rfl⟩ := frx_xf hF
  clear hF
  simp only [Tryz.f32, Option.getD_some, regOf] at hc
  injection hc with hc
  subst hc
  go_wp2
  exact HQ.out _ ⟨rfl, rfl, rfl, rfl, rfl, rfl, rfl⟩ (by first | rfl | (simp; done))
theorem xf_r4a {K : Act → World → Prop} {c : Code} (hc : regOf (Tryz.f32.body.getD .skip) 4 = some c) (a : Act) {v : Vxf} {wq : World} {xb pb po n pc k : Nat} {nm tn : ByteArray} (hF : Fxf a v) (h0v : v.v0 = .pointer (some ⟨xb, 0, none⟩)) (h1v : v.v1 = .string nm) (h6v : v.v6 = .int .i64 (k : Int)) (hk : k < n) (hl : xb < wq.heap.size) (hcb : wq.cell? ⟨xb, 3, none⟩ = some (.slice (some ⟨pb, po, none⟩) n pc)) (hl2 : pb < wq.heap.size) (hs : wq.cell? ⟨pb, po + k * 3, none⟩ = some (.string tn))
    (hQ : ∀ a' w', Fxf a' { v with v4 := .int .i64 (k : Int), v5 := .bool (tn.toList == nm.toList) } → Below wq.heap.size wq w' → K a' w') :
    Code.wp Tryz.prog c (Exit.then K fun _ _ _ => False) a wq := by
  have HQ := hide hQ
  clear hQ
  obtain ⟨v0, v1, v4, v5, v6⟩ := v
  simp only at h0v h1v h6v HQ
  subst h0v h1v h6v
  obtain ⟨u, rfl⟩ := frx_xf hF
  clear hF
  simp only [Tryz.f32, Option.getD_some, regOf] at hc
  injection hc with hc
  subst hc
  have HL := hide hl
  have HC := hide hcb
  have HL2 := hide hl2
  have HC2 := hide hs
  have HI : Hid ((k : Int) < (n : Int)) := by
    show _ < _
    omega
  have HI2 : Hid (k < n) := hk
  have HI3 : Hid ((0 : Int) ≤ (k : Int)) := Int.natCast_nonneg k
  clear hk hl hcb hl2 hs
  refine wp_region_phi (by kernel_rfl) (ns := 48) (uses := (fun i => match i with | 0 => [28] | 1 => [29] | 2 => [30] | 3 => [31] | 4 => [32] | 5 => [33] | 6 => [34] | 7 => [35] | 8 => [36] | 9 => [37] | 10 => [38] | 11 => [39] | 12 => [40] | 13 => [41] | 14 => [42] | 15 => [43] | 16 => [44] | 17 => [45] | 18 => [46] | 19 => [47] | 20 => [4] | 21 => [5] | _ => [])) (by kernel_rfl) (by kernel_rfl) (fun _ w w' => Below w.heap.size w w') (fun w => Below wq.heap.size wq w) (fun _ _ _ h r => h.trans (r.mono h.size)) ((Below.refl _ _).drew) (fun i => match i with | 0 => fun s w => s 28 = .int .i64 (k : Int) | 1 => fun s w => s 29 = .int .i64 (k : Int) | 2 => fun s w => s 30 = .pointer (some ⟨xb, 0, none⟩) | 3 => fun s w => s 31 = .pointer (some ⟨xb, 0, none⟩) | 4 => fun s w => s 32 = .pointer (some ⟨xb, 3, none⟩) | 5 => fun s w => s 33 = .slice (some ⟨pb, po, none⟩) n pc | 6 => fun s w => s 34 = .int .i64 (n : Int) | 7 => fun s w => s 35 = .bool true | 8 => fun s w => s 36 = .bool true | 9 => fun s w => s 37 = .pointer (some ⟨xb, 0, none⟩) | 10 => fun s w => s 38 = .pointer (some ⟨xb, 0, none⟩) | 11 => fun s w => s 39 = .pointer (some ⟨xb, 3, none⟩) | 12 => fun s w => s 40 = .slice (some ⟨pb, po, none⟩) n pc | 13 => fun s w => s 41 = .int .i64 (k : Int) | 14 => fun s w => s 42 = .pointer (some ⟨pb, po + k * 3, none⟩) | 15 => fun s w => s 43 = .pointer (some ⟨pb, po + k * 3, none⟩) | 16 => fun s w => s 44 = .string tn | 17 => fun s w => s 45 = .string nm | 18 => fun s w => s 46 = .bool (tn.toList == nm.toList) | 19 => fun s w => s 47 = .bool (tn.toList == nm.toList) | 20 => fun s w => s 4 = .int .i64 (k : Int) | 21 => fun s w => s 5 = .bool (tn.toList == nm.toList) | _ => fun _ _ => True) ?phc ?phh ?pstep ?pdone
  case phc =>
    intro i s s' w hx h
    iterate 22 (rcases i with _ | i; · exact (hx _ (List.mem_singleton.2 rfl)).symm.trans h)
    exact h
  case phh =>
    intro i j s w w' hij h hb r
    iterate 22 (rcases i with _ | i; · exact h)
    exact h
  case pstep =>
    intro i o ho a' w' hsa hb hd
    match i, ho with
    | 0, ho | 1, ho =>
      obtain rfl := Option.some.inj ho
      try dsimp only at hd
      have g6 : a'.tmps.getD 6 undef = .int .i64 (k : Int) := hsa.rest 6 (by rfl)
      refine wpOp_of rfl rfl ?_
      refine op_run (v := .int .i64 (k : Int)) (w' := w') ?_ ⟨_, rfl, slots_put (ns := 48) (hsa.size.trans rfl) (by decide), Below.refl _ _⟩
      simp only [execOp, Act.eval, g6]; first | (go_simp; done) | rfl
    | 2, ho =>
      obtain rfl := Option.some.inj ho
      try dsimp only at hd
      have g0 : a'.tmps.getD 0 undef = .pointer (some ⟨xb, 0, none⟩) := hsa.rest 0 (by rfl)
      refine wpOp_of rfl rfl ?_
      refine op_run (v := .pointer (some ⟨xb, 0, none⟩)) (w' := w') ?_ ⟨_, rfl, slots_put (ns := 48) (hsa.size.trans rfl) (by decide), Below.refl _ _⟩
      simp only [execOp, Act.eval, g0]; first | (go_simp; done) | rfl
    | 3, ho =>
      obtain rfl := Option.some.inj ho
      try dsimp only at hd
      have d2 : a'.tmps.getD 30 undef = .pointer (some ⟨xb, 0, none⟩) := hd 2 (by rfl)
      refine wpOp_of rfl rfl ?_
      refine op_run (v := .pointer (some ⟨xb, 0, none⟩)) (w' := w') ?_ ⟨_, rfl, slots_put (ns := 48) (hsa.size.trans rfl) (by decide), Below.refl _ _⟩
      simp only [execOp, Act.eval, d2]; first | (go_simp; done) | rfl
    | 4, ho =>
      obtain rfl := Option.some.inj ho
      try dsimp only at hd
      have d3 : a'.tmps.getD 31 undef = .pointer (some ⟨xb, 0, none⟩) := hd 3 (by rfl)
      refine wpOp_of rfl rfl ?_
      refine op_run (v := .pointer (some ⟨xb, 3, none⟩)) (w' := w') ?_ ⟨_, rfl, slots_put (ns := 48) (hsa.size.trans rfl) (by decide), Below.refl _ _⟩
      simp only [execOp, Act.eval, d3]; first | (go_simp; done) | rfl
    | 5, ho =>
      obtain rfl := Option.some.inj ho
      try dsimp only at hd
      have d4 : a'.tmps.getD 32 undef = .pointer (some ⟨xb, 3, none⟩) := hd 4 (by rfl)
      have y : w'.cell? ⟨xb, 3, none⟩ = some (.slice (some ⟨pb, po, none⟩) n pc) := (hb.cell (p := ⟨xb, 3, none⟩) HL.out).trans HC.out
      refine wpOp_of rfl rfl ?_
      refine op_run (v := .slice (some ⟨pb, po, none⟩) n pc) (w' := w') ?_ ⟨_, rfl, slots_put (ns := 48) (hsa.size.trans rfl) (by decide), Below.refl _ _⟩
      simp only [execOp, Act.eval, d4, y]; first | (go_simp; done) | rfl
    | 6, ho =>
      obtain rfl := Option.some.inj ho
      try dsimp only at hd
      have d5 : a'.tmps.getD 33 undef = .slice (some ⟨pb, po, none⟩) n pc := hd 5 (by rfl)
      refine wpOp_of rfl rfl ?_
      refine op_run (v := .int .i64 (n : Int)) (w' := w') ?_ ⟨_, rfl, slots_put (ns := 48) (hsa.size.trans rfl) (by decide), Below.refl _ _⟩
      simp only [execOp, Act.eval, List.map_toArray, List.map_cons, List.map_nil, d5]; first | (go_simp; done) | rfl
    | 7, ho =>
      obtain rfl := Option.some.inj ho
      try dsimp only at hd
      have d1 : a'.tmps.getD 29 undef = .int .i64 (k : Int) := hd 1 (by rfl)
      have d6 : a'.tmps.getD 34 undef = .int .i64 (n : Int) := hd 6 (by rfl)
      have y := HI.out
      refine wpOp_of rfl rfl ?_
      refine op_run (v := .bool true) (w' := w') ?_ ⟨_, rfl, slots_put (ns := 48) (hsa.size.trans rfl) (by decide), Below.refl _ _⟩
      simp only [execOp, Act.eval, d1, d6, y]; first | (go_simp; done) | rfl
    | 8, ho =>
      obtain rfl := Option.some.inj ho
      try dsimp only at hd
      have d7 : a'.tmps.getD 35 undef = .bool true := hd 7 (by rfl)
      refine wpOp_of rfl rfl ?_
      refine op_run (v := .bool true) (w' := w') ?_ ⟨_, rfl, slots_put (ns := 48) (hsa.size.trans rfl) (by decide), Below.refl _ _⟩
      simp only [execOp, Act.eval, d7]; first | (go_simp; done) | rfl
    | 9, ho =>
      obtain rfl := Option.some.inj ho
      try dsimp only at hd
      have d8 : a'.tmps.getD 36 undef = .bool true := hd 8 (by rfl)
      have g0 : a'.tmps.getD 0 undef = .pointer (some ⟨xb, 0, none⟩) := hsa.rest 0 (by rfl)
      refine wpOp_on (j := 8) (dj := 36) rfl rfl rfl d8 ?_
      refine op_run (v := .pointer (some ⟨xb, 0, none⟩)) (w' := w') ?_ ⟨_, rfl, slots_put (ns := 48) (hsa.size.trans rfl) (by decide), Below.refl _ _⟩
      simp only [execOp, Act.eval, d8, g0]; first | (go_simp; done) | rfl
    | 10, ho =>
      obtain rfl := Option.some.inj ho
      try dsimp only at hd
      have d8 : a'.tmps.getD 36 undef = .bool true := hd 8 (by rfl)
      have d9 : a'.tmps.getD 37 undef = .pointer (some ⟨xb, 0, none⟩) := hd 9 (by rfl)
      refine wpOp_on (j := 8) (dj := 36) rfl rfl rfl d8 ?_
      refine op_run (v := .pointer (some ⟨xb, 0, none⟩)) (w' := w') ?_ ⟨_, rfl, slots_put (ns := 48) (hsa.size.trans rfl) (by decide), Below.refl _ _⟩
      simp only [execOp, Act.eval, d8, d9]; first | (go_simp; done) | rfl
    | 11, ho =>
      obtain rfl := Option.some.inj ho
      try dsimp only at hd
      have d8 : a'.tmps.getD 36 undef = .bool true := hd 8 (by rfl)
      have d10 : a'.tmps.getD 38 undef = .pointer (some ⟨xb, 0, none⟩) := hd 10 (by rfl)
      refine wpOp_on (j := 8) (dj := 36) rfl rfl rfl d8 ?_
      refine op_run (v := .pointer (some ⟨xb, 3, none⟩)) (w' := w') ?_ ⟨_, rfl, slots_put (ns := 48) (hsa.size.trans rfl) (by decide), Below.refl _ _⟩
      simp only [execOp, Act.eval, d8, d10]; first | (go_simp; done) | rfl
    | 12, ho =>
      obtain rfl := Option.some.inj ho
      try dsimp only at hd
      have d8 : a'.tmps.getD 36 undef = .bool true := hd 8 (by rfl)
      have d11 : a'.tmps.getD 39 undef = .pointer (some ⟨xb, 3, none⟩) := hd 11 (by rfl)
      have y : w'.cell? ⟨xb, 3, none⟩ = some (.slice (some ⟨pb, po, none⟩) n pc) := (hb.cell (p := ⟨xb, 3, none⟩) HL.out).trans HC.out
      refine wpOp_on (j := 8) (dj := 36) rfl rfl rfl d8 ?_
      refine op_run (v := .slice (some ⟨pb, po, none⟩) n pc) (w' := w') ?_ ⟨_, rfl, slots_put (ns := 48) (hsa.size.trans rfl) (by decide), Below.refl _ _⟩
      simp only [execOp, Act.eval, d8, d11, y]; first | (go_simp; done) | rfl
    | 13, ho =>
      obtain rfl := Option.some.inj ho
      try dsimp only at hd
      have d8 : a'.tmps.getD 36 undef = .bool true := hd 8 (by rfl)
      have g6 : a'.tmps.getD 6 undef = .int .i64 (k : Int) := hsa.rest 6 (by rfl)
      refine wpOp_on (j := 8) (dj := 36) rfl rfl rfl d8 ?_
      refine op_run (v := .int .i64 (k : Int)) (w' := w') ?_ ⟨_, rfl, slots_put (ns := 48) (hsa.size.trans rfl) (by decide), Below.refl _ _⟩
      simp only [execOp, Act.eval, d8, g6]; first | (go_simp; done) | rfl
    | 14, ho =>
      obtain rfl := Option.some.inj ho
      try dsimp only at hd
      have d8 : a'.tmps.getD 36 undef = .bool true := hd 8 (by rfl)
      have d12 : a'.tmps.getD 40 undef = .slice (some ⟨pb, po, none⟩) n pc := hd 12 (by rfl)
      have d13 : a'.tmps.getD 41 undef = .int .i64 (k : Int) := hd 13 (by rfl)
      have y1 := HI.out
      have y2 := HI2.out
      have y3 := HI3.out
      refine wpOp_on (j := 8) (dj := 36) rfl rfl rfl d8 ?_
      refine op_run (v := .pointer (some ⟨pb, po + k * 3, none⟩)) (w' := w') ?_ ⟨_, rfl, slots_put (ns := 48) (hsa.size.trans rfl) (by decide), Below.refl _ _⟩
      simp only [execOp, Act.eval, d8, d12, d13, y1, y2, y3]; first | (go_simp; done) | rfl
    | 15, ho =>
      obtain rfl := Option.some.inj ho
      try dsimp only at hd
      have d8 : a'.tmps.getD 36 undef = .bool true := hd 8 (by rfl)
      have d14 : a'.tmps.getD 42 undef = .pointer (some ⟨pb, po + k * 3, none⟩) := hd 14 (by rfl)
      refine wpOp_on (j := 8) (dj := 36) rfl rfl rfl d8 ?_
      refine op_run (v := .pointer (some ⟨pb, po + k * 3, none⟩)) (w' := w') ?_ ⟨_, rfl, slots_put (ns := 48) (hsa.size.trans rfl) (by decide), Below.refl _ _⟩
      simp only [execOp, Act.eval, d8, d14]; first | (go_simp; done) | rfl
    | 16, ho =>
      obtain rfl := Option.some.inj ho
      try dsimp only at hd
      have d8 : a'.tmps.getD 36 undef = .bool true := hd 8 (by rfl)
      have d15 : a'.tmps.getD 43 undef = .pointer (some ⟨pb, po + k * 3, none⟩) := hd 15 (by rfl)
      have y : w'.cell? ⟨pb, po + k * 3, none⟩ = some (.string tn) := (hb.cell (p := ⟨pb, po + k * 3, none⟩) HL2.out).trans HC2.out
      refine wpOp_on (j := 8) (dj := 36) rfl rfl rfl d8 ?_
      refine op_run (v := .string tn) (w' := w') ?_ ⟨_, rfl, slots_put (ns := 48) (hsa.size.trans rfl) (by decide), Below.refl _ _⟩
      simp only [execOp, Act.eval, d8, d15, y]; first | (go_simp; done) | rfl
    | 17, ho =>
      obtain rfl := Option.some.inj ho
      try dsimp only at hd
      have d8 : a'.tmps.getD 36 undef = .bool true := hd 8 (by rfl)
      have g1 : a'.tmps.getD 1 undef = .string nm := hsa.rest 1 (by rfl)
      refine wpOp_on (j := 8) (dj := 36) rfl rfl rfl d8 ?_
      refine op_run (v := .string nm) (w' := w') ?_ ⟨_, rfl, slots_put (ns := 48) (hsa.size.trans rfl) (by decide), Below.refl _ _⟩
      simp only [execOp, Act.eval, d8, g1]; first | (go_simp; done) | rfl
    | 18, ho =>
      obtain rfl := Option.some.inj ho
      try dsimp only at hd
      have d8 : a'.tmps.getD 36 undef = .bool true := hd 8 (by rfl)
      have d16 : a'.tmps.getD 44 undef = .string tn := hd 16 (by rfl)
      have d17 : a'.tmps.getD 45 undef = .string nm := hd 17 (by rfl)
      refine wpOp_on (j := 8) (dj := 36) rfl rfl rfl d8 ?_
      refine op_run (v := .bool (tn.toList == nm.toList)) (w' := w') ?_ ⟨_, rfl, slots_put (ns := 48) (hsa.size.trans rfl) (by decide), Below.refl _ _⟩
      simp only [execOp, Act.eval, d8, d16, d17]; first | (go_simp; done) | rfl
    | 19, ho =>
      obtain rfl := Option.some.inj ho
      try dsimp only at hd
      have d8 : a'.tmps.getD 36 undef = .bool true := hd 8 (by rfl)
      have d18 : a'.tmps.getD 46 undef = .bool (tn.toList == nm.toList) := hd 18 (by rfl)
      refine wpOp_of rfl rfl ?_
      refine op_run (v := .bool (tn.toList == nm.toList)) (w' := w') ?_ ⟨_, rfl, slots_put (ns := 48) (hsa.size.trans rfl) (by decide), Below.refl _ _⟩
      simp only [execOp, Act.eval, d8, d18]; first | (go_simp; done) | rfl
    | 20, ho =>
      obtain rfl := Option.some.inj ho
      try dsimp only at hd
      have d0 : a'.tmps.getD 28 undef = .int .i64 (k : Int) := hd 0 (by rfl)
      refine wpOp_of rfl rfl ?_
      refine op_run (v := .int .i64 (k : Int)) (w' := w') ?_ ⟨_, rfl, slots_put (ns := 48) (hsa.size.trans rfl) (by decide), Below.refl _ _⟩
      simp only [execOp, Act.eval, d0]; first | (go_simp; done) | rfl
    | 21, ho =>
      obtain rfl := Option.some.inj ho
      try dsimp only at hd
      have d19 : a'.tmps.getD 47 undef = .bool (tn.toList == nm.toList) := hd 19 (by rfl)
      refine wpOp_of rfl rfl ?_
      refine op_run (v := .bool (tn.toList == nm.toList)) (w' := w') ?_ ⟨_, rfl, slots_put (ns := 48) (hsa.size.trans rfl) (by decide), Below.refl _ _⟩
      simp only [execOp, Act.eval, d19]; first | (go_simp; done) | rfl
    | (n + 22), ho => exact absurd ho (by simp)
  case pdone =>
    intro a' w' hsa hb hd
    have d20 : a'.tmps.getD 4 undef = .int .i64 (k : Int) := hd 20 (by decide)
    have d21 : a'.tmps.getD 5 undef = .bool (tn.toList == nm.toList) := hd 21 (by decide)
    exact HQ.out _ _ ⟨hsa.size.trans rfl, hsa.defers.trans rfl, hsa.rest 0 (by rfl), hsa.rest 1 (by rfl), d20, d21, hsa.rest 6 (by rfl)⟩ hb
theorem xf_r4b {K : Act → World → Prop} {c : Code} (hc : regOf (Tryz.f32.body.getD .skip) 4 = some c) (a : Act) {v : Vxf} {wq : World} {xb n pc : Nat} {ao : Option Addr} {nm : ByteArray} (hF : Fxf a v) (h0v : v.v0 = .pointer (some ⟨xb, 0, none⟩)) (h1v : v.v1 = .string nm) (h6v : v.v6 = .int .i64 (n : Int)) (hl : xb < wq.heap.size) (hcb : wq.cell? ⟨xb, 3, none⟩ = some (.slice ao n pc))
    (hQ : ∀ a' w', Fxf a' { v with v4 := .int .i64 (n : Int), v5 := .bool false } → Below wq.heap.size wq w' → K a' w') :
    Code.wp Tryz.prog c (Exit.then K fun _ _ _ => False) a wq := by
  have HQ := hide hQ
  clear hQ
  obtain ⟨v0, v1, v4, v5, v6⟩ := v
  simp only at h0v h1v h6v HQ
  subst h0v h1v h6v
  obtain ⟨u, rfl⟩ := frx_xf hF
  clear hF
  simp only [Tryz.f32, Option.getD_some, regOf] at hc
  injection hc with hc
  subst hc
  have HL := hide hl
  have HC := hide hcb
  have HI : Hid (¬ (n : Int) < (n : Int)) := by
    show ¬ _
    omega
  clear hl hcb
  refine wp_region_phi (by kernel_rfl) (ns := 48) (uses := (fun i => match i with | 0 => [28] | 1 => [29] | 2 => [30] | 3 => [31] | 4 => [32] | 5 => [33] | 6 => [34] | 7 => [35] | 8 => [36] | 9 => [37] | 10 => [38] | 11 => [39] | 12 => [40] | 13 => [41] | 14 => [42] | 15 => [43] | 16 => [44] | 17 => [45] | 18 => [46] | 19 => [47] | 20 => [4] | 21 => [5] | _ => [])) (by kernel_rfl) (by kernel_rfl) (fun _ w w' => Below w.heap.size w w') (fun w => Below wq.heap.size wq w) (fun _ _ _ h r => h.trans (r.mono h.size)) ((Below.refl _ _).drew) (fun i => match i with | 0 => fun s w => s 28 = .int .i64 (n : Int) | 1 => fun s w => s 29 = .int .i64 (n : Int) | 2 => fun s w => s 30 = .pointer (some ⟨xb, 0, none⟩) | 3 => fun s w => s 31 = .pointer (some ⟨xb, 0, none⟩) | 4 => fun s w => s 32 = .pointer (some ⟨xb, 3, none⟩) | 5 => fun s w => s 33 = .slice ao n pc | 6 => fun s w => s 34 = .int .i64 (n : Int) | 7 => fun s w => s 35 = .bool false | 8 => fun s w => s 36 = .bool false | 9 => fun s w => s 37 = undef | 10 => fun s w => s 38 = undef | 11 => fun s w => s 39 = undef | 12 => fun s w => s 40 = undef | 13 => fun s w => s 41 = undef | 14 => fun s w => s 42 = undef | 15 => fun s w => s 43 = undef | 16 => fun s w => s 44 = undef | 17 => fun s w => s 45 = undef | 18 => fun s w => s 46 = undef | 19 => fun s w => s 47 = .bool false | 20 => fun s w => s 4 = .int .i64 (n : Int) | 21 => fun s w => s 5 = .bool false | _ => fun _ _ => True) ?phc ?phh ?pstep ?pdone
  case phc =>
    intro i s s' w hx h
    iterate 22 (rcases i with _ | i; · exact (hx _ (List.mem_singleton.2 rfl)).symm.trans h)
    exact h
  case phh =>
    intro i j s w w' hij h hb r
    iterate 22 (rcases i with _ | i; · exact h)
    exact h
  case pstep =>
    intro i o ho a' w' hsa hb hd
    match i, ho with
    | 0, ho | 1, ho =>
      obtain rfl := Option.some.inj ho
      try dsimp only at hd
      have g6 : a'.tmps.getD 6 undef = .int .i64 (n : Int) := hsa.rest 6 (by rfl)
      refine wpOp_of rfl rfl ?_
      refine op_run (v := .int .i64 (n : Int)) (w' := w') ?_ ⟨_, rfl, slots_put (ns := 48) (hsa.size.trans rfl) (by decide), Below.refl _ _⟩
      simp only [execOp, Act.eval, g6]; first | (go_simp; done) | rfl
    | 2, ho =>
      obtain rfl := Option.some.inj ho
      try dsimp only at hd
      have g0 : a'.tmps.getD 0 undef = .pointer (some ⟨xb, 0, none⟩) := hsa.rest 0 (by rfl)
      refine wpOp_of rfl rfl ?_
      refine op_run (v := .pointer (some ⟨xb, 0, none⟩)) (w' := w') ?_ ⟨_, rfl, slots_put (ns := 48) (hsa.size.trans rfl) (by decide), Below.refl _ _⟩
      simp only [execOp, Act.eval, g0]; first | (go_simp; done) | rfl
    | 3, ho =>
      obtain rfl := Option.some.inj ho
      try dsimp only at hd
      have d2 : a'.tmps.getD 30 undef = .pointer (some ⟨xb, 0, none⟩) := hd 2 (by rfl)
      refine wpOp_of rfl rfl ?_
      refine op_run (v := .pointer (some ⟨xb, 0, none⟩)) (w' := w') ?_ ⟨_, rfl, slots_put (ns := 48) (hsa.size.trans rfl) (by decide), Below.refl _ _⟩
      simp only [execOp, Act.eval, d2]; first | (go_simp; done) | rfl
    | 4, ho =>
      obtain rfl := Option.some.inj ho
      try dsimp only at hd
      have d3 : a'.tmps.getD 31 undef = .pointer (some ⟨xb, 0, none⟩) := hd 3 (by rfl)
      refine wpOp_of rfl rfl ?_
      refine op_run (v := .pointer (some ⟨xb, 3, none⟩)) (w' := w') ?_ ⟨_, rfl, slots_put (ns := 48) (hsa.size.trans rfl) (by decide), Below.refl _ _⟩
      simp only [execOp, Act.eval, d3]; first | (go_simp; done) | rfl
    | 5, ho =>
      obtain rfl := Option.some.inj ho
      try dsimp only at hd
      have d4 : a'.tmps.getD 32 undef = .pointer (some ⟨xb, 3, none⟩) := hd 4 (by rfl)
      have y : w'.cell? ⟨xb, 3, none⟩ = some (.slice ao n pc) := (hb.cell (p := ⟨xb, 3, none⟩) HL.out).trans HC.out
      refine wpOp_of rfl rfl ?_
      refine op_run (v := .slice ao n pc) (w' := w') ?_ ⟨_, rfl, slots_put (ns := 48) (hsa.size.trans rfl) (by decide), Below.refl _ _⟩
      simp only [execOp, Act.eval, d4, y]; first | (go_simp; done) | rfl
    | 6, ho =>
      obtain rfl := Option.some.inj ho
      try dsimp only at hd
      have d5 : a'.tmps.getD 33 undef = .slice ao n pc := hd 5 (by rfl)
      refine wpOp_of rfl rfl ?_
      refine op_run (v := .int .i64 (n : Int)) (w' := w') ?_ ⟨_, rfl, slots_put (ns := 48) (hsa.size.trans rfl) (by decide), Below.refl _ _⟩
      simp only [execOp, Act.eval, List.map_toArray, List.map_cons, List.map_nil, d5]; first | (go_simp; done) | rfl
    | 7, ho =>
      obtain rfl := Option.some.inj ho
      try dsimp only at hd
      have d1 : a'.tmps.getD 29 undef = .int .i64 (n : Int) := hd 1 (by rfl)
      have d6 : a'.tmps.getD 34 undef = .int .i64 (n : Int) := hd 6 (by rfl)
      have y := HI.out
      refine wpOp_of rfl rfl ?_
      refine op_run (v := .bool false) (w' := w') ?_ ⟨_, rfl, slots_put (ns := 48) (hsa.size.trans rfl) (by decide), Below.refl _ _⟩
      simp only [execOp, Act.eval, d1, d6, y]; first | (go_simp; done) | rfl
    | 8, ho =>
      obtain rfl := Option.some.inj ho
      try dsimp only at hd
      have d7 : a'.tmps.getD 35 undef = .bool false := hd 7 (by rfl)
      refine wpOp_of rfl rfl ?_
      refine op_run (v := .bool false) (w' := w') ?_ ⟨_, rfl, slots_put (ns := 48) (hsa.size.trans rfl) (by decide), Below.refl _ _⟩
      simp only [execOp, Act.eval, d7]; first | (go_simp; done) | rfl
    | 9, ho | 10, ho | 11, ho | 12, ho | 13, ho | 14, ho | 15, ho | 16, ho | 17, ho | 18, ho =>
      obtain rfl := Option.some.inj ho
      try dsimp only at hd
      have d8 : a'.tmps.getD 36 undef = .bool false := hd 8 (by rfl)
      exact wpOp_off (j := 8) (dj := 36) rfl rfl rfl d8 (by simp [undef]) ⟨undef, rfl, slots_put (ns := 48) (hsa.size.trans rfl) (by decide), Below.refl _ _⟩
    | 19, ho =>
      obtain rfl := Option.some.inj ho
      try dsimp only at hd
      have d8 : a'.tmps.getD 36 undef = .bool false := hd 8 (by rfl)
      have d18 : a'.tmps.getD 46 undef = undef := hd 18 (by rfl)
      refine wpOp_of rfl rfl ?_
      refine op_run (v := .bool false) (w' := w') ?_ ⟨_, rfl, slots_put (ns := 48) (hsa.size.trans rfl) (by decide), Below.refl _ _⟩
      simp only [execOp, Act.eval, d8, d18]; first | (go_simp; done) | rfl
    | 20, ho =>
      obtain rfl := Option.some.inj ho
      try dsimp only at hd
      have d0 : a'.tmps.getD 28 undef = .int .i64 (n : Int) := hd 0 (by rfl)
      refine wpOp_of rfl rfl ?_
      refine op_run (v := .int .i64 (n : Int)) (w' := w') ?_ ⟨_, rfl, slots_put (ns := 48) (hsa.size.trans rfl) (by decide), Below.refl _ _⟩
      simp only [execOp, Act.eval, d0]; first | (go_simp; done) | rfl
    | 21, ho =>
      obtain rfl := Option.some.inj ho
      try dsimp only at hd
      have d19 : a'.tmps.getD 47 undef = .bool false := hd 19 (by rfl)
      refine wpOp_of rfl rfl ?_
      refine op_run (v := .bool false) (w' := w') ?_ ⟨_, rfl, slots_put (ns := 48) (hsa.size.trans rfl) (by decide), Below.refl _ _⟩
      simp only [execOp, Act.eval, d19]; first | (go_simp; done) | rfl
    | (n + 22), ho => exact absurd ho (by simp)
  case pdone =>
    intro a' w' hsa hb hd
    have d20 : a'.tmps.getD 4 undef = .int .i64 (n : Int) := hd 20 (by decide)
    have d21 : a'.tmps.getD 5 undef = .bool false := hd 21 (by decide)
    exact HQ.out _ _ ⟨hsa.size.trans rfl, hsa.defers.trans rfl, hsa.rest 0 (by rfl), hsa.rest 1 (by rfl), d20, d21, hsa.rest 6 (by rfl)⟩ hb
theorem xf_ret {W : World} {a : Act} {v : Vxf} {k : Int} {b : Bool} {R : Ending → World → Prop} (hF : Fxf a v) (h2 : v.v4 = .int .i64 k) (h3 : v.v5 = .bool b) (h : R (.returned (.tuple #[.int .i64 k, .bool b])) W) :
    bodyPost Tryz.prog Tryz.f32 R .ret a W := by
  have g2 := slot_get (hF.s4.trans h2)
  have g3 := slot_get (hF.s5.trans h3)
  refine bodyPost_ret (v := .tuple #[.int .i64 k, .bool b]) ?_ hF.defers h
  simp [results, Tryz.results32, go_sem, g2, g3]
theorem xfind {w : World} {X : XL} {G : XG} (h : XAt w X G) (hl : G.prods.length ≤ 1000000) (nm : ByteArray) : Calls Tryz.prog 32 #[.pointer (some ⟨X.b, 0, none⟩), .string nm] w fun e w' => e = .returned (.tuple #[.int .i64 (findF G.prods nm), .bool (thereF G.prods nm)]) ∧ Below w.heap.size w w' := by
  obtain ⟨_, _, _, hc3, _⟩ := xcells h
  have hxl := heap_lt h.box
  go_enter Tryz.func32, Tryz.ntmps32
  refine wp_seq (reg_mono (xf_r0 (by kernel_rfl) _ (v := ⟨_, _, _, _, _⟩) ⟨rfl, rfl, rfl, rfl, rfl, rfl, rfl⟩ ?_))
  intro a0 F0
  try dsimp only at F0
  refine wp_seq (reg_mono (xf_r1 (by kernel_rfl) _ F0 ?_))
  intro a1 F1
  try dsimp only at F1
  refine wp_seq (wp_block (wp_loop (fun a W => ∃ (k : Nat) (v : Vxf), k ≤ G.prods.length ∧ (∀ j (hj : j < G.prods.length), j < k → lessB G.prods[j].name nm = true) ∧ Fxf a v ∧ v.v0 = .pointer (some ⟨X.b, 0, none⟩) ∧ v.v1 = .string nm ∧ v.v6 = .int .i64 (k : Int) ∧ W = w) (fun a _ => G.prods.length - (intOf (a.tmps.getD 6 undef)).toNat) ⟨0, _, Nat.zero_le _, fun j _ hj => absurd hj (Nat.not_lt_zero _), F1, rfl, rfl, rfl, rfl⟩ ?_))
  clear F0 F1
  rintro a W ⟨k, v, hk, hall, F, q0, q1, q6, hW⟩
  obtain rfl := hW.symm
  have hmk : (intOf (a.tmps.getD 6 undef)).toNat = k := by rw [F.s6, q6]; simp [intOf]
  obtain ⟨v0, v1, v4, v5, v6⟩ := v
  simp only at q0 q1 q6
  subst q0 q1 q6
  by_cases hlt : k < G.prods.length
  case pos =>
    obtain ⟨pb, po, hX, hpb, hp0, _, _⟩ := h.prod hlt
    rw [hX] at hc3
    refine wp_seq (wp_seq (reg_mono (xf_r2a (by kernel_rfl) _ F rfl rfl rfl hlt hc3 hp0 ?_)))
    intro a2 F2 g2
    cases hls : lessB G.prods[k].name nm with
    | true =>
      rw [hls] at g2
      refine wp_cond_true g2 (wp_skip ?_)
      show Code.wp _ _ _ _ _
      refine wp_block (reg_all (xf_r3 (by kernel_rfl) _ F2 rfl (by omega) ?_))
      intro a3 F3
      try dsimp only at F3
      refine ⟨⟨k + 1, _, hlt, fun j hj hjk => ?_, F3, rfl, rfl, rfl, rfl⟩, ?_⟩
      · by_cases e : j = k
        · subst e; exact hls
        · exact hall j hj (by omega)
      · rw [hmk, F3.s6]
        simp [intOf]
        omega
    | false =>
      rw [hls] at g2
      refine wp_cond_false g2 (wp_exit ?_)
      show Code.wp _ _ _ _ _
      have ef : findF G.prods nm = k := findF_of hall hk fun _ => hls
      have et : thereF G.prods nm = (G.prods[k].name.toList == nm.toList) := by rw [thereF, ef, List.getElem?_eq_getElem hlt]
      refine wp_seq (reg_mono (xf_r4a (by kernel_rfl) _ F2 rfl rfl rfl hlt hxl hc3 hpb hp0 ?_))
      intro a4 w4 F4 b4
      try dsimp only at F4
      rw [ef, et]
      exact wp_ret (xf_ret F4 rfl rfl ⟨rfl, b4⟩)
  obtain rfl : G.prods.length = k := by omega
  refine wp_seq (wp_seq (reg_mono (xf_r2b (by kernel_rfl) _ F rfl rfl hc3 ?_)))
  intro a2 F2 g2
  refine wp_cond_false g2 (wp_exit ?_)
  show Code.wp _ _ _ _ _
  have ef : findF G.prods nm = G.prods.length := findF_of hall hk fun q => absurd q hlt
  have et : thereF G.prods nm = false := by rw [thereF, ef, List.getElem?_eq_none (Nat.le_refl _)]
  refine wp_seq (reg_mono (xf_r4b (by kernel_rfl) _ F2 rfl rfl rfl hxl hc3 ?_))
  intro a4 w4 F4 b4
  try dsimp only at F4
  rw [ef, et]
  exact wp_ret (xf_ret F4 rfl rfl ⟨rfl, b4⟩)
end Go.Proofs.YtmkkcgkakomacaaGreat.Y
