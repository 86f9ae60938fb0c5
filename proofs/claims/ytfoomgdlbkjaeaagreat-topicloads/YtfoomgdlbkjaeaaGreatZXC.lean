/-
  carillonref15's Publish, whole (mkxc.py).
-/
import Derived.Test.YtfoomgdlbkjaeaaGreatZC6
import Derived.Test.YtfoomgdlbkjaeaaGreatZT8
import Derived.Test.YtfoomgdlbkjaeaaGreatZYCl
namespace Go.Proofs.YtfoomgdlbkjaeaaGreat
open Go.RowKit
set_option maxHeartbeats 4000000
set_option maxRecDepth 100000
attribute [local go_sem ↓] Go.wp_at_zero Go.wp_at_succ
set_option linter.unusedSimpArgs false
set_option linter.unusedVariables false
theorem rword (s : ByteArray) (h63 : s.size ≤ 9223372036854775807) (w : World) :
    Calls Tryz.prog 28 #[.string s] w fun e w' => e = .returned (.bool (wordB s)) ∧ w' = w := by
  have HG := hide (fun h1 h2 hh => word_good (s := s) h1 h2 hh)
  have HB := hide (fun k (hk : k < s.size) hb => word_bad (s := s) hk hb)
  have H0 := hide (@word_short s)
  have H20 := hide (@word_long s)
  generalize wordB s = r at *
  go_enter Tryz.func28, Tryz.ntmps28
  go_wp2
  go_loopw [3] (fun iv wv => ∃ k : Nat, k ≤ s.size ∧ iv = .int .i64 k ∧ wv = w ∧ Hid (((s.data.toList.take k).all fun b => letB b.toNat) = true)) (fun iv _ => s.size - (intOf iv).toNat)
  case atStart => exact ⟨0, Nat.zero_le _, rfl, rfl, rfl⟩
  case round =>
    obtain ⟨k, hk, rfl, rfl, HJ⟩ := hrel
    by_cases hlt : k < s.size
    · have hlt2 : (k : Int) < (s.size : Int) := by omega
      have HX : Hid (letB s[k].toNat = true → ((s.data.toList.take (k + 1)).all fun b => letB b.toNat) = true) := fun hb => by
        rw [take_snocC s k hlt, List.all_append, HJ.out]
        simp [hb]
      have HY := hide (HB.out k hlt)
      clear HB HJ HG H0 H20
      by_cases g1 : (97 : Int) ≤ (s[k].toNat : Int)
      · by_cases g2 : (s[k].toNat : Int) ≤ 122
        · have HZ := hide (HX.out (by unfold letB; simp; omega))
          clear HX HY
          go_wp2
          exact ⟨⟨k + 1, by omega, by go_num, trivial, HZ⟩, by simp [intOf]; omega⟩
        · have HR := hide (HY.out (by unfold letB; simp; omega))
          have g3 : (48 : Int) ≤ (s[k].toNat : Int) := by omega
          have g4 : ¬ (s[k].toNat : Int) ≤ 57 := by omega
          clear HX HY
          go_wp2
          go_ret
          exact ⟨by rw [HR.out]; rfl, rfl⟩
      · by_cases g3 : (48 : Int) ≤ (s[k].toNat : Int)
        · by_cases g4 : (s[k].toNat : Int) ≤ 57
          · have HZ := hide (HX.out (by unfold letB; simp; omega))
            clear HX HY
            go_wp2
            exact ⟨⟨k + 1, by omega, by go_num, trivial, HZ⟩, by simp [intOf]; omega⟩
          · have HR := hide (HY.out (by unfold letB; simp; omega))
            clear HX HY
            go_wp2
            go_ret
            exact ⟨by rw [HR.out]; rfl, rfl⟩
        · have HR := hide (HY.out (by unfold letB; simp; omega))
          clear HX HY
          go_wp2
          go_ret
          exact ⟨by rw [HR.out]; rfl, rfl⟩
    · have hlt2 : ¬ (k : Int) < (s.size : Int) := by omega
      have e : s.data.toList.take k = s.data.toList := List.take_of_length_le (by simp; omega)
      have HJ2 := HJ.out
      rw [e] at HJ2
      by_cases f1 : (s.size : Int) ≥ 1
      · by_cases f2 : (s.size : Int) ≤ 20
        · have HR := hide (HG.out (by omega) (by omega) HJ2)
          clear e HJ HB HG H0 H20 HJ2
          go_wp2
          go_ret
          exact ⟨by rw [HR.out]; rfl, rfl⟩
        · have HR := hide (H20.out (by omega))
          clear e HJ HB HG H0 H20 HJ2
          go_wp2
          go_ret
          exact ⟨by rw [HR.out]; rfl, rfl⟩
      · have HR := hide (H0.out (by omega))
        clear e HJ HB HG H0 H20 HJ2
        go_wp2
        go_ret
        exact ⟨by rw [HR.out]; rfl, rfl⟩
end Go.Proofs.YtfoomgdlbkjaeaaGreat
namespace Go.Proofs.YtfoomgdlbkjaeaaGreat.Y
open Go.RowKit
attribute [local go_sem ↓] Go.wp_at_zero Go.wp_at_succ
set_option linter.unusedSimpArgs false
set_option linter.unusedVariables false
structure PR where
  name : ByteArray
  sq : Int
  off : Int
structure XG where
  name : ByteArray
  low : Int
  fin : Int
  prods : List PR
  recs : List Rec
def PR.cells (p : PR) : List Value := [.string p.name, .int .i64 p.sq, .int .i64 p.off]
def prsCells (l : List PR) : List Value := l.flatMap PR.cells
theorem prsCells_length (l : List PR) : (prsCells l).length = l.length * 3 := by
  induction l with
  | nil => rfl
  | cons a r ih => rw [prsCells, List.flatMap_cons, List.length_append, ← prsCells, ih, List.length_cons]; simp [PR.cells]; omega
theorem prsCells_append (k l : List PR) : prsCells (k ++ l) = prsCells k ++ prsCells l := by simp [prsCells]
theorem prsCells_drop (l : List PR) (k : Nat) : (prsCells l).drop (k * 3) = prsCells (l.drop k) := by
  induction k generalizing l with
  | zero => simp
  | succ k ih =>
    cases l with
    | nil => simp [prsCells]
    | cons a r =>
      rw [List.drop_succ_cons, ← ih r, prsCells, List.flatMap_cons, ← prsCells, show (k + 1) * 3 = 3 + k * 3 by omega, ← List.drop_drop]
      rfl
theorem prsCells_get (l : List PR) (k : Nat) (h : k < l.length) : (prsCells l)[k * 3]? = some (.string l[k].name) ∧ (prsCells l)[k * 3 + 1]? = some (.int .i64 l[k].sq) ∧ (prsCells l)[k * 3 + 2]? = some (.int .i64 l[k].off) := by
  have e : prsCells l = (prsCells l).take (k * 3) ++ (prsCells l).drop (k * 3) := (List.take_append_drop _ _).symm
  have hl : ((prsCells l).take (k * 3)).length = k * 3 := by rw [List.length_take, prsCells_length]; omega
  have hd : (prsCells l).drop (k * 3) = PR.cells l[k] ++ prsCells (l.drop (k + 1)) := by
    rw [prsCells_drop, List.drop_eq_getElem_cons h, prsCells, List.flatMap_cons]
    rfl
  rw [e, hd]
  refine ⟨?_, ?_, ?_⟩
  all_goals rw [List.getElem?_append_right (by omega), hl]
  · rw [Nat.sub_self]; rfl
  · rw [show k * 3 + 1 - k * 3 = 1 by omega]; rfl
  · rw [show k * 3 + 2 - k * 3 = 2 by omega]; rfl
structure XL where
  b : Nat
  po : Option Addr
  pc : Nat
  ro : Option Addr
  rc : Nat
def XL.own (X : XL) (j : Nat) : Prop := j = X.b ∨ (Value.slice X.po 0 X.pc).ownBlock = some j ∨ (Value.slice X.ro 0 X.rc).ownBlock = some j
structure XAt (w : World) (X : XL) (G : XG) : Prop where
  box : w.heap[X.b]? = some (.cells #[.string G.name, .int .i64 G.low, .int .i64 G.fin, .slice X.po G.prods.length X.pc, .slice X.ro G.recs.length X.rc] 44 (0, 0))
  prow : OwnsQ w 64 3 (.slice X.po G.prods.length X.pc) G.prods.length (prsCells G.prods)
  row : OwnsQ w 39 5 (.slice X.ro G.recs.length X.rc) G.recs.length (recCells G.recs)
section
variable {w w' : World} {X X' : XL} {G G' : XG}
theorem XAt.keep {own : Nat → Prop} (h : XAt w X G) (ht : Touch own w w') (hn : ∀ j, X.own j → ¬ own j) : XAt w' X G :=
  ⟨ht.at h.box (hn _ (.inl rfl)), h.prow.keep ht fun j hj => hn j (.inr (.inl ((own_block _ _ _ _).trans hj))), h.row.keep ht fun j hj => hn j (.inr (.inr ((own_block _ _ _ _).trans hj)))⟩
theorem XAt.below (h : XAt w X G) (hb : Below w.heap.size w w') : XAt w' X G := h.keep (own := fun _ => False) (Touch.of_below hb) fun _ _ e => e
theorem XAt.lt (h : XAt w X G) {j : Nat} (hj : X.own j) : j < w.heap.size := by
  rcases hj with rfl | hj | hj
  · exact heap_lt h.box
  · exact h.prow.lt ((own_block _ _ _ _).trans hj)
  · exact h.row.lt ((own_block _ _ _ _).trans hj)
theorem XAt.prod (h : XAt w X G) {k : Nat} (hk : k < G.prods.length) : ∃ pb po, X.po = some ⟨pb, po, none⟩ ∧ pb < w.heap.size ∧ w.cell? ⟨pb, po + k * 3, none⟩ = some (.string G.prods[k].name) ∧ w.cell? ⟨pb, po + k * 3 + 1, none⟩ = some (.int .i64 G.prods[k].sq) ∧ w.cell? ⟨pb, po + k * 3 + 2, none⟩ = some (.int .i64 G.prods[k].off) := by
  obtain ⟨e1, e2, e3⟩ := prsCells_get G.prods k hk
  rcases hX : X.po with _ | ad
  · have := h.prow.2
    rw [hX] at this
    rcases this with ⟨_, h0⟩ | ⟨_, _, _, _, hv, _⟩
    · omega
    · cases hv
  · have hq := h.prow
    rw [hX] at hq
    obtain ⟨off, hd, hc, _⟩ := hq.cell
    refine ⟨ad.block, off, by rw [← hd], ?_, ?_, ?_, ?_⟩
    · exact hq.lt rfl
    · rw [hc _ (by omega)]; exact e1
    · rw [Nat.add_assoc, hc _ (by omega)]; exact e2
    · rw [Nat.add_assoc, hc _ (by omega)]; exact e3
structure XStep (w w' : World) (X X' : XL) : Prop where
  touch : Touch (fun j => j = X.b) w w'
  b : X'.b = X.b
  own : ∀ j, X'.own j → X.own j ∨ w.heap.size ≤ j
theorem XStep.below (h : Below w.heap.size w w') : XStep w w' X X := ⟨Touch.of_below h, rfl, fun _ h => .inl h⟩
end
structure Vxf where
  v0 : Value
  v1 : Value
  v4 : Value
  v5 : Value
  v6 : Value
structure Fxf (a : Act) (v : Vxf) : Prop where
  size : a.tmps.size = 48
  defers : a.defers = []
  s0 : a.tmps.getD 0 undef = v.v0
  s1 : a.tmps.getD 1 undef = v.v1
  s4 : a.tmps.getD 4 undef = v.v4
  s5 : a.tmps.getD 5 undef = v.v5
  s6 : a.tmps.getD 6 undef = v.v6
end Go.Proofs.YtfoomgdlbkjaeaaGreat.Y
namespace Go.Proofs.YtfoomgdlbkjaeaaGreat.Y
open Go.RowKit
attribute [local go_sem ↓] Go.wp_at_zero Go.wp_at_succ
set_option linter.unusedSimpArgs false
set_option linter.unusedVariables false
structure Vxp where
  v0 : Value
  v1 : Value
  v2 : Value
  v3 : Value
  v4 : Value
  v10 : Value
  v11 : Value
  v12 : Value
  v13 : Value
  v14 : Value
  v15 : Value
  v16 : Value
  v17 : Value
structure Fxp (a : Act) (v : Vxp) : Prop where
  size : a.tmps.size = 143
  defers : a.defers = []
  s0 : a.tmps.getD 0 undef = v.v0
  s1 : a.tmps.getD 1 undef = v.v1
  s2 : a.tmps.getD 2 undef = v.v2
  s3 : a.tmps.getD 3 undef = v.v3
  s4 : a.tmps.getD 4 undef = v.v4
  s10 : a.tmps.getD 10 undef = v.v10
  s11 : a.tmps.getD 11 undef = v.v11
  s12 : a.tmps.getD 12 undef = v.v12
  s13 : a.tmps.getD 13 undef = v.v13
  s14 : a.tmps.getD 14 undef = v.v14
  s15 : a.tmps.getD 15 undef = v.v15
  s16 : a.tmps.getD 16 undef = v.v16
  s17 : a.tmps.getD 17 undef = v.v17
end Go.Proofs.YtfoomgdlbkjaeaaGreat.Y
namespace Go.Proofs.YtfoomgdlbkjaeaaGreat.Y
open Go.RowKit
attribute [local go_sem ↓] Go.wp_at_zero Go.wp_at_succ
set_option linter.unusedSimpArgs false
set_option linter.unusedVariables false
theorem infoPr : Tryz.prog.info? 64 = some Tryz.t64 := by kernel_rfl
theorem zeroPr : Tryz.t64.zero = some (.agg #[.string ⟨#[]⟩, .int .i64 0, .int .i64 0]) := by kernel_rfl
theorem sizePr : Tryz.t64.size = 3 := by kernel_rfl
theorem bytesPr : Tryz.t64.bytes = 32 := by kernel_rfl
theorem q_news {w : World} {e : TypeId} {z m c : Nat} {ad : Addr} {news : List Value} (h : OwnsQ w e z (.slice (some ad) m c) m news) : ∀ (j : Nat) (x : Value), news[j]? = some x → w.cell? (ad.add j) = some x := by
  intro j x hj
  have hl : j < news.length := (List.getElem?_eq_some_iff.1 hj).1
  rw [h.1] at hl
  obtain ⟨off, hd, hc, _⟩ := h.cell
  rw [hd, Addr.add_lit, hc j hl]
  exact hj
theorem app_pr {w : World} {B n m oc xc : Nat} {oo xo : Option Addr} {xs news : List Value} (hown : w.ownsRow B 64 3 (.slice oo n oc) n xs) (hx : OwnsQ w 64 3 (.slice xo m xc) m news) (h1 : ∀ u ∈ news, u.oneCell' = true) (hl : n + m ≤ 1000000) (hB : B ≤ w.heap.size) :
    ∃ to' tc' w', (Builtin.append_ #[42, 42] 42 #[.slice oo n oc, .slice xo m xc]).run Tryz.prog w = .ok (.slice to' (n + m) tc') w' ∧ w'.ownsRow B 64 3 (.slice to' (n + m) tc') (n + m) (xs ++ news) ∧ w.grownBy w' (Value.slice oo n oc).ownBlock := by
  cases xo with
  | none =>
    rcases hx.2 with ⟨hv, hn⟩ | ⟨g, off, cap, cur, hv, _⟩
    · injection hv with _ _ h3
      subst h3 hn
      have hl0 : news = [] := List.eq_nil_of_length_eq_zero (by have := hx.1; omega)
      subst hl0
      have hr := run_append_owned_none (P := Tryz.prog) w B 42 42 64 _ 3 Tryz.underlying42 infoPr (.slice oo n oc) n xs hown
      refine ⟨oo, oc, w, by simpa using hr, by simpa using hown, ⟨rfl, rfl, rfl, Nat.le_refl _, fun _ _ _ => rfl⟩⟩
    · cases hv
  | some ad =>
    obtain ⟨v', w', hr, h2, h3, _, h4⟩ := run_append_own_at (P := Tryz.prog) w B 42 42 64 _ _ 3 32 Tryz.underlying42 infoPr zeroPr sizePr bytesPr rfl (by decide) (.slice oo n oc) n xs hown ad m xc news hx.1 (q_news hx) h1 (by unfold maxLen; omega) (by omega) hB
    obtain ⟨to', tc', rfl⟩ := row_slice h2
    exact ⟨to', tc', w', hr, h2, h3⟩
theorem app_rec {w : World} {B n m oc xc : Nat} {oo xo : Option Addr} {xs news : List Value} (hown : w.ownsRow B 39 5 (.slice oo n oc) n xs) (hx : OwnsQ w 39 5 (.slice xo m xc) m news) (h1 : ∀ u ∈ news, u.oneCell' = true) (hl : n + m ≤ 1000000) (hB : B ≤ w.heap.size) :
    ∃ to' tc' w', (Builtin.append_ #[35, 35] 35 #[.slice oo n oc, .slice xo m xc]).run Tryz.prog w = .ok (.slice to' (n + m) tc') w' ∧ w'.ownsRow B 39 5 (.slice to' (n + m) tc') (n + m) (xs ++ news) ∧ w.grownBy w' (Value.slice oo n oc).ownBlock := by
  cases xo with
  | none =>
    rcases hx.2 with ⟨hv, hn⟩ | ⟨g, off, cap, cur, hv, _⟩
    · injection hv with _ _ h3
      subst h3 hn
      have hl0 : news = [] := List.eq_nil_of_length_eq_zero (by have := hx.1; omega)
      subst hl0
      have hr := run_append_owned_none (P := Tryz.prog) w B 35 35 39 _ 5 Tryz.underlying35 Tryz.infoRec (.slice oo n oc) n xs hown
      refine ⟨oo, oc, w, by simpa using hr, by simpa using hown, ⟨rfl, rfl, rfl, Nat.le_refl _, fun _ _ _ => rfl⟩⟩
    · cases hv
  | some ad =>
    obtain ⟨v', w', hr, h2, h3, _, h4⟩ := run_append_own_at (P := Tryz.prog) w B 35 35 39 _ _ 5 64 Tryz.underlying35 Tryz.infoRec Tryz.zeroRec Tryz.sizeRec Tryz.bytesRec rfl (by decide) (.slice oo n oc) n xs hown ad m xc news hx.1 (q_news hx) h1 (by unfold maxLen; omega) (by omega) hB
    obtain ⟨to', tc', rfl⟩ := row_slice h2
    exact ⟨to', tc', w', hr, h2, h3⟩
theorem q_lit {w : World} {e : TypeId} {z : Nat} {cs : Array Value} (hs : cs.size = z) : OwnsQ (w.alloc (.cells cs e)) e z (.slice (some ⟨w.heap.size, 0, none⟩) 1 1) 1 cs.toList :=
  ⟨by simp [hs], .inr ⟨w.heap.size, 0, 1, cs, rfl, heap_alloc_new _ _, Nat.le_refl _, by unfold maxLen; omega, by omega, fun j hj => by rw [Nat.zero_add, Array.getElem?_toList]⟩⟩
theorem xset {w : World} {b o : Nat} {t : TypeId} {cs : Array Value} {x : Value} (h : w.heap[b]? = some (.cells cs t (0, 0))) : (w.setCell ⟨b, o, none⟩ x).heap[b]? = some (.cells (cs.setIfInBounds o x) t (0, 0)) := by
  simp [World.setCell, Array.getElem?_modify, h]
theorem grown_below {w w' : World} {B : Nat} {row : Option Nat} (hg : w.grownBy w' row) (hr : ∀ k, row = some k → B ≤ k) (hB : B ≤ w.heap.size) : Below B w w' :=
  ⟨hg.os, hg.tape, hg.output, hg.size, fun k hk => hg.block k (Nat.lt_of_lt_of_le hk hB) fun e => by have := hr k e.symm; omega⟩
end Go.Proofs.YtfoomgdlbkjaeaaGreat.Y
