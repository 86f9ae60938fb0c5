/-
  A reply's box; coded, numbered (mkj3.py).
-/
import Derived.Test.YtlfodldlkchmoaaGreatZJB
import Derived.Test.YtlfodldlkchmoaaGreatZC2
namespace Go.Proofs.YtlfodldlkchmoaaGreat.Y
open Go.RowKit Go.Maps
set_option maxRecDepth 100000
set_option linter.unusedVariables false
set_option linter.unusedSimpArgs false
structure LM where
  b : Nat
  tb : Nat
  sb : Nat
  tD : DataW Nat
  sD : DataW Nat
  loc : List UInt8 → LOC
  r : Nat → Option (Option (List UInt8))
def wanV (X : MS) (i : Nat) : Value := .bool (X.wan.getD i false)
def mBox (X : MS) (tb sb : Nat) : Array Value := #[.int .i64 X.cnt, .int .i64 X.dig.re, .int .i64 X.dig.im, wanV X 0, wanV X 1, wanV X 2, wanV X 3, wanV X 4, wanV X 5, wanV X 6, .map (some tb), .map (some sb)]
structure MAt (w : World) (L : LM) (X : MS) : Prop where
  box : w.heap[L.b]? = some (.cells (mBox X L.tb L.sb) 67 (0, 0))
  tmap : w.ownsMap Tryz.prog 9 ptrR L.tb X.tn L.tD
  smap : w.ownsMap Tryz.prog 9 subR L.sb X.sn L.sD
  tfull : Full L.tD
  tget : ∀ k, dget L.tD k = (X.T k).map fun _ => (L.loc k).b
  sget : ∀ k, sget L.sD k = X.S k
  tsize : Maps.size L.tD = X.tn
  ssize : Maps.size L.sD = X.sn
  top : ∀ k H, X.T k = some H → TAt w (L.loc k) H
  rb : L.r L.b = some none
  rtb : L.r L.tb = some none
  rsb : L.r L.sb = some none
  ne : L.tb ≠ L.sb
  rt : ∀ k H, X.T k = some H → ∀ j, (L.loc k).own j → L.r j = some (some k)
  lim : ∀ j, L.r j ≠ none → j < w.heap.size
def LM.own (L : LM) (j : Nat) : Prop := L.r j ≠ none
def LM.at (L : LM) : Value := .pointer (some ⟨L.b, 0, none⟩)
theorem MAt.keep {w w' : World} {L : LM} {X : MS} {own : Nat → Prop} (h : MAt w L X) (ht : Touch own w w') (hn : ∀ j, L.own j → ¬ own j) : MAt w' L X := by
  have hh : ∀ j x, L.r j = some x → ¬ own j := fun j x e => hn j (by unfold LM.own; rw [e]; exact fun e => by cases e)
  exact ⟨ht.at h.box (hh _ _ h.rb), ht.map h.tmap (hh _ _ h.rtb), ht.map h.smap (hh _ _ h.rsb), h.tfull, h.tget, h.sget, h.tsize, h.ssize, fun k H e => (h.top k H e).keep ht fun j hj => hh _ _ (h.rt k H e j hj), h.rb, h.rtb, h.rsb, h.ne, h.rt, fun j e => Nat.lt_of_lt_of_le (h.lim j e) ht.size⟩
theorem MAt.below {w w' : World} {L : LM} {X : MS} (h : MAt w L X) (hb : Below w.heap.size w w') : MAt w' L X := h.keep (own := fun _ => False) (Touch.of_below hb) fun _ _ e => e
theorem MAt.b_ne {w : World} {L : LM} {X : MS} (h : MAt w L X) : L.b ≠ L.tb ∧ L.b ≠ L.sb := by
  constructor
  · intro e
    obtain ⟨es, c, hb, _⟩ := h.tmap
    rw [← e, h.box] at hb
    cases hb
  · intro e
    obtain ⟨es, c, hb, _⟩ := h.smap
    rw [← e, h.box] at hb
    cases hb
theorem MAt.lt {w : World} {L : LM} {X : MS} (h : MAt w L X) : L.b < w.heap.size ∧ L.tb < w.heap.size ∧ L.sb < w.heap.size := by
  refine ⟨heap_lt h.box, ?_, ?_⟩
  · obtain ⟨es, c, hb, _⟩ := h.tmap; exact heap_lt hb
  · obtain ⟨es, c, hb, _⟩ := h.smap; exact heap_lt hb
theorem MAt.cells {w : World} {L : LM} {X : MS} (h : MAt w L X) : w.cell? ⟨L.b, 0, none⟩ = some (.int .i64 X.cnt) ∧ w.cell? ⟨L.b, 1, none⟩ = some (.int .i64 X.dig.re) ∧ w.cell? ⟨L.b, 2, none⟩ = some (.int .i64 X.dig.im) ∧ w.cell? ⟨L.b, 10, none⟩ = some (.map (some L.tb)) ∧ w.cell? ⟨L.b, 11, none⟩ = some (.map (some L.sb)) :=
  ⟨box_cell h.box 0 rfl, box_cell h.box 1 rfl, box_cell h.box 2 rfl, box_cell h.box 10 rfl, box_cell h.box 11 rfl⟩
theorem MAt.free {w : World} {L : LM} {X : MS} (h : MAt w L X) (o : Nat) : w.frozen? ⟨L.b, o, none⟩ = false := box_free h.box o
structure MStep (w w' : World) (L L' : LM) : Prop where
  touch : Touch L.own w w'
  b : L'.b = L.b
  own : ∀ j, L'.own j → L.own j ∨ w.heap.size ≤ j
theorem MStep.refl (w : World) (L : LM) : MStep w w L L := ⟨Touch.refl _ _, rfl, fun _ h => .inl h⟩
theorem MStep.below {w w1 : World} {L : LM} (h : Below w.heap.size w w1) : MStep w w1 L L := ⟨Touch.of_below h, rfl, fun _ h => .inl h⟩
theorem MStep.trans {w w1 w2 : World} {L L1 L2 : LM} (h : MStep w w1 L L1) (h2 : MStep w1 w2 L1 L2) : MStep w w2 L L2 := by
  refine ⟨⟨h2.touch.os.trans h.touch.os, h2.touch.tape.trans h.touch.tape, h2.touch.output.trans h.touch.output, Nat.le_trans h.touch.size h2.touch.size, fun k hk hn => ?_⟩, h2.b.trans h.b, fun j hj => ?_⟩
  · rw [h2.touch.block k (Nat.lt_of_lt_of_le hk h.touch.size) (fun e => (h.own k e).elim hn (fun e => by omega)), h.touch.block k hk hn]
  · rcases h2.own j hj with e | e
    · exact h.own j e
    · exact .inr (Nat.le_trans h.touch.size e)
theorem MStep.then {w w1 w2 : World} {L L1 : LM} (h : MStep w w1 L L1) (hb : Below w1.heap.size w1 w2) : MStep w w2 L L1 := h.trans (MStep.below hb)
theorem MAt.boxed {w w' : World} {L : LM} {X X' : MS} (h : MAt w L X) (ht : Touch (fun j => j = L.b) w w') (hb : w'.heap[L.b]? = some (.cells (mBox X' L.tb L.sb) 67 (0, 0))) (e1 : X'.T = X.T) (e2 : X'.S = X.S) (e3 : X'.tn = X.tn) (e4 : X'.sn = X.sn) : MAt w' L X' ∧ MStep w w' L L := by
  obtain ⟨n1, n2⟩ := h.b_ne
  refine ⟨⟨hb, ?_, ?_, h.tfull, ?_, ?_, ?_, ?_, ?_, h.rb, h.rtb, h.rsb, h.ne, ?_, fun j e => Nat.lt_of_lt_of_le (h.lim j e) ht.size⟩, ⟨ht.mono fun k _ e => ?_, rfl, fun _ e => .inl e⟩⟩
  · rw [e3]; exact ht.map h.tmap fun e => n1 e.symm
  · rw [e4]; exact ht.map h.smap fun e => n2 e.symm
  · rw [e1]; exact h.tget
  · rw [e2]; exact h.sget
  · rw [e3]; exact h.tsize
  · rw [e4]; exact h.ssize
  · rw [e1]
    intro k H e
    refine (h.top k H e).keep ht fun j hj e2 => ?_
    have a := h.rt k H e j hj
    rw [e2, h.rb] at a
    cases a
  · rw [e1]; exact h.rt
  · unfold LM.own
    rw [e, h.rb]
    exact fun e => by cases e
def LM.put (L : LM) (k : List UInt8) (T : LOC) : LM := { L with loc := fun j => if j = k then T else L.loc j, r := fun j => if T.b = j ∨ T.mb = j ∨ (T.rv 0).ownBlock = some j then some (some k) else L.r j }
theorem LM.put_own {L : LM} {k : List UInt8} {T : LOC} {j : Nat} (h : T.own j) : (L.put k T).r j = some (some k) := by
  unfold LM.put
  simp only
  rw [if_pos]
  rcases h with h | h | h
  · exact .inl h.symm
  · exact .inr (.inl h.symm)
  · exact .inr (.inr h)
theorem LM.put_not {L : LM} {k : List UInt8} {T : LOC} {j : Nat} (h : ¬ T.own j) : (L.put k T).r j = L.r j := by
  unfold LM.put
  simp only
  rw [if_neg]
  rintro (e | e | e)
  · exact h (.inl e.symm)
  · exact h (.inr (.inl e.symm))
  · exact h (.inr (.inr e))
theorem MAt.topped {w w' : World} {L : LM} {X : MS} {k : List UInt8} {H H' : TG} {T : LOC} (h : MAt w L X) (hk : X.T k = some H) (hs : TStep w w' (L.loc k) T) (ha : TAt w' T H') : MAt w' (L.put k T) (X.putT k H') ∧ MStep w w' L (L.put k T) := by
  have ho : ∀ j, (L.loc k).own j → L.r j = some (some k) := h.rt k H hk
  have hn : ∀ j x, L.r j = some x → x ≠ some k → j < w.heap.size → ¬ T.own j := by
    intro j x e e2 e3 e4
    rcases hs.own j e4 with e5 | e5
    · have := ho j e5
      rw [e] at this
      exact e2 (Option.some.inj this)
    · omega
  have ht : ∀ j x, L.r j = some x → x ≠ some k → ¬ (L.loc k).own j := by
    intro j x e e2 e5
    have := ho j e5
    rw [e] at this
    exact e2 (Option.some.inj this)
  obtain ⟨l1, l2, l3⟩ := h.lt
  have u1 : (none : Option (List UInt8)) ≠ some k := fun e => by cases e
  have tk : TAt w (L.loc k) H := h.top k H hk
  refine ⟨⟨hs.touch.at h.box (ht _ _ h.rb u1), hs.touch.map h.tmap (ht _ _ h.rtb u1), hs.touch.map h.smap (ht _ _ h.rsb u1), h.tfull, fun j => ?_, h.sget, h.tsize, h.ssize, fun j H2 e => ?_, ?_, ?_, ?_, h.ne, fun j H2 e i hi => ?_, fun j e => ?_⟩, ⟨hs.touch.mono fun j _ e => ?_, rfl, fun j hj => ?_⟩⟩
  · show dget L.tD j = (putF X.T k H' j).map fun _ => (if j = k then T else L.loc j).b
    rw [h.tget j]
    by_cases e : j = k
    · subst e
      rw [putF_same, hk, if_pos rfl, hs.b]
      rfl
    · rw [putF_other _ _ e, if_neg e]
  · have e' : putF X.T k H' j = some H2 := e
    show TAt w' (if j = k then T else L.loc j) H2
    by_cases e3 : j = k
    · subst e3
      rw [putF_same] at e'
      obtain rfl := Option.some.inj e'
      rw [if_pos rfl]
      exact ha
    · rw [putF_other _ _ e3] at e'
      rw [if_neg e3]
      exact (h.top j H2 e').keep hs.touch fun i hi => ht i _ (h.rt j H2 e' i hi) fun e4 => e3 (Option.some.inj e4)
  · exact (LM.put_not (hn _ _ h.rb u1 l1)).trans h.rb
  · exact (LM.put_not (hn _ _ h.rtb u1 l2)).trans h.rtb
  · exact (LM.put_not (hn _ _ h.rsb u1 l3)).trans h.rsb
  · have e' : putF X.T k H' j = some H2 := e
    have hi' : (if j = k then T else L.loc j).own i := hi
    by_cases e3 : j = k
    · subst e3
      rw [if_pos rfl] at hi'
      exact LM.put_own hi'
    · rw [putF_other _ _ e3] at e'
      rw [if_neg e3] at hi'
      exact (LM.put_not (hn i _ (h.rt j H2 e' i hi') (fun e4 => e3 (Option.some.inj e4)) ((h.top j H2 e').lt hi'))).trans (h.rt j H2 e' i hi')
  · by_cases e5 : T.own j
    · exact ha.lt e5
    · rw [LM.put_not e5] at e
      exact Nat.lt_of_lt_of_le (h.lim j e) hs.touch.size
  · unfold LM.own
    rw [ho j e]
    exact fun e => by cases e
  · by_cases e : T.own j
    · rcases hs.own j e with e5 | e5
      · left
        unfold LM.own
        rw [ho j e5]
        exact fun e => by cases e
      · exact .inr e5
    · unfold LM.own at hj
      rw [LM.put_not e] at hj
      exact .inl hj
theorem turned_touch {w w' : World} {b : Nat} (h : w.mapTurned w' b) : Touch (fun j => j = b) w w' := (Touch.refl _ w).grown h.grown (fun k e _ => (Option.some.inj e).symm)
theorem tight {w : World} {R : Value → Option (DataW Nat × List MemPlace)} {k : TypeId} {b n : Nat} {D : DataW Nat} (h : w.ownsMap Tryz.prog k R b n D) : w.ownsMap Tryz.prog k R b (Maps.size D) D := by
  obtain ⟨es, clock, hb, F, hs, rfl⟩ := h
  exact ⟨es, clock, hb, F, by simp [Maps.size, length_sorted], rfl⟩
theorem MAt.subbed {w w' : World} {L : LM} {X : MS} {k : List UInt8} {s : SB} {n : Nat} (h : MAt w L X) (nm : ByteArray) (hs : nm.size ≤ maxLen) (hnm : nm.data.toList = k) (hm : w.mapTurned w' L.sb) (ho : w'.ownsMap Tryz.prog 9 subR L.sb n (L.sD.put (.string k) s.d)) : MAt w' { L with sD := L.sD.put (.string k) s.d } (X.putS k s) ∧ MStep w w' L { L with sD := L.sD.put (.string k) s.d } := by
  have ht := turned_touch hm
  have hh : ∀ j, L.r j ≠ some none → ¬ j = L.sb := fun j e e2 => e (by rw [e2]; exact h.rsb)
  obtain ⟨n1, n2⟩ := h.b_ne
  have hz : Maps.size (L.sD.put (.string k) s.d) = (X.putS k s).sn := by
    rw [size_put (h.smap.tidy keyedS)]
    show _ = if (X.S k).isSome = true then X.sn else X.sn + 1
    rw [h.ssize]
    have e : Maps.has L.sD (.string k) = (X.S k).isSome := by
      rw [← h.sget k, ← hnm]
      exact (slook_at h.smap nm hs).2
    rw [e]
  refine ⟨⟨ht.at h.box n2, ht.map h.tmap h.ne, ?_, h.tfull, h.tget, fun j => ?_, h.tsize, hz, fun j H e => (h.top j H e).keep ht fun i hi => hh i ?_, h.rb, h.rtb, h.rsb, h.ne, h.rt, fun j e => Nat.lt_of_lt_of_le (h.lim j e) ht.size⟩, ⟨ht.mono fun j _ e => ?_, rfl, fun j hj => .inl hj⟩⟩
  · rw [← hz]; exact tight ho
  · show Y.sget (sput L.sD k s) j = putF X.S k s j
    by_cases e : j = k
    · subst e
      rw [sget_put_same h.smap.isMap, putF_same]
    · rw [sget_put_other _ e, putF_other _ _ e]
      exact h.sget j
  · rw [h.rt j H e i hi]; exact fun e => by cases e
  · unfold LM.own
    rw [e, h.rsb]
    exact fun e => by cases e
def LM.new (L : LM) (k : List UInt8) (T : LOC) : LM := { L.put k T with tD := dput L.tD k T.b }
theorem MAt.newed {w w' : World} {L : LM} {X : MS} {k : List UInt8} {H : TG} {T : LOC} {n : Nat} (h : MAt w L X) (hk : X.T k = none) (ha : TAt w T H) (hn : ∀ j, T.own j → L.r j = none) (ht : Touch (fun j => j = L.tb) w w') (ho : w'.ownsMap Tryz.prog 9 ptrR L.tb n (dput L.tD k T.b)) : MAt w' (L.new k T) (X.newT k H) ∧ Touch L.own w w' := by
  have hh : ∀ j, L.r j ≠ some none → ¬ j = L.tb := fun j e e2 => e (by rw [e2]; exact h.rtb)
  have hq : ∀ j x, L.r j = some x → ¬ T.own j := fun j x e e2 => by rw [hn j e2] at e; cases e
  obtain ⟨n1, n2⟩ := h.b_ne
  have hz : Maps.size (dput L.tD k T.b) = (X.newT k H).tn := by
    unfold dput
    rw [size_put (h.tmap.tidy keyedS)]
    show _ = X.tn + 1
    rw [h.tsize, if_neg]
    intro e
    have e2 := h.tfull k e
    rw [h.tget k, hk] at e2
    exact e2 rfl
  refine ⟨⟨ht.at h.box n1, ?_, ht.map h.smap (fun e => h.ne e.symm), full_put h.tmap.isMap h.tfull k T.b, fun j => ?_, h.sget, hz, h.ssize, fun j H2 e => ?_, ?_, ?_, ?_, h.ne, fun j H2 e i hi => ?_, fun j e => ?_⟩, ht.mono fun j _ e => ?_⟩
  · rw [← hz]; exact tight ho
  · show dget (dput L.tD k T.b) j = (putF X.T k H j).map fun _ => (if j = k then T else L.loc j).b
    by_cases e : j = k
    · subst e
      rw [dget_put_same h.tmap.isMap, putF_same, if_pos rfl]
      rfl
    · rw [dget_put_other _ e, putF_other _ _ e, if_neg e]
      exact h.tget j
  · have e' : putF X.T k H j = some H2 := e
    show TAt w' (if j = k then T else L.loc j) H2
    by_cases e3 : j = k
    · subst e3
      rw [putF_same] at e'
      obtain rfl := Option.some.inj e'
      rw [if_pos rfl]
      exact ha.keep ht fun i hi => hh i (by rw [hn i hi]; exact fun e => by cases e)
    · rw [putF_other _ _ e3] at e'
      rw [if_neg e3]
      exact (h.top j H2 e').keep ht fun i hi => hh i (by rw [h.rt j H2 e' i hi]; exact fun e => by cases e)
  · exact (LM.put_not (hq _ _ h.rb)).trans h.rb
  · exact (LM.put_not (hq _ _ h.rtb)).trans h.rtb
  · exact (LM.put_not (hq _ _ h.rsb)).trans h.rsb
  · have e' : putF X.T k H j = some H2 := e
    have hi' : (if j = k then T else L.loc j).own i := hi
    by_cases e3 : j = k
    · subst e3
      rw [if_pos rfl] at hi'
      exact LM.put_own hi'
    · rw [putF_other _ _ e3] at e'
      rw [if_neg e3] at hi'
      exact (LM.put_not (hq i _ (h.rt j H2 e' i hi'))).trans (h.rt j H2 e' i hi')
  · by_cases e5 : T.own j
    · exact Nat.lt_of_lt_of_le (ha.lt e5) ht.size
    · have e' : (L.put k T).r j ≠ none := e
      rw [LM.put_not e5] at e'
      exact Nat.lt_of_lt_of_le (h.lim j e') ht.size
  · unfold LM.own
    rw [e, h.rtb]
    exact fun e => by cases e
theorem MAt.fin {w w1 w2 w3 : World} {L L' : LM} {X X' : MS} {rb : Nat} (h : MAt w L X) (b1 : Below w.heap.size w w1) (hrb : w.heap.size ≤ rb) (hr1 : rb < w1.heap.size) (h2 : MAt w2 L' X') (st : MStep w1 w2 L L') (ht : Touch (fun j => j = rb) w2 w3) : MAt w3 L' X' ∧ MStep w w3 L L' := by
  have hn : ¬ L.own rb := fun e => by have := h.lim rb e; omega
  refine ⟨h2.keep ht fun j hj e => ?_, ⟨((MStep.below b1).trans st).touch.andThen ht fun k hk e => by omega, st.b, fun j hj => ?_⟩⟩
  · subst e
    rcases st.own _ hj with e | e
    · exact hn e
    · omega
  · rcases st.own j hj with e | e
    · exact .inl e
    · exact .inr (Nat.le_trans b1.size e)
end Go.Proofs.YtlfodldlkchmoaaGreat.Y
namespace Go.Proofs.YtlfodldlkchmoaaGreat.Y
open Go.RowKit
set_option maxHeartbeats 8000000
set_option maxRecDepth 100000
attribute [local go_sem ↓] Go.wp_at_zero Go.wp_at_succ
set_option linter.unusedSimpArgs false
set_option linter.unusedVariables false
def set3 (W : World) (b : Nat) (x0 x1 x2 : Value) : World := ((W.setCell ⟨b, 0, none⟩ x0).setCell ⟨b, 1, none⟩ x1).setCell ⟨b, 2, none⟩ x2
theorem set3_box {W : World} {b : Nat} {t : TypeId} {v0 v1 v2 x0 x1 x2 : Value} (h : W.heap[b]? = some (.cells #[v0, v1, v2] t (0, 0))) : (set3 W b x0 x1 x2).heap[b]? = some (.cells #[x0, x1, x2] t (0, 0)) := by
  simp [set3, World.setCell, Array.getElem?_modify, h]
theorem set3_touch {W : World} {b : Nat} {x0 x1 x2 : Value} : Touch (fun j => j = b) W (set3 W b x0 x1 x2) := by
  unfold set3
  exact (((Touch.refl (fun j => j = b) W).setCell ⟨b, 0, none⟩ x0 (fun _ => rfl)).setCell ⟨b, 1, none⟩ x1 (fun _ => rfl)).setCell ⟨b, 2, none⟩ x2 (fun _ => rfl)
theorem touch_newX {B : Nat} {w w' : World} {own : Nat → Prop} (h : Touch own w w') (hB : B ≤ w.heap.size) (hn : ∀ k, own k → B ≤ k) : Below B w w' := h.toBelow hB fun k hk e => by have := hn k e; omega
def rv (c n : Int) : Value := .agg #[.int .i64 c, .int .i64 n, .slice none 0 0]
theorem pcoded (c : Int) (w : World) : Calls Tryz.prog 29 #[.int .i64 c] w fun e w' => e = .returned (rv c 0) ∧ Below w.heap.size w w' := by
  go_enter Tryz.func29, Tryz.ntmps29
  go_wp2
  refine bodyPost_ret (v := rv c 0) (by simp [results, Tryz.results29, go_sem, rv]) rfl ⟨rfl, ?_⟩
  exact (Below.refl w.heap.size w).alloc (Nat.le_refl _) _
theorem pnumbered_ok (n : Int) (w : World) : Calls Tryz.prog 104 #[.int .i64 0, .int .i64 n] w fun e w' => e = .returned (rv 0 n) ∧ Below w.heap.size w w' := by
  go_enter Tryz.func104, Tryz.ntmps104
  go_wp2
  refine bodyPost_ret (v := rv 0 n) (by simp [results, Tryz.results104, go_sem, rv]) rfl ⟨rfl, ?_⟩
  exact (Below.refl w.heap.size w).alloc (Nat.le_refl _) _
theorem frame_mn (t : Array Value) (h : t.size = 12) : ∃ u : Nat → Value, t = List.toArray (u 0 :: u 1 :: u 2 :: u 3 :: u 4 :: u 5 :: u 6 :: u 7 :: u 8 :: u 9 :: u 10 :: u 11 :: []) := by
  refine ⟨fun i => t.getD i undef, ?_⟩
  refine Eq.trans (b := ((List.range 12).map fun i => t.getD i undef).toArray) ?_ rfl
  apply Array.ext
  · simp [h]
  · intro k h1 h2
    simp [Array.getD, h1]
structure Vmn where
  v0 : Value
  v1 : Value
  v4 : Value
structure Fmn (a : Act) (v : Vmn) : Prop where
  size : a.tmps.size = 12
  defers : a.defers = []
  s0 : a.tmps.getD 0 undef = v.v0
  s1 : a.tmps.getD 1 undef = v.v1
  s4 : a.tmps.getD 4 undef = v.v4
theorem frx_mn {a : Act} {v0 v1 v4 : Value} (h : Fmn a ⟨v0, v1, v4⟩) : ∃ u : Nat → Value, a = ⟨List.toArray (v0 :: v1 :: u 2 :: u 3 :: v4 :: u 5 :: u 6 :: u 7 :: u 8 :: u 9 :: u 10 :: u 11 :: []), []⟩ := by
  obtain ⟨t', d'⟩ := a
  obtain ⟨hs, hd, q0, q1, q4⟩ := h
  obtain ⟨u, hu⟩ := frame_mn t' hs
  simp only at hd q0 q1 q4
  subst hu hd
  have e0 : u 0 = v0 := q0
  have e1 : u 1 = v1 := q1
  have e4 : u 4 = v4 := q4
  refine ⟨u, ?_⟩
  rw [e0, e1, e4]
theorem mn_r0 {K : Act → World → Prop} {c : Code} (hc : regOf (Tryz.f104.body.getD .skip) 0 = some c) (a : Act) {v : Vmn} {wq : World}  (hF : Fmn a v) (hQ : ∀ a', Fmn a' { v with v4 := .pointer (some ⟨wq.heap.size, 0, none⟩) } → K a' (wq.alloc (.cells #[.int .i64 0, .int .i64 0, .slice none 0 0] 37))) :
    Code.wp Tryz.prog c (Exit.then K fun _ _ _ => False) a wq := by
  have HQ := hide hQ
  clear hQ
  obtain ⟨v0, v1, v4⟩ := v
  obtain ⟨u, rfl⟩ := frx_mn hF
  clear hF
  simp only [Tryz.f104, Option.getD_some, regOf] at hc
  injection hc with hc
  subst hc
  go_wp2
  exact HQ.out _ ⟨rfl, rfl, rfl, rfl, rfl⟩
theorem mn_r1 {K : Act → World → Prop} {c : Code} (hc : regOf (Tryz.f104.body.getD .skip) 1 = some c) (a : Act) {v : Vmn} {wq : World} {cd : Int} (hF : Fmn a v) (h0v : v.v0 = .int .i64 cd) (hQ : ∀ a', Fmn a' v → a'.tmps.getD 6 undef = .bool (!(cd == 0)) → K a' wq) :
    Code.wp Tryz.prog c (Exit.then K fun _ _ _ => False) a wq := by
  have HQ := hide hQ
  clear hQ
  obtain ⟨v0, v1, v4⟩ := v
  simp only at h0v HQ
  subst h0v
  obtain ⟨u, rfl⟩ := frx_mn hF
  clear hF
  simp only [Tryz.f104, Option.getD_some, regOf] at hc
  injection hc with hc
  subst hc
  go_wp2
  exact HQ.out _ ⟨rfl, rfl, rfl, rfl, rfl⟩ (by first | rfl | (simp; done))
theorem mn_r2 {K : Act → World → Prop} {c : Code} (hc : regOf (Tryz.f104.body.getD .skip) 2 = some c) (a : Act) {v : Vmn} {wq : World} {rb : Nat} {cd : Int} (hF : Fmn a v) (h4v : v.v4 = .pointer (some ⟨rb, 0, none⟩)) (h0v : v.v0 = .int .i64 cd) (hR : wq.heap[rb]? = some (.cells #[.int .i64 0, .int .i64 0, .slice none 0 0] 37 (0, 0)))
    (hQ : ∀ a' w1, Fmn a' v → Below wq.heap.size wq w1 → K a' (set3 w1 rb (.int .i64 cd) (.int .i64 0) (.slice none 0 0))) :
    Code.wp Tryz.prog c (Exit.then K fun _ _ _ => False) a wq := by
  have HQ := hide hQ
  clear hQ
  obtain ⟨v0, v1, v4⟩ := v
  simp only at h4v h0v HQ
  subst h4v h0v
  obtain ⟨u, rfl⟩ := frx_mn hF
  clear hF
  simp only [Tryz.f104, Option.getD_some, regOf] at hc
  injection hc with hc
  subst hc
  have HR := hide hR
  have HE : Hid (Calls Tryz.prog 29 #[.int .i64 cd] wq fun e w' => e = .returned (.agg #[.int .i64 cd, .int .i64 0, .slice none 0 0]) ∧ Below wq.heap.size wq w') := pcoded cd wq
  clear hR
  unfold set3 at HQ
  go_wp2_with (go_at_call 29; refine HE.out.mono ?_; rintro e w1 ⟨rfl, b1⟩; have hR2 := Below.at b1 HR.out; have R1 := hide b1; clear b1; have y0 := box_cell hR2 0 rfl; have y1 := box_cell hR2 1 rfl; have y2 := box_cell hR2 2 rfl; have f0 := box_free hR2 0; have f1 := box_free hR2 1; have f2 := box_free hR2 2; clear hR2)
  exact HQ.out _ _ ⟨rfl, rfl, rfl, rfl, rfl⟩ R1.out
theorem mn_ret {W : World} {a : Act} {v : Vmn} {rb : Nat} {x y : Int} {ao : Option Addr} {ln cp : Nat} {R : Ending → World → Prop} (hF : Fmn a v) (h0 : v.v4 = .pointer (some ⟨rb, 0, none⟩)) (hB : W.heap[rb]? = some (.cells #[.int .i64 x, .int .i64 y, .slice ao ln cp] 37 (0, 0))) (h : R (.returned (.agg #[.int .i64 x, .int .i64 y, .slice ao ln cp])) W) :
    bodyPost Tryz.prog Tryz.f104 R .ret a W := by
  have g0 := slot_get (hF.s4.trans h0)
  have e0 := box_cell hB 0 rfl
  have e1 := box_cell hB 1 rfl
  have e2 := box_cell hB 2 rfl
  refine bodyPost_ret (v := .agg #[.int .i64 x, .int .i64 y, .slice ao ln cp]) ?_ hF.defers h
  simp [results, Tryz.results104, go_sem, g0, e0, e1, e2]
theorem pnumbered_no (c n : Int) (hc : ¬ c = 0) (w : World) : Calls Tryz.prog 104 #[.int .i64 c, .int .i64 n] w fun e w' => e = .returned (rv c 0) ∧ Below w.heap.size w w' := by
  have b1 := (Below.refl w.heap.size w).alloc (Nat.le_refl _) (.cells #[.int .i64 0, .int .i64 0, .slice none 0 0] 37)
  have k1 := heap_alloc_new w (.cells #[.int .i64 0, .int .i64 0, .slice none 0 0] 37)
  go_enter Tryz.func104, Tryz.ntmps104
  refine wp_seq (reg_mono (mn_r0 (by kernel_rfl) _ (v := ⟨_, _, _⟩) ⟨rfl, rfl, rfl, rfl, rfl⟩ ?_))
  intro a0 F0
  try dsimp only at F0
  refine wp_seq (wp_seq (reg_mono (mn_r1 (by kernel_rfl) _ F0 rfl ?_)))
  intro a1 F1 g1
  rw [beq_eq_false_iff_ne.2 hc] at g1
  refine wp_cond_true g1 ?_
  refine wp_seq (reg_mono (mn_r2 (by kernel_rfl) _ F1 rfl rfl k1 ?_))
  intro a2 w2 F2 b2
  refine wp_ret ?_
  simp only [Exit.then]
  exact mn_ret F2 rfl (set3_box (Below.at b2 k1)) ⟨rfl, (b1.trans (b2.mono b1.size)).trans (touch_newX set3_touch (Nat.le_trans b1.size b2.size) (fun k e => Nat.le_of_eq e.symm))⟩
def RM.v0 (m : RM) : Value := rv m.code m.n
theorem pnumbered (c n : Int) (w : World) : Calls Tryz.prog 104 #[.int .i64 c, .int .i64 n] w fun e w' => e = .returned (numM c n).v0 ∧ Below w.heap.size w w' := by
  unfold numM
  by_cases hc : c = 0
  · subst hc
    rw [if_pos rfl]
    exact pnumbered_ok n w
  · rw [if_neg hc]
    exact pnumbered_no c n hc w
end Go.Proofs.YtlfodldlkchmoaaGreat.Y
