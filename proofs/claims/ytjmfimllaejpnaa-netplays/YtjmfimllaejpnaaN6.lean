/-
  Clear of the net.
-/
import Derived.Test.YtjmfimllaejpnaaN5
namespace Go.Proofs.Ytjmfimllaejpnaa
open Go.RowKit Go.Maps

theorem ranges_touch {w w' : World} {own : Nat → Prop} (ht : Touch own w w') {P : Program} {k : TypeId} {H : Type} {R : Value → Option (DataW H × List MemPlace)} {b r n : Nat} {D : DataW H} {left : Lit → Bool} {cnt : Nat} (h : w.ranges P k R b r n D left cnt) (hb : ¬ own b) (hr : ¬ own r) : w'.ranges P k R b r n D left cnt := by
  obtain ⟨es, clock, since, seen, c0, h1, h2, h3, h4, h5, rest⟩ := h
  exact ⟨es, clock, since, seen, c0, ht.at h1 hb, h2, h3, h4, ht.at h5 hr, rest⟩
/-- Messages of the links to a node and from it are gone, as far as they are no longer to come. -/
def clearQ (n : Nat) (q : Nat → Nat → List ByteArray) (node : Int) (left : Lit → Bool) : Nat → Nat → List ByteArray := fun a c => if isLink n a c ∧ ((a : Int) = node ∨ (c : Int) = node) ∧ left (kl a c) = false then [] else q a c
def Clr (w : World) (b : Nat) (G : NG) (node : Int) (left : Lit → Bool) (cnt : Nat) (wv : World) : Prop :=
  wv.ranges Try.prog 50 ptrR G.mb w.heap.size 49 G.D left cnt ∧ ∃ sl, Rep wv b { G with sl := sl, q := clearQ G.n G.q node left } ∧ Touch G.own w wv
theorem has_of_at {D : DataW Nat} {k : Lit} {y : DataW Nat} (h : ∀ zd, D.atKey k zd = y) : Maps.has D k = true := by
  cases hh : Maps.has D k with
  | true => rfl
  | false =>
    exfalso
    have h1 := h (.lit (.int .i64 0))
    have h2 := h (.lit (.int .i64 1))
    rw [atKey_of_not_has hh] at h1 h2
    rw [← h1] at h2
    simp at h2
theorem clr_start {w w0 : World} {b : Nat} {G : NG} (node : Int) (h : Rep w b G) (hr : w0.ranges Try.prog 50 ptrR G.mb w.heap.size 49 G.D (Maps.has G.D) (Maps.size G.D)) (hg : w.grownBy w0 none) : Clr w b G node (Maps.has G.D) (Maps.size G.D) w0 := by
  have ht : Touch G.own w w0 := (Touch.refl G.own w).grown hg (fun k e _ => by cases e)
  have hq : clearQ G.n G.q node (Maps.has G.D) = G.q := by
    funext a c
    unfold clearQ
    by_cases e : isLink G.n a c ∧ ((a : Int) = node ∨ (c : Int) = node) ∧ Maps.has G.D (kl a c) = false
    · exfalso
      obtain ⟨hl, _, hf⟩ := e
      have hi := in_of_nat h.nodes.2 hl
      have h1 := h.look a c hi.1 hi.2
      rw [if_pos hl] at h1
      unfold lk at h1
      rw [atKey_of_not_has hf] at h1
      cases h1
    · rw [if_neg e]
  refine ⟨hr, G.sl, ?_, ht⟩
  rw [hq]
  exact h.keep (own := fun _ => False) ((Touch.refl _ w).grown hg (fun k e _ => by cases e)) (fun _ _ e => e)
/-- The next key: a link's. -/
theorem clr_key {w wv : World} {b : Nat} {G : NG} {node : Int} {left : Lit → Bool} {cnt : Nat} (h : Clr w b G node left cnt wv) {x y : Int} {c : Option Nat} {z : DataW Nat × List MemPlace} (hx : In64 x) (hy : In64 y) (hv : ptrR (.pointer (c.map fun j => ⟨j, 0, none⟩)) = some z) (hat : ∀ zd, G.D.atKey (kl x y) zd = z.1) :
    isLink G.n x y ∧ c = some (G.blk x.toNat y.toNat) := by
  obtain ⟨hr, sl, hR, ht⟩ := h
  have hhas := has_of_at hat
  have hne := hR.full x y hx hy hhas
  have hlk := hR.look x y hx hy
  have hl : isLink G.n x y := by
    by_cases hl : isLink G.n x y
    · exact hl
    · exfalso
      apply hne
      exact hlk.trans (if_neg hl)
  refine ⟨hl, ?_⟩
  have hlk2 : lk G.D x y = some (G.blk x.toNat y.toNat) := hlk.trans (if_pos hl)
  unfold lk at hlk2
  rw [hat] at hlk2
  cases c with
  | none =>
    obtain rfl : z = (.lit (.int .i64 (-1)), []) := (Option.some.inj hv).symm
    simp at hlk2
  | some f =>
    obtain rfl : z = (.lit (.int .i64 f), []) := (Option.some.inj hv).symm
    simp at hlk2
    rw [hlk2]
theorem same_other {a c : Nat} {x y : Int} {n : Nat} (hn : n ≤ 7) (hl : isLink n a c) (hx : In64 x) (hy : In64 y) (hne : ¬ ((a : Int) = x ∧ (c : Int) = y)) : (kl a c).sameKey (kl x y) = false := by
  cases hs : (kl a c).sameKey (kl x y) with
  | false => rfl
  | true =>
    have hi := in_of_nat hn hl
    exact absurd (kl_inj hi.1 hi.2 hx hy (WideAt.sameKey_eq hs)) hne
/-- A round that clears nothing. -/
theorem clr_miss {w wv w1 : World} {b : Nat} {G : NG} {node : Int} {left : Lit → Bool} {cnt cnt' : Nat} (hG : Rep w b G) (h : Clr w b G node left cnt wv) {x y : Int} (hx : In64 x) (hy : In64 y) (hm : ¬ (x = node ∨ y = node))
    (hr : w1.ranges Try.prog 50 ptrR G.mb w.heap.size 49 G.D (fun z => left z && !z.sameKey (kl x y)) cnt') (hg : wv.grownBy w1 (some w.heap.size)) : Clr w b G node (fun z => left z && !z.sameKey (kl x y)) cnt' w1 := by
  obtain ⟨_, sl, hR, ht⟩ := h
  have hq : clearQ G.n G.q node (fun z => left z && !z.sameKey (kl x y)) = clearQ G.n G.q node left := by
    funext a c
    unfold clearQ
    by_cases e : isLink G.n a c ∧ ((a : Int) = node ∨ (c : Int) = node)
    · have hne : ¬ ((a : Int) = x ∧ (c : Int) = y) := fun hh => hm (by rw [← hh.1, ← hh.2]; exact e.2)
      simp only [same_other hG.nodes.2 e.1 hx hy hne, Bool.not_false, Bool.and_true]
    · rw [if_neg (fun hh => e ⟨hh.1, hh.2.1⟩), if_neg (fun hh => e ⟨hh.1, hh.2.1⟩)]
  refine ⟨hr, sl, ?_, ht.grown hg fun k e hk => by have := Option.some.inj e; omega⟩
  rw [hq]
  refine hR.keep (own := fun k => some w.heap.size = some k) ((Touch.refl _ wv).grown hg (fun k e _ => e)) fun j hj e => ?_
  have := hG.role0 j hj
  have := Option.some.inj e
  omega
/-- A round that clears a link. -/
theorem clr_hit {w wv w1 : World} {b : Nat} {G : NG} {node : Int} {left : Lit → Bool} {cnt cnt' : Nat} (hG : Rep w b G) (h : Clr w b G node left cnt wv) {x y : Int} (hx : In64 x) (hy : In64 y) (hm : x = node ∨ y = node) (hl : isLink G.n x y)
    (hr : w1.ranges Try.prog 50 ptrR G.mb w.heap.size 49 G.D (fun z => left z && !z.sameKey (kl x y)) cnt') (hg : wv.grownBy w1 (some w.heap.size)) :
    Clr w b G node (fun z => left z && !z.sameKey (kl x y)) cnt' (w1.setCell ⟨G.blk x.toNat y.toNat, 0, none⟩ (.slice none 0 0)) := by
  obtain ⟨_, sl, hR, ht⟩ := h
  obtain ⟨a, c, rfl, rfl, hl'⟩ := link_nat hl
  have ea : ((a : Int).toNat) = a := by omega
  have ec : ((c : Int).toNat) = c := by omega
  rw [ea, ec]
  have hro : ∀ j, G.own j → ¬ some w.heap.size = some j := fun j hj e => by
    have := hG.role0 j hj
    have := Option.some.inj e
    omega
  have hR1 : Rep w1 b { G with sl := sl, q := clearQ G.n G.q node left } := hR.keep (own := fun k => some w.heap.size = some k) ((Touch.refl _ wv).grown hg (fun k e _ => e)) hro
  have ht1 : Touch G.own w w1 := ht.grown hg fun k e hk => by have := Option.some.inj e; omega
  have T : Touch (fun j => j = G.blk a c) w1 (w1.setCell ⟨G.blk a c, 0, none⟩ (.slice none 0 0)) := (Touch.refl _ w1).setCell _ _ fun _ => rfl
  have hbl : G.own (G.blk a c) := by unfold NG.own; rw [hG.roleL a c hl']; unfold lrole; omega
  have hS := hR1.put (w' := w1.setCell ⟨G.blk a c, 0, none⟩ (.slice none 0 0)) (a := a) (c := c) hl' (sl := .slice none 0 0) (ms := []) (box_set (hR1.lbox a c hl') 0 _) (World.ownsRow_nil _ _ _ _) (Nat.zero_le _) (fun s hs => by cases hs) (fun j hj => by cases hj) (T.mono fun k _ e => .inl e)
  refine ⟨ranges_touch T hr (fun e => ?_) (fun e => hro _ hbl (by rw [← e])), fun u v => if u = a ∧ v = c then .slice none 0 0 else sl u v, ?_, ht1.andThen T (fun k _ e => by rw [e]; exact hbl)⟩
  · have h1 := hG.roleM
    rw [e, hG.roleL a c hl'] at h1
    unfold lrole at h1
    omega
  · have hq : clearQ G.n G.q node (fun z => left z && !z.sameKey (kl a c)) = fun u v => if u = a ∧ v = c then [] else clearQ G.n G.q node left u v := by
      funext u v
      by_cases e : u = a ∧ v = c
      · obtain ⟨rfl, rfl⟩ := e
        rw [if_pos ⟨rfl, rfl⟩]
        unfold clearQ
        rw [if_pos ⟨hl', hm, by simp [WideAt.sameKey_self (kl_key _ _)]⟩]
      · rw [if_neg e]
        unfold clearQ
        by_cases e2 : isLink G.n u v
        · have hne : ¬ ((u : Int) = a ∧ (v : Int) = c) := fun hh => e ⟨by omega, by omega⟩
          simp only [same_other hG.nodes.2 e2 hx hy hne, Bool.not_false, Bool.and_true]
        · rw [if_neg (fun hh => e2 hh.1), if_neg (fun hh => e2 hh.1)]
    rw [hq]
    exact hS.rep
def clearAll (n : Nat) (q : Nat → Nat → List ByteArray) (node : Int) : Nat → Nat → List ByteArray := clearQ n q node (fun _ => false)
theorem clr_alloc {w wv : World} {b : Nat} {G : NG} {node : Int} {left : Lit → Bool} {cnt : Nat} (h : Clr w b G node left cnt wv) (o : Obj) : Clr w b G node left cnt (wv.alloc o) := by
  obtain ⟨hr, sl, hR, ht⟩ := h
  exact ⟨hr.alloc o, sl, hR.below ((Below.refl _ wv).alloc (Nat.le_refl _) _), ht.alloc o⟩
theorem clr_end {w wv : World} {b : Nat} {G : NG} {node : Int} {left : Lit → Bool} {cnt : Nat} (h : Clr w b G node left cnt wv) (hf : ∀ kl, left kl = false) : ∃ G', Step w wv b G G' ∧ G'.like G.n G.side (clearAll G.n G.q node) := by
  obtain ⟨hr, sl, hR, ht⟩ := h
  obtain rfl : left = fun _ => false := funext hf
  exact ⟨_, ⟨hR, ht, fun j hj => .inl hj⟩, rfl, rfl, rfl⟩
theorem clr_box {w wv w1 : World} {b : Nat} {G : NG} {node : Int} {left : Lit → Bool} {cnt : Nat} (hG : Rep w b G) (h : Clr w b G node left cnt wv) {x y : Int} (hl : isLink G.n x y) (hg : wv.grownBy w1 (some w.heap.size)) : ∃ v, w1.heap[G.blk x.toNat y.toNat]? = some (.cells #[v] 56 (0, 0)) := by
  obtain ⟨_, sl, hR, ht⟩ := h
  obtain ⟨a, c, rfl, rfl, hl'⟩ := link_nat hl
  refine ⟨_, grown_at hg (hR.lbox a c hl') fun e => ?_⟩
  have h1 : G.blk a c < w.heap.size := heap_lt (hG.lbox a c hl')
  have h2 := Option.some.inj e
  have h3 : w.heap.size = G.blk a c := h2
  omega
theorem invV (v : Value) (y : DataW Nat × List MemPlace) (h : ptrR v = some y) : ∃ c : Option Nat, v = .pointer (c.map fun j => ⟨j, 0, none⟩) := by
  rcases ptrR_inv h with ⟨f, rfl, _⟩ | ⟨rfl, _⟩
  · exact ⟨some f, rfl⟩
  · exact ⟨none, rfl⟩
theorem invK (key : Value) (l : Lit) (h : keyOf Try.prog 50 key = some l) : ∃ p : Int × Int, key = Value.agg #[.int .i64 p.1, .int .i64 p.2] := by
  obtain ⟨a, c, rfl, _⟩ := key_inv h
  exact ⟨(a, c), rfl⟩
set_option maxRecDepth 100000
set_option maxHeartbeats 2000000
theorem clear_any {w : World} {b : Nat} {G : NG} (h : Rep w b G) (node : Int) : Calls Try.prog 19 #[.pointer (some ⟨b, 0, none⟩), .int .i64 node] w fun e w' => e = .returned (.tuple #[]) ∧ ∃ G', Step w w' b G G' ∧ G'.like G.n G.side (clearAll G.n G.q node) := by
  have c2 : w.cell? ⟨b, 2, none⟩ = some (.map (some G.mb)) := box_cell h.box 2 rfl
  have HO := hide h.map
  have HG := hide h
  clear h
  go_enter Try.func19, Try.ntmps19
  go_wp2_with (first
    | (at_range; refine wpList_range_own _ rfl _ 41 rfl 50 48 keyedE Try.underlying41 ptrR G.mb 49 G.D rfl HO.out ?_; intro w0 hrg0 hg0 hs0)
    | go_in)
  go_frame
  have HC := hide (clr_start node HG.out hrg0 hg0)
  clear hrg0 hg0 hs0 HO c2
  go_loopw [11] (fun _ wv => ∃ left cnt, Hid (Clr w b G node left cnt wv)) (fun _ wv => wv.rangeLeft G.mb w.heap.size)
  case atStart => exact ⟨_, _, HC⟩
  case round =>
    clear HC
    obtain ⟨left, cnt, HC⟩ := hrel
    go_wp2_with (first
      | (at_next; refine wpList_next_ranges _ rfl _ rfl 50 keyedE ptrR (fun p : Int × Int => Value.agg #[.int .i64 p.1, .int .i64 p.2]) (fun c : Option Nat => Value.pointer (c.map fun j => ⟨j, 0, none⟩)) invK invV G.mb w.heap.size 49 G.D left cnt rfl HC.out.1 ?_ ?_)
      | go_in)
    · intro _ hf
      go_wp2
      go_end0
      exact ⟨rfl, clr_end HC.out hf⟩
    · intro x y c kl' z zp w1 cnt1 hkey hlf hv hat hrg hlt hg hsz hen
      obtain ⟨x', y', e1, rfl, hx, hy⟩ := key_inv hkey
      obtain ⟨rfl, rfl⟩ : x = x' ∧ y = y' := by simpa [kv] using e1
      obtain ⟨hl, rfl⟩ := clr_key HC.out hx hy hv hat
      obtain ⟨v, hbox⟩ := clr_box HG.out HC.out hl hg
      have hcnt : cnt = wr.rangeLeft G.mb w.heap.size := HC.out.1.left_eq.symm
      have HCN := hide hcnt
      have HRG := hide hrg
      have HGR := hide hg
      have HX := hide hx
      have HY := hide hy
      have HL := hide hl
      clear hkey hlf hv hat hrg hg e1 hx hy hl hcnt hsz
      have c0 : w1.cell? ⟨G.blk x.toNat y.toNat, 0, none⟩ = some v := box_cell hbox 0 rfl
      have f0 := box_free hbox 0
      have hfw : G.blk x.toNat y.toNat ≠ w1.heap.size := Nat.ne_of_lt (heap_lt hbox)
      have y0 : ∀ o, (w1.alloc o).cell? ⟨G.blk x.toNat y.toNat, 0, none⟩ = some v := fun o => box_cell (box_alloc hbox o) 0 rfl
      have g0 : ∀ o, (w1.alloc o).frozen? ⟨G.blk x.toNat y.toNat, 0, none⟩ = false := fun o => box_free (box_alloc hbox o) 0
      clear hbox
      have hen2 : (Instr.entry (.pointer (some ⟨w.heap.size, 0, none⟩))).run Try.prog w1 = .ok (.tuple #[.agg #[.int .i64 x, .int .i64 y], .pointer (some ⟨G.blk x.toNat y.toNat, 0, none⟩)]) w1 := hen
      clear hen
      simp only [Option.map_some]
      obtain ⟨f, hf⟩ : ∃ f, G.blk x.toNat y.toNat = f := ⟨_, rfl⟩
      have HF := hide hf
      rw [hf] at c0 f0 hfw hen2 y0 g0 ⊢
      clear hf
      by_cases hm1 : x = node
      · have hm1' : (x == node) = true := by simpa using hm1
        have HM := hide hm1
        clear hm1
        go_wp2
        go_roundw
        case rel =>
          have h := clr_hit HG.out HC.out HX.out HY.out (.inl HM.out) HL.out (HRG.out.alloc (.cells #[.int .i64 x, .int .i64 y] 50)) (HGR.out.andThen (World.grownBy_alloc w1 (.cells #[.int .i64 x, .int .i64 y] 50) none) (fun j e => by cases e))
          rw [HF.out] at h
          exact ⟨_, _, h⟩
        case measure => 
          have h := clr_hit HG.out HC.out HX.out HY.out (.inl HM.out) HL.out (HRG.out.alloc (.cells #[.int .i64 x, .int .i64 y] 50)) (HGR.out.andThen (World.grownBy_alloc w1 (.cells #[.int .i64 x, .int .i64 y] 50) none) (fun j e => by cases e))
          rw [HF.out] at h
          rw [h.1.left_eq, ← HCN.out]
          exact hlt
      · have hm1' : (x == node) = false := by simpa using hm1
        by_cases hm2 : y = node
        · have hm2' : (y == node) = true := by simpa using hm2
          have HM := hide hm2
          clear hm2
          go_wp2
          go_roundw
          case rel =>
            have h := clr_hit HG.out HC.out HX.out HY.out (.inr HM.out) HL.out (HRG.out.alloc (.cells #[.int .i64 x, .int .i64 y] 50)) (HGR.out.andThen (World.grownBy_alloc w1 (.cells #[.int .i64 x, .int .i64 y] 50) none) (fun j e => by cases e))
            rw [HF.out] at h
            exact ⟨_, _, h⟩
          case measure => 
            have h := clr_hit HG.out HC.out HX.out HY.out (.inr HM.out) HL.out (HRG.out.alloc (.cells #[.int .i64 x, .int .i64 y] 50)) (HGR.out.andThen (World.grownBy_alloc w1 (.cells #[.int .i64 x, .int .i64 y] 50) none) (fun j e => by cases e))
            rw [HF.out] at h
            rw [h.1.left_eq, ← HCN.out]
            exact hlt
        · have hm2' : (y == node) = false := by simpa using hm2
          go_wp2
          go_roundw
          case rel => exact ⟨_, _, clr_alloc (clr_miss HG.out HC.out HX.out HY.out (fun hh => hh.elim hm1 hm2) HRG.out HGR.out) _⟩
          case measure => rw [(HRG.out.alloc _).left_eq, ← HCN.out]; exact hlt

end Go.Proofs.Ytjmfimllaejpnaa
