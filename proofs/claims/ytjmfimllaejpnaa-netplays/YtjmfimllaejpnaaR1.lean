/-
  A net in memory: 'Rep w b G': a net of the state G at block b; 'role' says which block is for what.
-/
import Derived.Test.YtjmfimllaejpnaaL3
import Derived.Maps.OwnSet
namespace Go.Proofs.Ytjmfimllaejpnaa
open Go.RowKit Go.Maps

/-- A net's state: its nodes, its side, its links' blocks, slices and messages. -/
structure NG where
  n : Nat
  side : Int
  mb : Nat
  D : DataW Nat
  blk : Nat → Nat → Nat
  sl : Nat → Nat → Value
  q : Nat → Nat → List ByteArray
  role : Nat → Nat
def NG.own (G : NG) (j : Nat) : Prop := G.role j ≠ 0
/-- There is a link from x to y. -/
def isLink (n : Nat) (x y : Int) : Prop := 0 ≤ x ∧ x < n ∧ 0 ≤ y ∧ y < n ∧ x ≠ y
instance (n : Nat) (x y : Int) : Decidable (isLink n x y) := by unfold isLink; infer_instance
def lrole (a b : Nat) : Nat := 3 + 2 * (8 * a + b)
def rrole (a b : Nat) : Nat := 4 + 2 * (8 * a + b)
structure Rep (w : World) (b : Nat) (G : NG) : Prop where
  box : w.heap[b]? = some (.cells #[.int .i64 G.n, .int .i64 G.side, .map (some G.mb)] 44 (0, 0))
  nodes : 1 ≤ G.n ∧ G.n ≤ 7
  side : 0 ≤ G.side ∧ G.side ≤ 9223372036854775807
  map : w.ownsMap Try.prog 50 ptrR G.mb 49 G.D
  look : ∀ x y : Int, In64 x → In64 y → lk G.D x y = if isLink G.n x y then some (G.blk x.toNat y.toNat) else none
  full : ∀ x y : Int, In64 x → In64 y → Maps.has G.D (kl x y) = true → lk G.D x y ≠ none
  lbox : ∀ x y : Nat, isLink G.n x y → w.heap[G.blk x y]? = some (.cells #[G.sl x y] 56 (0, 0))
  row : ∀ x y : Nat, isLink G.n x y → w.ownsRow 0 9 1 (G.sl x y) (G.q x y).length ((G.q x y).map .string)
  few : ∀ x y : Nat, isLink G.n x y → (G.q x y).length ≤ 64
  big : ∀ x y : Nat, isLink G.n x y → ∀ s ∈ G.q x y, s.size ≤ 281474976710656
  roleB : G.role b = 1
  roleM : G.role G.mb = 2
  roleL : ∀ x y : Nat, isLink G.n x y → G.role (G.blk x y) = lrole x y
  roleR : ∀ x y : Nat, isLink G.n x y → ∀ j, (G.sl x y).ownBlock = some j → G.role j = rrole x y
  role0 : ∀ j, G.role j ≠ 0 → j < w.heap.size

theorem link_lt {n x y : Nat} (hn : n ≤ 7) (h : isLink n x y) : x < 8 ∧ y < 8 := by
  obtain ⟨_, h1, _, h2, _⟩ := h
  omega
theorem link_nat {n : Nat} {x y : Int} (h : isLink n x y) : ∃ a b : Nat, x = a ∧ y = b ∧ isLink n (a : Int) (b : Int) := by
  have h' := h
  obtain ⟨h0, h1, h2, h3, h4⟩ := h
  refine ⟨x.toNat, y.toNat, by omega, by omega, ?_⟩
  rw [show ((x.toNat : Nat) : Int) = x by omega, show ((y.toNat : Nat) : Int) = y by omega]
  exact h'
theorem in_of_nat {n x y : Nat} (hn : n ≤ 7) (h : isLink n x y) : In64 (x : Int) ∧ In64 (y : Int) := by
  have := link_lt hn h
  constructor <;> constructor <;> omega

/-- How many messages a link has; 0 where there is none. -/
def NG.len (G : NG) (x y : Int) : Nat := if isLink G.n x y then (G.q x.toNat y.toNat).length else 0
/-- The link's block. -/
def NG.ptr (G : NG) (x y : Int) : Option Nat := if isLink G.n x y then some (G.blk x.toNat y.toNat) else none
theorem Rep.at {w : World} {b : Nat} {G : NG} (h : Rep w b G) {x y : Int} : At w (G.ptr x y) (G.len x y) := by
  unfold NG.ptr NG.len
  by_cases hl : isLink G.n x y
  · rw [if_pos hl, if_pos hl]
    obtain ⟨a, c, rfl, rfl, hl'⟩ := link_nat hl
    obtain ⟨ao, cp, e⟩ := row_slice (h.row a c hl')
    refine ⟨ao, cp, ?_⟩
    have hb := box_cell (h.lbox a c hl') 0 (v := G.sl a c) rfl
    rw [e] at hb
    exact hb
  · rw [if_neg hl, if_neg hl]
    rfl
theorem Rep.lookup {w : World} {b : Nat} {G : NG} (h : Rep w b G) {x y : Int} (hx : In64 x) (hy : In64 y) :
    (Instr.lookup 41 (.map (some G.mb)) (.agg #[.int .i64 x, .int .i64 y]) false).run Try.prog w = .ok (.pointer ((G.ptr x y).map fun j => ⟨j, 0, none⟩)) w := by
  rw [llook h.map hx hy, h.look x y hx hy]
  rfl

/-- Nothing of the net is touched. -/
theorem Rep.keep {w w' : World} {b : Nat} {G : NG} (h : Rep w b G) {own : Nat → Prop} (ht : Touch own w w') (hn : ∀ j, G.own j → ¬ own j) : Rep w' b G := by
  have o : ∀ {j k : Nat}, G.role j = k → k ≠ 0 → ¬ own j := fun {j k} e hk => hn j (by unfold NG.own; rw [e]; exact hk)
  refine ⟨ht.at h.box (o h.roleB (by omega)), h.nodes, h.side, ht.map h.map (o h.roleM (by omega)), h.look, h.full, fun x y hl => ht.at (h.lbox x y hl) (o (h.roleL x y hl) (by unfold lrole; omega)), fun x y hl => ht.row (h.row x y hl) fun k hk => o (h.roleR x y hl k hk) (by unfold rrole; omega), h.few, h.big, h.roleB, h.roleM, h.roleL, h.roleR, fun j hj => Nat.lt_of_lt_of_le (h.role0 j hj) ht.size⟩
theorem Rep.below {w w' : World} {b : Nat} {G : NG} (h : Rep w b G) (hb : Below w.heap.size w w') : Rep w' b G := h.keep (own := fun _ => False) (Touch.of_below hb) fun _ _ e => e

/-- A link's messages are others. -/
def NG.put (G : NG) (a c : Nat) (sl : Value) (ms : List ByteArray) : NG :=
  { G with sl := fun x y => if x = a ∧ y = c then sl else G.sl x y, q := fun x y => if x = a ∧ y = c then ms else G.q x y, role := fun j => if sl.ownBlock = some j then rrole a c else G.role j }
/-- One step: the net behind it, what it touched, what it grew by. -/
structure Step (w w' : World) (b : Nat) (G G' : NG) : Prop where
  rep : Rep w' b G'
  touch : Touch G.own w w'
  grew : ∀ j, G'.own j → G.own j ∨ w.heap.size ≤ j
theorem Rep.put {w w' : World} {b : Nat} {G : NG} (h : Rep w b G) {a c : Nat} (hl : isLink G.n a c) {sl : Value} {ms : List ByteArray} (h1 : w'.heap[G.blk a c]? = some (.cells #[sl] 56 (0, 0)))
    (h2 : w'.ownsRow 0 9 1 sl ms.length (ms.map .string)) (h3 : ms.length ≤ 64) (h4 : ∀ s ∈ ms, s.size ≤ 281474976710656) (h5 : ∀ j, sl.ownBlock = some j → (G.sl a c).ownBlock = some j ∨ w.heap.size ≤ j)
    (ht : Touch (fun j => j = G.blk a c ∨ (G.sl a c).ownBlock = some j) w w') : Step w w' b G (G.put a c sl ms) := by
  have hn := h.nodes.2
  have L := h.roleL a c hl
  have RR := h.roleR a c hl
  have nr : ∀ {j : Nat}, sl.ownBlock = some j → G.role j = rrole a c ∨ G.role j = 0 := fun {j} hj => by
    rcases h5 j hj with e | e
    · exact .inl (RR j e)
    · right
      by_cases hz : G.role j = 0
      · exact hz
      · have := h.role0 j hz; omega
  have old : ∀ {j k : Nat}, G.role j = k → k ≠ 0 → k ≠ rrole a c → (G.put a c sl ms).role j = k := fun {j k} e hk hr => by
    show (if sl.ownBlock = some j then rrole a c else G.role j) = k
    split
    · rename_i hj
      rcases nr hj with e' | e' <;> omega
    · exact e
  have ap : ∀ {j k : Nat}, G.role j = k → k ≠ lrole a c → k ≠ rrole a c → ¬ (j = G.blk a c ∨ (G.sl a c).ownBlock = some j) := fun {j k} e h1 h2 hh => by
    rcases hh with rfl | hh
    · rw [L] at e; exact h1 e.symm
    · rw [RR j hh] at e; exact h2 e.symm
  have lr : ∀ x y : Nat, isLink G.n x y → ¬ (x = a ∧ y = c) → lrole x y ≠ lrole a c ∧ rrole x y ≠ rrole a c := fun x y hxy hne => by
    have h1 := link_lt hn hl
    have h2 := link_lt hn hxy
    unfold lrole rrole
    omega
  have lr2 : ∀ x y : Nat, lrole x y ≠ rrole a c ∧ rrole x y ≠ lrole a c := fun x y => by
    unfold lrole rrole
    omega
  have u0 : (1 : Nat) ≠ lrole a c ∧ 1 ≠ rrole a c ∧ 2 ≠ lrole a c ∧ 2 ≠ rrole a c := by unfold lrole rrole; omega
  refine ⟨⟨ht.at h.box (ap h.roleB u0.1 u0.2.1), h.nodes, h.side, ht.map h.map (ap h.roleM u0.2.2.1 u0.2.2.2), h.look, h.full, ?_, ?_, ?_, ?_, old h.roleB (by omega) u0.2.1, old h.roleM (by omega) u0.2.2.2, ?_, ?_, ?_⟩, ?_, ?_⟩
  · intro x y hxy
    show w'.heap[G.blk x y]? = some (.cells #[if x = a ∧ y = c then sl else G.sl x y] 56 (0, 0))
    by_cases e : x = a ∧ y = c
    · rw [if_pos e, e.1, e.2]; exact h1
    · rw [if_neg e]
      exact ht.at (h.lbox x y hxy) (ap (h.roleL x y hxy) (lr x y hxy e).1 (lr2 x y).1)
  · intro x y hxy
    show w'.ownsRow 0 9 1 (if x = a ∧ y = c then sl else G.sl x y) (if x = a ∧ y = c then ms else G.q x y).length ((if x = a ∧ y = c then ms else G.q x y).map .string)
    by_cases e : x = a ∧ y = c
    · rw [if_pos e, if_pos e]; exact h2
    · rw [if_neg e, if_neg e]
      exact ht.row (h.row x y hxy) fun k hk => ap (h.roleR x y hxy k hk) (lr2 x y).2 (lr x y hxy e).2
  · intro x y hxy
    show (if x = a ∧ y = c then ms else G.q x y).length ≤ 64
    split
    · exact h3
    · exact h.few x y hxy
  · intro x y hxy
    show ∀ s ∈ (if x = a ∧ y = c then ms else G.q x y), _
    split
    · exact h4
    · exact h.big x y hxy
  · intro x y hxy
    exact old (h.roleL x y hxy) (by unfold lrole; omega) (lr2 x y).1
  · intro x y hxy j hj
    have hj' : (if x = a ∧ y = c then sl else G.sl x y).ownBlock = some j := hj
    by_cases e : x = a ∧ y = c
    · rw [if_pos e] at hj'
      show (if sl.ownBlock = some j then rrole a c else G.role j) = rrole x y
      rw [if_pos hj', e.1, e.2]
    · rw [if_neg e] at hj'
      exact old (h.roleR x y hxy j hj') (by unfold rrole; omega) (lr x y hxy e).2
  · intro j hj
    have hj' : (if sl.ownBlock = some j then rrole a c else G.role j) ≠ 0 := hj
    by_cases e : sl.ownBlock = some j
    · exact row_lt h2 e
    · rw [if_neg e] at hj'
      exact Nat.lt_of_lt_of_le (h.role0 j hj') ht.size
  · refine ht.mono fun k _ hk => ?_
    unfold NG.own
    rcases hk with rfl | hk
    · rw [L]; unfold lrole; omega
    · rw [RR k hk]; unfold rrole; omega
  · intro j hj
    have hj' : (if sl.ownBlock = some j then rrole a c else G.role j) ≠ 0 := hj
    by_cases e : sl.ownBlock = some j
    · rcases h5 j e with h' | h'
      · left
        unfold NG.own
        rw [RR j h']; unfold rrole; omega
      · exact .inr h'
    · rw [if_neg e] at hj'
      exact .inl hj'
theorem Step.refl {w : World} {b : Nat} {G : NG} (h : Rep w b G) : Step w w b G G := ⟨h, Touch.refl _ _, fun _ hj => .inl hj⟩
theorem Step.trans {w w1 w2 : World} {b : Nat} {G G1 G2 : NG} (h : Step w w1 b G G1) (h2 : Step w1 w2 b G1 G2) : Step w w2 b G G2 :=
  ⟨h2.rep, h.touch.andThen h2.touch fun k hk hj => by
    rcases h.grew k hj with e | e
    · exact e
    · omega, fun j hj => by
    rcases h2.grew j hj with e | e
    · exact h.grew j e
    · exact .inr (Nat.le_trans h.touch.size e)⟩
/-- Another state in the same words. -/
theorem Rep.setSide {w : World} {b : Nat} {G : NG} (h : Rep w b G) (s : Int) (hs : 0 ≤ s ∧ s ≤ 9223372036854775807) : Step w (w.setCell ⟨b, 1, none⟩ (.int .i64 s)) b G { G with side := s } := by
  have ht : Touch (fun j => j = b) w (w.setCell ⟨b, 1, none⟩ (.int .i64 s)) := (Touch.refl _ w).setCell _ _ fun _ => rfl
  have o : ∀ {j k : Nat}, G.role j = k → k ≠ 1 → ¬ j = b := fun {j k} e hk hh => hk (by rw [← e, hh, h.roleB])
  refine ⟨⟨box_set h.box 1 _, h.nodes, hs, ht.map h.map (o h.roleM (by omega)), h.look, h.full, fun x y hl => ht.at (h.lbox x y hl) (o (h.roleL x y hl) (by unfold lrole; omega)), fun x y hl => ht.row (h.row x y hl) fun k hk => o (h.roleR x y hl k hk) (by unfold rrole; omega), h.few, h.big, h.roleB, h.roleM, h.roleL, h.roleR, fun j hj => Nat.lt_of_lt_of_le (h.role0 j hj) ht.size⟩, ht.mono fun k _ e => ?_, fun j hj => .inl hj⟩
  unfold NG.own
  rw [e, h.roleB]
  omega

end Go.Proofs.Ytjmfimllaejpnaa
