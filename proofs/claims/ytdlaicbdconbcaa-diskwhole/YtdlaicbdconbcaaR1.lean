/-
  A disk as it lies in memory: which block is for what, and what it holds.
-/
import Derived.Test.YtdlaicbdconbcaaW8
namespace Go.Proofs.Ytdlaicbdconbcaa
open Go.RowKit Go.Maps

/-- A file: where its bytes now, those that last, and its acts lie; what they are. -/
structure FG where
  no : Option Addr
  nc : Nat
  lo : Option Addr
  lc : Nat
  so : Option Addr
  sc : Nat
  now : List UInt8
  last : List UInt8
  acts : List FA
/-- A disk: its numbers, its two maps of names, its acts on names, its files by their blocks; which block is for what ((1,0) the disk, (2,0) and (3,0) its maps, (4,0) its acts, (5,0) what an act captured, (6,0) a file, (7,f), (8,f), (9,f) the bytes now, those that last, the acts of the file f); how many acts there were at most, and of how many units each. -/
structure DG where
  room : Int
  fuse : Int
  down : Bool
  nb : Nat
  lb : Nat
  so : Option Addr
  sc : Nat
  D : DataW Nat
  LD : DataW Nat
  X : List DA
  file : Nat → Option FG
  role : Nat → Nat × Nat
  n : Nat
  q : Nat

structure FileAt (role : Nat → Nat × Nat) (w : World) (n q f : Nat) (F : FG) : Prop where
  box : w.heap[f]? = some (.cells #[.slice F.no F.now.length F.nc, .slice F.lo F.last.length F.lc, .slice F.so F.acts.length F.sc] 74 (0, 0))
  rn : w.ownsRow 0 5 1 (.slice F.no F.now.length F.nc) F.now.length (bytesC F.now)
  rl : w.ownsRow 0 5 1 (.slice F.lo F.last.length F.lc) F.last.length (bytesC F.last)
  rs : w.ownsRow 0 68 2 (.slice F.so F.acts.length F.sc) F.acts.length (actsC F.acts)
  held : ∀ a ∈ F.acts, a.held w
  eq : F.now = runAll F.last F.acts
  fit : fitAll F.last F.acts
  few : F.acts.length ≤ n
  big : F.last.length + unitsAll F.acts ≤ n * q
  pf : role f = (6, 0)
  pn : ∀ j, (F.no.map Addr.block) = some j → role j = (7, f)
  pl : ∀ j, (F.lo.map Addr.block) = some j → role j = (8, f)
  ps : ∀ j, (F.so.map Addr.block) = some j → role j = (9, f)
  pc : ∀ a ∈ F.acts, role a.cap = (5, 0)
structure Rep (w : World) (b : Nat) (G : DG) : Prop where
  box : w.heap[b]? = some (.cells #[.int .i64 G.room, .int .i64 G.fuse, .bool G.down, .map (some G.nb), .map (some G.lb), .slice G.so G.X.length G.sc] 56 (0, 0))
  now : w.ownsMap Try.prog 9 ptrR G.nb G.n G.D
  last : w.ownsMap Try.prog 9 ptrR G.lb G.n G.LD
  row : w.ownsRow 0 63 1 (.slice G.so G.X.length G.sc) G.X.length (G.X.map dactC)
  held : ∀ x ∈ G.X, x.held w
  fit : dfitAll G.LD G.X
  eq : G.D = drunAll G.LD G.X
  few : Maps.size G.LD + G.X.length ≤ G.n
  files : ∀ f F, G.file f = some F → FileAt G.role w G.n G.q f F
  known : ∀ k f, dget G.LD k = some f → G.file f ≠ none ∧ 1 ≤ k.length ∧ k.length ≤ 40
  knownX : ∀ x ∈ G.X, (x.kind = 0 → G.file x.id ≠ none) ∧ 1 ≤ x.a.size ∧ x.a.size ≤ 40 ∧ (x.kind = 1 → 1 ≤ x.b.size ∧ x.b.size ≤ 40)
  pb : G.role b = (1, 0)
  pn : G.role G.nb = (2, 0)
  pl : G.role G.lb = (3, 0)
  ps : ∀ j, (G.so.map Addr.block) = some j → G.role j = (4, 0)
  pc : ∀ x ∈ G.X, G.role x.c = (5, 0) ∧ G.role x.d = (5, 0)
  lt : ∀ j, G.role j ≠ (0, 0) → j < w.heap.size
  hroom : 0 ≤ G.room ∧ G.room ≤ 1000000000
  hfuse : -9223372036854775808 ≤ G.fuse ∧ G.fuse ≤ 9223372036854775807
  hq : G.q ≤ 1000000000
  full : Full G.LD

theorem sliceBlock (ao : Option Addr) (n c : Nat) : (Value.slice ao n c).ownBlock = ao.map Addr.block := by cases ao <;> rfl
/-- A file is as it was while other blocks are touched. -/
theorem FileAt.keep {role role' : Nat → Nat × Nat} {w w' : World} {n n' q f : Nat} {F : FG} {own : Nat → Prop} (h : FileAt role w n q f F) (ht : Touch own w w') (hr : ∀ j, j < w.heap.size → role' j = role j) (hn : n ≤ n')
    (ho : ∀ j, own j → j ≠ f ∧ role j ≠ (5, 0) ∧ role j ≠ (7, f) ∧ role j ≠ (8, f) ∧ role j ≠ (9, f)) : FileAt role' w' n' q f F := by
  have hf := heap_lt h.box
  refine ⟨ht.at h.box fun e => (ho f e).1 rfl, ht.row h.rn fun j hj e => ?_, ht.row h.rl fun j hj e => ?_, ht.row h.rs fun j hj e => ?_, fun a ha => ?_, h.eq, h.fit, Nat.le_trans h.few hn, Nat.le_trans h.big (Nat.mul_le_mul_right _ hn), ?_, ?_, ?_, ?_, ?_⟩
  · rw [sliceBlock] at hj; exact (ho j e).2.2.1 (h.pn j hj)
  · rw [sliceBlock] at hj; exact (ho j e).2.2.2.1 (h.pl j hj)
  · rw [sliceBlock] at hj; exact (ho j e).2.2.2.2 (h.ps j hj)
  · exact FA.held_of (h.held a ha) (ht.block _ (FA.held_lt (h.held a ha)) fun e => (ho _ e).2.1 (h.pc a ha))
  · rw [hr f hf]; exact h.pf
  · intro j hj; rw [hr j (row_lt h.rn ((sliceBlock _ _ _).trans hj))]; exact h.pn j hj
  · intro j hj; rw [hr j (row_lt h.rl ((sliceBlock _ _ _).trans hj))]; exact h.pl j hj
  · intro j hj; rw [hr j (row_lt h.rs ((sliceBlock _ _ _).trans hj))]; exact h.ps j hj
  · intro a ha; rw [hr _ (FA.held_lt (h.held a ha))]; exact h.pc a ha
/-- A disk is as it was while other blocks are touched. -/
theorem Rep.keep {w w' : World} {b : Nat} {G : DG} {own : Nat → Prop} (h : Rep w b G) (ht : Touch own w w') (ho : ∀ j, own j → G.role j = (0, 0)) : Rep w' b G := by
  have no : ∀ {j : Nat} {c : Nat × Nat}, G.role j = c → c ≠ (0, 0) → ¬ own j := fun hj hc e => hc (hj.symm.trans (ho _ e))
  refine ⟨ht.at h.box (no h.pb (by decide)), ht.map h.now (no h.pn (by decide)), ht.map h.last (no h.pl (by decide)), ht.row h.row fun j hj e => ?_, fun x hx => ?_, h.fit, h.eq, h.few, fun f F hF => ?_, h.known, h.knownX, h.pb, h.pn, h.pl, h.ps, h.pc, fun j hj => Nat.lt_of_lt_of_le (h.lt j hj) ht.size, h.hroom, h.hfuse, h.hq, h.full⟩
  · rw [sliceBlock] at hj; exact no (h.ps j hj) (by decide) e
  · exact DA.held_of (h.held x hx) (ht.block _ (DA.held_lt (h.held x hx)).1 (no (h.pc x hx).1 (by decide))) (ht.block _ (DA.held_lt (h.held x hx)).2 (no (h.pc x hx).2 (by decide)))
  · refine (h.files f F hF).keep ht (fun _ _ => rfl) (Nat.le_refl _) fun j hj => ?_
    have e := ho j hj
    refine ⟨fun e' => ?_, ?_, ?_, ?_, ?_⟩
    · subst e'; rw [(h.files j F hF).pf] at e; cases e
    · rw [e]; decide
    · rw [e]; intro h; cases h
    · rw [e]; intro h; cases h
    · rw [e]; intro h; cases h
theorem Rep.below {w w' : World} {b : Nat} {G : DG} (h : Rep w b G) (hb : Below w.heap.size w w') : Rep w' b G := h.keep (own := fun _ => False) (Touch.of_below hb) fun _ e => e.elim
/-- Blocks that are the disk's. -/
def DG.own (G : DG) (j : Nat) : Prop := G.role j ≠ (0, 0)
/-- What a call makes of a disk: another one of the same blocks and new ones. -/
structure Step (w : World) (b : Nat) (G : DG) (w' : World) (G' : DG) : Prop where
  rep : Rep w' b G'
  touch : Touch G.own w w'
  grow : ∀ j, G'.own j → G.own j ∨ w.heap.size ≤ j
theorem Step.refl {w : World} {b : Nat} {G : DG} (h : Rep w b G) : Step w b G w G := ⟨h, Touch.refl _ _, fun _ e => .inl e⟩
theorem Step.of_below {w w' : World} {b : Nat} {G : DG} (h : Rep w b G) (hb : Below w.heap.size w w') : Step w b G w' G := ⟨h.below hb, Touch.of_below hb, fun _ e => .inl e⟩
theorem Step.trans {w w1 w2 : World} {b : Nat} {G G1 G2 : DG} (h : Step w b G w1 G1) (h2 : Step w1 b G1 w2 G2) : Step w b G w2 G2 :=
  ⟨h2.rep, h.touch.andThen h2.touch fun j hj e => by
      rcases h.grow j e with e | e
      · exact e
      · omega, fun j e => by
      rcases h2.grow j e with e | e
      · exact h.grow j e
      · exact .inr (Nat.le_trans h.touch.size e)⟩
theorem Step.below {w w1 w2 : World} {b : Nat} {G G1 : DG} (h : Step w b G w1 G1) (hb : Below w1.heap.size w1 w2) : Step w b G w2 G1 := h.trans (Step.of_below h.rep hb)
/-- A call that made blocks of its own ahead of it. -/
theorem Step.ahead {w w1 w2 : World} {b : Nat} {G G2 : DG} (hb : Below w.heap.size w w1) (h : Step w1 b G w2 G2) : Step w b G w2 G2 :=
  ⟨h.rep, (Touch.of_below hb).andThen h.touch fun _ _ e => e, fun j e => by
    rcases h.grow j e with e | e
    · exact .inl e
    · exact .inr (Nat.le_trans hb.size e)⟩
/-- Another disk, or whatever else, is as it was. -/
theorem Step.other {w w' : World} {b c : Nat} {G G' H : DG} (h : Step w b G w' G') (hr : Rep w c H) (hd : ∀ j, G.own j → H.role j = (0, 0)) : Rep w' c H := hr.keep h.touch hd
/-- A new block that an act captured becomes the disk's. -/
theorem Rep.lend {w : World} {b : Nat} {G : DG} (h : Rep w b G) (c : Nat) (hc : c < w.heap.size) (h0 : G.role c = (0, 0) ∨ G.role c = (5, 0)) : Rep w b { G with role := fun j => if j = c then (5, 0) else G.role j } := by
  have r : ∀ {j : Nat} {x : Nat × Nat}, G.role j = x → x ≠ (0, 0) → (if j = c then ((5, 0) : Nat × Nat) else G.role j) = x := by
    intro j x hj hx
    by_cases e : j = c
    · subst e
      rw [if_pos rfl]
      rcases h0 with h0 | h0
      · exact absurd (hj.symm.trans h0) hx
      · exact h0.symm.trans hj
    · rw [if_neg e]; exact hj
  refine ⟨h.box, h.now, h.last, h.row, h.held, h.fit, h.eq, h.few, fun f F hF => ?_, h.known, h.knownX, r h.pb (by decide), r h.pn (by decide), r h.pl (by decide), fun j hj => r (h.ps j hj) (by decide), fun x hx => ⟨r (h.pc x hx).1 (by decide), r (h.pc x hx).2 (by decide)⟩, fun j hj => ?_, h.hroom, h.hfuse, h.hq, h.full⟩
  · have g := h.files f F hF
    exact ⟨g.box, g.rn, g.rl, g.rs, g.held, g.eq, g.fit, g.few, g.big, r g.pf (by decide), fun j hj => r (g.pn j hj) (by simp), fun j hj => r (g.pl j hj) (by simp), fun j hj => r (g.ps j hj) (by simp), fun a ha => r (g.pc a ha) (by decide)⟩
  · by_cases e : j = c
    · rw [e]; exact hc
    · simp only [if_neg e] at hj
      exact h.lt j hj

end Go.Proofs.Ytdlaicbdconbcaa
