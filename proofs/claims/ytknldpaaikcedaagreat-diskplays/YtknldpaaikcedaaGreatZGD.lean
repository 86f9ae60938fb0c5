/-
  A disk as it lies in memory: which block is for what, and what it holds.
-/
import Derived.Test.YtknldpaaikcedaaGreatZW8
namespace Go.Proofs.YtknldpaaikcedaaGreat
open Go.RowKit Go.Maps

/-- A file: where its bytes now, those that last, and its acts lie; what they are. -/
structure FG where
  no : Option Addr
  nc : Nat
  lo : Option Addr
  lc : Nat
  so : Option Addr
  sc : Nat
  now : List UInt8
  last : List UInt8
  acts : List FA
/-- A disk: its numbers, its two maps of names, its acts on names, its files by their blocks; which block is for what ((1,0) the disk, (2,0) and (3,0) its maps, (4,0) its acts, (5,0) what an act captured, (6,0) a file, (7,f), (8,f), (9,f) the bytes now, those that last, the acts of the file f); how many acts there were at most, and of how many units each. -/
structure DG where
  room : Int
  fuse : Int
  down : Bool
  nb : Nat
  lb : Nat
  so : Option Addr
  sc : Nat
  D : DataW Nat
  LD : DataW Nat
  X : List DA
  file : Nat → Option FG
  role : Nat → Nat × Nat
  n : Nat
  q : Nat

structure FileAt (role : Nat → Nat × Nat) (w : World) (n q f : Nat) (F : FG) : Prop where
  box : w.heap[f]? = some (.cells #[.slice F.no F.now.length F.nc, .slice F.lo F.last.length F.lc, .slice F.so F.acts.length F.sc] 66 (0, 0))
  rn : w.ownsRow 0 5 1 (.slice F.no F.now.length F.nc) F.now.length (bytesC F.now)
  rl : w.ownsRow 0 5 1 (.slice F.lo F.last.length F.lc) F.last.length (bytesC F.last)
  rs : w.ownsRow 0 98 2 (.slice F.so F.acts.length F.sc) F.acts.length (actsC F.acts)
  held : ∀ a ∈ F.acts, a.held w
  eq : F.now = runAll F.last F.acts
  fit : fitAll F.last F.acts
  few : F.acts.length ≤ n
  big : F.last.length + unitsAll F.acts ≤ n * q
  pf : role f = (6, 0)
  pn : ∀ j, (F.no.map Addr.block) = some j → role j = (7, f)
  pl : ∀ j, (F.lo.map Addr.block) = some j → role j = (8, f)
  ps : ∀ j, (F.so.map Addr.block) = some j → role j = (9, f)
  pc : ∀ a ∈ F.acts, role a.cap = (5, 0)
structure Rep (w : World) (b : Nat) (G : DG) : Prop where
  box : w.heap[b]? = some (.cells #[.int .i64 G.room, .int .i64 G.fuse, .bool G.down, .map (some G.nb), .map (some G.lb), .slice G.so G.X.length G.sc] 56 (0, 0))
  now : w.ownsMap Tryz.prog 9 ptrR G.nb G.n G.D
  last : w.ownsMap Tryz.prog 9 ptrR G.lb G.n G.LD
  row : w.ownsRow 0 93 1 (.slice G.so G.X.length G.sc) G.X.length (G.X.map dactC)
  held : ∀ x ∈ G.X, x.held w
  fit : dfitAll G.LD G.X
  eq : G.D = drunAll G.LD G.X
  few : Maps.size G.LD + G.X.length ≤ G.n
  files : ∀ f F, G.file f = some F → FileAt G.role w G.n G.q f F
  known : ∀ k f, dget G.LD k = some f → G.file f ≠ none ∧ 1 ≤ k.length ∧ k.length ≤ 40
  knownX : ∀ x ∈ G.X, (x.kind = 0 → G.file x.id ≠ none) ∧ 1 ≤ x.a.size ∧ x.a.size ≤ 40 ∧ (x.kind = 1 → 1 ≤ x.b.size ∧ x.b.size ≤ 40)
  pb : G.role b = (1, 0)
  pn : G.role G.nb = (2, 0)
  pl : G.role G.lb = (3, 0)
  ps : ∀ j, (G.so.map Addr.block) = some j → G.role j = (4, 0)
  pc : ∀ x ∈ G.X, G.role x.c = (5, 0) ∧ G.role x.d = (5, 0)
  lt : ∀ j, G.role j ≠ (0, 0) → j < w.heap.size
  hroom : 0 ≤ G.room ∧ G.room ≤ 1000000000
  hfuse : -9223372036854775808 ≤ G.fuse ∧ G.fuse ≤ 9223372036854775807
  hq : G.q ≤ 1000000000
  full : Full G.LD

theorem sliceBlock (ao : Option Addr) (n c : Nat) : (Value.slice ao n c).ownBlock = ao.map Addr.block := by cases ao <;> rfl
/-- A file is as it was while other blocks are touched. -/
theorem FileAt.keep {role role' : Nat → Nat × Nat} {w w' : World} {n n' q f : Nat} {F : FG} {own : Nat → Prop} (h : FileAt role w n q f F) (ht : Touch own w w') (hr : ∀ j, j < w.heap.size → role' j = role j) (hn : n ≤ n')
    (ho : ∀ j, own j → j ≠ f ∧ role j ≠ (5, 0) ∧ role j ≠ (7, f) ∧ role j ≠ (8, f) ∧ role j ≠ (9, f)) : FileAt role' w' n' q f F := by
  have hf := heap_lt h.box
  refine ⟨ht.at h.box fun e => (ho f e).1 rfl, ht.row h.rn fun j hj e => ?_, ht.row h.rl fun j hj e => ?_, ht.row h.rs fun j hj e => ?_, fun a ha => ?_, h.eq, h.fit, Nat.le_trans h.few hn, Nat.le_trans h.big (Nat.mul_le_mul_right _ hn), ?_, ?_, ?_, ?_, ?_⟩
  · rw [sliceBlock] at hj; exact (ho j e).2.2.1 (h.pn j hj)
  · rw [sliceBlock] at hj; exact (ho j e).2.2.2.1 (h.pl j hj)
  · rw [sliceBlock] at hj; exact (ho j e).2.2.2.2 (h.ps j hj)
  · exact FA.held_of (h.held a ha) (ht.block _ (FA.held_lt (h.held a ha)) fun e => (ho _ e).2.1 (h.pc a ha))
  · rw [hr f hf]; exact h.pf
  · intro j hj; rw [hr j (row_lt h.rn ((sliceBlock _ _ _).trans hj))]; exact h.pn j hj
  · intro j hj; rw [hr j (row_lt h.rl ((sliceBlock _ _ _).trans hj))]; exact h.pl j hj
  · intro j hj; rw [hr j (row_lt h.rs ((sliceBlock _ _ _).trans hj))]; exact h.ps j hj
  · intro a ha; rw [hr _ (FA.held_lt (h.held a ha))]; exact h.pc a ha
/-- A disk is as it was while other blocks are touched. -/
theorem Rep.keep {w w' : World} {b : Nat} {G : DG} {own : Nat → Prop} (h : Rep w b G) (ht : Touch own w w') (ho : ∀ j, own j → G.role j = (0, 0)) : Rep w' b G := by
  have no : ∀ {j : Nat} {c : Nat × Nat}, G.role j = c → c ≠ (0, 0) → ¬ own j := fun hj hc e => hc (hj.symm.trans (ho _ e))
  refine ⟨ht.at h.box (no h.pb (by decide)), ht.map h.now (no h.pn (by decide)), ht.map h.last (no h.pl (by decide)), ht.row h.row fun j hj e => ?_, fun x hx => ?_, h.fit, h.eq, h.few, fun f F hF => ?_, h.known, h.knownX, h.pb, h.pn, h.pl, h.ps, h.pc, fun j hj => Nat.lt_of_lt_of_le (h.lt j hj) ht.size, h.hroom, h.hfuse, h.hq, h.full⟩
  · rw [sliceBlock] at hj; exact no (h.ps j hj) (by decide) e
  · exact DA.held_of (h.held x hx) (ht.block _ (DA.held_lt (h.held x hx)).1 (no (h.pc x hx).1 (by decide))) (ht.block _ (DA.held_lt (h.held x hx)).2 (no (h.pc x hx).2 (by decide)))
  · refine (h.files f F hF).keep ht (fun _ _ => rfl) (Nat.le_refl _) fun j hj => ?_
    have e := ho j hj
    refine ⟨fun e' => ?_, ?_, ?_, ?_, ?_⟩
    · subst e'; rw [(h.files j F hF).pf] at e; cases e
    · rw [e]; decide
    · rw [e]; intro h; cases h
    · rw [e]; intro h; cases h
    · rw [e]; intro h; cases h
theorem Rep.below {w w' : World} {b : Nat} {G : DG} (h : Rep w b G) (hb : Below w.heap.size w w') : Rep w' b G := h.keep (own := fun _ => False) (Touch.of_below hb) fun _ e => e.elim
/-- Blocks that are the disk's. -/
def DG.own (G : DG) (j : Nat) : Prop := G.role j ≠ (0, 0)
/-- What a call makes of a disk: another one of the same blocks and new ones. -/
structure Step (w : World) (b : Nat) (G : DG) (w' : World) (G' : DG) : Prop where
  rep : Rep w' b G'
  touch : Touch G.own w w'
  grow : ∀ j, G'.own j → G.own j ∨ w.heap.size ≤ j
theorem Step.refl {w : World} {b : Nat} {G : DG} (h : Rep w b G) : Step w b G w G := ⟨h, Touch.refl _ _, fun _ e => .inl e⟩
theorem Step.of_below {w w' : World} {b : Nat} {G : DG} (h : Rep w b G) (hb : Below w.heap.size w w') : Step w b G w' G := ⟨h.below hb, Touch.of_below hb, fun _ e => .inl e⟩
theorem Step.trans {w w1 w2 : World} {b : Nat} {G G1 G2 : DG} (h : Step w b G w1 G1) (h2 : Step w1 b G1 w2 G2) : Step w b G w2 G2 :=
  ⟨h2.rep, h.touch.andThen h2.touch fun j hj e => by
      rcases h.grow j e with e | e
      · exact e
      · omega, fun j e => by
      rcases h2.grow j e with e | e
      · exact h.grow j e
      · exact .inr (Nat.le_trans h.touch.size e)⟩
theorem Step.below {w w1 w2 : World} {b : Nat} {G G1 : DG} (h : Step w b G w1 G1) (hb : Below w1.heap.size w1 w2) : Step w b G w2 G1 := h.trans (Step.of_below h.rep hb)
/-- A call that made blocks of its own ahead of it. -/
theorem Step.ahead {w w1 w2 : World} {b : Nat} {G G2 : DG} (hb : Below w.heap.size w w1) (h : Step w1 b G w2 G2) : Step w b G w2 G2 :=
  ⟨h.rep, (Touch.of_below hb).andThen h.touch fun _ _ e => e, fun j e => by
    rcases h.grow j e with e | e
    · exact .inl e
    · exact .inr (Nat.le_trans hb.size e)⟩
/-- Another disk, or whatever else, is as it was. -/
theorem Step.other {w w' : World} {b c : Nat} {G G' H : DG} (h : Step w b G w' G') (hr : Rep w c H) (hd : ∀ j, G.own j → H.role j = (0, 0)) : Rep w' c H := hr.keep h.touch hd
/-- A new block that an act captured becomes the disk's. -/
theorem Rep.lend {w : World} {b : Nat} {G : DG} (h : Rep w b G) (c : Nat) (hc : c < w.heap.size) (h0 : G.role c = (0, 0) ∨ G.role c = (5, 0)) : Rep w b { G with role := fun j => if j = c then (5, 0) else G.role j } := by
  have r : ∀ {j : Nat} {x : Nat × Nat}, G.role j = x → x ≠ (0, 0) → (if j = c then ((5, 0) : Nat × Nat) else G.role j) = x := by
    intro j x hj hx
    by_cases e : j = c
    · subst e
      rw [if_pos rfl]
      rcases h0 with h0 | h0
      · exact absurd (hj.symm.trans h0) hx
      · exact h0.symm.trans hj
    · rw [if_neg e]; exact hj
  refine ⟨h.box, h.now, h.last, h.row, h.held, h.fit, h.eq, h.few, fun f F hF => ?_, h.known, h.knownX, r h.pb (by decide), r h.pn (by decide), r h.pl (by decide), fun j hj => r (h.ps j hj) (by decide), fun x hx => ⟨r (h.pc x hx).1 (by decide), r (h.pc x hx).2 (by decide)⟩, fun j hj => ?_, h.hroom, h.hfuse, h.hq, h.full⟩
  · have g := h.files f F hF
    exact ⟨g.box, g.rn, g.rl, g.rs, g.held, g.eq, g.fit, g.few, g.big, r g.pf (by decide), fun j hj => r (g.pn j hj) (by simp), fun j hj => r (g.pl j hj) (by simp), fun j hj => r (g.ps j hj) (by simp), fun a ha => r (g.pc a ha) (by decide)⟩
  · by_cases e : j = c
    · rw [e]; exact hc
    · simp only [if_neg e] at hj
      exact h.lt j hj

end Go.Proofs.YtknldpaaikcedaaGreat
/-
  What becomes of a disk in memory: its numbers, a file, its names turn.
-/
namespace Go.Proofs.YtknldpaaikcedaaGreat
open Go.RowKit Go.Maps

/-- The disk's numbers turn. -/
theorem Rep.rebox {w w' : World} {b : Nat} {G : DG} (h : Rep w b G) (ht : Touch (fun j => j = b) w w') (fuse : Int) (down : Bool)
    (hbox : w'.heap[b]? = some (.cells #[.int .i64 G.room, .int .i64 fuse, .bool down, .map (some G.nb), .map (some G.lb), .slice G.so G.X.length G.sc] 56 (0, 0))) (hf : -9223372036854775808 ≤ fuse ∧ fuse ≤ 9223372036854775807) :
    Step w b G w' { G with fuse := fuse, down := down } := by
  have no : ∀ {j : Nat} {c : Nat × Nat}, G.role j = c → c ≠ (1, 0) → ¬ j = b := fun hj hc e => hc (by subst e; exact hj.symm.trans h.pb)
  refine ⟨⟨hbox, ht.map h.now (no h.pn (by decide)), ht.map h.last (no h.pl (by decide)), ht.row h.row fun j hj e => ?_, fun x hx => ?_, h.fit, h.eq, h.few, fun f F hF => ?_, h.known, h.knownX, h.pb, h.pn, h.pl, h.ps, h.pc, fun j hj => Nat.lt_of_lt_of_le (h.lt j hj) ht.size, h.hroom, hf, h.hq, h.full⟩, ht.mono (fun j _ e => ?_), fun j e => .inl e⟩
  · rw [sliceBlock] at hj; exact no (h.ps j hj) (by decide) e
  · exact DA.held_of (h.held x hx) (ht.block _ (DA.held_lt (h.held x hx)).1 (no (h.pc x hx).1 (by decide))) (ht.block _ (DA.held_lt (h.held x hx)).2 (no (h.pc x hx).2 (by decide)))
  · refine (h.files f F hF).keep ht (fun _ _ => rfl) (Nat.le_refl _) fun j hj => ?_
    subst hj
    have e := h.pb
    refine ⟨fun e' => ?_, ?_, ?_, ?_, ?_⟩
    · subst e'; rw [(h.files _ F hF).pf] at e; cases e
    · rw [e]; decide
    · rw [e]; intro h; cases h
    · rw [e]; intro h; cases h
    · rw [e]; intro h; cases h
  · show G.role j ≠ _
    rw [e, h.pb]
    decide

/-- A file turns. -/
theorem Rep.setFile {w w' : World} {b f : Nat} {G : DG} {F F' : FG} {own : Nat → Prop} {role' : Nat → Nat × Nat} {n' : Nat} (h : Rep w b G) (hF : G.file f = some F) (ht : Touch own w w')
    (ho : ∀ j, own j → j = f ∨ G.role j = (7, f) ∨ G.role j = (8, f) ∨ G.role j = (9, f)) (hr : ∀ j, j < w.heap.size → role' j = G.role j) (hl : ∀ j, role' j ≠ (0, 0) → j < w'.heap.size) (hn : G.n ≤ n') (hF' : FileAt role' w' n' G.q f F') :
    Step w b G w' { G with file := fun j => if j = f then some F' else G.file j, role := role', n := n' } := by
  have pf := (h.files f F hF).pf
  have no : ∀ {j c : Nat}, G.role j = (c, 0) → c ≤ 5 → ¬ own j := by
    intro j c hj hc e
    rcases ho j e with e | e | e | e
    · subst e; rw [pf] at hj; injection hj with e1; omega
    · have he := hj.symm.trans e; injection he with e1; omega
    · have he := hj.symm.trans e; injection he with e1; omega
    · have he := hj.symm.trans e; injection he with e1; omega
  have rk : ∀ {j : Nat} {c : Nat × Nat}, G.role j = c → c ≠ (0, 0) → role' j = c := fun hj hc => (hr _ (h.lt _ (by rw [hj]; exact hc))).trans hj
  have hb := heap_lt h.box
  refine ⟨⟨ht.at h.box (no h.pb (by decide)), (ht.map h.now (no h.pn (by decide))).mono hn, (ht.map h.last (no h.pl (by decide))).mono hn, ht.row h.row fun j hj e => ?_, fun x hx => ?_, h.fit, h.eq, Nat.le_trans h.few hn, fun g Fg hg => ?_, fun k g hk => ?_, fun x hx => ?_, rk h.pb (by decide), rk h.pn (by decide), rk h.pl (by decide), fun j hj => rk (h.ps j hj) (by decide), fun x hx => ⟨rk (h.pc x hx).1 (by decide), rk (h.pc x hx).2 (by decide)⟩, hl, h.hroom, h.hfuse, h.hq, h.full⟩, ht.mono (fun j _ e => ?_), fun j e => ?_⟩
  · rw [sliceBlock] at hj; exact no (h.ps j hj) (by decide) e
  · exact DA.held_of (h.held x hx) (ht.block _ (DA.held_lt (h.held x hx)).1 (no (h.pc x hx).1 (by decide))) (ht.block _ (DA.held_lt (h.held x hx)).2 (no (h.pc x hx).2 (by decide)))
  · by_cases e : g = f
    · subst e
      simp only [if_true] at hg
      cases hg
      exact hF'
    · simp only [if_neg e] at hg
      refine (h.files g Fg hg).keep ht hr hn fun j hj => ?_
      have pg := (h.files g Fg hg).pf
      rcases ho j hj with e1 | e1 | e1 | e1
      · subst e1
        rw [pf]
        exact ⟨fun e2 => e e2.symm, (by decide), (by intro h; cases h), (by intro h; cases h), (by intro h; cases h)⟩
      all_goals
        refine ⟨fun e2 => ?_, ?_, ?_, ?_, ?_⟩
        · subst e2; rw [pg] at e1; cases e1
        all_goals (rw [e1]; intro e2; injection e2 with e3 e4; first | omega | exact e e4.symm)
  · refine ⟨?_, (h.known k g hk).2⟩
    show (if g = f then some F' else G.file g) ≠ none
    split
    · simp
    · exact (h.known k g hk).1
  · refine ⟨fun hx0 => ?_, (h.knownX x hx).2⟩
    show (if x.id = f then some F' else G.file x.id) ≠ none
    split
    · simp
    · exact (h.knownX x hx).1 hx0
  · show G.role j ≠ _
    rcases ho j e with e | e | e | e
    · rw [e, pf]; decide
    · rw [e]; intro h; cases h
    · rw [e]; intro h; cases h
    · rw [e]; intro h; cases h
  · by_cases hj : j < w.heap.size
    · left
      show G.role j ≠ _
      rw [← hr j hj]
      exact e
    · exact .inr (by omega)

/-- A new file, of no bytes, under a block that was nobody's. -/
theorem Rep.newFile {w : World} {b f : Nat} {G : DG} (h : Rep w b G) (hbx : w.heap[f]? = some (.cells #[.slice none 0 0, .slice none 0 0, .slice none 0 0] 66 (0, 0))) (h0 : G.role f = (0, 0)) :
    Rep w b { G with file := fun j => if j = f then some ⟨none, 0, none, 0, none, 0, [], [], []⟩ else G.file j, role := fun j => if j = f then (6, 0) else G.role j } := by
  have r : ∀ {j : Nat} {x : Nat × Nat}, G.role j = x → x ≠ (0, 0) → (if j = f then ((6, 0) : Nat × Nat) else G.role j) = x := by
    intro j x hj hx
    by_cases e : j = f
    · subst e; exact absurd (hj.symm.trans h0) hx
    · rw [if_neg e]; exact hj
  have nf : G.file f = none := by
    cases hf : G.file f with
    | none => rfl
    | some F => have := (h.files f F hf).pf; rw [h0] at this; cases this
  refine ⟨h.box, h.now, h.last, h.row, h.held, h.fit, h.eq, h.few, fun g Fg hg => ?_, fun k g hk => ?_, fun x hx => ?_, r h.pb (by decide), r h.pn (by decide), r h.pl (by decide), fun j hj => r (h.ps j hj) (by decide), fun x hx => ⟨r (h.pc x hx).1 (by decide), r (h.pc x hx).2 (by decide)⟩, fun j hj => ?_, h.hroom, h.hfuse, h.hq, h.full⟩
  · by_cases e : g = f
    · subst e
      simp only [if_true] at hg
      cases hg
      exact ⟨hbx, World.ownsRow_nil _ _ _ _, World.ownsRow_nil _ _ _ _, World.ownsRow_nil _ _ _ _, (fun a ha => by simp at ha), rfl, trivial, Nat.zero_le _, Nat.zero_le _, if_pos rfl, (fun j hj => by simp at hj), (fun j hj => by simp at hj), (fun j hj => by simp at hj), fun a ha => by simp at ha⟩
    · simp only [if_neg e] at hg
      have g' := h.files g Fg hg
      exact ⟨g'.box, g'.rn, g'.rl, g'.rs, g'.held, g'.eq, g'.fit, g'.few, g'.big, r g'.pf (by decide), fun j hj => r (g'.pn j hj) (by simp), fun j hj => r (g'.pl j hj) (by simp), fun j hj => r (g'.ps j hj) (by simp), fun a ha => r (g'.pc a ha) (by decide)⟩
  · refine ⟨?_, (h.known k g hk).2⟩
    show (if g = f then some _ else G.file g) ≠ none
    split
    · simp
    · exact (h.known k g hk).1
  · refine ⟨fun hx0 => ?_, (h.knownX x hx).2⟩
    show (if x.id = f then some _ else G.file x.id) ≠ none
    split
    · simp
    · exact (h.knownX x hx).1 hx0
  · by_cases e : j = f
    · rw [e]; exact heap_lt hbx
    · simp only [if_neg e] at hj
      exact h.lt j hj

/-- The files are as they were while the names turn. -/
theorem Rep.filesKeep {w w' : World} {b : Nat} {G : DG} {own : Nat → Prop} {role' : Nat → Nat × Nat} {n' : Nat} (h : Rep w b G) (ht : Touch own w w') (ho : ∀ j, own j → G.role j = (1, 0) ∨ G.role j = (2, 0) ∨ G.role j = (3, 0) ∨ G.role j = (4, 0))
    (hr : ∀ j, j < w.heap.size → role' j = G.role j) (hn : G.n ≤ n') : ∀ f F, G.file f = some F → FileAt role' w' n' G.q f F := by
  intro f F hF
  refine (h.files f F hF).keep ht hr hn fun j hj => ?_
  have pf := (h.files f F hF).pf
  rcases ho j hj with e1 | e1 | e1 | e1
  all_goals
    refine ⟨fun e2 => ?_, ?_, ?_, ?_, ?_⟩
    · subst e2; rw [pf] at e1; cases e1
    all_goals (rw [e1]; intro e2; injection e2 with e3 e4; omega)
/-- An act of the directory was done. -/
theorem Rep.named {w w' : World} {b : Nat} {G : DG} (h : Rep w b G) (x : DA) (g cap : Nat) (hheld : x.held w) (hc : G.role x.c = (5, 0) ∧ G.role x.d = (5, 0)) (hfit : x.fits G.D)
    (hkn : (x.kind = 0 → G.file x.id ≠ none) ∧ 1 ≤ x.a.size ∧ x.a.size ≤ 40 ∧ (x.kind = 1 → 1 ≤ x.b.size ∧ x.b.size ≤ 40))
    (hbox : w'.heap[b]? = some (.cells #[.int .i64 G.room, .int .i64 G.fuse, .bool G.down, .map (some G.nb), .map (some G.lb), .slice (some ⟨g, 0, none⟩) (G.X.length + 1) cap] 56 (0, 0)))
    (hmap : w'.ownsMap Tryz.prog 9 ptrR G.nb (G.n + 1) (x.run G.D)) (hrow : w'.ownsRow 0 93 1 (.slice (some ⟨g, 0, none⟩) (G.X.length + 1) cap) (G.X.length + 1) (G.X.map dactC ++ [dactC x]))
    (hg : (Value.slice G.so G.X.length G.sc).ownBlock = some g ∨ w.heap.size ≤ g) (ht : Touch (fun j => j = b ∨ j = G.nb ∨ (Value.slice G.so G.X.length G.sc).ownBlock = some j) w w') :
    Step w b G w' { G with D := x.run G.D, X := G.X ++ [x], so := some ⟨g, 0, none⟩, sc := cap, n := G.n + 1, role := fun j => if j < w.heap.size then G.role j else if j = g then (4, 0) else (0, 0) } := by
  have ho : ∀ j, (j = b ∨ j = G.nb ∨ (Value.slice G.so G.X.length G.sc).ownBlock = some j) → G.role j = (1, 0) ∨ G.role j = (2, 0) ∨ G.role j = (3, 0) ∨ G.role j = (4, 0) := by
    intro j hj
    rcases hj with e | e | e
    · exact .inl (e ▸ h.pb)
    · exact .inr (.inl (e ▸ h.pn))
    · exact .inr (.inr (.inr (h.ps j ((sliceBlock _ _ _).symm.trans e))))
  have no : ∀ {j : Nat} {c : Nat × Nat}, G.role j = c → c = (3, 0) ∨ c = (5, 0) → ¬ (j = b ∨ j = G.nb ∨ (Value.slice G.so G.X.length G.sc).ownBlock = some j) := by
    intro j c hj hc e
    rcases ho j e with e1 | e1 | e1 | e1 <;> rcases hc with hc | hc <;> rw [hj, hc] at e1 <;> first | (cases e1; done) | skip
    rcases e with e | e | e
    · rw [e, h.pb, hc] at hj; cases hj
    · rw [e, h.pn, hc] at hj; cases hj
    · have := h.ps j ((sliceBlock _ _ _).symm.trans e); rw [this, hc] at hj; cases hj
  have hr : ∀ j, j < w.heap.size → (if j < w.heap.size then G.role j else if j = g then ((4, 0) : Nat × Nat) else (0, 0)) = G.role j := fun j hj => if_pos hj
  have rk : ∀ {j : Nat} {c : Nat × Nat}, G.role j = c → c ≠ (0, 0) → (if j < w.heap.size then G.role j else if j = g then ((4, 0) : Nat × Nat) else (0, 0)) = c := fun hj hc => (hr _ (h.lt _ (by rw [hj]; exact hc))).trans hj
  refine ⟨⟨?_, hmap, (ht.map h.last (no h.pl (.inl rfl))).mono (Nat.le_succ _), ?_, fun y hy => ?_, ?_, ?_, ?_, h.filesKeep ht ho hr (Nat.le_succ _), h.known, fun y hy => ?_, rk h.pb (by decide), rk h.pn (by decide), rk h.pl (by decide), fun j hj => ?_, fun y hy => ?_, fun j hj => ?_, h.hroom, h.hfuse, h.hq, h.full⟩, ht.mono (fun j _ e => ?_), fun j e => ?_⟩
  · rw [show (G.X ++ [x]).length = G.X.length + 1 by simp]; exact hbox
  · rw [show (G.X ++ [x]).length = G.X.length + 1 by simp, List.map_append]; exact hrow
  · rcases List.mem_append.1 hy with hy | hy
    · exact DA.held_of (h.held y hy) (ht.block _ (DA.held_lt (h.held y hy)).1 (no (h.pc y hy).1 (.inr rfl))) (ht.block _ (DA.held_lt (h.held y hy)).2 (no (h.pc y hy).2 (.inr rfl)))
    · obtain rfl : y = x := by simpa using hy
      exact DA.held_of hheld (ht.block _ (DA.held_lt hheld).1 (no hc.1 (.inr rfl))) (ht.block _ (DA.held_lt hheld).2 (no hc.2 (.inr rfl)))
  · show dfitAll G.LD (G.X ++ [x])
    rw [dfitAll_append, ← h.eq]
    exact ⟨h.fit, hfit, trivial⟩
  · show x.run G.D = drunAll G.LD (G.X ++ [x])
    rw [drunAll_append, ← h.eq]
    rfl
  · show Maps.size G.LD + (G.X ++ [x]).length ≤ G.n + 1
    have := h.few
    simp only [List.length_append, List.length_cons, List.length_nil]
    omega
  · rcases List.mem_append.1 hy with hy | hy
    · exact h.knownX y hy
    · obtain rfl : y = x := by simpa using hy
      exact hkn
  · obtain rfl : g = j := by simpa using hj
    show (if g < w.heap.size then G.role g else if g = g then ((4, 0) : Nat × Nat) else (0, 0)) = _
    split
    · rcases hg with e | e
      · exact h.ps g ((sliceBlock _ _ _).symm.trans e)
      · omega
    · rw [if_pos rfl]
  · rcases List.mem_append.1 hy with hy | hy
    · exact ⟨rk (h.pc y hy).1 (by decide), rk (h.pc y hy).2 (by decide)⟩
    · obtain rfl : y = x := by simpa using hy
      exact ⟨rk hc.1 (by decide), rk hc.2 (by decide)⟩
  · by_cases hj' : j < w.heap.size
    · exact Nat.lt_of_lt_of_le hj' ht.size
    · simp only [if_neg hj'] at hj
      by_cases e : j = g
      · rw [e]; exact row_lt hrow rfl
      · rw [if_neg e] at hj; exact absurd rfl hj
  · show G.role j ≠ _
    rcases ho j e with e1 | e1 | e1 | e1 <;> rw [e1] <;> decide
  · by_cases hj : j < w.heap.size
    · left
      show G.role j ≠ _
      rw [← hr j hj]
      exact e
    · exact .inr (by omega)

end Go.Proofs.YtknldpaaikcedaaGreat
/-
  What becomes of a disk in memory: an act of a file, a Sync, a DirSync, a Crash.
-/
namespace Go.Proofs.YtknldpaaikcedaaGreat
open Go.RowKit Go.Maps

theorem size_put_le {D : DataW Nat} (h : IsMap D) (k : List UInt8) (b : Nat) : Maps.size (dput D k b) ≤ Maps.size D + 1 := by
  obtain ⟨es, rfl⟩ := h
  show (DataW.insert _ (es.filter _)).length ≤ es.length + 1
  rw [length_insert]
  have := List.length_filter_le (fun p : Lit × DataW Nat => !p.1.sameKey (.string k)) es
  omega
theorem size_del_le {D : DataW Nat} (h : IsMap D) (k : List UInt8) : Maps.size (ddel D k) ≤ Maps.size D := by
  obtain ⟨es, rfl⟩ := h
  exact List.length_filter_le _ _
theorem size_run_le {D : DataW Nat} (h : IsMap D) (x : DA) : Maps.size (x.run D) ≤ Maps.size D + 1 := by
  unfold DA.run
  split
  · exact size_put_le h _ _
  · split
    · have h1 := size_put_le (h.del (.string x.a.data.toList)) x.b.data.toList ‹Nat›
      have h2 := size_del_le h x.a.data.toList
      exact Nat.le_trans h1 (Nat.succ_le_succ h2)
    · omega
  · have := size_del_le h x.a.data.toList
    omega
theorem isMap_drun {D : DataW Nat} (h : IsMap D) (X : List DA) : IsMap (drunAll D X) := by
  induction X generalizing D with
  | nil => exact h
  | cons x X ih => exact ih (isMap_run h x)
theorem size_drun_le {D : DataW Nat} (h : IsMap D) (X : List DA) : Maps.size (drunAll D X) ≤ Maps.size D + X.length := by
  induction X generalizing D with
  | nil => exact Nat.le_refl _
  | cons x X ih =>
    have h1 := ih (isMap_run h x)
    have h2 := size_run_le h x
    simp only [drunAll, List.length_cons]
    omega
/-- A map has no more entries than its datum. -/
theorem owns_bound {w : World} {P : Program} {k : TypeId} {R : Value → Option (DataW Nat × List MemPlace)} {b n m : Nat} {D : DataW Nat} (h : w.ownsMap P k R b n D) (hm : Maps.size D ≤ m) : w.ownsMap P k R b m D := by
  obtain ⟨es, clock, hb, F, hs, hD⟩ := h
  refine ⟨es, clock, hb, F, ?_, hD⟩
  rw [hD] at hm
  simpa [Maps.size, length_sorted] using hm
/-- Which names there are behind acts. -/
theorem known_run {D : DataW Nat} (hD : IsMap D) (P : Nat → Prop) (X : List DA) (h : ∀ k f, dget D k = some f → P f ∧ 1 ≤ k.length ∧ k.length ≤ 40)
    (hX : ∀ x ∈ X, (x.kind = 0 → P x.id) ∧ 1 ≤ x.a.size ∧ x.a.size ≤ 40 ∧ (x.kind = 1 → 1 ≤ x.b.size ∧ x.b.size ≤ 40)) : ∀ k f, dget (drunAll D X) k = some f → P f ∧ 1 ≤ k.length ∧ k.length ≤ 40 := by
  induction X generalizing D with
  | nil => exact h
  | cons x X ih =>
    refine ih (isMap_run hD x) (fun k f hk => ?_) (fun y hy => hX y (List.mem_cons_of_mem _ hy))
    have hx := hX x List.mem_cons_self
    have la : x.a.data.toList.length = x.a.size := by simp
    have lb : x.b.data.toList.length = x.b.size := by simp
    unfold DA.run at hk
    split at hk
    · rename_i hk0
      by_cases e : k = x.a.data.toList
      · subst e
        rw [dget_put_same hD] at hk
        cases hk
        exact ⟨hx.1 hk0, by omega, by omega⟩
      · rw [dget_put_other _ e] at hk
        exact h k f hk
    · rename_i hk1
      split at hk
      · rename_i f0 hf0
        by_cases e : k = x.b.data.toList
        · subst e
          rw [dget_put_same (show IsMap (ddel D x.a.data.toList) from hD.del _)] at hk
          cases hk
          have := hx.2.2.2 hk1
          exact ⟨(h _ _ hf0).1, by omega, by omega⟩
        · rw [dget_put_other _ e] at hk
          by_cases e2 : k = x.a.data.toList
          · subst e2
            rw [dget_del_same] at hk
            cases hk
          · rw [dget_del_other _ e2] at hk
            exact h k f hk
      · exact h k f hk
    · by_cases e2 : k = x.a.data.toList
      · subst e2
        rw [dget_del_same] at hk
        cases hk
      · rw [dget_del_other _ e2] at hk
        exact h k f hk
theorem Rep.knownD {w : World} {b : Nat} {G : DG} (h : Rep w b G) : ∀ k f, dget G.D k = some f → G.file f ≠ none ∧ 1 ≤ k.length ∧ k.length ≤ 40 := by
  rw [h.eq]
  exact known_run h.last.isMap (fun f => G.file f ≠ none) G.X h.known h.knownX

theorem Rep.fullD {w : World} {b : Nat} {G : DG} (h : Rep w b G) : Full G.D := by
  rw [h.eq]
  exact full_drun h.last.isMap h.full G.X

/-- An act of a file was done. -/
theorem Rep.acted {w w' : World} {b f : Nat} {G : DG} {F : FG} (h : Rep w b G) (hF : G.file f = some F) (a : FA) (ao : Option Addr) (cp g cap : Nat) (hheld : a.held w) (hc : G.role a.cap = (5, 0)) (hfit : a.fits F.now) (hu : a.units ≤ G.q)
    (hbox : w'.heap[f]? = some (.cells #[.slice ao (a.run F.now a.units).length cp, .slice F.lo F.last.length F.lc, .slice (some ⟨g, 0, none⟩) (F.acts.length + 1) cap] 66 (0, 0)))
    (hrn : w'.ownsRow 0 5 1 (.slice ao (a.run F.now a.units).length cp) (a.run F.now a.units).length (bytesC (a.run F.now a.units)))
    (hrs : w'.ownsRow 0 98 2 (.slice (some ⟨g, 0, none⟩) (F.acts.length + 1) cap) (F.acts.length + 1) (actsC F.acts ++ actC a))
    (hn : (ao.map Addr.block) = (Value.slice F.no F.now.length F.nc).ownBlock ∨ ∃ j, (ao.map Addr.block) = some j ∧ w.heap.size ≤ j) (hs : (Value.slice F.so F.acts.length F.sc).ownBlock = some g ∨ w.heap.size ≤ g) (hne : (ao.map Addr.block) ≠ some g)
    (ht : Touch (fun j => j = f ∨ (Value.slice F.no F.now.length F.nc).ownBlock = some j ∨ (Value.slice F.so F.acts.length F.sc).ownBlock = some j) w w') :
    Step w b G w' { G with file := fun j => if j = f then some { F with no := ao, nc := cp, so := some ⟨g, 0, none⟩, sc := cap, now := a.run F.now a.units, acts := F.acts ++ [a] } else G.file j, role := fun j => if j < w.heap.size then G.role j else if j = g then (9, f) else if (ao.map Addr.block) = some j then (7, f) else (0, 0), n := G.n + 1 } := by
  have hf := h.files f F hF
  rw [sliceBlock] at hn hs
  have pf := hf.pf
  have ho : ∀ j, (j = f ∨ (Value.slice F.no F.now.length F.nc).ownBlock = some j ∨ (Value.slice F.so F.acts.length F.sc).ownBlock = some j) → j = f ∨ G.role j = (7, f) ∨ G.role j = (8, f) ∨ G.role j = (9, f) := by
    intro j hj
    rw [sliceBlock, sliceBlock] at hj
    rcases hj with e | e | e
    · exact .inl e
    · exact .inr (.inl (hf.pn j e))
    · exact .inr (.inr (.inr (hf.ps j e)))
  have no5 : ∀ {j : Nat}, G.role j = (5, 0) → ¬ (j = f ∨ (Value.slice F.no F.now.length F.nc).ownBlock = some j ∨ (Value.slice F.so F.acts.length F.sc).ownBlock = some j) := by
    intro j hj e
    rcases ho j e with e1 | e1 | e1 | e1
    · rw [e1, pf] at hj; cases hj
    all_goals (rw [e1] at hj; cases hj)
  have hr : ∀ j, j < w.heap.size → (if j < w.heap.size then G.role j else if j = g then ((9, f) : Nat × Nat) else if (ao.map Addr.block) = some j then (7, f) else (0, 0)) = G.role j := fun j hj => if_pos hj
  refine h.setFile hF ht ho hr (fun j hj => ?_) (Nat.le_succ _) ⟨?_, hrn, ht.row hf.rl fun j hj e => ?_, ?_, fun y hy => ?_, ?_, ?_, ?_, ?_, ?_, fun j hj => ?_, fun j hj => ?_, fun j hj => ?_, fun y hy => ?_⟩
  · by_cases hj' : j < w.heap.size
    · exact Nat.lt_of_lt_of_le hj' ht.size
    · simp only [if_neg hj'] at hj
      by_cases e : j = g
      · rw [e]; exact row_lt hrs rfl
      · rw [if_neg e] at hj
        by_cases e2 : (ao.map Addr.block) = some j
        · exact row_lt hrn ((sliceBlock _ _ _).trans e2)
        · rw [if_neg e2] at hj; exact absurd rfl hj
  · rw [show (F.acts ++ [a]).length = F.acts.length + 1 by simp]; exact hbox
  · rw [sliceBlock] at hj
    have e8 := hf.pl j hj
    rcases ho j e with e1 | e1 | e1 | e1
    · rw [e1, pf] at e8; cases e8
    · rw [e1] at e8; injection e8 with e9; omega
    · rw [sliceBlock, sliceBlock] at e
      rcases e with e | e | e
      · rw [e, pf] at e8; cases e8
      · have := hf.pn j e; rw [this] at e8; injection e8 with e9; omega
      · have := hf.ps j e; rw [this] at e8; injection e8 with e9; omega
    · rw [e1] at e8; injection e8 with e9; omega
  · rw [show (F.acts ++ [a]).length = F.acts.length + 1 by simp, actsC_append, actsC_one]; exact hrs
  · rcases List.mem_append.1 hy with hy | hy
    · exact FA.held_of (hf.held y hy) (ht.block _ (FA.held_lt (hf.held y hy)) (no5 (hf.pc y hy)))
    · obtain rfl : y = a := by simpa using hy
      exact FA.held_of hheld (ht.block _ (FA.held_lt hheld) (no5 hc))
  · show a.run F.now a.units = runAll F.last (F.acts ++ [a])
    rw [runAll_append, ← hf.eq]
    rfl
  · show fitAll F.last (F.acts ++ [a])
    rw [fitAll_append, ← hf.eq]
    exact ⟨hf.fit, hfit, trivial⟩
  · show (F.acts ++ [a]).length ≤ G.n + 1
    have := hf.few
    simp only [List.length_append, List.length_cons, List.length_nil]
    omega
  · show F.last.length + unitsAll (F.acts ++ [a]) ≤ (G.n + 1) * G.q
    have := hf.big
    rw [unitsAll_append, Nat.add_mul]
    simp only [unitsAll]
    omega
  · exact (hr f (heap_lt hf.box)).trans pf
  · have hj' : (ao.map Addr.block) = some j := hj
    show (if j < w.heap.size then G.role j else if j = g then ((9, f) : Nat × Nat) else if (ao.map Addr.block) = some j then (7, f) else (0, 0)) = _
    split
    · rename_i hlt
      rcases hn with e | ⟨j', e, hj2⟩
      · exact hf.pn j (e.symm.trans hj')
      · rw [e] at hj'; cases hj'; omega
    · split
      · rename_i h2; exact absurd (by rw [hj', h2]) hne
      · rfl
  · have hj' : (F.lo.map Addr.block) = some j := hj
    exact (hr j (row_lt hf.rl ((sliceBlock _ _ _).trans hj'))).trans (hf.pl j hj')
  · obtain rfl : g = j := by simpa using hj
    show (if g < w.heap.size then G.role g else if g = g then ((9, f) : Nat × Nat) else _) = _
    split
    · rcases hs with e | e
      · exact hf.ps g e
      · omega
    · rw [if_pos rfl]
  · rcases List.mem_append.1 hy with hy | hy
    · exact (hr _ (FA.held_lt (hf.held y hy))).trans (hf.pc y hy)
    · obtain rfl : y = a := by simpa using hy
      exact (hr _ (FA.held_lt hheld)).trans hc

end Go.Proofs.YtknldpaaikcedaaGreat
/-
  What becomes of a disk in memory: a Sync, a file's crash, a DirSync, the names' crash.
-/
namespace Go.Proofs.YtknldpaaikcedaaGreat
open Go.RowKit Go.Maps

/-- A file whose bytes that last are written anew, and with it perhaps those now; no act is left. -/
theorem Rep.settled {w w' : World} {b f : Nat} {G : DG} {F : FG} (h : Rep w b G) (hF : G.file f = some F) (L : List UInt8) (bo : Option Addr) (bp : Nat) (ao : Option Addr) (cp : Nat) (hL : L.length ≤ F.last.length + unitsAll F.acts)
    (hbox : w'.heap[f]? = some (.cells #[.slice bo L.length bp, .slice ao L.length cp, .slice none 0 0] 66 (0, 0)))
    (hrn : w'.ownsRow 0 5 1 (.slice bo L.length bp) L.length (bytesC L)) (hrl : w'.ownsRow 0 5 1 (.slice ao L.length cp) L.length (bytesC L))
    (hb : (bo.map Addr.block) = (F.no.map Addr.block) ∨ ∀ j, (bo.map Addr.block) = some j → w.heap.size ≤ j) (ha : (ao.map Addr.block) = (F.lo.map Addr.block) ∨ ∃ j, (ao.map Addr.block) = some j ∧ w.heap.size ≤ j) (hne : ∀ j, (bo.map Addr.block) = some j → (ao.map Addr.block) ≠ some j)
    (ht : Touch (fun j => j = f ∨ (F.lo.map Addr.block) = some j) w w') :
    Step w b G w' { G with file := fun j => if j = f then some { F with no := bo, nc := bp, lo := ao, lc := cp, so := none, sc := 0, now := L, last := L, acts := [] } else G.file j, role := fun j => if j < w.heap.size then G.role j else if (ao.map Addr.block) = some j then (8, f) else if (bo.map Addr.block) = some j then (7, f) else (0, 0) } := by
  have hf := h.files f F hF
  have pf := hf.pf
  have ho : ∀ j, (j = f ∨ (F.lo.map Addr.block) = some j) → j = f ∨ G.role j = (7, f) ∨ G.role j = (8, f) ∨ G.role j = (9, f) := by
    intro j hj
    rcases hj with e | e
    · exact .inl e
    · exact .inr (.inr (.inl (hf.pl j e)))
  have hr : ∀ j, j < w.heap.size → (if j < w.heap.size then G.role j else if (ao.map Addr.block) = some j then ((8, f) : Nat × Nat) else if (bo.map Addr.block) = some j then (7, f) else (0, 0)) = G.role j := fun j hj => if_pos hj
  refine h.setFile hF ht ho hr (fun j hj => ?_) (Nat.le_refl _) ⟨hbox, hrn, hrl, World.ownsRow_nil _ _ _ _, (fun a ha => by simp at ha), rfl, trivial, Nat.zero_le _, ?_, (hr f (heap_lt hf.box)).trans pf, fun j hj => ?_, fun j hj => ?_, (fun j hj => by simp at hj), fun a ha => by simp at ha⟩
  · by_cases hj' : j < w.heap.size
    · exact Nat.lt_of_lt_of_le hj' ht.size
    · simp only [if_neg hj'] at hj
      by_cases e : (ao.map Addr.block) = some j
      · exact row_lt hrl ((sliceBlock _ _ _).trans e)
      · rw [if_neg e] at hj
        by_cases e2 : (bo.map Addr.block) = some j
        · exact row_lt hrn ((sliceBlock _ _ _).trans e2)
        · rw [if_neg e2] at hj; exact absurd rfl hj
  · show L.length + 0 ≤ G.n * G.q
    have := hf.big
    omega
  · have hj' : (bo.map Addr.block) = some j := hj
    show (if j < w.heap.size then G.role j else if (ao.map Addr.block) = some j then ((8, f) : Nat × Nat) else if (bo.map Addr.block) = some j then (7, f) else (0, 0)) = _
    split
    · rcases hb with e | e
      · exact hf.pn j (e.symm.trans hj')
      · have := e j hj'; omega
    · split
      · rename_i h2; exact absurd h2 (hne j hj')
      · rfl
  · have hj' : (ao.map Addr.block) = some j := hj
    show (if j < w.heap.size then G.role j else if (ao.map Addr.block) = some j then ((8, f) : Nat × Nat) else if (bo.map Addr.block) = some j then (7, f) else (0, 0)) = _
    split
    · rcases ha with e | ⟨j', e, hj2⟩
      · exact hf.pl j (e.symm.trans hj')
      · rw [e] at hj'; cases hj'; omega
    · rfl

/-- The names are those that last; no act is left; they may lie in another map. -/
theorem Rep.dsettled {w w' : World} {b : Nat} {G : DG} (h : Rep w b G) (D' : DataW Nat) (nb : Nat) (hsz : Maps.size D' ≤ G.n)
    (hbox : w'.heap[b]? = some (.cells #[.int .i64 G.room, .int .i64 G.fuse, .bool G.down, .map (some nb), .map (some G.lb), .slice none 0 0] 56 (0, 0)))
    (hnow : ∃ m, w'.ownsMap Tryz.prog 9 ptrR nb m D') (hlast : ∃ m, w'.ownsMap Tryz.prog 9 ptrR G.lb m D') (hnb : nb = G.nb ∨ w.heap.size ≤ nb) (hk : ∀ k f, dget D' k = some f → G.file f ≠ none ∧ 1 ≤ k.length ∧ k.length ≤ 40)
    (hfu : Full D') (ht : Touch (fun j => j = b ∨ j = G.lb) w w') :
    Step w b G w' { G with D := D', LD := D', X := [], so := none, sc := 0, nb := nb, role := fun j => if j < w.heap.size then G.role j else if j = nb then (2, 0) else (0, 0) } := by
  obtain ⟨m1, hnow⟩ := hnow
  obtain ⟨m2, hlast⟩ := hlast
  have ho : ∀ j, (j = b ∨ j = G.lb) → G.role j = (1, 0) ∨ G.role j = (2, 0) ∨ G.role j = (3, 0) ∨ G.role j = (4, 0) := by
    intro j hj
    rcases hj with e | e
    · exact .inl (e ▸ h.pb)
    · exact .inr (.inr (.inl (e ▸ h.pl)))
  have hr : ∀ j, j < w.heap.size → (if j < w.heap.size then G.role j else if j = nb then ((2, 0) : Nat × Nat) else (0, 0)) = G.role j := fun j hj => if_pos hj
  have rk : ∀ {j : Nat} {c : Nat × Nat}, G.role j = c → c ≠ (0, 0) → (if j < w.heap.size then G.role j else if j = nb then ((2, 0) : Nat × Nat) else (0, 0)) = c := fun hj hc => (hr _ (h.lt _ (by rw [hj]; exact hc))).trans hj
  refine ⟨⟨hbox, owns_bound hnow hsz, owns_bound hlast hsz, World.ownsRow_nil _ _ _ _, (fun x hx => by simp at hx), trivial, rfl, ?_, h.filesKeep ht ho hr (Nat.le_refl _), hk, (fun x hx => by simp at hx), rk h.pb (by decide), ?_, rk h.pl (by decide), (fun j hj => by simp at hj), (fun x hx => by simp at hx), fun j hj => ?_, h.hroom, h.hfuse, h.hq, hfu⟩, ht.mono (fun j _ e => ?_), fun j e => ?_⟩
  · show Maps.size D' + 0 ≤ G.n
    omega
  · show (if nb < w.heap.size then G.role nb else if nb = nb then ((2, 0) : Nat × Nat) else (0, 0)) = _
    split
    · rcases hnb with e | e
      · rw [e]; exact h.pn
      · omega
    · rw [if_pos rfl]
  · by_cases hj' : j < w.heap.size
    · exact Nat.lt_of_lt_of_le hj' ht.size
    · simp only [if_neg hj'] at hj
      by_cases e : j = nb
      · rw [e]; exact hnow.lt
      · rw [if_neg e] at hj; exact absurd rfl hj
  · show G.role j ≠ _
    rcases ho j e with e1 | e1 | e1 | e1 <;> rw [e1] <;> decide
  · by_cases hj : j < w.heap.size
    · left
      show G.role j ≠ _
      rw [← hr j hj]
      exact e
    · exact .inr (by omega)
/-- What settle of the directory asks for. -/
theorem Rep.dAt {w : World} {b : Nat} {G : DG} (h : Rep w b G) (hn : G.n < 1000000) : DAt b G.nb G.lb G.n (.int .i64 G.room) (.int .i64 G.fuse) (.bool G.down) G.so G.sc G.LD G.X w := by
  have hf := h.few
  refine ⟨h.box, h.row, by omega, hn, h.last, h.held, h.fit, fun e => ?_, fun e => ?_, fun e => ?_, fun x hx => ⟨fun e => ?_, fun e => ?_⟩⟩
  · have := h.pb; rw [← e, h.pl] at this; cases this
  · have := h.ps _ ((sliceBlock _ _ _).symm.trans e); rw [h.pl] at this; cases this
  · have := h.ps _ ((sliceBlock _ _ _).symm.trans e); rw [h.pb] at this; cases this
  · have := (h.pc x hx).1; rw [e, h.pl] at this; cases this
  · have := (h.pc x hx).2; rw [e, h.pl] at this; cases this

end Go.Proofs.YtknldpaaikcedaaGreat
