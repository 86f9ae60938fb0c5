/-
  What becomes of a disk in memory: its numbers, a file, its names turn.
-/
import Derived.Test.YtdlaicbdconbcaaR1
namespace Go.Proofs.Ytdlaicbdconbcaa
open Go.RowKit Go.Maps

/-- The disk's numbers turn. -/
theorem Rep.rebox {w w' : World} {b : Nat} {G : DG} (h : Rep w b G) (ht : Touch (fun j => j = b) w w') (fuse : Int) (down : Bool)
    (hbox : w'.heap[b]? = some (.cells #[.int .i64 G.room, .int .i64 fuse, .bool down, .map (some G.nb), .map (some G.lb), .slice G.so G.X.length G.sc] 56 (0, 0))) (hf : -9223372036854775808 ≤ fuse ∧ fuse ≤ 9223372036854775807) :
    Step w b G w' { G with fuse := fuse, down := down } := by
  have no : ∀ {j : Nat} {c : Nat × Nat}, G.role j = c → c ≠ (1, 0) → ¬ j = b := fun hj hc e => hc (by subst e; exact hj.symm.trans h.pb)
  refine ⟨⟨hbox, ht.map h.now (no h.pn (by decide)), ht.map h.last (no h.pl (by decide)), ht.row h.row fun j hj e => ?_, fun x hx => ?_, h.fit, h.eq, h.few, fun f F hF => ?_, h.known, h.knownX, h.pb, h.pn, h.pl, h.ps, h.pc, fun j hj => Nat.lt_of_lt_of_le (h.lt j hj) ht.size, h.hroom, hf, h.hq, h.full⟩, ht.mono (fun j _ e => ?_), fun j e => .inl e⟩
  · rw [sliceBlock] at hj; exact no (h.ps j hj) (by decide) e
  · exact DA.held_of (h.held x hx) (ht.block _ (DA.held_lt (h.held x hx)).1 (no (h.pc x hx).1 (by decide))) (ht.block _ (DA.held_lt (h.held x hx)).2 (no (h.pc x hx).2 (by decide)))
  · refine (h.files f F hF).keep ht (fun _ _ => rfl) (Nat.le_refl _) fun j hj => ?_
    subst hj
    have e := h.pb
    refine ⟨fun e' => ?_, ?_, ?_, ?_, ?_⟩
    · subst e'; rw [(h.files _ F hF).pf] at e; cases e
    · rw [e]; decide
    · rw [e]; intro h; cases h
    · rw [e]; intro h; cases h
    · rw [e]; intro h; cases h
  · show G.role j ≠ _
    rw [e, h.pb]
    decide

/-- A file turns. -/
theorem Rep.setFile {w w' : World} {b f : Nat} {G : DG} {F F' : FG} {own : Nat → Prop} {role' : Nat → Nat × Nat} {n' : Nat} (h : Rep w b G) (hF : G.file f = some F) (ht : Touch own w w')
    (ho : ∀ j, own j → j = f ∨ G.role j = (7, f) ∨ G.role j = (8, f) ∨ G.role j = (9, f)) (hr : ∀ j, j < w.heap.size → role' j = G.role j) (hl : ∀ j, role' j ≠ (0, 0) → j < w'.heap.size) (hn : G.n ≤ n') (hF' : FileAt role' w' n' G.q f F') :
    Step w b G w' { G with file := fun j => if j = f then some F' else G.file j, role := role', n := n' } := by
  have pf := (h.files f F hF).pf
  have no : ∀ {j c : Nat}, G.role j = (c, 0) → c ≤ 5 → ¬ own j := by
    intro j c hj hc e
    rcases ho j e with e | e | e | e
    · subst e; rw [pf] at hj; injection hj with e1; omega
    · have he := hj.symm.trans e; injection he with e1; omega
    · have he := hj.symm.trans e; injection he with e1; omega
    · have he := hj.symm.trans e; injection he with e1; omega
  have rk : ∀ {j : Nat} {c : Nat × Nat}, G.role j = c → c ≠ (0, 0) → role' j = c := fun hj hc => (hr _ (h.lt _ (by rw [hj]; exact hc))).trans hj
  have hb := heap_lt h.box
  refine ⟨⟨ht.at h.box (no h.pb (by decide)), (ht.map h.now (no h.pn (by decide))).mono hn, (ht.map h.last (no h.pl (by decide))).mono hn, ht.row h.row fun j hj e => ?_, fun x hx => ?_, h.fit, h.eq, Nat.le_trans h.few hn, fun g Fg hg => ?_, fun k g hk => ?_, fun x hx => ?_, rk h.pb (by decide), rk h.pn (by decide), rk h.pl (by decide), fun j hj => rk (h.ps j hj) (by decide), fun x hx => ⟨rk (h.pc x hx).1 (by decide), rk (h.pc x hx).2 (by decide)⟩, hl, h.hroom, h.hfuse, h.hq, h.full⟩, ht.mono (fun j _ e => ?_), fun j e => ?_⟩
  · rw [sliceBlock] at hj; exact no (h.ps j hj) (by decide) e
  · exact DA.held_of (h.held x hx) (ht.block _ (DA.held_lt (h.held x hx)).1 (no (h.pc x hx).1 (by decide))) (ht.block _ (DA.held_lt (h.held x hx)).2 (no (h.pc x hx).2 (by decide)))
  · by_cases e : g = f
    · subst e
      simp only [if_true] at hg
      cases hg
      exact hF'
    · simp only [if_neg e] at hg
      refine (h.files g Fg hg).keep ht hr hn fun j hj => ?_
      have pg := (h.files g Fg hg).pf
      rcases ho j hj with e1 | e1 | e1 | e1
      · subst e1
        rw [pf]
        exact ⟨fun e2 => e e2.symm, (by decide), (by intro h; cases h), (by intro h; cases h), (by intro h; cases h)⟩
      all_goals
        refine ⟨fun e2 => ?_, ?_, ?_, ?_, ?_⟩
        · subst e2; rw [pg] at e1; cases e1
        all_goals (rw [e1]; intro e2; injection e2 with e3 e4; first | omega | exact e e4.symm)
  · refine ⟨?_, (h.known k g hk).2⟩
    show (if g = f then some F' else G.file g) ≠ none
    split
    · simp
    · exact (h.known k g hk).1
  · refine ⟨fun hx0 => ?_, (h.knownX x hx).2⟩
    show (if x.id = f then some F' else G.file x.id) ≠ none
    split
    · simp
    · exact (h.knownX x hx).1 hx0
  · show G.role j ≠ _
    rcases ho j e with e | e | e | e
    · rw [e, pf]; decide
    · rw [e]; intro h; cases h
    · rw [e]; intro h; cases h
    · rw [e]; intro h; cases h
  · by_cases hj : j < w.heap.size
    · left
      show G.role j ≠ _
      rw [← hr j hj]
      exact e
    · exact .inr (by omega)

/-- A new file, of no bytes, under a block that was nobody's. -/
theorem Rep.newFile {w : World} {b f : Nat} {G : DG} (h : Rep w b G) (hbx : w.heap[f]? = some (.cells #[.slice none 0 0, .slice none 0 0, .slice none 0 0] 74 (0, 0))) (h0 : G.role f = (0, 0)) :
    Rep w b { G with file := fun j => if j = f then some ⟨none, 0, none, 0, none, 0, [], [], []⟩ else G.file j, role := fun j => if j = f then (6, 0) else G.role j } := by
  have r : ∀ {j : Nat} {x : Nat × Nat}, G.role j = x → x ≠ (0, 0) → (if j = f then ((6, 0) : Nat × Nat) else G.role j) = x := by
    intro j x hj hx
    by_cases e : j = f
    · subst e; exact absurd (hj.symm.trans h0) hx
    · rw [if_neg e]; exact hj
  have nf : G.file f = none := by
    cases hf : G.file f with
    | none => rfl
    | some F => have := (h.files f F hf).pf; rw [h0] at this; cases this
  refine ⟨h.box, h.now, h.last, h.row, h.held, h.fit, h.eq, h.few, fun g Fg hg => ?_, fun k g hk => ?_, fun x hx => ?_, r h.pb (by decide), r h.pn (by decide), r h.pl (by decide), fun j hj => r (h.ps j hj) (by decide), fun x hx => ⟨r (h.pc x hx).1 (by decide), r (h.pc x hx).2 (by decide)⟩, fun j hj => ?_, h.hroom, h.hfuse, h.hq, h.full⟩
  · by_cases e : g = f
    · subst e
      simp only [if_true] at hg
      cases hg
      exact ⟨hbx, World.ownsRow_nil _ _ _ _, World.ownsRow_nil _ _ _ _, World.ownsRow_nil _ _ _ _, (fun a ha => by simp at ha), rfl, trivial, Nat.zero_le _, Nat.zero_le _, if_pos rfl, (fun j hj => by simp at hj), (fun j hj => by simp at hj), (fun j hj => by simp at hj), fun a ha => by simp at ha⟩
    · simp only [if_neg e] at hg
      have g' := h.files g Fg hg
      exact ⟨g'.box, g'.rn, g'.rl, g'.rs, g'.held, g'.eq, g'.fit, g'.few, g'.big, r g'.pf (by decide), fun j hj => r (g'.pn j hj) (by simp), fun j hj => r (g'.pl j hj) (by simp), fun j hj => r (g'.ps j hj) (by simp), fun a ha => r (g'.pc a ha) (by decide)⟩
  · refine ⟨?_, (h.known k g hk).2⟩
    show (if g = f then some _ else G.file g) ≠ none
    split
    · simp
    · exact (h.known k g hk).1
  · refine ⟨fun hx0 => ?_, (h.knownX x hx).2⟩
    show (if x.id = f then some _ else G.file x.id) ≠ none
    split
    · simp
    · exact (h.knownX x hx).1 hx0
  · by_cases e : j = f
    · rw [e]; exact heap_lt hbx
    · simp only [if_neg e] at hj
      exact h.lt j hj

/-- The files are as they were while the names turn. -/
theorem Rep.filesKeep {w w' : World} {b : Nat} {G : DG} {own : Nat → Prop} {role' : Nat → Nat × Nat} {n' : Nat} (h : Rep w b G) (ht : Touch own w w') (ho : ∀ j, own j → G.role j = (1, 0) ∨ G.role j = (2, 0) ∨ G.role j = (3, 0) ∨ G.role j = (4, 0))
    (hr : ∀ j, j < w.heap.size → role' j = G.role j) (hn : G.n ≤ n') : ∀ f F, G.file f = some F → FileAt role' w' n' G.q f F := by
  intro f F hF
  refine (h.files f F hF).keep ht hr hn fun j hj => ?_
  have pf := (h.files f F hF).pf
  rcases ho j hj with e1 | e1 | e1 | e1
  all_goals
    refine ⟨fun e2 => ?_, ?_, ?_, ?_, ?_⟩
    · subst e2; rw [pf] at e1; cases e1
    all_goals (rw [e1]; intro e2; injection e2 with e3 e4; omega)
/-- An act of the directory was done. -/
theorem Rep.named {w w' : World} {b : Nat} {G : DG} (h : Rep w b G) (x : DA) (g cap : Nat) (hheld : x.held w) (hc : G.role x.c = (5, 0) ∧ G.role x.d = (5, 0)) (hfit : x.fits G.D)
    (hkn : (x.kind = 0 → G.file x.id ≠ none) ∧ 1 ≤ x.a.size ∧ x.a.size ≤ 40 ∧ (x.kind = 1 → 1 ≤ x.b.size ∧ x.b.size ≤ 40))
    (hbox : w'.heap[b]? = some (.cells #[.int .i64 G.room, .int .i64 G.fuse, .bool G.down, .map (some G.nb), .map (some G.lb), .slice (some ⟨g, 0, none⟩) (G.X.length + 1) cap] 56 (0, 0)))
    (hmap : w'.ownsMap Try.prog 9 ptrR G.nb (G.n + 1) (x.run G.D)) (hrow : w'.ownsRow 0 63 1 (.slice (some ⟨g, 0, none⟩) (G.X.length + 1) cap) (G.X.length + 1) (G.X.map dactC ++ [dactC x]))
    (hg : (Value.slice G.so G.X.length G.sc).ownBlock = some g ∨ w.heap.size ≤ g) (ht : Touch (fun j => j = b ∨ j = G.nb ∨ (Value.slice G.so G.X.length G.sc).ownBlock = some j) w w') :
    Step w b G w' { G with D := x.run G.D, X := G.X ++ [x], so := some ⟨g, 0, none⟩, sc := cap, n := G.n + 1, role := fun j => if j < w.heap.size then G.role j else if j = g then (4, 0) else (0, 0) } := by
  have ho : ∀ j, (j = b ∨ j = G.nb ∨ (Value.slice G.so G.X.length G.sc).ownBlock = some j) → G.role j = (1, 0) ∨ G.role j = (2, 0) ∨ G.role j = (3, 0) ∨ G.role j = (4, 0) := by
    intro j hj
    rcases hj with e | e | e
    · exact .inl (e ▸ h.pb)
    · exact .inr (.inl (e ▸ h.pn))
    · exact .inr (.inr (.inr (h.ps j ((sliceBlock _ _ _).symm.trans e))))
  have no : ∀ {j : Nat} {c : Nat × Nat}, G.role j = c → c = (3, 0) ∨ c = (5, 0) → ¬ (j = b ∨ j = G.nb ∨ (Value.slice G.so G.X.length G.sc).ownBlock = some j) := by
    intro j c hj hc e
    rcases ho j e with e1 | e1 | e1 | e1 <;> rcases hc with hc | hc <;> rw [hj, hc] at e1 <;> first | (cases e1; done) | skip
    rcases e with e | e | e
    · rw [e, h.pb, hc] at hj; cases hj
    · rw [e, h.pn, hc] at hj; cases hj
    · have := h.ps j ((sliceBlock _ _ _).symm.trans e); rw [this, hc] at hj; cases hj
  have hr : ∀ j, j < w.heap.size → (if j < w.heap.size then G.role j else if j = g then ((4, 0) : Nat × Nat) else (0, 0)) = G.role j := fun j hj => if_pos hj
  have rk : ∀ {j : Nat} {c : Nat × Nat}, G.role j = c → c ≠ (0, 0) → (if j < w.heap.size then G.role j else if j = g then ((4, 0) : Nat × Nat) else (0, 0)) = c := fun hj hc => (hr _ (h.lt _ (by rw [hj]; exact hc))).trans hj
  refine ⟨⟨?_, hmap, (ht.map h.last (no h.pl (.inl rfl))).mono (Nat.le_succ _), ?_, fun y hy => ?_, ?_, ?_, ?_, h.filesKeep ht ho hr (Nat.le_succ _), h.known, fun y hy => ?_, rk h.pb (by decide), rk h.pn (by decide), rk h.pl (by decide), fun j hj => ?_, fun y hy => ?_, fun j hj => ?_, h.hroom, h.hfuse, h.hq, h.full⟩, ht.mono (fun j _ e => ?_), fun j e => ?_⟩
  · rw [show (G.X ++ [x]).length = G.X.length + 1 by simp]; exact hbox
  · rw [show (G.X ++ [x]).length = G.X.length + 1 by simp, List.map_append]; exact hrow
  · rcases List.mem_append.1 hy with hy | hy
    · exact DA.held_of (h.held y hy) (ht.block _ (DA.held_lt (h.held y hy)).1 (no (h.pc y hy).1 (.inr rfl))) (ht.block _ (DA.held_lt (h.held y hy)).2 (no (h.pc y hy).2 (.inr rfl)))
    · obtain rfl : y = x := by simpa using hy
      exact DA.held_of hheld (ht.block _ (DA.held_lt hheld).1 (no hc.1 (.inr rfl))) (ht.block _ (DA.held_lt hheld).2 (no hc.2 (.inr rfl)))
  · show dfitAll G.LD (G.X ++ [x])
    rw [dfitAll_append, ← h.eq]
    exact ⟨h.fit, hfit, trivial⟩
  · show x.run G.D = drunAll G.LD (G.X ++ [x])
    rw [drunAll_append, ← h.eq]
    rfl
  · show Maps.size G.LD + (G.X ++ [x]).length ≤ G.n + 1
    have := h.few
    simp only [List.length_append, List.length_cons, List.length_nil]
    omega
  · rcases List.mem_append.1 hy with hy | hy
    · exact h.knownX y hy
    · obtain rfl : y = x := by simpa using hy
      exact hkn
  · obtain rfl : g = j := by simpa using hj
    show (if g < w.heap.size then G.role g else if g = g then ((4, 0) : Nat × Nat) else (0, 0)) = _
    split
    · rcases hg with e | e
      · exact h.ps g ((sliceBlock _ _ _).symm.trans e)
      · omega
    · rw [if_pos rfl]
  · rcases List.mem_append.1 hy with hy | hy
    · exact ⟨rk (h.pc y hy).1 (by decide), rk (h.pc y hy).2 (by decide)⟩
    · obtain rfl : y = x := by simpa using hy
      exact ⟨rk hc.1 (by decide), rk hc.2 (by decide)⟩
  · by_cases hj' : j < w.heap.size
    · exact Nat.lt_of_lt_of_le hj' ht.size
    · simp only [if_neg hj'] at hj
      by_cases e : j = g
      · rw [e]; exact row_lt hrow rfl
      · rw [if_neg e] at hj; exact absurd rfl hj
  · show G.role j ≠ _
    rcases ho j e with e1 | e1 | e1 | e1 <;> rw [e1] <;> decide
  · by_cases hj : j < w.heap.size
    · left
      show G.role j ≠ _
      rw [← hr j hj]
      exact e
    · exact .inr (by omega)

end Go.Proofs.Ytdlaicbdconbcaa
