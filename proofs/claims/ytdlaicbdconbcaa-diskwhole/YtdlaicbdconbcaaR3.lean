/-
  What becomes of a disk in memory: an act of a file, a Sync, a DirSync, a Crash.
-/
import Derived.Test.YtdlaicbdconbcaaR2
namespace Go.Proofs.Ytdlaicbdconbcaa
open Go.RowKit Go.Maps

theorem size_put_le {D : DataW Nat} (h : IsMap D) (k : List UInt8) (b : Nat) : Maps.size (dput D k b) ≤ Maps.size D + 1 := by
  obtain ⟨es, rfl⟩ := h
  show (DataW.insert _ (es.filter _)).length ≤ es.length + 1
  rw [length_insert]
  have := List.length_filter_le (fun p : Lit × DataW Nat => !p.1.sameKey (.string k)) es
  omega
theorem size_del_le {D : DataW Nat} (h : IsMap D) (k : List UInt8) : Maps.size (ddel D k) ≤ Maps.size D := by
  obtain ⟨es, rfl⟩ := h
  exact List.length_filter_le _ _
theorem size_run_le {D : DataW Nat} (h : IsMap D) (x : DA) : Maps.size (x.run D) ≤ Maps.size D + 1 := by
  unfold DA.run
  split
  · exact size_put_le h _ _
  · split
    · have h1 := size_put_le (h.del (.string x.a.data.toList)) x.b.data.toList ‹Nat›
      have h2 := size_del_le h x.a.data.toList
      exact Nat.le_trans h1 (Nat.succ_le_succ h2)
    · omega
  · have := size_del_le h x.a.data.toList
    omega
theorem isMap_drun {D : DataW Nat} (h : IsMap D) (X : List DA) : IsMap (drunAll D X) := by
  induction X generalizing D with
  | nil => exact h
  | cons x X ih => exact ih (isMap_run h x)
theorem size_drun_le {D : DataW Nat} (h : IsMap D) (X : List DA) : Maps.size (drunAll D X) ≤ Maps.size D + X.length := by
  induction X generalizing D with
  | nil => exact Nat.le_refl _
  | cons x X ih =>
    have h1 := ih (isMap_run h x)
    have h2 := size_run_le h x
    simp only [drunAll, List.length_cons]
    omega
/-- A map has no more entries than its datum. -/
theorem owns_bound {w : World} {P : Program} {k : TypeId} {R : Value → Option (DataW Nat × List MemPlace)} {b n m : Nat} {D : DataW Nat} (h : w.ownsMap P k R b n D) (hm : Maps.size D ≤ m) : w.ownsMap P k R b m D := by
  obtain ⟨es, clock, hb, F, hs, hD⟩ := h
  refine ⟨es, clock, hb, F, ?_, hD⟩
  rw [hD] at hm
  simpa [Maps.size, length_sorted] using hm
/-- Which names there are behind acts. -/
theorem known_run {D : DataW Nat} (hD : IsMap D) (P : Nat → Prop) (X : List DA) (h : ∀ k f, dget D k = some f → P f ∧ 1 ≤ k.length ∧ k.length ≤ 40)
    (hX : ∀ x ∈ X, (x.kind = 0 → P x.id) ∧ 1 ≤ x.a.size ∧ x.a.size ≤ 40 ∧ (x.kind = 1 → 1 ≤ x.b.size ∧ x.b.size ≤ 40)) : ∀ k f, dget (drunAll D X) k = some f → P f ∧ 1 ≤ k.length ∧ k.length ≤ 40 := by
  induction X generalizing D with
  | nil => exact h
  | cons x X ih =>
    refine ih (isMap_run hD x) (fun k f hk => ?_) (fun y hy => hX y (List.mem_cons_of_mem _ hy))
    have hx := hX x List.mem_cons_self
    have la : x.a.data.toList.length = x.a.size := by simp
    have lb : x.b.data.toList.length = x.b.size := by simp
    unfold DA.run at hk
    split at hk
    · rename_i hk0
      by_cases e : k = x.a.data.toList
      · subst e
        rw [dget_put_same hD] at hk
        cases hk
        exact ⟨hx.1 hk0, by omega, by omega⟩
      · rw [dget_put_other _ e] at hk
        exact h k f hk
    · rename_i hk1
      split at hk
      · rename_i f0 hf0
        by_cases e : k = x.b.data.toList
        · subst e
          rw [dget_put_same (show IsMap (ddel D x.a.data.toList) from hD.del _)] at hk
          cases hk
          have := hx.2.2.2 hk1
          exact ⟨(h _ _ hf0).1, by omega, by omega⟩
        · rw [dget_put_other _ e] at hk
          by_cases e2 : k = x.a.data.toList
          · subst e2
            rw [dget_del_same] at hk
            cases hk
          · rw [dget_del_other _ e2] at hk
            exact h k f hk
      · exact h k f hk
    · by_cases e2 : k = x.a.data.toList
      · subst e2
        rw [dget_del_same] at hk
        cases hk
      · rw [dget_del_other _ e2] at hk
        exact h k f hk
theorem Rep.knownD {w : World} {b : Nat} {G : DG} (h : Rep w b G) : ∀ k f, dget G.D k = some f → G.file f ≠ none ∧ 1 ≤ k.length ∧ k.length ≤ 40 := by
  rw [h.eq]
  exact known_run h.last.isMap (fun f => G.file f ≠ none) G.X h.known h.knownX

theorem Rep.fullD {w : World} {b : Nat} {G : DG} (h : Rep w b G) : Full G.D := by
  rw [h.eq]
  exact full_drun h.last.isMap h.full G.X

/-- An act of a file was done. -/
theorem Rep.acted {w w' : World} {b f : Nat} {G : DG} {F : FG} (h : Rep w b G) (hF : G.file f = some F) (a : FA) (ao : Option Addr) (cp g cap : Nat) (hheld : a.held w) (hc : G.role a.cap = (5, 0)) (hfit : a.fits F.now) (hu : a.units ≤ G.q)
    (hbox : w'.heap[f]? = some (.cells #[.slice ao (a.run F.now a.units).length cp, .slice F.lo F.last.length F.lc, .slice (some ⟨g, 0, none⟩) (F.acts.length + 1) cap] 74 (0, 0)))
    (hrn : w'.ownsRow 0 5 1 (.slice ao (a.run F.now a.units).length cp) (a.run F.now a.units).length (bytesC (a.run F.now a.units)))
    (hrs : w'.ownsRow 0 68 2 (.slice (some ⟨g, 0, none⟩) (F.acts.length + 1) cap) (F.acts.length + 1) (actsC F.acts ++ actC a))
    (hn : (ao.map Addr.block) = (Value.slice F.no F.now.length F.nc).ownBlock ∨ ∃ j, (ao.map Addr.block) = some j ∧ w.heap.size ≤ j) (hs : (Value.slice F.so F.acts.length F.sc).ownBlock = some g ∨ w.heap.size ≤ g) (hne : (ao.map Addr.block) ≠ some g)
    (ht : Touch (fun j => j = f ∨ (Value.slice F.no F.now.length F.nc).ownBlock = some j ∨ (Value.slice F.so F.acts.length F.sc).ownBlock = some j) w w') :
    Step w b G w' { G with file := fun j => if j = f then some { F with no := ao, nc := cp, so := some ⟨g, 0, none⟩, sc := cap, now := a.run F.now a.units, acts := F.acts ++ [a] } else G.file j, role := fun j => if j < w.heap.size then G.role j else if j = g then (9, f) else if (ao.map Addr.block) = some j then (7, f) else (0, 0), n := G.n + 1 } := by
  have hf := h.files f F hF
  rw [sliceBlock] at hn hs
  have pf := hf.pf
  have ho : ∀ j, (j = f ∨ (Value.slice F.no F.now.length F.nc).ownBlock = some j ∨ (Value.slice F.so F.acts.length F.sc).ownBlock = some j) → j = f ∨ G.role j = (7, f) ∨ G.role j = (8, f) ∨ G.role j = (9, f) := by
    intro j hj
    rw [sliceBlock, sliceBlock] at hj
    rcases hj with e | e | e
    · exact .inl e
    · exact .inr (.inl (hf.pn j e))
    · exact .inr (.inr (.inr (hf.ps j e)))
  have no5 : ∀ {j : Nat}, G.role j = (5, 0) → ¬ (j = f ∨ (Value.slice F.no F.now.length F.nc).ownBlock = some j ∨ (Value.slice F.so F.acts.length F.sc).ownBlock = some j) := by
    intro j hj e
    rcases ho j e with e1 | e1 | e1 | e1
    · rw [e1, pf] at hj; cases hj
    all_goals (rw [e1] at hj; cases hj)
  have hr : ∀ j, j < w.heap.size → (if j < w.heap.size then G.role j else if j = g then ((9, f) : Nat × Nat) else if (ao.map Addr.block) = some j then (7, f) else (0, 0)) = G.role j := fun j hj => if_pos hj
  refine h.setFile hF ht ho hr (fun j hj => ?_) (Nat.le_succ _) ⟨?_, hrn, ht.row hf.rl fun j hj e => ?_, ?_, fun y hy => ?_, ?_, ?_, ?_, ?_, ?_, fun j hj => ?_, fun j hj => ?_, fun j hj => ?_, fun y hy => ?_⟩
  · by_cases hj' : j < w.heap.size
    · exact Nat.lt_of_lt_of_le hj' ht.size
    · simp only [if_neg hj'] at hj
      by_cases e : j = g
      · rw [e]; exact row_lt hrs rfl
      · rw [if_neg e] at hj
        by_cases e2 : (ao.map Addr.block) = some j
        · exact row_lt hrn ((sliceBlock _ _ _).trans e2)
        · rw [if_neg e2] at hj; exact absurd rfl hj
  · rw [show (F.acts ++ [a]).length = F.acts.length + 1 by simp]; exact hbox
  · rw [sliceBlock] at hj
    have e8 := hf.pl j hj
    rcases ho j e with e1 | e1 | e1 | e1
    · rw [e1, pf] at e8; cases e8
    · rw [e1] at e8; injection e8 with e9; omega
    · rw [sliceBlock, sliceBlock] at e
      rcases e with e | e | e
      · rw [e, pf] at e8; cases e8
      · have := hf.pn j e; rw [this] at e8; injection e8 with e9; omega
      · have := hf.ps j e; rw [this] at e8; injection e8 with e9; omega
    · rw [e1] at e8; injection e8 with e9; omega
  · rw [show (F.acts ++ [a]).length = F.acts.length + 1 by simp, actsC_append, actsC_one]; exact hrs
  · rcases List.mem_append.1 hy with hy | hy
    · exact FA.held_of (hf.held y hy) (ht.block _ (FA.held_lt (hf.held y hy)) (no5 (hf.pc y hy)))
    · obtain rfl : y = a := by simpa using hy
      exact FA.held_of hheld (ht.block _ (FA.held_lt hheld) (no5 hc))
  · show a.run F.now a.units = runAll F.last (F.acts ++ [a])
    rw [runAll_append, ← hf.eq]
    rfl
  · show fitAll F.last (F.acts ++ [a])
    rw [fitAll_append, ← hf.eq]
    exact ⟨hf.fit, hfit, trivial⟩
  · show (F.acts ++ [a]).length ≤ G.n + 1
    have := hf.few
    simp only [List.length_append, List.length_cons, List.length_nil]
    omega
  · show F.last.length + unitsAll (F.acts ++ [a]) ≤ (G.n + 1) * G.q
    have := hf.big
    rw [unitsAll_append, Nat.add_mul]
    simp only [unitsAll]
    omega
  · exact (hr f (heap_lt hf.box)).trans pf
  · have hj' : (ao.map Addr.block) = some j := hj
    show (if j < w.heap.size then G.role j else if j = g then ((9, f) : Nat × Nat) else if (ao.map Addr.block) = some j then (7, f) else (0, 0)) = _
    split
    · rename_i hlt
      rcases hn with e | ⟨j', e, hj2⟩
      · exact hf.pn j (e.symm.trans hj')
      · rw [e] at hj'; cases hj'; omega
    · split
      · rename_i h2; exact absurd (by rw [hj', h2]) hne
      · rfl
  · have hj' : (F.lo.map Addr.block) = some j := hj
    exact (hr j (row_lt hf.rl ((sliceBlock _ _ _).trans hj'))).trans (hf.pl j hj')
  · obtain rfl : g = j := by simpa using hj
    show (if g < w.heap.size then G.role g else if g = g then ((9, f) : Nat × Nat) else _) = _
    split
    · rcases hs with e | e
      · exact hf.ps g e
      · omega
    · rw [if_pos rfl]
  · rcases List.mem_append.1 hy with hy | hy
    · exact (hr _ (FA.held_lt (hf.held y hy))).trans (hf.pc y hy)
    · obtain rfl : y = a := by simpa using hy
      exact (hr _ (FA.held_lt hheld)).trans hc

end Go.Proofs.Ytdlaicbdconbcaa
