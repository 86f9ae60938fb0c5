/-
  What becomes of a disk in memory: a Sync, a file's crash, a DirSync, the names' crash.
-/
import Derived.Test.YtdlaicbdconbcaaR3
namespace Go.Proofs.Ytdlaicbdconbcaa
open Go.RowKit Go.Maps

/-- A file whose bytes that last are written anew, and with it perhaps those now; no act is left. -/
theorem Rep.settled {w w' : World} {b f : Nat} {G : DG} {F : FG} (h : Rep w b G) (hF : G.file f = some F) (L : List UInt8) (bo : Option Addr) (bp : Nat) (ao : Option Addr) (cp : Nat) (hL : L.length ≤ F.last.length + unitsAll F.acts)
    (hbox : w'.heap[f]? = some (.cells #[.slice bo L.length bp, .slice ao L.length cp, .slice none 0 0] 74 (0, 0)))
    (hrn : w'.ownsRow 0 5 1 (.slice bo L.length bp) L.length (bytesC L)) (hrl : w'.ownsRow 0 5 1 (.slice ao L.length cp) L.length (bytesC L))
    (hb : (bo.map Addr.block) = (F.no.map Addr.block) ∨ ∀ j, (bo.map Addr.block) = some j → w.heap.size ≤ j) (ha : (ao.map Addr.block) = (F.lo.map Addr.block) ∨ ∃ j, (ao.map Addr.block) = some j ∧ w.heap.size ≤ j) (hne : ∀ j, (bo.map Addr.block) = some j → (ao.map Addr.block) ≠ some j)
    (ht : Touch (fun j => j = f ∨ (F.lo.map Addr.block) = some j) w w') :
    Step w b G w' { G with file := fun j => if j = f then some { F with no := bo, nc := bp, lo := ao, lc := cp, so := none, sc := 0, now := L, last := L, acts := [] } else G.file j, role := fun j => if j < w.heap.size then G.role j else if (ao.map Addr.block) = some j then (8, f) else if (bo.map Addr.block) = some j then (7, f) else (0, 0) } := by
  have hf := h.files f F hF
  have pf := hf.pf
  have ho : ∀ j, (j = f ∨ (F.lo.map Addr.block) = some j) → j = f ∨ G.role j = (7, f) ∨ G.role j = (8, f) ∨ G.role j = (9, f) := by
    intro j hj
    rcases hj with e | e
    · exact .inl e
    · exact .inr (.inr (.inl (hf.pl j e)))
  have hr : ∀ j, j < w.heap.size → (if j < w.heap.size then G.role j else if (ao.map Addr.block) = some j then ((8, f) : Nat × Nat) else if (bo.map Addr.block) = some j then (7, f) else (0, 0)) = G.role j := fun j hj => if_pos hj
  refine h.setFile hF ht ho hr (fun j hj => ?_) (Nat.le_refl _) ⟨hbox, hrn, hrl, World.ownsRow_nil _ _ _ _, (fun a ha => by simp at ha), rfl, trivial, Nat.zero_le _, ?_, (hr f (heap_lt hf.box)).trans pf, fun j hj => ?_, fun j hj => ?_, (fun j hj => by simp at hj), fun a ha => by simp at ha⟩
  · by_cases hj' : j < w.heap.size
    · exact Nat.lt_of_lt_of_le hj' ht.size
    · simp only [if_neg hj'] at hj
      by_cases e : (ao.map Addr.block) = some j
      · exact row_lt hrl ((sliceBlock _ _ _).trans e)
      · rw [if_neg e] at hj
        by_cases e2 : (bo.map Addr.block) = some j
        · exact row_lt hrn ((sliceBlock _ _ _).trans e2)
        · rw [if_neg e2] at hj; exact absurd rfl hj
  · show L.length + 0 ≤ G.n * G.q
    have := hf.big
    omega
  · have hj' : (bo.map Addr.block) = some j := hj
    show (if j < w.heap.size then G.role j else if (ao.map Addr.block) = some j then ((8, f) : Nat × Nat) else if (bo.map Addr.block) = some j then (7, f) else (0, 0)) = _
    split
    · rcases hb with e | e
      · exact hf.pn j (e.symm.trans hj')
      · have := e j hj'; omega
    · split
      · rename_i h2; exact absurd h2 (hne j hj')
      · rfl
  · have hj' : (ao.map Addr.block) = some j := hj
    show (if j < w.heap.size then G.role j else if (ao.map Addr.block) = some j then ((8, f) : Nat × Nat) else if (bo.map Addr.block) = some j then (7, f) else (0, 0)) = _
    split
    · rcases ha with e | ⟨j', e, hj2⟩
      · exact hf.pl j (e.symm.trans hj')
      · rw [e] at hj'; cases hj'; omega
    · rfl

/-- The names are those that last; no act is left; they may lie in another map. -/
theorem Rep.dsettled {w w' : World} {b : Nat} {G : DG} (h : Rep w b G) (D' : DataW Nat) (nb : Nat) (hsz : Maps.size D' ≤ G.n)
    (hbox : w'.heap[b]? = some (.cells #[.int .i64 G.room, .int .i64 G.fuse, .bool G.down, .map (some nb), .map (some G.lb), .slice none 0 0] 56 (0, 0)))
    (hnow : ∃ m, w'.ownsMap Try.prog 9 ptrR nb m D') (hlast : ∃ m, w'.ownsMap Try.prog 9 ptrR G.lb m D') (hnb : nb = G.nb ∨ w.heap.size ≤ nb) (hk : ∀ k f, dget D' k = some f → G.file f ≠ none ∧ 1 ≤ k.length ∧ k.length ≤ 40)
    (hfu : Full D') (ht : Touch (fun j => j = b ∨ j = G.lb) w w') :
    Step w b G w' { G with D := D', LD := D', X := [], so := none, sc := 0, nb := nb, role := fun j => if j < w.heap.size then G.role j else if j = nb then (2, 0) else (0, 0) } := by
  obtain ⟨m1, hnow⟩ := hnow
  obtain ⟨m2, hlast⟩ := hlast
  have ho : ∀ j, (j = b ∨ j = G.lb) → G.role j = (1, 0) ∨ G.role j = (2, 0) ∨ G.role j = (3, 0) ∨ G.role j = (4, 0) := by
    intro j hj
    rcases hj with e | e
    · exact .inl (e ▸ h.pb)
    · exact .inr (.inr (.inl (e ▸ h.pl)))
  have hr : ∀ j, j < w.heap.size → (if j < w.heap.size then G.role j else if j = nb then ((2, 0) : Nat × Nat) else (0, 0)) = G.role j := fun j hj => if_pos hj
  have rk : ∀ {j : Nat} {c : Nat × Nat}, G.role j = c → c ≠ (0, 0) → (if j < w.heap.size then G.role j else if j = nb then ((2, 0) : Nat × Nat) else (0, 0)) = c := fun hj hc => (hr _ (h.lt _ (by rw [hj]; exact hc))).trans hj
  refine ⟨⟨hbox, owns_bound hnow hsz, owns_bound hlast hsz, World.ownsRow_nil _ _ _ _, (fun x hx => by simp at hx), trivial, rfl, ?_, h.filesKeep ht ho hr (Nat.le_refl _), hk, (fun x hx => by simp at hx), rk h.pb (by decide), ?_, rk h.pl (by decide), (fun j hj => by simp at hj), (fun x hx => by simp at hx), fun j hj => ?_, h.hroom, h.hfuse, h.hq, hfu⟩, ht.mono (fun j _ e => ?_), fun j e => ?_⟩
  · show Maps.size D' + 0 ≤ G.n
    omega
  · show (if nb < w.heap.size then G.role nb else if nb = nb then ((2, 0) : Nat × Nat) else (0, 0)) = _
    split
    · rcases hnb with e | e
      · rw [e]; exact h.pn
      · omega
    · rw [if_pos rfl]
  · by_cases hj' : j < w.heap.size
    · exact Nat.lt_of_lt_of_le hj' ht.size
    · simp only [if_neg hj'] at hj
      by_cases e : j = nb
      · rw [e]; exact hnow.lt
      · rw [if_neg e] at hj; exact absurd rfl hj
  · show G.role j ≠ _
    rcases ho j e with e1 | e1 | e1 | e1 <;> rw [e1] <;> decide
  · by_cases hj : j < w.heap.size
    · left
      show G.role j ≠ _
      rw [← hr j hj]
      exact e
    · exact .inr (by omega)
/-- What settle of the directory asks for. -/
theorem Rep.dAt {w : World} {b : Nat} {G : DG} (h : Rep w b G) (hn : G.n < 1000000) : DAt b G.nb G.lb G.n (.int .i64 G.room) (.int .i64 G.fuse) (.bool G.down) G.so G.sc G.LD G.X w := by
  have hf := h.few
  refine ⟨h.box, h.row, by omega, hn, h.last, h.held, h.fit, fun e => ?_, fun e => ?_, fun e => ?_, fun x hx => ⟨fun e => ?_, fun e => ?_⟩⟩
  · have := h.pb; rw [← e, h.pl] at this; cases this
  · have := h.ps _ ((sliceBlock _ _ _).symm.trans e); rw [h.pl] at this; cases this
  · have := h.ps _ ((sliceBlock _ _ _).symm.trans e); rw [h.pb] at this; cases this
  · have := (h.pc x hx).1; rw [e, h.pl] at this; cases this
  · have := (h.pc x hx).2; rw [e, h.pl] at this; cases this

end Go.Proofs.Ytdlaicbdconbcaa
