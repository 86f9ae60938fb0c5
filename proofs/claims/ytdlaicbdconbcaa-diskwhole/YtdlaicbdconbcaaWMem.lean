/-
  DiskWhole's two lists in memory, beside the disk.
-/
import Derived.Test.YtdlaicbdconbcaaWhole1
namespace Go.Proofs.Ytdlaicbdconbcaa
open Go.RowKit Go.Maps Go.Sort

theorem WRel.move {w w2 : World} {b : Nat} {G : DG} {N B : List (List UInt8)} {i : Nat} (h : WRel w b G N B i) (r : Rep w2 b G) : WRel w2 b G N B i :=
  ⟨r, h.len, h.nodup, h.hit, h.miss, h.inj, h.down, h.fuse, h.room, h.q, h.n, h.few⟩
/-- The disk, the names, the bytes: each in blocks of its own, none older than w. -/
structure WMem (w wv : World) (b : Nat) (G : DG) (N B : List (List UInt8)) (no : Option Addr) (nc : Nat) (bo : Option Addr) (bc : Nat) : Prop where
  rep : Rep wv b G
  rn : wv.ownsRow w.heap.size 9 1 (.slice no N.length nc) N.length (N.map encStr)
  rb : wv.ownsRow w.heap.size 9 1 (.slice bo B.length bc) B.length (B.map encStr)
  below : RowKit.Below w.heap.size w wv
  own : ∀ j, G.own j → w.heap.size ≤ j
  dn : ∀ j, no.map Addr.block = some j → G.role j = (0, 0)
  db : ∀ j, bo.map Addr.block = some j → G.role j = (0, 0)
  nb : ∀ j, no.map Addr.block = some j → bo.map Addr.block ≠ some j
variable {w wv w2 : World} {b : Nat} {G G' : DG} {N B N' B' : List (List UInt8)} {no bo no' bo' : Option Addr} {nc bc nc' bc' : Nat}
theorem str_row_lt {base : Nat} {ao : Option Addr} {n c : Nat} {xs : List Value} (h : w.ownsRow base 9 1 (.slice ao n c) n xs) (j : Nat) (e : ao.map Addr.block = some j) : base ≤ j ∧ j < w.heap.size :=
  h.lt j (by rw [sliceBlock]; exact e)
theorem WMem.start (hr : Rep wv b G) (hb : RowKit.Below w.heap.size w wv) (ho : ∀ j, G.own j → w.heap.size ≤ j) (h1 : wv.ownsRow w.heap.size 9 1 (.slice none 0 0) 0 []) : WMem w wv b G [] [] none 0 none 0 :=
  ⟨hr, h1, h1, hb, ho, (fun j e => by cases e), (fun j e => by cases e), (fun j e => by cases e)⟩
theorem WMem.past (h : WMem w wv b G N B no nc bo bc) (hb : RowKit.Below wv.heap.size wv w2) : WMem w w2 b G N B no nc bo bc :=
  ⟨h.rep.below hb, below_row hb h.rn, below_row hb h.rb, h.below.trans (hb.mono h.below.size), h.own, h.dn, h.db, h.nb⟩
theorem WMem.step (h : WMem w wv b G N B no nc bo bc) (s : Step wv b G w2 G') : WMem w w2 b G' N B no nc bo bc := by
  have fresh : ∀ j, G.role j = (0, 0) → j < wv.heap.size → G'.role j = (0, 0) := fun j e hj => Classical.byContradiction fun e1 => by
    rcases s.grow j e1 with e2 | e2
    · exact e2 e
    · omega
  refine ⟨s.rep, s.touch.row h.rn fun j hj e => e (h.dn j (by rw [sliceBlock] at hj; exact hj)), s.touch.row h.rb fun j hj e => e (h.db j (by rw [sliceBlock] at hj; exact hj)), (Step.old h.below h.own s).1, (Step.old h.below h.own s).2, fun j e => fresh j (h.dn j e) (str_row_lt h.rn j e).2, fun j e => fresh j (h.db j e) (str_row_lt h.rb j e).2, h.nb⟩
/-- The names changed: in their own block, or in a new one. -/
theorem WMem.names {own : Nat → Prop} (h : WMem w wv b G N B no nc bo bc) (ht : Touch own wv w2) (ho : ∀ j, own j → no.map Addr.block = some j)
    (hr : w2.ownsRow w.heap.size 9 1 (.slice no' N'.length nc') N'.length (N'.map encStr)) (hl : no'.map Addr.block = no.map Addr.block ∨ ∃ j, no'.map Addr.block = some j ∧ wv.heap.size ≤ j) : WMem w w2 b G N' B no' nc' bo bc := by
  refine ⟨h.rep.keep ht fun j e => h.dn j (ho j e), hr, ht.row h.rb fun j hj e => h.nb j (ho j e) (by rw [sliceBlock] at hj; exact hj), h.below.trans (ht.toBelow h.below.size fun j hj e => by have := (str_row_lt h.rn j (ho j e)).1; omega), h.own, fun j e => ?_, h.db, fun j e e1 => ?_⟩
  · rcases hl with e2 | ⟨j', e2, hj⟩
    · exact h.dn j (e2 ▸ e)
    · rw [e2] at e
      cases e
      exact fresh_role h.rep _ hj
  · rcases hl with e2 | ⟨j', e2, hj⟩
    · exact h.nb j (e2 ▸ e) e1
    · rw [e2] at e
      cases e
      have := (str_row_lt h.rb _ e1).2
      omega
/-- The bytes changed. -/
theorem WMem.bytes {own : Nat → Prop} (h : WMem w wv b G N B no nc bo bc) (ht : Touch own wv w2) (ho : ∀ j, own j → bo.map Addr.block = some j)
    (hr : w2.ownsRow w.heap.size 9 1 (.slice bo' B'.length bc') B'.length (B'.map encStr)) (hl : bo'.map Addr.block = bo.map Addr.block ∨ ∃ j, bo'.map Addr.block = some j ∧ wv.heap.size ≤ j) : WMem w w2 b G N B' no nc bo' bc' := by
  refine ⟨h.rep.keep ht fun j e => h.db j (ho j e), ht.row h.rn fun j hj e => h.nb j (by rw [sliceBlock] at hj; exact hj) (ho j e), hr, h.below.trans (ht.toBelow h.below.size fun j hj e => by have := (str_row_lt h.rb j (ho j e)).1; omega), h.own, h.dn, fun j e => ?_, fun j e e1 => ?_⟩
  · rcases hl with e2 | ⟨j', e2, hj⟩
    · exact h.db j (e2 ▸ e)
    · rw [e2] at e
      cases e
      exact fresh_role h.rep _ hj
  · rcases hl with e2 | ⟨j', e2, hj⟩
    · exact h.nb j e (e2 ▸ e1)
    · rw [e2] at e1
      cases e1
      have := (str_row_lt h.rn _ e).2
      omega
/-- One place of the bytes is stored. -/
theorem WMem.put (h : WMem w wv b G N B no nc bo bc) {m g : Nat} (y : List UInt8) (hbo : bo = some ⟨g, 0, none⟩) : WMem w (wv.setCell ⟨g, m, none⟩ (encStr y)) b G N (B.set m y) no nc bo bc := by
  subst hbo
  refine h.bytes (own := fun j => j = g) ((Touch.refl _ wv).setCell _ _ fun _ => rfl) (fun j e => by rw [e]; rfl) ?_ (.inl rfl)
  have := row_store h.rb m (encStr y)
  rw [← List.map_set] at this
  rw [List.length_set]
  exact this
theorem WMem.textsN (h : WMem w wv b G N B no nc bo bc) : TextsAt wv no N := texts_row rfl h.rn
theorem WMem.textsB (h : WMem w wv b G N B no nc bo bc) : TextsAt wv bo B := texts_row rfl h.rb
end Go.Proofs.Ytdlaicbdconbcaa
