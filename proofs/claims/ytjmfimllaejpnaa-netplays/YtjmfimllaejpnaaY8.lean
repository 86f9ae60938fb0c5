/-
  The program's net and carillonref05's, beside one another, and a deed.
-/
import Derived.Test.YtjmfimllaejpnaaY7
namespace Go.Proofs.Ytjmfimllaejpnaa
open Go.RowKit Go.Maps

/-- A call of a Go function as one step of a region that draws its order, wanted or guarded; its answer lies in the slot d. -/
theorem step_fn_d {P : Program} {w : World} {ops : Array Oper} {o : Oper} {a : Act} {K : Act → World → Prop} {Q : Exit → Act → World → Prop} {E : Prop} (hw : Region.wanted o (yielded ops a.tmps) = true) (d : Nat) (hd : o.dst = some d) (k : Nat) (args : Array Operand) (ts : Array TypeId)
    (ho : o.op = .call { callee := .value (.func k), args := args, argTypes := ts }) (hk : ∀ args w, (callFunc k args).run P w = .ok (.enter k args) w) (vs : List Value) (hvs' : args.toList.map a.eval = vs) {R : Ending → World → Prop} (hc : Calls P k vs.toArray w R)
    (h : ∀ e w', R e w' → ∃ v, e = .returned v ∧ K (a.put (some d) v) w') :
    if Region.wanted o (yielded ops a.tmps) = true then Oper.wp P o a w K Q else E := by
  rw [if_pos hw]
  have hvs : args.map a.eval = vs.toArray := by rw [← hvs', ← Array.toList_map, Array.toArray_toList]
  unfold Oper.wp
  simp [execOp, ho, resolve, invoke, hvs, Act.eval, Deferred.ofValue, hk, Oper.upon]
  refine hc.mono ?_
  intro e w' hr
  obtain ⟨v, rfl, hv⟩ := h e w' hr
  rw [hd]
  exact hv
structure Both (W : World) (b yb n : Nat) (s : Int) (q : Qs) (Y : YG) (wv : World) : Prop where
  net : Nt (fun j => j < W.heap.size ∨ Y.own yb n j) wv b n s q
  ref : YR wv yb n s q Y
  far : ∀ j, Y.own yb n j → W.heap.size ≤ j
  below : Below W.heap.size W wv
abbrev FB (W : World) (yb n : Nat) (Y : YG) (D0 : Nat) (j : Nat) : Prop := j < W.heap.size ∨ Y.own yb n j ∨ j = D0
structure Two (W : World) (b yb n : Nat) (s : Int) (q : Qs) (s2 : Int) (q2 : Qs) (D0 : Nat) (o : Dd) (Y : YG) (wv : World) : Prop where
  net : Nt (FB W yb n Y D0) wv b n s q
  ref : YR wv yb n s2 q2 Y
  far : ∀ j, Y.own yb n j → W.heap.size ≤ j
  below : Below W.heap.size W wv
  deed : wv.heap[D0]? = some (.cells (deedC o) 32 (0, 0))
  dW : W.heap.size ≤ D0
  dY : ¬ Y.own yb n D0
section
variable {W wv w' : World} {b yb n : Nat} {s s2 : Int} {q q2 : Qs} {D0 : Nat} {o : Dd} {Y : YG}
theorem Both.deed (h : Both W b yb n s q Y wv) (o : Dd) : Two W b yb n s q s q wv.heap.size o Y (wv.alloc (.cells (deedC o) 32)) := by
  refine ⟨h.net.move (own := fun _ => False) ((Touch.refl _ wv).alloc _) (fun _ _ e => e.elim) (fun j e => ?_), h.ref.below ((Below.refl _ wv).alloc (Nat.le_refl _) _), h.far, h.below.alloc h.below.size _, heap_alloc_new wv _, h.below.size, fun e => ?_⟩
  · rcases e with e | e | e
    · exact .inl (.inl e)
    · exact .inl (.inr e)
    · exact .inr (by omega)
  · have := h.ref.lt e
    omega
theorem Two.fits (h : Two W b yb n s q s2 q2 D0 o Y wv) : ∀ j, FB W yb n Y D0 j → j < wv.heap.size := fun _ e => by
  have h1 := heap_lt h.deed
  have h2 := h.below.size
  rcases e with e | e | e
  · omega
  · exact h.ref.lt e
  · omega
theorem Two.prog {s' : Int} {q' : Qs} (h : Two W b yb n s q s2 q2 D0 o Y wv) (hn : Nt (FB W yb n Y D0) w' b n s' q') (ht : Touch (fun j => ¬ FB W yb n Y D0 j) wv w') : Two W b yb n s' q' s2 q2 D0 o Y w' :=
  ⟨hn, h.ref.keep ht fun _ hj e => e (.inr (.inl hj)), h.far, h.below.trans (ht.toBelow h.below.size fun _ hk e => e (.inl hk)), ht.at h.deed fun e => e (.inr (.inr rfl)), h.dW, h.dY⟩
theorem Two.refc {s' : Int} {q' : Qs} {Y' : YG} (h : Two W b yb n s q s2 q2 D0 o Y wv) (hr : YR w' yb n s' q' Y') (hs : YStep wv w' yb n Y Y') : Two W b yb n s q s' q' D0 o Y' w' := by
  have hsz := h.below.size
  refine ⟨h.net.move hs.touch (fun j _ e => .inr (.inl e)) (fun j e => ?_), hr, fun j hj => ?_, h.below.trans (hs.touch.toBelow hsz fun k hk e => ?_), hs.touch.at h.deed h.dY, h.dW, fun e => ?_⟩
  · rcases e with e | e | e
    · exact .inl (.inl e)
    · rcases hs.grew j e with e | e
      · exact .inl (.inr (.inl e))
      · exact .inr e
    · exact .inl (.inr (.inr e))
  · rcases hs.grew j hj with e | e
    · exact h.far j e
    · omega
  · have := h.far k e
    omega
  · rcases hs.grew D0 e with e | e
    · exact h.dY e
    · have := heap_lt h.deed
      omega
theorem Two.below2 (h : Two W b yb n s q s2 q2 D0 o Y wv) (hb : Below wv.heap.size wv w') : Two W b yb n s q s2 q2 D0 o Y w' :=
  ⟨h.net.move (own := fun _ => False) (Touch.of_below hb) (fun _ _ e => e.elim) (fun _ e => .inl e), h.ref.below hb, h.far, h.below.trans (hb.mono h.below.size), (Touch.of_below (own := fun _ => False) hb).at h.deed (fun e => e), h.dW, h.dY⟩
theorem Two.drew (h : Two W b yb n s q s2 q2 D0 o Y wv) : Two W b yb n s q s2 q2 D0 o Y wv.drew := h.below2 (Below.refl _ _).drew
theorem Two.back (h : Two W b yb n s q s q D0 o Y wv) : Both W b yb n s q Y wv :=
  ⟨h.net.move (own := fun _ => False) (Touch.refl _ wv) (fun _ _ e => e.elim) (fun _ e => .inl (e.elim (fun h => .inl h) fun h => .inr (.inl h))), h.ref, h.far, h.below⟩
theorem Two.cells (h : Two W b yb n s q s2 q2 D0 o Y wv) : wv.cell? ⟨D0, 0, none⟩ = some (.int .i64 o.kind) ∧ wv.cell? ⟨D0, 1, none⟩ = some (.int .i64 o.a) ∧ wv.cell? ⟨D0, 2, none⟩ = some (.int .i64 o.c) ∧ wv.cell? ⟨D0, 3, none⟩ = some (.int .i64 o.i) ∧ wv.cell? ⟨D0, 4, none⟩ = some (.string o.s) :=
  ⟨box_cell h.deed 0 rfl, box_cell h.deed 1 rfl, box_cell h.deed 2 rfl, box_cell h.deed 3 rfl, box_cell h.deed 4 rfl⟩
theorem psend (h : Two W b yb n s q s2 q2 D0 o Y wv) {x y : Int} (hx : In64 x) (hy : In64 y) (t : ByteArray) (ht : t.size ≤ 281474976710656) : Calls Try.prog 9 #[.pointer (some ⟨b, 0, none⟩), .int .i64 x, .int .i64 y, .string t] wv fun e w' => e = .returned (.bool (decide (roomQ n q x y))) ∧ Two W b yb n s (if roomQ n q x y then moreQ q x y t else q) s2 q2 D0 o Y w' :=
  (h.net.send h.fits hx hy t ht).mono fun _ _ ⟨he, h1, h2⟩ => ⟨he, h.prog h1 h2⟩
theorem ptake (h : Two W b yb n s q s2 q2 D0 o Y wv) {x y : Int} (hx : In64 x) (hy : In64 y) (i : Int) : Calls Try.prog 11 #[.pointer (some ⟨b, 0, none⟩), .int .i64 x, .int .i64 y, .int .i64 i] wv fun e w' => e = .returned (.tuple #[.string (if takesQ n s q x y i then msgQ q x y i else ⟨#[]⟩), .bool (decide (takesQ n s q x y i))]) ∧ Two W b yb n s (if takesQ n s q x y i then lessQ q x y i else q) s2 q2 D0 o Y w' :=
  (h.net.take h.fits hx hy i).mono fun _ _ ⟨he, h1, h2⟩ => ⟨he, h.prog h1 h2⟩
theorem pdrop (h : Two W b yb n s q s2 q2 D0 o Y wv) {x y : Int} (hx : In64 x) (hy : In64 y) (i : Int) : Calls Try.prog 13 #[.pointer (some ⟨b, 0, none⟩), .int .i64 x, .int .i64 y, .int .i64 i] wv fun e w' => e = .returned (.bool (decide (hasQ n q x y i))) ∧ Two W b yb n s (if hasQ n q x y i then lessQ q x y i else q) s2 q2 D0 o Y w' :=
  (h.net.drop h.fits hx hy i).mono fun _ _ ⟨he, h1, h2⟩ => ⟨he, h.prog h1 h2⟩
theorem pdouble (h : Two W b yb n s q s2 q2 D0 o Y wv) {x y : Int} (hx : In64 x) (hy : In64 y) (i : Int) : Calls Try.prog 15 #[.pointer (some ⟨b, 0, none⟩), .int .i64 x, .int .i64 y, .int .i64 i] wv fun e w' => e = .returned (.bool (decide (doublesQ n q x y i))) ∧ Two W b yb n s (if doublesQ n q x y i then moreQ q x y (msgQ q x y i) else q) s2 q2 D0 o Y w' :=
  (h.net.double h.fits hx hy i).mono fun _ _ ⟨he, h1, h2⟩ => ⟨he, h.prog h1 h2⟩
theorem pcut (h : Two W b yb n s q s2 q2 D0 o Y wv) (i : Int) (hi : In64 i) : Calls Try.prog 17 #[.pointer (some ⟨b, 0, none⟩), .int .i64 i] wv fun e w' => e = .returned (.tuple #[]) ∧ Two W b yb n (max i 0) q s2 q2 D0 o Y w' :=
  (h.net.cut h.fits i hi).mono fun _ _ ⟨he, h1, h2⟩ => ⟨he, h.prog h1 h2⟩
theorem pclear (h : Two W b yb n s q s2 q2 D0 o Y wv) (node : Int) : Calls Try.prog 19 #[.pointer (some ⟨b, 0, none⟩), .int .i64 node] wv fun e w' => e = .returned (.tuple #[]) ∧ Two W b yb n s (clearAll n q node) s2 q2 D0 o Y w' :=
  (h.net.clear h.fits node).mono fun _ _ ⟨he, h1, h2⟩ => ⟨he, h.prog h1 h2⟩
theorem rsend (h : Two W b yb n s q s2 q2 D0 o Y wv) (x y : Int) (t : ByteArray) : Calls Try.prog 10 #[.pointer (some ⟨yb, 0, none⟩), .int .i64 x, .int .i64 y, .string t] wv fun e w' => e = .returned (.bool (decide (roomQ n q2 x y))) ∧ ∃ Y', Two W b yb n s q s2 (if roomQ n q2 x y then moreQ q2 x y t else q2) D0 o Y' w' :=
  (ysend_any h.ref x y t).mono fun _ _ ⟨he, Y', h1, h2⟩ => ⟨he, Y', h.refc h1 h2⟩
theorem rtake (h : Two W b yb n s q s2 q2 D0 o Y wv) (x y i : Int) : Calls Try.prog 12 #[.pointer (some ⟨yb, 0, none⟩), .int .i64 x, .int .i64 y, .int .i64 i] wv fun e w' => e = .returned (.tuple #[.string (if takesQ n s2 q2 x y i then msgQ q2 x y i else ⟨#[]⟩), .bool (decide (takesQ n s2 q2 x y i))]) ∧ ∃ Y', Two W b yb n s q s2 (if takesQ n s2 q2 x y i then lessQ q2 x y i else q2) D0 o Y' w' :=
  (ytake_any h.ref x y i).mono fun _ _ ⟨he, Y', h1, h2⟩ => ⟨he, Y', h.refc h1 h2⟩
theorem rdrop (h : Two W b yb n s q s2 q2 D0 o Y wv) (x y i : Int) : Calls Try.prog 14 #[.pointer (some ⟨yb, 0, none⟩), .int .i64 x, .int .i64 y, .int .i64 i] wv fun e w' => e = .returned (.bool (decide (hasQ n q2 x y i))) ∧ ∃ Y', Two W b yb n s q s2 (if hasQ n q2 x y i then lessQ q2 x y i else q2) D0 o Y' w' :=
  (ydrop_any h.ref x y i).mono fun _ _ ⟨he, Y', h1, h2⟩ => ⟨he, Y', h.refc h1 h2⟩
theorem rdouble (h : Two W b yb n s q s2 q2 D0 o Y wv) (x y i : Int) : Calls Try.prog 16 #[.pointer (some ⟨yb, 0, none⟩), .int .i64 x, .int .i64 y, .int .i64 i] wv fun e w' => e = .returned (.bool (decide (doublesQ n q2 x y i))) ∧ ∃ Y', Two W b yb n s q s2 (if doublesQ n q2 x y i then moreQ q2 x y (msgQ q2 x y i) else q2) D0 o Y' w' :=
  (ydouble_any h.ref x y i).mono fun _ _ ⟨he, Y', h1, h2⟩ => ⟨he, Y', h.refc h1 h2⟩
theorem rcut (h : Two W b yb n s q s2 q2 D0 o Y wv) (i : Int) (hi : In64 i) : Calls Try.prog 18 #[.pointer (some ⟨yb, 0, none⟩), .int .i64 i] wv fun e w' => e = .returned (.tuple #[]) ∧ Two W b yb n s q (max i 0) q2 D0 o Y w' :=
  (ycut_any h.ref i hi).mono fun _ _ ⟨he, h1, h2⟩ => ⟨he, h.refc h1 ⟨h2, fun _ e => .inl e⟩⟩
theorem rclear (h : Two W b yb n s q s2 q2 D0 o Y wv) (node : Int) : Calls Try.prog 20 #[.pointer (some ⟨yb, 0, none⟩), .int .i64 node] wv fun e w' => e = .returned (.tuple #[]) ∧ ∃ Y', Two W b yb n s q s2 (clearAll n q2 node) D0 o Y' w' :=
  (yclear_any h.ref node).mono fun _ _ ⟨he, Y', h1, h2⟩ => ⟨he, Y', h.refc h1 h2⟩
theorem plen2 (h : Two W b yb n s q s2 q2 D0 o Y wv) {x y : Int} (hx : In64 x) (hy : In64 y) : Calls Try.prog 23 #[.pointer (some ⟨b, 0, none⟩), .int .i64 x, .int .i64 y] wv fun e w' => e = .returned (.int .i64 (lenQ n q x y)) ∧ w' = wv := h.net.len hx hy
theorem rlen2 (h : Two W b yb n s q s2 q2 D0 o Y wv) (x y : Int) : Calls Try.prog 24 #[.pointer (some ⟨yb, 0, none⟩), .int .i64 x, .int .i64 y] wv fun e w' => e = .returned (.int .i64 (lenQ n q2 x y)) ∧ w' = wv := ylen_any h.ref x y
theorem pjoined (h : Two W b yb n s q s2 q2 D0 o Y wv) (x y : Int) : Calls Try.prog 21 #[.pointer (some ⟨b, 0, none⟩), .int .i64 x, .int .i64 y] wv fun e w' => e = .returned (.bool (decide (joined n s x y))) ∧ Below wv.heap.size wv w' :=
  (h.net.joined x y).mono fun _ _ ⟨he, hw⟩ => ⟨he, by rw [hw]; exact Below.refl _ _⟩
theorem rjoined (h : Two W b yb n s q s2 q2 D0 o Y wv) (x y : Int) : Calls Try.prog 22 #[.pointer (some ⟨yb, 0, none⟩), .int .i64 x, .int .i64 y] wv fun e w' => e = .returned (.bool (decide (joined n s2 x y))) ∧ Below wv.heap.size wv w' :=
  (yjoined_any h.ref x y).mono fun _ _ ⟨he, k, hw⟩ => ⟨he, by rw [hw]; exact below_drewN (Below.refl _ _) k⟩
theorem plen (h : Two W b yb n s q s2 q2 D0 o Y wv) {x y : Int} (hx : In64 x) (hy : In64 y) : Calls Try.prog 23 #[.pointer (some ⟨b, 0, none⟩), .int .i64 x, .int .i64 y] wv fun e w' => e = .returned (.int .i64 (lenQ n q x y)) ∧ Below wv.heap.size wv w' :=
  (h.net.len hx hy).mono fun _ _ ⟨he, hw⟩ => ⟨he, by rw [hw]; exact Below.refl _ _⟩
theorem rlen (h : Two W b yb n s q s2 q2 D0 o Y wv) (x y : Int) : Calls Try.prog 24 #[.pointer (some ⟨yb, 0, none⟩), .int .i64 x, .int .i64 y] wv fun e w' => e = .returned (.int .i64 (lenQ n q2 x y)) ∧ Below wv.heap.size wv w' :=
  (ylen_any h.ref x y).mono fun _ _ ⟨he, hw⟩ => ⟨he, by rw [hw]; exact Below.refl _ _⟩
end
end Go.Proofs.Ytjmfimllaejpnaa
