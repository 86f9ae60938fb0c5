/-
  The order and the law's own log, beside each other.
-/
import Derived.Test.YtjgbgbgajadgnaaZPF
import Derived.Test.YtjgbgbgajadgnaaZTK
namespace Go.Proofs.Ytjgbgbgajadgnaa
open Go.RowKit

set_option linter.unusedSimpArgs false
set_option linter.unusedVariables false
theorem RA.keep {w w' : World} {R : RL} {o : OS} {own : Nat → Prop} (h : RA w R o) (ht : Touch own w w') (hn : ∀ j, R.all j → ¬ own j) : RA w' R o := by
  obtain ⟨base, has, h1, h2⟩ := h.ex
  exact ⟨⟨base, has, h1.keep ht hn, h2⟩⟩
theorem RA.below {w w' : World} {R : RL} {o : OS} (h : RA w R o) (hb : Below w.heap.size w w') : RA w' R o := h.keep (own := fun _ => False) (Touch.of_below hb) fun _ _ e => e
theorem RA.lt {w : World} {R : RL} {o : OS} (h : RA w R o) {j : Nat} (hj : R.all j) : j < w.heap.size := by
  obtain ⟨base, has, h1, _⟩ := h.ex
  exact h1.lt hj
theorem RA.c2 {w : World} {R : RL} {o : OS} (h : RA w R o) : w.cell? ⟨R.b, 2, none⟩ = some (.slice R.lo o.log.length R.lc) := by
  obtain ⟨base, has, h1, _⟩ := h.ex
  exact h1.cells.c2
theorem RA.c3 {w : World} {R : RL} {o : OS} (h : RA w R o) : w.cell? ⟨R.b, 3, none⟩ = some (.int .i64 o.sure) := by
  obtain ⟨base, has, h1, _⟩ := h.ex
  exact h1.cells.c3
theorem RA.texts {w : World} {R : RL} {o : OS} (h : RA w R o) : TextsAt w R.lo o.log := by
  obtain ⟨base, has, h1, _⟩ := h.ex
  exact h1.texts
theorem RA.bytes {w : World} {R : RL} {o : OS} (h : RA w R o) (hk : o.Ok) (hl : o.log.length ≤ 17592186044416) : Calls Try.prog 27 #[.pointer (some ⟨R.b, 0, none⟩)] w fun e w' => e = .returned (.int .i64 o.bytes) ∧ w' = w := by
  obtain ⟨base, has, h1, h2⟩ := h.ex
  rw [h2.bytes]
  exact rbytes h1 hk hl
theorem RA.first {w : World} {R : RL} {o : OS} (h : RA w R o) (hk : o.Ok) : Calls Try.prog 11 #[.pointer (some ⟨R.b, 0, none⟩)] w fun e w' => e = .returned (.bool o.first) ∧ Below w.heap.size w w' := by
  obtain ⟨base, has, h1, h2⟩ := h.ex
  exact rfirst h1 hk
/-- Between deeds. -/
structure PI (w wv : World) (L : OL) (o : OS) (R : RL) : Prop where
  grp : Group w wv R.all [(L, o)]
  ref : RA wv R o
  new : ∀ j, R.all j → w.heap.size ≤ j
theorem PI.further {w wv w' : World} {L : OL} {o : OS} {R : RL} (h : PI w wv L o R) (hb : Below wv.heap.size wv w') : PI w w' L o R := ⟨h.grp.further hb, h.ref.below hb, h.new⟩
/-- In a deed: o, and p of the law's own; cb: the deed's box. -/
structure PJ (w wv : World) (L : OL) (o : OS) (R : RL) (p : OS) (cb : Nat) (cs : Array Value) : Prop where
  grp : Group w wv (fun j => R.all j ∨ j = cb) [(L, o)]
  ref : RA wv R p
  new : ∀ j, R.all j → w.heap.size ≤ j
  box : wv.heap[cb]? = some (.cells cs 33 (0, 0))
  apart : ¬ R.all cb
theorem PI.toJ {w wv : World} {L : OL} {o : OS} {R : RL} (h : PI w wv L o R) (cs : Array Value) : PJ w (wv.alloc (.cells cs 33)) L o R o wv.heap.size cs := by
  have hb : Below wv.heap.size wv (wv.alloc (.cells cs 33)) := (Below.refl _ _).alloc (Nat.le_refl _) _
  have h2 := h.further hb
  refine ⟨h2.grp.reX (fun i hi j hj hx => ?_) (fun j hx => ?_), h2.ref, h.new, heap_alloc_new wv _, fun e => Nat.lt_irrefl _ (h.ref.lt e)⟩
  · rcases hx with hx | rfl
    · exact h2.grp.xa i hi j hj hx
    · exact Nat.lt_irrefl _ ((h.grp.each i hi).lt hj)
  · rcases hx with hx | rfl
    · exact h2.ref.lt hx
    · exact heap_lt (heap_alloc_new wv (.cells cs 33 (0, 0)))
theorem PJ.toI {w wv : World} {L : OL} {o : OS} {R : RL} {cb : Nat} {cs : Array Value} (h : PJ w wv L o R o cb cs) : PI w wv L o R :=
  ⟨h.grp.reX (fun i hi j hj hx => h.grp.xa i hi j hj (.inl hx)) (fun j hx => h.ref.lt hx), h.ref, h.new⟩
theorem PJ.further {w wv w' : World} {L : OL} {o p : OS} {R : RL} {cb : Nat} {cs : Array Value} (h : PJ w wv L o R p cb cs) (hb : Below wv.heap.size wv w') : PJ w w' L o R p cb cs :=
  ⟨h.grp.further hb, h.ref.below hb, h.new, (Touch.of_below (own := fun _ => False) hb).at h.box fun e => e, h.apart⟩
theorem PJ.prog {w wv w' : World} {L : OL} {o o' p : OS} {R : RL} {cb : Nat} {cs : Array Value} (h : PJ w wv L o R p cb cs) (hr : ∃ L', L'.b = L.b ∧ Group w w' (fun j => R.all j ∨ j = cb) ([(L, o)].set 0 (L', o')) ∧ Touch (fun j => ¬ (R.all j ∨ j = cb)) wv w') : ∃ L', L'.b = L.b ∧ PJ w w' L' o' R p cb cs := by
  obtain ⟨L', h1, h2, h3⟩ := hr
  exact ⟨L', h1, h2, h.ref.keep h3 fun j hj hn => hn (.inl hj), h.new, h3.at h.box fun hn => hn (.inr rfl), h.apart⟩
theorem PJ.refs {w wv w' : World} {L : OL} {o p p' : OS} {R : RL} {cb : Nat} {cs : Array Value} (h : PJ w wv L o R p cb cs) (hr : ∃ R', RA w' R' p' ∧ RStep wv w' R R') : ∃ R', R'.b = R.b ∧ PJ w w' L o R' p' cb cs := by
  obtain ⟨R', h1, h2⟩ := hr
  have hcb := heap_lt h.box
  have hsz := h2.touch.size
  have hbw := h.grp.below.size
  refine ⟨R', h2.b, h.grp.wrote h2.touch (fun j _ hj => ⟨.inl hj, h.new j hj⟩) (fun j hj => ?_) (fun j hj => ?_), h1, fun j hj => ?_, h2.touch.at h.box h.apart, fun e => ?_⟩
  · rcases hj with hj | rfl
    · exact (h2.all j hj).imp .inl id
    · exact .inl (.inr rfl)
  · rcases hj with hj | rfl
    · exact h1.lt hj
    · omega
  · rcases h2.all j hj with e | e
    · exact h.new j e
    · omega
  · rcases h2.all cb e with e | e
    · exact h.apart e
    · omega
section
variable {w wv : World} {L : OL} {o p : OS} {R : RL} {cb : Nat} {cs : Array Value}
theorem jpropose (h : PJ w wv L o R p cb cs) (hf : o.Fine) (s : ByteArray) (hs : s.size ≤ 140737488351232) (hl : o.log.length < 8796093022208) :
    Calls Try.prog 13 #[.pointer (some ⟨L.b, 0, none⟩), .string s] wv fun e w' => e = .returned (.tuple #[.int .i64 (o.propose s).2.1, .int .i64 (o.propose s).2.2]) ∧ ∃ L', L'.b = L.b ∧ PJ w w' L' (o.propose s).1 R p cb cs :=
  (gpropose h.grp (i := 0) (by simp) rfl hf.ok s hs hl).mono fun _ _ ⟨a, b⟩ => ⟨a, h.prog b⟩
theorem jadd (h : PJ w wv L o R p cb cs) (hf : o.Fine) (n : Int) (s : ByteArray) (hs : s.size ≤ 140737488351232) (hl : o.log.length < 8796093022208) :
    Calls Try.prog 15 #[.pointer (some ⟨L.b, 0, none⟩), .int .i64 n, .string s] wv fun e w' => e = .returned (.bool (o.add n s).2) ∧ ∃ L', L'.b = L.b ∧ PJ w w' L' (o.add n s).1 R p cb cs :=
  (gadd h.grp (i := 0) (by simp) rfl hf.ok n s hs hl).mono fun _ _ ⟨a, b⟩ => ⟨a, h.prog b⟩
theorem jhas (h : PJ w wv L o R p cb cs) (hf : o.Fine) (node n : Int) (hl : o.log.length < 8796093022208) :
    Calls Try.prog 17 #[.pointer (some ⟨L.b, 0, none⟩), .int .i64 node, .int .i64 n] wv fun e w' => e = .returned (.bool (o.has node n).2) ∧ ∃ L', L'.b = L.b ∧ PJ w w' L' (o.has node n).1 R p cb cs :=
  (ghas h.grp (i := 0) (by simp) rfl hf.ok node n (by omega)).mono fun _ _ ⟨a, b⟩ => ⟨a, h.prog b⟩
theorem jlearn (h : PJ w wv L o R p cb cs) (hf : o.Fine) (n : Int) (hn1 : -9223372036854775808 ≤ n) (hn2 : n ≤ 9223372036854775807) (hl : o.log.length < 8796093022208) :
    Calls Try.prog 19 #[.pointer (some ⟨L.b, 0, none⟩), .int .i64 n] wv fun e w' => e = .returned (.bool (o.learn n).2) ∧ ∃ L', L'.b = L.b ∧ PJ w w' L' (o.learn n).1 R p cb cs :=
  (glearn h.grp (i := 0) (by simp) rfl hf.ok n hn1 hn2 (by omega)).mono fun _ _ ⟨a, b⟩ => ⟨a, h.prog b⟩
theorem krpropose (h : PJ w wv L o R p cb cs) (hf : p.Fine) (s : ByteArray) (hs : s.size ≤ 140737488351232) (hl : p.log.length < 8796093022208) :
    Calls Try.prog 14 #[.pointer (some ⟨R.b, 0, none⟩), .string s] wv fun e w' => e = .returned (.tuple #[.int .i64 (p.propose s).2.1, .int .i64 (p.propose s).2.2]) ∧ ∃ R', R'.b = R.b ∧ PJ w w' L o R' (p.propose s).1 cb cs :=
  (rpropose h.ref hf s hs hl).mono fun _ _ ⟨a, b⟩ => ⟨a, h.refs b⟩
theorem kradd (h : PJ w wv L o R p cb cs) (hf : p.Fine) (n : Int) (s : ByteArray) (hs : s.size ≤ 140737488351232) (hl : p.log.length < 8796093022208) :
    Calls Try.prog 16 #[.pointer (some ⟨R.b, 0, none⟩), .int .i64 n, .string s] wv fun e w' => e = .returned (.bool (p.add n s).2) ∧ ∃ R', R'.b = R.b ∧ PJ w w' L o R' (p.add n s).1 cb cs :=
  (radd h.ref hf n s hs hl).mono fun _ _ ⟨a, b⟩ => ⟨a, h.refs b⟩
theorem krhas (h : PJ w wv L o R p cb cs) (hf : p.Fine) (node n : Int) (hl : p.log.length < 8796093022208) :
    Calls Try.prog 18 #[.pointer (some ⟨R.b, 0, none⟩), .int .i64 node, .int .i64 n] wv fun e w' => e = .returned (.bool (p.has node n).2) ∧ ∃ R', R'.b = R.b ∧ PJ w w' L o R' (p.has node n).1 cb cs :=
  (rhas h.ref hf node n (by omega)).mono fun _ _ ⟨a, b⟩ => ⟨a, h.refs b⟩
theorem krlearn (h : PJ w wv L o R p cb cs) (hf : p.Fine) (n : Int) (hn1 : -9223372036854775808 ≤ n) (hn2 : n ≤ 9223372036854775807) (hl : p.log.length < 8796093022208) :
    Calls Try.prog 20 #[.pointer (some ⟨R.b, 0, none⟩), .int .i64 n] wv fun e w' => e = .returned (.bool (p.learn n).2) ∧ ∃ R', R'.b = R.b ∧ PJ w w' L o R' (p.learn n).1 cb cs :=
  (rlearn h.ref hf n hn1 hn2 (by omega)).mono fun _ _ ⟨a, b⟩ => ⟨a, h.refs b⟩
end
/-- Two calls of a deed, in either order: which of them have been. -/
def Two (w : World) (o o' : OS) (lb rb cb : Nat) (cs : Array Value) (x y : Bool) (W : World) : Prop := ∃ L R, L.b = lb ∧ R.b = rb ∧ PJ w W L (bif x then o' else o) R (bif y then o' else o) cb cs
/-- A row that is written into. -/
theorem row_put {w : World} {B n cp : Nat} {E : TypeId} {ao : Option Addr} {xs : List Value} (h : w.ownsRow B E 1 (.slice ao n cp) n xs) (k : Nat) (hk : k < n) (v : Value) :
    ∃ g x, ao = some ⟨g, 0, none⟩ ∧ w.cell? ⟨g, k, none⟩ = some x ∧ w.frozen? ⟨g, k, none⟩ = false ∧ B ≤ g ∧ g < w.heap.size ∧ (w.setCell ⟨g, k, none⟩ v).ownsRow B E 1 (.slice ao n cp) n (xs.set k v) := by
  have h' := h
  rcases h.2 with ⟨h0, hn⟩ | ⟨g, cap, cur, hv, hg, hh, _⟩
  · omega
  · injection hv with e1 _ e3
    subst e1 e3
    have hl := h'.1
    rw [Nat.mul_one] at hl
    refine ⟨g, xs[k]'(by omega), rfl, ?_, h'.frozenAt k, hg, heap_lt hh, (h'.stored k v).1⟩
    rw [h'.cellAt k (by omega), List.getElem?_eq_getElem (by omega)]
/-- Blocks below B are written into. -/
theorem PI.low {w wv w' : World} {L : OL} {o : OS} {R : RL} {B : Nat} (h : PI w wv L o R) (hL : ∀ j, L.all j → B ≤ j) (hR : ∀ j, R.all j → B ≤ j) (hB : B ≤ wv.heap.size) (ht : Touch (fun j => w.heap.size ≤ j ∧ j < B) wv w') : PI w w' L o R := by
  have h1 : Group w wv (fun j => R.all j ∨ (w.heap.size ≤ j ∧ j < B)) [(L, o)] := h.grp.reX (fun i hi j hj hx => by
    rcases hx with hx | hx
    · exact h.grp.xa i hi j hj hx
    · have : i = 0 := by simp at hi; exact hi
      subst this
      have := hL j hj
      omega) (fun j hx => by
    rcases hx with hx | hx
    · exact h.ref.lt hx
    · omega)
  have h2 := h.ref.keep ht (fun j hj hx => by have := hR j hj; omega)
  exact ⟨h1.wrote ht (fun j _ hj => ⟨.inr hj, hj.1⟩) (fun j hj => .inl (.inl hj)) (fun j hj => h2.lt hj), h2, h.new⟩
theorem Group.toI {w w4 w5 : World} {L : OL} {o : OS} {R : RL} (h : Group w w4 (fun _ => False) [(L, o)]) (hr : RA w5 R o) (hb : Below w4.heap.size w4 w5) (hn : ∀ j, R.all j → w4.heap.size ≤ j) : PI w w5 L o R := by
  have h1 := h.further hb
  refine ⟨h1.reX (fun i hi j hj hx => ?_) (fun j hx => hr.lt hx), hr, fun j hj => Nat.le_trans h.below.size (hn j hj)⟩
  have := (h.each i hi).lt hj
  have := hn j hx
  omega
end Go.Proofs.Ytjgbgbgajadgnaa
