/-
  A topic that is published to alone, by one producer's numbers; a topic and a subscription's box, held beside all that was there.
-/
import Derived.Test.YtoafjgioknkeiaaSW
namespace Go.Proofs.Ytoafjgioknkeiaa.Y
open Go.RowKit Go.Maps

set_option linter.unusedVariables false
set_option linter.unusedSimpArgs false
def pB : ByteArray := ⟨#[112]⟩
def tB : ByteArray := ⟨#[116]⟩
def sBy : ByteArray := ⟨#[115]⟩
def eB : ByteArray := ⟨#[]⟩
/-- The records 0 to n - 1, of one producer. -/
structure PN (G : TG) (n : Nat) : Prop where
  name : G.name = tB
  low : G.low = 0
  fin : G.fin = n
  len : G.recs.length = n
  off : ∀ k (h : k < G.recs.length), G.recs[k].off = (k : Int)
  isMap : IsMap G.D
  last : pget G.D pB.data.toList = if n = 0 then none else some ((n : Int) - 1, (n : Int) - 1)
theorem pn_new : PN (TG.new tB) 0 := ⟨rfl, rfl, rfl, rfl, fun k h => absurd h (Nat.not_lt_zero _), ⟨[], rfl⟩, rfl⟩
theorem snoc_off (l : List Rec) (r : Rec) (h : ∀ k (hk : k < l.length), l[k].off = (k : Int)) (hr : r.off = (l.length : Int)) : ∀ j (hj : j < (l ++ [r]).length), (l ++ [r])[j].off = (j : Int) := by
  intro j hj
  by_cases hl : j < l.length
  · rw [List.getElem_append_left hl]
    exact h j hl
  · rw [List.length_append] at hj
    simp at hj
    obtain rfl : j = l.length := by omega
    rw [List.getElem_append_right (Nat.le_refl _)]
    simp [hr]
theorem pn_pub {G : TG} {n : Nat} (h : PN G n) (hn : n ≤ 100000) (k v : ByteArray) (hk : k.size ≤ 100) (hv : v.size ≤ 1000) : PN (pubF G pB (n : Int) k v).2.2 (n + 1) := by
  have hp : pubOk pB (n : Int) k v = true := by
    unfold pubOk
    rw [show wordB pB = true by kernel_rfl, decide_eq_true hk, decide_eq_true hv]
    simp [greatB]
    omega
  have e : pubF G pB (n : Int) k v = ((G.fin : Int), 0, addF G ⟨0, pB, n, k, v⟩) := by
    unfold pubF
    rw [if_pos hp, h.last]
    by_cases h0 : n = 0
    · rw [if_pos h0]
    · rw [if_neg h0]
      simp only
      rw [if_neg (by omega), if_neg (by omega)]
  rw [e]
  refine ⟨h.name, h.low, by show G.fin + 1 = n + 1; rw [h.fin], by show (G.recs ++ [_]).length = n + 1; rw [List.length_append, h.len]; rfl, ?_, ?_, ?_⟩
  · exact snoc_off G.recs ⟨G.fin, pB, n, k, v⟩ h.off (by show (G.fin : Int) = _; rw [h.fin, h.len])
  · obtain ⟨es, he⟩ := h.isMap
    show IsMap (pput G.D _ _ _)
    unfold pput
    rw [he]
    exact ⟨_, rfl⟩
  · show pget (pput G.D pB.data.toList G.fin n) pB.data.toList = _
    rw [pget_put_same h.isMap, if_neg (by omega), h.fin]
    congr 2 <;> omega
theorem pn_place {G : TG} {n : Nat} (h : PN G n) (x : Nat) (hx : x ≤ n) : placeF G.recs (x : Int) = x :=
  place_boundary G.recs x (by rw [h.len]; exact hx) (fun t ht hlt => by rw [h.off t ht]; omega) (fun t ht hle => by rw [h.off t ht]; omega)
theorem pn_read {G : TG} {n : Nat} (h : PN G n) (x m : Nat) (hx : x ≤ n) : (readF G.recs (x : Int) (m : Int)).length = min m (n - x) ∧ ∀ k (hk : k < (readF G.recs (x : Int) (m : Int)).length), (readF G.recs (x : Int) (m : Int))[k].off = ((x + k : Nat) : Int) := by
  unfold readF
  rw [pn_place h x hx]
  refine ⟨by rw [List.length_take, List.length_drop, h.len]; rfl, fun k hk => ?_⟩
  rw [List.getElem_take, List.getElem_drop, h.off]
/-- What a Poll tells of such a topic. -/
theorem pn_grant {G : TG} {n : Nat} (h : PN G n) (S : SB) (c x m : Nat) (hc : S.cur = c) (hx : S.next = x) (hcx : c ≤ x) (hxn : x ≤ n) (hx2 : x ≤ c + 100) :
    (grantF G S (m : Int)).length = min (min m (n - x)) (c + 100 - x) ∧ ∀ k (hk : k < (grantF G S (m : Int)).length), (grantF G S (m : Int))[k].off = ((x + k : Nat) : Int) := by
  obtain ⟨h1, h2⟩ := pn_read h x m hxn
  have hm : max S.cur (G.low : Int) + 100 = ((c + 100 : Nat) : Int) := by rw [hc, h.low]; omega
  unfold grantF
  rw [hm, hx]
  generalize readF G.recs (x : Int) (m : Int) = RL at *
  have hp : placeF RL ((c + 100 : Nat) : Int) = min RL.length (c + 100 - x) :=
    place_boundary RL _ (Nat.min_le_left _ _) (fun t ht hlt => by rw [h2 t ht]; have := Nat.lt_of_lt_of_le hlt (Nat.min_le_right _ _); omega) (fun t ht hle => by
      rw [h2 t ht]
      rcases Nat.le_total RL.length (c + 100 - x) with q | q
      · rw [Nat.min_eq_left q] at hle; omega
      · rw [Nat.min_eq_right q] at hle; omega)
  rw [hp]
  refine ⟨by rw [List.length_take, h1]; omega, fun k hk => ?_⟩
  rw [List.getElem_take, h2]
/-- A topic, and a subscription's box beside it. -/
structure HSB (B : Nat) (w0 w : World) (L : LOC) (G : TG) (c sb : Nat) (S : SB) : Prop where
  held : Held B w0 w L G c
  box : w.heap[sb]? = some (.cells #[.string S.name, .string S.top, .int .i64 S.cur, .int .i64 S.next] 33 (0, 0))
  new : B ≤ sb
theorem TAt.apart {w : World} {L : LOC} {G : TG} {sb : Nat} {cs : Array Value} (h : TAt w L G) (hs : w.heap[sb]? = some (.cells cs 33 (0, 0))) : ¬ L.own sb := by
  rintro (rfl | rfl | hj)
  · have := h.box.symm.trans hs
    injection this with this
    injection this with _ e
    exact absurd e (by decide)
  · obtain ⟨es, c, hb, _⟩ := h.map
    rw [hb] at hs
    cases hs
  · have := h.row.type ((own_block _ _ _ _).trans hj) hs
    exact absurd this (by decide)
theorem Held.touch {B : Nat} {w0 w w' : World} {L : LOC} {G : TG} {c : Nat} {own : Nat → Prop} (h : Held B w0 w L G c) (t : Touch own w w') (h1 : ∀ j, L.own j → ¬ own j) (h2 : ∀ j, own j → B ≤ j) : Held B w0 w' L G c :=
  ⟨h.at_.keep t h1, h.ok, h.below.trans (touch_new t (Nat.le_trans h.le h.below.size) h2), h.new, h.le⟩
theorem HSB.to {B : Nat} {w0 w w' : World} {L : LOC} {G : TG} {c sb : Nat} {S : SB} (h : HSB B w0 w L G c sb S) (hb : Below w.heap.size w w') : HSB B w0 w' L G c sb S := ⟨h.held.to hb, Below.at hb h.box, h.new⟩
theorem HSB.put {B : Nat} {w0 w : World} {L : LOC} {G : TG} {c sb : Nat} {S : SB} (h : HSB B w0 w L G c sb S) (T : SB) : HSB B w0 (set4 w sb (.string T.name) (.string T.top) (.int .i64 T.cur) (.int .i64 T.next)) L G c sb T :=
  ⟨h.held.touch (set4_touch _ _) (fun j hj e => by subst e; exact h.held.at_.apart h.box hj) (fun j e => by subst e; exact h.new), set4_box h.box, h.new⟩
theorem HSB.mk' {B : Nat} {w0 w : World} {L : LOC} {G : TG} {c : Nat} (h : Held B w0 w L G c) (T : SB) : HSB B w0 (w.alloc (.cells #[.string T.name, .string T.top, .int .i64 T.cur, .int .i64 T.next] 33)) L G c w.heap.size T :=
  ⟨h.to ((Below.refl _ _).alloc (Nat.le_refl _) _), heap_alloc_new _ _, Nat.le_trans h.le h.below.size⟩
end Go.Proofs.Ytoafjgioknkeiaa.Y
