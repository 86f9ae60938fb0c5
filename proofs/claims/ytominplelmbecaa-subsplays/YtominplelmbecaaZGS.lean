/-
  A topic that is published to alone, by one producer's numbers; a topic and a subscription's box, held beside all that was there.
-/
import Derived.Test.YtominplelmbecaaZSW
namespace Go.Proofs.Ytominplelmbecaa.Y
open Go.RowKit Go.Maps

set_option linter.unusedVariables false
set_option linter.unusedSimpArgs false
def pB : ByteArray := ⟨#[112]⟩
def tB : ByteArray := ⟨#[116]⟩
def sBy : ByteArray := ⟨#[115]⟩
def eB : ByteArray := ⟨#[]⟩
/-- The records 0 to n - 1, of one producer. -/
structure PN (G : TG) (n : Nat) : Prop where
  name : G.name = tB
  low : G.low = 0
  fin : G.fin = n
  len : G.recs.length = n
  off : ∀ k (h : k < G.recs.length), G.recs[k].off = (k : Int)
  isMap : IsMap G.D
  last : pget G.D pB.data.toList = if n = 0 then none else some ((n : Int) - 1, (n : Int) - 1)
theorem pn_new : PN (TG.new tB) 0 := ⟨rfl, rfl, rfl, rfl, fun k h => absurd h (Nat.not_lt_zero _), ⟨[], rfl⟩, rfl⟩
theorem snoc_off (l : List Rec) (r : Rec) (h : ∀ k (hk : k < l.length), l[k].off = (k : Int)) (hr : r.off = (l.length : Int)) : ∀ j (hj : j < (l ++ [r]).length), (l ++ [r])[j].off = (j : Int) := by
  intro j hj
  by_cases hl : j < l.length
  · rw [List.getElem_append_left hl]
    exact h j hl
  · rw [List.length_append] at hj
    simp at hj
    obtain rfl : j = l.length := by omega
    rw [List.getElem_append_right (Nat.le_refl _)]
    simp [hr]
theorem pn_pub {G : TG} {n : Nat} (h : PN G n) (hn : n ≤ 100000) (k v : ByteArray) (hk : k.size ≤ 100) (hv : v.size ≤ 1000) : PN (pubF G pB (n : Int) k v).2.2 (n + 1) := by
  have hp : pubOk pB (n : Int) k v = true := by
    unfold pubOk
    rw [show wordB pB = true by kernel_rfl, decide_eq_true hk, decide_eq_true hv]
    simp [greatB]
    omega
  have e : pubF G pB (n : Int) k v = ((G.fin : Int), 0, addF G ⟨0, pB, n, k, v⟩) := by
    unfold pubF
    rw [if_pos hp, h.last]
    by_cases h0 : n = 0
    · rw [if_pos h0]
    · rw [if_neg h0]
      simp only
      rw [if_neg (by omega), if_neg (by omega)]
  rw [e]
  refine ⟨h.name, h.low, by show G.fin + 1 = n + 1; rw [h.fin], by show (G.recs ++ [_]).length = n + 1; rw [List.length_append, h.len]; rfl, ?_, ?_, ?_⟩
  · exact snoc_off G.recs ⟨G.fin, pB, n, k, v⟩ h.off (by show (G.fin : Int) = _; rw [h.fin, h.len])
  · obtain ⟨es, he⟩ := h.isMap
    show IsMap (pput G.D _ _ _)
    unfold pput
    rw [he]
    exact ⟨_, rfl⟩
  · show pget (pput G.D pB.data.toList G.fin n) pB.data.toList = _
    rw [pget_put_same h.isMap, if_neg (by omega), h.fin]
    congr 2 <;> omega
theorem pn_place {G : TG} {n : Nat} (h : PN G n) (x : Nat) (hx : x ≤ n) : placeF G.recs (x : Int) = x :=
  place_boundary G.recs x (by rw [h.len]; exact hx) (fun t ht hlt => by rw [h.off t ht]; omega) (fun t ht hle => by rw [h.off t ht]; omega)
theorem pn_read {G : TG} {n : Nat} (h : PN G n) (x m : Nat) (hx : x ≤ n) : (readF G.recs (x : Int) (m : Int)).length = min m (n - x) ∧ ∀ k (hk : k < (readF G.recs (x : Int) (m : Int)).length), (readF G.recs (x : Int) (m : Int))[k].off = ((x + k : Nat) : Int) := by
  unfold readF
  rw [pn_place h x hx]
  refine ⟨by rw [List.length_take, List.length_drop, h.len]; rfl, fun k hk => ?_⟩
  rw [List.getElem_take, List.getElem_drop, h.off]
/-- What a Poll tells of such a topic. -/
theorem pn_grant {G : TG} {n : Nat} (h : PN G n) (S : SB) (c x m : Nat) (hc : S.cur = c) (hx : S.next = x) (hcx : c ≤ x) (hxn : x ≤ n) (hx2 : x ≤ c + 100) :
    (grantF G S (m : Int)).length = min (min m (n - x)) (c + 100 - x) ∧ ∀ k (hk : k < (grantF G S (m : Int)).length), (grantF G S (m : Int))[k].off = ((x + k : Nat) : Int) := by
  obtain ⟨h1, h2⟩ := pn_read h x m hxn
  have hm : max S.cur (G.low : Int) + 100 = ((c + 100 : Nat) : Int) := by rw [hc, h.low]; omega
  unfold grantF
  rw [hm, hx]
  generalize readF G.recs (x : Int) (m : Int) = RL at *
  have hp : placeF RL ((c + 100 : Nat) : Int) = min RL.length (c + 100 - x) :=
    place_boundary RL _ (Nat.min_le_left _ _) (fun t ht hlt => by rw [h2 t ht]; have := Nat.lt_of_lt_of_le hlt (Nat.min_le_right _ _); omega) (fun t ht hle => by
      rw [h2 t ht]
      rcases Nat.le_total RL.length (c + 100 - x) with q | q
      · rw [Nat.min_eq_left q] at hle; omega
      · rw [Nat.min_eq_right q] at hle; omega)
  rw [hp]
  refine ⟨by rw [List.length_take, h1]; omega, fun k hk => ?_⟩
  rw [List.getElem_take, h2]
/-- A topic, and a subscription's box beside it. -/
structure HSB (B : Nat) (w0 w : World) (L : LOC) (G : TG) (c sb : Nat) (S : SB) : Prop where
  held : Held B w0 w L G c
  box : w.heap[sb]? = some (.cells #[.string S.name, .string S.top, .int .i64 S.cur, .int .i64 S.next] 23 (0, 0))
  new : B ≤ sb
theorem TAt.apart {w : World} {L : LOC} {G : TG} {sb : Nat} {cs : Array Value} (h : TAt w L G) (hs : w.heap[sb]? = some (.cells cs 23 (0, 0))) : ¬ L.own sb := by
  rintro (rfl | rfl | hj)
  · have := h.box.symm.trans hs
    injection this with this
    injection this with _ e
    exact absurd e (by decide)
  · obtain ⟨es, c, hb, _⟩ := h.map
    rw [hb] at hs
    cases hs
  · have := h.row.type ((own_block _ _ _ _).trans hj) hs
    exact absurd this (by decide)
theorem Held.touch {B : Nat} {w0 w w' : World} {L : LOC} {G : TG} {c : Nat} {own : Nat → Prop} (h : Held B w0 w L G c) (t : Touch own w w') (h1 : ∀ j, L.own j → ¬ own j) (h2 : ∀ j, own j → B ≤ j) : Held B w0 w' L G c :=
  ⟨h.at_.keep t h1, h.ok, h.below.trans (touch_new t (Nat.le_trans h.le h.below.size) h2), h.new, h.le⟩
theorem HSB.to {B : Nat} {w0 w w' : World} {L : LOC} {G : TG} {c sb : Nat} {S : SB} (h : HSB B w0 w L G c sb S) (hb : Below w.heap.size w w') : HSB B w0 w' L G c sb S := ⟨h.held.to hb, Below.at hb h.box, h.new⟩
theorem HSB.put {B : Nat} {w0 w : World} {L : LOC} {G : TG} {c sb : Nat} {S : SB} (h : HSB B w0 w L G c sb S) (T : SB) : HSB B w0 (set4 w sb (.string T.name) (.string T.top) (.int .i64 T.cur) (.int .i64 T.next)) L G c sb T :=
  ⟨h.held.touch (set4_touch _ _) (fun j hj e => by subst e; exact h.held.at_.apart h.box hj) (fun j e => by subst e; exact h.new), set4_box h.box, h.new⟩
theorem HSB.mk' {B : Nat} {w0 w : World} {L : LOC} {G : TG} {c : Nat} (h : Held B w0 w L G c) (T : SB) : HSB B w0 (w.alloc (.cells #[.string T.name, .string T.top, .int .i64 T.cur, .int .i64 T.next] 23)) L G c w.heap.size T :=
  ⟨h.to ((Below.refl _ _).alloc (Nat.le_refl _) _), heap_alloc_new _ _, Nat.le_trans h.le h.below.size⟩
end Go.Proofs.Ytominplelmbecaa.Y
/-
  The laws' examples: regions (mksx.py).
-/
namespace Go.Proofs.Ytominplelmbecaa.Y
open Go.RowKit

attribute [local go_sem ↓] Go.wp_at_zero Go.wp_at_succ
set_option linter.unusedSimpArgs false
set_option linter.unusedVariables false
set_option maxRecDepth 100000 in
theorem frame_ex (t : Array Value) (h : t.size = 132) : ∃ u : Nat → Value, t = List.toArray (u 0 :: u 1 :: u 2 :: u 3 :: u 4 :: u 5 :: u 6 :: u 7 :: u 8 :: u 9 :: u 10 :: u 11 :: u 12 :: u 13 :: u 14 :: u 15 :: u 16 :: u 17 :: u 18 :: u 19 :: u 20 :: u 21 :: u 22 :: u 23 :: u 24 :: u 25 :: u 26 :: u 27 :: u 28 :: u 29 :: u 30 :: u 31 :: u 32 :: u 33 :: u 34 :: u 35 :: u 36 :: u 37 :: u 38 :: u 39 :: u 40 :: u 41 :: u 42 :: u 43 :: u 44 :: u 45 :: u 46 :: u 47 :: u 48 :: u 49 :: u 50 :: u 51 :: u 52 :: u 53 :: u 54 :: u 55 :: u 56 :: u 57 :: u 58 :: u 59 :: u 60 :: u 61 :: u 62 :: u 63 :: u 64 :: u 65 :: u 66 :: u 67 :: u 68 :: u 69 :: u 70 :: u 71 :: u 72 :: u 73 :: u 74 :: u 75 :: u 76 :: u 77 :: u 78 :: u 79 :: u 80 :: u 81 :: u 82 :: u 83 :: u 84 :: u 85 :: u 86 :: u 87 :: u 88 :: u 89 :: u 90 :: u 91 :: u 92 :: u 93 :: u 94 :: u 95 :: u 96 :: u 97 :: u 98 :: u 99 :: u 100 :: u 101 :: u 102 :: u 103 :: u 104 :: u 105 :: u 106 :: u 107 :: u 108 :: u 109 :: u 110 :: u 111 :: u 112 :: u 113 :: u 114 :: u 115 :: u 116 :: u 117 :: u 118 :: u 119 :: u 120 :: u 121 :: u 122 :: u 123 :: u 124 :: u 125 :: u 126 :: u 127 :: u 128 :: u 129 :: u 130 :: u 131 :: []) := by
  refine ⟨fun i => t.getD i undef, ?_⟩
  have e : (List.toArray ((fun i => t.getD i undef) 0 :: (fun i => t.getD i undef) 1 :: (fun i => t.getD i undef) 2 :: (fun i => t.getD i undef) 3 :: (fun i => t.getD i undef) 4 :: (fun i => t.getD i undef) 5 :: (fun i => t.getD i undef) 6 :: (fun i => t.getD i undef) 7 :: (fun i => t.getD i undef) 8 :: (fun i => t.getD i undef) 9 :: (fun i => t.getD i undef) 10 :: (fun i => t.getD i undef) 11 :: (fun i => t.getD i undef) 12 :: (fun i => t.getD i undef) 13 :: (fun i => t.getD i undef) 14 :: (fun i => t.getD i undef) 15 :: (fun i => t.getD i undef) 16 :: (fun i => t.getD i undef) 17 :: (fun i => t.getD i undef) 18 :: (fun i => t.getD i undef) 19 :: (fun i => t.getD i undef) 20 :: (fun i => t.getD i undef) 21 :: (fun i => t.getD i undef) 22 :: (fun i => t.getD i undef) 23 :: (fun i => t.getD i undef) 24 :: (fun i => t.getD i undef) 25 :: (fun i => t.getD i undef) 26 :: (fun i => t.getD i undef) 27 :: (fun i => t.getD i undef) 28 :: (fun i => t.getD i undef) 29 :: (fun i => t.getD i undef) 30 :: (fun i => t.getD i undef) 31 :: (fun i => t.getD i undef) 32 :: (fun i => t.getD i undef) 33 :: (fun i => t.getD i undef) 34 :: (fun i => t.getD i undef) 35 :: (fun i => t.getD i undef) 36 :: (fun i => t.getD i undef) 37 :: (fun i => t.getD i undef) 38 :: (fun i => t.getD i undef) 39 :: (fun i => t.getD i undef) 40 :: (fun i => t.getD i undef) 41 :: (fun i => t.getD i undef) 42 :: (fun i => t.getD i undef) 43 :: (fun i => t.getD i undef) 44 :: (fun i => t.getD i undef) 45 :: (fun i => t.getD i undef) 46 :: (fun i => t.getD i undef) 47 :: (fun i => t.getD i undef) 48 :: (fun i => t.getD i undef) 49 :: (fun i => t.getD i undef) 50 :: (fun i => t.getD i undef) 51 :: (fun i => t.getD i undef) 52 :: (fun i => t.getD i undef) 53 :: (fun i => t.getD i undef) 54 :: (fun i => t.getD i undef) 55 :: (fun i => t.getD i undef) 56 :: (fun i => t.getD i undef) 57 :: (fun i => t.getD i undef) 58 :: (fun i => t.getD i undef) 59 :: (fun i => t.getD i undef) 60 :: (fun i => t.getD i undef) 61 :: (fun i => t.getD i undef) 62 :: (fun i => t.getD i undef) 63 :: (fun i => t.getD i undef) 64 :: (fun i => t.getD i undef) 65 :: (fun i => t.getD i undef) 66 :: (fun i => t.getD i undef) 67 :: (fun i => t.getD i undef) 68 :: (fun i => t.getD i undef) 69 :: (fun i => t.getD i undef) 70 :: (fun i => t.getD i undef) 71 :: (fun i => t.getD i undef) 72 :: (fun i => t.getD i undef) 73 :: (fun i => t.getD i undef) 74 :: (fun i => t.getD i undef) 75 :: (fun i => t.getD i undef) 76 :: (fun i => t.getD i undef) 77 :: (fun i => t.getD i undef) 78 :: (fun i => t.getD i undef) 79 :: (fun i => t.getD i undef) 80 :: (fun i => t.getD i undef) 81 :: (fun i => t.getD i undef) 82 :: (fun i => t.getD i undef) 83 :: (fun i => t.getD i undef) 84 :: (fun i => t.getD i undef) 85 :: (fun i => t.getD i undef) 86 :: (fun i => t.getD i undef) 87 :: (fun i => t.getD i undef) 88 :: (fun i => t.getD i undef) 89 :: (fun i => t.getD i undef) 90 :: (fun i => t.getD i undef) 91 :: (fun i => t.getD i undef) 92 :: (fun i => t.getD i undef) 93 :: (fun i => t.getD i undef) 94 :: (fun i => t.getD i undef) 95 :: (fun i => t.getD i undef) 96 :: (fun i => t.getD i undef) 97 :: (fun i => t.getD i undef) 98 :: (fun i => t.getD i undef) 99 :: (fun i => t.getD i undef) 100 :: (fun i => t.getD i undef) 101 :: (fun i => t.getD i undef) 102 :: (fun i => t.getD i undef) 103 :: (fun i => t.getD i undef) 104 :: (fun i => t.getD i undef) 105 :: (fun i => t.getD i undef) 106 :: (fun i => t.getD i undef) 107 :: (fun i => t.getD i undef) 108 :: (fun i => t.getD i undef) 109 :: (fun i => t.getD i undef) 110 :: (fun i => t.getD i undef) 111 :: (fun i => t.getD i undef) 112 :: (fun i => t.getD i undef) 113 :: (fun i => t.getD i undef) 114 :: (fun i => t.getD i undef) 115 :: (fun i => t.getD i undef) 116 :: (fun i => t.getD i undef) 117 :: (fun i => t.getD i undef) 118 :: (fun i => t.getD i undef) 119 :: (fun i => t.getD i undef) 120 :: (fun i => t.getD i undef) 121 :: (fun i => t.getD i undef) 122 :: (fun i => t.getD i undef) 123 :: (fun i => t.getD i undef) 124 :: (fun i => t.getD i undef) 125 :: (fun i => t.getD i undef) 126 :: (fun i => t.getD i undef) 127 :: (fun i => t.getD i undef) 128 :: (fun i => t.getD i undef) 129 :: (fun i => t.getD i undef) 130 :: (fun i => t.getD i undef) 131 :: []) : Array Value) = ((List.range 132).map fun i => t.getD i undef).toArray := rfl
  refine Eq.trans ?_ e.symm
  apply Array.ext
  · simp [h]
  · intro k h1 h2
    simp [Array.getD, h1]
/-- The slots that matter. -/
structure Vex where
  v0 : Value
  v1 : Value
  v3 : Value
  v4 : Value
  v5 : Value
  v6 : Value
  v7 : Value
  v8 : Value
  v10 : Value
  v11 : Value
  v14 : Value
  v16 : Value
structure Fex (a : Act) (v : Vex) : Prop where
  size : a.tmps.size = 132
  defers : a.defers = []
  s0 : a.tmps.getD 0 undef = v.v0
  s1 : a.tmps.getD 1 undef = v.v1
  s3 : a.tmps.getD 3 undef = v.v3
  s4 : a.tmps.getD 4 undef = v.v4
  s5 : a.tmps.getD 5 undef = v.v5
  s6 : a.tmps.getD 6 undef = v.v6
  s7 : a.tmps.getD 7 undef = v.v7
  s8 : a.tmps.getD 8 undef = v.v8
  s10 : a.tmps.getD 10 undef = v.v10
  s11 : a.tmps.getD 11 undef = v.v11
  s14 : a.tmps.getD 14 undef = v.v14
  s16 : a.tmps.getD 16 undef = v.v16
set_option maxHeartbeats 8000000 in
set_option maxRecDepth 100000 in
theorem ex_r0 {K : Act → World → Prop} {c : Code} (hc : regOf (Try.f5.body.getD .skip) 0 = some c) (a : Act) {v : Vex} {wq : World}  (hF : Fex a v) (hQ : ∀ a', Fex a' { v with v0 := .bool false } → K a' wq) :
    Code.wp Try.prog c (Exit.then K fun _ _ _ => False) a wq := by
  have HQ := hide hQ
  clear hQ
  obtain ⟨t', d'⟩ := a
  obtain ⟨v0, v1, v3, v4, v5, v6, v7, v8, v10, v11, v14, v16⟩ := v
  obtain ⟨hs1, hd1, q0, q1, q3, q4, q5, q6, q7, q8, q10, q11, q14, q16⟩ := hF
  obtain ⟨u, hu⟩ := frame_ex t' hs1
  simp only at hd1 q0 q1 q3 q4 q5 q6 q7 q8 q10 q11 q14 q16
  subst hu hd1
  have e0 : u 0 = v0 := q0
  have e1 : u 1 = v1 := q1
  have e3 : u 3 = v3 := q3
  have e4 : u 4 = v4 := q4
  have e5 : u 5 = v5 := q5
  have e6 : u 6 = v6 := q6
  have e7 : u 7 = v7 := q7
  have e8 : u 8 = v8 := q8
  have e10 : u 10 = v10 := q10
  have e11 : u 11 = v11 := q11
  have e14 : u 14 = v14 := q14
  have e16 : u 16 = v16 := q16
  rw [e0, e1, e3, e4, e5, e6, e7, e8, e10, e11, e14, e16]
  clear q0 e0 q1 e1 q3 e3 q4 e4 q5 e5 q6 e6 q7 e7 q8 e8 q10 e10 q11 e11 q14 e14 q16 e16 hs1
  simp only [Try.f5, Option.getD_some, regOf] at hc
  injection hc with hc
  subst hc
  go_wp2
  exact HQ.out _ ⟨rfl, rfl, rfl, rfl, rfl, rfl, rfl, rfl, rfl, rfl, rfl, rfl, rfl, rfl⟩
set_option maxHeartbeats 8000000 in
set_option maxRecDepth 100000 in
theorem ex_r1 {K : Act → World → Prop} {c : Code} (hc : regOf (Try.f5.body.getD .skip) 1 = some c) (a : Act) {v : Vex} {wq : World} {R : LOC → World → Prop} (hF : Fex a v) (hE : Calls Try.prog 6 #[.string ⟨#[116]⟩] wq fun e w' => ∃ L : LOC, e = .returned (.tuple #[.pointer (some ⟨L.b, 0, none⟩), .int .i64 0]) ∧ R L w')
    (hQ : ∀ a' w' (L : LOC), Fex a' { v with v1 := .pointer (some ⟨L.b, 0, none⟩) } → R L w' → K a' w') :
    Code.wp Try.prog c (Exit.then K fun _ _ _ => False) a wq := by
  have HQ := hide hQ
  clear hQ
  obtain ⟨t', d'⟩ := a
  obtain ⟨v0, v1, v3, v4, v5, v6, v7, v8, v10, v11, v14, v16⟩ := v
  obtain ⟨hs1, hd1, q0, q1, q3, q4, q5, q6, q7, q8, q10, q11, q14, q16⟩ := hF
  obtain ⟨u, hu⟩ := frame_ex t' hs1
  simp only at hd1 q0 q1 q3 q4 q5 q6 q7 q8 q10 q11 q14 q16
  subst hu hd1
  have e0 : u 0 = v0 := q0
  have e1 : u 1 = v1 := q1
  have e3 : u 3 = v3 := q3
  have e4 : u 4 = v4 := q4
  have e5 : u 5 = v5 := q5
  have e6 : u 6 = v6 := q6
  have e7 : u 7 = v7 := q7
  have e8 : u 8 = v8 := q8
  have e10 : u 10 = v10 := q10
  have e11 : u 11 = v11 := q11
  have e14 : u 14 = v14 := q14
  have e16 : u 16 = v16 := q16
  rw [e0, e1, e3, e4, e5, e6, e7, e8, e10, e11, e14, e16]
  clear q0 e0 q1 e1 q3 e3 q4 e4 q5 e5 q6 e6 q7 e7 q8 e8 q10 e10 q11 e11 q14 e14 q16 e16 hs1
  simp only [Try.f5, Option.getD_some, regOf] at hc
  injection hc with hc
  subst hc
  have HE := hide hE
  clear hE
  go_wp2_with (go_at_call 6; refine HE.out.mono ?_; rintro e w1 ⟨L, rfl, r1⟩; have R1 := hide r1; clear r1)
  exact HQ.out _ _ L ⟨rfl, rfl, rfl, rfl, rfl, rfl, rfl, rfl, rfl, rfl, rfl, rfl, rfl, rfl⟩ R1.out
set_option maxHeartbeats 8000000 in
set_option maxRecDepth 100000 in
theorem ex_r2 {K : Act → World → Prop} {c : Code} (hc : regOf (Try.f5.body.getD .skip) 2 = some c) (a : Act) {v : Vex} {wq : World} {L : LOC} (hF : Fex a v) (h1v : v.v1 = .pointer (some ⟨L.b, 0, none⟩)) (hQ : ∀ a', Fex a' v → a'.tmps.getD 22 undef = .bool false → K a' wq) :
    Code.wp Try.prog c (Exit.then K fun _ _ _ => False) a wq := by
  have HQ := hide hQ
  clear hQ
  obtain ⟨t', d'⟩ := a
  obtain ⟨v0, v1, v3, v4, v5, v6, v7, v8, v10, v11, v14, v16⟩ := v
  simp only at h1v HQ
  subst h1v
  obtain ⟨hs1, hd1, q0, q1, q3, q4, q5, q6, q7, q8, q10, q11, q14, q16⟩ := hF
  obtain ⟨u, hu⟩ := frame_ex t' hs1
  simp only at hd1 q0 q1 q3 q4 q5 q6 q7 q8 q10 q11 q14 q16
  subst hu hd1
  have e0 : u 0 = v0 := q0
  have e1 : u 1 = .pointer (some ⟨L.b, 0, none⟩) := q1
  have e3 : u 3 = v3 := q3
  have e4 : u 4 = v4 := q4
  have e5 : u 5 = v5 := q5
  have e6 : u 6 = v6 := q6
  have e7 : u 7 = v7 := q7
  have e8 : u 8 = v8 := q8
  have e10 : u 10 = v10 := q10
  have e11 : u 11 = v11 := q11
  have e14 : u 14 = v14 := q14
  have e16 : u 16 = v16 := q16
  rw [e0, e1, e3, e4, e5, e6, e7, e8, e10, e11, e14, e16]
  clear q0 e0 q1 e1 q3 e3 q4 e4 q5 e5 q6 e6 q7 e7 q8 e8 q10 e10 q11 e11 q14 e14 q16 e16 hs1
  simp only [Try.f5, Option.getD_some, regOf] at hc
  injection hc with hc
  subst hc
  go_wp2
  exact HQ.out _ ⟨rfl, rfl, rfl, rfl, rfl, rfl, rfl, rfl, rfl, rfl, rfl, rfl, rfl, rfl⟩ (by first | rfl | (simp; done))
set_option maxHeartbeats 8000000 in
set_option maxRecDepth 100000 in
theorem ex_r4 {K : Act → World → Prop} {c : Code} (hc : regOf (Try.f5.body.getD .skip) 4 = some c) (a : Act) {v : Vex} {wq : World}  (hF : Fex a v) (hQ : ∀ a', Fex a' { v with v3 := .int .i64 0 } → K a' wq) :
    Code.wp Try.prog c (Exit.then K fun _ _ _ => False) a wq := by
  have HQ := hide hQ
  clear hQ
  obtain ⟨t', d'⟩ := a
  obtain ⟨v0, v1, v3, v4, v5, v6, v7, v8, v10, v11, v14, v16⟩ := v
  obtain ⟨hs1, hd1, q0, q1, q3, q4, q5, q6, q7, q8, q10, q11, q14, q16⟩ := hF
  obtain ⟨u, hu⟩ := frame_ex t' hs1
  simp only at hd1 q0 q1 q3 q4 q5 q6 q7 q8 q10 q11 q14 q16
  subst hu hd1
  have e0 : u 0 = v0 := q0
  have e1 : u 1 = v1 := q1
  have e3 : u 3 = v3 := q3
  have e4 : u 4 = v4 := q4
  have e5 : u 5 = v5 := q5
  have e6 : u 6 = v6 := q6
  have e7 : u 7 = v7 := q7
  have e8 : u 8 = v8 := q8
  have e10 : u 10 = v10 := q10
  have e11 : u 11 = v11 := q11
  have e14 : u 14 = v14 := q14
  have e16 : u 16 = v16 := q16
  rw [e0, e1, e3, e4, e5, e6, e7, e8, e10, e11, e14, e16]
  clear q0 e0 q1 e1 q3 e3 q4 e4 q5 e5 q6 e6 q7 e7 q8 e8 q10 e10 q11 e11 q14 e14 q16 e16 hs1
  simp only [Try.f5, Option.getD_some, regOf] at hc
  injection hc with hc
  subst hc
  go_wp2
  exact HQ.out _ ⟨rfl, rfl, rfl, rfl, rfl, rfl, rfl, rfl, rfl, rfl, rfl, rfl, rfl, rfl⟩
set_option maxHeartbeats 8000000 in
set_option maxRecDepth 100000 in
theorem ex_r5 {K : Act → World → Prop} {c : Code} (hc : regOf (Try.f5.body.getD .skip) 5 = some c) (a : Act) {v : Vex} {wq : World} {i : Nat} (hF : Fex a v) (h3v : v.v3 = .int .i64 (i : Int)) (hQ : ∀ a', Fex a' v → a'.tmps.getD 24 undef = .bool (decide ((i : Int) < 10)) → K a' wq) :
    Code.wp Try.prog c (Exit.then K fun _ _ _ => False) a wq := by
  have HQ := hide hQ
  clear hQ
  obtain ⟨t', d'⟩ := a
  obtain ⟨v0, v1, v3, v4, v5, v6, v7, v8, v10, v11, v14, v16⟩ := v
  simp only at h3v HQ
  subst h3v
  obtain ⟨hs1, hd1, q0, q1, q3, q4, q5, q6, q7, q8, q10, q11, q14, q16⟩ := hF
  obtain ⟨u, hu⟩ := frame_ex t' hs1
  simp only at hd1 q0 q1 q3 q4 q5 q6 q7 q8 q10 q11 q14 q16
  subst hu hd1
  have e0 : u 0 = v0 := q0
  have e1 : u 1 = v1 := q1
  have e3 : u 3 = .int .i64 (i : Int) := q3
  have e4 : u 4 = v4 := q4
  have e5 : u 5 = v5 := q5
  have e6 : u 6 = v6 := q6
  have e7 : u 7 = v7 := q7
  have e8 : u 8 = v8 := q8
  have e10 : u 10 = v10 := q10
  have e11 : u 11 = v11 := q11
  have e14 : u 14 = v14 := q14
  have e16 : u 16 = v16 := q16
  rw [e0, e1, e3, e4, e5, e6, e7, e8, e10, e11, e14, e16]
  clear q0 e0 q1 e1 q3 e3 q4 e4 q5 e5 q6 e6 q7 e7 q8 e8 q10 e10 q11 e11 q14 e14 q16 e16 hs1
  simp only [Try.f5, Option.getD_some, regOf] at hc
  injection hc with hc
  subst hc
  go_wp2
  exact HQ.out _ ⟨rfl, rfl, rfl, rfl, rfl, rfl, rfl, rfl, rfl, rfl, rfl, rfl, rfl, rfl⟩ (by first | rfl | (simp; done))
set_option maxHeartbeats 8000000 in
set_option maxRecDepth 100000 in
theorem ex_r7 {K : Act → World → Prop} {c : Code} (hc : regOf (Try.f5.body.getD .skip) 7 = some c) (a : Act) {v : Vex} {wq : World} {L : LOC} {i : Int} {R : World → Prop} (hF : Fex a v) (h1v : v.v1 = .pointer (some ⟨L.b, 0, none⟩)) (h3v : v.v3 = .int .i64 i) (hE : Calls Try.prog 9 #[.pointer (some ⟨L.b, 0, none⟩), .string ⟨#[112]⟩, .int .i64 i, .string ⟨#[]⟩, .string ⟨#[]⟩] wq fun e w' => (∃ x y : Int, e = .returned (.tuple #[.int .i64 x, .int .i64 y])) ∧ R w')
    (hQ : ∀ a' w' , Fex a' v → R w' → K a' w') :
    Code.wp Try.prog c (Exit.then K fun _ _ _ => False) a wq := by
  have HQ := hide hQ
  clear hQ
  obtain ⟨t', d'⟩ := a
  obtain ⟨v0, v1, v3, v4, v5, v6, v7, v8, v10, v11, v14, v16⟩ := v
  simp only at h1v h3v HQ
  subst h1v h3v
  obtain ⟨hs1, hd1, q0, q1, q3, q4, q5, q6, q7, q8, q10, q11, q14, q16⟩ := hF
  obtain ⟨u, hu⟩ := frame_ex t' hs1
  simp only at hd1 q0 q1 q3 q4 q5 q6 q7 q8 q10 q11 q14 q16
  subst hu hd1
  have e0 : u 0 = v0 := q0
  have e1 : u 1 = .pointer (some ⟨L.b, 0, none⟩) := q1
  have e3 : u 3 = .int .i64 i := q3
  have e4 : u 4 = v4 := q4
  have e5 : u 5 = v5 := q5
  have e6 : u 6 = v6 := q6
  have e7 : u 7 = v7 := q7
  have e8 : u 8 = v8 := q8
  have e10 : u 10 = v10 := q10
  have e11 : u 11 = v11 := q11
  have e14 : u 14 = v14 := q14
  have e16 : u 16 = v16 := q16
  rw [e0, e1, e3, e4, e5, e6, e7, e8, e10, e11, e14, e16]
  clear q0 e0 q1 e1 q3 e3 q4 e4 q5 e5 q6 e6 q7 e7 q8 e8 q10 e10 q11 e11 q14 e14 q16 e16 hs1
  simp only [Try.f5, Option.getD_some, regOf] at hc
  injection hc with hc
  subst hc
  have HE := hide hE
  clear hE
  go_wp2_with (go_at_call 9; refine HE.out.mono ?_; rintro e w1 ⟨⟨x, y, rfl⟩, r1⟩; have R1 := hide r1; clear r1)
  exact HQ.out _ _ ⟨rfl, rfl, rfl, rfl, rfl, rfl, rfl, rfl, rfl, rfl, rfl, rfl, rfl, rfl⟩ R1.out
set_option maxHeartbeats 8000000 in
set_option maxRecDepth 100000 in
theorem ex_r6 {K : Act → World → Prop} {c : Code} (hc : regOf (Try.f5.body.getD .skip) 6 = some c) (a : Act) {v : Vex} {wq : World} {i : Nat} (hF : Fex a v) (h3v : v.v3 = .int .i64 (i : Int)) (hi : i ≤ 1000000)
    (hQ : ∀ a', Fex a' { v with v3 := .int .i64 ((i + 1 : Nat) : Int) } → K a' wq) :
    Code.wp Try.prog c (Exit.then K fun _ _ _ => False) a wq := by
  have HQ := hide hQ
  clear hQ
  obtain ⟨t', d'⟩ := a
  obtain ⟨v0, v1, v3, v4, v5, v6, v7, v8, v10, v11, v14, v16⟩ := v
  simp only at h3v HQ
  subst h3v
  obtain ⟨hs1, hd1, q0, q1, q3, q4, q5, q6, q7, q8, q10, q11, q14, q16⟩ := hF
  obtain ⟨u, hu⟩ := frame_ex t' hs1
  simp only at hd1 q0 q1 q3 q4 q5 q6 q7 q8 q10 q11 q14 q16
  subst hu hd1
  have e0 : u 0 = v0 := q0
  have e1 : u 1 = v1 := q1
  have e3 : u 3 = .int .i64 (i : Int) := q3
  have e4 : u 4 = v4 := q4
  have e5 : u 5 = v5 := q5
  have e6 : u 6 = v6 := q6
  have e7 : u 7 = v7 := q7
  have e8 : u 8 = v8 := q8
  have e10 : u 10 = v10 := q10
  have e11 : u 11 = v11 := q11
  have e14 : u 14 = v14 := q14
  have e16 : u 16 = v16 := q16
  rw [e0, e1, e3, e4, e5, e6, e7, e8, e10, e11, e14, e16]
  clear q0 e0 q1 e1 q3 e3 q4 e4 q5 e5 q6 e6 q7 e7 q8 e8 q10 e10 q11 e11 q14 e14 q16 e16 hs1
  simp only [Try.f5, Option.getD_some, regOf] at hc
  injection hc with hc
  subst hc
  go_wp2
  exact HQ.out _ ⟨rfl, rfl, rfl, rfl, (by first | rfl | (simp; done) | (go_num; done)), rfl, rfl, rfl, rfl, rfl, rfl, rfl, rfl, rfl⟩
set_option maxHeartbeats 8000000 in
set_option maxRecDepth 100000 in
theorem ex_r8 {K : Act → World → Prop} {c : Code} (hc : regOf (Try.f5.body.getD .skip) 8 = some c) (a : Act) {v : Vex} {wq : World} {L : LOC} {yn yt : ByteArray} {yc yx cd m : Int} (hF : Fex a v) (h1v : v.v1 = .pointer (some ⟨L.b, 0, none⟩)) (hE : Calls Try.prog 11 #[.string ⟨#[115]⟩, .pointer (some ⟨L.b, 0, none⟩), .int .i64 2] wq fun e w' => e = .returned (.tuple #[.agg #[.string yn, .string yt, .int .i64 yc, .int .i64 yx], .int .i64 cd]) ∧ Below wq.heap.size wq w')
    (hQ : ∀ a' w1, Fex a' { v with v4 := .pointer (some ⟨w1.heap.size, 0, none⟩), v5 := .int .i64 cd } → Below wq.heap.size wq w1 → K a' (w1.alloc (.cells #[.string yn, .string yt, .int .i64 yc, .int .i64 yx] 23))) :
    Code.wp Try.prog c (Exit.then K fun _ _ _ => False) a wq := by
  have HQ := hide hQ
  clear hQ
  obtain ⟨t', d'⟩ := a
  obtain ⟨v0, v1, v3, v4, v5, v6, v7, v8, v10, v11, v14, v16⟩ := v
  simp only at h1v HQ
  subst h1v
  obtain ⟨hs1, hd1, q0, q1, q3, q4, q5, q6, q7, q8, q10, q11, q14, q16⟩ := hF
  obtain ⟨u, hu⟩ := frame_ex t' hs1
  simp only at hd1 q0 q1 q3 q4 q5 q6 q7 q8 q10 q11 q14 q16
  subst hu hd1
  have e0 : u 0 = v0 := q0
  have e1 : u 1 = .pointer (some ⟨L.b, 0, none⟩) := q1
  have e3 : u 3 = v3 := q3
  have e4 : u 4 = v4 := q4
  have e5 : u 5 = v5 := q5
  have e6 : u 6 = v6 := q6
  have e7 : u 7 = v7 := q7
  have e8 : u 8 = v8 := q8
  have e10 : u 10 = v10 := q10
  have e11 : u 11 = v11 := q11
  have e14 : u 14 = v14 := q14
  have e16 : u 16 = v16 := q16
  rw [e0, e1, e3, e4, e5, e6, e7, e8, e10, e11, e14, e16]
  clear q0 e0 q1 e1 q3 e3 q4 e4 q5 e5 q6 e6 q7 e7 q8 e8 q10 e10 q11 e11 q14 e14 q16 e16 hs1
  simp only [Try.f5, Option.getD_some, regOf] at hc
  injection hc with hc
  subst hc
  have HE := hide hE
  clear hE
  go_wp2_with (go_at_call 11; refine HE.out.mono ?_; rintro e w1 ⟨rfl, b1⟩; have B1 := hide b1; clear b1)
  exact HQ.out _ _ ⟨rfl, rfl, rfl, rfl, rfl, rfl, rfl, rfl, rfl, rfl, rfl, rfl, rfl, rfl⟩ B1.out
set_option maxHeartbeats 8000000 in
set_option maxRecDepth 100000 in
theorem ex_r9 {K : Act → World → Prop} {c : Code} (hc : regOf (Try.f5.body.getD .skip) 9 = some c) (a : Act) {v : Vex} {wq : World} {sb : Nat} {xn xt yn yt : ByteArray} {xc xx yc yx cd : Int} {L : LOC} {R : Option Addr → Nat → Nat → World → Prop} (hF : Fex a v) (h4v : v.v4 = .pointer (some ⟨sb, 0, none⟩)) (h1v : v.v1 = .pointer (some ⟨L.b, 0, none⟩)) (hS : wq.heap[sb]? = some (.cells #[.string xn, .string xt, .int .i64 xc, .int .i64 xx] 23 (0, 0))) (hE : Calls Try.prog 16 #[.agg #[.string xn, .string xt, .int .i64 xc, .int .i64 xx], .pointer (some ⟨L.b, 0, none⟩), .int .i64 3] wq fun e w' => ∃ ao ln cp, e = .returned (.tuple #[.agg #[.string yn, .string yt, .int .i64 yc, .int .i64 yx], .slice ao ln cp, .int .i64 cd]) ∧ Below wq.heap.size wq w' ∧ R ao ln cp w')
    (hQ : ∀ a' w1 ao ln cp, Fex a' { v with v6 := .slice ao ln cp, v7 := .int .i64 cd } → Below wq.heap.size wq w1 → R ao ln cp w1 → K a' (set4 w1 sb (.string yn) (.string yt) (.int .i64 yc) (.int .i64 yx))) :
    Code.wp Try.prog c (Exit.then K fun _ _ _ => False) a wq := by
  have HQ := hide hQ
  clear hQ
  obtain ⟨t', d'⟩ := a
  obtain ⟨v0, v1, v3, v4, v5, v6, v7, v8, v10, v11, v14, v16⟩ := v
  simp only at h4v h1v HQ
  subst h4v h1v
  obtain ⟨hs1, hd1, q0, q1, q3, q4, q5, q6, q7, q8, q10, q11, q14, q16⟩ := hF
  obtain ⟨u, hu⟩ := frame_ex t' hs1
  simp only at hd1 q0 q1 q3 q4 q5 q6 q7 q8 q10 q11 q14 q16
  subst hu hd1
  have e0 : u 0 = v0 := q0
  have e1 : u 1 = .pointer (some ⟨L.b, 0, none⟩) := q1
  have e3 : u 3 = v3 := q3
  have e4 : u 4 = .pointer (some ⟨sb, 0, none⟩) := q4
  have e5 : u 5 = v5 := q5
  have e6 : u 6 = v6 := q6
  have e7 : u 7 = v7 := q7
  have e8 : u 8 = v8 := q8
  have e10 : u 10 = v10 := q10
  have e11 : u 11 = v11 := q11
  have e14 : u 14 = v14 := q14
  have e16 : u 16 = v16 := q16
  rw [e0, e1, e3, e4, e5, e6, e7, e8, e10, e11, e14, e16]
  clear q0 e0 q1 e1 q3 e3 q4 e4 q5 e5 q6 e6 q7 e7 q8 e8 q10 e10 q11 e11 q14 e14 q16 e16 hs1
  simp only [Try.f5, Option.getD_some, regOf] at hc
  injection hc with hc
  subst hc
  have HE := hide hE
  have HS := hide hS
  obtain ⟨⟨c0, c1, c2, c3⟩, _⟩ := box4 hS
  unfold set4 at HQ
  clear hE hS
  go_wp2_with (go_at_call 16; refine HE.out.mono ?_; rintro e w1 ⟨ao, ln, cp, rfl, b1, r1⟩; have R1 := hide r1; clear r1; have hR2 := Below.at b1 HS.out; obtain ⟨⟨d0, d1, d2, d3⟩, f0, f1, f2, f3⟩ := box4 hR2; have B1 := hide b1; clear b1 hR2 c0 c1 c2 c3)
  exact HQ.out _ _ _ _ _ ⟨rfl, rfl, rfl, rfl, rfl, rfl, rfl, rfl, rfl, rfl, rfl, rfl, rfl, rfl⟩ B1.out R1.out
set_option maxHeartbeats 8000000 in
set_option maxRecDepth 100000 in
theorem ex_r10 {K : Act → World → Prop} {c : Code} (hc : regOf (Try.f5.body.getD .skip) 10 = some c) (a : Act) {v : Vex} {wq : World} {sb : Nat} {xn xt yn yt : ByteArray} {xc xx yc yx cd : Int} {L : LOC} {R : Option Addr → Nat → Nat → World → Prop} (hF : Fex a v) (h4v : v.v4 = .pointer (some ⟨sb, 0, none⟩)) (h1v : v.v1 = .pointer (some ⟨L.b, 0, none⟩)) (hS : wq.heap[sb]? = some (.cells #[.string xn, .string xt, .int .i64 xc, .int .i64 xx] 23 (0, 0))) (hE : Calls Try.prog 16 #[.agg #[.string xn, .string xt, .int .i64 xc, .int .i64 xx], .pointer (some ⟨L.b, 0, none⟩), .int .i64 1] wq fun e w' => ∃ ao ln cp, e = .returned (.tuple #[.agg #[.string yn, .string yt, .int .i64 yc, .int .i64 yx], .slice ao ln cp, .int .i64 cd]) ∧ Below wq.heap.size wq w' ∧ R ao ln cp w')
    (hQ : ∀ a' w1 ao ln cp, Fex a' { v with v8 := .slice ao ln cp } → Below wq.heap.size wq w1 → R ao ln cp w1 → K a' (set4 w1 sb (.string yn) (.string yt) (.int .i64 yc) (.int .i64 yx))) :
    Code.wp Try.prog c (Exit.then K fun _ _ _ => False) a wq := by
  have HQ := hide hQ
  clear hQ
  obtain ⟨t', d'⟩ := a
  obtain ⟨v0, v1, v3, v4, v5, v6, v7, v8, v10, v11, v14, v16⟩ := v
  simp only at h4v h1v HQ
  subst h4v h1v
  obtain ⟨hs1, hd1, q0, q1, q3, q4, q5, q6, q7, q8, q10, q11, q14, q16⟩ := hF
  obtain ⟨u, hu⟩ := frame_ex t' hs1
  simp only at hd1 q0 q1 q3 q4 q5 q6 q7 q8 q10 q11 q14 q16
  subst hu hd1
  have e0 : u 0 = v0 := q0
  have e1 : u 1 = .pointer (some ⟨L.b, 0, none⟩) := q1
  have e3 : u 3 = v3 := q3
  have e4 : u 4 = .pointer (some ⟨sb, 0, none⟩) := q4
  have e5 : u 5 = v5 := q5
  have e6 : u 6 = v6 := q6
  have e7 : u 7 = v7 := q7
  have e8 : u 8 = v8 := q8
  have e10 : u 10 = v10 := q10
  have e11 : u 11 = v11 := q11
  have e14 : u 14 = v14 := q14
  have e16 : u 16 = v16 := q16
  rw [e0, e1, e3, e4, e5, e6, e7, e8, e10, e11, e14, e16]
  clear q0 e0 q1 e1 q3 e3 q4 e4 q5 e5 q6 e6 q7 e7 q8 e8 q10 e10 q11 e11 q14 e14 q16 e16 hs1
  simp only [Try.f5, Option.getD_some, regOf] at hc
  injection hc with hc
  subst hc
  have HE := hide hE
  have HS := hide hS
  obtain ⟨⟨c0, c1, c2, c3⟩, _⟩ := box4 hS
  unfold set4 at HQ
  clear hE hS
  go_wp2_with (go_at_call 16; refine HE.out.mono ?_; rintro e w1 ⟨ao, ln, cp, rfl, b1, r1⟩; have R1 := hide r1; clear r1; have hR2 := Below.at b1 HS.out; obtain ⟨⟨d0, d1, d2, d3⟩, f0, f1, f2, f3⟩ := box4 hR2; have B1 := hide b1; clear b1 hR2 c0 c1 c2 c3)
  exact HQ.out _ _ _ _ _ ⟨rfl, rfl, rfl, rfl, rfl, rfl, rfl, rfl, rfl, rfl, rfl, rfl, rfl, rfl⟩ B1.out R1.out
set_option maxHeartbeats 8000000 in
set_option maxRecDepth 100000 in
theorem ex_r11 {K : Act → World → Prop} {c : Code} (hc : regOf (Try.f5.body.getD .skip) 11 = some c) (a : Act) {v : Vex} {wq : World} {sb : Nat} {xn xt yn yt : ByteArray} {xc xx yc yx cd : Int}  (hF : Fex a v) (h4v : v.v4 = .pointer (some ⟨sb, 0, none⟩)) (hS : wq.heap[sb]? = some (.cells #[.string xn, .string xt, .int .i64 xc, .int .i64 xx] 23 (0, 0))) (hE : Calls Try.prog 18 #[.agg #[.string xn, .string xt, .int .i64 xc, .int .i64 xx], .int .i64 3] wq fun e w' => e = .returned (.tuple #[.agg #[.string yn, .string yt, .int .i64 yc, .int .i64 yx], .int .i64 cd]) ∧ Below wq.heap.size wq w')
    (hQ : ∀ a' w1, Fex a' { v with v10 := .int .i64 cd } → Below wq.heap.size wq w1 → K a' (set4 w1 sb (.string yn) (.string yt) (.int .i64 yc) (.int .i64 yx))) :
    Code.wp Try.prog c (Exit.then K fun _ _ _ => False) a wq := by
  have HQ := hide hQ
  clear hQ
  obtain ⟨t', d'⟩ := a
  obtain ⟨v0, v1, v3, v4, v5, v6, v7, v8, v10, v11, v14, v16⟩ := v
  simp only at h4v HQ
  subst h4v
  obtain ⟨hs1, hd1, q0, q1, q3, q4, q5, q6, q7, q8, q10, q11, q14, q16⟩ := hF
  obtain ⟨u, hu⟩ := frame_ex t' hs1
  simp only at hd1 q0 q1 q3 q4 q5 q6 q7 q8 q10 q11 q14 q16
  subst hu hd1
  have e0 : u 0 = v0 := q0
  have e1 : u 1 = v1 := q1
  have e3 : u 3 = v3 := q3
  have e4 : u 4 = .pointer (some ⟨sb, 0, none⟩) := q4
  have e5 : u 5 = v5 := q5
  have e6 : u 6 = v6 := q6
  have e7 : u 7 = v7 := q7
  have e8 : u 8 = v8 := q8
  have e10 : u 10 = v10 := q10
  have e11 : u 11 = v11 := q11
  have e14 : u 14 = v14 := q14
  have e16 : u 16 = v16 := q16
  rw [e0, e1, e3, e4, e5, e6, e7, e8, e10, e11, e14, e16]
  clear q0 e0 q1 e1 q3 e3 q4 e4 q5 e5 q6 e6 q7 e7 q8 e8 q10 e10 q11 e11 q14 e14 q16 e16 hs1
  simp only [Try.f5, Option.getD_some, regOf] at hc
  injection hc with hc
  subst hc
  have HE := hide hE
  have HS := hide hS
  obtain ⟨⟨c0, c1, c2, c3⟩, _⟩ := box4 hS
  unfold set4 at HQ
  clear hE hS
  go_wp2_with (go_at_call 18; refine HE.out.mono ?_; rintro e w1 ⟨rfl, b1⟩; have hR2 := Below.at b1 HS.out; obtain ⟨⟨d0, d1, d2, d3⟩, f0, f1, f2, f3⟩ := box4 hR2; have B1 := hide b1; clear b1 hR2 c0 c1 c2 c3)
  exact HQ.out _ _ ⟨rfl, rfl, rfl, rfl, rfl, rfl, rfl, rfl, rfl, rfl, rfl, rfl, rfl, rfl⟩ B1.out
set_option maxHeartbeats 8000000 in
set_option maxRecDepth 100000 in
theorem ex_r12 {K : Act → World → Prop} {c : Code} (hc : regOf (Try.f5.body.getD .skip) 12 = some c) (a : Act) {v : Vex} {wq : World} {sb : Nat} {xn xt yn yt : ByteArray} {xc xx yc yx : Int}  (hF : Fex a v) (h4v : v.v4 = .pointer (some ⟨sb, 0, none⟩)) (hS : wq.heap[sb]? = some (.cells #[.string xn, .string xt, .int .i64 xc, .int .i64 xx] 23 (0, 0))) (hE : Calls Try.prog 14 #[.agg #[.string xn, .string xt, .int .i64 xc, .int .i64 xx]] wq fun e w' => e = .returned (.agg #[.string yn, .string yt, .int .i64 yc, .int .i64 yx]) ∧ Below wq.heap.size wq w')
    (hQ : ∀ a' w1, Fex a' v → Below wq.heap.size wq w1 → K a' (set4 w1 sb (.string yn) (.string yt) (.int .i64 yc) (.int .i64 yx))) :
    Code.wp Try.prog c (Exit.then K fun _ _ _ => False) a wq := by
  have HQ := hide hQ
  clear hQ
  obtain ⟨t', d'⟩ := a
  obtain ⟨v0, v1, v3, v4, v5, v6, v7, v8, v10, v11, v14, v16⟩ := v
  simp only at h4v HQ
  subst h4v
  obtain ⟨hs1, hd1, q0, q1, q3, q4, q5, q6, q7, q8, q10, q11, q14, q16⟩ := hF
  obtain ⟨u, hu⟩ := frame_ex t' hs1
  simp only at hd1 q0 q1 q3 q4 q5 q6 q7 q8 q10 q11 q14 q16
  subst hu hd1
  have e0 : u 0 = v0 := q0
  have e1 : u 1 = v1 := q1
  have e3 : u 3 = v3 := q3
  have e4 : u 4 = .pointer (some ⟨sb, 0, none⟩) := q4
  have e5 : u 5 = v5 := q5
  have e6 : u 6 = v6 := q6
  have e7 : u 7 = v7 := q7
  have e8 : u 8 = v8 := q8
  have e10 : u 10 = v10 := q10
  have e11 : u 11 = v11 := q11
  have e14 : u 14 = v14 := q14
  have e16 : u 16 = v16 := q16
  rw [e0, e1, e3, e4, e5, e6, e7, e8, e10, e11, e14, e16]
  clear q0 e0 q1 e1 q3 e3 q4 e4 q5 e5 q6 e6 q7 e7 q8 e8 q10 e10 q11 e11 q14 e14 q16 e16 hs1
  simp only [Try.f5, Option.getD_some, regOf] at hc
  injection hc with hc
  subst hc
  have HE := hide hE
  have HS := hide hS
  obtain ⟨⟨c0, c1, c2, c3⟩, _⟩ := box4 hS
  unfold set4 at HQ
  clear hE hS
  go_wp2_with (go_at_call 14; refine HE.out.mono ?_; rintro e w1 ⟨rfl, b1⟩; have hR2 := Below.at b1 HS.out; obtain ⟨⟨d0, d1, d2, d3⟩, f0, f1, f2, f3⟩ := box4 hR2; have B1 := hide b1; clear b1 hR2 c0 c1 c2 c3)
  exact HQ.out _ _ ⟨rfl, rfl, rfl, rfl, rfl, rfl, rfl, rfl, rfl, rfl, rfl, rfl, rfl, rfl⟩ B1.out
set_option maxHeartbeats 8000000 in
set_option maxRecDepth 100000 in
theorem ex_r13 {K : Act → World → Prop} {c : Code} (hc : regOf (Try.f5.body.getD .skip) 13 = some c) (a : Act) {v : Vex} {wq : World} {sb : Nat} {xn xt yn yt : ByteArray} {xc xx yc yx cd : Int} {L : LOC} {R : Option Addr → Nat → Nat → World → Prop} (hF : Fex a v) (h4v : v.v4 = .pointer (some ⟨sb, 0, none⟩)) (h1v : v.v1 = .pointer (some ⟨L.b, 0, none⟩)) (hS : wq.heap[sb]? = some (.cells #[.string xn, .string xt, .int .i64 xc, .int .i64 xx] 23 (0, 0))) (hE : Calls Try.prog 16 #[.agg #[.string xn, .string xt, .int .i64 xc, .int .i64 xx], .pointer (some ⟨L.b, 0, none⟩), .int .i64 1] wq fun e w' => ∃ ao ln cp, e = .returned (.tuple #[.agg #[.string yn, .string yt, .int .i64 yc, .int .i64 yx], .slice ao ln cp, .int .i64 cd]) ∧ Below wq.heap.size wq w' ∧ R ao ln cp w')
    (hQ : ∀ a' w1 ao ln cp, Fex a' { v with v11 := .slice ao ln cp } → Below wq.heap.size wq w1 → R ao ln cp w1 → K a' (set4 w1 sb (.string yn) (.string yt) (.int .i64 yc) (.int .i64 yx))) :
    Code.wp Try.prog c (Exit.then K fun _ _ _ => False) a wq := by
  have HQ := hide hQ
  clear hQ
  obtain ⟨t', d'⟩ := a
  obtain ⟨v0, v1, v3, v4, v5, v6, v7, v8, v10, v11, v14, v16⟩ := v
  simp only at h4v h1v HQ
  subst h4v h1v
  obtain ⟨hs1, hd1, q0, q1, q3, q4, q5, q6, q7, q8, q10, q11, q14, q16⟩ := hF
  obtain ⟨u, hu⟩ := frame_ex t' hs1
  simp only at hd1 q0 q1 q3 q4 q5 q6 q7 q8 q10 q11 q14 q16
  subst hu hd1
  have e0 : u 0 = v0 := q0
  have e1 : u 1 = .pointer (some ⟨L.b, 0, none⟩) := q1
  have e3 : u 3 = v3 := q3
  have e4 : u 4 = .pointer (some ⟨sb, 0, none⟩) := q4
  have e5 : u 5 = v5 := q5
  have e6 : u 6 = v6 := q6
  have e7 : u 7 = v7 := q7
  have e8 : u 8 = v8 := q8
  have e10 : u 10 = v10 := q10
  have e11 : u 11 = v11 := q11
  have e14 : u 14 = v14 := q14
  have e16 : u 16 = v16 := q16
  rw [e0, e1, e3, e4, e5, e6, e7, e8, e10, e11, e14, e16]
  clear q0 e0 q1 e1 q3 e3 q4 e4 q5 e5 q6 e6 q7 e7 q8 e8 q10 e10 q11 e11 q14 e14 q16 e16 hs1
  simp only [Try.f5, Option.getD_some, regOf] at hc
  injection hc with hc
  subst hc
  have HE := hide hE
  have HS := hide hS
  obtain ⟨⟨c0, c1, c2, c3⟩, _⟩ := box4 hS
  unfold set4 at HQ
  clear hE hS
  go_wp2_with (go_at_call 16; refine HE.out.mono ?_; rintro e w1 ⟨ao, ln, cp, rfl, b1, r1⟩; have R1 := hide r1; clear r1; have hR2 := Below.at b1 HS.out; obtain ⟨⟨d0, d1, d2, d3⟩, f0, f1, f2, f3⟩ := box4 hR2; have B1 := hide b1; clear b1 hR2 c0 c1 c2 c3)
  exact HQ.out _ _ _ _ _ ⟨rfl, rfl, rfl, rfl, rfl, rfl, rfl, rfl, rfl, rfl, rfl, rfl, rfl, rfl⟩ B1.out R1.out
set_option maxHeartbeats 8000000 in
set_option maxRecDepth 100000 in
theorem ex_r14 {K : Act → World → Prop} {c : Code} (hc : regOf (Try.f5.body.getD .skip) 14 = some c) (a : Act) {v : Vex} {wq : World} {sb : Nat} {xn xt yn yt : ByteArray} {xc xx yc yx cd : Int}  (hF : Fex a v) (h4v : v.v4 = .pointer (some ⟨sb, 0, none⟩)) (hS : wq.heap[sb]? = some (.cells #[.string xn, .string xt, .int .i64 xc, .int .i64 xx] 23 (0, 0))) (hE : Calls Try.prog 18 #[.agg #[.string xn, .string xt, .int .i64 xc, .int .i64 xx], .int .i64 9] wq fun e w' => e = .returned (.tuple #[.agg #[.string yn, .string yt, .int .i64 yc, .int .i64 yx], .int .i64 cd]) ∧ Below wq.heap.size wq w')
    (hQ : ∀ a' w1, Fex a' { v with v14 := .int .i64 cd } → Below wq.heap.size wq w1 → K a' w1) :
    Code.wp Try.prog c (Exit.then K fun _ _ _ => False) a wq := by
  have HQ := hide hQ
  clear hQ
  obtain ⟨t', d'⟩ := a
  obtain ⟨v0, v1, v3, v4, v5, v6, v7, v8, v10, v11, v14, v16⟩ := v
  simp only at h4v HQ
  subst h4v
  obtain ⟨hs1, hd1, q0, q1, q3, q4, q5, q6, q7, q8, q10, q11, q14, q16⟩ := hF
  obtain ⟨u, hu⟩ := frame_ex t' hs1
  simp only at hd1 q0 q1 q3 q4 q5 q6 q7 q8 q10 q11 q14 q16
  subst hu hd1
  have e0 : u 0 = v0 := q0
  have e1 : u 1 = v1 := q1
  have e3 : u 3 = v3 := q3
  have e4 : u 4 = .pointer (some ⟨sb, 0, none⟩) := q4
  have e5 : u 5 = v5 := q5
  have e6 : u 6 = v6 := q6
  have e7 : u 7 = v7 := q7
  have e8 : u 8 = v8 := q8
  have e10 : u 10 = v10 := q10
  have e11 : u 11 = v11 := q11
  have e14 : u 14 = v14 := q14
  have e16 : u 16 = v16 := q16
  rw [e0, e1, e3, e4, e5, e6, e7, e8, e10, e11, e14, e16]
  clear q0 e0 q1 e1 q3 e3 q4 e4 q5 e5 q6 e6 q7 e7 q8 e8 q10 e10 q11 e11 q14 e14 q16 e16 hs1
  simp only [Try.f5, Option.getD_some, regOf] at hc
  injection hc with hc
  subst hc
  have HE := hide hE
  obtain ⟨⟨c0, c1, c2, c3⟩, _⟩ := box4 hS
  clear hE hS
  go_wp2_with (go_at_call 18; refine HE.out.mono ?_; rintro e w1 ⟨rfl, b1⟩; have B1 := hide b1; clear b1 c0 c1 c2 c3)
  exact HQ.out _ _ ⟨rfl, rfl, rfl, rfl, rfl, rfl, rfl, rfl, rfl, rfl, rfl, rfl, rfl, rfl⟩ (B1.out.alloc B1.out.size _)
set_option maxHeartbeats 8000000 in
set_option maxRecDepth 100000 in
theorem ex_r15 {K : Act → World → Prop} {c : Code} (hc : regOf (Try.f5.body.getD .skip) 15 = some c) (a : Act) {v : Vex} {wq : World} {sb : Nat} {xn xt yn yt : ByteArray} {xc xx yc yx cd : Int} {L : LOC} (hF : Fex a v) (h4v : v.v4 = .pointer (some ⟨sb, 0, none⟩)) (h1v : v.v1 = .pointer (some ⟨L.b, 0, none⟩)) (hS : wq.heap[sb]? = some (.cells #[.string xn, .string xt, .int .i64 xc, .int .i64 xx] 23 (0, 0))) (hE : Calls Try.prog 20 #[.agg #[.string xn, .string xt, .int .i64 xc, .int .i64 xx], .pointer (some ⟨L.b, 0, none⟩), .int .i64 11] wq fun e w' => e = .returned (.tuple #[.agg #[.string yn, .string yt, .int .i64 yc, .int .i64 yx], .int .i64 cd]) ∧ Below wq.heap.size wq w')
    (hQ : ∀ a' w1, Fex a' { v with v16 := .int .i64 cd } → Below wq.heap.size wq w1 → K a' w1) :
    Code.wp Try.prog c (Exit.then K fun _ _ _ => False) a wq := by
  have HQ := hide hQ
  clear hQ
  obtain ⟨t', d'⟩ := a
  obtain ⟨v0, v1, v3, v4, v5, v6, v7, v8, v10, v11, v14, v16⟩ := v
  simp only at h4v h1v HQ
  subst h4v h1v
  obtain ⟨hs1, hd1, q0, q1, q3, q4, q5, q6, q7, q8, q10, q11, q14, q16⟩ := hF
  obtain ⟨u, hu⟩ := frame_ex t' hs1
  simp only at hd1 q0 q1 q3 q4 q5 q6 q7 q8 q10 q11 q14 q16
  subst hu hd1
  have e0 : u 0 = v0 := q0
  have e1 : u 1 = .pointer (some ⟨L.b, 0, none⟩) := q1
  have e3 : u 3 = v3 := q3
  have e4 : u 4 = .pointer (some ⟨sb, 0, none⟩) := q4
  have e5 : u 5 = v5 := q5
  have e6 : u 6 = v6 := q6
  have e7 : u 7 = v7 := q7
  have e8 : u 8 = v8 := q8
  have e10 : u 10 = v10 := q10
  have e11 : u 11 = v11 := q11
  have e14 : u 14 = v14 := q14
  have e16 : u 16 = v16 := q16
  rw [e0, e1, e3, e4, e5, e6, e7, e8, e10, e11, e14, e16]
  clear q0 e0 q1 e1 q3 e3 q4 e4 q5 e5 q6 e6 q7 e7 q8 e8 q10 e10 q11 e11 q14 e14 q16 e16 hs1
  simp only [Try.f5, Option.getD_some, regOf] at hc
  injection hc with hc
  subst hc
  have HE := hide hE
  obtain ⟨⟨c0, c1, c2, c3⟩, _⟩ := box4 hS
  clear hE hS
  go_wp2_with (go_at_call 20; refine HE.out.mono ?_; rintro e w1 ⟨rfl, b1⟩; have B1 := hide b1; clear b1 c0 c1 c2 c3)
  exact HQ.out _ _ ⟨rfl, rfl, rfl, rfl, rfl, rfl, rfl, rfl, rfl, rfl, rfl, rfl, rfl, rfl⟩ (B1.out.alloc B1.out.size _)
set_option maxHeartbeats 8000000 in
set_option maxRecDepth 100000 in
theorem ex_r16 {K : Act → World → Prop} {c : Code} (hc : regOf (Try.f5.body.getD .skip) 16 = some c) (a : Act) {v : Vex} {wq : World} {sb k1 k2 k3 : Nat} {a1 a2 a3 : Addr} {xn xt : ByteArray} {xc xx : Int} (hF : Fex a v) (h4v : v.v4 = .pointer (some ⟨sb, 0, none⟩)) (h5v : v.v5 = .int .i64 0) (h6v : v.v6 = .slice (some a1) 3 k1) (h7v : v.v7 = .int .i64 0) (h8v : v.v8 = .slice (some a2) 1 k2) (h10v : v.v10 = .int .i64 0) (h11v : v.v11 = .slice (some a3) 1 k3) (h14v : v.v14 = .int .i64 7) (h16v : v.v16 = .int .i64 7) (hS : wq.heap[sb]? = some (.cells #[.string xn, .string xt, .int .i64 xc, .int .i64 xx] 23 (0, 0))) (p1 : wq.cell? a1 = some (.int .i64 2)) (p2 : wq.cell? a2 = some (.int .i64 5)) (p3 : wq.cell? a3 = some (.int .i64 4)) (hE : Calls Try.prog 25 #[.agg #[.string xn, .string xt, .int .i64 xc, .int .i64 xx]] wq fun e w' => e = .returned (.bool true) ∧ Below wq.heap.size wq w')
    (hQ : ∀ a' w', Fex a' { v with v0 := .bool true } → Below wq.heap.size wq w' → K a' w') :
    Code.wp Try.prog c (Exit.then K fun _ _ _ => False) a wq := by
  have HQ := hide hQ
  clear hQ
  obtain ⟨t', d'⟩ := a
  obtain ⟨v0, v1, v3, v4, v5, v6, v7, v8, v10, v11, v14, v16⟩ := v
  simp only at h4v h5v h6v h7v h8v h10v h11v h14v h16v HQ
  subst h4v h5v h6v h7v h8v h10v h11v h14v h16v
  obtain ⟨hs1, hd1, q0, q1, q3, q4, q5, q6, q7, q8, q10, q11, q14, q16⟩ := hF
  obtain ⟨u, hu⟩ := frame_ex t' hs1
  simp only at hd1 q0 q1 q3 q4 q5 q6 q7 q8 q10 q11 q14 q16
  subst hu hd1
  have e0 : u 0 = v0 := q0
  have e1 : u 1 = v1 := q1
  have e3 : u 3 = v3 := q3
  have e4 : u 4 = .pointer (some ⟨sb, 0, none⟩) := q4
  have e5 : u 5 = .int .i64 0 := q5
  have e6 : u 6 = .slice (some a1) 3 k1 := q6
  have e7 : u 7 = .int .i64 0 := q7
  have e8 : u 8 = .slice (some a2) 1 k2 := q8
  have e10 : u 10 = .int .i64 0 := q10
  have e11 : u 11 = .slice (some a3) 1 k3 := q11
  have e14 : u 14 = .int .i64 7 := q14
  have e16 : u 16 = .int .i64 7 := q16
  rw [e0, e1, e3, e4, e5, e6, e7, e8, e10, e11, e14, e16]
  clear q0 e0 q1 e1 q3 e3 q4 e4 q5 e5 q6 e6 q7 e7 q8 e8 q10 e10 q11 e11 q14 e14 q16 e16 hs1
  simp only [Try.f5, Option.getD_some, regOf] at hc
  injection hc with hc
  subst hc
  have HE := hide hE
  obtain ⟨⟨c0, c1, c2, c3⟩, _⟩ := box4 hS
  clear hE hS
  go_wp2_with (go_at_call 25; refine HE.out.mono ?_; rintro e w1 ⟨rfl, b1⟩; have B1 := hide b1; clear b1)
  exact HQ.out _ _ ⟨rfl, rfl, rfl, rfl, rfl, rfl, rfl, rfl, rfl, rfl, rfl, rfl, rfl, rfl⟩ B1.out
end Go.Proofs.Ytominplelmbecaa.Y
