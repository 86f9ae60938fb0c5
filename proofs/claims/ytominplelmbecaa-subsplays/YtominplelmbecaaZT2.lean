/-
  A topic on lists and in memory; New, Low, End, placeOf, as they run.
-/
import Derived.Test.YtominplelmbecaaZT1
import Derived.Test.YtominplelmbecaaZTO
import Derived.Test.YtominplelmbecaaZC6
namespace Go.Proofs.Ytominplelmbecaa.Y
open Go.RowKit Go.Maps
set_option maxRecDepth 100000

/-- How what a producer asked last reads: the offset, the number. -/
def lastR (v : Value) : Option (DataW Nat × List MemPlace) :=
  match v with
  | .agg ⟨[.int .i64 a, .int .i64 b]⟩ => some (.agg [.lit (.int .i64 a), .lit (.int .i64 b)], [])
  | _ => none
theorem lastR_mk (a b : Int) : lastR (.agg #[.int .i64 a, .int .i64 b]) = some (.agg [.lit (.int .i64 a), .lit (.int .i64 b)], []) := rfl
theorem lastR_inv {v : Value} {y : DataW Nat × List MemPlace} (h : lastR v = some y) : ∃ a b : Int, v = .agg #[.int .i64 a, .int .i64 b] ∧ y = (.agg [.lit (.int .i64 a), .lit (.int .i64 b)], []) := by
  unfold lastR at h
  split at h
  · exact ⟨_, _, rfl, (Option.some.inj h).symm⟩
  · cases h
/-- What a producer asked last. -/
def pget (D : DataW Nat) (k : List UInt8) : Option (Int × Int) :=
  match D.atKey (.string k) .nil with
  | .agg [.lit (.int _ a), .lit (.int _ b)] => some (a, b)
  | _ => none
def pput (D : DataW Nat) (k : List UInt8) (a b : Int) : DataW Nat := D.put (.string k) (.agg [.lit (.int .i64 a), .lit (.int .i64 b)])
theorem pget_put_same {D : DataW Nat} (h : IsMap D) (k : List UInt8) (a b : Int) : pget (pput D k a b) k = some (a, b) := by
  unfold pget pput
  rw [atKey_put_same h (keyLit k)]
theorem pget_put_other (D : DataW Nat) {k k' : List UInt8} (hne : k' ≠ k) (a b : Int) : pget (pput D k a b) k' = pget D k' := by
  unfold pget pput
  rw [atKey_put_other (fun e => hne (by injection e))]
theorem pget_empty (k : List UInt8) : pget (.map []) k = none := rfl
theorem zeroLast (w : World) : (zeroValue 77).run Try.prog w = .ok (.agg #[.int .i64 0, .int .i64 0]) w := by kernel_rfl
def gotA (o : Option (Int × Int)) : Int := (o.getD (0, 0)).1
def gotB (o : Option (Int × Int)) : Int := (o.getD (0, 0)).2
theorem plook {w : World} {mb n : Nat} {D : DataW Nat} (hown : w.ownsMap Try.prog 9 lastR mb n D) (s : ByteArray) (hs : s.size ≤ maxLen) :
    (Instr.lookup 67 (.map (some mb)) (.string s) true).run Try.prog w = .ok (.tuple #[.agg #[.int .i64 (gotA (pget D s.data.toList)), .int .i64 (gotB (pget D s.data.toList))], .bool (pget D s.data.toList).isSome]) w := by
  have hk := Go.WideMaps.keyOf_string_mk (P := Try.prog) Try.underlying9 (s := s) hs
  obtain ⟨v, ps, hrun, hv⟩ := hown.look_ok keyedS Try.underlying67 (zeroLast w) (lastR_mk 0 0) hk
  rw [hrun]
  have hz : ∀ z, Maps.has D (.string s.data.toList) = true → D.atKey (.string s.data.toList) z = D.atKey (.string s.data.toList) (.agg [.lit (.int .i64 0), .lit (.int .i64 0)]) := by
    intro z hh
    obtain ⟨es, rfl⟩ := hown.isMap
    unfold Maps.has at hh
    simp only at hh
    unfold DataW.atKey
    simp only
    cases hf : es.find? (fun p => p.1.sameKey (.string s.data.toList)) with
    | none =>
      rw [List.find?_eq_none] at hf
      rw [List.any_eq_true] at hh
      obtain ⟨p, hp, hp2⟩ := hh
      exact absurd hp2 (by simpa using hf p hp)
    | some p => rfl
  cases hh : Maps.has D (.string s.data.toList) with
  | false =>
    rw [atKey_of_not_has hh] at hv
    obtain ⟨a, b, rfl, e⟩ := lastR_inv hv
    have e1 := congrArg Prod.fst e
    simp only at e1
    injection e1 with e1
    simp at e1
    obtain ⟨rfl, rfl⟩ := e1
    have hp : pget D s.data.toList = none := by unfold pget; rw [atKey_of_not_has hh]
    rw [hp]
    rfl
  | true =>
    obtain ⟨a, b, rfl, e⟩ := lastR_inv hv
    have e1 := congrArg Prod.fst e
    simp only at e1
    have hp : pget D s.data.toList = some (a, b) := by unfold pget; rw [hz _ hh, e1]
    rw [hp]
    rfl

/-- A topic. -/
structure TG where
  name : ByteArray
  low : Nat
  fin : Nat
  recs : List Rec
  D : DataW Nat
  n : Nat
def TG.new (name : ByteArray) : TG := ⟨name, 0, 0, [], .map [], 0⟩
/-- A record that may be. -/
structure RightT (G : TG) (r : Rec) : Prop where
  lo : (G.low : Int) ≤ r.off
  hi : r.off < (G.fin : Int)
  s0 : 0 ≤ r.seq
  s1 : r.seq ≤ 9007199254740991
  p : r.prod.size ≤ 20
  k : r.key.size ≤ 100
  v : r.val.size ≤ 1000
/-- A topic that may be, with at most c records, and producers. -/
structure TG.Ok (c : Nat) (G : TG) : Prop where
  word : wordB G.name = true
  rises : Rises G.recs
  right : ∀ r ∈ G.recs, RightT G r
  low : G.low ≤ G.fin
  fin : G.fin ≤ 9007199254740991 + c
  len : G.recs.length ≤ c
  cnt : G.n ≤ c
  big : c ≤ 100000
theorem TG.Ok.mono {c d : Nat} {G : TG} (h : G.Ok c) (hd : c ≤ d) (hb : d ≤ 100000) : G.Ok d := ⟨h.word, h.rises, h.right, h.low, by have := h.fin; omega, by have := h.len; omega, by have := h.cnt; omega, hb⟩
theorem TG.Ok.ok {c : Nat} {G : TG} (h : G.Ok c) : ∀ r ∈ G.recs, r.ok := by
  intro r hr
  obtain ⟨h1, h2, h3, h4, h5, h6, h7⟩ := h.right r hr
  have h8 := h.fin
  have h9 := h.big
  exact ⟨by omega, by omega, by omega, by omega, by omega, by omega, by omega⟩
/-- Where it lies. -/
structure LOC where
  b : Nat
  mb : Nat
  ro : Option Addr
  rc : Nat
def LOC.rv (L : LOC) (n : Nat) : Value := .slice L.ro n L.rc
def LOC.own (L : LOC) (j : Nat) : Prop := j = L.b ∨ j = L.mb ∨ (L.rv 0).ownBlock = some j
structure TAt (w : World) (L : LOC) (G : TG) : Prop where
  box : w.heap[L.b]? = some (.cells #[.string G.name, .int .i64 G.low, .int .i64 G.fin, .slice L.ro G.recs.length L.rc, .map (some L.mb)] 69 (0, 0))
  row : OwnsQ w 63 5 (.slice L.ro G.recs.length L.rc) G.recs.length (recCells G.recs)
  map : w.ownsMap Try.prog 9 lastR L.mb G.n G.D
theorem own_block (ao : Option Addr) (n m c : Nat) : (Value.slice ao n c).ownBlock = (Value.slice ao m c).ownBlock := by cases ao <;> rfl
theorem TAt.keep {w w' : World} {L : LOC} {G : TG} {own : Nat → Prop} (h : TAt w L G) (ht : Touch own w w') (hn : ∀ j, L.own j → ¬ own j) : TAt w' L G :=
  ⟨ht.at h.box (hn _ (.inl rfl)), h.row.keep ht (fun j hj => hn j (.inr (.inr ((own_block _ _ _ _).trans hj)))), ht.map h.map (hn _ (.inr (.inl rfl)))⟩
theorem TAt.below {w w' : World} {L : LOC} {G : TG} (h : TAt w L G) (hb : Below w.heap.size w w') : TAt w' L G := h.keep (own := fun _ => False) (Touch.of_below hb) fun _ _ e => e
theorem TAt.lt {w : World} {L : LOC} {G : TG} (h : TAt w L G) {j : Nat} (hj : L.own j) : j < w.heap.size := by
  rcases hj with rfl | rfl | hj
  · exact heap_lt h.box
  · obtain ⟨es, c, hb, _⟩ := h.map
    exact heap_lt hb
  · exact h.row.lt ((own_block _ _ _ _).trans hj)
theorem TAt.mb_ne {w : World} {L : LOC} {G : TG} (h : TAt w L G) : L.mb ≠ L.b := by
  intro e
  obtain ⟨es, c, hb, _⟩ := h.map
  rw [e, h.box] at hb
  cases hb
theorem TAt.row_ne {w : World} {L : LOC} {G : TG} (h : TAt w L G) : (Value.slice L.ro G.recs.length L.rc).ownBlock ≠ some L.b := by
  intro e
  have := h.row.type e h.box
  exact absurd this (by decide)
theorem TAt.row_mb {w : World} {L : LOC} {G : TG} (h : TAt w L G) : (Value.slice L.ro G.recs.length L.rc).ownBlock ≠ some L.mb := by
  intro e
  obtain ⟨es, c, hb, _⟩ := h.map
  rcases h.row.2 with ⟨hv, _⟩ | ⟨g, off, cap, cur, hv, hg, _⟩
  · rw [hv] at e; cases e
  · rw [hv] at e
    obtain rfl : g = L.mb := Option.some.inj e
    rw [hb] at hg
    cases hg
theorem recs_of_q {w : World} {v : Value} {l : List Rec} (h : OwnsQ w 63 5 v l.length (recCells l)) : RecsAt w v l := by
  rcases h.2 with ⟨h1, h2⟩ | ⟨g, off, cap, cur, hv, hh, hn, hc, hs, ht⟩
  · exact ⟨none, 0, by rw [h1, h2], by omega, fun i hi => by omega⟩
  · refine ⟨some ⟨g, off, none⟩, cap, hv, ?_, fun i hi => ⟨g, off, rfl, (Array.getElem?_eq_some_iff.1 hh).1, ?_⟩⟩
    · unfold maxLen at hc
      omega
    · intro j hj
      rw [Lib.cell_of_heap hh, ← recCells_get l i j hi hj, ← ht (i * 5 + j) (by omega), Nat.add_assoc]
theorem TAt.recs {w : World} {L : LOC} {G : TG} (h : TAt w L G) : RecsAt w (.slice L.ro G.recs.length L.rc) G.recs := recs_of_q h.row
/-- The cells of a topic's box. -/
theorem TAt.cells {w : World} {L : LOC} {G : TG} (h : TAt w L G) : w.cell? ⟨L.b, 0, none⟩ = some (.string G.name) ∧ w.cell? ⟨L.b, 1, none⟩ = some (.int .i64 G.low) ∧ w.cell? ⟨L.b, 2, none⟩ = some (.int .i64 G.fin) ∧ w.cell? ⟨L.b, 3, none⟩ = some (.slice L.ro G.recs.length L.rc) ∧ w.cell? ⟨L.b, 4, none⟩ = some (.map (some L.mb)) :=
  ⟨box_cell h.box 0 rfl, box_cell h.box 1 rfl, box_cell h.box 2 rfl, box_cell h.box 3 rfl, box_cell h.box 4 rfl⟩
theorem TAt.free {w : World} {L : LOC} {G : TG} (h : TAt w L G) (o : Nat) : w.frozen? ⟨L.b, o, none⟩ = false := box_free h.box o
def LOC.at (L : LOC) : Value := .pointer (some ⟨L.b, 0, none⟩)

set_option maxHeartbeats 1000000 in
theorem tlow {w : World} {L : LOC} {G : TG} (h : TAt w L G) : Calls Try.prog 61 #[.pointer (some ⟨L.b, 0, none⟩)] w fun e w' => e = .returned (.int .i64 G.low) ∧ w' = w := by
  obtain ⟨c0, c1, c2, c3, c4⟩ := h.cells
  go_enter Try.func61, Try.ntmps61
  go_wp2
  go_ret
  exact ⟨rfl, rfl⟩
set_option maxHeartbeats 1000000 in
theorem tend {w : World} {L : LOC} {G : TG} (h : TAt w L G) : Calls Try.prog 27 #[.pointer (some ⟨L.b, 0, none⟩)] w fun e w' => e = .returned (.int .i64 G.fin) ∧ w' = w := by
  obtain ⟨c0, c1, c2, c3, c4⟩ := h.cells
  go_enter Try.func27, Try.ntmps27
  go_wp2
  go_ret
  exact ⟨rfl, rfl⟩
set_option maxHeartbeats 1000000 in
theorem tplace {w : World} {L : LOC} {G : TG} {c : Nat} (h : TAt w L G) (hk : G.Ok c) (off : Int) : Calls Try.prog 44 #[.pointer (some ⟨L.b, 0, none⟩), .int .i64 off] w fun e w' => e = .returned (.int .i64 (placeF G.recs off)) ∧ Below w.heap.size w w' := by
  have HB := hide (bsearch G.recs hk.rises off _ w h.recs (by have := hk.len; have := hk.big; omega))
  obtain ⟨c0, c1, c2, c3, c4⟩ := h.cells
  generalize placeF G.recs off = p at *
  clear h hk c0 c1 c2 c4
  generalize G.recs.length = n at *
  go_enter Try.func44, Try.ntmps44
  go_wp2_with (go_at_call 54; refine HB.out.mono ?_; rintro e w' ⟨b, rfl, b2⟩)
  go_ret
  exact ⟨rfl, b2⟩
set_option maxHeartbeats 2000000 in
theorem tnew (s : ByteArray) (hs : s.size ≤ 281474976710656) (w : World) : Calls Try.prog 6 #[.string s] w fun e w' =>
    Below w.heap.size w w' ∧ ((wordB s = false ∧ e = .returned (.tuple #[.pointer none, .int .i64 5])) ∨ (wordB s = true ∧ ∃ L, e = .returned (.tuple #[.pointer (some ⟨LOC.b L, 0, none⟩), .int .i64 0]) ∧ TAt w' L (TG.new s) ∧ ∀ j, L.own j → w.heap.size ≤ j)) := by
  have HW := hide (fun w => pword s (by omega) w)
  have HC := hide (fun w => clone_any s w hs)
  have hmm := @run_makeMap Try.prog
  cases hw : wordB s with
  | false =>
    rw [hw] at HW
    clear hw
    go_enter Try.func6, Try.ntmps6
    go_wp2_with (go_at_call 30; refine (HW.out _).mono ?_; rintro e w' ⟨rfl, rfl⟩)
    go_ret2
    exact ⟨Below.refl _ _, .inl ⟨by trivial, rfl⟩⟩
  | true =>
    rw [hw] at HW
    clear hw
    go_enter Try.func6, Try.ntmps6
    go_wp2_with (first | (go_at_call 30; refine (HW.out _).mono ?_; rintro e w' ⟨rfl, rfl⟩) | (go_at_call 31; refine (HC.out _).mono ?_; rintro e w1 ⟨rfl, b1⟩))
    go_ret2
    refine ⟨((b1.alloc b1.size _).alloc (Nat.le_trans b1.size (by simp)) _), .inr ⟨by trivial, ⟨w1.heap.size + 1, w1.heap.size, none, 0⟩, by simp, ⟨?_, OwnsQ.nil _ _ _, ?_⟩, ?_⟩⟩
    · have := heap_alloc_new (w1.alloc (.map #[] 0)) (.cells #[.string s, .int .i64 0, .int .i64 0, .slice none 0 0, .map (some w1.heap.size)] 69)
      simpa [TG.new] using this
    · exact (World.ownsMap_made _ _ _ _).alloc _
    · have := b1.size
      rintro j (rfl | rfl | hj)
      · simp only; omega
      · simp only; omega
      · cases hj
end Go.Proofs.Ytominplelmbecaa.Y
