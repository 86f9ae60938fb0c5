/-
  Slices of a topic's records; Read, as it runs.
-/
import Derived.Test.YtfoomgdlbkjaeaaGreatZC3
import Derived.Test.YtfoomgdlbkjaeaaGreatZC6
import Derived.Laws.MakeOwn
import Derived.BigQuiet
namespace Go.Proofs.YtfoomgdlbkjaeaaGreat.Y
open Go.RowKit Go.Maps
set_option maxHeartbeats 2000000
set_option maxRecDepth 100000
def lastR (v : Value) : Option (DataW Nat × List MemPlace) :=
  match v with
  | .agg ⟨[.int .i64 a, .int .i64 b]⟩ => some (.agg [.lit (.int .i64 a), .lit (.int .i64 b)], [])
  | _ => none
theorem lastR_mk (a b : Int) : lastR (.agg #[.int .i64 a, .int .i64 b]) = some (.agg [.lit (.int .i64 a), .lit (.int .i64 b)], []) := rfl
theorem lastR_inv {v : Value} {y : DataW Nat × List MemPlace} (h : lastR v = some y) : ∃ a b : Int, v = .agg #[.int .i64 a, .int .i64 b] ∧ y = (.agg [.lit (.int .i64 a), .lit (.int .i64 b)], []) := by
  unfold lastR at h
  split at h
  · exact ⟨_, _, rfl, (Option.some.inj h).symm⟩
  · cases h
def pget (D : DataW Nat) (k : List UInt8) : Option (Int × Int) :=
  match D.atKey (.string k) .nil with
  | .agg [.lit (.int _ a), .lit (.int _ b)] => some (a, b)
  | _ => none
def pput (D : DataW Nat) (k : List UInt8) (a b : Int) : DataW Nat := D.put (.string k) (.agg [.lit (.int .i64 a), .lit (.int .i64 b)])
theorem pget_put_same {D : DataW Nat} (h : IsMap D) (k : List UInt8) (a b : Int) : pget (pput D k a b) k = some (a, b) := by
  unfold pget pput
  rw [atKey_put_same h (keyLit k)]
theorem pget_put_other (D : DataW Nat) {k k' : List UInt8} (hne : k' ≠ k) (a b : Int) : pget (pput D k a b) k' = pget D k' := by
  unfold pget pput
  rw [atKey_put_other (fun e => hne (by injection e))]
theorem zeroLast (w : World) : (zeroValue 57).run Tryz.prog w = .ok (.agg #[.int .i64 0, .int .i64 0]) w := by kernel_rfl
def gotA (o : Option (Int × Int)) : Int := (o.getD (0, 0)).1
def gotB (o : Option (Int × Int)) : Int := (o.getD (0, 0)).2
theorem plook {w : World} {mb n : Nat} {D : DataW Nat} (hown : w.ownsMap Tryz.prog 9 lastR mb n D) (s : ByteArray) (hs : s.size ≤ maxLen) :
    (Instr.lookup 50 (.map (some mb)) (.string s) true).run Tryz.prog w = .ok (.tuple #[.agg #[.int .i64 (gotA (pget D s.data.toList)), .int .i64 (gotB (pget D s.data.toList))], .bool (pget D s.data.toList).isSome]) w := by
  have hk := Go.WideMaps.keyOf_string_mk (P := Tryz.prog) Tryz.underlying9 (s := s) hs
  obtain ⟨v, ps, hrun, hv⟩ := hown.look_ok keyedS Tryz.underlying50 (zeroLast w) (lastR_mk 0 0) hk
  rw [hrun]
  have hz : ∀ z, Maps.has D (.string s.data.toList) = true → D.atKey (.string s.data.toList) z = D.atKey (.string s.data.toList) (.agg [.lit (.int .i64 0), .lit (.int .i64 0)]) := by
    intro z hh
    obtain ⟨es, rfl⟩ := hown.isMap
    unfold Maps.has at hh
    simp only at hh
    unfold DataW.atKey
    simp only
    cases hf : es.find? (fun p => p.1.sameKey (.string s.data.toList)) with
    | none =>
      rw [List.find?_eq_none] at hf
      rw [List.any_eq_true] at hh
      obtain ⟨p, hp, hp2⟩ := hh
      exact absurd hp2 (by simpa using hf p hp)
    | some p => rfl
  cases hh : Maps.has D (.string s.data.toList) with
  | false =>
    rw [atKey_of_not_has hh] at hv
    obtain ⟨a, b, rfl, e⟩ := lastR_inv hv
    have e1 := congrArg Prod.fst e
    simp only at e1
    injection e1 with e1
    simp at e1
    obtain ⟨rfl, rfl⟩ := e1
    have hp : pget D s.data.toList = none := by unfold pget; rw [atKey_of_not_has hh]
    rw [hp]
    rfl
  | true =>
    obtain ⟨a, b, rfl, e⟩ := lastR_inv hv
    have e1 := congrArg Prod.fst e
    simp only at e1
    have hp : pget D s.data.toList = some (a, b) := by unfold pget; rw [hz _ hh, e1]
    rw [hp]
    rfl
structure TG where
  name : ByteArray
  low : Nat
  fin : Nat
  recs : List Rec
  D : DataW Nat
  n : Nat
def TG.new (name : ByteArray) : TG := ⟨name, 0, 0, [], .map [], 0⟩
structure RightT (G : TG) (r : Rec) : Prop where
  lo : (G.low : Int) ≤ r.off
  hi : r.off < (G.fin : Int)
  s0 : 0 ≤ r.seq
  s1 : r.seq ≤ 9007199254740991
  p : r.prod.size ≤ 20
  k : r.key.size ≤ 100
  v : r.val.size ≤ 1000
structure TG.Ok (c : Nat) (G : TG) : Prop where
  word : wordB G.name = true
  rises : Rises G.recs
  right : ∀ r ∈ G.recs, RightT G r
  low : G.low ≤ G.fin
  fin : G.fin ≤ 9007199254740991 + c
  len : G.recs.length ≤ c
  cnt : G.n ≤ c
  big : c ≤ 100000
theorem TG.Ok.mono {c d : Nat} {G : TG} (h : G.Ok c) (hd : c ≤ d) (hb : d ≤ 100000) : G.Ok d := ⟨h.word, h.rises, h.right, h.low, by have := h.fin; omega, by have := h.len; omega, by have := h.cnt; omega, hb⟩
theorem TG.Ok.ok {c : Nat} {G : TG} (h : G.Ok c) : ∀ r ∈ G.recs, r.ok := by
  intro r hr
  obtain ⟨h1, h2, h3, h4, h5, h6, h7⟩ := h.right r hr
  have h8 := h.fin
  have h9 := h.big
  exact ⟨by omega, by omega, by omega, by omega, by omega, by omega, by omega⟩
structure LOC where
  b : Nat
  mb : Nat
  ro : Option Addr
  rc : Nat
def LOC.rv (L : LOC) (n : Nat) : Value := .slice L.ro n L.rc
def LOC.own (L : LOC) (j : Nat) : Prop := j = L.b ∨ j = L.mb ∨ (L.rv 0).ownBlock = some j
structure TAt (w : World) (L : LOC) (G : TG) : Prop where
  box : w.heap[L.b]? = some (.cells #[.string G.name, .int .i64 G.low, .int .i64 G.fin, .slice L.ro G.recs.length L.rc, .map (some L.mb)] 52 (0, 0))
  row : OwnsQ w 39 5 (.slice L.ro G.recs.length L.rc) G.recs.length (recCells G.recs)
  map : w.ownsMap Tryz.prog 9 lastR L.mb G.n G.D
theorem own_block (ao : Option Addr) (n m c : Nat) : (Value.slice ao n c).ownBlock = (Value.slice ao m c).ownBlock := by cases ao <;> rfl
theorem TAt.keep {w w' : World} {L : LOC} {G : TG} {own : Nat → Prop} (h : TAt w L G) (ht : Touch own w w') (hn : ∀ j, L.own j → ¬ own j) : TAt w' L G :=
  ⟨ht.at h.box (hn _ (.inl rfl)), h.row.keep ht (fun j hj => hn j (.inr (.inr ((own_block _ _ _ _).trans hj)))), ht.map h.map (hn _ (.inr (.inl rfl)))⟩
theorem TAt.below {w w' : World} {L : LOC} {G : TG} (h : TAt w L G) (hb : Below w.heap.size w w') : TAt w' L G := h.keep (own := fun _ => False) (Touch.of_below hb) fun _ _ e => e
theorem TAt.lt {w : World} {L : LOC} {G : TG} (h : TAt w L G) {j : Nat} (hj : L.own j) : j < w.heap.size := by
  rcases hj with rfl | rfl | hj
  · exact heap_lt h.box
  · obtain ⟨es, c, hb, _⟩ := h.map
    exact heap_lt hb
  · exact h.row.lt ((own_block _ _ _ _).trans hj)
theorem TAt.mb_ne {w : World} {L : LOC} {G : TG} (h : TAt w L G) : L.mb ≠ L.b := by
  intro e
  obtain ⟨es, c, hb, _⟩ := h.map
  rw [e, h.box] at hb
  cases hb
theorem TAt.row_ne {w : World} {L : LOC} {G : TG} (h : TAt w L G) : (Value.slice L.ro G.recs.length L.rc).ownBlock ≠ some L.b := by
  intro e
  have := h.row.type e h.box
  exact absurd this (by decide)
theorem TAt.row_mb {w : World} {L : LOC} {G : TG} (h : TAt w L G) : (Value.slice L.ro G.recs.length L.rc).ownBlock ≠ some L.mb := by
  intro e
  obtain ⟨es, c, hb, _⟩ := h.map
  rcases h.row.2 with ⟨hv, _⟩ | ⟨g, off, cap, cur, hv, hg, _⟩
  · rw [hv] at e; cases e
  · rw [hv] at e
    obtain rfl : g = L.mb := Option.some.inj e
    rw [hb] at hg
    cases hg
theorem recs_of_q {w : World} {v : Value} {l : List Rec} (h : OwnsQ w 39 5 v l.length (recCells l)) : RecsAt w v l := by
  rcases h.2 with ⟨h1, h2⟩ | ⟨g, off, cap, cur, hv, hh, hn, hc, hs, ht⟩
  · exact ⟨none, 0, by rw [h1, h2], by omega, fun i hi => by omega⟩
  · refine ⟨some ⟨g, off, none⟩, cap, hv, ?_, fun i hi => ⟨g, off, rfl, (Array.getElem?_eq_some_iff.1 hh).1, ?_⟩⟩
    · unfold maxLen at hc
      omega
    · intro j hj
      rw [Lib.cell_of_heap hh, ← recCells_get l i j hi hj, ← ht (i * 5 + j) (by omega), Nat.add_assoc]
theorem TAt.recs {w : World} {L : LOC} {G : TG} (h : TAt w L G) : RecsAt w (.slice L.ro G.recs.length L.rc) G.recs := recs_of_q h.row
theorem TAt.cells {w : World} {L : LOC} {G : TG} (h : TAt w L G) : w.cell? ⟨L.b, 0, none⟩ = some (.string G.name) ∧ w.cell? ⟨L.b, 1, none⟩ = some (.int .i64 G.low) ∧ w.cell? ⟨L.b, 2, none⟩ = some (.int .i64 G.fin) ∧ w.cell? ⟨L.b, 3, none⟩ = some (.slice L.ro G.recs.length L.rc) ∧ w.cell? ⟨L.b, 4, none⟩ = some (.map (some L.mb)) :=
  ⟨box_cell h.box 0 rfl, box_cell h.box 1 rfl, box_cell h.box 2 rfl, box_cell h.box 3 rfl, box_cell h.box 4 rfl⟩
theorem TAt.free {w : World} {L : LOC} {G : TG} (h : TAt w L G) (o : Nat) : w.frozen? ⟨L.b, o, none⟩ = false := box_free h.box o
def LOC.at (L : LOC) : Value := .pointer (some ⟨L.b, 0, none⟩)
theorem tlow {w : World} {L : LOC} {G : TG} (h : TAt w L G) : Calls Tryz.prog 23 #[.pointer (some ⟨L.b, 0, none⟩)] w fun e w' => e = .returned (.int .i64 G.low) ∧ w' = w := by
  obtain ⟨c0, c1, c2, c3, c4⟩ := h.cells
  go_enter Tryz.func23, Tryz.ntmps23
  go_wp2
  go_ret
  exact ⟨rfl, rfl⟩
theorem tend {w : World} {L : LOC} {G : TG} (h : TAt w L G) : Calls Tryz.prog 24 #[.pointer (some ⟨L.b, 0, none⟩)] w fun e w' => e = .returned (.int .i64 G.fin) ∧ w' = w := by
  obtain ⟨c0, c1, c2, c3, c4⟩ := h.cells
  go_enter Tryz.func24, Tryz.ntmps24
  go_wp2
  go_ret
  exact ⟨rfl, rfl⟩
theorem tplace {w : World} {L : LOC} {G : TG} {c : Nat} (h : TAt w L G) (hk : G.Ok c) (off : Int) : Calls Tryz.prog 33 #[.pointer (some ⟨L.b, 0, none⟩), .int .i64 off] w fun e w' => e = .returned (.int .i64 (placeF G.recs off)) ∧ Below w.heap.size w w' := by
  have HB := hide (bsearch G.recs hk.rises off _ w h.recs (by have := hk.len; have := hk.big; omega))
  obtain ⟨c0, c1, c2, c3, c4⟩ := h.cells
  generalize placeF G.recs off = p at *
  clear h hk c0 c1 c2 c4
  generalize G.recs.length = n at *
  go_enter Tryz.func33, Tryz.ntmps33
  go_wp2_with (go_at_call 59; refine HB.out.mono ?_; rintro e w' ⟨b, rfl, b2⟩)
  go_ret
  exact ⟨rfl, b2⟩
theorem tnew (s : ByteArray) (hs : s.size ≤ 281474976710656) (w : World) : Calls Tryz.prog 7 #[.string s] w fun e w' =>
    Below w.heap.size w w' ∧ ((wordB s = false ∧ e = .returned (.tuple #[.pointer none, .int .i64 5])) ∨ (wordB s = true ∧ ∃ L, e = .returned (.tuple #[.pointer (some ⟨LOC.b L, 0, none⟩), .int .i64 0]) ∧ TAt w' L (TG.new s) ∧ ∀ j, L.own j → w.heap.size ≤ j)) := by
  have HW := hide (fun w => pword s (by omega) w)
  have HC := hide (fun w => clone_any s w hs)
  have hmm := @run_makeMap Tryz.prog
  cases hw : wordB s with
  | false =>
    rw [hw] at HW
    clear hw
    go_enter Tryz.func7, Tryz.ntmps7
    go_wp2_with (go_at_call 26; refine (HW.out _).mono ?_; rintro e w' ⟨rfl, rfl⟩)
    go_ret2
    exact ⟨Below.refl _ _, .inl ⟨by trivial, rfl⟩⟩
  | true =>
    rw [hw] at HW
    clear hw
    go_enter Tryz.func7, Tryz.ntmps7
    go_wp2_with (first | (go_at_call 26; refine (HW.out _).mono ?_; rintro e w' ⟨rfl, rfl⟩) | (go_at_call 27; refine (HC.out _).mono ?_; rintro e w1 ⟨rfl, b1⟩))
    go_ret2
    refine ⟨((b1.alloc b1.size _).alloc (Nat.le_trans b1.size (by simp)) _), .inr ⟨by trivial, ⟨w1.heap.size + 1, w1.heap.size, none, 0⟩, by simp, ⟨?_, OwnsQ.nil _ _ _, ?_⟩, ?_⟩⟩
    · have := heap_alloc_new (w1.alloc (.map #[] 0)) (.cells #[.string s, .int .i64 0, .int .i64 0, .slice none 0 0, .map (some w1.heap.size)] 52)
      simpa [TG.new] using this
    · exact (World.ownsMap_made _ _ _ _).alloc _
    · have := b1.size
      rintro j (rfl | rfl | hj)
      · simp only; omega
      · simp only; omega
      · cases hj
end Go.Proofs.YtfoomgdlbkjaeaaGreat.Y
namespace Go.Proofs.YtfoomgdlbkjaeaaGreat.Y
open Go.RowKit Go.Maps
set_option maxHeartbeats 4000000
set_option maxRecDepth 100000
set_option linter.unusedVariables false
theorem elemRecs : Tryz.prog.elem 35 = 39 := by kernel_rfl
theorem sizeOfRec (w : World) : (sizeOf 39).run Tryz.prog w = .ok 5 w := by kernel_rfl
theorem underRecs : Tryz.prog.underlying 35 = some (.slice (Tryz.prog.elem 35)) := by rw [elemRecs]; exact Tryz.underlying35
theorem slice_from {w : World} {ao : Option Addr} {n cap : Nat} {xs : List Value} (h : OwnsQ w 39 5 (.slice ao n cap) n xs) (k : Nat) (hk : k ≤ n) :
    ∃ ao' cap', (∀ W, (Instr.slice 35 (.slice ao n cap) (some (.int .i64 k)) none none).run Tryz.prog W = .ok (.slice ao' (n - k) cap') W) ∧ OwnsQ w 39 5 (.slice ao' (n - k) cap') (n - k) (xs.drop (k * 5)) ∧ ∀ j, (Value.slice ao' (n - k) cap').ownBlock = some j → (Value.slice ao n cap).ownBlock = some j := by
  have hr : ∀ W, (Instr.slice 35 (.slice ao n cap) (some (.int .i64 k)) none none).run Tryz.prog W = .ok (sliced ao k n cap 5) W := by
    intro W
    rw [run_slice_l (P := Tryz.prog) W 35 ao n cap underRecs .i64 k (by omega) (by omega), elemRecs, sizeOfRec]
    rfl
  rcases h.2 with ⟨hv, hn⟩ | ⟨g, off, c, cur, hv, hg, h4, h5, h6, h7⟩
  · injection hv with h1 h2 h3
    subst h1 hn h3
    obtain rfl : k = 0 := by omega
    refine ⟨none, 0, fun W => by rw [hr]; rfl, ?_, fun j hj => hj⟩
    have := h.1
    simp at this
    subst this
    exact OwnsQ.nil _ _ _
  · injection hv with h1 h2 h3
    subst h1 h3
    by_cases hc : cap = k
    · refine ⟨some ⟨g, off, none⟩, cap - k, fun W => by rw [hr, sliced, if_pos hc], ?_, fun j hj => hj⟩
      have := h.cut k hk
      rw [if_pos hc] at this
      exact this
    · refine ⟨some ⟨g, off + k * 5, none⟩, cap - k, fun W => by rw [hr, sliced, if_neg hc, Option.map_some, Addr.add_lit], ?_, fun j hj => hj⟩
      have := h.cut k hk
      rw [if_neg hc] at this
      exact this
theorem slice_upto {w : World} {ao : Option Addr} {n cap : Nat} {l : List Rec} (h : RecsAt w (.slice ao n cap) l) (k : Nat) (hk : k ≤ n) (hc : n ≤ cap) :
    (∀ W, (Instr.slice 35 (.slice ao n cap) none (some (.int .i64 k)) none).run Tryz.prog W = .ok (.slice ao k cap) W) ∧ RecsAt w (.slice ao k cap) (l.take k) := by
  obtain ⟨ao1, cap1, hv, hcap, ha⟩ := h
  injection hv with h1 h2 h3
  subst h1 h2 h3
  constructor
  · intro W
    rw [run_slice_h (P := Tryz.prog) W 35 ao l.length cap underRecs .i64 k (by omega) (by omega), elemRecs, sizeOfRec]
    simp only [Result.andThen, sliced, Int.toNat_natCast, Nat.sub_zero]
    by_cases h0 : cap = 0
    · rw [if_pos h0]
    · rw [if_neg h0]
      cases ao with
      | none => rfl
      | some a =>
        simp [Addr.add]
  · refine ⟨ao, cap, by rw [List.length_take, Nat.min_eq_left hk], hcap, fun i hi => ?_⟩
    rw [List.length_take] at hi
    obtain ⟨b, off, e1, e2, e3⟩ := ha i (by omega)
    exact ⟨b, off, e1, e2, fun j hj => by rw [e3 j hj, List.getElem_take]⟩
def readF (l : List Rec) (off most : Int) : List Rec := (l.drop (placeF l off)).take most.toNat
theorem recCells_drop (l : List Rec) (k : Nat) : recCells (l.drop k) = (recCells l).drop (k * 5) := by
  induction l generalizing k with
  | nil => simp [recCells]
  | cons r l ih =>
    cases k with
    | zero => simp
    | succ k =>
      have e : recCells (r :: l) = r.cells ++ recCells l := by simp [recCells]
      have h5 : r.cells.drop ((k + 1) * 5) = [] := List.drop_eq_nil_of_le (by show 5 ≤ _; omega)
      rw [List.drop_succ_cons, ih, e, List.drop_append, h5, List.nil_append, show r.cells.length = 5 from rfl]
      congr 1
      omega
theorem RecsAt.of_drop {w : World} {v : Value} {l : List Rec} {k : Nat} (h : OwnsQ w 39 5 v (l.length - k) ((recCells l).drop (k * 5))) : RecsAt w v (l.drop k) := by
  refine recs_of_q ?_
  rw [List.length_drop, recCells_drop]
  exact h
theorem q_cap {w : World} {e : TypeId} {z : Nat} {ao : Option Addr} {n cap : Nat} {xs : List Value} (h : OwnsQ w e z (.slice ao n cap) n xs) : n ≤ cap ∧ cap ≤ maxLen := by
  rcases h.2 with ⟨hv, hn⟩ | ⟨g, off, c, cur, hv, hg, h4, h5, _⟩
  · injection hv with _ h2 h3
    subst h2 h3
    exact ⟨Nat.le_refl _, Nat.zero_le _⟩
  · injection hv with _ _ h3
    subst h3
    exact ⟨h4, h5⟩
theorem tread {w : World} {L : LOC} {G : TG} {c : Nat} (h : TAt w L G) (hk : G.Ok c) (off most : Int) (h64 : most ≤ 9223372036854775807) : Calls Tryz.prog 12 #[.pointer (some ⟨L.b, 0, none⟩), .int .i64 off, .int .i64 most] w fun e w' =>
    ∃ v', e = .returned v' ∧ w'.ownsRow w.heap.size 39 5 v' (readF G.recs off most).length (recCells (readF G.recs off most)) ∧ Below w.heap.size w w' := by
  have HP : Hid (∀ d os, Calls Tryz.prog 33 #[.pointer (some ⟨L.b, 0, none⟩), .int .i64 off] (Go.Sort.grow (redrawn w d) os) fun e w' => e = .returned (.int .i64 (placeF G.recs off)) ∧ Below (Go.Sort.grow (redrawn w d) os).heap.size (Go.Sort.grow (redrawn w d) os) w') := fun d os => tplace (h.below (below_regrown w d os)) hk off
  obtain ⟨c0, c1, c2, c3, c4⟩ := h.cells
  have hle := placeF_le G.recs off
  obtain ⟨ao', cap', hsl, hq, _⟩ := slice_from h.row (placeF G.recs off) hle
  have hlen := hk.len
  have hbig := hk.big
  have HOK := hide hk.ok
  have hcap := q_cap hq
  have hra := RecsAt.of_drop hq
  obtain ⟨hup, hrt⟩ := slice_upto hra (min most.toNat (G.recs.length - placeF G.recs off)) (Nat.min_le_right _ _) hcap.1
  have HR : Hid ((G.recs.drop (placeF G.recs off)).take (min most.toNat (G.recs.length - placeF G.recs off)) = readF G.recs off most) := by
    unfold readF
    rw [← List.length_drop, Nat.min_comm, ← List.take_take]
    exact List.take_of_length_le (by rw [List.length_take]; exact Nat.min_le_right _ _)
  have hOR : ∀ r ∈ readF G.recs off most, r.ok := fun r hr => HOK.out r (List.mem_of_mem_drop (List.mem_of_mem_take hr))
  have HOR := hide hOR
  rw [HR.out] at hrt
  have HRT := hide hrt
  have hml : (readF G.recs off most).length = min most.toNat (G.recs.length - placeF G.recs off) := by rw [← HR.out, List.length_take, List.length_drop, Nat.min_eq_left (Nat.min_le_right _ _)]
  generalize hm : min most.toNat (G.recs.length - placeF G.recs off) = m at *
  have HML := hide hml
  have hm2 : min (max most 0) ((G.recs.length - placeF G.recs off : Nat) : Int) = (m : Int) := by omega
  have hmb : m ≤ 100000 := by omega
  generalize readF G.recs off most = RL at *
  generalize placeF G.recs off = pl at *
  have H0 := hide h
  have hd3 := cell_regrown c3
  generalize G.recs.length = n at *
  clear h hk hm hra hrt hq hOR hml HR HOK c0 c1 c2 c4
  go_enter Tryz.func12, Tryz.ntmps12
  go_upto_region 1 with fail
  refine wp_region_quiet_below (by kernel_rfl) (by kernel_rfl) ?_
  repeat (go_big_quiet_step ((go_at_call 33; exact Calls.regrown_of (HP.out _ _))))
  refine wpQuiet_nil ?_
  intro _ hw'
  obtain ⟨⟨dq, osq⟩, hw''⟩ := hw'
  subst hw''
  have bb := hide (below_regrown w dq osq)
  generalize Go.Sort.grow (redrawn w dq) osq = w1 at *
  clear hd3 c3 HP hsl
  obtain ⟨w2, hmk, hown2, hgr2⟩ := run_make_own (P := Tryz.prog) w1 w1.heap.size 35 39 _ _ 5 Tryz.underlying35 Tryz.infoRec Tryz.zeroRec Tryz.sizeRec .i64 .i64 m (by rw [Tryz.bytesRec]; omega) (by unfold maxLen; omega) (Nat.le_refl _)
  have B1 := hide bb.out
  have HA : Hid (∀ wv, Below w1.heap.size w1 wv → RecsAt wv (.slice ao' m cap') RL) := fun wv hb => (HRT.out.below bb.out).below hb
  have HB0 := hide ((Below.refl w1.heap.size w1).grown hgr2 (Nat.le_refl _) (fun j hj => by cases hj))
  have O2 := hide hown2
  have hbs := hide bb.out.size
  have HBW : Hid (∀ wv, Below w1.heap.size w1 wv → w1.heap.size ≤ wv.heap.size ∧ Below w.heap.size w wv) := fun wv hb => ⟨hb.size, bb.out.trans (hb.mono bb.out.size)⟩
  clear hown2 hgr2 bb HRT H0
  generalize w1.heap.size = bs at *
  have e := HML.out
  subst e
  clear HML
  go_wp2
  go_loopw [8, 30] (fun ov iv wv => ∃ (k : Nat) (oo : Option Addr) (oc : Nat), k ≤ RL.length ∧ iv = .int .i64 k ∧ ov = .slice oo k oc ∧ Hid (wv.ownsRow bs 39 5 (.slice oo k oc) k (recCells (RL.take k))) ∧ Hid (Below bs w1 wv)) (fun _ iv _ => RL.length - (intOf iv).toNat)
  case atStart => exact ⟨0, _, _, Nat.zero_le _, rfl, rfl, O2, HB0⟩
  case round =>
    obtain ⟨k, oo, oc, hk, rfl, rfl, OV, BV⟩ := hrel
    by_cases hlt : k < RL.length
    · have hxo := HOR.out _ (List.getElem_mem hlt)
      obtain ⟨_, b, of, rfl, hb, a0, a1, a2, a3, a4⟩ := (HA.out _ BV.out).five k hlt
      have HX := hide (town_any RL[k] hxo)
      have HT : Hid (RL.take (k + 1) = RL.take k ++ [RL[k]]) := List.take_succ_eq_append_getElem hlt
      have hi0 : (0 : Int) ≤ (k : Int) := by omega
      have hi1 : (k : Int) < (RL.length : Int) := by omega
      generalize RL[k] = x at *
      obtain ⟨xo, xp, xs, xk, xv⟩ := x
      simp only [Rec.v] at a0 a1 a2 a3 a4 HX
      have x2 := heap_alloc_new wr (.cells #[.int .i64 xo, .string xp, .int .i64 xs, .string xk, .string xv] 39)
      have OA := hide (OV.out.alloc (.cells #[.int .i64 xo, .string xp, .int .i64 xs, .string xk, .string xv] 39))
      have BA := hide (BV.out.alloc (HBW.out _ BV.out).1 (.cells #[.int .i64 xo, .string xp, .int .i64 xs, .string xk, .string xv] 39))
      go_wp2_with (first | (go_at_call 31; refine (HX.out _).mono ?_; rintro e w3 ⟨rfl, b3⟩; have B3 := hide (BA.out.trans (b3.mono (HBW.out _ BA.out).1)); have O3 := hide (own_below OA.out b3); clear b3) | (at_builtin; refine wpList_append_own _ rfl _ _ 35 rfl bs 39 Tryz.t39 _ 5 64 Tryz.underlying35 Tryz.infoRec Tryz.zeroRec Tryz.sizeRec Tryz.bytesRec rfl (by decide) (.slice oo k oc) k (recCells (RL.take k)) rfl (O3.out.alloc _) ⟨w3.heap.size, 0, none⟩ 1 1 [.int .i64 xo, .string xp, .int .i64 xs, .string xk, .string xv] rfl rfl (World.news_of_block (cs := #[.int .i64 xo, .string xp, .int .i64 xs, .string xk, .string xv]) (t := 39) (fr := (0, 0)) (heap_alloc_new w3 _)) (rec_ones _ _ _ _ _) (by unfold maxLen; omega) (by omega) (by have := (HBW.out _ B3.out).1; simp; omega) ?_; intro v4 w4 hown hgrow _; obtain ⟨oo4, oc4, rfl⟩ := row_slice hown))
      have O4 : Hid (w4.ownsRow bs 39 5 (.slice oo4 (k + 1) oc4) (k + 1) (recCells (RL.take (k + 1)))) := by
        rw [HT.out, recCells_snoc]
        exact hown
      have B4 := hide ((B3.out.alloc (HBW.out _ B3.out).1 _).grown hgrow (by have := (HBW.out _ B3.out).1; simp; omega) (fun j hj => (O3.out.lt j hj).1))
      exact ⟨⟨k + 1, oo4, oc4, by omega, by go_num, rfl, O4, B4⟩, by simp [intOf]; omega⟩
    · have hi1 : ¬ (k : Int) < (RL.length : Int) := by omega
      obtain rfl : k = RL.length := by omega
      go_wp2
      go_ret
      have h1 := OV.out
      rw [List.take_length] at h1
      exact ⟨_, rfl, own_base h1 hbs.out, (HBW.out _ BV.out).2⟩
end Go.Proofs.YtfoomgdlbkjaeaaGreat.Y
