/-
  OrderEnds on lists: what the sequencer and the others have; the group in memory with its row.
-/
import Derived.Test.YtjgbgbgajadgnaaZOX1
namespace Go.Proofs.Ytjgbgbgajadgnaa
open Go.RowKit

set_option linter.unusedSimpArgs false
set_option linter.unusedVariables false
theorem rising_range (n s : Nat) (a : Int) (ha : a < s) (hn : s + n ≤ 7) : risingF a (natI (List.range' s n)) = true := by
  induction n generalizing s a with
  | zero => rfl
  | succ n ih =>
    rw [List.range'_succ]
    show (!(decide ((s : Int) ≤ a) || decide (7 ≤ (s : Int))) && risingF (s : Int) (natI (List.range' (s + 1) n))) = true
    rw [ih (s + 1) s (by omega) (by omega), decide_eq_false (by omega), decide_eq_false (by omega)]
    rfl
def rangeI (n : Nat) : List Int := natI (List.range n)
theorem rangeI_length (n : Nat) : (rangeI n).length = n := by simp [rangeI, natI]
theorem rangeI_nat (n : Nat) : (rangeI n).map Int.toNat = List.range n := by
  unfold rangeI natI
  rw [List.map_map]
  exact (List.map_congr_left (fun x _ => rfl)).trans (List.map_id _)
theorem rangeI_ok (n k : Nat) (hk : k < n) (hn : n ≤ 7) : newOk (k : Int) (rangeI n) = true := by
  unfold newOk
  have h1 : risingF (-1) (rangeI n) = true := by
    unfold rangeI
    rw [List.range_eq_range']
    exact rising_range n 0 (-1) (by omega) (by omega)
  rw [h1, Bool.true_and, List.any_eq_true]
  exact ⟨(k : Int), List.mem_map.2 ⟨k, List.mem_range.2 hk, rfl⟩, decide_eq_true rfl⟩
theorem rangeI_snoc (k : Nat) : rangeI (k + 1) = rangeI k ++ [(k : Int)] := by
  unfold rangeI natI
  rw [List.range_succ, List.map_append]
  rfl
/-- All of them, by their numbers. -/
def AllS (P : Nat → OS → Prop) (S : List (OL × OS)) : Prop := ∀ i (h : i < S.length), P i S[i].2
theorem AllS.set {P P' : Nat → OS → Prop} {S : List (OL × OS)} (h : AllS P S) {i : Nat} (hi : i < S.length) {L' : OL} {o' : OS} (h1 : P' i o') (h2 : ∀ k o, k ≠ i → P k o → P' k o) : AllS P' (S.set i (L', o')) := by
  intro k hk
  rw [List.length_set] at hk
  by_cases e : k = i
  · subst e; simpa using h1
  · rw [List.getElem_set_ne (fun x => e x.symm)]
    exact h2 k _ e (h k hk)
theorem AllS.snoc {P : Nat → OS → Prop} {S : List (OL × OS)} (h : AllS P S) {L : OL} {o : OS} (h1 : P S.length o) : AllS P (S ++ [(L, o)]) := by
  intro k hk
  rw [List.length_append, List.length_cons, List.length_nil] at hk
  by_cases e : k < S.length
  · rw [List.getElem_append_left e]; exact h k e
  · have e2 : k = S.length := by omega
    subst e2
    simpa using h1
/-- The group, and the row of pointers to it. -/
structure EnI (w wv : World) (X : Nat → Prop) (S : List (OL × OS)) (g oc : Nat) : Prop where
  grp : Group w wv X S
  row : wv.ownsRow 0 26 1 (.slice (some ⟨g, 0, none⟩) S.length oc) S.length (ptrC S)
  gx : X g
section
variable {w wv w' : World} {X : Nat → Prop} {S : List (OL × OS)} {g oc : Nat}
theorem EnI.ptr (h : EnI w wv X S g oc) (i : Nat) (hi : i < S.length) : wv.cell? ⟨g, i, none⟩ = some (.pointer (some ⟨S[i].1.b, 0, none⟩)) := by
  obtain ⟨g2, e, hc⟩ := ptr_cell h.row i hi
  injection e with e
  injection e with e _ _
  rw [e]; exact hc
theorem EnI.further (h : EnI w wv X S g oc) (hb : Below wv.heap.size wv w') : EnI w w' X S g oc := ⟨h.grp.further hb, below_row hb h.row, h.gx⟩
theorem EnI.step (h : EnI w wv X S g oc) {i : Nat} (hi : i < S.length) {o' : OS} (hs : ∃ L', L'.b = S[i].1.b ∧ Group w w' X (S.set i (L', o')) ∧ Touch (fun j => ¬ X j) wv w') : ∃ L', L'.b = S[i].1.b ∧ EnI w w' X (S.set i (L', o')) g oc ∧ Touch (fun j => ¬ X j) wv w' := by
  obtain ⟨L', h1, h2, h3⟩ := hs
  refine ⟨L', h1, ⟨h2, ?_, h.gx⟩, h3⟩
  rw [ptrC_set S i hi L' o' h1, List.length_set]
  exact h3.row h.row fun k e => (by obtain rfl : g = k := Option.some.inj e; exact fun hx => hx h.gx)
theorem EnI.reX (h : EnI w wv X S g oc) {X' : Nat → Prop} (h1 : ∀ i (h : i < S.length), ∀ j, S[i].1.all j → ¬ X' j) (h2 : ∀ j, X' j → j < wv.heap.size) (h3 : X' g) : EnI w wv X' S g oc := ⟨h.grp.reX h1 h2, h.row, h3⟩
end
def GoodL (L : List ByteArray) : Prop := ∀ k, k ≤ L.length → 0 ≤ bytesF (L.take k) ∧ bytesF (L.take k) ≤ 45000
theorem bytesF_snoc (L : List ByteArray) (s : ByteArray) : bytesF (L ++ [s]) = addB (bytesF L) s := by simp [bytesF, List.foldl_append]
theorem addB_small {b : Int} {s : ByteArray} (h0 : 0 ≤ b) (h1 : b ≤ 45000) (hs : s.size ≤ 140737488351232) : addB b s = b + (s.size : Int) + 4 := by
  unfold addB wrap64
  omega
theorem GoodL.all {L : List ByteArray} (h : GoodL L) : 0 ≤ bytesF L ∧ bytesF L ≤ 45000 := by have := h L.length (Nat.le_refl _); rwa [List.take_length] at this
theorem GoodL.snoc {L : List ByteArray} (h : GoodL L) {s : ByteArray} (hs : s.size ≤ 140737488351232) (hf : bytesF L + (s.size : Int) + 4 ≤ 45000) : GoodL (L ++ [s]) := by
  intro k hk
  by_cases e : k ≤ L.length
  · rw [List.take_append_of_le_length e]; exact h k e
  · rw [List.take_of_length_le (by simp; simp at hk; omega), bytesF_snoc, addB_small h.all.1 h.all.2 hs]
    have := h.all
    omega
/-- The sequencer. -/
structure EQ0 (n : Nat) (L : List ByteArray) (h : Nat → Nat) (q : OS) : Prop where
  fine : q.Fine
  self : q.self = 0
  nodes : q.nodes = List.range n
  log : q.log = L
  bytes : q.bytes = bytesF L
  sure : q.sure = midN q.counts
  h0 : q.had.getD 0 0 = L.length
  had : ∀ i, 1 ≤ i → i < n → q.had.getD i 0 = h i
/-- Another one. -/
structure EW (n w : Nat) (l : List ByteArray) (s : Nat) (o : OS) : Prop where
  fine : o.Fine
  self : o.self = w
  nodes : o.nodes = List.range n
  log : o.log = l
  bytes : o.bytes = bytesF l
  sure : o.sure = s
theorem EQ0.first {n : Nat} {L : List ByteArray} {h : Nat → Nat} {q : OS} (hq : EQ0 n L h q) : q.first = true := by
  have h1 := hq.fine.ok.pos
  unfold OS.first
  rw [hq.nodes] at *
  rw [hq.self]
  cases n with
  | zero => simp at h1
  | succ n => simp [List.getD_eq_getElem?_getD]
theorem EW.first {n w : Nat} {l : List ByteArray} {s : Nat} {o : OS} (ho : EW n w l s o) (hw : 1 ≤ w) : o.first = false := by
  have h1 := ho.fine.ok.pos
  unfold OS.first
  rw [ho.nodes] at *
  rw [ho.self]
  cases n with
  | zero => simp at h1
  | succ n => simp [List.getD_eq_getElem?_getD]; omega
theorem new_had {self : Int} {nodes : List Int} (k : Nat) (hk : k < 7) (log : List ByteArray) : (OS.new self nodes log).had.getD k 0 = if k ∈ nodes.map Int.toNat then log.length else 0 := by
  simp only [OS.new, List.getD_eq_getElem?_getD, List.getElem?_map, List.getElem?_range hk, Option.map_some, Option.getD_some, List.contains_iff_mem]
theorem new_q0 (n : Nat) (h0 : 0 < n) (hn : n ≤ 7) : EQ0 n [] (fun _ => 0) (OS.new 0 (rangeI n) []) := by
  have hok : newOk 0 (rangeI n) = true := rangeI_ok n 0 h0 hn
  have hf := Fine.new (log := []) hok (fun s hs => by cases hs)
  have hz : ∀ i, i < 7 → (OS.new 0 (rangeI n) []).had.getD i 0 = 0 := fun i hi => by rw [new_had i hi]; simp
  refine ⟨hf, rfl, rangeI_nat n, rfl, rfl, ?_, hz 0 (by omega), fun i _ hi => hz i (by omega)⟩
  rw [mid_const hf.ok.cne (n := 0)]
  · rfl
  · intro x hx
    obtain ⟨i, hi, rfl⟩ := List.mem_map.1 hx
    exact hz i (hf.ok.lt i hi)
theorem new_w (n w : Nat) (hw : w < n) (hn : n ≤ 7) : EW n w [] 0 (OS.new (w : Int) (rangeI n) []) :=
  ⟨Fine.new (log := []) (rangeI_ok n w hw hn) (fun s hs => by cases hs), rfl, rangeI_nat n, rfl, rfl, rfl⟩
theorem EQ0.propose {n : Nat} {L : List ByteArray} {q : OS} (hq : EQ0 n L (fun _ => 0) q) (hL : GoodL L) (s : ByteArray) (hs : s.size ≤ 140737488351232) :
    (bytesF L + (s.size : Int) + 4 ≤ 45000 ∧ (q.propose s).2 = ((L.length : Int), 0) ∧ EQ0 n (L ++ [s]) (fun _ => 0) (q.propose s).1 ∧ GoodL (L ++ [s]) ∧ bytesF (L ++ [s]) = bytesF L + (s.size : Int) + 4) ∨
    (¬ bytesF L + (s.size : Int) + 4 ≤ 45000 ∧ q.propose s = (q, 0, 8)) := by
  have hsm := addB_small hL.all.1 hL.all.2 hs
  have hfit : q.fits s = decide (bytesF L + (s.size : Int) + 4 ≤ 45000) := by unfold OS.fits; rw [hq.bytes, hsm]
  by_cases hc : bytesF L + (s.size : Int) + 4 ≤ 45000
  · left
    have e : q.propose s = ((q.keep s).make, (q.log.length : Int), 0) := by unfold OS.propose; rw [if_pos hq.first, if_pos (by rw [hfit]; exact decide_eq_true hc)]
    have hf := (Fine.propose hq.fine s hs).1
    have hself : q.self < q.had.length := by rw [hq.fine.ok.seven]; exact hq.fine.ok.slf
    rw [e] at hf ⊢
    refine ⟨hc, by rw [hq.log], ⟨hf, hq.self, hq.nodes, ?_, ?_, rfl, ?_, fun i h1 h2 => ?_⟩, hL.snoc hs hc, by rw [bytesF_snoc, hsm]⟩
    · show q.log ++ [s] = _; rw [hq.log]
    · show addB q.bytes s = _; rw [hq.bytes, bytesF_snoc]
    · show (q.had.set q.self (q.log.length + 1)).getD 0 0 = _
      rw [getD_set _ _ _ _ hself, if_pos hq.self.symm, hq.log]
      simp
    · show (q.had.set q.self (q.log.length + 1)).getD i 0 = _
      rw [getD_set _ _ _ _ hself, if_neg (by rw [hq.self]; omega)]
      exact hq.had i h1 h2
  · right
    refine ⟨hc, ?_⟩
    unfold OS.propose
    rw [if_pos hq.first, if_neg (by rw [hfit, decide_eq_false hc]; exact fun h => by cases h)]
theorem EQ0.asks {n : Nat} {L : List ByteArray} {h : Nat → Nat} {q : OS} (hq : EQ0 n L h q) {w : Nat} (h1 : 1 ≤ w) (h2 : w < n) : q.asks (w : Int) = true := by
  unfold OS.asks
  rw [hq.first, hq.self, decide_eq_true (by omega), Bool.true_and, Bool.true_and, hq.nodes, List.any_eq_true]
  exact ⟨w, List.mem_range.2 h2, decide_eq_true rfl⟩
theorem EQ0.wants {n : Nat} {L : List ByteArray} {h : Nat → Nat} {q : OS} (hq : EQ0 n L h q) {w : Nat} (h1 : 1 ≤ w) (h2 : w < n) (h3 : h w = 0) (h4 : L.length ≤ 100) : q.wants (w : Int) 100 = (0, L) := by
  unfold OS.wants
  rw [if_pos (hq.asks h1 h2)]
  have e : q.had.getD (w : Int).toNat 0 = 0 := by rw [show (w : Int).toNat = w from rfl, hq.had w h1 h2, h3]
  rw [e, hq.log]
  simp only [List.drop_zero]
  rw [List.take_of_length_le (by simpa using h4)]
  rfl
theorem EW.add {n w : Nat} {L : List ByteArray} {s k : Nat} {o : OS} (ho : EW n w (L.take k) s o) (hw : 1 ≤ w) (hk : k < L.length) (hL : GoodL L) (hs : ∀ x ∈ L, x.size ≤ 140737488351232) : EW n w (L.take (k + 1)) s (o.add (k : Int) L[k]).1 := by
  have hz := hs _ (List.getElem_mem hk)
  have hlen : o.log.length = k := by rw [ho.log, List.length_take]; omega
  have ht : L.take (k + 1) = L.take k ++ [L[k]] := List.take_succ_eq_append_getElem hk
  have hfit : o.fits L[k] = true := by
    unfold OS.fits
    rw [ho.bytes, ← bytesF_snoc, ← ht]
    exact decide_eq_true (hL (k + 1) hk).2
  have e : o.add (k : Int) L[k] = (o.keep L[k], true) := by
    unfold OS.add
    rw [if_pos ⟨ho.first hw, by rw [hlen], hfit⟩]
  have hf := (Fine.add ho.fine (k : Int) L[k] hz).1
  rw [e] at hf ⊢
  refine ⟨hf, ho.self, ho.nodes, ?_, ?_, ho.sure⟩
  · show o.log ++ [L[k]] = _; rw [ho.log, ht]
  · show addB o.bytes L[k] = _; rw [ho.bytes, ht, bytesF_snoc]
theorem EQ0.has {n : Nat} {L : List ByteArray} {h : Nat → Nat} {q : OS} (hq : EQ0 n L h q) {w : Nat} (h1 : 1 ≤ w) (h2 : w < n) : EQ0 n L (fun i => if i = w then L.length else h i) (q.has (w : Int) (L.length : Int)).1 := by
  have hlt : w < 7 := hq.fine.ok.lt w (by rw [hq.nodes]; exact List.mem_range.2 h2)
  have e : q.has (w : Int) (L.length : Int) = ((q.hasN w L.length).make, true) := by
    unfold OS.has
    rw [if_pos ⟨hq.asks h1 h2, by omega, by rw [hq.log]; omega⟩]
    rfl
  have hf := (Fine.has hq.fine (w : Int) (L.length : Int)).1
  have hwl : w < q.had.length := by rw [hq.fine.ok.seven]; exact hlt
  have hle := hq.fine.ok.get w
  rw [hq.log] at hle
  rw [e] at hf ⊢
  refine ⟨hf, hq.self, hq.nodes, hq.log, hq.bytes, rfl, ?_, fun i h3 h4 => ?_⟩
  · show (q.had.set w _).getD 0 0 = _
    rw [getD_set _ _ _ _ hwl, if_neg (by omega)]
    exact hq.h0
  · show (q.had.set w (max (q.had.getD w 0) L.length)).getD i 0 = _
    rw [getD_set _ _ _ _ hwl]
    by_cases e2 : i = w
    · rw [if_pos e2, if_pos e2]; omega
    · rw [if_neg e2, if_neg e2]; exact hq.had i h3 h4
theorem EQ0.whole {n : Nat} {L : List ByteArray} {h : Nat → Nat} {q : OS} (hq : EQ0 n L h q) (hh : ∀ i, 1 ≤ i → i < n → h i = L.length) : q.sure = L.length := by
  rw [hq.sure]
  refine mid_const hq.fine.ok.cne fun x hx => ?_
  obtain ⟨i, hi, rfl⟩ := List.mem_map.1 hx
  rw [hq.nodes, List.mem_range] at hi
  by_cases e : i = 0
  · rw [e]; exact hq.h0
  · rw [hq.had i (by omega) hi, hh i (by omega) hi]
theorem EW.learn {n w : Nat} {L : List ByteArray} {o : OS} (ho : EW n w L 0 o) (hw : 1 ≤ w) : EW n w L L.length (o.learn (L.length : Int)).1 := by
  have hf := (Fine.learn ho.fine (L.length : Int)).1
  unfold OS.learn at *
  rw [ho.log, ho.sure] at *
  by_cases e : 0 < L.length
  · rw [if_pos ⟨ho.first hw, by omega⟩] at *
    refine ⟨hf, ho.self, ho.nodes, ?_, ho.bytes, ?_⟩
    · rfl
    · show (min (L.length : Int) (L.length : Int)).toNat = _
      omega
  · rw [if_neg (fun h => by have := h.2; omega)] at *
    refine ⟨ho.fine, ho.self, ho.nodes, ho.log, ho.bytes, ?_⟩
    rw [ho.sure]
    omega
end Go.Proofs.Ytjgbgbgajadgnaa
