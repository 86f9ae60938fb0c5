/-
  An order where it lies; rows of numbers and texts; what only reads, as it runs.
-/
import Derived.Test.YtjgbgbgajadgnaaZOA
import Derived.Test.YtjgbgbgajadgnaaZAF
import Derived.Test.YtjgbgbgajadgnaaZCl
import Derived.Test.YtjgbgbgajadgnaaZSh
namespace Go.Proofs.Ytjgbgbgajadgnaa
open Go.RowKit Go.Shelf

attribute [local go_sem ↓] Go.wp_at_zero Go.wp_at_succ
set_option linter.unusedSimpArgs false
set_option linter.unusedVariables false
/-- Rows, wherever they lie. -/
def IntsAt (w : World) (ao : Option Addr) (l : List Int) : Prop := ∀ i (h : i < l.length), ∃ g off, ao = some ⟨g, off, none⟩ ∧ g < w.heap.size ∧ w.cell? ⟨g, off + i, none⟩ = some (.int .i64 l[i])
theorem IntsAt.below {w w' : World} {ao : Option Addr} {l : List Int} (h : IntsAt w ao l) (hb : Below w.heap.size w w') : IntsAt w' ao l := fun i hi => by
  obtain ⟨g, off, h1, h2, h3⟩ := h i hi
  exact ⟨g, off, h1, Nat.lt_of_lt_of_le h2 hb.size, (hb.cell (p := ⟨g, _, none⟩) h2).trans h3⟩
theorem ints_own {w : World} {B : Nat} {ao : Option Addr} {cp : Nat} {l : List Int} (h : w.ownsRow B 3 1 (.slice ao l.length cp) l.length (l.map (.int .i64))) : IntsAt w ao l := by
  rcases h.2 with ⟨h1, h2⟩ | ⟨g, cap, cur, hv, hg, hh, hn, _, hs, ht⟩
  · exact fun i hi => by omega
  · injection hv with e1 e2 e3
    subst e1
    refine fun i hi => ⟨g, 0, rfl, heap_lt hh, ?_⟩
    rw [Lib.cell_of_heap hh]
    have e : (l.map (Value.int .i64))[i]? = some (.int .i64 l[i]) := by simp [hi]
    rw [← ht, List.getElem?_take, if_pos (by omega)] at e
    simpa using e
def TextsAt (w : World) (ao : Option Addr) (l : List ByteArray) : Prop := ∀ i (h : i < l.length), ∃ g off, ao = some ⟨g, off, none⟩ ∧ g < w.heap.size ∧ w.cell? ⟨g, off + i, none⟩ = some (.string l[i])
theorem TextsAt.below {w w' : World} {ao : Option Addr} {l : List ByteArray} (h : TextsAt w ao l) (hb : Below w.heap.size w w') : TextsAt w' ao l := fun i hi => by
  obtain ⟨g, off, h1, h2, h3⟩ := h i hi
  exact ⟨g, off, h1, Nat.lt_of_lt_of_le h2 hb.size, (hb.cell (p := ⟨g, _, none⟩) h2).trans h3⟩
theorem TextsAt.keep {own : Nat → Prop} {w w' : World} {ao : Option Addr} {l : List ByteArray} (h : TextsAt w ao l) (ht : Touch own w w') (hn : ∀ a, ao = some a → ¬ own a.block) : TextsAt w' ao l := fun i hi => by
  obtain ⟨g, off, h1, h2, h3⟩ := h i hi
  exact ⟨g, off, h1, Nat.lt_of_lt_of_le h2 ht.size, ht.cell ⟨g, off + i, none⟩ h3 (hn ⟨g, off, none⟩ h1)⟩
def textC (l : List ByteArray) : List Value := l.map .string
theorem textC_length (l : List ByteArray) : (textC l).length = l.length := List.length_map _
theorem textC_append (a b : List ByteArray) : textC (a ++ b) = textC a ++ textC b := List.map_append
theorem texts_own {w : World} {B : Nat} {ao : Option Addr} {cp : Nat} {l : List ByteArray} (h : w.ownsRow B 9 1 (.slice ao l.length cp) l.length (textC l)) : TextsAt w ao l := by
  rcases h.2 with ⟨h1, h2⟩ | ⟨g, cap, cur, hv, hg, hh, hn, _, hs, ht⟩
  · exact fun i hi => by omega
  · injection hv with e1 e2 e3
    subst e1
    refine fun i hi => ⟨g, 0, rfl, heap_lt hh, ?_⟩
    rw [Lib.cell_of_heap hh]
    have e : (textC l)[i]? = some (.string l[i]) := by simp [textC, hi]
    rw [← ht, List.getElem?_take, if_pos (by omega)] at e
    simpa using e
/-- Where it lies. -/
structure OL where
  b : Nat
  no : Option Addr
  nc : Nat
  lo : Option Addr
  lc : Nat
def OL.at (L : OL) : Value := .pointer (some ⟨L.b, 0, none⟩)
def hadV (o : OS) (i : Nat) : Value := .int .i64 (o.had.getD i 0 : Nat)
def oBox (L : OL) (o : OS) : Array Value := #[.int .i64 o.self, .slice L.no o.nodes.length L.nc, .slice L.lo o.log.length L.lc, .int .i64 o.bytes, .int .i64 o.sure, hadV o 0, hadV o 1, hadV o 2, hadV o 3, hadV o 4, hadV o 5, hadV o 6]
def natI (l : List Nat) : List Int := l.map fun (x : Nat) => (x : Int)
theorem natI_length (l : List Nat) : (natI l).length = l.length := List.length_map _
structure OAt (w : World) (L : OL) (o : OS) : Prop where
  box : w.heap[L.b]? = some (.cells (oBox L o) 66 (0, 0))
  nodes : w.ownsRow 0 3 1 (.slice L.no o.nodes.length L.nc) o.nodes.length ((natI o.nodes).map (.int .i64))
  log : w.ownsRow 0 9 1 (.slice L.lo o.log.length L.lc) o.log.length (textC o.log)
/-- Its own blocks. -/
def OL.own (L : OL) (j : Nat) : Prop := j = L.b ∨ L.lo.map Addr.block = some j
def OL.all (L : OL) (j : Nat) : Prop := j = L.b ∨ L.lo.map Addr.block = some j ∨ L.no.map Addr.block = some j
theorem ownBlock_slice (ao : Option Addr) (n c : Nat) : (Value.slice ao n c).ownBlock = ao.map Addr.block := by cases ao <;> rfl
theorem OAt.keep {w w' : World} {L : OL} {o : OS} {own : Nat → Prop} (h : OAt w L o) (ht : Touch own w w') (hn : ∀ j, L.all j → ¬ own j) : OAt w' L o :=
  ⟨ht.at h.box (hn _ (.inl rfl)), ht.row h.nodes fun k e => hn k (.inr (.inr (by rw [ownBlock_slice] at e; exact e))), ht.row h.log fun k e => hn k (.inr (.inl (by rw [ownBlock_slice] at e; exact e)))⟩
theorem OAt.below {w w' : World} {L : OL} {o : OS} (h : OAt w L o) (hb : Below w.heap.size w w') : OAt w' L o := h.keep (own := fun _ => False) (Touch.of_below hb) fun _ _ e => e
theorem OAt.lt {w : World} {L : OL} {o : OS} (h : OAt w L o) {j : Nat} (hj : L.all j) : j < w.heap.size := by
  rcases hj with rfl | e | e
  · exact heap_lt h.box
  · exact row_lt h.log (by rw [ownBlock_slice]; exact e)
  · exact row_lt h.nodes (by rw [ownBlock_slice]; exact e)
theorem OAt.ints {w : World} {L : OL} {o : OS} (h : OAt w L o) : IntsAt w L.no (natI o.nodes) := by
  have := h.nodes
  rw [← natI_length] at this
  exact ints_own this
theorem OAt.texts {w : World} {L : OL} {o : OS} (h : OAt w L o) : TextsAt w L.lo o.log := texts_own h.log
theorem row_type {w : World} {base : Nat} {e : TypeId} {size : Nat} {v : Value} {n : Nat} {xs : List Value} (h : w.ownsRow base e size v n xs) {j : Nat} (hj : v.ownBlock = some j) {cs : Array Value} {t : TypeId} (hb : w.heap[j]? = some (.cells cs t (0, 0))) : e = t := by
  rcases h.2 with ⟨rfl, _⟩ | ⟨g, c, cur, rfl, _, hh, _⟩
  · cases hj
  · obtain rfl : g = j := Option.some.inj hj
    rw [hh] at hb
    injection hb with hb
    injection hb with _ h3 _
theorem row_types {w : World} {e1 e2 : TypeId} {s1 s2 : Nat} {v1 v2 : Value} {n1 n2 : Nat} {x1 x2 : List Value} {b1 b2 : Nat} (h1 : w.ownsRow b1 e1 s1 v1 n1 x1) (h2 : w.ownsRow b2 e2 s2 v2 n2 x2) {j : Nat} (hj : v1.ownBlock = some j) (hk : v2.ownBlock = some j) : e1 = e2 := by
  rcases h2.2 with ⟨rfl, _⟩ | ⟨g, c, cur, rfl, _, hh, _⟩
  · cases hk
  · obtain rfl : g = j := Option.some.inj hk
    exact row_type h1 hj hh
theorem OAt.log_ne {w : World} {L : OL} {o : OS} (h : OAt w L o) : L.lo.map Addr.block ≠ some L.b := fun e => by
  have := row_type h.log (by rw [ownBlock_slice]; exact e) h.box
  revert this
  decide +kernel
theorem OAt.no_ne {w : World} {L : OL} {o : OS} (h : OAt w L o) : L.no.map Addr.block ≠ some L.b := fun e => by
  have := row_type h.nodes (by rw [ownBlock_slice]; exact e) h.box
  revert this
  decide +kernel
theorem OAt.no_log {w : World} {L : OL} {o : OS} (h : OAt w L o) {j : Nat} (h1 : L.no.map Addr.block = some j) : L.lo.map Addr.block ≠ some j := fun e => by
  have := row_types h.nodes h.log (j := j) (by rw [ownBlock_slice]; exact h1) (by rw [ownBlock_slice]; exact e)
  revert this
  decide +kernel
theorem OAt.no_own {w : World} {L : OL} {o : OS} (h : OAt w L o) {j : Nat} (h1 : L.no.map Addr.block = some j) : ¬ L.own j := by
  rintro (e | e)
  · subst e; exact h.no_ne h1
  · exact h.no_log h1 e

/-- Its parts, as they are read. -/
structure OC (w : World) (L : OL) (o : OS) : Prop where
  c0 : w.cell? ⟨L.b, 0, none⟩ = some (.int .i64 o.self)
  c1 : w.cell? ⟨L.b, 1, none⟩ = some (.slice L.no o.nodes.length L.nc)
  c2 : w.cell? ⟨L.b, 2, none⟩ = some (.slice L.lo o.log.length L.lc)
  c3 : w.cell? ⟨L.b, 3, none⟩ = some (.int .i64 o.bytes)
  c4 : w.cell? ⟨L.b, 4, none⟩ = some (.int .i64 o.sure)
theorem OAt.cells {w : World} {L : OL} {o : OS} (h : OAt w L o) : OC w L o := ⟨box_cell h.box 0 rfl, box_cell h.box 1 rfl, box_cell h.box 2 rfl, box_cell h.box 3 rfl, box_cell h.box 4 rfl⟩
theorem OAt.hadc {w : World} {L : OL} {o : OS} (h : OAt w L o) (i : Nat) (hi : i < 7) : w.cell? ⟨L.b, 5 + i, none⟩ = some (hadV o i) := by
  refine box_cell h.box (5 + i) ?_
  match i, hi with
  | 0, _ => rfl
  | 1, _ => rfl
  | 2, _ => rfl
  | 3, _ => rfl
  | 4, _ => rfl
  | 5, _ => rfl
  | 6, _ => rfl
  | i + 7, h => omega
/-- slices.Index, slices.Contains. -/
def idxF (l : List Int) (n : Int) : Int := if l.any (fun x => decide (x = n)) then (l.findIdx fun x => decide (x = n) : Nat) else -1
set_option maxHeartbeats 1000000 in
theorem pindex (ao : Option Addr) (cap : Nat) (l : List Int) (n : Int) (w : World) (hc : IntsAt w ao l) (hl : l.length ≤ 4611686018427387904) :
    Calls Try.prog 41 #[.slice ao l.length cap, .int .i64 n] w fun e w' => (∃ k : Int, e = .returned (.int .i64 k) ∧ decide (0 ≤ k) = l.any (fun x => decide (x = n))) ∧ w' = w := by
  have HC := hide hc
  clear hc
  go_enter Try.func41, Try.ntmps41
  go_wp2
  go_loop [5, 8] (fun i j => ∃ k : Nat, k ≤ l.length ∧ j = .int .i64 k ∧ Hid ((l.take k).any (fun x => decide (x = n)) = false)) (fun i j => l.length - (intOf j).toNat)
  case atStart => exact ⟨0, Nat.zero_le _, rfl, rfl⟩
  case round =>
    obtain ⟨k, hk, rfl, hb⟩ := hrel
    by_cases hlt : k < l.length
    · obtain ⟨g, off, rfl, hg, hcell⟩ := HC.out k hlt
      have h0 : (0 : Int) ≤ (k : Int) := by omega
      have h1 : (k : Int) < (l.length : Int) := by omega
      have HS : Hid ((l.take (k + 1)).any (fun x => decide (x = n)) = ((l.take k).any (fun x => decide (x = n)) || decide (l[k] = n))) := by
        show _ = _
        rw [List.take_succ_eq_append_getElem hlt, List.any_append]
        simp
      by_cases e : n = l[k]
      · have e1 : decide (l[k] = n) = true := decide_eq_true e.symm
        have HF : Hid (l.any (fun x => decide (x = n)) = true) := List.any_eq_true.2 ⟨l[k], List.getElem_mem hlt, e1⟩
        clear HS e1
        go_wp2
        go_ret
        exact ⟨⟨_, rfl, by have h5 := HF.out; rw [e] at h5; exact (decide_eq_true h0).trans h5.symm⟩, rfl⟩
      · have HF : Hid ((l.take (k + 1)).any (fun x => decide (x = n)) = false) := by
          show _ = false
          rw [HS.out, hb.out, decide_eq_false (fun x => e x.symm)]
          rfl
        clear HS
        go_wp2
        go_round
        case rel => exact ⟨k + 1, by omega, rfl, HF⟩
        case measure => simp [intOf]; omega
    · have e : k = l.length := by omega
      subst e
      have HF : Hid (l.any (fun x => decide (x = n)) = false) := by have := hb.out; rw [List.take_length] at this; exact this
      clear hb
      go_wp2
      go_ret
      exact ⟨⟨_, rfl, by rw [HF.out]; rfl⟩, rfl⟩
theorem pcontains (ao : Option Addr) (cap : Nat) (l : List Int) (n : Int) (w : World) (hc : IntsAt w ao l) (hl : l.length ≤ 4611686018427387904) :
    Calls Try.prog 31 #[.slice ao l.length cap, .int .i64 n] w fun e w' => e = .returned (.bool (l.any fun x => decide (x = n))) ∧ w' = w := by
  have HI := hide (pindex ao cap l n w hc hl)
  clear hc
  generalize (l.any fun x => decide (x = n)) = r at *
  go_enter Try.func31, Try.ntmps31
  go_wp2_with (go_at_call 41; refine HI.out.mono ?_; rintro e w' ⟨⟨k, rfl, hk⟩, rfl⟩)
  go_ret
  exact ⟨rfl, rfl⟩
theorem zinfo_parts {P : Program} {t : TypeId} {z : Value} {sz by' : Nat} (h : (P.info? t).map (fun i => (i.zero, i.size, i.bytes)) = some (some z, sz, by')) : ∃ i, P.info? t = some i ∧ i.zero = some z ∧ i.size = sz ∧ i.bytes = by' := by
  cases hi : P.info? t with
  | none => rw [hi] at h; cases h
  | some i =>
    rw [hi] at h
    simp only [Option.map_some, Option.some.injEq, Prod.mk.injEq] at h
    exact ⟨i, rfl, h.1, h.2.1, h.2.2⟩
theorem infoInt : (Try.prog.info? 3).map (fun i => (i.zero, i.size, i.bytes)) = some (some (.int .i64 0), 1, 8) := by kernel_rfl
theorem infoStr : (Try.prog.info? 9).map (fun i => (i.zero, i.size, i.bytes)) = some (some (.string ⟨#[]⟩), 1, 16) := by kernel_rfl
theorem pclone (ao : Option Addr) (cp : Nat) (l : List Int) (w : World) (hc : IntsAt w ao l) (hl : l ≠ []) (hb : l.length ≤ 17592186043904) :
    Calls Try.prog 32 #[.slice ao l.length cp] w fun e w' => ∃ bo bp, e = .returned (.slice bo l.length bp) ∧ w'.ownsRow w.heap.size 3 1 (.slice bo l.length bp) l.length (l.map (.int .i64)) ∧ Below w.heap.size w w' := by
  obtain ⟨i0, hi0, hz0, hz1, hz2⟩ := zinfo_parts infoInt
  have h0 : 0 < l.length := List.length_pos_iff.2 hl
  obtain ⟨g, off, rfl, _⟩ := hc 0 h0
  have h := AnyE.slices_Clone Try.shSlice i0 (.int .i64 0) 1 8 hi0 hz0 hz1 hz2 rfl (by omega) Try.sizeOf3 g off l.length cp (l.map (.int .i64)) w (by simp) (by unfold maxLen; omega) (by omega)
    (fun j u hj => by
      have hj1 : j < l.length := by have := (List.getElem?_eq_some_iff.1 hj).1; simpa using this
      obtain ⟨g2, off2, e2, _, hcell⟩ := hc j hj1
      injection e2 with e2
      injection e2 with e3 e4 _
      subst e3 e4
      rw [hcell]
      simp [hj1] at hj
      rw [hj]) (fun u hu => by
      obtain ⟨x, _, rfl⟩ := List.mem_map.1 hu
      rfl)
  refine h.mono fun e w' ⟨v', h1, h2, h3, h4⟩ => ?_
  obtain ⟨bo, bp, rfl⟩ := row_slice h2
  exact ⟨bo, bp, h1, h2, h4⟩
set_option maxHeartbeats 1000000 in
theorem prising (ao : Option Addr) (cap : Nat) (l : List Int) (w : World) (hc : IntsAt w ao l) (hl : l.length ≤ 4611686018427387904) :
    Calls Try.prog 30 #[.slice ao l.length cap] w fun e w' => e = .returned (.bool (risingF (-1) l)) ∧ w' = w := by
  have HC := hide hc
  clear hc
  generalize hr : risingF (-1) l = r
  have HR := hide hr
  clear hr
  go_enter Try.func30, Try.ntmps30
  go_wp2
  go_loop [3, 8] (fun i j => ∃ (k : Nat) (a : Int), k ≤ l.length ∧ j = .int .i64 k ∧ i = .int .i64 a ∧ Hid (risingF a (l.drop k) = r)) (fun i j => l.length - (intOf j).toNat)
  case atStart => exact ⟨0, -1, Nat.zero_le _, rfl, rfl, HR.out⟩
  case round =>
    obtain ⟨k, a, hk, rfl, rfl, hb⟩ := hrel
    by_cases hlt : k < l.length
    · obtain ⟨g, off, rfl, hg, hcell⟩ := HC.out k hlt
      have h0 : (0 : Int) ≤ (k : Int) := by omega
      have h1 : (k : Int) < (l.length : Int) := by omega
      have HS : Hid ((!(decide (l[k] ≤ a) || decide (7 ≤ l[k])) && risingF l[k] (l.drop (k + 1))) = r) := by
        show _ = _
        have := hb.out
        rw [List.drop_eq_getElem_cons hlt, risingF] at this
        exact this
      clear hb
      generalize l[k] = x at *
      by_cases e : x ≤ a
      · have HF : Hid (r = false) := by
          show r = false
          rw [← HS.out]
          simp [e]
        clear HS
        go_wp2
        go_ret
        exact ⟨by rw [HF.out]; rfl, rfl⟩
      · by_cases e2 : 7 ≤ x
        · have HF : Hid (r = false) := by
            show r = false
            rw [← HS.out]
            simp [e2]
          clear HS
          go_wp2
          go_ret
          exact ⟨by rw [HF.out]; rfl, rfl⟩
        · have HF : Hid (risingF x (l.drop (k + 1)) = r) := by
            show _ = r
            rw [← HS.out]
            simp [e, e2]
          clear HS
          go_wp2
          go_round
          case rel => exact ⟨k + 1, x, by omega, rfl, rfl, HF⟩
          case measure => simp [intOf]; omega
    · have e : k = l.length := by omega
      subst e
      have HF : Hid (r = true) := by
        show r = true
        rw [← hb.out, List.drop_length]
        rfl
      clear hb
      go_wp2
      go_ret
      exact ⟨by rw [HF.out]; rfl, rfl⟩
set_option maxHeartbeats 1000000 in
theorem pfirst {w : World} {L : OL} {o : OS} (h : OAt w L o) (hk : o.Ok) : Calls Try.prog 10 #[L.at] w fun e w' => e = .returned (.bool o.first) ∧ Below w.heap.size w w' := by
  have h0 := hk.pos
  have h7 := hk.len
  obtain ⟨g, off, hg, _, a0⟩ := h.ints 0 (by rw [natI_length]; exact h0)
  have hn : (natI o.nodes)[0]'(by rw [natI_length]; exact h0) = ((o.nodes.getD 0 7 : Nat) : Int) := by
    unfold natI
    simp [List.getD_eq_getElem?_getD, h0]
  rw [hn, Nat.add_zero] at a0
  obtain ⟨c0, c1, _, _, _⟩ := h.cells
  have i0 : (0 : Int) ≤ 0 := Int.le_refl _
  have i1 : (0 : Int) < (o.nodes.length : Int) := by omega
  have hr : o.first = decide ((o.self : Int) = ((o.nodes.getD 0 7 : Nat) : Int)) := by
    unfold OS.first
    by_cases e : o.nodes.getD 0 7 = o.self
    · rw [e]; simp
    · rw [decide_eq_false e, decide_eq_false (by omega)]
  rw [hr]
  rw [hg] at c1
  clear h hr hn hk hg
  generalize ((o.nodes.getD 0 7 : Nat) : Int) = x at *
  unfold OL.at
  go_enter Try.func10, Try.ntmps10
  go_wp2
  go_quiet (fail)
  go_wp2
  go_ret
  exact ⟨rfl, below_drewN (Below.refl _ _) _⟩
theorem plen {w : World} {L : OL} {o : OS} (h : OAt w L o) : Calls Try.prog 25 #[L.at] w fun e w' => e = .returned (.int .i64 o.log.length) ∧ w' = w := by
  obtain ⟨_, _, c2, _, _⟩ := h.cells
  unfold OL.at
  clear h
  go_enter Try.func25, Try.ntmps25
  go_wp2
  go_ret
  exact ⟨rfl, rfl⟩
theorem pbytes {w : World} {L : OL} {o : OS} (h : OAt w L o) : Calls Try.prog 26 #[L.at] w fun e w' => e = .returned (.int .i64 o.bytes) ∧ w' = w := by
  obtain ⟨_, _, _, c3, _⟩ := h.cells
  unfold OL.at
  clear h
  go_enter Try.func26, Try.ntmps26
  go_wp2
  go_ret
  exact ⟨rfl, rfl⟩
theorem psure {w : World} {L : OL} {o : OS} (h : OAt w L o) : Calls Try.prog 28 #[L.at] w fun e w' => e = .returned (.int .i64 o.sure) ∧ w' = w := by
  obtain ⟨_, _, _, _, c4⟩ := h.cells
  unfold OL.at
  clear h
  go_enter Try.func28, Try.ntmps28
  go_wp2
  go_ret
  exact ⟨rfl, rfl⟩
theorem wrap_add (b l : Int) : wrap64 (wrap64 (b + l) + 4) = wrap64 (b + (l + 4)) := by
  unfold wrap64
  omega
theorem pfits {w : World} {L : OL} {o : OS} (h : OAt w L o) (s : ByteArray) (hs : s.size ≤ 140737488355328) : Calls Try.prog 34 #[L.at, .string s] w fun e w' => e = .returned (.bool (o.fits s)) ∧ w' = w := by
  obtain ⟨_, _, _, c3, _⟩ := h.cells
  unfold OL.at
  clear h
  have hr : o.fits s = decide (wrap64 (wrap64 (o.bytes + (s.size : Int)) + 4) ≤ 45000) := by
    unfold OS.fits addB
    rw [wrap_add]
  rw [hr]
  clear hr
  go_enter Try.func34, Try.ntmps34
  go_wp2
  go_ret
  exact ⟨rfl, rfl⟩
end Go.Proofs.Ytjgbgbgajadgnaa
