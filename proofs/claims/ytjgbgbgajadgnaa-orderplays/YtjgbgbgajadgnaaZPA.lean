/-
  The law's own log in a view, where it lies; First, Bytes, had, other, as they run.
-/
import Derived.Test.YtjgbgbgajadgnaaZOV
import Derived.Test.YtjgbgbgajadgnaaZOU
namespace Go.Proofs.Ytjgbgbgajadgnaa
open Go.RowKit Go.Shelf

attribute [local go_sem ↓] Go.wp_at_zero Go.wp_at_succ
set_option linter.unusedSimpArgs false
set_option linter.unusedVariables false
theorem bytesF_snoc' (L : List ByteArray) (s : ByteArray) : bytesF (L ++ [s]) = addB (bytesF L) s := by simp [bytesF, List.foldl_append]
/-- How the law's own numbers stand to a log's. -/
structure Rel (o : OS) (base : Nat) (has : List Nat) : Prop where
  seven : has.length = 7
  other : ∀ i, i < 7 → i ∈ o.nodes → i ≠ o.self → o.had.getD i 0 = max base (has.getD i 0)
  self : o.had.getD o.self 0 = o.log.length
  bytes : o.bytes = bytesF o.log
  small : base ≤ 9007199254740992 ∧ ∀ i, has.getD i 0 ≤ 9007199254740992
/-- Where it lies. -/
structure RL where
  b : Nat
  no : Option Addr
  nc : Nat
  lo : Option Addr
  lc : Nat
  ha : Nat
def rBox (R : RL) (o : OS) (base : Nat) : Array Value := #[.int .i64 o.self, .slice R.no o.nodes.length R.nc, .slice R.lo o.log.length R.lc, .int .i64 o.sure, .int .i64 base, .slice (some ⟨R.ha, 0, none⟩) 7 7]
def hasA (has : List Nat) : Array Value := (has.map fun x => Value.int .i64 ((x : Nat) : Int)).toArray
structure RAt (w : World) (R : RL) (o : OS) (base : Nat) (has : List Nat) : Prop where
  box : w.heap[R.b]? = some (.cells (rBox R o base) 47 (0, 0))
  nodes : w.ownsRow 0 3 1 (.slice R.no o.nodes.length R.nc) o.nodes.length ((natI o.nodes).map (.int .i64))
  log : w.ownsRow 0 9 1 (.slice R.lo o.log.length R.lc) o.log.length (textC o.log)
  has : w.heap[R.ha]? = some (.cells (hasA has) 3 (0, 0))
  apart : R.no.map Addr.block ≠ some R.ha
def RL.all (R : RL) (j : Nat) : Prop := j = R.b ∨ R.lo.map Addr.block = some j ∨ R.no.map Addr.block = some j ∨ j = R.ha
theorem RAt.keep {w w' : World} {R : RL} {o : OS} {base : Nat} {has : List Nat} {own : Nat → Prop} (h : RAt w R o base has) (ht : Touch own w w') (hn : ∀ j, R.all j → ¬ own j) : RAt w' R o base has :=
  ⟨ht.at h.box (hn _ (.inl rfl)), ht.row h.nodes fun k e => hn k (.inr (.inr (.inl (by rw [ownBlock_slice] at e; exact e)))), ht.row h.log fun k e => hn k (.inr (.inl (by rw [ownBlock_slice] at e; exact e))), ht.at h.has (hn _ (.inr (.inr (.inr rfl)))), h.apart⟩
theorem RAt.below {w w' : World} {R : RL} {o : OS} {base : Nat} {has : List Nat} (h : RAt w R o base has) (hb : Below w.heap.size w w') : RAt w' R o base has := h.keep (own := fun _ => False) (Touch.of_below hb) fun _ _ e => e
theorem RAt.lt {w : World} {R : RL} {o : OS} {base : Nat} {has : List Nat} (h : RAt w R o base has) {j : Nat} (hj : R.all j) : j < w.heap.size := by
  rcases hj with rfl | e | e | rfl
  · exact heap_lt h.box
  · exact row_lt h.log (by rw [ownBlock_slice]; exact e)
  · exact row_lt h.nodes (by rw [ownBlock_slice]; exact e)
  · exact heap_lt h.has
theorem RAt.ints {w : World} {R : RL} {o : OS} {base : Nat} {has : List Nat} (h : RAt w R o base has) : IntsAt w R.no (natI o.nodes) := by
  have := h.nodes
  rw [← natI_length] at this
  exact ints_own this
theorem RAt.texts {w : World} {R : RL} {o : OS} {base : Nat} {has : List Nat} (h : RAt w R o base has) : TextsAt w R.lo o.log := texts_own h.log
theorem RAt.ha_ne {w : World} {R : RL} {o : OS} {base : Nat} {has : List Nat} (h : RAt w R o base has) : R.ha ≠ R.b := fun e => by
  have h1 := h.has
  rw [e, h.box] at h1
  injection h1 with h1
  injection h1 with _ h3 _
  revert h3
  decide +kernel
theorem RAt.log_ne {w : World} {R : RL} {o : OS} {base : Nat} {has : List Nat} (h : RAt w R o base has) : R.lo.map Addr.block ≠ some R.b := fun e => by
  have := row_type h.log (by rw [ownBlock_slice]; exact e) h.box
  revert this
  decide +kernel
theorem RAt.log_ha {w : World} {R : RL} {o : OS} {base : Nat} {has : List Nat} (h : RAt w R o base has) : R.lo.map Addr.block ≠ some R.ha := fun e => by
  have := row_type h.log (by rw [ownBlock_slice]; exact e) h.has
  revert this
  decide +kernel
theorem RAt.no_ne {w : World} {R : RL} {o : OS} {base : Nat} {has : List Nat} (h : RAt w R o base has) : R.no.map Addr.block ≠ some R.b := fun e => by
  have := row_type h.nodes (by rw [ownBlock_slice]; exact e) h.box
  revert this
  decide +kernel
theorem RAt.no_log {w : World} {R : RL} {o : OS} {base : Nat} {has : List Nat} (h : RAt w R o base has) {j : Nat} (h1 : R.no.map Addr.block = some j) : R.lo.map Addr.block ≠ some j := fun e => by
  have := row_types h.nodes h.log (j := j) (by rw [ownBlock_slice]; exact h1) (by rw [ownBlock_slice]; exact e)
  revert this
  decide +kernel
/-- Its parts, as they are read. -/
structure RC (w : World) (R : RL) (o : OS) (base : Nat) : Prop where
  c0 : w.cell? ⟨R.b, 0, none⟩ = some (.int .i64 o.self)
  c1 : w.cell? ⟨R.b, 1, none⟩ = some (.slice R.no o.nodes.length R.nc)
  c2 : w.cell? ⟨R.b, 2, none⟩ = some (.slice R.lo o.log.length R.lc)
  c3 : w.cell? ⟨R.b, 3, none⟩ = some (.int .i64 o.sure)
  c4 : w.cell? ⟨R.b, 4, none⟩ = some (.int .i64 base)
  c5 : w.cell? ⟨R.b, 5, none⟩ = some (.slice (some ⟨R.ha, 0, none⟩) 7 7)
theorem RAt.cells {w : World} {R : RL} {o : OS} {base : Nat} {has : List Nat} (h : RAt w R o base has) : RC w R o base := ⟨box_cell h.box 0 rfl, box_cell h.box 1 rfl, box_cell h.box 2 rfl, box_cell h.box 3 rfl, box_cell h.box 4 rfl, box_cell h.box 5 rfl⟩
theorem hasA_get {has : List Nat} (h7 : has.length = 7) (i : Nat) (hi : i < 7) : (hasA has)[i]? = some (.int .i64 (has.getD i 0 : Nat)) := by
  unfold hasA
  rw [List.getElem?_toArray, List.getElem?_map, List.getD_eq_getElem?_getD, List.getElem?_eq_getElem (by omega)]
  rfl
theorem RAt.hasc {w : World} {R : RL} {o : OS} {base : Nat} {has : List Nat} (h : RAt w R o base has) (h7 : has.length = 7) (i : Nat) (hi : i < 7) : w.cell? ⟨R.ha, i, none⟩ = some (.int .i64 (has.getD i 0 : Nat)) := box_cell h.has i (hasA_get h7 i hi)
theorem RAt.node {w : World} {R : RL} {o : OS} {base : Nat} {has : List Nat} (h : RAt w R o base has) (k : Nat) (hk : k < o.nodes.length) : ∃ g off, R.no = some ⟨g, off, none⟩ ∧ w.cell? ⟨g, off + k, none⟩ = some (.int .i64 (o.nodes[k] : Int)) := by
  obtain ⟨g, off, e, _, hc⟩ := h.ints k (by rw [natI_length]; exact hk)
  refine ⟨g, off, e, ?_⟩
  rw [hc]
  simp [natI]
set_option maxHeartbeats 1000000 in
theorem rfirst {w : World} {R : RL} {o : OS} {base : Nat} {has : List Nat} (h : RAt w R o base has) (hk : o.Ok) : Calls Try.prog 11 #[.pointer (some ⟨R.b, 0, none⟩)] w fun e w' => e = .returned (.bool o.first) ∧ Below w.heap.size w w' := by
  have h0 := hk.pos
  have h7 := hk.len
  obtain ⟨g, off, hg, a0⟩ := h.node 0 h0
  have hn : ((o.nodes[0] : Nat) : Int) = ((o.nodes.getD 0 7 : Nat) : Int) := by
    simp [List.getD_eq_getElem?_getD, h0]
  rw [hn, Nat.add_zero] at a0
  obtain ⟨c0, c1, _, _, _, _⟩ := h.cells
  have i0 : (0 : Int) ≤ 0 := Int.le_refl _
  have i1 : (0 : Int) < (o.nodes.length : Int) := by omega
  have hr : o.first = decide (((o.nodes.getD 0 7 : Nat) : Int) = (o.self : Int)) := by
    unfold OS.first
    by_cases e : o.nodes.getD 0 7 = o.self
    · rw [e]; simp
    · rw [decide_eq_false e, decide_eq_false (by omega)]
  rw [hr]
  rw [hg] at c1
  clear h hr hn hk hg
  generalize ((o.nodes.getD 0 7 : Nat) : Int) = x at *
  go_enter Try.func11, Try.ntmps11
  go_wp2
  go_quiet (fail)
  go_wp2
  go_ret
  exact ⟨rfl, below_drewN (Below.refl _ _) _⟩
theorem size_step (a : Int) (s : ByteArray) : wrap64 (wrap64 (a + (s.size : Int)) + 4) = addB a s := by
  unfold addB
  exact wrap_add _ _
set_option maxHeartbeats 2000000 in
theorem rbytes {w : World} {R : RL} {o : OS} {base : Nat} {has : List Nat} (h : RAt w R o base has) (hk : o.Ok) (hl : o.log.length ≤ 17592186044416) : Calls Try.prog 27 #[.pointer (some ⟨R.b, 0, none⟩)] w fun e w' => e = .returned (.int .i64 (bytesF o.log)) ∧ w' = w := by
  obtain ⟨_, _, c2, _, _, _⟩ := h.cells
  have HT := hide h.texts
  have HS := hide hk.text
  clear h hk
  generalize o.log = l at *
  go_enter Try.func27, Try.ntmps27
  go_wp2
  go_loop [3, 4] (fun i j => ∃ k : Nat, k ≤ l.length ∧ j = .int .i64 k ∧ i = .int .i64 (bytesF (l.take k))) (fun i j => l.length - (intOf j).toNat)
  case atStart => exact ⟨0, Nat.zero_le _, rfl, rfl⟩
  case round =>
    obtain ⟨k, hk, rfl, rfl⟩ := hrel
    by_cases hlt : k < l.length
    · obtain ⟨g, off, hlo, hg, hcell⟩ := HT.out k hlt
      rw [hlo] at c2
      have h0 : (0 : Int) ≤ (k : Int) := by omega
      have h1 : (k : Int) < (l.length : Int) := by omega
      have HB : Hid (bytesF (l.take (k + 1)) = wrap64 (wrap64 (bytesF (l.take k) + (l[k].size : Int)) + 4)) := by
        show _ = _
        rw [List.take_succ_eq_append_getElem hlt, bytesF_snoc', size_step]
      have hsz := HS.out _ (List.getElem_mem hlt)
      generalize l[k] = x at *
      generalize bytesF (l.take k) = bt at *
      go_wp2
      go_round
      case rel => exact ⟨k + 1, by omega, by go_num, by rw [HB.out]⟩
      case measure => simp [intOf]; omega
    · obtain rfl : k = l.length := by omega
      have hi1 : ¬ (l.length : Int) < (l.length : Int) := by omega
      have HB : Hid (bytesF (l.take l.length) = bytesF l) := by show _ = _; rw [List.take_length]
      go_wp2
      go_ret
      exact ⟨rfl, rfl⟩
set_option maxHeartbeats 2000000 in
theorem rhad {w : World} {R : RL} {o : OS} {base : Nat} {has : List Nat} (h : RAt w R o base has) (hk : o.Ok) (hr : Rel o base has) (node : Nat) (h7 : node < 7) (hm : node ∈ o.nodes) : Calls Try.prog 40 #[.pointer (some ⟨R.b, 0, none⟩), .int .i64 (node : Int)] w fun e w' => e = .returned (.int .i64 (o.had.getD node 0 : Nat)) ∧ Below w.heap.size w w' := by
  obtain ⟨c0, _, c2, _, c4, c5⟩ := h.cells
  have cx := h.hasc hr.seven node h7
  by_cases e : node = o.self
  · rw [e, hr.self]
    clear h hr cx c4 c5 hk
    go_enter Try.func40, Try.ntmps40
    go_wp2
    go_ret
    exact ⟨rfl, Below.refl _ _⟩
  · have HE : Hid ((o.had.getD node 0 : Nat) = max base (has.getD node 0)) := hr.other node h7 hm e
    have ne : ¬ (node : Int) = (o.self : Int) := by omega
    have hs1 := hr.small.1
    have hs2 := hr.small.2 node
    have i0 : (0 : Int) ≤ (node : Int) := by omega
    have i1 : (node : Int) < 7 := by omega
    have HM : Hid (((max base (has.getD node 0) : Nat) : Int) = max (base : Int) ((has.getD node 0 : Nat) : Int)) := by show _ = _; omega
    clear h hr hk c2
    generalize has.getD node 0 = hv at *
    rw [HE.out]
    go_enter Try.func40, Try.ntmps40
    go_wp2
    go_region
    all_goals go_wp2
    all_goals go_ret
    all_goals exact ⟨by rw [HM.out]; rfl, (Below.refl _ _).drew⟩
set_option maxHeartbeats 2000000 in
theorem rother {w : World} {R : RL} {o : OS} {base : Nat} {has : List Nat} (h : RAt w R o base has) (hk : o.Ok) (node : Int) : Calls Try.prog 38 #[.pointer (some ⟨R.b, 0, none⟩), .int .i64 node] w fun e w' => e = .returned (.bool (o.asks node)) ∧ Below w.heap.size w w' := by
  obtain ⟨_, c1, _, _, _, _⟩ := h.cells
  have h7 := hk.len
  have HF := hide (rfirst h hk)
  have HG := hide (fun k hk => h.node k hk)
  have HC : Hid (∀ w1, Below w.heap.size w w1 → w1.cell? ⟨R.b, 0, none⟩ = some (.int .i64 o.self)) := fun w1 b1 => (h.below b1).cells.c0
  have HA : Hid (o.asks node = (o.first && (o.nodes.any fun i => decide ((i : Int) = node)) && decide (node ≠ (o.self : Int)))) := by
    show _ = _
    unfold OS.asks
    rw [Bool.and_assoc, Bool.and_assoc, Bool.and_comm (decide _)]
  clear h hk
  generalize o.asks node = r at *
  go_enter Try.func38, Try.ntmps38
  go_wp2
  go_loop [5, 6] (fun i j => ∃ k : Nat, k ≤ o.nodes.length ∧ j = .int .i64 k ∧ i = .bool ((o.nodes.take k).any fun i => decide ((i : Int) = node))) (fun i j => o.nodes.length - (intOf j).toNat)
  case atStart => exact ⟨0, Nat.zero_le _, rfl, rfl⟩
  case round =>
    obtain ⟨k, hk, rfl, rfl⟩ := hrel
    by_cases hlt : k < o.nodes.length
    · obtain ⟨g, off, hno, hcell⟩ := HG.out k hlt
      rw [hno] at c1
      have h0 : (0 : Int) ≤ (k : Int) := by omega
      have h1 : (k : Int) < (o.nodes.length : Int) := by omega
      have HB : Hid (((o.nodes.take (k + 1)).any fun i => decide ((i : Int) = node)) = (((o.nodes.take k).any fun i => decide ((i : Int) = node)) || decide ((o.nodes[k] : Int) = node))) := by
        show _ = _
        rw [List.take_succ_eq_append_getElem hlt, List.any_append]
        simp
      generalize o.nodes[k] = x at *
      generalize ((o.nodes.take k).any fun i => decide ((i : Int) = node)) = b at *
      cases b with
      | true =>
        go_wp2
        go_round
        case rel => exact ⟨k + 1, by omega, by go_num, by rw [HB.out]; rfl⟩
        case measure => simp [intOf]; omega
      | false =>
        go_wp2
        go_round
        case rel => exact ⟨k + 1, by omega, by go_num, by rw [HB.out]; rfl⟩
        case measure => simp [intOf]; omega
    · obtain rfl : k = o.nodes.length := by omega
      have hi1 : ¬ (o.nodes.length : Int) < (o.nodes.length : Int) := by omega
      have e0 : ((o.nodes.take o.nodes.length).any fun i => decide ((i : Int) = node)) = (o.nodes.any fun i => decide ((i : Int) = node)) := by rw [List.take_length]
      rw [e0]
      have HA' := HA
      clear e0
      have hd : decide (node ≠ (o.self : Int)) = (node != (o.self : Int)) := by
        by_cases e : node = (o.self : Int) <;> simp [e]
      rw [hd] at HA'
      clear HA HG hd
      generalize (o.nodes.any fun i => decide ((i : Int) = node)) = b at *
      generalize o.first = f at *
      cases f <;> cases b <;> (go_wp2_with (go_at_call 11; refine HF.out.mono ?_; rintro e w1 ⟨rfl, b1⟩; have c0 := HC.out w1 b1; have B1 := hide b1; clear b1)) <;> go_ret <;> exact ⟨by rw [HA'.out]; first | rfl | (simp; done), B1.out⟩
end Go.Proofs.Ytjgbgbgajadgnaa
