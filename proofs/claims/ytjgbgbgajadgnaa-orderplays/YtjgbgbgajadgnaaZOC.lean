/-
  asks, cloned, Log, Wants, Learn, as they run.
-/
import Derived.Test.YtjgbgbgajadgnaaZOB
namespace Go.Proofs.Ytjgbgbgajadgnaa
open Go.RowKit Go.Shelf

attribute [local go_sem ↓] Go.wp_at_zero Go.wp_at_succ
set_option linter.unusedSimpArgs false
set_option linter.unusedVariables false
theorem nodes_any (l : List Nat) (node : Int) : ((natI l).any fun x => decide (x = node)) = l.any fun i => decide ((i : Int) = node) := by
  unfold natI
  rw [List.any_map]
  rfl
theorem row_base {w : World} {B B' : Nat} {e : TypeId} {size : Nat} {v : Value} {n : Nat} {xs : List Value} (h : w.ownsRow B e size v n xs) (hb : B' ≤ B) : w.ownsRow B' e size v n xs := by
  refine ⟨h.1, h.2.imp id ?_⟩
  rintro ⟨g, cap, cur, h1, h2, h3⟩
  exact ⟨g, cap, cur, h1, Nat.le_trans hb h2, h3⟩
set_option maxHeartbeats 1000000 in
theorem pasks {w : World} {L : OL} {o : OS} (h : OAt w L o) (hk : o.Ok) (node : Int) : Calls Try.prog 37 #[L.at, .int .i64 node] w fun e w' => e = .returned (.bool (o.asks node)) ∧ Below w.heap.size w w' := by
  have HF := hide (pfirst h hk)
  have HH := hide h
  have h7 := hk.len
  have HC : Hid (∀ w1, Below w.heap.size w w1 → w1.cell? ⟨L.b, 0, none⟩ = some (.int .i64 o.self) ∧ w1.cell? ⟨L.b, 1, none⟩ = some (.slice L.no o.nodes.length L.nc)) := fun w1 b1 => ⟨(h.below b1).cells.c0, (h.below b1).cells.c1⟩
  have HI : Hid (∀ w1, Below w.heap.size w w1 → Calls Try.prog 31 #[.slice L.no o.nodes.length L.nc, .int .i64 node] w1 fun e w' => e = .returned (.bool (o.nodes.any fun i => decide ((i : Int) = node))) ∧ w' = w1) := fun w1 b1 => by
    have := pcontains L.no L.nc (natI o.nodes) node w1 (h.below b1).ints (by rw [natI_length]; omega)
    rw [natI_length, nodes_any] at this
    exact this
  unfold OS.asks
  unfold OL.at at *
  clear h HH
  generalize (o.nodes.any fun i => decide ((i : Int) = node)) = r at *
  cases hf : o.first with
  | false =>
    rw [hf] at HF
    simp only [Bool.false_and]
    go_enter Try.func37, Try.ntmps37
    go_wp2_with (go_at_call 10; refine HF.out.mono ?_; rintro e w1 ⟨rfl, b1⟩)
    go_ret
    exact ⟨rfl, b1⟩
  | true =>
    rw [hf] at HF
    simp only [Bool.true_and]
    by_cases e : node = (o.self : Int)
    · subst e
      have hd : decide ((o.self : Int) ≠ (o.self : Int)) = false := by simp
      rw [hd]
      clear hd
      simp only [Bool.false_and]
      go_enter Try.func37, Try.ntmps37
      go_wp2_with (go_at_call 10; refine HF.out.mono ?_; rintro e w1 ⟨rfl, b1⟩; obtain ⟨c0, c1⟩ := HC.out w1 b1)
      go_ret
      exact ⟨rfl, b1⟩
    · have hd : decide (node ≠ (o.self : Int)) = true := by simp [e]
      rw [hd]
      clear hd
      simp only [Bool.true_and]
      go_enter Try.func37, Try.ntmps37
      go_wp2_with (first | (go_at_call 10; refine HF.out.mono ?_; rintro e w1 ⟨rfl, b1⟩; obtain ⟨c0, c1⟩ := HC.out w1 b1; have B1 := hide b1; clear b1) | (go_at_call 31; refine (HI.out _ B1.out).mono ?_; rintro e w2 ⟨rfl, rfl⟩))
      go_ret
      have hne : (node != (o.self : Int)) = true := by simp [e]
      exact ⟨by show Ending.returned (.bool _) = _; rw [hne, Bool.true_and], B1.out⟩
theorem row_stored_set {l : List ByteArray} {n k : Nat} (hk : k < l.length) : (textC (l.take k) ++ List.replicate (l.length - k) (Value.string ⟨#[]⟩)).set k (.string l[k]) = textC (l.take (k + 1)) ++ List.replicate (l.length - (k + 1)) (Value.string ⟨#[]⟩) := by
  have e : (textC (l.take k)).length = k := by rw [textC_length, List.length_take]; omega
  rw [List.set_append_right _ _ (by omega), e, Nat.sub_self, List.take_succ_eq_append_getElem hk, textC_append, List.append_assoc]
  congr 1
  rw [show l.length - k = (l.length - (k + 1)) + 1 by omega, List.replicate_succ]
  rfl
set_option maxHeartbeats 2000000 in
theorem pcloned (ao : Option Addr) (cp : Nat) (l : List ByteArray) (w : World) (hc : TextsAt w ao l) (hl : l.length ≤ 17592186044416) (hs : ∀ s ∈ l, s.size ≤ 281474976710656) :
    Calls Try.prog 39 #[.slice ao l.length cp] w fun e w' => ∃ g, e = .returned (.slice (some ⟨g, 0, none⟩) l.length l.length) ∧ w'.ownsRow w.heap.size 9 1 (.slice (some ⟨g, 0, none⟩) l.length l.length) l.length (textC l) ∧ Below w.heap.size w w' := by
  have HC := hide hc
  have HS := hide hs
  obtain ⟨i0, hi0, hz0, hz1, hz2⟩ := zinfo_parts infoStr
  clear hc hs
  go_enter Try.func39, Try.ntmps39
  go_wp2_with (refine wpList_make_full _ rfl _ _ 23 rfl w.heap.size 9 i0 (.string ⟨#[]⟩) 1 Try.underlying23 hi0 hz0 hz1 .i64 .i64 _ _ l.length rfl rfl rfl rfl (by rw [hz2]; omega) (by unfold maxLen; omega) (Nat.le_refl _) ?_; intro w1 hown hgrow)
  have O1 : Hid (w1.ownsRow w.heap.size 9 1 (.slice (some ⟨w.heap.size, 0, none⟩) l.length l.length) l.length (textC (l.take 0) ++ List.replicate (l.length - 0) (Value.string ⟨#[]⟩))) := by
    show w1.ownsRow _ _ _ _ _ _
    rw [Nat.mul_one, show (Value.string ⟨#[]⟩).cells = #[.string ⟨#[]⟩] from rfl, toList_madeCells_one] at hown
    simpa [textC] using hown
  have B1 := hide ((Below.refl w.heap.size w).grown hgrow (Nat.le_refl _) (fun j hj => by cases hj))
  clear hown hgrow
  go_loopw [4, 5, 11] (fun _ _ iv wv => ∃ k : Nat, k ≤ l.length ∧ iv = .int .i64 k ∧ Hid (wv.ownsRow w.heap.size 9 1 (.slice (some ⟨w.heap.size, 0, none⟩) l.length l.length) l.length (textC (l.take k) ++ List.replicate (l.length - k) (Value.string ⟨#[]⟩))) ∧ Hid (Below w.heap.size w wv)) (fun _ _ iv _ => l.length - (intOf iv).toNat)
  case atStart => exact ⟨0, Nat.zero_le _, rfl, O1, B1⟩
  case round =>
    obtain ⟨k, hk, rfl, OV, BV⟩ := hrel
    by_cases hlt : k < l.length
    · obtain ⟨g, off, rfl, hg, hcell⟩ := (HC.out.below BV.out) k hlt
      have h0 : (0 : Int) ≤ (k : Int) := by omega
      have h1 : (k : Int) < (l.length : Int) := by omega
      have HK := hide (fun W => clone_any l[k] W (HS.out _ (List.getElem_mem hlt)))
      have HR := hide (row_stored_set (n := 0) hlt)
      generalize l[k] = x at *
      go_wp2_with (go_at_call 42; refine (HK.out _).mono ?_; rintro e w3 ⟨rfl, b3⟩; have B3 := hide (BV.out.trans (b3.mono BV.out.size)); have O3 := hide (below_row b3 OV.out); have f3 := O3.out.frozenAt k; have c3 := O3.out.cellAt k (by omega); rw [List.getElem?_eq_getElem (by rw [O3.out.1]; omega)] at c3; clear b3)
      have O4 := (O3.out.stored k (.string x))
      exact ⟨⟨k + 1, by omega, by go_num, by rw [← HR.out]; exact O4.1, B3.out.grown O4.2 B3.out.size (fun j hj => by injection hj with hj; omega)⟩, by simp [intOf]; omega⟩
    · have hi1 : ¬ (k : Int) < (l.length : Int) := by omega
      obtain rfl : k = l.length := by omega
      go_wp2
      go_ret
      have h1 := OV.out
      rw [List.take_length, Nat.sub_self, List.replicate_zero, List.append_nil] at h1
      exact ⟨_, rfl, h1, BV.out⟩
theorem plog {w : World} {L : OL} {o : OS} (h : OAt w L o) (hk : o.Ok) (hn : o.log.length ≤ 17592186044416) : Calls Try.prog 24 #[L.at] w fun e w' => ∃ g, e = .returned (.slice (some ⟨g, 0, none⟩) o.log.length o.log.length) ∧ w'.ownsRow w.heap.size 9 1 (.slice (some ⟨g, 0, none⟩) o.log.length o.log.length) o.log.length (textC o.log) ∧ Below w.heap.size w w' := by
  obtain ⟨_, _, c2, _, _⟩ := h.cells
  have HK := hide (pcloned L.lo L.lc o.log w h.texts hn (fun s hs => by have := hk.text s hs; omega))
  unfold OL.at
  clear h hk
  go_enter Try.func24, Try.ntmps24
  go_wp2_with (go_at_call 39; refine HK.out.mono ?_; rintro e w1 ⟨g, rfl, h1, h2⟩)
  go_ret
  exact ⟨g, rfl, h1, h2⟩
/-- What is there behind the first ones. -/
theorem TextsAt.drop {w : World} {g off : Nat} {l : List ByteArray} (h : TextsAt w (some ⟨g, off, none⟩) l) (k : Nat) : TextsAt w (some ⟨g, off + k, none⟩) (l.drop k) := fun i hi => by
  rw [List.length_drop] at hi
  obtain ⟨g', off', e, hg, hc⟩ := h (k + i) (by omega)
  injection e with e
  injection e with e1 e2 _
  subst e1 e2
  refine ⟨g, off + k, rfl, hg, ?_⟩
  rw [List.getElem_drop, ← hc, Nat.add_assoc]
theorem TextsAt.take {w : World} {ao : Option Addr} {l : List ByteArray} (h : TextsAt w ao l) (k : Nat) : TextsAt w ao (l.take k) := fun i hi => by
  rw [List.length_take] at hi
  obtain ⟨g, off, e, hg, hc⟩ := h i (by omega)
  refine ⟨g, off, e, hg, ?_⟩
  rw [hc, List.getElem_take]
theorem TextsAt.nil (w : World) (ao : Option Addr) {l : List ByteArray} (h : l = []) : TextsAt w ao l := fun i hi => by subst h; simp at hi
theorem elemTx : Try.prog.elem 23 = 9 := by kernel_rfl
theorem sizeOfTx (w : World) : (sizeOf 9).run Try.prog w = .ok 1 w := by kernel_rfl
theorem underTx : Try.prog.underlying 23 = some (.slice (Try.prog.elem 23)) := by rw [elemTx]; exact Try.underlying23
theorem TextsAt.none {w : World} {l : List ByteArray} (h : TextsAt w none l) : l = [] := by
  cases l with
  | nil => rfl
  | cons x r => obtain ⟨g, off, e, _⟩ := h 0 (by simp); cases e
theorem texts_from {w : World} {ao : Option Addr} {cap : Nat} {l : List ByteArray} (h : TextsAt w ao l) (hc : l.length ≤ cap) (k : Nat) (hk : k ≤ l.length) :
    ∃ ao' cap', (∀ W, (Instr.slice 23 (.slice ao l.length cap) (some (.int .i64 k)) .none .none).run Try.prog W = .ok (.slice ao' (l.length - k) cap') W) ∧ l.length - k ≤ cap' ∧ ∀ W, TextsAt W ao l → TextsAt W ao' (l.drop k) := by
  have hr : ∀ W, (Instr.slice 23 (.slice ao l.length cap) (some (.int .i64 k)) .none .none).run Try.prog W = .ok (sliced ao k l.length cap 1) W := by
    intro W
    rw [run_slice_l (P := Try.prog) W 23 ao l.length cap underTx .i64 k (by omega) (by omega), elemTx, sizeOfTx]
    rfl
  by_cases e : cap = k
  · refine ⟨ao, cap - k, fun W => by rw [hr, sliced, if_pos e], by omega, fun W _ => TextsAt.nil _ _ (List.drop_eq_nil_of_le (by omega))⟩
  · cases ao with
    | none =>
      have hl := h.none
      subst hl
      refine ⟨.none, cap - k, fun W => by rw [hr, sliced, if_neg e]; rfl, by simp, fun W _ => TextsAt.nil _ _ (by simp)⟩
    | some a =>
      by_cases hl : l = []
      · refine ⟨some (a.add (k * 1)), cap - k, fun W => by rw [hr, sliced, if_neg e]; rfl, by omega, fun W _ => TextsAt.nil _ _ (by simp [hl])⟩
      · obtain ⟨g, off, e2, _⟩ := h 0 (List.length_pos_iff.2 hl)
        injection e2 with e2
        subst e2
        refine ⟨some ⟨g, off + k, .none⟩, cap - k, fun W => by rw [hr, sliced, if_neg e, Option.map_some, Addr.add_lit, Nat.mul_one], by omega, fun W hW => hW.drop k⟩
theorem texts_upto {ao : Option Addr} {m n cap : Nat} (hn : n ≤ cap) :
    ∀ W, (Instr.slice 23 (.slice ao m cap) .none (some (.int .i64 (n : Nat))) .none).run Try.prog W = .ok (.slice ao n cap) W := by
  intro W
  rw [run_slice_h (P := Try.prog) W 23 ao m cap underTx .i64 n (by omega) (by omega), elemTx, sizeOfTx]
  simp only [Result.andThen, sliced, Int.toNat_natCast, Nat.sub_zero]
  by_cases h0 : cap = 0
  · rw [if_pos h0]
  · rw [if_neg h0]
    cases ao with
    | none => rfl
    | some a => simp [Addr.add]
set_option maxHeartbeats 4000000 in
theorem pwants {w : World} {L : OL} {o : OS} (h : OAt w L o) (hk : o.Ok) (hn : o.log.length ≤ 17592186044416) (node most : Int) (hm : most ≤ 9223372036854775807) : Calls Try.prog 21 #[L.at, .int .i64 node, .int .i64 most] w fun e w' => ∃ v, e = .returned (.tuple #[.int .i64 (o.wants node most).1, v]) ∧ (∃ ao cp, v = .slice ao (o.wants node most).2.length cp ∧ w'.ownsRow w.heap.size 9 1 v (o.wants node most).2.length (textC (o.wants node most).2)) ∧ Below w.heap.size w w' := by
  have HA := hide (pasks h hk node)
  have HH := hide h
  unfold OL.at at *
  cases ha : o.asks node with
  | false =>
    have e1 : o.wants node most = (-1, []) := by unfold OS.wants; rw [ha]; rfl
    rw [e1]
    clear e1 h hk HH
    rw [ha] at HA
    go_enter Try.func21, Try.ntmps21
    go_wp2_with (go_at_call 37; refine HA.out.mono ?_; rintro e w1 ⟨rfl, b1⟩)
    go_ret2
    exact ⟨_, rfl, ⟨none, 0, rfl, World.ownsRow_nil _ _ _ _⟩, b1⟩
  | true =>
    obtain ⟨_, hne, hmem, hcast, hlt⟩ := hk.asks ha
    obtain ⟨m, rfl⟩ : ∃ m : Nat, node = (m : Int) := ⟨node.toNat, hcast.symm⟩
    have ht : (m : Int).toNat = m := rfl
    rw [ht] at hmem hlt
    have hle := hk.get m
    have e1 : o.wants m most = (((o.had.getD m 0 : Nat) : Int), (o.log.drop (o.had.getD m 0)).take most.toNat) := by unfold OS.wants; rw [ha, ht]; rfl
    rw [e1]
    clear e1 hcast ht hne hmem
    rw [ha] at HA
    have HC : Hid (∀ w1, Below w.heap.size w w1 → w1.cell? ⟨L.b, 2, none⟩ = some (.slice L.lo o.log.length L.lc) ∧ w1.cell? ⟨L.b, 5 + m, none⟩ = some (.int .i64 (o.had.getD m 0 : Nat))) := fun w1 b1 => ⟨(h.below b1).cells.c2, (h.below b1).hadc m hlt⟩
    have HT : Hid (∀ w1, Below w.heap.size w w1 → TextsAt w1 L.lo o.log) := fun w1 b1 => h.texts.below b1
    have hsz := hk.text
    generalize o.had.getD m 0 = k at *
    have hcap : o.log.length ≤ L.lc := by
      rcases h.log.2 with ⟨e, e2⟩ | ⟨g, cap, cur, e, _, _, e3, _⟩
      · omega
      · injection e with _ _ e4; omega
    obtain ⟨lo2, lc2, hs1, hc2, hT2⟩ := texts_from h.texts hcap k hle
    have hp : (0 : Int) ≤ max 0 (min most ((o.log.length - k : Nat) : Int)) := by omega
    obtain ⟨p, hpp⟩ : ∃ p : Nat, max 0 (min most ((o.log.length - k : Nat) : Int)) = (p : Int) := ⟨(max 0 (min most ((o.log.length - k : Nat) : Int))).toNat, by omega⟩
    have hple : p ≤ o.log.length - k := by omega
    have htk : (o.log.drop k).take most.toNat = (o.log.drop k).take p := by
      rcases Nat.lt_or_ge p (o.log.length - k) with h1 | h1
      · have : most.toNat = p := by omega
        rw [this]
      · rw [List.take_of_length_le (by rw [List.length_drop]; omega), List.take_of_length_le (by rw [List.length_drop]; omega)]
    rw [htk]
    clear htk hp
    have hlen : ((o.log.drop k).take p).length = p := by rw [List.length_take, List.length_drop]; omega
    have HK : Hid (∀ w1, Below w.heap.size w w1 → Calls Try.prog 39 #[.slice lo2 p lc2] w1 fun e w' => ∃ g, e = .returned (.slice (some ⟨g, 0, none⟩) p p) ∧ w'.ownsRow w1.heap.size 9 1 (.slice (some ⟨g, 0, none⟩) p p) p (textC ((o.log.drop k).take p)) ∧ Below w1.heap.size w1 w') := fun w1 b1 => by
      have := pcloned lo2 lc2 ((o.log.drop k).take p) w1 ((hT2 w1 (HT.out w1 b1)).take p) (by omega) (fun s hs => by have := hsz s (List.mem_of_mem_drop (List.mem_of_mem_take hs)); omega)
      rw [hlen] at this
      exact this
    rw [hlen]
    have hs2 := texts_upto (ao := lo2) (m := o.log.length - k) (n := p) (cap := lc2) (by omega)
    generalize textC ((o.log.drop k).take p) = XS at *
    have HP := hide hpp
    have HCK : Hid (((o.log.length - k : Nat) : Int) = (o.log.length : Int) - (k : Int)) := by show _ = _; omega
    clear h hk HH HT hT2 hsz hlen hc2 hcap
    go_enter Try.func21, Try.ntmps21
    have i0 : (0 : Int) ≤ (m : Int) := by omega
    have i1 : (m : Int) < 7 := by omega
    go_wp2_with (first | (go_at_call 37; refine HA.out.mono ?_; rintro e w1 ⟨rfl, b1⟩; obtain ⟨c2, c5⟩ := HC.out w1 b1; have B1 := hide b1; clear b1) | (go_at_call 39; refine (HK.out _ B1.out).mono ?_; rintro e w2 ⟨g, rfl, h1, h2⟩))
    go_ret2
    exact ⟨_, rfl, ⟨_, _, rfl, row_base h1 B1.out.size⟩, B1.out.trans (h2.mono B1.out.size)⟩
end Go.Proofs.Ytjgbgbgajadgnaa
