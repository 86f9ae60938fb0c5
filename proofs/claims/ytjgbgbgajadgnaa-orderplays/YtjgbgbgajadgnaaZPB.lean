/-
  sure, as it runs, of the law's own log.
-/
import Derived.Test.YtjgbgbgajadgnaaZPA
namespace Go.Proofs.Ytjgbgbgajadgnaa
open Go.RowKit Go.Shelf

attribute [local go_sem ↓] Go.wp_at_zero Go.wp_at_succ
set_option linter.unusedSimpArgs false
set_option linter.unusedVariables false
/-- What a call on it leaves. -/
structure RStep (w w' : World) (R R' : RL) : Prop where
  touch : Touch R.all w w'
  b : R'.b = R.b
  all : ∀ j, R'.all j → R.all j ∨ w.heap.size ≤ j
theorem RStep.refl (w : World) (R : RL) : RStep w w R R := ⟨Touch.refl _ _, rfl, fun _ h => .inl h⟩
theorem RStep.below {w w1 : World} {R : RL} (h : Below w.heap.size w w1) : RStep w w1 R R := ⟨Touch.of_below h, rfl, fun _ h => .inl h⟩
theorem RStep.trans {w w1 w2 : World} {L L1 L2 : RL} (h : RStep w w1 L L1) (h2 : RStep w1 w2 L1 L2) : RStep w w2 L L2 := by
  refine ⟨⟨h2.touch.os.trans h.touch.os, h2.touch.tape.trans h.touch.tape, h2.touch.output.trans h.touch.output, Nat.le_trans h.touch.size h2.touch.size, fun k hk hn => ?_⟩, h2.b.trans h.b, fun j hj => ?_⟩
  · rw [h2.touch.block k (Nat.lt_of_lt_of_le hk h.touch.size) (fun e => (h.all k e).elim hn (fun e => by omega)), h.touch.block k hk hn]
  · rcases h2.all j hj with e | e
    · exact h.all j e
    · exact .inr (Nat.le_trans h.touch.size e)
theorem RAt.boxed {w : World} {R : RL} {o o' : OS} {base : Nat} {has : List Nat} (h : RAt w R o base has) (k : Nat) (v : Value) (hb : (rBox R o base).setIfInBounds k v = rBox R o' base) (e1 : o'.nodes = o.nodes) (e2 : o'.log = o.log) : RAt (w.setCell ⟨R.b, k, none⟩ v) R o' base has ∧ RStep w (w.setCell ⟨R.b, k, none⟩ v) R R := by
  refine ⟨⟨?_, ?_, ?_, ?_, h.apart⟩, ⟨(Touch.refl _ w).setCell _ _ (fun _ => .inl rfl), rfl, fun _ h => .inl h⟩⟩
  · rw [box_set h.box, hb]
  · rw [e1]
    exact set_row h.nodes _ _ _ (by rw [ownBlock_slice]; exact h.no_ne)
  · rw [e2]
    exact set_row h.log _ _ _ (by rw [ownBlock_slice]; exact h.log_ne)
  · exact box_apart h.has h.ha_ne _ _
theorem cnt_snoc {l : List Nat} {k : Nat} (hk : k < l.length) (v : Nat) : cnt (l.take (k + 1)) v = cnt (l.take k) v + if v ≤ l[k] then 1 else 0 := by
  rw [List.take_succ_eq_append_getElem hk]
  unfold cnt
  rw [List.countP_append]
  simp [List.countP_cons]
theorem cnt_le (l : List Nat) (v : Nat) : cnt l v ≤ l.length := List.countP_le_length
set_option maxHeartbeats 4000000 in
theorem rsure {w : World} {R : RL} {o : OS} {base : Nat} {has : List Nat} (h : RAt w R o base has) (hk : o.Ok) (hr : Rel o base has) (hs : o.sure ≤ midN o.counts) (hl : o.log.length ≤ 17592186044416) :
    Calls Try.prog 36 #[.pointer (some ⟨R.b, 0, none⟩)] w fun e w' => e = .returned (.tuple #[]) ∧ RAt w' R o.make base has ∧ RStep w w' R R := by
  have h7 := hk.len
  have hpos := hk.pos
  have HC : Hid (∀ w1, Below w.heap.size w w1 → RC w1 R o base) := fun w1 b1 => (h.below b1).cells
  have HN : Hid (∀ w1 k (hk : k < o.nodes.length), Below w.heap.size w w1 → ∃ g off, R.no = some ⟨g, off, none⟩ ∧ w1.cell? ⟨g, off + k, none⟩ = some (.int .i64 (o.nodes[k] : Int))) := fun w1 k hk b1 => (h.below b1).node k hk
  have HK : Hid (∀ w1 k (hk : k < o.nodes.length), Below w.heap.size w w1 → Calls Try.prog 40 #[.pointer (some ⟨R.b, 0, none⟩), .int .i64 (o.nodes[k] : Int)] w1 fun e w' => e = .returned (.int .i64 (o.had.getD o.nodes[k] 0 : Nat)) ∧ Below w1.heap.size w1 w') := fun w1 k hk2 b1 => rhad (h.below b1) hk hr _ (hk.lt _ (List.getElem_mem hk2)) (List.getElem_mem hk2)
  have HL : Hid (o.counts.length = o.nodes.length) := by show _ = _; simp [OS.counts]
  have HV : Hid (∀ k (hk : k < o.nodes.length) (v : Nat), cnt (o.counts.take (k + 1)) v = cnt (o.counts.take k) v + if v ≤ o.had.getD o.nodes[k] 0 then 1 else 0) := fun k hk v => by
    rw [cnt_snoc (by rw [HL.out]; exact hk)]
    simp [OS.counts]
  have HW : Hid (∀ k v, cnt (o.counts.take k) v ≤ 7) := fun k v => Nat.le_trans (cnt_le _ _) (by rw [List.length_take, HL.out]; omega)
  have HM : Hid (∀ v, v ≤ midN o.counts ↔ o.nodes.length < 2 * cnt o.counts v) := fun v => by have := mid_iff o.counts hk.cne v; rw [HL.out] at this; exact this
  have HH := hide h
  have hmid : midN o.counts ≤ o.log.length := hk.make.sure
  have HG : Hid (∀ k : Nat, k < o.nodes.length → o.had.getD (o.nodes.getD k 0) 0 ≤ o.log.length) := fun k _ => hk.get _
  have HGD : Hid (∀ k (hk : k < o.nodes.length), o.nodes.getD k 0 = o.nodes[k]) := fun k hk => by simp [List.getD_eq_getElem?_getD, hk]
  have HTK : Hid (∀ v, cnt (o.counts.take o.nodes.length) v = cnt o.counts v) := fun v => by rw [← HL.out, List.take_length]
  have C0 := HC.out w (Below.refl _ _)
  obtain ⟨_, c1, c2, c3, _, _⟩ := C0
  have e9 : o.make = { o with sure := midN o.counts } := rfl
  rw [e9]
  have HE : Hid (∀ wv, Below w.heap.size w wv → o.sure = midN o.counts → RAt wv R { o with sure := midN o.counts } base has ∧ RStep w wv R R) := fun wv bv e => by
    have := h.below bv
    rw [← e]
    exact ⟨this, RStep.below bv⟩
  have HS : Hid (∀ wv, Below w.heap.size w wv → RAt (wv.setCell ⟨R.b, 3, none⟩ (.int .i64 (midN o.counts : Int))) R { o with sure := midN o.counts } base has ∧ RStep w (wv.setCell ⟨R.b, 3, none⟩ (.int .i64 (midN o.counts : Int))) R R) := fun wv bv => by
    have := (h.below bv).boxed (o' := { o with sure := midN o.counts }) 3 (.int .i64 (midN o.counts : Int)) rfl rfl rfl
    exact ⟨this.1, (RStep.below bv).trans this.2⟩
  have HFZ : Hid (∀ wv, Below w.heap.size w wv → wv.frozen? ⟨R.b, 3, none⟩ = false) := fun wv bv => box_free (h.below bv).box 3
  clear h hk hr e9 HH
  generalize midN o.counts = md at *
  go_enter Try.func36, Try.ntmps36
  go_wp2
  have B0 : Hid (Below w.heap.size w w) := Below.refl _ _
  go_loopw [2] (fun iv wv => ∃ n : Nat, md ≤ n ∧ n ≤ o.log.length ∧ iv = .int .i64 (n : Nat) ∧ Hid (Below w.heap.size w wv)) (fun iv _ => (intOf iv).toNat)
  case atStart => exact ⟨_, hmid, Nat.le_refl _, rfl, B0⟩
  case round =>
    obtain ⟨n, hn1, hn2, rfl, BV⟩ := hrel
    clear c1 c2 c3
    obtain ⟨_, c1, _, c3, _, _⟩ := HC.out wr BV.out
    by_cases hlt : (o.sure : Int) < (n : Int)
    · go_upto_region 5 with fail
      go_loopw [3, 4] (fun cv iv wv => ∃ k : Nat, k ≤ o.nodes.length ∧ iv = .int .i64 (k : Nat) ∧ cv = .int .i64 (cnt (o.counts.take k) n : Nat) ∧ Hid (Below w.heap.size w wv)) (fun _ iv _ => o.nodes.length - (intOf iv).toNat)
      case atStart => exact ⟨0, Nat.zero_le _, rfl, rfl, BV⟩
      case round =>
        obtain ⟨k, hk, rfl, rfl, BV2⟩ := hrel
        clear c1 c3
        obtain ⟨_, c1, _, c3, _, _⟩ := HC.out wr BV2.out
        by_cases hlt2 : k < o.nodes.length
        · obtain ⟨g, off, hno, hcell⟩ := HN.out wr k hlt2 BV2.out
          rw [hno] at c1
          have h0 : (0 : Int) ≤ (k : Int) := by omega
          have h1 : (k : Int) < (o.nodes.length : Int) := by omega
          have HK2 := hide (HK.out wr k hlt2 BV2.out)
          have HV2 := hide (HV.out k hlt2 n)
          have hw := HW.out k n
          have hg := HG.out k hlt2
          rw [HGD.out k hlt2] at hg
          generalize o.nodes[k] = x at *
          generalize o.had.getD x 0 = hv at *
          generalize cnt (o.counts.take k) n = ct at *
          by_cases hge : n ≤ hv
          · have hge' : (n : Int) ≤ (hv : Int) := by omega
            have HV3 : Hid (cnt (o.counts.take (k + 1)) n = ct + 1) := by have := HV2.out; rw [if_pos hge] at this; exact this
            clear HV2
            go_wp2_with (go_at_call 40; refine HK2.out.mono ?_; rintro e w3 ⟨rfl, b3⟩; have B3 := hide (BV2.out.trans (b3.mono BV2.out.size)); clear b3)
            exact ⟨⟨k + 1, by omega, by go_num, by rw [HV3.out]; go_num, B3⟩, by simp [intOf]; omega⟩
          · have hge' : ¬ (n : Int) ≤ (hv : Int) := by omega
            have HV3 : Hid (cnt (o.counts.take (k + 1)) n = ct) := by have := HV2.out; rw [if_neg hge] at this; exact this
            clear HV2
            go_wp2_with (go_at_call 40; refine HK2.out.mono ?_; rintro e w3 ⟨rfl, b3⟩; have B3 := hide (BV2.out.trans (b3.mono BV2.out.size)); clear b3)
            exact ⟨⟨k + 1, by omega, by go_num, by rw [HV3.out], B3⟩, by simp [intOf]; omega⟩
        · have hi1 : ¬ (k : Int) < (o.nodes.length : Int) := by omega
          obtain rfl : k = o.nodes.length := by omega
          have HT := hide (HTK.out n)
          have HM2 := hide (HM.out n)
          have hw := HW.out o.nodes.length n
          rw [HT.out] at hw ⊢
          clear HT HTK
          generalize cnt o.counts n = ct at *
          by_cases hgt : o.nodes.length < 2 * ct
          · have hgt' : (o.nodes.length : Int) < 2 * (ct : Int) := by omega
            obtain rfl : n = md := Nat.le_antisymm (HM2.out.2 hgt) hn1
            have fz := HFZ.out wr BV2.out
            have HS2 := hide (HS.out wr BV2.out)
            clear HM2 HM
            go_wp2
            first | go_end0 | ((try simp only [Exit.inBlock, Exit.then]); refine bodyPost_ret (results_none rfl _ _ _) rfl ?_)
            exact ⟨rfl, HS2.out.1, HS2.out.2⟩
          · have hgt' : ¬ (o.nodes.length : Int) < 2 * (ct : Int) := by omega
            have hn3 : md < n := by
              rcases Nat.lt_or_ge md n with h9 | h9
              · exact h9
              · exact absurd (HM2.out.1 h9) hgt
            clear HM2 HM
            go_wp2
            exact ⟨⟨n - 1, by omega, by omega, by go_num, BV2⟩, by simp [intOf]; omega⟩
    · have HE2 := hide (HE.out wr BV.out (by omega))
      go_wp2
      first | go_end0 | ((try simp only [Exit.inBlock, Exit.then]); refine bodyPost_ret (results_none rfl _ _ _) rfl ?_)
      exact ⟨rfl, HE2.out.1, HE2.out.2⟩
end Go.Proofs.Ytjgbgbgajadgnaa
