/-
  Slices of a topic's records; Read, as it runs.
-/
import Derived.Test.YtominplelmbecaaZT2
import Derived.Laws.MakeOwn
import Derived.BigQuiet
namespace Go.Proofs.Ytominplelmbecaa.Y
open Go.RowKit Go.Maps
set_option maxRecDepth 100000

set_option linter.unusedVariables false

theorem elemRecs : Try.prog.elem 43 = 63 := by kernel_rfl
theorem sizeOfRec (w : World) : (sizeOf 63).run Try.prog w = .ok 5 w := by kernel_rfl
theorem underRecs : Try.prog.underlying 43 = some (.slice (Try.prog.elem 43)) := by rw [elemRecs]; exact Try.underlying43
theorem slice_from {w : World} {ao : Option Addr} {n cap : Nat} {xs : List Value} (h : OwnsQ w 63 5 (.slice ao n cap) n xs) (k : Nat) (hk : k ≤ n) :
    ∃ ao' cap', (∀ W, (Instr.slice 43 (.slice ao n cap) (some (.int .i64 k)) none none).run Try.prog W = .ok (.slice ao' (n - k) cap') W) ∧ OwnsQ w 63 5 (.slice ao' (n - k) cap') (n - k) (xs.drop (k * 5)) ∧ ∀ j, (Value.slice ao' (n - k) cap').ownBlock = some j → (Value.slice ao n cap).ownBlock = some j := by
  have hr : ∀ W, (Instr.slice 43 (.slice ao n cap) (some (.int .i64 k)) none none).run Try.prog W = .ok (sliced ao k n cap 5) W := by
    intro W
    rw [run_slice_l (P := Try.prog) W 43 ao n cap underRecs .i64 k (by omega) (by omega), elemRecs, sizeOfRec]
    rfl
  rcases h.2 with ⟨hv, hn⟩ | ⟨g, off, c, cur, hv, hg, h4, h5, h6, h7⟩
  · injection hv with h1 h2 h3
    subst h1 hn h3
    obtain rfl : k = 0 := by omega
    refine ⟨none, 0, fun W => by rw [hr]; rfl, ?_, fun j hj => hj⟩
    have := h.1
    simp at this
    subst this
    exact OwnsQ.nil _ _ _
  · injection hv with h1 h2 h3
    subst h1 h3
    by_cases hc : cap = k
    · refine ⟨some ⟨g, off, none⟩, cap - k, fun W => by rw [hr, sliced, if_pos hc], ?_, fun j hj => hj⟩
      have := h.cut k hk
      rw [if_pos hc] at this
      exact this
    · refine ⟨some ⟨g, off + k * 5, none⟩, cap - k, fun W => by rw [hr, sliced, if_neg hc, Option.map_some, Addr.add_lit], ?_, fun j hj => hj⟩
      have := h.cut k hk
      rw [if_neg hc] at this
      exact this
theorem slice_upto {w : World} {ao : Option Addr} {n cap : Nat} {l : List Rec} (h : RecsAt w (.slice ao n cap) l) (k : Nat) (hk : k ≤ n) (hc : n ≤ cap) :
    (∀ W, (Instr.slice 43 (.slice ao n cap) none (some (.int .i64 k)) none).run Try.prog W = .ok (.slice ao k cap) W) ∧ RecsAt w (.slice ao k cap) (l.take k) := by
  obtain ⟨ao1, cap1, hv, hcap, ha⟩ := h
  injection hv with h1 h2 h3
  subst h1 h2 h3
  constructor
  · intro W
    rw [run_slice_h (P := Try.prog) W 43 ao l.length cap underRecs .i64 k (by omega) (by omega), elemRecs, sizeOfRec]
    simp only [Result.andThen, sliced, Int.toNat_natCast, Nat.sub_zero]
    by_cases h0 : cap = 0
    · rw [if_pos h0]
    · rw [if_neg h0]
      cases ao with
      | none => rfl
      | some a =>
        simp [Addr.add]
  · refine ⟨ao, cap, by rw [List.length_take, Nat.min_eq_left hk], hcap, fun i hi => ?_⟩
    rw [List.length_take] at hi
    obtain ⟨b, off, e1, e2, e3⟩ := ha i (by omega)
    exact ⟨b, off, e1, e2, fun j hj => by rw [e3 j hj, List.getElem_take]⟩
def readF (l : List Rec) (off most : Int) : List Rec := (l.drop (placeF l off)).take most.toNat
theorem recCells_drop (l : List Rec) (k : Nat) : recCells (l.drop k) = (recCells l).drop (k * 5) := by
  induction l generalizing k with
  | nil => simp [recCells]
  | cons r l ih =>
    cases k with
    | zero => simp
    | succ k =>
      have e : recCells (r :: l) = r.cells ++ recCells l := by simp [recCells]
      have h5 : r.cells.drop ((k + 1) * 5) = [] := List.drop_eq_nil_of_le (by show 5 ≤ _; omega)
      rw [List.drop_succ_cons, ih, e, List.drop_append, h5, List.nil_append, show r.cells.length = 5 from rfl]
      congr 1
      omega
theorem RecsAt.of_drop {w : World} {v : Value} {l : List Rec} {k : Nat} (h : OwnsQ w 63 5 v (l.length - k) ((recCells l).drop (k * 5))) : RecsAt w v (l.drop k) := by
  refine recs_of_q ?_
  rw [List.length_drop, recCells_drop]
  exact h
theorem q_cap {w : World} {e : TypeId} {z : Nat} {ao : Option Addr} {n cap : Nat} {xs : List Value} (h : OwnsQ w e z (.slice ao n cap) n xs) : n ≤ cap ∧ cap ≤ maxLen := by
  rcases h.2 with ⟨hv, hn⟩ | ⟨g, off, c, cur, hv, hg, h4, h5, _⟩
  · injection hv with _ h2 h3
    subst h2 h3
    exact ⟨Nat.le_refl _, Nat.zero_le _⟩
  · injection hv with _ _ h3
    subst h3
    exact ⟨h4, h5⟩
set_option maxHeartbeats 4000000 in
theorem tread {w : World} {L : LOC} {G : TG} {c : Nat} (h : TAt w L G) (hk : G.Ok c) (off most : Int) (h64 : most ≤ 9223372036854775807) : Calls Try.prog 28 #[.pointer (some ⟨L.b, 0, none⟩), .int .i64 off, .int .i64 most] w fun e w' =>
    ∃ v', e = .returned v' ∧ w'.ownsRow w.heap.size 63 5 v' (readF G.recs off most).length (recCells (readF G.recs off most)) ∧ Below w.heap.size w w' := by
  have HP : Hid (∀ d os, Calls Try.prog 44 #[.pointer (some ⟨L.b, 0, none⟩), .int .i64 off] (Go.Sort.grow (redrawn w d) os) fun e w' => e = .returned (.int .i64 (placeF G.recs off)) ∧ Below (Go.Sort.grow (redrawn w d) os).heap.size (Go.Sort.grow (redrawn w d) os) w') := fun d os => tplace (h.below (below_regrown w d os)) hk off
  obtain ⟨c0, c1, c2, c3, c4⟩ := h.cells
  have hle := placeF_le G.recs off
  obtain ⟨ao', cap', hsl, hq, _⟩ := slice_from h.row (placeF G.recs off) hle
  have hlen := hk.len
  have hbig := hk.big
  have HOK := hide hk.ok
  have hcap := q_cap hq
  have hra := RecsAt.of_drop hq
  obtain ⟨hup, hrt⟩ := slice_upto hra (min most.toNat (G.recs.length - placeF G.recs off)) (Nat.min_le_right _ _) hcap.1
  have HR : Hid ((G.recs.drop (placeF G.recs off)).take (min most.toNat (G.recs.length - placeF G.recs off)) = readF G.recs off most) := by
    unfold readF
    rw [← List.length_drop, Nat.min_comm, ← List.take_take]
    exact List.take_of_length_le (by rw [List.length_take]; exact Nat.min_le_right _ _)
  have hOR : ∀ r ∈ readF G.recs off most, r.ok := fun r hr => HOK.out r (List.mem_of_mem_drop (List.mem_of_mem_take hr))
  have HOR := hide hOR
  rw [HR.out] at hrt
  have HRT := hide hrt
  have hml : (readF G.recs off most).length = min most.toNat (G.recs.length - placeF G.recs off) := by rw [← HR.out, List.length_take, List.length_drop, Nat.min_eq_left (Nat.min_le_right _ _)]
  generalize hm : min most.toNat (G.recs.length - placeF G.recs off) = m at *
  have HML := hide hml
  have hm2 : min (max most 0) ((G.recs.length - placeF G.recs off : Nat) : Int) = (m : Int) := by omega
  have hmb : m ≤ 100000 := by omega
  generalize readF G.recs off most = RL at *
  generalize placeF G.recs off = pl at *
  have H0 := hide h
  have hd3 := cell_regrown c3
  generalize G.recs.length = n at *
  clear h hk hm hra hrt hq hOR hml HR HOK c0 c1 c2 c4
  go_enter Try.func28, Try.ntmps28
  go_upto_region 1 with fail
  refine wp_region_quiet_below (by kernel_rfl) (by kernel_rfl) ?_
  repeat (go_big_quiet_step ((go_at_call 44; exact Calls.regrown_of (HP.out _ _))))
  refine wpQuiet_nil ?_
  intro _ hw'
  obtain ⟨⟨dq, osq⟩, hw''⟩ := hw'
  subst hw''
  have bb := hide (below_regrown w dq osq)
  generalize Go.Sort.grow (redrawn w dq) osq = w1 at *
  clear hd3 c3 HP hsl
  obtain ⟨w2, hmk, hown2, hgr2⟩ := run_make_own (P := Try.prog) w1 w1.heap.size 43 63 _ _ 5 Try.underlying43 Try.infoRec Try.zeroRec Try.sizeRec .i64 .i64 m (by rw [Try.bytesRec]; omega) (by unfold maxLen; omega) (Nat.le_refl _)
  have B1 := hide bb.out
  have HA : Hid (∀ wv, Below w1.heap.size w1 wv → RecsAt wv (.slice ao' m cap') RL) := fun wv hb => (HRT.out.below bb.out).below hb
  have HB0 := hide ((Below.refl w1.heap.size w1).grown hgr2 (Nat.le_refl _) (fun j hj => by cases hj))
  have O2 := hide hown2
  have hbs := hide bb.out.size
  have HBW : Hid (∀ wv, Below w1.heap.size w1 wv → w1.heap.size ≤ wv.heap.size ∧ Below w.heap.size w wv) := fun wv hb => ⟨hb.size, bb.out.trans (hb.mono bb.out.size)⟩
  clear hown2 hgr2 bb HRT H0
  generalize w1.heap.size = bs at *
  have e := HML.out
  subst e
  clear HML
  go_wp2
  go_loopw [8, 30] (fun ov iv wv => ∃ (k : Nat) (oo : Option Addr) (oc : Nat), k ≤ RL.length ∧ iv = .int .i64 k ∧ ov = .slice oo k oc ∧ Hid (wv.ownsRow bs 63 5 (.slice oo k oc) k (recCells (RL.take k))) ∧ Hid (Below bs w1 wv)) (fun _ iv _ => RL.length - (intOf iv).toNat)
  case atStart => exact ⟨0, _, _, Nat.zero_le _, rfl, rfl, O2, HB0⟩
  case round =>
    obtain ⟨k, oo, oc, hk, rfl, rfl, OV, BV⟩ := hrel
    by_cases hlt : k < RL.length
    · have hxo := HOR.out _ (List.getElem_mem hlt)
      obtain ⟨_, b, of, rfl, hb, a0, a1, a2, a3, a4⟩ := (HA.out _ BV.out).five k hlt
      have HX := hide (town_any RL[k] hxo)
      have HT : Hid (RL.take (k + 1) = RL.take k ++ [RL[k]]) := List.take_succ_eq_append_getElem hlt
      have hi0 : (0 : Int) ≤ (k : Int) := by omega
      have hi1 : (k : Int) < (RL.length : Int) := by omega
      generalize RL[k] = x at *
      obtain ⟨xo, xp, xs, xk, xv⟩ := x
      simp only [Rec.v] at a0 a1 a2 a3 a4 HX
      have x2 := heap_alloc_new wr (.cells #[.int .i64 xo, .string xp, .int .i64 xs, .string xk, .string xv] 63)
      have OA := hide (OV.out.alloc (.cells #[.int .i64 xo, .string xp, .int .i64 xs, .string xk, .string xv] 63))
      have BA := hide (BV.out.alloc (HBW.out _ BV.out).1 (.cells #[.int .i64 xo, .string xp, .int .i64 xs, .string xk, .string xv] 63))
      go_wp2_with (first | (go_at_call 35; refine (HX.out _).mono ?_; rintro e w3 ⟨rfl, b3⟩; have B3 := hide (BA.out.trans (b3.mono (HBW.out _ BA.out).1)); have O3 := hide (own_below OA.out b3); clear b3) | (at_builtin; refine wpList_append_own _ rfl _ _ 43 rfl bs 63 Try.t63 _ 5 64 Try.underlying43 Try.infoRec Try.zeroRec Try.sizeRec Try.bytesRec rfl (by decide) (.slice oo k oc) k (recCells (RL.take k)) rfl (O3.out.alloc _) ⟨w3.heap.size, 0, none⟩ 1 1 [.int .i64 xo, .string xp, .int .i64 xs, .string xk, .string xv] rfl rfl (World.news_of_block (cs := #[.int .i64 xo, .string xp, .int .i64 xs, .string xk, .string xv]) (t := 63) (fr := (0, 0)) (heap_alloc_new w3 _)) (rec_ones _ _ _ _ _) (by unfold maxLen; omega) (by omega) (by have := (HBW.out _ B3.out).1; simp; omega) ?_; intro v4 w4 hown hgrow _; obtain ⟨oo4, oc4, rfl⟩ := row_slice hown))
      have O4 : Hid (w4.ownsRow bs 63 5 (.slice oo4 (k + 1) oc4) (k + 1) (recCells (RL.take (k + 1)))) := by
        rw [HT.out, recCells_snoc]
        exact hown
      have B4 := hide ((B3.out.alloc (HBW.out _ B3.out).1 _).grown hgrow (by have := (HBW.out _ B3.out).1; simp; omega) (fun j hj => (O3.out.lt j hj).1))
      exact ⟨⟨k + 1, oo4, oc4, by omega, by go_num, rfl, O4, B4⟩, by simp [intOf]; omega⟩
    · have hi1 : ¬ (k : Int) < (RL.length : Int) := by omega
      obtain rfl : k = RL.length := by omega
      go_wp2
      go_ret
      have h1 := OV.out
      rw [List.take_length] at h1
      exact ⟨_, rfl, own_base h1 hbs.out, (HBW.out _ BV.out).2⟩
end Go.Proofs.Ytominplelmbecaa.Y
