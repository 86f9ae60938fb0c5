/-
  Trim, Compact, as they run.
-/
import Derived.Test.YtmkkcgkakomacaaGreatZT2
import Derived.Laws.MakeOwn
import Derived.BigQuiet
namespace Go.Proofs.YtmkkcgkakomacaaGreat.Y
open Go.RowKit Go.Maps
set_option maxHeartbeats 4000000
set_option maxRecDepth 100000
set_option linter.unusedVariables false
theorem elemRecs : Tryz.prog.elem 35 = 39 := by kernel_rfl
theorem sizeOfRec (w : World) : (sizeOf 39).run Tryz.prog w = .ok 5 w := by kernel_rfl
theorem underRecs : Tryz.prog.underlying 35 = some (.slice (Tryz.prog.elem 35)) := by rw [elemRecs]; exact Tryz.underlying35
theorem slice_from {w : World} {ao : Option Addr} {n cap : Nat} {xs : List Value} (h : OwnsQ w 39 5 (.slice ao n cap) n xs) (k : Nat) (hk : k ≤ n) :
    ∃ ao' cap', (∀ W, (Instr.slice 35 (.slice ao n cap) (some (.int .i64 k)) none none).run Tryz.prog W = .ok (.slice ao' (n - k) cap') W) ∧ OwnsQ w 39 5 (.slice ao' (n - k) cap') (n - k) (xs.drop (k * 5)) ∧ ∀ j, (Value.slice ao' (n - k) cap').ownBlock = some j → (Value.slice ao n cap).ownBlock = some j := by
  have hr : ∀ W, (Instr.slice 35 (.slice ao n cap) (some (.int .i64 k)) none none).run Tryz.prog W = .ok (sliced ao k n cap 5) W := by
    intro W
    rw [run_slice_l (P := Tryz.prog) W 35 ao n cap underRecs .i64 k (by omega) (by omega), elemRecs, sizeOfRec]
    rfl
  rcases h.2 with ⟨hv, hn⟩ | ⟨g, off, c, cur, hv, hg, h4, h5, h6, h7⟩
  · injection hv with h1 h2 h3
    subst h1 hn h3
    obtain rfl : k = 0 := by omega
    refine ⟨none, 0, fun W => by rw [hr]; rfl, ?_, fun j hj => hj⟩
    have := h.1
    simp at this
    subst this
    exact OwnsQ.nil _ _ _
  · injection hv with h1 h2 h3
    subst h1 h3
    by_cases hc : cap = k
    · refine ⟨some ⟨g, off, none⟩, cap - k, fun W => by rw [hr, sliced, if_pos hc], ?_, fun j hj => hj⟩
      have := h.cut k hk
      rw [if_pos hc] at this
      exact this
    · refine ⟨some ⟨g, off + k * 5, none⟩, cap - k, fun W => by rw [hr, sliced, if_neg hc, Option.map_some, Addr.add_lit], ?_, fun j hj => hj⟩
      have := h.cut k hk
      rw [if_neg hc] at this
      exact this
theorem slice_upto {w : World} {ao : Option Addr} {n cap : Nat} {l : List Rec} (h : RecsAt w (.slice ao n cap) l) (k : Nat) (hk : k ≤ n) (hc : n ≤ cap) :
    (∀ W, (Instr.slice 35 (.slice ao n cap) none (some (.int .i64 k)) none).run Tryz.prog W = .ok (.slice ao k cap) W) ∧ RecsAt w (.slice ao k cap) (l.take k) := by
  obtain ⟨ao1, cap1, hv, hcap, ha⟩ := h
  injection hv with h1 h2 h3
  subst h1 h2 h3
  constructor
  · intro W
    rw [run_slice_h (P := Tryz.prog) W 35 ao l.length cap underRecs .i64 k (by omega) (by omega), elemRecs, sizeOfRec]
    simp only [Result.andThen, sliced, Int.toNat_natCast, Nat.sub_zero]
    by_cases h0 : cap = 0
    · rw [if_pos h0]
    · rw [if_neg h0]
      cases ao with
      | none => rfl
      | some a =>
        simp [Addr.add]
  · refine ⟨ao, cap, by rw [List.length_take, Nat.min_eq_left hk], hcap, fun i hi => ?_⟩
    rw [List.length_take] at hi
    obtain ⟨b, off, e1, e2, e3⟩ := ha i (by omega)
    exact ⟨b, off, e1, e2, fun j hj => by rw [e3 j hj, List.getElem_take]⟩
def readF (l : List Rec) (off most : Int) : List Rec := (l.drop (placeF l off)).take most.toNat
theorem recCells_drop (l : List Rec) (k : Nat) : recCells (l.drop k) = (recCells l).drop (k * 5) := by
  induction l generalizing k with
  | nil => simp [recCells]
  | cons r l ih =>
    cases k with
    | zero => simp
    | succ k =>
      have e : recCells (r :: l) = r.cells ++ recCells l := by simp [recCells]
      have h5 : r.cells.drop ((k + 1) * 5) = [] := List.drop_eq_nil_of_le (by show 5 ≤ _; omega)
      rw [List.drop_succ_cons, ih, e, List.drop_append, h5, List.nil_append, show r.cells.length = 5 from rfl]
      congr 1
      omega
theorem RecsAt.of_drop {w : World} {v : Value} {l : List Rec} {k : Nat} (h : OwnsQ w 39 5 v (l.length - k) ((recCells l).drop (k * 5))) : RecsAt w v (l.drop k) := by
  refine recs_of_q ?_
  rw [List.length_drop, recCells_drop]
  exact h
theorem q_cap {w : World} {e : TypeId} {z : Nat} {ao : Option Addr} {n cap : Nat} {xs : List Value} (h : OwnsQ w e z (.slice ao n cap) n xs) : n ≤ cap ∧ cap ≤ maxLen := by
  rcases h.2 with ⟨hv, hn⟩ | ⟨g, off, c, cur, hv, hg, h4, h5, _⟩
  · injection hv with _ h2 h3
    subst h2 h3
    exact ⟨Nat.le_refl _, Nat.zero_le _⟩
  · injection hv with _ _ h3
    subst h3
    exact ⟨h4, h5⟩
theorem tread {w : World} {L : LOC} {G : TG} {c : Nat} (h : TAt w L G) (hk : G.Ok c) (off most : Int) (h64 : most ≤ 9223372036854775807) : Calls Tryz.prog 12 #[.pointer (some ⟨L.b, 0, none⟩), .int .i64 off, .int .i64 most] w fun e w' =>
    ∃ v', e = .returned v' ∧ w'.ownsRow w.heap.size 39 5 v' (readF G.recs off most).length (recCells (readF G.recs off most)) ∧ Below w.heap.size w w' := by
  have HP : Hid (∀ d os, Calls Tryz.prog 33 #[.pointer (some ⟨L.b, 0, none⟩), .int .i64 off] (Go.Sort.grow (redrawn w d) os) fun e w' => e = .returned (.int .i64 (placeF G.recs off)) ∧ Below (Go.Sort.grow (redrawn w d) os).heap.size (Go.Sort.grow (redrawn w d) os) w') := fun d os => tplace (h.below (below_regrown w d os)) hk off
  obtain ⟨c0, c1, c2, c3, c4⟩ := h.cells
  have hle := placeF_le G.recs off
  obtain ⟨ao', cap', hsl, hq, _⟩ := slice_from h.row (placeF G.recs off) hle
  have hlen := hk.len
  have hbig := hk.big
  have HOK := hide hk.ok
  have hcap := q_cap hq
  have hra := RecsAt.of_drop hq
  obtain ⟨hup, hrt⟩ := slice_upto hra (min most.toNat (G.recs.length - placeF G.recs off)) (Nat.min_le_right _ _) hcap.1
  have HR : Hid ((G.recs.drop (placeF G.recs off)).take (min most.toNat (G.recs.length - placeF G.recs off)) = readF G.recs off most) := by
    unfold readF
    rw [← List.length_drop, Nat.min_comm, ← List.take_take]
    exact List.take_of_length_le (by rw [List.length_take]; exact Nat.min_le_right _ _)
  have hOR : ∀ r ∈ readF G.recs off most, r.ok := fun r hr => HOK.out r (List.mem_of_mem_drop (List.mem_of_mem_take hr))
  have HOR := hide hOR
  rw [HR.out] at hrt
  have HRT := hide hrt
  have hml : (readF G.recs off most).length = min most.toNat (G.recs.length - placeF G.recs off) := by rw [← HR.out, List.length_take, List.length_drop, Nat.min_eq_left (Nat.min_le_right _ _)]
  generalize hm : min most.toNat (G.recs.length - placeF G.recs off) = m at *
  have HML := hide hml
  have hm2 : min (max most 0) ((G.recs.length - placeF G.recs off : Nat) : Int) = (m : Int) := by omega
  have hmb : m ≤ 100000 := by omega
  generalize readF G.recs off most = RL at *
  generalize placeF G.recs off = pl at *
  have H0 := hide h
  have hd3 := cell_regrown c3
  generalize G.recs.length = n at *
  clear h hk hm hra hrt hq hOR hml HR HOK c0 c1 c2 c4
  go_enter Tryz.func12, Tryz.ntmps12
  go_upto_region 1 with fail
  refine wp_region_quiet_below (by kernel_rfl) (by kernel_rfl) ?_
  repeat (go_big_quiet_step ((go_at_call 33; exact Calls.regrown_of (HP.out _ _))))
  refine wpQuiet_nil ?_
  intro _ hw'
  obtain ⟨⟨dq, osq⟩, hw''⟩ := hw'
  subst hw''
  have bb := hide (below_regrown w dq osq)
  generalize Go.Sort.grow (redrawn w dq) osq = w1 at *
  clear hd3 c3 HP hsl
  obtain ⟨w2, hmk, hown2, hgr2⟩ := run_make_own (P := Tryz.prog) w1 w1.heap.size 35 39 _ _ 5 Tryz.underlying35 Tryz.infoRec Tryz.zeroRec Tryz.sizeRec .i64 .i64 m (by rw [Tryz.bytesRec]; omega) (by unfold maxLen; omega) (Nat.le_refl _)
  have B1 := hide bb.out
  have HA : Hid (∀ wv, Below w1.heap.size w1 wv → RecsAt wv (.slice ao' m cap') RL) := fun wv hb => (HRT.out.below bb.out).below hb
  have HB0 := hide ((Below.refl w1.heap.size w1).grown hgr2 (Nat.le_refl _) (fun j hj => by cases hj))
  have O2 := hide hown2
  have hbs := hide bb.out.size
  have HBW : Hid (∀ wv, Below w1.heap.size w1 wv → w1.heap.size ≤ wv.heap.size ∧ Below w.heap.size w wv) := fun wv hb => ⟨hb.size, bb.out.trans (hb.mono bb.out.size)⟩
  clear hown2 hgr2 bb HRT H0
  generalize w1.heap.size = bs at *
  have e := HML.out
  subst e
  clear HML
  go_wp2
  go_loopw [8, 30] (fun ov iv wv => ∃ (k : Nat) (oo : Option Addr) (oc : Nat), k ≤ RL.length ∧ iv = .int .i64 k ∧ ov = .slice oo k oc ∧ Hid (wv.ownsRow bs 39 5 (.slice oo k oc) k (recCells (RL.take k))) ∧ Hid (Below bs w1 wv)) (fun _ iv _ => RL.length - (intOf iv).toNat)
  case atStart => exact ⟨0, _, _, Nat.zero_le _, rfl, rfl, O2, HB0⟩
  case round =>
    obtain ⟨k, oo, oc, hk, rfl, rfl, OV, BV⟩ := hrel
    by_cases hlt : k < RL.length
    · have hxo := HOR.out _ (List.getElem_mem hlt)
      obtain ⟨_, b, of, rfl, hb, a0, a1, a2, a3, a4⟩ := (HA.out _ BV.out).five k hlt
      have HX := hide (town_any RL[k] hxo)
      have HT : Hid (RL.take (k + 1) = RL.take k ++ [RL[k]]) := List.take_succ_eq_append_getElem hlt
      have hi0 : (0 : Int) ≤ (k : Int) := by omega
      have hi1 : (k : Int) < (RL.length : Int) := by omega
      generalize RL[k] = x at *
      obtain ⟨xo, xp, xs, xk, xv⟩ := x
      simp only [Rec.v] at a0 a1 a2 a3 a4 HX
      have x2 := heap_alloc_new wr (.cells #[.int .i64 xo, .string xp, .int .i64 xs, .string xk, .string xv] 39)
      have OA := hide (OV.out.alloc (.cells #[.int .i64 xo, .string xp, .int .i64 xs, .string xk, .string xv] 39))
      have BA := hide (BV.out.alloc (HBW.out _ BV.out).1 (.cells #[.int .i64 xo, .string xp, .int .i64 xs, .string xk, .string xv] 39))
      go_wp2_with (first | (go_at_call 31; refine (HX.out _).mono ?_; rintro e w3 ⟨rfl, b3⟩; have B3 := hide (BA.out.trans (b3.mono (HBW.out _ BA.out).1)); have O3 := hide (own_below OA.out b3); clear b3) | (at_builtin; refine wpList_append_own _ rfl _ _ 35 rfl bs 39 Tryz.t39 _ 5 64 Tryz.underlying35 Tryz.infoRec Tryz.zeroRec Tryz.sizeRec Tryz.bytesRec rfl (by decide) (.slice oo k oc) k (recCells (RL.take k)) rfl (O3.out.alloc _) ⟨w3.heap.size, 0, none⟩ 1 1 [.int .i64 xo, .string xp, .int .i64 xs, .string xk, .string xv] rfl rfl (World.news_of_block (cs := #[.int .i64 xo, .string xp, .int .i64 xs, .string xk, .string xv]) (t := 39) (fr := (0, 0)) (heap_alloc_new w3 _)) (rec_ones _ _ _ _ _) (by unfold maxLen; omega) (by omega) (by have := (HBW.out _ B3.out).1; simp; omega) ?_; intro v4 w4 hown hgrow _; obtain ⟨oo4, oc4, rfl⟩ := row_slice hown))
      have O4 : Hid (w4.ownsRow bs 39 5 (.slice oo4 (k + 1) oc4) (k + 1) (recCells (RL.take (k + 1)))) := by
        rw [HT.out, recCells_snoc]
        exact hown
      have B4 := hide ((B3.out.alloc (HBW.out _ B3.out).1 _).grown hgrow (by have := (HBW.out _ B3.out).1; simp; omega) (fun j hj => (O3.out.lt j hj).1))
      exact ⟨⟨k + 1, oo4, oc4, by omega, by go_num, rfl, O4, B4⟩, by simp [intOf]; omega⟩
    · have hi1 : ¬ (k : Int) < (RL.length : Int) := by omega
      obtain rfl : k = RL.length := by omega
      go_wp2
      go_ret
      have h1 := OV.out
      rw [List.take_length] at h1
      exact ⟨_, rfl, own_base h1 hbs.out, (HBW.out _ BV.out).2⟩
end Go.Proofs.YtmkkcgkakomacaaGreat.Y
namespace Go.Proofs.YtmkkcgkakomacaaGreat.Y
open Go.RowKit Go.Maps
set_option maxHeartbeats 4000000
set_option maxRecDepth 100000
def zrec : Value := .agg #[.int .i64 0, .string ⟨#[]⟩, .int .i64 0, .string ⟨#[]⟩, .string ⟨#[]⟩]
def zeroL (n : Nat) : List Value := (Builtin.zeroCells zrec.cells n).toList
theorem zeroL_length (n : Nat) : (zeroL n).length = n * 5 := by simp [zeroL, Builtin.zeroCells, zrec, Value.cells]
theorem zeroL_one (n : Nat) : ∀ v ∈ zeroL n, v.oneCell' = true := by
  intro v hv
  simp only [zeroL, Builtin.zeroCells, Array.toList_map, List.mem_map] at hv
  obtain ⟨i, _, rfl⟩ := hv
  have h5 : i % zrec.cells.size < 5 := Nat.mod_lt _ (by decide)
  generalize i % zrec.cells.size = j at *
  have : j = 0 ∨ j = 1 ∨ j = 2 ∨ j = 3 ∨ j = 4 := by omega
  rcases this with rfl | rfl | rfl | rfl | rfl <;> rfl
theorem run_clear_rec (w : World) (ty : TypeId) (b o n c : Nat) (hn : 0 < n) (hc : ∀ j, j < n * 5 → (w.cell? ⟨b, o + j, none⟩).isSome = true) (hf : ∀ j, j < n * 5 → w.frozen? ⟨b, o + j, none⟩ = false) :
    (Builtin.clear_ #[35] ty #[.slice (some ⟨b, o, none⟩) n c]).run Tryz.prog w = .ok (.tuple #[]) (w.setCells b o (zeroL n)) := by
  have hst := Go.run_storeCells_cells (P := Tryz.prog) b o (zeroL n) 0 w (by rw [zeroL_length]; simpa using hc) (by rw [zeroL_length]; simpa using hf) (zeroL_one n)
  simp only [Nat.add_zero] at hst
  have hz : (zeroValue 39).run Tryz.prog w = .ok zrec w := by kernel_rfl
  obtain ⟨m, rfl⟩ : ∃ m, n = m + 1 := ⟨n - 1, by omega⟩
  have he : (Builtin.zeroCells zrec.cells (m + 1)).toList = zeroL (m + 1) := rfl
  simp [Builtin.clear_, run_underlying Tryz.underlying35, hz, he, hst]
theorem clear_row {w : World} {ao : Option Addr} {n cap : Nat} {xs : List Value} (h : OwnsQ w 39 5 (.slice ao n cap) n xs) (k : Nat) (hk : k ≤ n) :
    ∃ w' ao' cap', (∀ ty, (Builtin.clear_ #[35] ty #[.slice ao k cap]).run Tryz.prog w = .ok (.tuple #[]) w') ∧ w.grownBy w' (Value.slice ao n cap).ownBlock ∧
      (∀ W, (Instr.slice 35 (.slice ao n cap) (some (.int .i64 k)) none none).run Tryz.prog W = .ok (.slice ao' (n - k) cap') W) ∧ OwnsQ w' 39 5 (.slice ao' (n - k) cap') (n - k) (xs.drop (k * 5)) ∧ ∀ j, (Value.slice ao' (n - k) cap').ownBlock = some j → (Value.slice ao n cap).ownBlock = some j := by
  obtain ⟨ao', cap', h1, h2, h3⟩ := slice_from h k hk
  have hu := run_underlying (P := Tryz.prog) Tryz.underlying35
  rcases h.2 with ⟨hv, hn⟩ | ⟨g, off, c, cur, hv, hg, h4, h5, h6, h7⟩
  · injection hv with e1 e2 e3
    subst e1 hn e3
    refine ⟨w, ao', cap', fun ty => by simp [Builtin.clear_, hu], ⟨rfl, rfl, rfl, Nat.le_refl _, fun _ _ _ => rfl⟩, h1, h2, h3⟩
  · injection hv with e1 e2 e3
    subst e1 e3
    by_cases h0 : k = 0
    · subst h0
      exact ⟨w, ao', cap', fun ty => by simp [Builtin.clear_, hu], ⟨rfl, rfl, rfl, Nat.le_refl _, fun _ _ _ => rfl⟩, h1, h2, h3⟩
    · have hkn : k * 5 ≤ n * 5 := Nat.mul_le_mul_right _ hk
      have hcn : n * 5 ≤ cap * 5 := Nat.mul_le_mul_right _ h4
      have hr := fun ty => run_clear_rec w ty g off k cap (by omega) (fun j hj => by
        rw [Lib.cell_of_heap hg, Array.getElem?_eq_getElem (by omega)]
        rfl) (fun j _ => box_free hg _)
      obtain ⟨cur', hg', hs'⟩ := setCells_heap g (zeroL k) off w cur hg
      obtain ⟨hgr, _⟩ := setCells_grown g (zeroL k) off w
      refine ⟨_, ao', cap', hr, hgr, h1, ?_, h3⟩
      refine ⟨h2.1, ?_⟩
      rcases h2.2 with x | ⟨g2, off2, c2, cur2, hv2, hg2, q4, q5, q6, q7⟩
      · exact .inl x
      · right
        have eg : g2 = g := by
          have := h3 g2 (by rw [hv2]; rfl)
          exact (Option.some.inj this).symm
        subst eg
        rw [hg] at hg2
        injection hg2 with hg2
        injection hg2 with hg2 _ _
        subst hg2
        refine ⟨g2, off2, c2, cur', hv2, hg', q4, q5, by rw [hs']; exact q6, fun j hj => ?_⟩
        rw [← q7 j hj]
        -- the place lies behind what was cleared
        have ho : off + k * 5 ≤ off2 + j := by
          have hr1 := h1 w
          have hlt : k < n := by
            apply Classical.byContradiction
            intro hcon
            have : n - k = 0 := by omega
            rw [this] at hj
            omega
          rw [run_slice_l (P := Tryz.prog) w 35 (some ⟨g2, off, none⟩) n cap underRecs .i64 k (by omega) (by omega), elemRecs, sizeOfRec] at hr1
          simp only [Result.andThen, sliced, Int.toNat_natCast] at hr1
          rw [if_neg (by omega), hv2, Option.map_some, Addr.add_lit] at hr1
          injection hr1 with hr1
          injection hr1 with hr1
          injection hr1 with hr1
          injection hr1 with _ hr1
          omega
        have e1 := (Lib.cell_of_heap hg' (off2 + j)).symm
        have e2 := (Lib.cell_of_heap hg (off2 + j)).symm
        rw [e1, e2]
        exact World.cell?_setCells_out g2 _ _ _ _ (fun _ _ => Or.inr (by rw [zeroL_length]; exact ho))
def trimF (G : TG) (n : Int) : Int × TG :=
  if n ≤ (G.low : Int) then (0, G) else if n > (G.fin : Int) then (7, G) else (0, { G with low := n.toNat, recs := G.recs.drop (placeF G.recs n) })
theorem Rises.drop {l : List Rec} (h : Rises l) (k : Nat) : Rises (l.drop k) := List.Pairwise.sublist (List.drop_sublist _ _) h
theorem drop_ge {l : List Rec} (hr : Rises l) {n : Int} : ∀ r ∈ l.drop (placeF l n), n ≤ r.off := by
  intro r h
  obtain ⟨i, hi, rfl⟩ := List.getElem_of_mem h
  rw [List.length_drop] at hi
  rw [List.getElem_drop]
  have := place_lt hr (off := n) (placeF l n + i) (by omega)
  omega
theorem trim_ok {c : Nat} {G : TG} (h : G.Ok c) (n : Int) : (trimF G n).2.Ok c := by
  unfold trimF
  split
  · exact h
  · split
    · exact h
    · rename_i h1 h2
      refine ⟨h.word, h.rises.drop _, fun r hr => ?_, by simp only; omega, h.fin, ?_, h.cnt, h.big⟩
      · have h3 := drop_ge h.rises r hr
        have h4 := h.right r (List.mem_of_mem_drop hr)
        exact ⟨by simp only; omega, h4.hi, h4.s0, h4.s1, h4.p, h4.k, h4.v⟩
      · simp only [List.length_drop]
        have := h.len
        omega
structure TStep (w w' : World) (L L' : LOC) : Prop where
  touch : Touch L.own w w'
  b : L'.b = L.b
  own : ∀ j, L'.own j → L.own j ∨ w.heap.size ≤ j
theorem TStep.refl (w : World) (L : LOC) : TStep w w L L := ⟨Touch.refl _ _, rfl, fun _ h => .inl h⟩
theorem TStep.trans {w w1 w2 : World} {L L1 L2 : LOC} (h : TStep w w1 L L1) (h2 : TStep w1 w2 L1 L2) : TStep w w2 L L2 := by
  refine ⟨⟨h2.touch.os.trans h.touch.os, h2.touch.tape.trans h.touch.tape, h2.touch.output.trans h.touch.output, Nat.le_trans h.touch.size h2.touch.size, fun k hk hn => ?_⟩, h2.b.trans h.b, fun j hj => ?_⟩
  · rw [h2.touch.block k (Nat.lt_of_lt_of_le hk h.touch.size) (fun e => (h.own k e).elim hn (fun e => by omega)), h.touch.block k hk hn]
  · rcases h2.own j hj with e | e
    · exact h.own j e
    · exact .inr (Nat.le_trans h.touch.size e)
theorem TStep.below {w w1 : World} {L : LOC} (h : Below w.heap.size w w1) : TStep w w1 L L := ⟨Touch.of_below h, rfl, fun _ h => .inl h⟩
theorem ttrim {w : World} {L : LOC} {G : TG} {c : Nat} (h : TAt w L G) (hk : G.Ok c) (n : Int) : Calls Tryz.prog 15 #[.pointer (some ⟨L.b, 0, none⟩), .int .i64 n] w fun e w' =>
    e = .returned (.int .i64 (trimF G n).1) ∧ ∃ L', TAt w' L' (trimF G n).2 ∧ TStep w w' L L' := by
  obtain ⟨c0, c1, c2, c3, c4⟩ := h.cells
  by_cases h1 : n ≤ (G.low : Int)
  · have e : trimF G n = (0, G) := by unfold trimF; rw [if_pos h1]
    rw [e]
    have H0 := hide h
    clear h e c2 c3 c4 hk
    generalize hl : G.low = lo at *
    clear hl
    go_enter Tryz.func15, Tryz.ntmps15
    go_wp2
    go_ret
    exact ⟨rfl, L, H0.out, TStep.refl _ _⟩
  · by_cases h2 : n > (G.fin : Int)
    · have e : trimF G n = (7, G) := by unfold trimF; rw [if_neg h1, if_pos h2]
      rw [e]
      have H0 := hide h
      clear h e c3 c4 hk
      generalize hl : G.low = lo at *
      generalize hf : G.fin = fi at *
      clear hl hf
      have g1 : (lo : Int) < n := by omega
      go_enter Tryz.func15, Tryz.ntmps15
      go_wp2
      go_ret
      exact ⟨rfl, L, H0.out, TStep.refl _ _⟩
    · have e : trimF G n = (0, { G with low := n.toNat, recs := G.recs.drop (placeF G.recs n) }) := by unfold trimF; rw [if_neg h1, if_neg h2]
      rw [e]
      have HP := hide (tplace h hk n)
      have hle := placeF_le G.recs n
      have HK : Hid (∀ w1, Below w.heap.size w w1 → ∃ w' ao' cap', (∀ ty, (Builtin.clear_ #[35] ty #[.slice L.ro (placeF G.recs n) L.rc]).run Tryz.prog w1 = .ok (.tuple #[]) w') ∧ w1.grownBy w' (Value.slice L.ro G.recs.length L.rc).ownBlock ∧
          (∀ W, (Instr.slice 35 (.slice L.ro G.recs.length L.rc) (some (.int .i64 (placeF G.recs n))) none none).run Tryz.prog W = .ok (.slice ao' (G.recs.length - placeF G.recs n) cap') W) ∧ OwnsQ w' 39 5 (.slice ao' (G.recs.length - placeF G.recs n) cap') (G.recs.length - placeF G.recs n) ((recCells G.recs).drop (placeF G.recs n * 5)) ∧ (∀ j, (Value.slice ao' (G.recs.length - placeF G.recs n) cap').ownBlock = some j → (Value.slice L.ro G.recs.length L.rc).ownBlock = some j) ∧ TAt w1 L G) := fun w1 hb => by
        obtain ⟨w', ao', cap', q1, q2, q3, q4, q5⟩ := clear_row (h.below hb).row (placeF G.recs n) hle
        exact ⟨w', ao', cap', q1, q2, q3, q4, q5, h.below hb⟩
      have hup := (slice_upto h.recs (placeF G.recs n) hle (q_cap h.row).1).1
      have g1 : (G.low : Int) < n := by omega
      have hn : ((n.toNat : Nat) : Int) = n := Int.toNat_of_nonneg (by omega)
      have HN := hide hn
      generalize hpl : placeF G.recs n = pl at *
      clear e h hk hpl hn
      go_enter Tryz.func15, Tryz.ntmps15
      go_wp2_with (go_at_call 33; refine HP.out.mono ?_; rintro e w1 ⟨rfl, b1⟩; obtain ⟨w2, ao', cap', q1, q2, q3, q4, q5, T1⟩ := HK.out w1 b1; have d3 := T1.cells.2.2.2.1; have bx := grown_at q2 T1.box T1.row_ne; have B1 := hide b1; have Q2 := hide q2; have Q4 := hide q4; have Q5 := hide q5; have TT := hide T1; have BX := hide bx; have x3 := box_cell bx 3 rfl; have f3 := box_free bx 3; have f1 := box_free bx 1; have x1 := box_cell bx 1 rfl; clear b1 q2 q4 q5 T1 bx c0 c1 c2 c3 c4 HK HP)
      go_ret
      have hvb : (Value.slice ao' (G.recs.length - pl) cap').ownBlock ≠ some L.b := fun e => TT.out.row_ne (Q5.out _ e)
      have hne := TT.out.mb_ne
      refine ⟨rfl, ⟨L.b, L.mb, ao', cap'⟩, ⟨?_, ?_, ?_⟩, ⟨?_, rfl, ?_⟩⟩
      · have := box_set (box_set BX.out 3 (.slice ao' (G.recs.length - pl) cap')) 1 (.int .i64 n)
        simp only [List.length_drop, HN.out]
        exact this
      · simp only [List.length_drop, recCells_drop]
        exact (Q4.out.set L.b 3 _ hvb).set L.b 1 _ hvb
      · exact (((((Touch.refl (fun k => (Value.slice L.ro G.recs.length L.rc).ownBlock = some k) w1).grown Q2.out (fun _ e _ => e)).map TT.out.map TT.out.row_mb).setCell (a := ⟨L.b, 3, none⟩) hne _).setCell (a := ⟨L.b, 1, none⟩) hne _)
      · exact (((Touch.of_below (own := L.own) B1.out).grown Q2.out (fun k hk _ => .inr (.inr ((own_block _ _ _ _).trans hk)))).setCell ⟨L.b, 3, none⟩ _ (fun _ => .inl rfl)).setCell ⟨L.b, 1, none⟩ _ (fun _ => .inl rfl)
      · rintro j (rfl | rfl | hj)
        · exact .inl (.inl rfl)
        · exact .inl (.inr (.inl rfl))
        · exact .inl (.inr (.inr ((own_block _ _ _ _).trans (Q5.out j ((own_block _ _ _ _).trans hj)))))
def compF (G : TG) (upto : Int) : TG := { G with recs := keepF upto G.recs }
theorem keep_sublist (upto : Int) (l : List Rec) : (keepF upto l).Sublist l := by
  induction l with
  | nil => exact List.Sublist.slnil
  | cons r t ih =>
    rw [keepF]
    split
    · exact ih.cons r
    · exact ih.cons_cons r
theorem comp_ok {c : Nat} {G : TG} (h : G.Ok c) (upto : Int) : (compF G upto).Ok c := by
  refine ⟨h.word, List.Pairwise.sublist (keep_sublist _ _) h.rises, fun r hr => ?_, h.low, h.fin, ?_, h.cnt, h.big⟩
  · have := h.right r ((keep_sublist _ _).subset hr)
    exact ⟨this.lo, this.hi, this.s0, this.s1, this.p, this.k, this.v⟩
  · exact Nat.le_trans (keepF_length _ _) h.len
theorem tcompact {w : World} {L : LOC} {G : TG} {c : Nat} (h : TAt w L G) (hk : G.Ok c) (upto : Int) : Calls Tryz.prog 17 #[.pointer (some ⟨L.b, 0, none⟩), .int .i64 upto] w fun e w' =>
    e = .returned (.int .i64 0) ∧ ∃ L', TAt w' L' (compF G upto) ∧ TStep w w' L L' := by
  obtain ⟨c0, c1, c2, c3, c4⟩ := h.cells
  have HK := hide (keep_any upto G.recs (by have := hk.len; have := hk.big; omega) hk.ok _ w h.recs)
  have H0 := hide h
  unfold compF
  clear h hk
  go_enter Tryz.func17, Tryz.ntmps17
  go_wp2_with (go_at_call 34; refine HK.out.mono ?_; rintro e w1 ⟨v', rfl, o1, b1⟩; obtain ⟨ao', cap', rfl⟩ := row_slice o1; have O1 := hide o1; have B1 := hide b1; have f3 := (H0.out.below b1).free 3; have x3 := (H0.out.below b1).cells.2.2.2.1; clear o1 b1)
  go_ret
  have T1 := H0.out.below B1.out
  have hvb : (Value.slice ao' (keepF upto G.recs).length cap').ownBlock ≠ some L.b := fun e => by have := (O1.out.lt _ e).1; have := heap_lt H0.out.box; omega
  have hne := T1.mb_ne
  refine ⟨rfl, ⟨L.b, L.mb, ao', cap'⟩, ⟨?_, ?_, ?_⟩, ⟨?_, rfl, ?_⟩⟩
  · exact box_set T1.box 3 (.slice ao' (keepF upto G.recs).length cap')
  · exact (OwnsQ.of_row O1.out).set L.b 3 _ hvb
  · exact T1.map.setCell (a := ⟨L.b, 3, none⟩) hne _
  · exact (Touch.of_below (own := L.own) B1.out).setCell ⟨L.b, 3, none⟩ _ (fun _ => .inl rfl)
  · rintro j (rfl | rfl | hj)
    · exact .inl (.inl rfl)
    · exact .inl (.inr (.inl rfl))
    · exact .inr (O1.out.lt _ ((own_block _ _ _ _).trans hj)).1
end Go.Proofs.YtmkkcgkakomacaaGreat.Y
