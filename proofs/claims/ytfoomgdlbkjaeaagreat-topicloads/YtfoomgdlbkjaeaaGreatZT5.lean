/-
  add, as it runs (mkt5.py).
-/
import Derived.Test.YtfoomgdlbkjaeaaGreatZT3
namespace Go.Proofs.YtfoomgdlbkjaeaaGreat.Y
open Go.RowKit Go.Maps
set_option maxHeartbeats 4000000
set_option maxRecDepth 100000
def zrec : Value := .agg #[.int .i64 0, .string ⟨#[]⟩, .int .i64 0, .string ⟨#[]⟩, .string ⟨#[]⟩]
def zeroL (n : Nat) : List Value := (Builtin.zeroCells zrec.cells n).toList
theorem zeroL_length (n : Nat) : (zeroL n).length = n * 5 := by simp [zeroL, Builtin.zeroCells, zrec, Value.cells]
theorem zeroL_one (n : Nat) : ∀ v ∈ zeroL n, v.oneCell' = true := by
  intro v hv
  simp only [zeroL, Builtin.zeroCells, Array.toList_map, List.mem_map] at hv
  obtain ⟨i, _, rfl⟩ := hv
  have h5 : i % zrec.cells.size < 5 := Nat.mod_lt _ (by decide)
  generalize i % zrec.cells.size = j at *
  have : j = 0 ∨ j = 1 ∨ j = 2 ∨ j = 3 ∨ j = 4 := by omega
  rcases this with rfl | rfl | rfl | rfl | rfl <;> rfl
theorem run_clear_rec (w : World) (ty : TypeId) (b o n c : Nat) (hn : 0 < n) (hc : ∀ j, j < n * 5 → (w.cell? ⟨b, o + j, none⟩).isSome = true) (hf : ∀ j, j < n * 5 → w.frozen? ⟨b, o + j, none⟩ = false) :
    (Builtin.clear_ #[35] ty #[.slice (some ⟨b, o, none⟩) n c]).run Tryz.prog w = .ok (.tuple #[]) (w.setCells b o (zeroL n)) := by
  have hst := Go.run_storeCells_cells (P := Tryz.prog) b o (zeroL n) 0 w (by rw [zeroL_length]; simpa using hc) (by rw [zeroL_length]; simpa using hf) (zeroL_one n)
  simp only [Nat.add_zero] at hst
  have hz : (zeroValue 39).run Tryz.prog w = .ok zrec w := by kernel_rfl
  obtain ⟨m, rfl⟩ : ∃ m, n = m + 1 := ⟨n - 1, by omega⟩
  have he : (Builtin.zeroCells zrec.cells (m + 1)).toList = zeroL (m + 1) := rfl
  simp [Builtin.clear_, run_underlying Tryz.underlying35, hz, he, hst]
theorem clear_row {w : World} {ao : Option Addr} {n cap : Nat} {xs : List Value} (h : OwnsQ w 39 5 (.slice ao n cap) n xs) (k : Nat) (hk : k ≤ n) :
    ∃ w' ao' cap', (∀ ty, (Builtin.clear_ #[35] ty #[.slice ao k cap]).run Tryz.prog w = .ok (.tuple #[]) w') ∧ w.grownBy w' (Value.slice ao n cap).ownBlock ∧
      (∀ W, (Instr.slice 35 (.slice ao n cap) (some (.int .i64 k)) none none).run Tryz.prog W = .ok (.slice ao' (n - k) cap') W) ∧ OwnsQ w' 39 5 (.slice ao' (n - k) cap') (n - k) (xs.drop (k * 5)) ∧ ∀ j, (Value.slice ao' (n - k) cap').ownBlock = some j → (Value.slice ao n cap).ownBlock = some j := by
  obtain ⟨ao', cap', h1, h2, h3⟩ := slice_from h k hk
  have hu := run_underlying (P := Tryz.prog) Tryz.underlying35
  rcases h.2 with ⟨hv, hn⟩ | ⟨g, off, c, cur, hv, hg, h4, h5, h6, h7⟩
  · injection hv with e1 e2 e3
    subst e1 hn e3
    refine ⟨w, ao', cap', fun ty => by simp [Builtin.clear_, hu], ⟨rfl, rfl, rfl, Nat.le_refl _, fun _ _ _ => rfl⟩, h1, h2, h3⟩
  · injection hv with e1 e2 e3
    subst e1 e3
    by_cases h0 : k = 0
    · subst h0
      exact ⟨w, ao', cap', fun ty => by simp [Builtin.clear_, hu], ⟨rfl, rfl, rfl, Nat.le_refl _, fun _ _ _ => rfl⟩, h1, h2, h3⟩
    · have hkn : k * 5 ≤ n * 5 := Nat.mul_le_mul_right _ hk
      have hcn : n * 5 ≤ cap * 5 := Nat.mul_le_mul_right _ h4
      have hr := fun ty => run_clear_rec w ty g off k cap (by omega) (fun j hj => by
        rw [Lib.cell_of_heap hg, Array.getElem?_eq_getElem (by omega)]
        rfl) (fun j _ => box_free hg _)
      obtain ⟨cur', hg', hs'⟩ := setCells_heap g (zeroL k) off w cur hg
      obtain ⟨hgr, _⟩ := setCells_grown g (zeroL k) off w
      refine ⟨_, ao', cap', hr, hgr, h1, ?_, h3⟩
      refine ⟨h2.1, ?_⟩
      rcases h2.2 with x | ⟨g2, off2, c2, cur2, hv2, hg2, q4, q5, q6, q7⟩
      · exact .inl x
      · right
        have eg : g2 = g := by
          have := h3 g2 (by rw [hv2]; rfl)
          exact (Option.some.inj this).symm
        subst eg
        rw [hg] at hg2
        injection hg2 with hg2
        injection hg2 with hg2 _ _
        subst hg2
        refine ⟨g2, off2, c2, cur', hv2, hg', q4, q5, by rw [hs']; exact q6, fun j hj => ?_⟩
        rw [← q7 j hj]
        -- the place lies behind what was cleared
        have ho : off + k * 5 ≤ off2 + j := by
          have hr1 := h1 w
          have hlt : k < n := by
            apply Classical.byContradiction
            intro hcon
            have : n - k = 0 := by omega
            rw [this] at hj
            omega
          rw [run_slice_l (P := Tryz.prog) w 35 (some ⟨g2, off, none⟩) n cap underRecs .i64 k (by omega) (by omega), elemRecs, sizeOfRec] at hr1
          simp only [Result.andThen, sliced, Int.toNat_natCast] at hr1
          rw [if_neg (by omega), hv2, Option.map_some, Addr.add_lit] at hr1
          injection hr1 with hr1
          injection hr1 with hr1
          injection hr1 with hr1
          injection hr1 with _ hr1
          omega
        have e1 := (Lib.cell_of_heap hg' (off2 + j)).symm
        have e2 := (Lib.cell_of_heap hg (off2 + j)).symm
        rw [e1, e2]
        exact World.cell?_setCells_out g2 _ _ _ _ (fun _ _ => Or.inr (by rw [zeroL_length]; exact ho))
def trimF (G : TG) (n : Int) : Int × TG :=
  if n ≤ (G.low : Int) then (0, G) else if n > (G.fin : Int) then (7, G) else (0, { G with low := n.toNat, recs := G.recs.drop (placeF G.recs n) })
theorem Rises.drop {l : List Rec} (h : Rises l) (k : Nat) : Rises (l.drop k) := List.Pairwise.sublist (List.drop_sublist _ _) h
theorem drop_ge {l : List Rec} (hr : Rises l) {n : Int} : ∀ r ∈ l.drop (placeF l n), n ≤ r.off := by
  intro r h
  obtain ⟨i, hi, rfl⟩ := List.getElem_of_mem h
  rw [List.length_drop] at hi
  rw [List.getElem_drop]
  have := place_lt hr (off := n) (placeF l n + i) (by omega)
  omega
theorem trim_ok {c : Nat} {G : TG} (h : G.Ok c) (n : Int) : (trimF G n).2.Ok c := by
  unfold trimF
  split
  · exact h
  · split
    · exact h
    · rename_i h1 h2
      refine ⟨h.word, h.rises.drop _, fun r hr => ?_, by simp only; omega, h.fin, ?_, h.cnt, h.big⟩
      · have h3 := drop_ge h.rises r hr
        have h4 := h.right r (List.mem_of_mem_drop hr)
        exact ⟨by simp only; omega, h4.hi, h4.s0, h4.s1, h4.p, h4.k, h4.v⟩
      · simp only [List.length_drop]
        have := h.len
        omega
structure TStep (w w' : World) (L L' : LOC) : Prop where
  touch : Touch L.own w w'
  b : L'.b = L.b
  own : ∀ j, L'.own j → L.own j ∨ w.heap.size ≤ j
theorem TStep.refl (w : World) (L : LOC) : TStep w w L L := ⟨Touch.refl _ _, rfl, fun _ h => .inl h⟩
theorem TStep.trans {w w1 w2 : World} {L L1 L2 : LOC} (h : TStep w w1 L L1) (h2 : TStep w1 w2 L1 L2) : TStep w w2 L L2 := by
  refine ⟨⟨h2.touch.os.trans h.touch.os, h2.touch.tape.trans h.touch.tape, h2.touch.output.trans h.touch.output, Nat.le_trans h.touch.size h2.touch.size, fun k hk hn => ?_⟩, h2.b.trans h.b, fun j hj => ?_⟩
  · rw [h2.touch.block k (Nat.lt_of_lt_of_le hk h.touch.size) (fun e => (h.own k e).elim hn (fun e => by omega)), h.touch.block k hk hn]
  · rcases h2.own j hj with e | e
    · exact h.own j e
    · exact .inr (Nat.le_trans h.touch.size e)
theorem TStep.below {w w1 : World} {L : LOC} (h : Below w.heap.size w w1) : TStep w w1 L L := ⟨Touch.of_below h, rfl, fun _ h => .inl h⟩
theorem ttrim {w : World} {L : LOC} {G : TG} {c : Nat} (h : TAt w L G) (hk : G.Ok c) (n : Int) : Calls Tryz.prog 15 #[.pointer (some ⟨L.b, 0, none⟩), .int .i64 n] w fun e w' =>
    e = .returned (.int .i64 (trimF G n).1) ∧ ∃ L', TAt w' L' (trimF G n).2 ∧ TStep w w' L L' := by
  obtain ⟨c0, c1, c2, c3, c4⟩ := h.cells
  by_cases h1 : n ≤ (G.low : Int)
  · have e : trimF G n = (0, G) := by unfold trimF; rw [if_pos h1]
    rw [e]
    have H0 := hide h
    clear h e c2 c3 c4 hk
    generalize hl : G.low = lo at *
    clear hl
    go_enter Tryz.func15, Tryz.ntmps15
    go_wp2
    go_ret
    exact ⟨rfl, L, H0.out, TStep.refl _ _⟩
  · by_cases h2 : n > (G.fin : Int)
    · have e : trimF G n = (7, G) := by unfold trimF; rw [if_neg h1, if_pos h2]
      rw [e]
      have H0 := hide h
      clear h e c3 c4 hk
      generalize hl : G.low = lo at *
      generalize hf : G.fin = fi at *
      clear hl hf
      have g1 : (lo : Int) < n := by omega
      go_enter Tryz.func15, Tryz.ntmps15
      go_wp2
      go_ret
      exact ⟨rfl, L, H0.out, TStep.refl _ _⟩
    · have e : trimF G n = (0, { G with low := n.toNat, recs := G.recs.drop (placeF G.recs n) }) := by unfold trimF; rw [if_neg h1, if_neg h2]
      rw [e]
      have HP := hide (tplace h hk n)
      have hle := placeF_le G.recs n
      have HK : Hid (∀ w1, Below w.heap.size w w1 → ∃ w' ao' cap', (∀ ty, (Builtin.clear_ #[35] ty #[.slice L.ro (placeF G.recs n) L.rc]).run Tryz.prog w1 = .ok (.tuple #[]) w') ∧ w1.grownBy w' (Value.slice L.ro G.recs.length L.rc).ownBlock ∧
          (∀ W, (Instr.slice 35 (.slice L.ro G.recs.length L.rc) (some (.int .i64 (placeF G.recs n))) none none).run Tryz.prog W = .ok (.slice ao' (G.recs.length - placeF G.recs n) cap') W) ∧ OwnsQ w' 39 5 (.slice ao' (G.recs.length - placeF G.recs n) cap') (G.recs.length - placeF G.recs n) ((recCells G.recs).drop (placeF G.recs n * 5)) ∧ (∀ j, (Value.slice ao' (G.recs.length - placeF G.recs n) cap').ownBlock = some j → (Value.slice L.ro G.recs.length L.rc).ownBlock = some j) ∧ TAt w1 L G) := fun w1 hb => by
        obtain ⟨w', ao', cap', q1, q2, q3, q4, q5⟩ := clear_row (h.below hb).row (placeF G.recs n) hle
        exact ⟨w', ao', cap', q1, q2, q3, q4, q5, h.below hb⟩
      have hup := (slice_upto h.recs (placeF G.recs n) hle (q_cap h.row).1).1
      have g1 : (G.low : Int) < n := by omega
      have hn : ((n.toNat : Nat) : Int) = n := Int.toNat_of_nonneg (by omega)
      have HN := hide hn
      generalize hpl : placeF G.recs n = pl at *
      clear e h hk hpl hn
      go_enter Tryz.func15, Tryz.ntmps15
      go_wp2_with (go_at_call 33; refine HP.out.mono ?_; rintro e w1 ⟨rfl, b1⟩; obtain ⟨w2, ao', cap', q1, q2, q3, q4, q5, T1⟩ := HK.out w1 b1; have d3 := T1.cells.2.2.2.1; have bx := grown_at q2 T1.box T1.row_ne; have B1 := hide b1; have Q2 := hide q2; have Q4 := hide q4; have Q5 := hide q5; have TT := hide T1; have BX := hide bx; have x3 := box_cell bx 3 rfl; have f3 := box_free bx 3; have f1 := box_free bx 1; have x1 := box_cell bx 1 rfl; clear b1 q2 q4 q5 T1 bx c0 c1 c2 c3 c4 HK HP)
      go_ret
      have hvb : (Value.slice ao' (G.recs.length - pl) cap').ownBlock ≠ some L.b := fun e => TT.out.row_ne (Q5.out _ e)
      have hne := TT.out.mb_ne
      refine ⟨rfl, ⟨L.b, L.mb, ao', cap'⟩, ⟨?_, ?_, ?_⟩, ⟨?_, rfl, ?_⟩⟩
      · have := box_set (box_set BX.out 3 (.slice ao' (G.recs.length - pl) cap')) 1 (.int .i64 n)
        simp only [List.length_drop, HN.out]
        exact this
      · simp only [List.length_drop, recCells_drop]
        exact (Q4.out.set L.b 3 _ hvb).set L.b 1 _ hvb
      · exact (((((Touch.refl (fun k => (Value.slice L.ro G.recs.length L.rc).ownBlock = some k) w1).grown Q2.out (fun _ e _ => e)).map TT.out.map TT.out.row_mb).setCell (a := ⟨L.b, 3, none⟩) hne _).setCell (a := ⟨L.b, 1, none⟩) hne _)
      · exact (((Touch.of_below (own := L.own) B1.out).grown Q2.out (fun k hk _ => .inr (.inr ((own_block _ _ _ _).trans hk)))).setCell ⟨L.b, 3, none⟩ _ (fun _ => .inl rfl)).setCell ⟨L.b, 1, none⟩ _ (fun _ => .inl rfl)
      · rintro j (rfl | rfl | hj)
        · exact .inl (.inl rfl)
        · exact .inl (.inr (.inl rfl))
        · exact .inl (.inr (.inr ((own_block _ _ _ _).trans (Q5.out j ((own_block _ _ _ _).trans hj)))))
def compF (G : TG) (upto : Int) : TG := { G with recs := keepF upto G.recs }
theorem keep_sublist (upto : Int) (l : List Rec) : (keepF upto l).Sublist l := by
  induction l with
  | nil => exact List.Sublist.slnil
  | cons r t ih =>
    rw [keepF]
    split
    · exact ih.cons r
    · exact ih.cons_cons r
theorem comp_ok {c : Nat} {G : TG} (h : G.Ok c) (upto : Int) : (compF G upto).Ok c := by
  refine ⟨h.word, List.Pairwise.sublist (keep_sublist _ _) h.rises, fun r hr => ?_, h.low, h.fin, ?_, h.cnt, h.big⟩
  · have := h.right r ((keep_sublist _ _).subset hr)
    exact ⟨this.lo, this.hi, this.s0, this.s1, this.p, this.k, this.v⟩
  · exact Nat.le_trans (keepF_length _ _) h.len
theorem tcompact {w : World} {L : LOC} {G : TG} {c : Nat} (h : TAt w L G) (hk : G.Ok c) (upto : Int) : Calls Tryz.prog 17 #[.pointer (some ⟨L.b, 0, none⟩), .int .i64 upto] w fun e w' =>
    e = .returned (.int .i64 0) ∧ ∃ L', TAt w' L' (compF G upto) ∧ TStep w w' L L' := by
  obtain ⟨c0, c1, c2, c3, c4⟩ := h.cells
  have HK := hide (keep_any upto G.recs (by have := hk.len; have := hk.big; omega) hk.ok _ w h.recs)
  have H0 := hide h
  unfold compF
  clear h hk
  go_enter Tryz.func17, Tryz.ntmps17
  go_wp2_with (go_at_call 34; refine HK.out.mono ?_; rintro e w1 ⟨v', rfl, o1, b1⟩; obtain ⟨ao', cap', rfl⟩ := row_slice o1; have O1 := hide o1; have B1 := hide b1; have f3 := (H0.out.below b1).free 3; have x3 := (H0.out.below b1).cells.2.2.2.1; clear o1 b1)
  go_ret
  have T1 := H0.out.below B1.out
  have hvb : (Value.slice ao' (keepF upto G.recs).length cap').ownBlock ≠ some L.b := fun e => by have := (O1.out.lt _ e).1; have := heap_lt H0.out.box; omega
  have hne := T1.mb_ne
  refine ⟨rfl, ⟨L.b, L.mb, ao', cap'⟩, ⟨?_, ?_, ?_⟩, ⟨?_, rfl, ?_⟩⟩
  · exact box_set T1.box 3 (.slice ao' (keepF upto G.recs).length cap')
  · exact (OwnsQ.of_row O1.out).set L.b 3 _ hvb
  · exact T1.map.setCell (a := ⟨L.b, 3, none⟩) hne _
  · exact (Touch.of_below (own := L.own) B1.out).setCell ⟨L.b, 3, none⟩ _ (fun _ => .inl rfl)
  · rintro j (rfl | rfl | hj)
    · exact .inl (.inl rfl)
    · exact .inl (.inr (.inl rfl))
    · exact .inr (O1.out.lt _ ((own_block _ _ _ _).trans hj)).1
end Go.Proofs.YtfoomgdlbkjaeaaGreat.Y
namespace Go.Proofs.YtfoomgdlbkjaeaaGreat.Y
open Go.RowKit Go.Maps
set_option maxHeartbeats 4000000
set_option maxRecDepth 100000
set_option linter.unusedVariables false
set_option linter.unusedSimpArgs false
theorem q_mb {w : World} {e : TypeId} {z : Nat} {v : Value} {n : Nat} {xs : List Value} {mb k : Nat} {D : DataW Nat} (h : OwnsQ w e z v n xs) (hm : w.ownsMap Tryz.prog 9 lastR mb k D) : v.ownBlock ≠ some mb := by
  intro he
  obtain ⟨es, c, hb, _⟩ := hm
  rcases h.2 with ⟨hv, _⟩ | ⟨g, off, cap, cur, hv, hg, _⟩
  · rw [hv] at he; cases he
  · rw [hv] at he
    obtain rfl : g = mb := Option.some.inj he
    rw [hb] at hg
    cases hg
def addF (G : TG) (x : Rec) : TG := { G with recs := G.recs ++ [⟨G.fin, x.prod, x.seq, x.key, x.val⟩], fin := G.fin + 1, D := pput G.D x.prod.data.toList G.fin x.seq, n := G.n + 1 }
theorem tadd {w : World} {L : LOC} {G : TG} {c : Nat} (h : TAt w L G) (hk : G.Ok c) (hc : c + 1 ≤ 100000) (x : Rec) (hx : x.prod.size ≤ 20) : Calls Tryz.prog 30 #[.pointer (some ⟨L.b, 0, none⟩), x.v] w fun e w' =>
    e = .returned (.int .i64 G.fin) ∧ ∃ L', TAt w' L' (addF G x) ∧ TStep w w' L L' := by
  obtain ⟨xo, xp, xs, xk, xv⟩ := x
  simp only [Rec.v, addF] at hx ⊢
  have hkey := Go.WideMaps.keyOf_string_mk (P := Tryz.prog) Tryz.underlying9 (s := xp) (by unfold maxLen; omega)
  have HKEY := hide hkey
  have hlen := hk.len
  have hcnt := hk.cnt
  have hfin := hk.fin
  have hbl := heap_lt h.box
  have T0 := h.below ((Below.refl w.heap.size w).alloc (Nat.le_refl _) (.cells #[.int .i64 xo, .string xp, .int .i64 xs, .string xk, .string xv] 39))
  have hb1 : Below w.heap.size w (w.alloc (.cells #[.int .i64 (G.fin : Int), .string xp, .int .i64 xs, .string xk, .string xv] 39)) := (Below.refl w.heap.size w).alloc (Nat.le_refl _) _
  have B1 := hide hb1
  have H1 := hide (h.below hb1)
  have K1 := hide (heap_alloc_new w (.cells #[.int .i64 (G.fin : Int), .string xp, .int .i64 xs, .string xk, .string xv] 39))
  have HN2 : Hid ((Value.slice L.ro G.recs.length L.rc).ownBlock ≠ some w.heap.size) := fun e => by have := h.row.lt e; omega
  have HBB : Hid (∀ j, L.own j → j < w.heap.size) := fun j hj => h.lt hj
  have c2 := T0.cells.2.2.1
  have cf := box_free (heap_alloc_new w (.cells #[.int .i64 xo, .string xp, .int .i64 xs, .string xk, .string xv] 39)) 0
  clear h hk T0 hb1 hkey
  go_enter Tryz.func30, Tryz.ntmps30
  go_upto_region 2 with fail
  generalize hrb : w.heap.size = rb at *
  generalize w.alloc (.cells #[.int .i64 (G.fin : Int), .string xp, .int .i64 xs, .string xk, .string xv] 39) = w1 at *
  have HRB := hide hrb
  clear hrb c2 cf
  have X1 := hide H1.out.box
  have R1 := hide H1.out.row
  have HN := hide H1.out.row_ne
  generalize hfi : G.fin = fi at *
  generalize hn : G.recs.length = n at *
  refine wp_region_last 10 rfl (by kernel_rfl) rfl rfl (by kernel_rfl) ?_
  intro ops' hops'
  simp only [idle, List.setIfInBounds_toArray, List.set_cons_succ, List.set_cons_zero] at hops'
  subst hops'
  refine wpAny_of_held (S := fun w' => w'.cell? ⟨L.b, 3, none⟩ = some (.slice L.ro n L.rc) ∧ w'.cell? ⟨rb, 0, none⟩ = some (.int .i64 (fi : Int)) ∧ w'.cell? ⟨rb, 1, none⟩ = some (.string xp) ∧ w'.cell? ⟨rb, 2, none⟩ = some (.int .i64 xs) ∧ w'.cell? ⟨rb, 3, none⟩ = some (.string xk) ∧ w'.cell? ⟨rb, 4, none⟩ = some (.string xv)) _ _ _ _ ?_
  have hHeld : (fun w' => w'.cell? ⟨L.b, 3, none⟩ = some (.slice L.ro n L.rc) ∧ w'.cell? ⟨rb, 0, none⟩ = some (.int .i64 (fi : Int)) ∧ w'.cell? ⟨rb, 1, none⟩ = some (.string xp) ∧ w'.cell? ⟨rb, 2, none⟩ = some (.int .i64 xs) ∧ w'.cell? ⟨rb, 3, none⟩ = some (.string xk) ∧ w'.cell? ⟨rb, 4, none⟩ = some (.string xv)) w1.drew := ⟨box_cell X1.out 3 rfl, box_cell K1.out 0 rfl, box_cell K1.out 1 rfl, box_cell K1.out 2 rfl, box_cell K1.out 3 rfl, box_cell K1.out 4 rfl⟩
  refine takeIn 0 (v := ?_) rfl (by kernel_rfl) (by kernel_rfl) (by kernel_rfl) (fun _ _ _ h => h) rfl ?_ hHeld ?_
  rotate_left
  · intro w hSw; (try dsimp only at hSw); first | (go_simp; done) | (go_simp; with_reducible rfl) | with_reducible rfl
  try simp only [Act.put, List.setIfInBounds_toArray, List.set_cons_zero, List.set_cons_succ]
  refine takeIn 1 (v := ?_) rfl (by kernel_rfl) (by kernel_rfl) (by kernel_rfl) (fun _ _ _ h => h) rfl ?_ hHeld ?_
  rotate_left
  · intro w hSw; (try dsimp only at hSw); first | (go_simp; done) | (go_simp; with_reducible rfl) | with_reducible rfl
  try simp only [Act.put, List.setIfInBounds_toArray, List.set_cons_zero, List.set_cons_succ]
  refine takeIn 2 (v := ?_) rfl (by kernel_rfl) (by kernel_rfl) (by kernel_rfl) (fun _ _ _ h => h) rfl ?_ hHeld ?_
  rotate_left
  · intro w hSw; (try dsimp only at hSw); first | (go_simp; done) | (go_simp; with_reducible rfl) | with_reducible rfl
  try simp only [Act.put, List.setIfInBounds_toArray, List.set_cons_zero, List.set_cons_succ]
  refine takeIn 3 (v := ?_) rfl (by kernel_rfl) (by kernel_rfl) (by kernel_rfl) (fun _ _ _ h => h) rfl ?_ hHeld ?_
  rotate_left
  · intro w hSw; (try dsimp only at hSw); first | (go_simp; done) | (go_simp; with_reducible rfl) | with_reducible rfl
  try simp only [Act.put, List.setIfInBounds_toArray, List.set_cons_zero, List.set_cons_succ]
  refine takeIn 4 (v := ?_) rfl (by kernel_rfl) (by kernel_rfl) (by kernel_rfl) (fun _ _ _ h => h) rfl ?_ hHeld ?_
  rotate_left
  · intro w hSw; (try dsimp only at hSw); first | (go_simp; done) | (go_simp; with_reducible rfl) | with_reducible rfl
  try simp only [Act.put, List.setIfInBounds_toArray, List.set_cons_zero, List.set_cons_succ]
  refine takeIn 5 (v := ?_) rfl (by kernel_rfl) (by kernel_rfl) (by kernel_rfl) (fun _ _ _ h => h) rfl ?_ hHeld ?_
  rotate_left
  · intro w hSw; (try dsimp only at hSw); first | (go_simp; done) | (go_simp; with_reducible rfl) | with_reducible rfl
  try simp only [Act.put, List.setIfInBounds_toArray, List.set_cons_zero, List.set_cons_succ]
  refine stepIn 6 rfl (by kernel_rfl) (fun K hK => ?_)
  go_simp
  refine hK.out _ _ ⟨box_cell (box_alloc X1.out _) 3 rfl, box_cell (box_alloc K1.out _) 0 rfl, box_cell (box_alloc K1.out _) 1 rfl, box_cell (box_alloc K1.out _) 2 rfl, box_cell (box_alloc K1.out _) 3 rfl, box_cell (box_alloc K1.out _) 4 rfl⟩ (fun hHeldx => ?_)
  clear hK K hHeld
  have hHeld := hHeldx
  clear hHeldx
  try simp only [Act.put, List.setIfInBounds_toArray, List.set_cons_zero, List.set_cons_succ]
  refine stepIn 7 rfl (by kernel_rfl) (fun K hK => ?_)
  refine step_append_q (by rfl) _ _ _ (by rfl) 39 _ _ 5 64 Tryz.underlying35 Tryz.infoRec Tryz.zeroRec Tryz.sizeRec Tryz.bytesRec rfl (by omega) (.slice L.ro n L.rc) n (recCells G.recs) (by rfl) (R1.out.alloc _) ⟨w1.heap.size, 0, none⟩ 1 1 [.int .i64 (fi : Int), .string xp, .int .i64 xs, .string xk, .string xv] (by rfl) (by rfl) (World.news_of_block (cs := #[.int .i64 (fi : Int), .string xp, .int .i64 xs, .string xk, .string xv]) (t := 39) (fr := (0, 0)) (heap_alloc_new w1.drew _)) (rec_ones _ _ _ _ _) (by unfold maxLen; omega) (by omega) ?_
  intro a3 c3 w3 hown3 hgrow3 hat3
  have F5 : Hid (w3.heap[L.b]? = some (.cells #[.string G.name, .int .i64 G.low, .int .i64 (fi : Int), .slice L.ro n L.rc, .map (some L.mb)] 52 (0, 0))) := grown_at hgrow3 (box_alloc X1.out _) HN.out
  have F6 : Hid (w3.heap[rb]? = some (.cells #[.int .i64 (fi : Int), .string xp, .int .i64 xs, .string xk, .string xv] 39 (0, 0))) := grown_at hgrow3 (box_alloc K1.out _) HN2.out
  have q3 := box_cell F5.out 3 rfl
  have qf := box_free F5.out 3
  refine hK.out _ _ ⟨box_cell F5.out 3 rfl, box_cell F6.out 0 rfl, box_cell F6.out 1 rfl, box_cell F6.out 2 rfl, box_cell F6.out 3 rfl, box_cell F6.out 4 rfl⟩ (fun hHeldx => ?_)
  clear hK K hHeld
  have hHeld := hHeldx
  clear hHeldx
  try simp only [Act.put, List.setIfInBounds_toArray, List.set_cons_zero, List.set_cons_succ]
  refine takeIn 8 (v := ?_) rfl (by kernel_rfl) (by kernel_rfl) (by kernel_rfl) (fun _ _ _ h => h) rfl ?_ hHeld ?_
  rotate_left
  · intro w hSw; (try dsimp only at hSw); first | (go_simp; done) | (go_simp; with_reducible rfl) | with_reducible rfl
  try simp only [Act.put, List.setIfInBounds_toArray, List.set_cons_zero, List.set_cons_succ]
  refine takeIn 9 (v := ?_) rfl (by kernel_rfl) (by kernel_rfl) (by kernel_rfl) (fun _ _ _ h => h) rfl ?_ hHeld ?_
  rotate_left
  · intro w hSw; (try dsimp only at hSw); first | (go_simp; done) | (go_simp; with_reducible rfl) | with_reducible rfl
  try simp only [Act.put, List.setIfInBounds_toArray, List.set_cons_zero, List.set_cons_succ]
  refine takeIn 10 (v := ?_) rfl (by kernel_rfl) (by kernel_rfl) (by kernel_rfl) (fun _ _ _ h => h) rfl ?_ hHeld ?_
  rotate_left
  · intro w hSw; (try dsimp only at hSw); first | (go_simp; done) | (go_simp; with_reducible rfl) | with_reducible rfl
  try simp only [Act.put, List.setIfInBounds_toArray, List.set_cons_zero, List.set_cons_succ]
  refine wpAnyH_done (by kernel_rfl) ?_ _
  intro K hK
  go_simp
  refine hK _ _ ?_
  clear hK K hHeld
  rename_i K2 hK2
  have hrL : rb ≠ L.b := fun e => by have := HBB.out L.b (.inl rfl); omega
  have hvb : (Value.slice a3 (n + 1) c3).ownBlock ≠ some L.b := fun e => (hat3 _ e).elim HN.out (fun e2 => by have := HBB.out L.b (.inl rfl); have := B1.out.size; have := HRB.out; simp at e2; omega)
  have X4 := hide (box_set F5.out 3 (.slice a3 (n + 1) c3))
  have K4 := hide (box_apart F6.out hrL 3 (.slice a3 (n + 1) c3))
  have R4 := hide (hown3.set L.b 3 (.slice a3 (n + 1) c3) hvb)
  have T14 : Hid (Touch L.own w1 (w3.setCell ⟨L.b, 3, none⟩ (.slice a3 (n + 1) c3))) := (((Touch.refl L.own w1).drew.alloc _).grown hgrow3 (fun k hk _ => .inr (.inr (by rw [← hk]; exact own_block _ _ _ _)))).setCell _ _ (fun _ => .inl rfl)
  have HAT : Hid (∀ j, (Value.slice a3 (n + 1) c3).ownBlock = some j → L.own j ∨ w1.heap.size ≤ j) := fun j hj => (hat3 j hj).elim (fun e => .inl (.inr (.inr (by rw [← e]; exact own_block _ _ _ _)))) (fun e => .inr (by simp at e; omega))
  have M4 : Hid ((w3.setCell ⟨L.b, 3, none⟩ (.slice a3 (n + 1) c3)).ownsMap Tryz.prog 9 lastR L.mb G.n G.D) := by
    have m1 := (Touch.refl (fun k => (Value.slice L.ro n L.rc).ownBlock = some k) w1).drew.alloc (.cells #[.int .i64 (fi : Int), .string xp, .int .i64 xs, .string xk, .string xv] 39)
    have m2 := (m1.grown hgrow3 (fun _ e _ => e)).map H1.out.map (by have := H1.out.row_mb; rw [hn] at this; exact this)
    exact m2.setCell (a := ⟨L.b, 3, none⟩) H1.out.mb_ne _
  clear hgrow3 hat3 hown3 q3 qf F5 F6
  refine hK2 _ _ ?_
  clear hK2 K2
  generalize w3.setCell ⟨L.b, 3, none⟩ (.slice a3 (n + 1) c3) = w4 at *
  obtain ⟨w5, hrun, hown5, hturn⟩ := (show w4.drew.ownsMap Tryz.prog 9 lastR L.mb G.n G.D from M4.out).store keyedS Tryz.underlying50 (by unfold maxLen; omega) HKEY.out (lastR_mk (fi : Int) xs)
  have O5 := hide hown5
  have TU := hide hturn.grown
  clear hown5 hturn
  go_upto_region 3 with fail
  refine wp_region_last 11 rfl (by kernel_rfl) rfl rfl (by kernel_rfl) ?_
  intro ops' hops'
  simp only [idle, List.setIfInBounds_toArray, List.set_cons_succ, List.set_cons_zero] at hops'
  subst hops'
  refine wpAny_of_held (S := fun w' => w'.cell? ⟨L.b, 4, none⟩ = some (.map (some L.mb)) ∧ w'.cell? ⟨rb, 0, none⟩ = some (.int .i64 (fi : Int)) ∧ w'.cell? ⟨rb, 1, none⟩ = some (.string xp) ∧ w'.cell? ⟨rb, 2, none⟩ = some (.int .i64 xs)) _ _ _ _ ?_
  have hHeld : (fun w' => w'.cell? ⟨L.b, 4, none⟩ = some (.map (some L.mb)) ∧ w'.cell? ⟨rb, 0, none⟩ = some (.int .i64 (fi : Int)) ∧ w'.cell? ⟨rb, 1, none⟩ = some (.string xp) ∧ w'.cell? ⟨rb, 2, none⟩ = some (.int .i64 xs)) w4.drew := ⟨box_cell X4.out 4 rfl, box_cell K4.out 0 rfl, box_cell K4.out 1 rfl, box_cell K4.out 2 rfl⟩
  refine takeIn 0 (v := ?_) rfl (by kernel_rfl) (by kernel_rfl) (by kernel_rfl) (fun _ _ _ h => h) rfl ?_ hHeld ?_
  rotate_left
  · intro w hSw; (try dsimp only at hSw); first | (go_simp; done) | (go_simp; with_reducible rfl) | with_reducible rfl
  try simp only [Act.put, List.setIfInBounds_toArray, List.set_cons_zero, List.set_cons_succ]
  refine takeIn 1 (v := ?_) rfl (by kernel_rfl) (by kernel_rfl) (by kernel_rfl) (fun _ _ _ h => h) rfl ?_ hHeld ?_
  rotate_left
  · intro w hSw; (try dsimp only at hSw); first | (go_simp; done) | (go_simp; with_reducible rfl) | with_reducible rfl
  try simp only [Act.put, List.setIfInBounds_toArray, List.set_cons_zero, List.set_cons_succ]
  refine takeIn 2 (v := ?_) rfl (by kernel_rfl) (by kernel_rfl) (by kernel_rfl) (fun _ _ _ h => h) rfl ?_ hHeld ?_
  rotate_left
  · intro w hSw; (try dsimp only at hSw); first | (go_simp; done) | (go_simp; with_reducible rfl) | with_reducible rfl
  try simp only [Act.put, List.setIfInBounds_toArray, List.set_cons_zero, List.set_cons_succ]
  refine takeIn 3 (v := ?_) rfl (by kernel_rfl) (by kernel_rfl) (by kernel_rfl) (fun _ _ _ h => h) rfl ?_ hHeld ?_
  rotate_left
  · intro w hSw; (try dsimp only at hSw); first | (go_simp; done) | (go_simp; with_reducible rfl) | with_reducible rfl
  try simp only [Act.put, List.setIfInBounds_toArray, List.set_cons_zero, List.set_cons_succ]
  refine takeIn 4 (v := ?_) rfl (by kernel_rfl) (by kernel_rfl) (by kernel_rfl) (fun _ _ _ h => h) rfl ?_ hHeld ?_
  rotate_left
  · intro w hSw; (try dsimp only at hSw); first | (go_simp; done) | (go_simp; with_reducible rfl) | with_reducible rfl
  try simp only [Act.put, List.setIfInBounds_toArray, List.set_cons_zero, List.set_cons_succ]
  refine takeIn 5 (v := ?_) rfl (by kernel_rfl) (by kernel_rfl) (by kernel_rfl) (fun _ _ _ h => h) rfl ?_ hHeld ?_
  rotate_left
  · intro w hSw; (try dsimp only at hSw); first | (go_simp; done) | (go_simp; with_reducible rfl) | with_reducible rfl
  try simp only [Act.put, List.setIfInBounds_toArray, List.set_cons_zero, List.set_cons_succ]
  refine takeIn 6 (v := ?_) rfl (by kernel_rfl) (by kernel_rfl) (by kernel_rfl) (fun _ _ _ h => h) rfl ?_ hHeld ?_
  rotate_left
  · intro w hSw; (try dsimp only at hSw); first | (go_simp; done) | (go_simp; with_reducible rfl) | with_reducible rfl
  try simp only [Act.put, List.setIfInBounds_toArray, List.set_cons_zero, List.set_cons_succ]
  refine takeIn 7 (v := ?_) rfl (by kernel_rfl) (by kernel_rfl) (by kernel_rfl) (fun _ _ _ h => h) rfl ?_ hHeld ?_
  rotate_left
  · intro w hSw; (try dsimp only at hSw); first | (go_simp; done) | (go_simp; with_reducible rfl) | with_reducible rfl
  try simp only [Act.put, List.setIfInBounds_toArray, List.set_cons_zero, List.set_cons_succ]
  refine takeIn 8 (v := ?_) rfl (by kernel_rfl) (by kernel_rfl) (by kernel_rfl) (fun _ _ _ h => h) rfl ?_ hHeld ?_
  rotate_left
  · intro w hSw; (try dsimp only at hSw); first | (go_simp; done) | (go_simp; with_reducible rfl) | with_reducible rfl
  try simp only [Act.put, List.setIfInBounds_toArray, List.set_cons_zero, List.set_cons_succ]
  refine takeIn 9 (v := ?_) rfl (by kernel_rfl) (by kernel_rfl) (by kernel_rfl) (fun _ _ _ h => h) rfl ?_ hHeld ?_
  rotate_left
  · intro w hSw; (try dsimp only at hSw); first | (go_simp; done) | (go_simp; with_reducible rfl) | with_reducible rfl
  try simp only [Act.put, List.setIfInBounds_toArray, List.set_cons_zero, List.set_cons_succ]
  refine takeIn 10 (v := ?_) rfl (by kernel_rfl) (by kernel_rfl) (by kernel_rfl) (fun _ _ _ h => h) rfl ?_ hHeld ?_
  rotate_left
  · intro w hSw; (try dsimp only at hSw); first | (go_simp; done) | (go_simp; with_reducible rfl) | with_reducible rfl
  try simp only [Act.put, List.setIfInBounds_toArray, List.set_cons_zero, List.set_cons_succ]
  refine takeIn 11 (v := ?_) rfl (by kernel_rfl) (by kernel_rfl) (by kernel_rfl) (fun _ _ _ h => h) rfl ?_ hHeld ?_
  rotate_left
  · intro w hSw; (try dsimp only at hSw); first | (go_simp; done) | (go_simp; with_reducible rfl) | with_reducible rfl
  try simp only [Act.put, List.setIfInBounds_toArray, List.set_cons_zero, List.set_cons_succ]
  refine wpAnyH_done (by kernel_rfl) ?_ _
  intro K hK
  go_simp
  refine hK _ _ ?_
  clear hK K hHeld
  rename_i K3 hK3
  have hmb := H1.out.mb_ne
  have hrm : L.mb ≠ rb := fun e => by have := HBB.out L.mb (.inr (.inl rfl)); omega
  have X5 : Hid (w5.heap[L.b]? = some (.cells #[.string G.name, .int .i64 G.low, .int .i64 (fi : Int), .slice a3 (n + 1) c3, .map (some L.mb)] 52 (0, 0))) := grown_at TU.out X4.out (fun e => hmb (Option.some.inj e))
  have K5 := hide (grown_at TU.out (show w4.drew.heap[rb]? = _ from K4.out) (fun e => hrm (Option.some.inj e)))
  have R5 : Hid (OwnsQ w5 39 5 (.slice a3 (n + 1) c3) (n + 1) (recCells G.recs ++ [.int .i64 (fi : Int), .string xp, .int .i64 xs, .string xk, .string xv])) := R4.out.congr (fun j hj => TU.out.block j (R4.out.lt hj) (fun e => q_mb R4.out M4.out (by rw [hj, e])))
  have T45 : Hid (Touch L.own w4 w5) := ((Touch.refl L.own w4).drew).grown TU.out (fun k hk _ => .inr (.inl (Option.some.inj hk).symm))
  have x2 := box_cell X5.out 2 rfl
  have f2 := box_free X5.out 2
  have k0 := box_cell K5.out 0 rfl
  clear X4 K4 R4 TU M4 hrun X1 R1 K1
  refine hK3 _ _ ?_
  clear hK3 K3
  go_wp2
  go_ret
  have HF := hfi
  subst HF
  refine ⟨rfl, ⟨L.b, L.mb, a3, c3⟩, ⟨?_, ?_, ?_⟩, ⟨?_, rfl, ?_⟩⟩
  · have := box_set X5.out 2 (.int .i64 ((G.fin : Int) + 1))
    simp only [List.length_append, List.length_cons, List.length_nil, hn, Nat.zero_add]
    exact this
  · simp only [List.length_append, List.length_cons, List.length_nil, hn, recCells_snoc, Nat.zero_add]
    exact R5.out.set L.b 2 _ hvb
  · exact O5.out.setCell (a := ⟨L.b, 2, none⟩) hmb _
  · have t1 : Touch L.own w w1 := Touch.of_below (by rw [HRB.out]; exact B1.out)
    exact ((t1.andThen T14.out (fun _ _ e => e)).andThen T45.out (fun _ _ e => e)).setCell _ _ (fun _ => .inl rfl)
  · rintro j (rfl | rfl | hj)
    · exact .inl (.inl rfl)
    · exact .inl (.inr (.inl rfl))
    · rcases HAT.out j ((own_block _ _ _ _).trans hj) with e | e
      · exact .inl e
      · exact .inr (by have := B1.out.size; omega)
end Go.Proofs.YtfoomgdlbkjaeaaGreat.Y
