/-
  DiskPlays, as it runs.
-/
import Derived.Test.YtknldpaaikcedaaGreatZVA
import Derived.Test.YtknldpaaikcedaaGreatZVF
import Derived.Test.YtknldpaaikcedaaGreatZVK
import Derived.Test.YtknldpaaikcedaaGreatZE1
import Derived.Laws.AppendOwnNone
namespace Go.Proofs.YtknldpaaikcedaaGreat
open Go.RowKit Go.Maps Go.Sort

/-- append of nothing, as one step of a region that draws its order. -/
theorem zstep_append_none {P : Program} {w : World} {ops : Array Oper} {o : Oper} {a : Act} {K : Act → World → Prop} {Q : Exit → Act → World → Prop} {E : Prop} (hgd : o.guard = none) (s x : Operand) (t : TypeId)
    (ho : o.op = .call { callee := .builtin .append, args := #[s, x], argTypes := #[t, t] })
    (base : Nat) (e : TypeId) (i : TypeInfo) (size : Nat) (ht : P.underlying t = some (.slice e)) (hi : P.info? e = some i)
    (v : Value) (n : Nat) (xs : List Value) (hs : a.eval s = v) (hown : w.ownsRow base e size v n xs) (hx : a.eval x = .slice none 0 0)
    (h : K (a.put o.dst v) w) : if Region.wanted o (yielded ops a.tmps) = true then Oper.wp P o a w K Q else E := by
  have hw : Region.wanted o (yielded ops a.tmps) = true := by simp [Region.wanted, hgd]
  rw [if_pos hw]
  have hrun := run_append_owned_none (P := P) (w := w) base t o.type e i size ht hi v n xs hown
  unfold Oper.wp
  simp [execOp, ho, resolve, invoke, builtin, hs, hx, hrun, Result.andThen]
  exact h
theorem zinfoInt : (Tryz.prog.info? 3).map (fun i => (i.zero, i.size, i.bytes)) = some (some (.int .i64 0), 1, 8) := by kernel_rfl
def numC (us : List Int) : List Value := us.map (Value.int .i64)
theorem num_row {w : World} {B c : Nat} {ao : Option Addr} {us : List Int} {n : Nat} (hn : n = us.length) (h : w.ownsRow B 3 1 (.slice ao n c) n (numC us)) : NumsAt w ao us := fun i hi => by
  subst hn
  rcases h.2 with ⟨_, h2⟩ | ⟨g, c', cur, hv, hb, hh, h1, h2, h3, h4⟩
  · omega
  · injection hv with e1 e2 e3
    refine ⟨g, 0, e1, heap_lt hh, ?_⟩
    have hu : (numC us)[i]? = some (.int .i64 us[i]) := by simp [numC, hi]
    rw [Lib.cell_of_heap hh, Nat.zero_add]
    rw [← h4, List.getElem?_take, if_pos (by omega)] at hu
    simpa using hu
theorem nums_news {w : World} {ad : Addr} {us : List Int} (h : NumsAt w (some ad) us) : ∀ j u, (numC us)[j]? = some u → w.cell? (ad.add j) = some u := fun j u hu => by
  have hj : j < us.length := by have := (List.getElem?_eq_some_iff.1 hu).1; simpa [numC] using this
  obtain ⟨b, off, e, _, hc⟩ := h j hj
  injection e with e
  subst e
  rw [vaddr_add, hc]
  have : (numC us)[j]? = some (.int .i64 us[j]) := by simp [numC, hj]
  exact this.symm.trans hu
theorem num_ones (us : List Int) : ∀ u ∈ numC us, u.oneCell' = true := by
  intro u hu
  obtain ⟨x, _, rfl⟩ := List.mem_map.1 hu
  rfl
theorem ZdsAt.below {w w1 : World} {ao : Option Addr} {l : List Zd} (h : ZdsAt w ao l) (hb : RowKit.Below w.heap.size w w1) : ZdsAt w1 ao l := fun i hi => by
  obtain ⟨b, off, h1, h2, h3⟩ := h i hi
  exact ⟨b, off, h1, Nat.lt_of_lt_of_le h2 hb.size, fun j hj => (hb.cell (p := ⟨b, _, none⟩) h2).trans (h3 j hj)⟩
section
variable {F : Nat → Prop} {W w w' w4 : World} {b x : Nat} {G G' : DG} {S : RD} {X X' : XG} {φ : Nat → Nat}
theorem fresh_own {x j : Nat} (h : xfresh.own x 0 j) : j = x := by
  rcases h with e | e | ⟨i, hi, _⟩ | e | e | e
  · exact e
  · cases e
  · omega
  · cases e
  · cases e
  · cases e
/-- Both are made. -/
theorem duo_made {w0 w1 w2 w3 : World} {room : Int} {q : Nat} (hr : Rep w2 b G) (hf : Fresh G room q) (ho : ∀ j, G.own j → w1.heap.size ≤ j) (b0 : RowKit.Below w0.heap.size w0 w1) (b1 : RowKit.Below w1.heap.size w1 w2) (hx : XR w3 w2.heap.size (RD.fresh room) xfresh) (b2 : RowKit.Below w2.heap.size w2 w3) : Duo (fun j => j < w0.heap.size) w3 b G w2.heap.size (RD.fresh room) xfresh id := by
  have h01 := b0.size
  have h12 := b1.size
  have h23 := b2.size
  refine ⟨hr.below b2, hx, fresh_rel hf, fun j hj e => ?_, fun j hj e => ?_, fun j hj e => ?_, fun j hj => by omega⟩
  · have h1 := hr.lt j hj
    have h2 := fresh_own e
    omega
  · have := ho j e; omega
  · have h2 := fresh_own e
    omega
theorem Acts.low {D : Nat} {w0 w1 : World} (h : Acts (fun j => j < w0.heap.size ∨ j = D) w1 w' b G x) (hb : RowKit.Below w0.heap.size w0 w1) : (∃ G' S' X' φ', Duo (fun j => j < w0.heap.size) w' b G' x S' X' φ' ∧ G'.n ≤ G.n + 1 ∧ G'.q = G.q) ∧ RowKit.Below w0.heap.size w0 w' := by
  obtain ⟨G', S', X', φ', d, hn, hq, t⟩ := h
  exact ⟨⟨G', S', X', φ', d.less fun j hj => .inl hj, hn, hq⟩, hb.trans (t.toBelow hb.size fun k hk e => e (.inl hk))⟩
theorem Outs.toActs {op : Int × RD} (h : Outs F W w' b G x op) : Acts F W w' b G x := by
  obtain ⟨G', X', φ', d, hn, hq, t⟩ := h
  exact ⟨G', op.2, X', φ', d, hn, hq, t⟩
end
set_option maxRecDepth 100000 in
set_option maxHeartbeats 16000000 in
theorem plays_walk (room : Int) (ao : Option Addr) (cap : Nat) (ds : List Zd) (w : World) (_hro : -9223372036854775808 ≤ room ∧ room ≤ 9223372036854775807) (hds : Zds w ao ds) :
    Calls Tryz.prog 3 #[.int .i64 room, .slice ao ds.length cap] w fun e w' => e = .returned (.bool true) ∧ RowKit.Below w.heap.size w w' := by
  have HE := hide (examples_any w)
  have HDS := hide hds
  have hlen := hds.len
  clear hds
  by_cases hr : 0 ≤ room ∧ room ≤ 1000000000
  · go_enter Tryz.func3, Tryz.ntmps3
    go_wp2_with fail
    refine HE.out.mono ?_
    rintro e w1 ⟨rfl, b1⟩
    have B1 := hide b1
    clear b1 HE
    go_wp2_with fail
    refine (new_ok room w1 hr 1000000000 (by decide)).mono ?_
    rintro e w2 ⟨b, G, rfl, r2, f2, o2, b2⟩
    have R2 := hide r2
    have F2 := hide f2
    have O2 := hide o2
    have B2 := hide b2
    clear r2 f2 o2 b2
    go_wp2_with fail
    refine (znew_yes room w2 hr.1 hr.2).mono ?_
    rintro e w3 ⟨rfl, x3, b3⟩
    have D3 := hide (duo_made R2.out F2.out O2.out B1.out B2.out x3 b3)
    have B3 := hide ((B1.out.trans (B2.out.mono B1.out.size)).trans (b3.mono (B1.out.trans (B2.out.mono B1.out.size)).size))
    have HN0 : Hid (G.n ≤ 0 ∧ G.q = 1000000000) := by obtain ⟨hi, _⟩ := F2.out.is; exact ⟨by rw [hi.n]; exact Nat.le_refl _, hi.q⟩
    clear x3 b3 R2 F2 O2 B1 B2
    generalize w2.heap.size = x at *
    go_wp2
    go_loopw [9] (fun iv wv => ∃ (i : Nat) (G : DG) (S : RD) (X : XG) (φ : Nat → Nat), iv = .int .i64 i ∧ i ≤ ds.length ∧ i ≤ 60 ∧ Hid (Duo (fun j => j < w.heap.size) wv b G x S X φ) ∧ Hid (G.n ≤ i ∧ G.q = 1000000000) ∧ Hid (RowKit.Below w.heap.size w wv)) (fun iv _ => 60 - (intOf iv).toNat)
    case atStart => exact ⟨0, G, _, _, _, rfl, Nat.zero_le _, Nat.zero_le _, D3, HN0, B3⟩
    case round =>
      clear D3 HN0 B3
      obtain ⟨i, G, S, X, φ, rfl, hi, hi60, DV, NV, BV⟩ := hrel
      by_cases hlt : i < ds.length
      · have hi0 : (0 : Int) ≤ (i : Int) := by omega
        have hi1 : (i : Int) < (ds.length : Int) := by omega
        by_cases hlt6 : i < 60
        · have hi6 : (i : Int) < 60 := by omega
          obtain ⟨kb, off, rfl, hkb, hc⟩ := HDS.out.all.below BV.out i hlt
          have hok := HDS.out.ok ds[i] (List.getElem_mem hlt)
          generalize ds[i] = o at *
          obtain ⟨ok, oa, ob, on, oko, ous, okc⟩ := o
          obtain ⟨q1, q2, q3, q4, q5, q6, q7, q8, q9⟩ := hok
          have d0 := hc 0 (by omega)
          have d1 := hc 1 (by omega)
          have d2 := hc 2 (by omega)
          have d3 := hc 3 (by omega)
          have d4 := hc 4 (by omega)
          simp only [Zd.cells] at d0 d1 d2 d3 d4 q1 q2 q3 q4 q5 q6 q7 q8 q9
          have D0 : wr.cell? ⟨kb, off + i * 5, none⟩ = some (.int .i64 ok) := d0
          have D1 : wr.cell? ⟨kb, off + i * 5 + 1, none⟩ = some (.string oa) := d1
          have D2 : wr.cell? ⟨kb, off + i * 5 + 2, none⟩ = some (.string ob) := d2
          have D3 : wr.cell? ⟨kb, off + i * 5 + 3, none⟩ = some (.int .i64 on) := d3
          have D4 : wr.cell? ⟨kb, off + i * 5 + 4, none⟩ = some (.slice oko ous.length okc) := d4
          have HNUM := hide (q5.touch (Touch.of_below (own := fun _ => False) BV.out) (fun _ _ _ _ e => e))
          have HOLD := hide q6
          have HINT := hide q7
          have HNIL := hide q9
          have rk := pickZ_range ok 11 (by decide)
          have HPK := hide (fun W => pick_any ok 11 W q1 (by decide))
          generalize hpk : pickZ ok 11 = pk at *
          have HPE := hide hpk
          have DW := hide (DV.out.wide (.cells #[.int .i64 ok, .string oa, .string ob, .int .i64 on, .slice oko ous.length okc] 32))
          have HBX := hide (heap_alloc_new wr (.cells #[.int .i64 ok, .string oa, .string ob, .int .i64 on, .slice oko ous.length okc] 32))
          have BA := hide (BV.out.alloc BV.out.size (.cells #[.int .i64 ok, .string oa, .string ob, .int .i64 on, .slice oko ous.length okc] 32))
          have HNA := hide (HNUM.out.touch ((Touch.refl (fun _ => False) wr).alloc (.cells #[.int .i64 ok, .string oa, .string ob, .int .i64 on, .slice oko ous.length okc] 32)) (fun _ _ _ _ e => e))
          have hws : w.heap.size ≤ wr.heap.size := BV.out.size
          have hN1 : G.n < 900 := by have := NV.out.1; omega
          have hq1 : G.q = 1000000000 := NV.out.2
          clear d0 d1 d2 d3 d4 hc hkb q5 q6 q7 q9 hpk DV BV HNUM
          go_wp2_with fail
          refine (HPK.out _).mono ?_
          rintro e wp ⟨rfl, hw⟩
          obtain rfl := hw.symm
          clear hw HPK D0 D1 D2 D3 D4
          obtain ⟨c0, c1, c2, c3, c4⟩ := vbox5 HBX.out
          generalize wr.alloc (.cells #[.int .i64 ok, .string oa, .string ob, .int .i64 on, .slice oko ous.length okc] 32) = wa at *
          generalize wr.heap.size = D at *
          have HFI : Hid (∀ W, Acts (fun j => j < w.heap.size ∨ j = D) wa W b G x → ∃ G' S' X' φ', Duo (fun j => j < w.heap.size) W b G' x S' X' φ' ∧ (G'.n ≤ i + 1 ∧ G'.q = 1000000000) ∧ RowKit.Below w.heap.size w W ∧ Calls Tryz.prog 15 #[.pointer (some ⟨b, 0, none⟩), .pointer (some ⟨x, 0, none⟩)] W fun e w' => e = .returned (.bool true) ∧ RowKit.Below W.heap.size W w') := fun W ha => by
            obtain ⟨⟨G', S', X', φ', d, hn, hq⟩, hb⟩ := ha.low BA.out
            have hv := NV.out
            exact ⟨G', S', X', φ', d, ⟨by omega, by rw [hq]; exact hv.2⟩, hb, files_any d (by omega)⟩
          by_cases k7 : pk = 7
          · subst k7
            have HQ1 := hide (read_any DW.out.rep oa (by unfold maxLen; omega))
            have HQ2 := hide (zread_any DW.out.xr oa)
            obtain ⟨r1, r2⟩ := read_rel DW.out.rep DW.out.rel oa
            rw [r1, r2] at HQ1
            generalize S.read oa = rd at *
            obtain ⟨rs, re⟩ := rd
            simp only at HQ1 HQ2
            clear r1 r2
            go_wp2_with fail
            refine HQ1.out.mono ?_
            rintro e w5 ⟨rfl, hw⟩
            obtain rfl := hw.symm
            clear hw HQ1
            go_wp2_with fail
            refine HQ2.out.mono ?_
            rintro e w6 ⟨rfl, b6⟩
            have HA : Hid (Acts (fun j => j < w.heap.size ∨ j = D) wa w6 b G x) := ⟨G, S, X, φ, DW.out.past b6, Nat.le_succ _, rfl, Touch.of_below b6⟩
            clear b6 HQ2
            obtain ⟨G', S', X', φ', d', n', b', hfi⟩ := HFI.out w6 HA.out
            have DE := hide d'
            have NE := hide n'
            have BE := hide b'
            have HE9 := hide hfi
            clear d' n' b' hfi
            go_wp2_with fail
            refine HE9.out.mono ?_
            rintro e wz ⟨rfl, bz⟩
            have DZ := hide (DE.out.past bz)
            have BZ := hide (BE.out.trans (bz.mono BE.out.size))
            clear bz DE BE HE9
            go_wp2
            exact ⟨⟨i + 1, G', S', X', φ', by go_num, by omega, by omega, DZ, NE, BZ⟩, by simp [intOf]; omega⟩
          have g7 : (pk == 7) = false := by rw [beq_eq_false_iff_ne]; omega
          by_cases k8 : pk = 8
          · subst k8
            have HA : Hid (Acts (fun j => j < w.heap.size ∨ j = D) wa wa b G x) := ⟨G, S, X, φ, DW.out, Nat.le_succ _, rfl, Touch.refl _ _⟩
            obtain ⟨G', S', X', φ', d', n', b', hfi⟩ := HFI.out wa HA.out
            have DE := hide d'
            have NE := hide n'
            have BE := hide b'
            have HE9 := hide hfi
            clear d' n' b' hfi
            go_wp2_with fail
            refine HE9.out.mono ?_
            rintro e wz ⟨rfl, bz⟩
            have DZ := hide (DE.out.past bz)
            have BZ := hide (BE.out.trans (bz.mono BE.out.size))
            clear bz DE BE HE9
            go_wp2
            exact ⟨⟨i + 1, G', S', X', φ', by go_num, by omega, by omega, DZ, NE, BZ⟩, by simp [intOf]; omega⟩
          have g8 : (pk == 8) = false := by rw [beq_eq_false_iff_ne]; omega
          by_cases k9 : pk = 9
          · subst k9
            have HQ1 := hide (fuse_one DW.out on q4)
            have HQ2 := hide (fun w4 hm => fuse_two (w4 := w4) DW.out on q4 hm)
            go_wp2_with fail
            refine HQ1.out.mono ?_
            rintro e w5 ⟨rfl, m5⟩
            have t5 := m5.touch DW.out
            obtain ⟨_, _, _, e3, _⟩ := vbox5 (t5.at HBX.out (fun e => e (.inr rfl)))
            have M5 := hide m5
            clear m5 t5 HQ1
            go_wp2_with fail
            refine (HQ2.out _ M5.out).mono ?_
            rintro e w6 ⟨rfl, o6⟩
            have HA : Hid (Acts (fun j => j < w.heap.size ∨ j = D) wa w6 b G x) := o6.toActs
            clear o6 HQ2 M5 e3
            obtain ⟨G', S', X', φ', d', n', b', hfi⟩ := HFI.out w6 HA.out
            have DE := hide d'
            have NE := hide n'
            have BE := hide b'
            have HE9 := hide hfi
            clear d' n' b' hfi
            go_wp2_with fail
            refine HE9.out.mono ?_
            rintro e wz ⟨rfl, bz⟩
            have DZ := hide (DE.out.past bz)
            have BZ := hide (BE.out.trans (bz.mono BE.out.size))
            clear bz DE BE HE9
            go_wp2
            exact ⟨⟨i + 1, G', S', X', φ', by go_num, by omega, by omega, DZ, NE, BZ⟩, by simp [intOf]; omega⟩
          have g9 : (pk == 9) = false := by rw [beq_eq_false_iff_ne]; omega
          by_cases k10 : pk = 10
          · subst k10
            have HNB : Hid (ous ≠ [] → ∀ kb off, oko = some ⟨kb, off, none⟩ → kb < w.heap.size) := HOLD.out
            have HQ1 : Hid (∀ W (vo : Option Addr) (vc : Nat), RowKit.Below wa.heap.size wa W → W.ownsRow wa.heap.size 3 1 (.slice vo ous.length vc) ous.length (numC ous) → Calls Tryz.prog 12 #[.pointer (some ⟨b, 0, none⟩), .int .i64 on, .slice vo ous.length vc] W fun e w' => e = .returned (.tuple #[]) ∧ Mid wa w' b G (0, S.crash on ous)) := fun W vo vc hb ho => by
              refine (crash_one (DW.out.past hb) hN1 on q4 vo vc ous HINT.out (by omega) (num_row rfl ho) (fun hne kb off e => ?_)).mono ?_
              · refine Classical.byContradiction fun e9 => ?_
                have h1 := DW.out.rep.lt kb e9
                have h2 := (ho.lt kb (by rw [e]; rfl)).1
                omega
              · rintro e w' ⟨he, G', st, hφ, hn, hq⟩
                exact ⟨he, G', Step.ahead hb st, hφ, hn, hq⟩
            have HQ2 : Hid (∀ w4, Mid wa w4 b G (0, S.crash on ous) → Calls Tryz.prog 13 #[.pointer (some ⟨x, 0, none⟩), .int .i64 on, .slice oko ous.length okc] w4 fun e w' => e = .returned (.tuple #[]) ∧ Outs (fun j => j < w.heap.size ∨ j = D) wa w' b G x (0, S.crash on ous)) := fun w4 hm => by
              have t4 := hm.touch DW.out
              exact crash_two DW.out hN1 on q4 oko okc ous HINT.out (by omega) (HNA.out.touch t4 (fun hne kb off e h => h (.inl (HNB.out hne kb off e)))) (fun hne kb off e h => DW.out.outX kb (.inl (HNB.out hne kb off e)) h) hm
            have HK1 := hide (enters_of Tryz.func12 (by kernel_rfl) rfl)
            have HDC : Hid (∀ w4, Mid wa w4 b G (0, S.crash on ous) → w4.cell? ⟨D, 3, none⟩ = some (.int .i64 on) ∧ w4.cell? ⟨D, 4, none⟩ = some (.slice oko ous.length okc)) := fun w4 hm => by
              have t4 := hm.touch DW.out
              obtain ⟨_, _, _, e3, e4⟩ := vbox5 (t4.at HBX.out (fun e => e (.inr rfl)))
              exact ⟨e3, e4⟩
            generalize (0, S.crash on ous) = op at *
            obtain ⟨i0, hi0', hz0, hz1, hz2⟩ := zinfo_parts zinfoInt
            have hDl : D < wa.heap.size := heap_lt HBX.out
            cases oko with
            | none =>
              obtain ⟨hkc, hus⟩ := HNIL.out rfl
              subst hkc hus
              go_wp2_with fail
              go_region_held_law (fun w' => w'.cell? ⟨D, 3, none⟩ = some (.int .i64 on) ∧ w'.cell? ⟨D, 4, none⟩ = some (.slice none 0 0)) (first | go_keep | exact ⟨z3, z4⟩) (first
                | (refine zstep_append_none rfl _ _ 30 rfl wa.heap.size 3 i0 1 Tryz.underlying30 hi0' (.slice none 0 0) 0 [] (by rfl) (World.ownsRow_nil _ _ _ _) (by rfl) ?_)
                | (refine zstep_fn (by rfl) 114 (by rfl) 12 _ _ (by rfl) HK1.out [.pointer (some ⟨b, 0, none⟩), .int .i64 on, .slice none 0 0] (by rfl) (HQ1.out _ none 0 (by first | exact Below.refl _ _ | exact (Below.refl _ _).drew) (World.ownsRow_nil _ _ _ _)) ?_; rintro e w5 ⟨rfl, m5⟩; refine ⟨_, rfl, ?_⟩; obtain ⟨z3, z4⟩ := HDC.out _ m5; have M5 := hide m5; clear m5))
              all_goals (
                go_wp2_with fail
                refine (HQ2.out _ M5.out).mono ?_
                rintro e w6 ⟨rfl, o6⟩
                have HA : Hid (Acts (fun j => j < w.heap.size ∨ j = D) wa w6 b G x) := o6.toActs
                clear o6 M5 z3 z4
                obtain ⟨G', S', X', φ', d', n', b', hfi⟩ := HFI.out w6 HA.out
                have DE := hide d'
                have NE := hide n'
                have BE := hide b'
                have HE9 := hide hfi
                clear d' n' b' hfi
                go_wp2_with fail
                refine HE9.out.mono ?_
                rintro e wz ⟨rfl, bz⟩
                have DZ := hide (DE.out.past bz)
                have BZ := hide (BE.out.trans (bz.mono BE.out.size))
                clear bz DE BE HE9
                go_wp2
                exact ⟨⟨i + 1, G', S', X', φ', by go_num, by omega, by omega, DZ, NE, BZ⟩, by simp [intOf]; omega⟩)
            | some ad =>
              go_wp2_with fail
              go_region_held_law (fun w' => w'.cell? ⟨D, 3, none⟩ = some (.int .i64 on) ∧ w'.cell? ⟨D, 4, none⟩ = some (.slice (some ad) ous.length okc)) (first | go_keep | exact ⟨z3, z4⟩) (first
                | (refine zstep_append rfl _ _ 30 rfl wa.heap.size 3 i0 _ 1 8 Tryz.underlying30 hi0' hz0 hz1 hz2 rfl (by omega) (.slice none 0 0) 0 [] (by rfl) (World.ownsRow_nil _ _ _ _) ad ous.length okc (numC ous) (by rfl) (by simp [numC]) (by first | exact nums_news HNA.out | exact nums_news (HNA.out.touch (Touch.refl (fun _ => False) wa).drew (fun _ _ _ _ e => e))) (num_ones ous) (by unfold maxLen; omega) (by omega) (by first | exact Nat.le_refl _ | simp) ?_; intro vo vc w7 hown7 hgrow7 hloc7; rw [Nat.zero_add, List.nil_append] at hown7; rw [Nat.zero_add]; have O7 := hide hown7; have B7 : Hid (RowKit.Below wa.heap.size wa w7) := ⟨hgrow7.os, hgrow7.tape, hgrow7.output, hgrow7.size, fun k hk => hgrow7.block k hk (fun e => by cases e)⟩; have z3 := (B7.out.cell (p := ⟨D, 3, none⟩) hDl).trans c3; have z4 := (B7.out.cell (p := ⟨D, 4, none⟩) hDl).trans c4; clear hown7 hgrow7 hloc7)
                | (refine zstep_fn (by rfl) 114 (by rfl) 12 _ _ (by rfl) HK1.out [.pointer (some ⟨b, 0, none⟩), .int .i64 on, .slice vo ous.length vc] (by rfl) (HQ1.out _ vo vc B7.out O7.out) ?_; rintro e w5 ⟨rfl, m5⟩; refine ⟨_, rfl, ?_⟩; obtain ⟨z3, z4⟩ := HDC.out _ m5; have M5 := hide m5; clear m5))
              all_goals (
                go_wp2_with fail
                refine (HQ2.out _ M5.out).mono ?_
                rintro e w6 ⟨rfl, o6⟩
                have HA : Hid (Acts (fun j => j < w.heap.size ∨ j = D) wa w6 b G x) := o6.toActs
                clear o6 M5 z3 z4
                obtain ⟨G', S', X', φ', d', n', b', hfi⟩ := HFI.out w6 HA.out
                have DE := hide d'
                have NE := hide n'
                have BE := hide b'
                have HE9 := hide hfi
                clear d' n' b' hfi
                go_wp2_with fail
                refine HE9.out.mono ?_
                rintro e wz ⟨rfl, bz⟩
                have DZ := hide (DE.out.past bz)
                have BZ := hide (BE.out.trans (bz.mono BE.out.size))
                clear bz DE BE HE9
                go_wp2
                exact ⟨⟨i + 1, G', S', X', φ', by go_num, by omega, by omega, DZ, NE, BZ⟩, by simp [intOf]; omega⟩)
          have g10 : (pk == 10) = false := by rw [beq_eq_false_iff_ne]; omega
          have HQ := hide (act_any DW.out hN1 hq1 ok q1 oa ob q2 q3 on q4 (.slice oko ous.length okc) ⟨_, _, _, rfl⟩)
          go_wp2_with fail
          refine HQ.out.mono ?_
          rintro e w6 ⟨r, rfl, ha⟩
          have HA : Hid (Acts (fun j => j < w.heap.size ∨ j = D) wa w6 b G x) := ha
          clear ha HQ
          obtain ⟨G', S', X', φ', d', n', b', hfi⟩ := HFI.out w6 HA.out
          have DE := hide d'
          have NE := hide n'
          have BE := hide b'
          have HE9 := hide hfi
          clear d' n' b' hfi
          go_wp2_with fail
          refine HE9.out.mono ?_
          rintro e wz ⟨rfl, bz⟩
          have DZ := hide (DE.out.past bz)
          have BZ := hide (BE.out.trans (bz.mono BE.out.size))
          clear bz DE BE HE9
          go_wp2
          exact ⟨⟨i + 1, G', S', X', φ', by go_num, by omega, by omega, DZ, NE, BZ⟩, by simp [intOf]; omega⟩
        · have hi6 : ¬ (i : Int) < 60 := by omega
          go_wp2
          go_ret
          exact ⟨rfl, BV.out⟩
      · have hi1 : ¬ (i : Int) < (ds.length : Int) := by omega
        go_wp2
        go_ret
        exact ⟨rfl, BV.out⟩
  · go_enter Tryz.func3, Tryz.ntmps3
    go_wp2_with fail
    refine HE.out.mono ?_
    rintro e w1 ⟨rfl, b1⟩
    have B1 := hide b1
    clear b1 HE
    go_wp2_with fail
    refine (new_bad room w1 hr).mono ?_
    rintro e w2 ⟨rfl, hw⟩
    obtain rfl := hw.symm
    clear hw
    go_wp2_with fail
    refine (znew_no room _ (by omega)).mono ?_
    rintro e w3 ⟨rfl, hw⟩
    obtain rfl := hw.symm
    clear hw
    go_wp2
    go_ret
    exact ⟨rfl, B1.out⟩
end Go.Proofs.YtknldpaaikcedaaGreat
