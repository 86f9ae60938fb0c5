/-
  What was done with a file since it was synced, done with the bytes that last: settle as it runs.
-/
import Derived.Test.YtknldpaaikcedaaGreatZW2
import Derived.Laws.EntriesVeiled
namespace Go.Proofs.YtknldpaaikcedaaGreat
open Go.RowKit

/-- On the way: of the bytes that last there are so many. -/
structure SMid (f : Nat) (nv sv : Value) (lb : Option Nat) (w wv : World) (ao : Option Addr) (cp : Nat) (l : List UInt8) : Prop where
  box : wv.heap[f]? = some (.cells #[nv, .slice ao l.length cp, sv] 66 (0, 0))
  row : wv.ownsRow 0 5 1 (.slice ao l.length cp) l.length (bytesC l)
  lies : (ao.map Addr.block) = lb ∨ ∃ j, (ao.map Addr.block) = some j ∧ w.heap.size ≤ j
  touch : Touch (fun j => j = f ∨ lb = some j) w wv

theorem SMid.alloc {f : Nat} {nv sv : Value} {lb : Option Nat} {w wv : World} {ao : Option Addr} {cp : Nat} {l : List UInt8} (h : SMid f nv sv lb w wv ao cp l) (o : Obj) : SMid f nv sv lb w (wv.alloc o) ao cp l :=
  ⟨box_alloc h.box o, h.row.alloc o, h.lies, h.touch.alloc o⟩
theorem SMid.own {f : Nat} {nv sv : Value} {lb : Option Nat} {w wv : World} {ao : Option Addr} {cp : Nat} {l : List UInt8} (h : SMid f nv sv lb w wv ao cp l) (hf : f < w.heap.size) (hlf : lb ≠ some f) : (Value.slice ao l.length cp).ownBlock ≠ some f := by
  have hA : (Value.slice ao l.length cp).ownBlock = ao.map Addr.block := by cases ao <;> rfl
  rw [hA]
  rcases h.lies with e | ⟨j, e, hj⟩
  · rw [e]; exact hlf
  · rw [e]; intro e; cases e; omega
theorem settle_end {f : Nat} {nv sv : Value} {lb : Option Nat} {w wv : World} {ao : Option Addr} {cp : Nat} {l L : List UInt8} (h : SMid f nv sv lb w wv ao cp l) (hf : f < w.heap.size) (hlf : lb ≠ some f) (e : L = l) :
    ∃ ao cp, (wv.setCell ⟨f, 2, none⟩ (.slice none 0 0)).heap[f]? = some (.cells #[nv, .slice ao L.length cp, .slice none 0 0] 66 (0, 0)) ∧
      (wv.setCell ⟨f, 2, none⟩ (.slice none 0 0)).ownsRow 0 5 1 (.slice ao L.length cp) L.length (bytesC L) ∧ ((ao.map Addr.block) = lb ∨ ∃ j, (ao.map Addr.block) = some j ∧ w.heap.size ≤ j) ∧
      Touch (fun j => j = f ∨ lb = some j) w (wv.setCell ⟨f, 2, none⟩ (.slice none 0 0)) := by
  subst e
  exact ⟨ao, cp, box_set h.box 2 _, set_row h.row f 2 _ (h.own hf hlf), h.lies, h.touch.setCell _ _ fun _ => .inl rfl⟩
/-- Behind a round: the bytes are new. -/
theorem settle_mid {f : Nat} {nv sv : Value} {lb : Option Nat} {w wv w2 : World} {ao bo : Option Addr} {cp bp : Nat} {l L : List UInt8} (o : Obj) (h : SMid f nv sv lb w wv ao cp l) (hf : f < w.heap.size) (hlf : lb ≠ some f)
    (hG : (wv.alloc o).drew.grownBy w2 (Value.slice ao l.length cp).ownBlock) (hR : w2.ownsRow 0 5 1 (.slice bo L.length bp) L.length (bytesC L)) (hL : (bo.map Addr.block) = (Value.slice ao l.length cp).ownBlock ∨ (bo.map Addr.block) = some (wv.alloc o).drew.heap.size) :
    SMid f nv sv lb w (w2.setCell ⟨f, 1, none⟩ (.slice bo L.length bp)) bo bp L := by
  have hA : (Value.slice ao l.length cp).ownBlock = ao.map Addr.block := by cases ao <;> rfl
  have hB : (Value.slice bo L.length bp).ownBlock = bo.map Addr.block := by cases bo <;> rfl
  have hown := h.own hf hlf
  have hsz : w.heap.size ≤ (wv.alloc o).drew.heap.size := Nat.le_trans h.touch.size (by show wv.heap.size ≤ (wv.alloc o).heap.size; simp)
  have hl : (bo.map Addr.block) = lb ∨ ∃ j, (bo.map Addr.block) = some j ∧ w.heap.size ≤ j := by
    rcases hL with e | e
    · rw [e, hA]; exact h.lies
    · exact .inr ⟨_, e, hsz⟩
  have hbf : (bo.map Addr.block) ≠ some f := by
    rcases hl with e | ⟨j, e, hj⟩
    · rw [e]; exact hlf
    · rw [e]; intro e; cases e; omega
  refine ⟨box_set (grown_at hG (box_alloc h.box o) hown) 1 _, set_row hR f 1 _ (by rw [hB]; exact hbf), hl, (((h.touch.alloc o).grown (w2 := w2) ⟨hG.os, hG.tape, hG.output, hG.size, hG.block⟩ fun j e hj => ?_).setCell _ _ fun _ => .inl rfl)⟩
  rw [hA] at e
  rcases h.lies with e' | ⟨j', e', hj'⟩
  · exact .inr (e'.symm.trans e)
  · rw [e'] at e; cases e; omega

attribute [local go_sem ↓] Go.wp_at_zero Go.wp_at_succ
set_option maxRecDepth 100000 in
set_option maxHeartbeats 2000000 in
theorem settle_any (f : Nat) (nv : Value) (lo : Option Addr) (lc : Nat) (sv : Value) (l : List UInt8) (A : List FA) (u0 : Int) (w : World)
    (hbox : w.heap[f]? = some (.cells #[nv, .slice lo l.length lc, sv] 66 (0, 0))) (hl : w.ownsRow 0 5 1 (.slice lo l.length lc) l.length (bytesC l)) (hs : w.ownsRow 0 98 2 sv A.length (actsC A)) (hm : A.length < 1000000)
    (hu0 : -9223372036854775808 ≤ u0 ∧ u0 ≤ 9223372036854775807) (hheld : ∀ a ∈ A, a.held w) (hfit : fitAll l A) (hbig : l.length + unitsAll A ≤ 140737488355328)
    (hlf : (lo.map Addr.block) ≠ some f) (hsf : sv.ownBlock ≠ some f) (hls : ∀ j, (lo.map Addr.block) = some j → sv.ownBlock ≠ some j) (hcap : ∀ a ∈ A, a.cap ≠ f ∧ (lo.map Addr.block) ≠ some a.cap) :
    Calls Tryz.prog 66 #[.pointer (some ⟨f, 0, none⟩), .int .i64 u0] w fun e w' => e = .returned (.tuple #[]) ∧ ∃ ao cp, w'.heap[f]? = some (.cells #[nv, .slice ao (settleL l A u0).length cp, .slice none 0 0] 66 (0, 0)) ∧
      w'.ownsRow 0 5 1 (.slice ao (settleL l A u0).length cp) (settleL l A u0).length (bytesC (settleL l A u0)) ∧ ((ao.map Addr.block) = (lo.map Addr.block) ∨ ∃ j, (ao.map Addr.block) = some j ∧ w.heap.size ≤ j) ∧
      Touch (fun j => j = f ∨ (lo.map Addr.block) = some j) w w' := by
  have HB := hide hbox
  have HL := hide hl
  have HS := hide hs
  have HH := hide hheld
  have HF := hide hfit
  have HN1 := hide hlf
  have HN2 := hide hsf
  have HN3 := hide hls
  have HN4 := hide hcap
  have c2 : w.cell? ⟨f, 2, none⟩ = some sv := box_cell hbox 2 rfl
  obtain ⟨so, sc, rfl⟩ := row_slice hs
  clear hbox hl hs hheld hfit hlf hsf hls hcap
  go_enter Tryz.func66, Tryz.ntmps66
  go_wp2
  go_loopw [1, 12] (fun uv iv wv => ∃ (i : Nat) (u : Int) (ao : Option Addr) (cp : Nat) (L : List UInt8), uv = .int .i64 u ∧ iv = .int .i64 i ∧ i ≤ A.length ∧ (-9223372036854775808 ≤ u ∧ u ≤ 9223372036854775807) ∧
      Hid (settleL l A u0 = settleL L (A.drop i) u ∧ (u ≤ 0 ∨ fitAll L (A.drop i)) ∧ L.length + unitsAll (A.drop i) ≤ 140737488355328) ∧ Hid (SMid f nv (.slice so A.length sc) (lo.map Addr.block) w wv ao cp L)) (fun _ iv _ => A.length - (intOf iv).toNat)
  case atStart => exact ⟨0, u0, lo, lc, l, rfl, rfl, Nat.zero_le _, hu0, ⟨rfl, .inr HF.out, hbig⟩, ⟨HB.out, HL.out, .inl rfl, Touch.refl _ _⟩⟩
  case round =>
    obtain ⟨i, u, ao, cp, L, rfl, rfl, hi, hu, HI, HM⟩ := hrel
    have hfl := heap_lt HB.out
    clear c2
    by_cases hlt : i < A.length
    · have hdrop : Hid (A.drop i = A[i] :: A.drop (i + 1)) := List.drop_eq_getElem_cons hlt
      have hmem := List.getElem_mem hlt
      have hst : Hid (wr.ownsRow 0 98 2 (.slice so A.length sc) A.length (actsC A)) := HM.out.touch.row HS.out fun j hj e => by
        rcases e with e | e
        · exact HN2.out (e ▸ hj)
        · exact HN3.out j e hj
      obtain ⟨g, cap, hform, _, hgl⟩ := hst.out.form (by omega)
      obtain ⟨rfl, rfl⟩ : so = some ⟨g, 0, none⟩ ∧ sc = cap := by cases hform; exact ⟨rfl, rfl⟩
      clear hform
      have hat := actsC_at A i hlt
      have r0 : wr.cell? ⟨g, i * 2, none⟩ = some (.int .i64 A[i].units) := by have h := hst.out.cells rfl _ _ hat.1; rw [Addr.add_lit] at h; simpa using h
      have r1 : wr.cell? ⟨g, i * 2 + 1, none⟩ = some (.func (.func A[i].fn) #[] #[.pointer (some ⟨A[i].cap, 0, none⟩)]) := by have h := hst.out.cells rfl _ _ hat.2; rw [Addr.add_lit] at h; simpa using h
      have HFN := hide (fn_enters A[i])
      have hHe : Hid (A[i].held wr) := FA.held_of (HH.out _ hmem) (HM.out.touch.block _ (FA.held_lt (HH.out _ hmem)) fun e => by
        rcases e with e | e
        · exact (HN4.out _ hmem).1 e
        · exact (HN4.out _ hmem).2 e)
      have hun : Hid (A[i].units + L.length + unitsAll (A.drop (i + 1)) ≤ 140737488355328) := by
        obtain ⟨_, _, e3⟩ := HI.out
        rw [hdrop.out] at e3
        simp only [unitsAll] at e3
        show _ ≤ _
        omega
      have hi0 : (0 : Int) ≤ (i : Int) := by omega
      have hi1 : (i : Int) < (A.length : Int) := by omega
      by_cases hu1 : u ≤ 0
      · have k2 : ∀ o, (wr.alloc o).cell? ⟨f, 2, none⟩ = some (.slice (some ⟨g, 0, none⟩) A.length sc) := fun o => box_cell (HM.out.alloc o).box 2 rfl
        have kf : ∀ o, (wr.alloc o).frozen? ⟨f, 2, none⟩ = false := fun o => box_free (HM.out.alloc o).box 2
        clear hHe hun HFN
        go_wp2
        go_end0
        exact ⟨rfl, settle_end (HM.out.alloc _) hfl HN1.out (HI.out.1.trans (settleL_none _ _ _ hu1))⟩
      · have hfitI : Hid (A[i].fits L ∧ fitAll (A[i].run L A[i].units) (A.drop (i + 1))) := by
          obtain ⟨_, e2, _⟩ := HI.out
          rw [hdrop.out] at e2
          rcases e2 with e2 | e2
          · exact absurd e2 hu1
          · exact e2
        have k1 : ∀ o, (wr.alloc o).cell? ⟨f, 1, none⟩ = some (.slice ao L.length cp) := fun o => box_cell (HM.out.alloc o).box 1 rfl
        have kf : ∀ o, (wr.alloc o).frozen? ⟨f, 1, none⟩ = false := fun o => box_free (HM.out.alloc o).box 1
        have hfw : f ≠ wr.heap.size := Nat.ne_of_lt (heap_lt HM.out.box)
        have hown := hide (HM.out.own hfl HN1.out)
        have HD : ∀ s : Nat, s ≤ A[i].units → Hid (∀ w1, Below wr.heap.size wr w1 → Calls Tryz.prog A[i].fn #[.slice ao L.length cp, .int .i64 s, .pointer (some ⟨A[i].cap, 0, none⟩)] w1 fun e w2 => ∃ ao' cp', e = .returned (.slice ao' (A[i].run L s).length cp') ∧ w2.ownsRow 0 5 1 (.slice ao' (A[i].run L s).length cp') (A[i].run L s).length (bytesC (A[i].run L s)) ∧ w1.grownBy w2 (Value.slice ao L.length cp).ownBlock ∧ ((ao'.map Addr.block) = (Value.slice ao L.length cp).ownBlock ∨ (ao'.map Addr.block) = some w1.heap.size)) := fun s hs1 w1 hb =>
          do_any A[i] _ L s w1 (FA.held_of hHe.out (hb.block _ (FA.held_lt hHe.out))) hfitI.out.1 hs1 (by have := hun.out; omega) (below_row hb HM.out.row)
        have hnext : ∀ s : Nat, min u (A[i].units : Int) = s → Hid (settleL l A u0 = settleL (A[i].run L s) (A.drop (i + 1)) (u - s) ∧ (u - s ≤ 0 ∨ fitAll (A[i].run L s) (A.drop (i + 1))) ∧ (A[i].run L s).length + unitsAll (A.drop (i + 1)) ≤ 140737488355328) := by
          intro s hs
          obtain ⟨e1, _, _⟩ := HI.out
          have hb := hun.out
          have hl := run_length A[i] L s (by omega)
          refine ⟨?_, ?_, by omega⟩
          · rw [e1, hdrop.out, settleL_step _ _ _ _ hu1, hs]
            rfl
          · by_cases e : s = A[i].units
            · right; rw [e]; exact hfitI.out.2
            · left; omega
        clear hun hHe hat hst HI
        obtain ⟨kk, hkk⟩ : ∃ kk, A[i].fn = kk := ⟨_, rfl⟩
        obtain ⟨cc, hcc⟩ : ∃ cc, A[i].cap = cc := ⟨_, rfl⟩
        obtain ⟨uu, huu⟩ : ∃ uu, A[i].units = uu := ⟨_, rfl⟩
        rw [hkk] at HD HFN r1
        rw [hcc] at HD r1
        rw [huu] at r0 HD hnext
        clear hkk hcc huu
        have hfn := HFN.out
        by_cases hmin : (uu : Int) < u
        · have HD' := HD uu (Nat.le_refl _)
          have HX := hnext uu (by omega)
          clear HD hnext
          go_wp2
          go_region_with (go_at_fn kk; refine (HD'.out _ (((Below.refl _ wr).alloc (Nat.le_refl _) _).drew)).mono ?_; rintro e w2 ⟨bo, bp, rfl, hrow, hgrow, hloc⟩; have d1 : w2.cell? ⟨f, 1, none⟩ = some (.slice ao L.length cp) := box_cell (grown_at hgrow (HM.out.alloc _).box hown.out) 1 rfl; have d2 : w2.frozen? ⟨f, 1, none⟩ = false := box_free (grown_at hgrow (HM.out.alloc _).box hown.out) 1)
          all_goals
            go_wp2
            go_roundw
            case rel => exact ⟨i + 1, u - uu, bo, bp, _, by rfl, by go_num, by omega, by omega, HX.out, settle_mid _ HM.out hfl HN1.out hgrow hrow hloc⟩
            case measure => simp [intOf]; omega
        · obtain ⟨s, rfl⟩ : ∃ s : Nat, u = s := ⟨u.toNat, by omega⟩
          have HD' := HD s (by omega)
          have HX := hnext s (by omega)
          clear HD hnext
          go_wp2
          go_region_with (go_at_fn kk; refine (HD'.out _ (((Below.refl _ wr).alloc (Nat.le_refl _) _).drew)).mono ?_; rintro e w2 ⟨bo, bp, rfl, hrow, hgrow, hloc⟩; have d1 : w2.cell? ⟨f, 1, none⟩ = some (.slice ao L.length cp) := box_cell (grown_at hgrow (HM.out.alloc _).box hown.out) 1 rfl; have d2 : w2.frozen? ⟨f, 1, none⟩ = false := box_free (grown_at hgrow (HM.out.alloc _).box hown.out) 1)
          all_goals
            go_wp2
            go_roundw
            case rel => exact ⟨i + 1, (s : Int) - s, bo, bp, _, by simp, by go_num, by omega, by omega, HX.out, settle_mid _ HM.out hfl HN1.out hgrow hrow hloc⟩
            case measure => simp [intOf]; omega
    · have k2 : wr.cell? ⟨f, 2, none⟩ = some (.slice so A.length sc) := box_cell HM.out.box 2 rfl
      have kf := box_free HM.out.box 2
      go_wp2
      go_end0
      have e : A.drop i = [] := List.drop_eq_nil_of_le (by omega)
      obtain ⟨e1, _, _⟩ := HI.out
      rw [e] at e1
      exact ⟨rfl, settle_end HM.out hfl HN1.out e1⟩

end Go.Proofs.YtknldpaaikcedaaGreat
