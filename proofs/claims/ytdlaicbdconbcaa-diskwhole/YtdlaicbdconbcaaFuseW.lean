/-
  DiskFuse as it runs.
-/
import Derived.Test.YtdlaicbdconbcaaTwo
import Derived.Test.YtdlaicbdconbcaaRoomW
namespace Go.Proofs.Ytdlaicbdconbcaa
open Go.RowKit Go.Maps Go.Sort

/-- On the way: so many deeds were seen, so many done, by both. -/
structure FInv (w : World) (z : Int) (wv : World) (ba : Nat) (Ha : DG) (bb : Nat) (Hb : DG) (i d : Nat) : Prop where
  two : Two w wv ba Ha bb Hb
  roomA : Ha.room = 1000000
  roomB : Hb.room = 1000000
  qA : Ha.q = 1000
  qB : Hb.q = 1000
  nA : Ha.n ≤ i
  nB : Hb.n ≤ i
  fuseA : Ha.fuse = z - d
  le : (d : Int) ≤ z
  dn : Ha.down = true → (d : Int) = z
  fuseB : Hb.fuse = -1
  downB : Hb.down = false
  injA : Inj Ha.D
  injB : Inj Hb.D
  same : cont Ha = cont Hb
theorem refuse_small (p : Int) (o : Dd) (G : DG) : refuse p o G ≠ 9 := by
  unfold refuse rfCreate rfAppend rfSync rfRename rfTruncate
  repeat' split
  all_goals decide
/-- The first disk did a deed, the other one not yet. -/
structure FHalf (w : World) (z : Int) (wv : World) (ba : Nat) (Ha : DG) (bb : Nat) (Hb : DG) (i d : Nat) (o : Dd) : Prop where
  two : Two w wv ba Ha bb Hb
  roomA : Ha.room = 1000000
  roomB : Hb.room = 1000000
  qA : Ha.q = 1000
  qB : Hb.q = 1000
  nA : Ha.n ≤ i + 1
  nB : Hb.n ≤ i
  fuseA : Ha.fuse = z - (d + 1 : Nat)
  le : ((d + 1 : Nat) : Int) ≤ z
  downA : Ha.down = false
  fuseB : Hb.fuse = -1
  downB : Hb.down = false
  injA : Inj Ha.D
  injB : Inj Hb.D
  same : cont Ha = vrun (pickZ o.kind 7) o (cont Hb)
  rf : refuse (pickZ o.kind 7) o Hb = 0
theorem FInv.past {w wv wv' : World} {z : Int} {ba bb i d : Nat} {Ha Hb : DG} (h : FInv w z wv ba Ha bb Hb i d) (hb : RowKit.Below wv.heap.size wv wv') : FInv w z wv' ba Ha bb Hb i d :=
  ⟨h.two.past hb, h.roomA, h.roomB, h.qA, h.qB, h.nA, h.nB, h.fuseA, h.le, h.dn, h.fuseB, h.downB, h.injA, h.injB, h.same⟩
theorem FHalf.past {w wv wv' : World} {z : Int} {ba bb i d : Nat} {Ha Hb : DG} {o : Dd} (h : FHalf w z wv ba Ha bb Hb i d o) (hb : RowKit.Below wv.heap.size wv wv') : FHalf w z wv' ba Ha bb Hb i d o :=
  ⟨h.two.past hb, h.roomA, h.roomB, h.qA, h.qB, h.nA, h.nB, h.fuseA, h.le, h.downA, h.fuseB, h.downB, h.injA, h.injB, h.same, h.rf⟩
theorem fuse_cases {w w1 w2 : World} {z : Int} {ba bb i d : Nat} {Ha Hb Ha' : DG} {o : Dd} {er : Int} (h : FInv w z w1 ba Ha bb Hb i d) (s : Step w1 ba Ha w2 Ha') (rs : OneR o Ha er Ha') :
    (Ha.down = true ∧ er = 9 ∧ FInv w z w2 ba Ha' bb Hb (i + 1) d) ∨ (Ha.down = false ∧ er ≠ 0 ∧ er ≠ 9 ∧ FInv w z w2 ba Ha' bb Hb (i + 1) d) ∨
    (Ha.down = false ∧ er = 9 ∧ ¬ (d : Int) < z ∧ FInv w z w2 ba Ha' bb Hb (i + 1) d) ∨ (Ha.down = false ∧ er = 0 ∧ FHalf w z w2 ba Ha' bb Hb i d o) := by
  have ht := h.two.stepA s
  have nA := h.nA
  have nB := h.nB
  have hz := h.fuseA
  have hle := h.le
  rcases rs with ⟨e1, e2, rfl⟩ | ⟨e1, e2, rfl, rfl⟩ | ⟨e1, e2, e3, e4, rfl⟩ | ⟨e1, e2, e3, e4, dd⟩
  · exact .inl ⟨e1, e2, ht, h.roomA, h.roomB, h.qA, h.qB, by omega, by omega, h.fuseA, h.le, h.dn, h.fuseB, h.downB, h.injA, h.injB, h.same⟩
  · exact .inr (.inl ⟨e1, e2, refuse_small _ _ _, ht, h.roomA, h.roomB, h.qA, h.qB, by omega, by omega, h.fuseA, h.le, h.dn, h.fuseB, h.downB, h.injA, h.injB, h.same⟩)
  · have hd : (d : Int) = z := by omega
    exact .inr (.inr (.inl ⟨e1, e4, by omega, ht, h.roomA, h.roomB, h.qA, h.qB, (by show Ha.n ≤ i + 1; omega), by omega, h.fuseA, h.le, fun _ => hd, h.fuseB, h.downB, h.injA, h.injB, h.same⟩))
  · have fr := does_frame dd
    obtain ⟨wt, hrt⟩ := h.two.ra.tickRep
    have n1 := fr.n1
    have n2 : Ha.tick.n = Ha.n := rfl
    have hf : Ha'.fuse = z - (d + 1 : Nat) := by
      rw [fr.fuse]
      show (if 0 < Ha.fuse then Ha.fuse - 1 else Ha.fuse) = _
      rw [if_pos (by omega)]
      omega
    exact .inr (.inr (.inr ⟨e1, e4, ht, fr.room.trans h.roomA, h.roomB, fr.q.trans h.qA, h.qB, by omega, h.nB, hf, by omega, fr.down.trans e1, h.fuseB, h.downB, does_inj hrt h.injA dd, h.injB, by rw [does_cont hrt h.injA dd, ← h.same]; rfl,
      by rw [← refuse_same h.two.ra h.two.rb h.same (h.roomA.trans h.roomB.symm)]; exact e2⟩))
theorem fuse_done {w w1 w2 : World} {z : Int} {ba bb i d : Nat} {Ha Hb Hb' : DG} {o : Dd} {er : Int} (h : FHalf w z w1 ba Ha bb Hb i d o) (s : Step w1 bb Hb w2 Hb') (rs : OneR o Hb er Hb') : er = 0 ∧ FInv w z w2 ba Ha bb Hb' (i + 1) (d + 1) := by
  have ht := h.two.stepB s
  have nB := h.nB
  rcases rs with ⟨e1, _⟩ | ⟨_, e2, _⟩ | ⟨_, _, e3, _⟩ | ⟨e1, e2, e3, e4, dd⟩
  · rw [h.downB] at e1; cases e1
  · exact absurd h.rf e2
  · rw [h.fuseB] at e3; cases e3
  · have fr := does_frame dd
    obtain ⟨wt, hrt⟩ := h.two.rb.tickRep
    have n1 := fr.n1
    have n2 : Hb.tick.n = Hb.n := rfl
    have hf : Hb'.fuse = -1 := by
      rw [fr.fuse]
      show (if 0 < Hb.fuse then Hb.fuse - 1 else Hb.fuse) = _
      rw [h.fuseB]
      rfl
    exact ⟨e4, ht, h.roomA, fr.room.trans h.roomB, h.qA, fr.q.trans h.qB, h.nA, by omega, h.fuseA, h.le, (fun e => by rw [h.downA] at e; cases e), hf, fr.down.trans h.downB, h.injA, does_inj hrt h.injB dd, by rw [h.same, does_cont hrt h.injB dd]; rfl⟩
theorem cut_small (s : ByteArray) : (s.extract 0 (min (s.size : Int) 1000).toNat).size ≤ 1000 := by
  rw [ByteArray.size_extract]
  omega

/-- Sixty numbers, as they are made, and as they are put. -/
def zeros60 : Array Value := Array.replicate 60 (.int .i64 0)
theorem makeKeeps (w : World) : (Instr.makeSlice 22 (.int .i64 60) (.int .i64 60)).run Try.prog w = .ok (.slice (some ⟨w.heap.size, 0, none⟩) 60 60) (w.alloc (.cells zeros60 3)) := by kernel_rfl
structure KInv (w wv : World) (k : Nat) (A : Array Value) : Prop where
  size : A.size = 60
  put : ∀ j, j < k → A[j]? = some (.int .i64 1000000)
  rest : ∀ j, k ≤ j → j < 60 → A[j]? = some (.int .i64 0)
  box : wv.heap[w.heap.size]? = some (.cells A 3 (0, 0))
  below : RowKit.Below w.heap.size w wv
theorem KInv.start (w : World) : KInv w (w.alloc (.cells zeros60 3)) 0 zeros60 :=
  ⟨by simp [zeros60], fun j hj => by omega, fun j _ hj => by simp [zeros60, hj], heap_alloc_new w _, (Below.refl _ w).alloc (Nat.le_refl _) _⟩
theorem KInv.next {w wv : World} {k : Nat} {A : Array Value} (h : KInv w wv k A) (hk : k < 60) : KInv w (wv.setCell ⟨w.heap.size, k, none⟩ (.int .i64 1000000)) (k + 1) (A.setIfInBounds k (.int .i64 1000000)) := by
  have hs := h.size
  refine ⟨by simp [hs], fun j hj => ?_, fun j h1 h2 => ?_, box_set h.box k _, h.below.setCell (Nat.le_refl _) _⟩
  · rw [Array.getElem?_setIfInBounds]
    by_cases e : k = j
    · subst e
      rw [if_pos rfl, if_pos (by omega)]
    · rw [if_neg e]
      exact h.put j (by omega)
  · rw [Array.getElem?_setIfInBounds, if_neg (by omega)]
    exact h.rest j (by omega) h2
theorem KInv.nums {w wv : World} {A : Array Value} (h : KInv w wv 60 A) : NumsAt wv (some ⟨w.heap.size, 0, none⟩) (List.replicate 60 1000000) := fun i hi => by
  have hi' : i < 60 := by simpa using hi
  have := heap_lt h.box
  refine ⟨_, _, rfl, this, ?_⟩
  rw [List.getElem_replicate, Nat.zero_add]
  exact box_cell h.box i (h.put i hi')

set_option maxRecDepth 100000 in
set_option maxHeartbeats 8000000 in
theorem fuse_walk (fuse : Int) (ao : Option Addr) (cp : Nat) (l : List Dd) (w : World) (hfu : -9223372036854775808 ≤ fuse ∧ fuse ≤ 9223372036854775807) (hcm : Deeds w ao l) :
    Calls Try.prog 6 #[.int .i64 fuse, .slice ao l.length cp] w fun e w' => e = .returned (.bool true) ∧ RowKit.Below w.heap.size w w' := by
  have HE := hide (examples_any w)
  have HCM := hide hcm
  have hlen := hcm.len
  clear hcm
  go_enter Try.func6, Try.ntmps6
  go_wp2_with fail
  refine HE.out.mono ?_
  rintro e w0 ⟨rfl, be⟩
  have BE := hide be
  have HNew := hide (new_ok 1000000 w0 (by omega) 1000 (by omega))
  clear be HE
  go_wp2_with fail
  refine HNew.out.mono ?_
  rintro e w1 ⟨ba, Ga, rfl, r0, fr, ow, b0⟩
  have HNew2 := hide (new_ok 1000000 w1 (by omega) 1000 (by omega))
  have S1 : Hid (RowKit.Below w.heap.size w w1 ∧ (∀ j, Ga.own j → w.heap.size ≤ j)) := ⟨BE.out.trans (b0.mono BE.out.size), fun j e => Nat.le_trans BE.out.size (ow j e)⟩
  obtain ⟨ia, ka⟩ := fr.is
  have RA := hide r0
  have IA := hide ia
  clear b0 ow fr HNew r0 ia ka
  go_wp2_with fail
  refine HNew2.out.mono ?_
  rintro e w2 ⟨bb, Gb, rfl, r0, fr, ow, b0⟩
  obtain ⟨ib, kb⟩ := fr.is
  have IB := hide ib
  have T0 : Hid (Two w w2 ba Ga bb Gb) := ⟨RA.out.below b0, r0, fun j e => Classical.byContradiction fun e1 => by
    have h1 := ow j e1
    have h2 := RA.out.lt j e
    omega, S1.out.1.trans (b0.mono S1.out.1.size), S1.out.2, fun j e => Nat.le_trans S1.out.1.size (ow j e)⟩
  have HP := hide (pick_any fuse 40 w2 hfu (by omega))
  have hz := pickZ_range fuse 40 (by omega)
  generalize hzz : pickZ fuse 40 = z at HP hz
  have HF := hide (fuse_any T0.out.ra z (by omega))
  clear b0 ow fr HNew2 r0 ib kb hzz RA S1
  go_wp2_with fail
  refine HP.out.mono ?_
  rintro e wp ⟨rfl, hw⟩
  obtain rfl := hw.symm
  clear HP
  go_wp2_with fail
  refine HF.out.mono ?_
  rintro e w3 ⟨rfl, s3⟩
  have T1 := hide (T0.out.stepA s3)
  have IA1 : Hid (Is { Ga with fuse := z } 1000000 z false (.map []) (.map []) [] 0 1000) := ⟨IA.out.room, rfl, IA.out.down, IA.out.D, IA.out.LD, IA.out.X, IA.out.n, IA.out.q⟩
  clear s3 HF IA T0
  generalize ({ Ga with fuse := z } : DG) = Ga1 at T1 IA1
  go_wp2
  go_loopw [10, 11] (fun dv iv wv => ∃ (i d : Nat) (Ha Hb : DG), dv = .int .i64 d ∧ iv = .int .i64 i ∧ i ≤ 50 ∧ Hid (FInv w z wv ba Ha bb Hb i d)) (fun _ iv _ => 50 - (intOf iv).toNat)
  case atStart => exact ⟨0, 0, Ga1, Gb, rfl, rfl, Nat.zero_le _, T1.out, IA1.out.room, IB.out.room, IA1.out.q, IB.out.q, by rw [IA1.out.n]; omega, by rw [IB.out.n]; omega, by rw [IA1.out.fuse]; simp, by omega, (by rw [IA1.out.down]; intro e; cases e), IB.out.fuse, IB.out.down, by rw [IA1.out.D]; exact inj_empty, by rw [IB.out.D]; exact inj_empty, by funext k; rw [cont_nil (by rw [IA1.out.D]; rfl), cont_nil (by rw [IB.out.D]; rfl)]⟩
  case round =>
    obtain ⟨i, d, Ha, Hb, rfl, rfl, hi, HI⟩ := hrel
    by_cases hlt : i < l.length ∧ i < 50
    · obtain ⟨hl1, hl2⟩ := hlt
      have hi0 : (0 : Int) ≤ (i : Int) := by omega
      have hi1 : (i : Int) < (l.length : Int) := by omega
      have hi2 : (i : Int) < 50 := by omega
      have hok := HCM.out.ok l[i] (List.getElem_mem hl1)
      have hbs := hok.b
      unfold maxLen at hbs
      have HOK := hide hok
      obtain ⟨kb, off, rfl, hkb, d0, d1, d2, d3, d4⟩ := HCM.out.all.below HI.out.two.below i hl1
      clear hok
      generalize l[i] = o at *
      have hc := cut_small o.b
      generalize hcc : o.b.extract 0 (min (o.b.size : Int) 1000).toNat = c at hc
      have HC := hide hcc
      clear hcc
      go_upto_region 14 with fail
      rw [HC.out]
      clear d0 d1 d2 d3 d4 HC
      have hb1 : RowKit.Below wr.heap.size wr (wr.alloc (Obj.cells #[.int .i64 o.kind, .string o.a, .string c, .int .i64 o.n, .slice o.ko o.kl o.kc] 41)) := (Below.refl _ wr).alloc (Nat.le_refl _) _
      have p0 := heap_alloc_new wr (Obj.cells #[.int .i64 o.kind, .string o.a, .string c, .int .i64 o.n, .slice o.ko o.kl o.kc] 41)
      have F1 := hide (HI.out.past hb1)
      have NO : Hid (¬ Ha.own wr.heap.size) := fun e => e (fresh_role HI.out.two.ra _ (Nat.le_refl _))
      generalize wr.alloc (Obj.cells #[.int .i64 o.kind, .string o.a, .string c, .int .i64 o.n, .slice o.ko o.kl o.kc] 41) = W1 at *
      have c0 : W1.cell? ⟨wr.heap.size, 0, none⟩ = some (.int .i64 o.kind) := box_cell p0 0 rfl
      have c1 : W1.cell? ⟨wr.heap.size, 1, none⟩ = some (.string o.a) := box_cell p0 1 rfl
      have c2 : W1.cell? ⟨wr.heap.size, 2, none⟩ = some (.string c) := box_cell p0 2 rfl
      have c3 : W1.cell? ⟨wr.heap.size, 3, none⟩ = some (.int .i64 o.n) := box_cell p0 3 rfl
      have c4 : W1.cell? ⟨wr.heap.size, 4, none⟩ = some (.slice o.ko o.kl o.kc) := box_cell p0 4 rfl
      have hcm : c.size ≤ maxLen := by unfold maxLen; omega
      have HO1 := hide (one_any F1.out.two.ra (by have := F1.out.nA; omega) o.kind o.a c (.inl (by rw [F1.out.qA]; exact hc)) (by rw [F1.out.qA]; omega) o.n o.ko o.kl o.kc HOK.out.kind HOK.out.a hcm)
      have HO2 : Hid (∀ wx, Rep wx bb Hb → Calls Try.prog 23 #[.pointer (some ⟨bb, 0, none⟩), .agg #[.int .i64 o.kind, .string o.a, .string c, .int .i64 o.n, .slice o.ko o.kl o.kc]] wx fun e w' => ∃ er G', e = .returned (.int .i64 er) ∧ Step wx bb Hb w' G' ∧ OneR ⟨o.kind, o.a, c, o.n, o.ko, o.kl, o.kc⟩ Hb er G') := fun wx hx => one_any hx (by have := F1.out.nB; omega) o.kind o.a c (.inl (by rw [F1.out.qB]; exact hc)) (by rw [F1.out.qB]; omega) o.n o.ko o.kl o.kc HOK.out.kind HOK.out.a hcm
      have hdz : (d : Int) ≤ z := F1.out.le
      clear hb1 p0 hcm hbs
      cases hdn : Ha.down with
      | true =>
        have HDN := hide (down_any F1.out.two.ra)
        rw [hdn] at HDN
        go_wp2_with fail
        refine HDN.out.mono ?_
        rintro e wd ⟨rfl, hw⟩
        obtain rfl := hw.symm
        clear HDN
        go_wp2_with fail
        refine HO1.out.mono ?_
        rintro e w5 ⟨er, Ha2, rfl, s5, rs⟩
        have C0 := hide (s5.touch.cell ⟨wr.heap.size, 0, none⟩ c0 NO.out)
        have C1 := hide (s5.touch.cell ⟨wr.heap.size, 1, none⟩ c1 NO.out)
        have C2 := hide (s5.touch.cell ⟨wr.heap.size, 2, none⟩ c2 NO.out)
        have C3 := hide (s5.touch.cell ⟨wr.heap.size, 3, none⟩ c3 NO.out)
        have C4 := hide (s5.touch.cell ⟨wr.heap.size, 4, none⟩ c4 NO.out)
        have fc := fuse_cases F1.out s5 rs
        rw [hdn] at fc
        clear s5 rs HO1 c0 c1 c2 c3 c4
        obtain ⟨_, rfl, f2⟩ | ⟨e, _⟩ | ⟨e, _⟩ | ⟨e, _⟩ := fc
        · have F2 := hide f2
          clear f2 HO2
          go_wp2
          go_roundw
          case rel => exact ⟨i + 1, d, Ha2, Hb, rfl, by go_num, by omega, F2.out⟩
          case measure => simp [intOf]; omega
        · cases e
        · cases e
        · cases e
      | false =>
        have HDN := hide (down_any F1.out.two.ra)
        rw [hdn] at HDN
        go_wp2_with fail
        refine HDN.out.mono ?_
        rintro e wd ⟨rfl, hw⟩
        obtain rfl := hw.symm
        clear HDN
        go_wp2_with fail
        refine HO1.out.mono ?_
        rintro e w5 ⟨er, Ha2, rfl, s5, rs⟩
        have C0 := hide (s5.touch.cell ⟨wr.heap.size, 0, none⟩ c0 NO.out)
        have C1 := hide (s5.touch.cell ⟨wr.heap.size, 1, none⟩ c1 NO.out)
        have C2 := hide (s5.touch.cell ⟨wr.heap.size, 2, none⟩ c2 NO.out)
        have C3 := hide (s5.touch.cell ⟨wr.heap.size, 3, none⟩ c3 NO.out)
        have C4 := hide (s5.touch.cell ⟨wr.heap.size, 4, none⟩ c4 NO.out)
        have fc := fuse_cases F1.out s5 rs
        rw [hdn] at fc
        clear s5 rs HO1 c0 c1 c2 c3 c4
        obtain ⟨e, _⟩ | ⟨_, h0, h9, f2⟩ | ⟨_, rfl, hdz2, f2⟩ | ⟨_, rfl, f2⟩ := fc
        · cases e
        · have F2 := hide f2
          clear f2 HO2
          go_wp2
          go_roundw
          case rel => exact ⟨i + 1, d, Ha2, Hb, rfl, by go_num, by omega, F2.out⟩
          case measure => simp [intOf]; omega
        · have F2 := hide f2
          clear f2 HO2
          go_wp2
          go_roundw
          case rel => exact ⟨i + 1, d, Ha2, Hb, rfl, by go_num, by omega, F2.out⟩
          case measure => simp [intOf]; omega
        · have F2 := hide f2
          have c0 := C0.out
          have c1 := C1.out
          have c2 := C2.out
          have c3 := C3.out
          have c4 := C4.out
          clear f2 C0 C1 C2 C3 C4
          go_wp2_with fail
          refine (HO2.out _ F2.out.two.rb).mono ?_
          rintro e w6 ⟨er, Hb2, rfl, s6, rs⟩
          obtain ⟨rfl, f3⟩ := fuse_done F2.out s6 rs
          have F3 := hide f3
          clear f3 s6 rs HO2 c0 c1 c2 c3 c4
          go_wp2
          go_roundw
          case rel => exact ⟨i + 1, d + 1, Ha2, Hb2, by go_num, by go_num, by omega, F3.out⟩
          case measure => simp [intOf]; omega
    · have hdz : (d : Int) ≤ z := HI.out.le
      have HDN := hide (down_any HI.out.two.ra)
      by_cases hl1 : i < l.length
      · have hi1 : (i : Int) < (l.length : Int) := by omega
        have hi2 : ¬ (i : Int) < 50 := by omega
        cases hdn : Ha.down with
        | true =>
          obtain rfl := HI.out.dn hdn
          rw [hdn] at HDN
          go_wp2_with fail
          refine HDN.out.mono ?_
          rintro e wd ⟨rfl, hw⟩
          obtain rfl := hw.symm
          clear HDN hw
          generalize wr = wq at *
          have hmk := makeKeeps
          go_wp2
          clear hmk
          go_loopw [16] (fun kv wv => ∃ (k : Nat) (A : Array Value), kv = .int .i64 k ∧ k ≤ 60 ∧ Hid (KInv wq wv k A)) (fun kv _ => 60 - (intOf kv).toNat)
          case atStart => exact ⟨0, zeros60, rfl, Nat.zero_le _, KInv.start wq⟩
          case round =>
            obtain ⟨k, A, rfl, hk, HK⟩ := hrel
            by_cases hk60 : k < 60
            · have hk0 : (0 : Int) ≤ (k : Int) := by omega
              have hk1 : (k : Int) < 60 := by omega
              have c0 : wr.cell? ⟨wq.heap.size, k, none⟩ = some (.int .i64 0) := box_cell HK.out.box k (HK.out.rest k (Nat.le_refl _) hk60)
              have f0 := box_free HK.out.box k
              go_wp2
              go_roundw
              case rel => exact ⟨k + 1, _, by go_num, by omega, HK.out.next hk60⟩
              case measure => simp [intOf]; omega
            · have hk1 : ¬ (k : Int) < 60 := by omega
              obtain rfl : k = 60 := by omega
              have hc := crash_any (HI.out.two.past HK.out.below).ra (by have := HI.out.nA; omega) 1000 (by omega) (some ⟨wq.heap.size, 0, none⟩) 60 (List.replicate 60 1000000) (by intro u hu; obtain rfl := (List.mem_replicate.1 hu).2; omega) (by simp) HK.out.nums (fun _ kb off e => by cases e; exact fresh_role HI.out.two.ra _ (Nat.le_refl _))
              rw [List.length_replicate] at hc
              have HC := hide hc
              have T5 := hide (HI.out.two.past HK.out.below)
              clear hc HK
              go_wp2_with fail
              refine HC.out.mono ?_
              rintro e w6 ⟨rfl, Gc, s6, cr⟩
              have T6 := hide (T5.out.stepA s6)
              have hct := (crash_keeps T5.out.ra (by have := HI.out.nA; omega) HI.out.qA cr).trans HI.out.same
              have HCT := hide hct
              have hdc : Gc.down = false := cr.down
              have HL1 := hide (list_up T6.out.ra (by rw [cr.n]; have := HI.out.nA; omega) hdc)
              have HNM := hide (names_same T6.out.ra T6.out.rb hct)
              have hss : (dnames Gc.D).length < 1000 := by
                rw [names_length T6.out.ra]
                have h1 := T6.out.ra.now.size_le
                have h2 := HI.out.nA
                rw [cr.n] at h1
                omega
              have HSH := hide (names_short T6.out.ra)
              clear s6 cr hct HC T5
              go_wp2_with fail
              refine HL1.out.mono ?_
              rintro e w7 ⟨lo, lc, rfl, row1, b7⟩
              have T7 := hide (T6.out.past b7)
              have ROW1 := hide row1
              have hl2 := list_up T7.out.rb (by have := HI.out.nB; omega) HI.out.downB
              rw [← HNM.out] at hl2
              have HL2 := hide hl2
              clear hl2 row1 b7 HL1
              go_wp2_with fail
              refine HL2.out.mono ?_
              rintro e w8 ⟨mo, mc, rfl, row2, b8⟩
              have T8 := hide (T7.out.past b8)
              have TA1 := hide (texts_row rfl (below_row b8 ROW1.out))
              have TA2 := hide (texts_row rfl row2)
              have HTX := hide (texts_same lo mo lc mc (dnames Gc.D) w8 (by omega) TA1.out TA2.out)
              clear row2 b8 HL2 ROW1
              generalize dnames Gc.D = ss at *
              go_wp2_with fail
              refine HTX.out.mono ?_
              rintro e w9 ⟨rfl, b9⟩
              have T9 := hide (T8.out.past b9)
              have TA : Hid (TextsAt w9 lo ss) := fun j hj => by
                obtain ⟨g, h1, h2⟩ := TA1.out j hj
                exact ⟨g, h1, (b9.cell (p := ⟨g, j, none⟩) (World.block_lt_of_cell? _ _ h2)).trans h2⟩
              clear b9 HTX TA1 TA2
              go_wp2
              go_loopw [22] (fun kv wv => ∃ k : Nat, kv = .int .i64 k ∧ k ≤ ss.length ∧ wv = w9) (fun kv _ => ss.length - (intOf kv).toNat)
              case atStart => exact ⟨0, rfl, Nat.zero_le _, rfl⟩
              case round =>
                obtain ⟨k, rfl, hk, hw9⟩ := hrel
                obtain rfl := hw9.symm
                by_cases hks : k < ss.length
                · obtain ⟨g, rfl, c1⟩ := TA.out k hks
                  have hsh := (HSH.out ss[k] (List.getElem_mem hks)).1
                  have hsz : (⟨ss[k].toArray⟩ : ByteArray).size ≤ maxLen := by show ss[k].toArray.size ≤ _; rw [List.size_toArray]; unfold maxLen; omega
                  generalize (⟨ss[k].toArray⟩ : ByteArray) = nm at c1 hsz
                  have hk0 : (0 : Int) ≤ (k : Int) := by omega
                  have hk1 : (k : Int) < (ss.length : Int) := by omega
                  have h1 := read_any T9.out.ra nm hsz
                  have h2 := read_any T9.out.rb nm hsz
                  rw [read_cont T9.out.ra hdc, HCT.out] at h1
                  rw [read_cont T9.out.rb HI.out.downB] at h2
                  generalize (⟨((cont Hb nm.data.toList).getD []).toArray⟩ : ByteArray) = tx at h1 h2
                  generalize readE Gc nm = ea at h1
                  generalize readE Hb nm = eb at h2
                  have H1 := hide h1
                  have H2 := hide h2
                  clear h1 h2 hsz hsh
                  go_wp2_with fail
                  refine H1.out.mono ?_
                  rintro e wx ⟨rfl, hw⟩
                  obtain rfl := hw.symm
                  clear H1
                  go_wp2_with fail
                  refine H2.out.mono ?_
                  rintro e wx ⟨rfl, hw⟩
                  obtain rfl := hw.symm
                  clear H2
                  go_wp2
                  go_roundw
                  case rel => exact ⟨k + 1, by go_num, by omega, by first | trivial | rfl⟩
                  case measure => simp [intOf]; omega
                · have hk1 : ¬ (k : Int) < (ss.length : Int) := by omega
                  go_wp2
                  go_ret
                  exact ⟨rfl, T9.out.below⟩
        | false =>
          rw [hdn] at HDN
          go_wp2_with fail
          refine HDN.out.mono ?_
          rintro e wd ⟨rfl, hw⟩
          obtain rfl := hw.symm
          clear HDN hw
          generalize wr = wq at *
          have hmk := makeKeeps
          go_wp2
          clear hmk
          go_loopw [16] (fun kv wv => ∃ (k : Nat) (A : Array Value), kv = .int .i64 k ∧ k ≤ 60 ∧ Hid (KInv wq wv k A)) (fun kv _ => 60 - (intOf kv).toNat)
          case atStart => exact ⟨0, zeros60, rfl, Nat.zero_le _, KInv.start wq⟩
          case round =>
            obtain ⟨k, A, rfl, hk, HK⟩ := hrel
            by_cases hk60 : k < 60
            · have hk0 : (0 : Int) ≤ (k : Int) := by omega
              have hk1 : (k : Int) < 60 := by omega
              have c0 : wr.cell? ⟨wq.heap.size, k, none⟩ = some (.int .i64 0) := box_cell HK.out.box k (HK.out.rest k (Nat.le_refl _) hk60)
              have f0 := box_free HK.out.box k
              go_wp2
              go_roundw
              case rel => exact ⟨k + 1, _, by go_num, by omega, HK.out.next hk60⟩
              case measure => simp [intOf]; omega
            · have hk1 : ¬ (k : Int) < 60 := by omega
              obtain rfl : k = 60 := by omega
              have hc := crash_any (HI.out.two.past HK.out.below).ra (by have := HI.out.nA; omega) 1000 (by omega) (some ⟨wq.heap.size, 0, none⟩) 60 (List.replicate 60 1000000) (by intro u hu; obtain rfl := (List.mem_replicate.1 hu).2; omega) (by simp) HK.out.nums (fun _ kb off e => by cases e; exact fresh_role HI.out.two.ra _ (Nat.le_refl _))
              rw [List.length_replicate] at hc
              have HC := hide hc
              have T5 := hide (HI.out.two.past HK.out.below)
              clear hc HK
              go_wp2_with fail
              refine HC.out.mono ?_
              rintro e w6 ⟨rfl, Gc, s6, cr⟩
              have T6 := hide (T5.out.stepA s6)
              have hct := (crash_keeps T5.out.ra (by have := HI.out.nA; omega) HI.out.qA cr).trans HI.out.same
              have HCT := hide hct
              have hdc : Gc.down = false := cr.down
              have HL1 := hide (list_up T6.out.ra (by rw [cr.n]; have := HI.out.nA; omega) hdc)
              have HNM := hide (names_same T6.out.ra T6.out.rb hct)
              have hss : (dnames Gc.D).length < 1000 := by
                rw [names_length T6.out.ra]
                have h1 := T6.out.ra.now.size_le
                have h2 := HI.out.nA
                rw [cr.n] at h1
                omega
              have HSH := hide (names_short T6.out.ra)
              clear s6 cr hct HC T5
              go_wp2_with fail
              refine HL1.out.mono ?_
              rintro e w7 ⟨lo, lc, rfl, row1, b7⟩
              have T7 := hide (T6.out.past b7)
              have ROW1 := hide row1
              have hl2 := list_up T7.out.rb (by have := HI.out.nB; omega) HI.out.downB
              rw [← HNM.out] at hl2
              have HL2 := hide hl2
              clear hl2 row1 b7 HL1
              go_wp2_with fail
              refine HL2.out.mono ?_
              rintro e w8 ⟨mo, mc, rfl, row2, b8⟩
              have T8 := hide (T7.out.past b8)
              have TA1 := hide (texts_row rfl (below_row b8 ROW1.out))
              have TA2 := hide (texts_row rfl row2)
              have HTX := hide (texts_same lo mo lc mc (dnames Gc.D) w8 (by omega) TA1.out TA2.out)
              clear row2 b8 HL2 ROW1
              generalize dnames Gc.D = ss at *
              go_wp2_with fail
              refine HTX.out.mono ?_
              rintro e w9 ⟨rfl, b9⟩
              have T9 := hide (T8.out.past b9)
              have TA : Hid (TextsAt w9 lo ss) := fun j hj => by
                obtain ⟨g, h1, h2⟩ := TA1.out j hj
                exact ⟨g, h1, (b9.cell (p := ⟨g, j, none⟩) (World.block_lt_of_cell? _ _ h2)).trans h2⟩
              clear b9 HTX TA1 TA2
              go_wp2
              go_loopw [22] (fun kv wv => ∃ k : Nat, kv = .int .i64 k ∧ k ≤ ss.length ∧ wv = w9) (fun kv _ => ss.length - (intOf kv).toNat)
              case atStart => exact ⟨0, rfl, Nat.zero_le _, rfl⟩
              case round =>
                obtain ⟨k, rfl, hk, hw9⟩ := hrel
                obtain rfl := hw9.symm
                by_cases hks : k < ss.length
                · obtain ⟨g, rfl, c1⟩ := TA.out k hks
                  have hsh := (HSH.out ss[k] (List.getElem_mem hks)).1
                  have hsz : (⟨ss[k].toArray⟩ : ByteArray).size ≤ maxLen := by show ss[k].toArray.size ≤ _; rw [List.size_toArray]; unfold maxLen; omega
                  generalize (⟨ss[k].toArray⟩ : ByteArray) = nm at c1 hsz
                  have hk0 : (0 : Int) ≤ (k : Int) := by omega
                  have hk1 : (k : Int) < (ss.length : Int) := by omega
                  have h1 := read_any T9.out.ra nm hsz
                  have h2 := read_any T9.out.rb nm hsz
                  rw [read_cont T9.out.ra hdc, HCT.out] at h1
                  rw [read_cont T9.out.rb HI.out.downB] at h2
                  generalize (⟨((cont Hb nm.data.toList).getD []).toArray⟩ : ByteArray) = tx at h1 h2
                  generalize readE Gc nm = ea at h1
                  generalize readE Hb nm = eb at h2
                  have H1 := hide h1
                  have H2 := hide h2
                  clear h1 h2 hsz hsh
                  go_wp2_with fail
                  refine H1.out.mono ?_
                  rintro e wx ⟨rfl, hw⟩
                  obtain rfl := hw.symm
                  clear H1
                  go_wp2_with fail
                  refine H2.out.mono ?_
                  rintro e wx ⟨rfl, hw⟩
                  obtain rfl := hw.symm
                  clear H2
                  go_wp2
                  go_roundw
                  case rel => exact ⟨k + 1, by go_num, by omega, by first | trivial | rfl⟩
                  case measure => simp [intOf]; omega
                · have hk1 : ¬ (k : Int) < (ss.length : Int) := by omega
                  go_wp2
                  go_ret
                  exact ⟨rfl, T9.out.below⟩
      · have hi1 : ¬ (i : Int) < (l.length : Int) := by omega
        cases hdn : Ha.down with
        | true =>
          obtain rfl := HI.out.dn hdn
          rw [hdn] at HDN
          go_wp2_with fail
          refine HDN.out.mono ?_
          rintro e wd ⟨rfl, hw⟩
          obtain rfl := hw.symm
          clear HDN hw
          generalize wr = wq at *
          have hmk := makeKeeps
          go_wp2
          clear hmk
          go_loopw [16] (fun kv wv => ∃ (k : Nat) (A : Array Value), kv = .int .i64 k ∧ k ≤ 60 ∧ Hid (KInv wq wv k A)) (fun kv _ => 60 - (intOf kv).toNat)
          case atStart => exact ⟨0, zeros60, rfl, Nat.zero_le _, KInv.start wq⟩
          case round =>
            obtain ⟨k, A, rfl, hk, HK⟩ := hrel
            by_cases hk60 : k < 60
            · have hk0 : (0 : Int) ≤ (k : Int) := by omega
              have hk1 : (k : Int) < 60 := by omega
              have c0 : wr.cell? ⟨wq.heap.size, k, none⟩ = some (.int .i64 0) := box_cell HK.out.box k (HK.out.rest k (Nat.le_refl _) hk60)
              have f0 := box_free HK.out.box k
              go_wp2
              go_roundw
              case rel => exact ⟨k + 1, _, by go_num, by omega, HK.out.next hk60⟩
              case measure => simp [intOf]; omega
            · have hk1 : ¬ (k : Int) < 60 := by omega
              obtain rfl : k = 60 := by omega
              have hc := crash_any (HI.out.two.past HK.out.below).ra (by have := HI.out.nA; omega) 1000 (by omega) (some ⟨wq.heap.size, 0, none⟩) 60 (List.replicate 60 1000000) (by intro u hu; obtain rfl := (List.mem_replicate.1 hu).2; omega) (by simp) HK.out.nums (fun _ kb off e => by cases e; exact fresh_role HI.out.two.ra _ (Nat.le_refl _))
              rw [List.length_replicate] at hc
              have HC := hide hc
              have T5 := hide (HI.out.two.past HK.out.below)
              clear hc HK
              go_wp2_with fail
              refine HC.out.mono ?_
              rintro e w6 ⟨rfl, Gc, s6, cr⟩
              have T6 := hide (T5.out.stepA s6)
              have hct := (crash_keeps T5.out.ra (by have := HI.out.nA; omega) HI.out.qA cr).trans HI.out.same
              have HCT := hide hct
              have hdc : Gc.down = false := cr.down
              have HL1 := hide (list_up T6.out.ra (by rw [cr.n]; have := HI.out.nA; omega) hdc)
              have HNM := hide (names_same T6.out.ra T6.out.rb hct)
              have hss : (dnames Gc.D).length < 1000 := by
                rw [names_length T6.out.ra]
                have h1 := T6.out.ra.now.size_le
                have h2 := HI.out.nA
                rw [cr.n] at h1
                omega
              have HSH := hide (names_short T6.out.ra)
              clear s6 cr hct HC T5
              go_wp2_with fail
              refine HL1.out.mono ?_
              rintro e w7 ⟨lo, lc, rfl, row1, b7⟩
              have T7 := hide (T6.out.past b7)
              have ROW1 := hide row1
              have hl2 := list_up T7.out.rb (by have := HI.out.nB; omega) HI.out.downB
              rw [← HNM.out] at hl2
              have HL2 := hide hl2
              clear hl2 row1 b7 HL1
              go_wp2_with fail
              refine HL2.out.mono ?_
              rintro e w8 ⟨mo, mc, rfl, row2, b8⟩
              have T8 := hide (T7.out.past b8)
              have TA1 := hide (texts_row rfl (below_row b8 ROW1.out))
              have TA2 := hide (texts_row rfl row2)
              have HTX := hide (texts_same lo mo lc mc (dnames Gc.D) w8 (by omega) TA1.out TA2.out)
              clear row2 b8 HL2 ROW1
              generalize dnames Gc.D = ss at *
              go_wp2_with fail
              refine HTX.out.mono ?_
              rintro e w9 ⟨rfl, b9⟩
              have T9 := hide (T8.out.past b9)
              have TA : Hid (TextsAt w9 lo ss) := fun j hj => by
                obtain ⟨g, h1, h2⟩ := TA1.out j hj
                exact ⟨g, h1, (b9.cell (p := ⟨g, j, none⟩) (World.block_lt_of_cell? _ _ h2)).trans h2⟩
              clear b9 HTX TA1 TA2
              go_wp2
              go_loopw [22] (fun kv wv => ∃ k : Nat, kv = .int .i64 k ∧ k ≤ ss.length ∧ wv = w9) (fun kv _ => ss.length - (intOf kv).toNat)
              case atStart => exact ⟨0, rfl, Nat.zero_le _, rfl⟩
              case round =>
                obtain ⟨k, rfl, hk, hw9⟩ := hrel
                obtain rfl := hw9.symm
                by_cases hks : k < ss.length
                · obtain ⟨g, rfl, c1⟩ := TA.out k hks
                  have hsh := (HSH.out ss[k] (List.getElem_mem hks)).1
                  have hsz : (⟨ss[k].toArray⟩ : ByteArray).size ≤ maxLen := by show ss[k].toArray.size ≤ _; rw [List.size_toArray]; unfold maxLen; omega
                  generalize (⟨ss[k].toArray⟩ : ByteArray) = nm at c1 hsz
                  have hk0 : (0 : Int) ≤ (k : Int) := by omega
                  have hk1 : (k : Int) < (ss.length : Int) := by omega
                  have h1 := read_any T9.out.ra nm hsz
                  have h2 := read_any T9.out.rb nm hsz
                  rw [read_cont T9.out.ra hdc, HCT.out] at h1
                  rw [read_cont T9.out.rb HI.out.downB] at h2
                  generalize (⟨((cont Hb nm.data.toList).getD []).toArray⟩ : ByteArray) = tx at h1 h2
                  generalize readE Gc nm = ea at h1
                  generalize readE Hb nm = eb at h2
                  have H1 := hide h1
                  have H2 := hide h2
                  clear h1 h2 hsz hsh
                  go_wp2_with fail
                  refine H1.out.mono ?_
                  rintro e wx ⟨rfl, hw⟩
                  obtain rfl := hw.symm
                  clear H1
                  go_wp2_with fail
                  refine H2.out.mono ?_
                  rintro e wx ⟨rfl, hw⟩
                  obtain rfl := hw.symm
                  clear H2
                  go_wp2
                  go_roundw
                  case rel => exact ⟨k + 1, by go_num, by omega, by first | trivial | rfl⟩
                  case measure => simp [intOf]; omega
                · have hk1 : ¬ (k : Int) < (ss.length : Int) := by omega
                  go_wp2
                  go_ret
                  exact ⟨rfl, T9.out.below⟩
        | false =>
          rw [hdn] at HDN
          go_wp2_with fail
          refine HDN.out.mono ?_
          rintro e wd ⟨rfl, hw⟩
          obtain rfl := hw.symm
          clear HDN hw
          generalize wr = wq at *
          have hmk := makeKeeps
          go_wp2
          clear hmk
          go_loopw [16] (fun kv wv => ∃ (k : Nat) (A : Array Value), kv = .int .i64 k ∧ k ≤ 60 ∧ Hid (KInv wq wv k A)) (fun kv _ => 60 - (intOf kv).toNat)
          case atStart => exact ⟨0, zeros60, rfl, Nat.zero_le _, KInv.start wq⟩
          case round =>
            obtain ⟨k, A, rfl, hk, HK⟩ := hrel
            by_cases hk60 : k < 60
            · have hk0 : (0 : Int) ≤ (k : Int) := by omega
              have hk1 : (k : Int) < 60 := by omega
              have c0 : wr.cell? ⟨wq.heap.size, k, none⟩ = some (.int .i64 0) := box_cell HK.out.box k (HK.out.rest k (Nat.le_refl _) hk60)
              have f0 := box_free HK.out.box k
              go_wp2
              go_roundw
              case rel => exact ⟨k + 1, _, by go_num, by omega, HK.out.next hk60⟩
              case measure => simp [intOf]; omega
            · have hk1 : ¬ (k : Int) < 60 := by omega
              obtain rfl : k = 60 := by omega
              have hc := crash_any (HI.out.two.past HK.out.below).ra (by have := HI.out.nA; omega) 1000 (by omega) (some ⟨wq.heap.size, 0, none⟩) 60 (List.replicate 60 1000000) (by intro u hu; obtain rfl := (List.mem_replicate.1 hu).2; omega) (by simp) HK.out.nums (fun _ kb off e => by cases e; exact fresh_role HI.out.two.ra _ (Nat.le_refl _))
              rw [List.length_replicate] at hc
              have HC := hide hc
              have T5 := hide (HI.out.two.past HK.out.below)
              clear hc HK
              go_wp2_with fail
              refine HC.out.mono ?_
              rintro e w6 ⟨rfl, Gc, s6, cr⟩
              have T6 := hide (T5.out.stepA s6)
              have hct := (crash_keeps T5.out.ra (by have := HI.out.nA; omega) HI.out.qA cr).trans HI.out.same
              have HCT := hide hct
              have hdc : Gc.down = false := cr.down
              have HL1 := hide (list_up T6.out.ra (by rw [cr.n]; have := HI.out.nA; omega) hdc)
              have HNM := hide (names_same T6.out.ra T6.out.rb hct)
              have hss : (dnames Gc.D).length < 1000 := by
                rw [names_length T6.out.ra]
                have h1 := T6.out.ra.now.size_le
                have h2 := HI.out.nA
                rw [cr.n] at h1
                omega
              have HSH := hide (names_short T6.out.ra)
              clear s6 cr hct HC T5
              go_wp2_with fail
              refine HL1.out.mono ?_
              rintro e w7 ⟨lo, lc, rfl, row1, b7⟩
              have T7 := hide (T6.out.past b7)
              have ROW1 := hide row1
              have hl2 := list_up T7.out.rb (by have := HI.out.nB; omega) HI.out.downB
              rw [← HNM.out] at hl2
              have HL2 := hide hl2
              clear hl2 row1 b7 HL1
              go_wp2_with fail
              refine HL2.out.mono ?_
              rintro e w8 ⟨mo, mc, rfl, row2, b8⟩
              have T8 := hide (T7.out.past b8)
              have TA1 := hide (texts_row rfl (below_row b8 ROW1.out))
              have TA2 := hide (texts_row rfl row2)
              have HTX := hide (texts_same lo mo lc mc (dnames Gc.D) w8 (by omega) TA1.out TA2.out)
              clear row2 b8 HL2 ROW1
              generalize dnames Gc.D = ss at *
              go_wp2_with fail
              refine HTX.out.mono ?_
              rintro e w9 ⟨rfl, b9⟩
              have T9 := hide (T8.out.past b9)
              have TA : Hid (TextsAt w9 lo ss) := fun j hj => by
                obtain ⟨g, h1, h2⟩ := TA1.out j hj
                exact ⟨g, h1, (b9.cell (p := ⟨g, j, none⟩) (World.block_lt_of_cell? _ _ h2)).trans h2⟩
              clear b9 HTX TA1 TA2
              go_wp2
              go_loopw [22] (fun kv wv => ∃ k : Nat, kv = .int .i64 k ∧ k ≤ ss.length ∧ wv = w9) (fun kv _ => ss.length - (intOf kv).toNat)
              case atStart => exact ⟨0, rfl, Nat.zero_le _, rfl⟩
              case round =>
                obtain ⟨k, rfl, hk, hw9⟩ := hrel
                obtain rfl := hw9.symm
                by_cases hks : k < ss.length
                · obtain ⟨g, rfl, c1⟩ := TA.out k hks
                  have hsh := (HSH.out ss[k] (List.getElem_mem hks)).1
                  have hsz : (⟨ss[k].toArray⟩ : ByteArray).size ≤ maxLen := by show ss[k].toArray.size ≤ _; rw [List.size_toArray]; unfold maxLen; omega
                  generalize (⟨ss[k].toArray⟩ : ByteArray) = nm at c1 hsz
                  have hk0 : (0 : Int) ≤ (k : Int) := by omega
                  have hk1 : (k : Int) < (ss.length : Int) := by omega
                  have h1 := read_any T9.out.ra nm hsz
                  have h2 := read_any T9.out.rb nm hsz
                  rw [read_cont T9.out.ra hdc, HCT.out] at h1
                  rw [read_cont T9.out.rb HI.out.downB] at h2
                  generalize (⟨((cont Hb nm.data.toList).getD []).toArray⟩ : ByteArray) = tx at h1 h2
                  generalize readE Gc nm = ea at h1
                  generalize readE Hb nm = eb at h2
                  have H1 := hide h1
                  have H2 := hide h2
                  clear h1 h2 hsz hsh
                  go_wp2_with fail
                  refine H1.out.mono ?_
                  rintro e wx ⟨rfl, hw⟩
                  obtain rfl := hw.symm
                  clear H1
                  go_wp2_with fail
                  refine H2.out.mono ?_
                  rintro e wx ⟨rfl, hw⟩
                  obtain rfl := hw.symm
                  clear H2
                  go_wp2
                  go_roundw
                  case rel => exact ⟨k + 1, by go_num, by omega, by first | trivial | rfl⟩
                  case measure => simp [intOf]; omega
                · have hk1 : ¬ (k : Int) < (ss.length : Int) := by omega
                  go_wp2
                  go_ret
                  exact ⟨rfl, T9.out.below⟩
end Go.Proofs.Ytdlaicbdconbcaa
