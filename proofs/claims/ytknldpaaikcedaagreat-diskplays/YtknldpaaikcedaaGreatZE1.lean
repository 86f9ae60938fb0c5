/-
  The chapter's examples as they run.
-/
import Derived.Test.YtknldpaaikcedaaGreatZGF
namespace Go.Proofs.YtknldpaaikcedaaGreat
open Go.RowKit Go.Maps Go.Sort

/-- One name. -/
def D1 (k : List UInt8) (f : Nat) : DataW Nat := .map [(.string k, .lit (.int .i64 f))]
theorem put_one (k : List UInt8) (f : Nat) : dput (.map []) k f = D1 k f := rfl
theorem dget_one (k : List UInt8) (f : Nat) : dget (D1 k f) k = some f := by rw [← put_one]; exact dget_put_same ⟨[], rfl⟩ k f
theorem dnames_one (k : List UInt8) (f : Nat) : dnames (D1 k f) = [k] := by
  unfold dnames D1
  exact List.mergeSort_singleton _
theorem used_one {G : DG} {k : List UInt8} {f : Nat} {now last : List UInt8} {acts : List FA} (hD : G.D = D1 k f) (hc : G.core f = some (now, last, acts)) : used G = now.length := by
  obtain ⟨F, hF, e⟩ := file_some hc
  have e1 : F.now = now := congrArg Prod.fst e
  unfold used usedL
  rw [hD]
  show ([k].map (flen G)).sum = _
  simp only [List.map_cons, List.map_nil, List.sum_cons, List.sum_nil, Nat.add_zero]
  unfold flen
  rw [hD, dget_one]
  simp only [hF, e1]
theorem Is.tickneg {G : DG} {room fuse : Int} {down : Bool} {D LD : DataW Nat} {X : List DA} {n q : Nat} (h : Is G room (tickF fuse) down D LD X n q) (hz : fuse < 0) : Is G room fuse down D LD X n q := by
  unfold tickF at h
  rw [if_neg (by omega)] at h
  exact h
theorem del_one (k : List UInt8) (f : Nat) : ddel (D1 k f) k = .map [] := by
  unfold ddel D1 DataW.del
  simp [Lit.sameKey]
theorem run_remove (k : List UInt8) (f : Nat) (x : DA) (h1 : x.kind = 2) (h2 : x.a.data.toList = k) : x.run (D1 k f) = .map [] := by
  unfold DA.run
  rw [h1]
  simp only [h2]
  exact del_one k f
theorem run_rename (k t : List UInt8) (f : Nat) (x : DA) (h1 : x.kind = 1) (h2 : x.a.data.toList = k) (h3 : x.b.data.toList = t) : x.run (D1 k f) = D1 t f := by
  unfold DA.run
  rw [h1]
  simp only [h2, h3, dget_one]
  have e : ddel (D1 k f) k = .map [] := by
    unfold ddel D1 DataW.del
    simp [Lit.sameKey]
  rw [e]
  rfl

set_option maxRecDepth 100000 in
set_option maxHeartbeats 4000000 in
theorem examples_any (w : World) : Calls Tryz.prog 4 #[] w fun e w' => e = .returned (.bool true) ∧ RowKit.Below w.heap.size w w' := by
  have HNew := hide (new_ok 100 w (by omega) 100 (by omega))
  go_enter Tryz.func4, Tryz.ntmps4
  go_wp2_with fail
  refine HNew.out.mono ?_
  rintro e w1 ⟨b, G0, rfl, r0, fr, ow, b0⟩
  have B0 := hide b0
  have OW := hide ow
  obtain ⟨i0, k0⟩ := fr.is
  -- Create a
  have H1 := hide (create_go r0 ⟨#[97]⟩ (by decide) (by rw [i0.n]; omega) i0.down (by decide) (by rw [i0.D]; rfl) (by rw [i0.D]; decide) (by rw [i0.fuse]; decide))
  clear b0 ow fr HNew
  have I0 := hide i0
  have K0 := hide k0
  clear i0 k0 r0
  go_wp2_with fail
  refine H1.out.mono ?_
  rintro e w2 ⟨rfl, f, G1, s1, c1⟩
  have S1 := hide s1
  obtain ⟨⟨x1, x1a, x1b, x1c, i1⟩, _, k1⟩ := I0.out.created c1
  replace i1 := i1.tickneg (by omega)
  have i1D : G1.D = D1 [97] f := i1.D
  have k1f : G1.core f = some ([], [], []) := by rw [k1]; simp
  obtain ⟨F1, hF1, e1⟩ := file_some k1f
  have u1 := used_one i1D k1f
  -- Append a xyz
  have H2 := hide (append_go s1.rep ⟨#[97]⟩ (by decide) ⟨#[120, 121, 122]⟩ (by decide) (by rw [i1.n]; omega) f (by rw [i1D]; exact dget_one _ _) F1 hF1 i1.down (by rw [i1.room, u1]; decide) (by rw [i1.fuse]; decide) (by rw [i1.q]; decide))
  have I1 := hide i1
  clear c1 s1 i1 k1 H1 u1
  go_wp2_with fail
  refine H2.out.mono ?_
  rintro e w3 ⟨rfl, G2, F2, c2, s2, a2⟩
  have S2 := hide (S1.out.trans s2)
  obtain ⟨i2, k2⟩ := I1.out.acted a2
  replace i2 := i2.tickneg (by omega)
  have k2f : G2.core f = some ([120, 121, 122], [], [⟨false, c2, ⟨#[120, 121, 122]⟩, 0⟩]) := by
    rw [k2]
    have e2 : F1.now = [] := congrArg Prod.fst e1
    have e3 : F1.last = [] := congrArg (fun t => t.2.1) e1
    have e4 : F1.acts = [] := congrArg (fun t => t.2.2) e1
    simp only [if_true, e2, e3, e4]
    rfl
  -- DirSync
  have H3 := hide (dirsync_go s2.rep (by rw [i2.n]; omega) i2.down (by rw [i2.fuse]; decide))
  have I2 := hide i2
  have K2 := hide k2f
  clear s2 a2 i2 k2 k2f H2
  go_wp2_with fail
  refine H3.out.mono ?_
  rintro e w4 ⟨rfl, G3, s3, d3⟩
  have S3 := hide (S2.out.trans s3)
  obtain ⟨i3, k3⟩ := I2.out.dirsynced d3
  replace i3 := i3.tickneg (by omega)
  have K3 : Hid (G3.core f = some ([120, 121, 122], [], [⟨false, c2, ⟨#[120, 121, 122]⟩, 0⟩])) := by rw [k3]; exact K2.out
  -- Crash(0, [2])
  have hb4 : RowKit.Below w4.heap.size w4 (w4.alloc (.cells #[.int .i64 2] 3)) := (Below.refl _ w4).alloc (Nat.le_refl _) _
  have R4 := hide (s3.rep.below hb4)
  have H4 := hide (crash_any R4.out (by rw [i3.n]; omega) 0 (by omega) (some ⟨w4.heap.size, 0, none⟩) 1 [2] (by intro u hu; simp at hu; subst hu; omega) (by simp) (fun i hi => by
    obtain rfl : i = 0 := by simpa using hi
    exact ⟨w4.heap.size, 0, rfl, by simp, box_cell (heap_alloc_new w4 _) 0 rfl⟩) (fun _ kb off e => by cases e; exact fresh_role s3.rep _ (Nat.le_refl _)))
  have I3 := hide i3
  have HB4 := hide hb4
  clear s3 d3 i3 k3 H3 hb4
  go_wp2_with fail
  refine H4.out.mono ?_
  rintro e w5 ⟨rfl, G4, s4, cr4⟩
  have S4 := hide ((S3.out.below HB4.out).trans s4)
  obtain ⟨i4, k4⟩ := I3.out.crashed cr4
  have i4' : Is G4 100 (-1) false (D1 [97] f) (D1 [97] f) [] 2 100 := i4
  have K4 : Hid (G4.core f = some ([120, 121], [120, 121], [])) := by
    rw [k4]
    show crashN (D1 [97] f) G3.core (dnames (D1 [97] f)) [2] f = _
    rw [dnames_one]
    simp only [crashN, dget_one]
    unfold crash1
    rw [if_pos rfl, K3.out]
    rfl
  have g4 : dget G4.D (⟨#[97]⟩ : ByteArray).data.toList = some f := by rw [i4'.D]; exact dget_one _ _
  obtain ⟨e4a, e4b⟩ := read_of (k := ⟨#[97]⟩) i4'.down g4 K4.out
  have h5 := read_any s4.rep ⟨#[97]⟩ (by decide)
  rw [e4a, e4b] at h5
  have H5 := hide h5
  -- Append a z
  obtain ⟨F4, hF4, e4⟩ := file_some K4.out
  have u4 := used_one i4'.D K4.out
  have H6 := hide (append_go s4.rep ⟨#[97]⟩ (by decide) ⟨#[122]⟩ (by decide) (by rw [i4'.n]; omega) f g4 F4 hF4 i4'.down (by rw [i4'.room, u4]; decide) (by rw [i4'.fuse]; decide) (by rw [i4'.q]; decide))
  have I4 := hide i4'
  clear s4 cr4 i4 i4' k4 H4 h5 e4a e4b u4 g4
  go_wp2_with fail
  refine H5.out.mono ?_
  rintro e w5' ⟨rfl, hw⟩
  obtain rfl := hw.symm
  go_wp2_with fail
  refine H6.out.mono ?_
  rintro e w6 ⟨rfl, G5, F5, c5, s5, a5⟩
  have S5 := hide (S4.out.trans s5)
  obtain ⟨i5, k5⟩ := I4.out.acted a5
  replace i5 := i5.tickneg (by omega)
  have k5f : G5.core f = some ([120, 121, 122], [120, 121], [⟨false, c5, ⟨#[122]⟩, 0⟩]) := by
    rw [k5]
    have e2 : F4.now = [120, 121] := congrArg Prod.fst e4
    have e3 : F4.last = [120, 121] := congrArg (fun t => t.2.1) e4
    have e5 : F4.acts = [] := congrArg (fun t => t.2.2) e4
    simp only [if_true, e2, e3, e5]
    rfl
  obtain ⟨F5', hF5, e5⟩ := file_some k5f
  -- Sync a
  have H7 := hide (sync_go s5.rep (by rw [i5.n]; omega) ⟨#[97]⟩ (by decide) i5.down f (by rw [i5.D]; exact dget_one _ _) F5' hF5 (by rw [i5.fuse]; decide))
  have I5 := hide i5
  clear s5 a5 i5 k5 k5f H5 H6
  go_wp2_with fail
  refine H7.out.mono ?_
  rintro e w7 ⟨rfl, G6, F6, s6, y6⟩
  have S6 := hide (S5.out.trans s6)
  obtain ⟨i6, k6⟩ := I5.out.synced y6
  replace i6 := i6.tickneg (by omega)
  have K6 : Hid (G6.core f = some ([120, 121, 122], [120, 121, 122], [])) := by
    rw [k6]
    have e2 : F5'.now = [120, 121, 122] := congrArg Prod.fst e5
    simp only [if_true, e2]
    exact trivial
  -- Rename a b
  have H8 := hide (rename_go s6.rep ⟨#[97]⟩ ⟨#[98]⟩ (by decide) (by decide) (by rw [i6.n]; omega) i6.down f (by rw [i6.D]; exact dget_one _ _) (by decide) (by rw [i6.fuse]; decide))
  have I6 := hide i6
  clear s6 y6 i6 k6 H7
  go_wp2_with fail
  refine H8.out.mono ?_
  rintro e w8 ⟨rfl, G7, x7, s7, n7, x7a, x7b, x7c⟩
  have S7 := hide (S6.out.trans s7)
  obtain ⟨i7, k7⟩ := I6.out.named n7
  replace i7 := i7.tickneg (by omega)
  have K7 : Hid (G7.core f = some ([120, 121, 122], [120, 121, 122], [])) := by rw [k7]; exact K6.out
  have hrun : Hid (x7.run (D1 [97] f) = D1 [98] f) := run_rename _ _ _ _ x7a (by rw [x7b]) (by rw [x7c])
  -- Crash(1, nil)
  have H9 := hide (crash_any s7.rep (by rw [i7.n]; omega) 1 (by omega) none 0 [] (by simp) (by simp) (fun i hi => by simp at hi) (fun _ kb off e => by cases e))
  have I7 := hide i7
  clear s7 n7 i7 k7 H8
  go_wp2_with fail
  refine H9.out.mono ?_
  rintro e w9 ⟨rfl, G8, s8, cr8⟩
  have S8 := hide (S7.out.trans s8)
  obtain ⟨i8, k8⟩ := I7.out.crashed cr8
  have hD8 : drunAll (D1 [97] f) (([] ++ [x7] : List DA).take (dmany 1 ([] ++ [x7] : List DA).length)) = D1 [98] f := hrun.out
  rw [hD8] at i8
  have i8D : G8.D = D1 [98] f := i8.D
  have K8 : Hid (G8.core f = some ([120, 121, 122], [120, 121, 122], [])) := by rw [k8]; exact crashN_stable _ _ _ _ _ _ K7.out
  -- List
  have h10 := list_up s8.rep (by rw [i8.n]; omega) i8.down
  rw [i8D, dnames_one] at h10
  have H10 := hide h10
  -- Read b
  have g8 : dget G8.D (⟨#[98]⟩ : ByteArray).data.toList = some f := by rw [i8D]; exact dget_one _ _
  obtain ⟨e8a, e8b⟩ := read_of (k := ⟨#[98]⟩) i8.down g8 K8.out
  have R8 := hide s8.rep
  have I8 := hide i8
  have E8 := hide (And.intro e8a e8b)
  clear s8 cr8 i8 k8 h10 H9 hD8 e8a e8b
  go_wp2_with fail
  refine H10.out.mono ?_
  rintro e w10 ⟨ao, cp, rfl, hrow, hb10⟩
  have S9 := hide (S8.out.below hb10)
  have HROW := hide hrow
  have R9 := hide (R8.out.below hb10)
  have h11 := read_any R9.out ⟨#[98]⟩ (by decide)
  rw [E8.out.1, E8.out.2] at h11
  have H11 := hide h11
  clear hrow hb10 h11 H10
  go_wp2_with fail
  refine H11.out.mono ?_
  rintro e w10' ⟨rfl, hw⟩
  obtain rfl := hw.symm
  -- Fuse(1)
  have H12 := hide (fuse_any R9.out 1 (by omega))
  go_wp2_with fail
  refine H12.out.mono ?_
  rintro e w11 ⟨rfl, s11⟩
  have S11 := hide (S9.out.trans s11)
  have I11 : Hid (Is { G8 with fuse := 1 } 100 1 false (D1 [98] f) (D1 [98] f) [] 4 100) := ⟨I8.out.room, rfl, I8.out.down, I8.out.D, I8.out.LD, I8.out.X, I8.out.n, I8.out.q⟩
  -- Remove b
  have H13 := hide (remove_go s11.rep ⟨#[98]⟩ (by decide) (by rw [I11.out.n]; omega) I11.out.down f g8 (by rw [I11.out.fuse]; decide))
  have ROW11 : Hid (w11.ownsRow w9.heap.size 9 1 (.slice ao [([98] : List UInt8)].length cp) [([98] : List UInt8)].length ([([98] : List UInt8)].map encStr)) := s11.touch.row HROW.out fun j hj e => by
    have e1 := (HROW.out.lt j hj).1
    have e2 := R8.out.lt j e
    omega
  clear s11 H12 g8
  go_wp2_with fail
  refine H13.out.mono ?_
  rintro e w12 ⟨rfl, G12, x12, s12, n12, x12a, x12b⟩
  have S12 := hide (S11.out.trans s12)
  obtain ⟨i12, k12⟩ := I11.out.named n12
  have ROW12 : Hid (w12.ownsRow w9.heap.size 9 1 (.slice ao [([98] : List UInt8)].length cp) [([98] : List UInt8)].length ([([98] : List UInt8)].map encStr)) := s12.touch.row ROW11.out fun j hj e => by
    have e1 := (ROW11.out.lt j hj).1
    have e2 := R8.out.lt j e
    omega
  have OW12 : Hid (∀ j, G12.own j → G8.role j ≠ (0, 0) ∨ w11.heap.size ≤ j) := s12.grow
  have hrm := run_remove [98] f x12 x12a (by rw [x12b])
  rw [hrm] at i12
  have i12' : Is G12 100 0 false (.map []) (D1 [98] f) ([] ++ [x12]) 5 100 := i12
  -- Create c
  have H14 := hide (create_stop s12.rep ⟨#[99]⟩ (by decide) i12'.down (by decide) (by rw [i12'.D]; rfl) (by rw [i12'.D]; decide) i12'.fuse)
  clear s12 n12 i12 i12' k12 hrm H13
  go_wp2_with fail
  refine H14.out.mono ?_
  rintro e w13 ⟨rfl, s13⟩
  have S13 := hide (S12.out.trans s13)
  have hd13 := down_any s13.rep
  rw [show G12.fall.down = true from rfl] at hd13
  have H15 := hide hd13
  have ROW13 : Hid (w13.ownsRow w9.heap.size 9 1 (.slice ao [([98] : List UInt8)].length cp) [([98] : List UInt8)].length ([([98] : List UInt8)].map encStr)) := s13.touch.row ROW12.out fun j hj e => by
    have e1 := ROW11.out.lt j hj
    rcases OW12.out j e with e2 | e2
    · have e3 := R8.out.lt j e2
      omega
    · omega
  clear s13 hd13 H14
  obtain ⟨g, cap, hform, _, _⟩ := ROW13.out.form (by simp)
  obtain ⟨rfl, rfl⟩ : ao = some ⟨g, 0, none⟩ ∧ cp = cap := by cases hform; exact ⟨rfl, rfl⟩
  have r13 : w13.cell? ⟨g, 0, none⟩ = some (.string ⟨#[98]⟩) := (row_cell ROW13.out 0 _ rfl).1
  clear hform
  go_wp2_with (go_at_call 23; refine H15.out.mono ?_; rintro e w14 ⟨rfl, hw⟩; obtain rfl := hw.symm)
  go_ret
  have hT := S13.out.touch
  exact ⟨rfl, B0.out.trans (hT.toBelow B0.out.size fun j hj e => by have := OW.out j e; omega)⟩

end Go.Proofs.YtknldpaaikcedaaGreat
