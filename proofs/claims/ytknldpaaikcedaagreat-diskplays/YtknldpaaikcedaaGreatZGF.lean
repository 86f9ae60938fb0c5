/-
  Crash of the disk as it runs.
-/
import Derived.Test.YtknldpaaikcedaaGreatZW16
namespace Go.Proofs.YtknldpaaikcedaaGreat
open Go.RowKit Go.Maps Go.Sort

/-- A file crashed, and nothing else. -/
structure FCrashed (G G' : DG) (f : Nat) (F' : FG) (L : List UInt8) : Prop where
  room : G'.room = G.room
  fuse : G'.fuse = G.fuse
  down : G'.down = G.down
  D : G'.D = G.D
  LD : G'.LD = G.LD
  X : G'.X = G.X
  file : G'.file = fun j => if j = f then some F' else G.file j
  now : F'.now = L
  last : F'.last = L
  acts : F'.acts = []
  n : G'.n = G.n
  q : G'.q = G.q
theorem fcrash_act {w : World} {b f : Nat} {G : DG} {F : FG} (h : Rep w b G) (hn : G.n < 100000) (hF : G.file f = some F) (u : Int) (hu : -9223372036854775808 ≤ u ∧ u ≤ 9223372036854775807) :
    Calls Tryz.prog 29 #[.pointer (some ⟨f, 0, none⟩), .int .i64 u] w fun e w' => e = .returned (.tuple #[]) ∧ ∃ G' F', Step w b G w' G' ∧ FCrashed G G' f F' (settleL F.last F.acts u) := by
  have g := h.files f F hF
  have hb := g.big
  have hfew := g.few
  have hm := mul_small hn h.hq
  have h1 := fcrash_any f (.slice F.no F.now.length F.nc) F.lo F.lc (.slice F.so F.acts.length F.sc) F.last F.acts u w g.box g.rl g.rs (by omega) hu g.held g.fit (by omega)
    (fun e => by have := g.pl _ e; rw [g.pf] at this; cases this) (fun e => by have := g.ps _ ((sliceBlock _ _ _).symm.trans e); rw [g.pf] at this; cases this)
    (fun j hj e => by have h1 := g.pl _ hj; have h2 := g.ps _ ((sliceBlock _ _ _).symm.trans e); rw [h1] at h2; injection h2 with h3; omega)
    (fun a ha => ⟨(fun e => by have := g.pc a ha; rw [e, g.pf] at this; cases this), (fun e => by have h1 := g.pl _ e; rw [g.pc a ha] at h1; cases h1)⟩)
  refine h1.mono fun e w' ⟨he, bo, bp, ao, cp, a1, a2, a3, a4, a5, a6⟩ => ?_
  exact ⟨he, _, _, h.settled hF _ bo bp ao cp (settleL_length _ _ _) a1 a2 a3 (.inr fun j hj => (a4 j hj).1) a5 (fun j hj => (a4 j hj).2) a6, ⟨rfl, rfl, rfl, rfl, rfl, rfl, rfl, rfl, rfl, rfl, rfl, rfl⟩⟩

/-- What files hold: their bytes now, those that last, their acts. -/
def FG.core (F : FG) : List UInt8 × List UInt8 × List FA := (F.now, F.last, F.acts)
def DG.core (G : DG) (j : Nat) : Option (List UInt8 × List UInt8 × List FA) := (G.file j).map FG.core
def crash1 (c : Nat → Option (List UInt8 × List UInt8 × List FA)) (f : Nat) (u : Int) (j : Nat) : Option (List UInt8 × List UInt8 × List FA) :=
  if j = f then (c f).map fun t => (settleL t.2.1 t.2.2 u, settleL t.2.1 t.2.2 u, []) else c j
/-- Files by names, one behind the other, each with its number of units. -/
def crashN (D : DataW Nat) : (Nat → Option (List UInt8 × List UInt8 × List FA)) → List (List UInt8) → List Int → Nat → Option (List UInt8 × List UInt8 × List FA)
  | c, [], _ => c
  | c, k :: ks, us => crashN D (match dget D k with | some f => crash1 c f (us.headD 0) | none => c) ks us.tail
theorem core_crash1 {G G' : DG} {f : Nat} {F F' : FG} {u : Int} (hF : G.file f = some F) (h : FCrashed G G' f F' (settleL F.last F.acts u)) : G'.core = crash1 G.core f u := by
  funext j
  unfold DG.core crash1
  rw [h.file]
  by_cases e : j = f
  · subst e
    simp only [if_true, hF, Option.map_some]
    unfold FG.core
    rw [h.now, h.last, h.acts]
  · simp only [if_neg e]

/-- Numbers that lie in a slice. -/
def NumsAt (w : World) (ao : Option Addr) (l : List Int) : Prop :=
  ∀ (i : Nat) (h : i < l.length), ∃ b off, ao = some ⟨b, off, none⟩ ∧ b < w.heap.size ∧ w.cell? ⟨b, off + i, none⟩ = some (.int .i64 l[i])
theorem NumsAt.touch {w w' : World} {ao : Option Addr} {l : List Int} {own : Nat → Prop} (h : NumsAt w ao l) (ht : Touch own w w') (ho : l ≠ [] → ∀ b off, ao = some ⟨b, off, none⟩ → ¬ own b) : NumsAt w' ao l := by
  intro i hi
  obtain ⟨b, off, h1, h2, h3⟩ := h i hi
  exact ⟨b, off, h1, Nat.lt_of_lt_of_le h2 ht.size, ht.cell ⟨b, off + i, none⟩ h3 (ho (fun e => by rw [e] at hi; simp at hi) b off h1)⟩

/-- A disk crashed. -/
structure Crashed (G G' : DG) (dirs : Int) (us : List Int) : Prop where
  room : G'.room = G.room
  fuse : G'.fuse = -1
  down : G'.down = false
  D : G'.D = drunAll G.LD (G.X.take (dmany dirs G.X.length))
  LD : G'.LD = G'.D
  X : G'.X = []
  core : G'.core = crashN G'.D G.core (dnames G'.D) us
  n : G'.n = G.n
  q : G'.q = G.q
theorem dcrash_act {w : World} {b : Nat} {G : DG} (h : Rep w b G) (hn : G.n < 100000) (u : Int) (hu : u ≤ 9223372036854775807) :
    Calls Tryz.prog 27 #[.pointer (some ⟨b, 3, none⟩), .int .i64 u] w fun e w' => e = .returned (.tuple #[]) ∧ ∃ G', Step w b G w' G' ∧ G'.room = G.room ∧ G'.fuse = G.fuse ∧ G'.down = G.down ∧ G'.D = drunAll G.LD (G.X.take (dmany u G.X.length)) ∧ G'.LD = G'.D ∧ G'.X = [] ∧ G'.file = G.file ∧ G'.n = G.n ∧ G'.q = G.q := by
  have h1 := dcrash_any b G.nb G.lb G.n (.int .i64 G.room) (.int .i64 G.fuse) (.bool G.down) G.so G.sc G.LD G.X u w (h.dAt (by omega)) hu
  have hf := h.few
  have hsz : Maps.size (drunAll G.LD (G.X.take (dmany u G.X.length))) ≤ G.n := by
    have h2 := size_drun_le h.last.isMap (G.X.take (dmany u G.X.length))
    have h3 : (G.X.take (dmany u G.X.length)).length ≤ G.X.length := by rw [List.length_take]; omega
    omega
  have hk : ∀ k f, dget (drunAll G.LD (G.X.take (dmany u G.X.length))) k = some f → G.file f ≠ none ∧ 1 ≤ k.length ∧ k.length ≤ 40 := known_run h.last.isMap (fun f => G.file f ≠ none) _ h.known fun x hx => h.knownX x (List.mem_of_mem_take hx)
  exact h1.mono fun e w' ⟨he, nb', a0, a1, a2, a3, a4⟩ => ⟨he, _, h.dsettled _ nb' hsz a1 ⟨_, a2⟩ ⟨_, a3⟩ (.inr a0) hk (full_drun h.last.isMap h.full _) a4, rfl, rfl, rfl, rfl, rfl, rfl, rfl, rfl, rfl⟩

theorem crash_round {w3 wr w4 : World} {b i f : Nat} {G2 Gi G4 : DG} {F F4 : FG} {ss : List (List UInt8)} {us : List Int} {u : Int} {k : List UInt8}
    (h : Step w3 b G2 wr Gi ∧ Gi.room = G2.room ∧ Gi.fuse = G2.fuse ∧ Gi.down = G2.down ∧ Gi.D = G2.D ∧ Gi.LD = G2.LD ∧ Gi.X = G2.X ∧ Gi.n = G2.n ∧ Gi.q = G2.q ∧ crashN G2.D G2.core ss us = crashN G2.D Gi.core (ss.drop i) (us.drop i))
    (hd : ss.drop i = k :: ss.drop (i + 1)) (hg : dget G2.D k = some f) (hF : Gi.file f = some F) (hu : (us.drop i).headD 0 = u) (st : Step wr b Gi w4 G4) (fc : FCrashed Gi G4 f F4 (settleL F.last F.acts u)) :
    Step w3 b G2 w4 G4 ∧ G4.room = G2.room ∧ G4.fuse = G2.fuse ∧ G4.down = G2.down ∧ G4.D = G2.D ∧ G4.LD = G2.LD ∧ G4.X = G2.X ∧ G4.n = G2.n ∧ G4.q = G2.q ∧ crashN G2.D G2.core ss us = crashN G2.D G4.core (ss.drop (i + 1)) (us.drop (i + 1)) := by
  obtain ⟨st0, a1, a2, a3, a4, a5, a6, a7, a8, a9⟩ := h
  refine ⟨st0.trans st, fc.room.trans a1, fc.fuse.trans a2, fc.down.trans a3, fc.D.trans a4, fc.LD.trans a5, fc.X.trans a6, fc.n.trans a7, fc.q.trans a8, ?_⟩
  rw [a9, hd, core_crash1 hF fc]
  simp only [crashN, hg, hu, List.tail_drop]

section
set_option maxRecDepth 100000
set_option maxHeartbeats 4000000
theorem crash_any {w : World} {b : Nat} {G : DG} (h : Rep w b G) (hn : G.n < 100000) (dirs : Int) (hdi : -9223372036854775808 ≤ dirs ∧ dirs ≤ 9223372036854775807) (ko : Option Addr) (kc : Nat) (us : List Int) (hus : ∀ u ∈ us, -9223372036854775808 ≤ u ∧ u ≤ 9223372036854775807) (hul : us.length ≤ 4611686018427387904)
    (hk : NumsAt w ko us) (hk0 : us ≠ [] → ∀ kb off, ko = some ⟨kb, off, none⟩ → G.role kb = (0, 0)) :
    Calls Tryz.prog 12 #[.pointer (some ⟨b, 0, none⟩), .int .i64 dirs, .slice ko us.length kc] w fun e w' => e = .returned (.tuple #[]) ∧ ∃ G', Step w b G w' G' ∧ Crashed G G' dirs us := by
  have HR := hide h
  have c2 : w.cell? ⟨b, 2, none⟩ = some (.bool G.down) := box_cell h.box 2 rfl
  have c1 : w.cell? ⟨b, 1, none⟩ = some (.int .i64 G.fuse) := box_cell h.box 1 rfl
  have f1 := box_free h.box 1
  have f2 := box_free h.box 2
  have HK := hide hk
  have HK0 := hide hk0
  have HUS := hide hus
  clear h hk hk0 hus
  go_enter Tryz.func12, Tryz.ntmps12
  go_upto_region 1 with fail
  have S1 : Hid (Step w b G ((w.setCell ⟨b, 2, none⟩ (.bool false)).setCell ⟨b, 1, none⟩ (.int .i64 (-1))) { G with fuse := -1, down := false }) := HR.out.rebox (((Touch.refl (fun j => j = b) w).setCell _ _ fun _ => rfl).setCell _ _ fun _ => rfl) (-1) false (box_set (box_set HR.out.box 2 _) 1 _) (by omega)
  generalize (w.setCell ⟨b, 2, none⟩ (.bool false)).setCell ⟨b, 1, none⟩ (.int .i64 (-1)) = W1 at *
  clear c1 c2 f1 f2
  have HC := hide (dcrash_act S1.out.rep hn dirs hdi.2)
  go_wp2_with fail
  refine HC.out.mono ?_
  rintro e w2 ⟨rfl, G2, st2, g1, g2, g3, g4, g5, g6, g7, g8, g9⟩
  have S2 := hide (S1.out.trans st2)
  have R2 := hide st2.rep
  have HG : Hid (G2.room = G.room ∧ G2.fuse = -1 ∧ G2.down = false ∧ G2.D = drunAll G.LD (G.X.take (dmany dirs G.X.length)) ∧ G2.LD = G2.D ∧ G2.X = [] ∧ G2.file = G.file ∧ G2.n = G.n ∧ G2.q = G.q) := ⟨g1, g2, g3, g4, g5, g6, g7, g8, g9⟩
  have hn2 : G2.n < 100000 := by rw [g8]; exact hn
  clear st2 g1 g2 g3 g4 g5 g6 g7 g8 g9 HC S1
  have HN := hide (names_any b G2.nb G2.lb G2.n (.int .i64 G2.room) (.int .i64 G2.fuse) (.bool G2.down) (.slice G2.so G2.X.length G2.sc) G2.D w2 R2.out.box R2.out.now (by omega))
  have hsz : (dnames G2.D).length < 100000 := by rw [names_length R2.out]; have := R2.out.now.size_le; omega
  go_wp2_with fail
  refine HN.out.mono ?_
  rintro e w3 ⟨ao, cp, rfl, h1, h2⟩
  have H1 := hide h1
  have H2 := hide h2
  have R3 := hide (R2.out.below h2)
  have HSH := hide (names_short R2.out)
  have HDN := hide (rfl : dnames G2.D = dnames G2.D)
  clear h1 h2 HN
  have KS : Hid (NumsAt w3 ko us) := HK.out.touch (own := G.own) (S2.out.touch.below H2.out) fun hne kb off e h => h (HK0.out hne kb off e)
  generalize hss : dnames G2.D = ss at *
  have HSS := hide hss
  clear hss HDN
  go_wp2
  go_loopw [25] (fun iv wv => ∃ (i : Nat) (Gi : DG), iv = .int .i64 i ∧ i ≤ ss.length ∧ Hid (Step w3 b G2 wv Gi ∧ Gi.room = G2.room ∧ Gi.fuse = G2.fuse ∧ Gi.down = G2.down ∧ Gi.D = G2.D ∧ Gi.LD = G2.LD ∧ Gi.X = G2.X ∧ Gi.n = G2.n ∧ Gi.q = G2.q ∧ crashN G2.D G2.core ss us = crashN G2.D Gi.core (ss.drop i) (us.drop i))) (fun iv _ => ss.length - (intOf iv).toNat)
  case atStart => exact ⟨0, G2, rfl, Nat.zero_le _, Step.refl R3.out, rfl, rfl, rfl, rfl, rfl, rfl, rfl, rfl, rfl⟩
  case round =>
    obtain ⟨i, Gi, rfl, hi, HI⟩ := hrel
    by_cases hlt : i < ss.length
    · obtain ⟨st, a1, a2, a3, a4, a5, a6, a7, a8, a9⟩ := HI.out
      have Ri := hide st.rep
      have hrow : wr.ownsRow w2.heap.size 9 1 (.slice ao ss.length cp) ss.length (ss.map encStr) := st.touch.row H1.out fun j hj e => by
        have e1 := (H1.out.lt j hj).1
        have e2 := R2.out.lt j e
        omega
      obtain ⟨g, cap, hform, _, _⟩ := hrow.form (by omega)
      obtain ⟨rfl, rfl⟩ : ao = some ⟨g, 0, none⟩ ∧ cp = cap := by cases hform; exact ⟨rfl, rfl⟩
      have hat : (ss.map encStr)[i]? = some (.string ⟨ss[i].toArray⟩) := by rw [List.getElem?_map, List.getElem?_eq_getElem hlt]; rfl
      obtain ⟨r0, _⟩ := row_cell hrow i _ hat
      have hsh := HSH.out ss[i] (List.getElem_mem hlt)
      obtain ⟨f, hg0⟩ := Option.ne_none_iff_exists'.1 hsh.2
      have hg : Hid (dget G2.D ss[i] = some f) := hg0
      have hgi : dget Gi.D ss[i] = some f := by rw [a4]; exact hg0
      obtain ⟨F, hF0⟩ := Option.ne_none_iff_exists'.1 (Ri.out.knownD _ f hgi).1
      have hF : Hid (Gi.file f = some F) := hF0
      have hss2 : (⟨ss[i].toArray⟩ : ByteArray).size ≤ maxLen := by show ss[i].toArray.size ≤ _; rw [List.size_toArray]; unfold maxLen; omega
      have hlk : (Instr.lookup 50 (.map (some Gi.nb)) (.string ⟨ss[i].toArray⟩) false).run Tryz.prog wr = .ok (.pointer (some ⟨f, 0, none⟩)) wr := by
        have h1 := Ri.out.look ⟨ss[i].toArray⟩ hss2
        rw [show (⟨ss[i].toArray⟩ : ByteArray).data.toList = ss[i] from List.toList_toArray, hgi] at h1
        exact h1
      have c3 : wr.cell? ⟨b, 3, none⟩ = some (.map (some Gi.nb)) := box_cell Ri.out.box 3 rfl
      have hni : Gi.n < 100000 := by rw [a7]; exact hn2
      have HDR : Hid (ss.drop i = ss[i] :: ss.drop (i + 1)) := List.drop_eq_getElem_cons hlt
      have hi0 : (0 : Int) ≤ (i : Int) := by omega
      have hi1 : (i : Int) < (ss.length : Int) := by omega
      by_cases hiu : i < us.length
      · obtain ⟨kb, off, rfl, hkb, _⟩ := HK.out i hiu
        have hno : ¬ G2.own kb := fun e => by
          rcases S2.out.grow kb e with e | e
          · exact e (HK0.out (fun e => by rw [e] at hiu; simp at hiu) kb off rfl)
          · omega
        obtain ⟨kb', off', e1, _, k0⟩ := (KS.out.touch st.touch fun _ kb' off' e => by cases e; exact hno) i hiu
        cases e1
        have HX := hide (fcrash_act Ri.out hni hF0 us[i] (HUS.out _ (List.getElem_mem hiu)))
        have hhead : Hid ((us.drop i).headD 0 = us[i]) := by show _ = _; rw [List.drop_eq_getElem_cons hiu]; rfl
        have hi2 : (i : Int) < (us.length : Int) := by omega
        clear st a1 a2 a3 a4 a5 a6 a7 a8 a9 hrow hform hat hsh hg0 hgi hF0 hss2 hno
        obtain ⟨nm, hnm⟩ : ∃ nm : ByteArray, (⟨ss[i].toArray⟩ : ByteArray) = nm := ⟨_, rfl⟩
        rw [hnm] at r0 hlk
        clear hnm
        go_wp2_with (go_at_call 29; refine HX.out.mono ?_; rintro e w4 ⟨rfl, G4, F4, st4, fc⟩)
        go_roundw
        case rel => exact ⟨i + 1, G4, by go_num, by omega, crash_round HI.out HDR.out hg.out hF.out hhead.out st4 fc⟩
        case measure => simp [intOf]; omega
      · have HX := hide (fcrash_act Ri.out hni hF0 0 (by omega))
        have hhead : Hid ((us.drop i).headD 0 = 0) := by show _ = _; rw [List.drop_eq_nil_of_le (by omega)]; rfl
        have hi2 : ¬ (i : Int) < (us.length : Int) := by omega
        clear st a1 a2 a3 a4 a5 a6 a7 a8 a9 hrow hform hat hsh hg0 hgi hF0 hss2
        obtain ⟨nm, hnm⟩ : ∃ nm : ByteArray, (⟨ss[i].toArray⟩ : ByteArray) = nm := ⟨_, rfl⟩
        rw [hnm] at r0 hlk
        clear hnm
        go_wp2_with (go_at_call 29; refine HX.out.mono ?_; rintro e w4 ⟨rfl, G4, F4, st4, fc⟩)
        go_roundw
        case rel => exact ⟨i + 1, G4, by go_num, by omega, crash_round HI.out HDR.out hg.out hF.out hhead.out st4 fc⟩
        case measure => simp [intOf]; omega
    · go_wp2
      go_end0
      obtain ⟨st, a1, a2, a3, a4, a5, a6, a7, a8, a9⟩ := HI.out
      obtain ⟨g1, g2, g3, g4, g5, g6, g7, g8, g9⟩ := HG.out
      refine ⟨rfl, Gi, (S2.out.below H2.out).trans st, ⟨a1.trans g1, a2.trans g2, a3.trans g3, a4.trans g4, a5.trans (g5.trans a4.symm), a6.trans g6, ?_, a7.trans g8, a8.trans g9⟩⟩
      rw [List.drop_eq_nil_of_le (by omega)] at a9
      have e1 : crashN G2.D Gi.core [] (us.drop i) = Gi.core := rfl
      have e2 : G2.core = G.core := by unfold DG.core; rw [g7]
      rw [a4, HSS.out, ← e2, a9, e1]
end

end Go.Proofs.YtknldpaaikcedaaGreat
/-
  A disk as the laws see it: its numbers, its names, what its files hold; what each call makes of it.
-/
namespace Go.Proofs.YtknldpaaikcedaaGreat
open Go.RowKit Go.Maps Go.Sort

/-- What a disk is, but for where it lies. -/
structure Is (G : DG) (room fuse : Int) (down : Bool) (D LD : DataW Nat) (X : List DA) (n q : Nat) : Prop where
  room : G.room = room
  fuse : G.fuse = fuse
  down : G.down = down
  D : G.D = D
  LD : G.LD = LD
  X : G.X = X
  n : G.n = n
  q : G.q = q
def tickF (z : Int) : Int := if 0 < z then z - 1 else z
section
variable {G G' : DG} {room fuse : Int} {down : Bool} {D LD : DataW Nat} {X : List DA} {n q f : Nat} {F F' : FG} {a : FA} {x : DA} {s : ByteArray}
theorem Is.tick (h : Is G room fuse down D LD X n q) : Is G.tick room (tickF fuse) down D LD X n q := ⟨h.room, by show (if 0 < G.fuse then G.fuse - 1 else G.fuse) = _; rw [h.fuse]; rfl, h.down, h.D, h.LD, h.X, h.n, h.q⟩
theorem tick_core (G : DG) : G.tick.core = G.core := rfl
theorem tick_file (G : DG) : G.tick.file = G.file := rfl
theorem Is.fall (h : Is G room fuse down D LD X n q) : Is G.fall room fuse true D LD X n q := ⟨h.room, h.fuse, rfl, h.D, h.LD, h.X, h.n, h.q⟩
theorem fall_core (G : DG) : G.fall.core = G.core := rfl
theorem core_some (hF : G.file f = some F) : G.core f = some F.core := by unfold DG.core; rw [hF]; rfl
theorem file_some {c : List UInt8 × List UInt8 × List FA} (h : G.core f = some c) : ∃ F, G.file f = some F ∧ F.core = c := by
  unfold DG.core at h
  cases hF : G.file f with
  | none => rw [hF] at h; cases h
  | some F => rw [hF] at h; exact ⟨F, rfl, by simpa using h⟩
theorem Is.created (h : Is G room fuse down D LD X n q) (c : Created G.tick G' s f) : (∃ x : DA, x.kind = 0 ∧ x.a = s ∧ x.id = f ∧ Is G' room (tickF fuse) down (dput D s.data.toList f) LD (X ++ [x]) (n + 1) q) ∧ G.core f = none ∧ G'.core = fun j => if j = f then some ([], [], []) else G.core j := by
  have t := h.tick
  obtain ⟨x, x1, x2, x3, x4⟩ := c.X
  refine ⟨⟨x, x1, x2, x3, c.room.trans t.room, c.fuse.trans t.fuse, c.down.trans t.down, by rw [c.D, t.D], c.LD.trans t.LD, by rw [x4, t.X], by rw [c.n, t.n], c.q.trans t.q⟩, ?_, ?_⟩
  · unfold DG.core; rw [show G.file f = none from c.fresh]; rfl
  · funext j
    unfold DG.core
    rw [c.file]
    by_cases e : j = f
    · simp only [if_pos e]; rfl
    · simp only [if_neg e]; rfl
theorem Is.named (h : Is G room fuse down D LD X n q) (c : Named G.tick G' x) : Is G' room (tickF fuse) down (x.run D) LD (X ++ [x]) (n + 1) q ∧ G'.core = G.core := by
  have t := h.tick
  refine ⟨⟨c.room.trans t.room, c.fuse.trans t.fuse, c.down.trans t.down, by rw [c.D, t.D], c.LD.trans t.LD, by rw [c.X, t.X], by rw [c.n, t.n], c.q.trans t.q⟩, ?_⟩
  unfold DG.core
  rw [c.file]
  rfl
theorem Is.acted (h : Is G room fuse down D LD X n q) (c : Acted G.tick G' f F F' a) : Is G' room (tickF fuse) down D LD X (n + 1) q ∧ G'.core = fun j => if j = f then some (a.run F.now a.units, F.last, F.acts ++ [a]) else G.core j := by
  have t := h.tick
  refine ⟨⟨c.room.trans t.room, c.fuse.trans t.fuse, c.down.trans t.down, c.D.trans t.D, c.LD.trans t.LD, c.X.trans t.X, by rw [c.n, t.n], c.q.trans t.q⟩, ?_⟩
  funext j
  unfold DG.core
  rw [c.file]
  by_cases e : j = f
  · simp only [if_pos e, Option.map_some, FG.core, c.now, c.last, c.acts]
  · simp only [if_neg e]; rfl
theorem Is.synced (h : Is G room fuse down D LD X n q) (c : Synced G.tick G' f F F') : Is G' room (tickF fuse) down D LD X n q ∧ G'.core = fun j => if j = f then some (F.now, F.now, []) else G.core j := by
  have t := h.tick
  refine ⟨⟨c.room.trans t.room, c.fuse.trans t.fuse, c.down.trans t.down, c.D.trans t.D, c.LD.trans t.LD, c.X.trans t.X, c.n.trans t.n, c.q.trans t.q⟩, ?_⟩
  funext j
  unfold DG.core
  rw [c.file]
  by_cases e : j = f
  · simp only [if_pos e, Option.map_some, FG.core, c.now, c.last, c.acts]
  · simp only [if_neg e]; rfl
theorem Is.dirsynced (h : Is G room fuse down D LD X n q) (c : DirSynced G.tick G') : Is G' room (tickF fuse) down D D [] n q ∧ G'.core = G.core := by
  have t := h.tick
  refine ⟨⟨c.room.trans t.room, c.fuse.trans t.fuse, c.down.trans t.down, c.D.trans t.D, by rw [c.LD, t.D], c.X, c.n.trans t.n, c.q.trans t.q⟩, ?_⟩
  unfold DG.core
  rw [c.file]
  rfl
theorem Is.crashed {dirs : Int} {us : List Int} (h : Is G room fuse down D LD X n q) (c : Crashed G G' dirs us) : Is G' room (-1) false (drunAll LD (X.take (dmany dirs X.length))) (drunAll LD (X.take (dmany dirs X.length))) [] n q ∧ G'.core = crashN (drunAll LD (X.take (dmany dirs X.length))) G.core (dnames (drunAll LD (X.take (dmany dirs X.length)))) us := by
  have hD : G'.D = drunAll LD (X.take (dmany dirs X.length)) := by rw [c.D, h.LD, h.X]
  refine ⟨⟨c.room.trans h.room, c.fuse, c.down, hD, c.LD.trans hD, c.X, c.n.trans h.n, c.q.trans h.q⟩, ?_⟩
  rw [c.core, hD]
theorem Fresh.is {room : Int} {q : Nat} (h : Fresh G room q) : Is G room (-1) false (.map []) (.map []) [] 0 q ∧ G.core = fun _ => none := by
  refine ⟨⟨h.room, h.fuse, h.down, h.D, h.LD, h.X, h.n, h.q⟩, ?_⟩
  unfold DG.core
  rw [h.file]
  rfl
end
/-- A file that has no acts since it was synced stays as it is in a crash. -/
theorem crashN_stable (D : DataW Nat) (c : Nat → Option (List UInt8 × List UInt8 × List FA)) (ks : List (List UInt8)) (us : List Int) (f : Nat) (l : List UInt8) (h : c f = some (l, l, [])) : crashN D c ks us f = some (l, l, []) := by
  induction ks generalizing c us with
  | nil => exact h
  | cons k ks ih =>
    simp only [crashN]
    refine ih _ _ ?_
    cases dget D k with
    | none => exact h
    | some g =>
      show crash1 c g (us.headD 0) f = _
      unfold crash1
      by_cases e : f = g
      · rw [if_pos e, ← e, h]; rfl
      · rw [if_neg e]; exact h
/-- A file in a crash is as it was, or the bytes that last and a beginning of what was done since. -/
theorem crashN_cases (D : DataW Nat) (c : Nat → Option (List UInt8 × List UInt8 × List FA)) (ks : List (List UInt8)) (us : List Int) (f : Nat) (now last : List UInt8) (acts : List FA) (h : c f = some (now, last, acts)) :
    crashN D c ks us f = some (now, last, acts) ∨ ∃ u, crashN D c ks us f = some (settleL last acts u, settleL last acts u, []) := by
  induction ks generalizing c us with
  | nil => exact .inl h
  | cons k ks ih =>
    simp only [crashN]
    cases dget D k with
    | none => exact ih _ _ h
    | some g =>
      by_cases e : f = g
      · subst e
        right
        refine ⟨us.headD 0, crashN_stable D _ ks _ f _ ?_⟩
        show crash1 c f (us.headD 0) f = _
        unfold crash1
        rw [if_pos rfl, h]
        rfl
      · refine ih _ _ ?_
        show crash1 c g (us.headD 0) f = _
        unfold crash1
        rw [if_neg e]
        exact h
/-- What Read tells, of a disk that is up. -/
theorem read_of {G : DG} {k : ByteArray} {f : Nat} {now last : List UInt8} {acts : List FA} (hd : G.down = false) (hg : dget G.D k.data.toList = some f) (hc : G.core f = some (now, last, acts)) : readS G k = ⟨now.toArray⟩ ∧ readE G k = 0 := by
  obtain ⟨F, hF, e⟩ := file_some hc
  have e1 : F.now = now := congrArg Prod.fst e
  unfold readS readE
  simp only [hd, hg, hF, e1]
  exact ⟨rfl, by simp⟩

end Go.Proofs.YtknldpaaikcedaaGreat
