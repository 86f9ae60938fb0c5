/-
  Two disks beside each other; a crash that keeps all; two lists of texts that are the same.
-/
import Derived.Test.YtdlaicbdconbcaaCont
import Derived.Test.YtdlaicbdconbcaaDeeds
namespace Go.Proofs.Ytdlaicbdconbcaa
open Go.RowKit Go.Maps Go.Sort

structure Two (w0 w : World) (ba : Nat) (Ga : DG) (bb : Nat) (Gb : DG) : Prop where
  ra : Rep w ba Ga
  rb : Rep w bb Gb
  dj : ∀ j, Ga.own j → Gb.role j = (0, 0)
  below : RowKit.Below w0.heap.size w0 w
  oa : ∀ j, Ga.own j → w0.heap.size ≤ j
  ob : ∀ j, Gb.own j → w0.heap.size ≤ j
variable {w0 w w' : World} {ba bb : Nat} {Ga Gb G' : DG}
theorem Two.stepA (h : Two w0 w ba Ga bb Gb) (s : Step w ba Ga w' G') : Two w0 w' ba G' bb Gb :=
  ⟨s.rep, s.other h.rb h.dj, fun j e => by
    rcases s.grow j e with e | e
    · exact h.dj j e
    · exact fresh_role h.rb j e, (Step.old h.below h.oa s).1, (Step.old h.below h.oa s).2, h.ob⟩
theorem Two.stepB (h : Two w0 w ba Ga bb Gb) (s : Step w bb Gb w' G') : Two w0 w' ba Ga bb G' :=
  have hd : ∀ j, Gb.own j → Ga.role j = (0, 0) := fun j e => Classical.byContradiction fun e1 => e (h.dj j e1)
  ⟨s.other h.ra hd, s.rep, fun j e => Classical.byContradiction fun e1 => by
    rcases s.grow j e1 with e2 | e2
    · exact e2 (h.dj j e)
    · have := h.ra.lt j e
      omega, (Step.old h.below h.ob s).1, h.oa, (Step.old h.below h.ob s).2⟩
theorem Two.past (h : Two w0 w ba Ga bb Gb) (hb : RowKit.Below w.heap.size w w') : Two w0 w' ba Ga bb Gb := h.stepA (Step.of_below h.ra hb)

/-- A crash that keeps all. -/
theorem crashN_keep (D : DataW Nat) (c : Nat → Option (List UInt8 × List UInt8 × List FA)) (ks : List (List UInt8)) (m : Nat) (u : Int) (hm : ks.length ≤ m) (f : Nat) (now : List UInt8) (h : ∃ last acts, c f = some (now, last, acts) ∧ settleL last acts u = now) :
    ∃ last acts, crashN D c ks (List.replicate m u) f = some (now, last, acts) ∧ settleL last acts u = now := by
  induction ks generalizing c m with
  | nil => exact h
  | cons k ks ih =>
    simp only [crashN]
    obtain ⟨j, rfl⟩ : ∃ j, m = j + 1 := ⟨m - 1, by simp at hm; omega⟩
    rw [show (List.replicate (j + 1) u).tail = List.replicate j u from rfl, show (List.replicate (j + 1) u).headD 0 = u from rfl]
    refine ih _ j (by simp at hm; omega) ?_
    cases dget D k with
    | none => exact h
    | some g =>
      show ∃ last acts, crash1 c g u f = _ ∧ _
      unfold crash1
      by_cases e : f = g
      · subst e
        obtain ⟨last, acts, h1, h2⟩ := h
        rw [if_pos rfl, h1]
        refine ⟨now, [], ?_, rfl⟩
        show some (settleL last acts u, settleL last acts u, []) = _
        rw [h2]
      · rw [if_neg e]
        exact h
theorem crash_keeps {w : World} {b : Nat} {G G' : DG} (h : Rep w b G) (hn : G.n ≤ 60) (hq : G.q = 1000) (c : Crashed G G' 1000 (List.replicate 60 1000000)) : cont G' = cont G := by
  have hX : dmany 1000 G.X.length = G.X.length := by
    have := h.few
    unfold dmany
    omega
  have hD : G'.D = G.D := by rw [c.D, hX, List.take_length, ← h.eq]
  funext k
  unfold cont
  rw [hD]
  cases hg : dget G.D k with
  | none => rfl
  | some f =>
    obtain ⟨F, hF⟩ := h.fileOf hg
    have hat := h.files f F hF
    have hbig := hat.big
    have hmul : G.n * G.q ≤ 60 * 1000 := Nat.mul_le_mul hn (by omega)
    have hset : settleL F.last F.acts 1000000 = F.now := by rw [settleL_all _ _ _ (by omega), ← hat.eq]
    have hlen : (dnames G.D).length ≤ 60 := by rw [names_length h]; have := h.now.size_le; omega
    obtain ⟨last, acts, h1, _⟩ := crashN_keep G.D G.core (dnames G.D) 60 1000000 hlen f F.now ⟨F.last, F.acts, core_some hF, hset⟩
    have h2 : G'.core f = some (F.now, last, acts) := by rw [c.core, hD]; exact h1
    obtain ⟨F', hF', e⟩ := file_some h2
    show (G'.file f).map FG.now = (G.file f).map FG.now
    rw [hF, hF']
    exact congrArg some (congrArg Prod.fst e)
theorem read_cont {w : World} {b : Nat} {G : DG} (h : Rep w b G) (hd : G.down = false) (k : ByteArray) : readS G k = ⟨((cont G k.data.toList).getD []).toArray⟩ := by
  cases hg : dget G.D k.data.toList with
  | none =>
    rw [cont_nil hg]
    unfold readS
    simp [hd, hg]
  | some f =>
    obtain ⟨F, hF⟩ := h.fileOf hg
    rw [cont_of hg hF]
    exact (read_of hd hg (core_some hF)).1

/-- Texts of names that lie somewhere. -/
def TextsAt (w : World) (ao : Option Addr) (ss : List (List UInt8)) : Prop := ∀ i (hi : i < ss.length), ∃ g, ao = some ⟨g, 0, none⟩ ∧ w.cell? ⟨g, i, none⟩ = some (.string ⟨ss[i].toArray⟩)
theorem texts_row {w : World} {base n cp : Nat} {ao : Option Addr} {ss : List (List UInt8)} (hn : n = ss.length) (h : w.ownsRow base 9 1 (.slice ao n cp) n (ss.map encStr)) : TextsAt w ao ss := fun i hi => by
  subst hn
  obtain ⟨g, cap, hform, _, _⟩ := h.form (by omega)
  obtain ⟨rfl, rfl⟩ : ao = some ⟨g, 0, none⟩ ∧ cp = cap := by cases hform; exact ⟨rfl, rfl⟩
  have hat : (ss.map encStr)[i]? = some (.string ⟨ss[i].toArray⟩) := by rw [List.getElem?_map, List.getElem?_eq_getElem hi]; rfl
  exact ⟨g, rfl, (row_cell h i _ hat).1⟩
set_option maxRecDepth 100000 in
set_option maxHeartbeats 4000000 in
theorem texts_same (ao bo : Option Addr) (ca cb : Nat) (ss : List (List UInt8)) (w : World) (hl : ss.length ≤ 100000) (ha : TextsAt w ao ss) (hb : TextsAt w bo ss) :
    Calls Try.prog 24 #[.slice ao ss.length ca, .slice bo ss.length cb] w fun e w' => e = .returned (.bool true) ∧ RowKit.Below w.heap.size w w' := by
  have HA := hide ha
  have HB := hide hb
  clear ha hb
  go_enter Try.func24, Try.ntmps24
  go_wp2
  go_loopw [5] (fun iv wv => ∃ i n : Nat, iv = .int .i64 i ∧ i ≤ ss.length ∧ wv = w.drewN n) (fun iv _ => ss.length - (intOf iv).toNat)
  case atStart => exact ⟨0, 0, rfl, Nat.zero_le _, rfl⟩
  case round =>
    obtain ⟨i, n, rfl, hi, rfl⟩ := hrel
    by_cases hlt : i < ss.length
    · obtain ⟨g, rfl, c1⟩ := HA.out i hlt
      obtain ⟨g', rfl, c2⟩ := HB.out i hlt
      obtain ⟨nm, hnm⟩ : ∃ nm : ByteArray, (⟨ss[i].toArray⟩ : ByteArray) = nm := ⟨_, rfl⟩
      rw [hnm] at c1 c2
      clear hnm
      have hi0 : (0 : Int) ≤ (i : Int) := by omega
      have hi1 : (i : Int) < (ss.length : Int) := by omega
      go_wp2
      go_quiet (fail)
      go_wp2
      go_roundw
      case rel => exact ⟨i + 1, n + nq, by go_num, by omega, by first | rfl | exact World.drewN_drewN⟩
      case measure => simp [intOf]; omega
    · have hi1 : ¬ (i : Int) < (ss.length : Int) := by omega
      go_wp2
      go_ret
      exact ⟨rfl, below_drewN (Below.refl _ w) n⟩
end Go.Proofs.Ytdlaicbdconbcaa
