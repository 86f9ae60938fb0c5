/-
  What a deed does to a disk's bytes.
-/
import Derived.Test.YtdlaicbdconbcaaOps
namespace Go.Proofs.Ytdlaicbdconbcaa
open Go.RowKit Go.Maps Go.Sort

structure Framed (G G' : DG) : Prop where
  room : G'.room = G.room
  fuse : G'.fuse = G.fuse
  down : G'.down = G.down
  n0 : G.n ≤ G'.n
  n1 : G'.n ≤ G.n + 1
  q : G'.q = G.q
theorem does_frame {o : Dd} {G G' : DG} {p : Int} (h : does p o G G') : Framed G G' := by
  rcases does_cases h with ⟨hp, f, c⟩ | ⟨hp, f, F, F', x, _, _, c⟩ | ⟨hp, f, F, F', _, _, c⟩ | ⟨hp, f, x, _, c, _⟩ | ⟨hp, f, F, F', x, _, _, _, c⟩ | ⟨hp, f, x, _, c, _⟩ | ⟨_, c⟩
  all_goals exact ⟨c.room, c.fuse, c.down, by rw [c.n]; omega, by rw [c.n]; omega, c.q⟩
theorem rename_run {D : DataW Nat} {x : DA} {s t : ByteArray} {f : Nat} (h1 : x.kind = 1) (h2 : x.a = s) (h3 : x.b = t) (hg : dget D s.data.toList = some f) : x.run D = dput (ddel D s.data.toList) t.data.toList f := by
  unfold DA.run
  rw [h1]
  simp only [h2, h3, hg]
theorem remove_run {D : DataW Nat} {x : DA} {s : ByteArray} (h1 : x.kind = 2) (h2 : x.a = s) : x.run D = ddel D s.data.toList := by
  unfold DA.run
  rw [h1]
  simp only [h2]
theorem does_inj {w : World} {b : Nat} {o : Dd} {G G' : DG} {p : Int} (hr : Rep w b G) (hi : Inj G.D) (h : does p o G G') : Inj G'.D := by
  rcases does_cases h with ⟨hp, f, c⟩ | ⟨hp, f, F, F', x, _, _, c⟩ | ⟨hp, f, F, F', _, _, c⟩ | ⟨hp, f, x, hg, c, h1, h2, h3⟩ | ⟨hp, f, F, F', x, _, _, _, c⟩ | ⟨hp, f, x, hg, c, h1, h2⟩ | ⟨_, c⟩
  · rw [c.D]
    exact inj_put hr.now.isMap hi _ _ fun k' e => (hr.knownD k' f e).1 c.fresh
  · rw [c.D]; exact hi
  · rw [c.D]; exact hi
  · rw [c.D, rename_run h1 h2 h3 hg]
    exact inj_rename hr.now.isMap hi _ _ _ hg
  · rw [c.D]; exact hi
  · rw [c.D, remove_run h1 h2]
    exact inj_del hi _
  · rw [c.D]; exact hi
theorem flenF_upd (file : Nat → Option FG) (f : Nat) (F' : FG) : flenF (fun j => if j = f then some F' else file j) f = F'.now.length := by
  unfold flenF
  simp
theorem flenF_upd_le {file : Nat → Option FG} {f : Nat} {F F' : FG} (hF : file f = some F) (hle : F'.now.length ≤ F.now.length) (j : Nat) : flenF (fun j => if j = f then some F' else file j) j ≤ flenF file j := by
  by_cases e : j = f
  · subst e
    rw [flenF_upd]
    unfold flenF
    rw [hF]
    exact hle
  · unfold flenF
    simp only [if_neg e]
    exact Nat.le_refl _
theorem flenF_of {file : Nat → Option FG} {f : Nat} {F : FG} (hF : file f = some F) : flenF file f = F.now.length := by
  unfold flenF
  rw [hF]
/-- But an Append none has more bytes than before; it has so many more. -/
theorem does_used {w w' : World} {b : Nat} {o : Dd} {G G' : DG} {p : Int} (hr : Rep w b G) (hr' : Rep w' b G') (hi : Inj G.D) (h : does p o G G') : used G' ≤ used G ∨ (p = 1 ∧ used G' = used G + o.b.size) := by
  rw [used_eq hr, used_eq hr']
  rcases does_cases h with ⟨hp, f, c⟩ | ⟨hp, f, F, F', x, hg, hF, c⟩ | ⟨hp, f, F, F', hg, hF, c⟩ | ⟨hp, f, x, hg, c, h1, h2, h3⟩ | ⟨hp, f, F, F', x, hg, hF, hm, c⟩ | ⟨hp, f, x, hg, c, h1, h2⟩ | ⟨_, c⟩
  · left
    rw [c.D, usedE_put hr.now.isMap]
    have h0 : flenF G'.file f = 0 := by rw [c.file, flenF_upd]; rfl
    have h1 : usedE (ddel G.D o.a.data.toList) G'.file ≤ usedE (ddel G.D o.a.data.toList) G.file := usedE_le _ fun j => by
      rw [c.file]
      by_cases e : j = f
      · subst e; rw [flenF_upd]; exact Nat.zero_le _
      · unfold flenF; simp only [if_neg e]; exact Nat.le_refl _
    have h2 := usedE_del G.D o.a.data.toList G.file
    omega
  · right
    refine ⟨hp, ?_⟩
    have h1 := usedE_grow hr.now hi hg (file := G.file) (file' := G'.file) fun j e => by rw [c.file]; simp only [if_neg e]
    rw [c.D]
    rw [flenF_of hF, show flenF G'.file f = F'.now.length by rw [c.file, flenF_upd], c.now] at h1
    have h2 : (FA.run (FA.mk false x o.b 0) F.now (FA.units (FA.mk false x o.b 0))).length = F.now.length + o.b.size := by simp [FA.run, FA.units]
    rw [h2] at h1
    omega
  · left
    rw [c.D]
    exact usedE_le _ fun j => by rw [c.file]; exact flenF_upd_le hF (by rw [c.now]; exact Nat.le_refl _) j
  · left
    rw [c.D, c.file, rename_run h1 h2 h3 hg]
    obtain ⟨es, hes⟩ := hr.now.isMap
    have hm : IsMap (ddel G.D o.a.data.toList) := by rw [hes]; exact ⟨_, rfl⟩
    rw [usedE_put hm]
    have e1 := usedE_del (ddel G.D o.a.data.toList) o.b.data.toList G.file
    have e2 := usedE_split hr.now hg G.file
    omega
  · left
    rw [c.D]
    refine usedE_le _ fun j => by
      rw [c.file]
      exact flenF_upd_le hF (by rw [c.now]; simp [FA.run]; omega) j
  · left
    rw [c.D, c.file, remove_run h1 h2]
    exact usedE_del _ _ _
  · left
    rw [c.D, c.file]
    exact Nat.le_refl _
theorem Rep.tickRep {w : World} {b : Nat} {G : DG} (h : Rep w b G) : ∃ w1, Rep w1 b G.tick := ⟨_, h.tick.rep⟩
/-- A disk without a fuse: a deed is refused, or done. -/
theorem one_room {w w' : World} {b : Nat} {o : Dd} {G G' : DG} {er : Int} (hr : Rep w b G) (hr' : Rep w' b G') (hi : Inj G.D) (hd : G.down = false) (hf : G.fuse = -1) (hu : (used G : Int) ≤ G.room) (h : OneR o G er G') :
    G'.down = false ∧ G'.fuse = -1 ∧ G'.room = G.room ∧ G'.q = G.q ∧ G'.n ≤ G.n + 1 ∧ Inj G'.D ∧ (used G' : Int) ≤ G.room ∧ (er ≠ 0 → used G' = used G) := by
  obtain ⟨wt, ht⟩ := hr.tickRep
  rcases h with ⟨e, _⟩ | ⟨_, e0, rfl, rfl⟩ | ⟨_, _, e, _⟩ | ⟨_, hrf, _, rfl, dd⟩
  · rw [hd] at e; cases e
  · exact ⟨hd, hf, rfl, rfl, by omega, hi, hu, fun _ => rfl⟩
  · rw [hf] at e; cases e
  · have fr := does_frame dd
    have e1 : G.tick.fuse = -1 := by show (if 0 < G.fuse then G.fuse - 1 else G.fuse) = _; rw [hf]; rfl
    refine ⟨fr.down.trans hd, fr.fuse.trans e1, fr.room, fr.q, fr.n1, does_inj ht hi dd, ?_, fun e => absurd rfl e⟩
    rcases does_used ht hr' hi dd with e | ⟨hp, e⟩
    · have : used G' ≤ used G := e
      omega
    · have e3 : used G' = used G + o.b.size := e
      have hrf2 : rfAppend G o.a o.b = 0 := by
        have := hrf
        unfold refuse at this
        rw [hp] at this
        simpa using this
      unfold rfAppend at hrf2
      split at hrf2
      · cases hrf2
      · split at hrf2
        · cases hrf2
        · rename_i h8
          omega
end Go.Proofs.Ytdlaicbdconbcaa
