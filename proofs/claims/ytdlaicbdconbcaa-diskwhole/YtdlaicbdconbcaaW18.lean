/-
  A disk as the laws see it: its numbers, its names, what its files hold; what each call makes of it.
-/
import Derived.Test.YtdlaicbdconbcaaW17
namespace Go.Proofs.Ytdlaicbdconbcaa
open Go.RowKit Go.Maps Go.Sort

/-- What a disk is, but for where it lies. -/
structure Is (G : DG) (room fuse : Int) (down : Bool) (D LD : DataW Nat) (X : List DA) (n q : Nat) : Prop where
  room : G.room = room
  fuse : G.fuse = fuse
  down : G.down = down
  D : G.D = D
  LD : G.LD = LD
  X : G.X = X
  n : G.n = n
  q : G.q = q
def tickF (z : Int) : Int := if 0 < z then z - 1 else z
section
variable {G G' : DG} {room fuse : Int} {down : Bool} {D LD : DataW Nat} {X : List DA} {n q f : Nat} {F F' : FG} {a : FA} {x : DA} {s : ByteArray}
theorem Is.tick (h : Is G room fuse down D LD X n q) : Is G.tick room (tickF fuse) down D LD X n q := ⟨h.room, by show (if 0 < G.fuse then G.fuse - 1 else G.fuse) = _; rw [h.fuse]; rfl, h.down, h.D, h.LD, h.X, h.n, h.q⟩
theorem tick_core (G : DG) : G.tick.core = G.core := rfl
theorem tick_file (G : DG) : G.tick.file = G.file := rfl
theorem Is.fall (h : Is G room fuse down D LD X n q) : Is G.fall room fuse true D LD X n q := ⟨h.room, h.fuse, rfl, h.D, h.LD, h.X, h.n, h.q⟩
theorem fall_core (G : DG) : G.fall.core = G.core := rfl
theorem core_some (hF : G.file f = some F) : G.core f = some F.core := by unfold DG.core; rw [hF]; rfl
theorem file_some {c : List UInt8 × List UInt8 × List FA} (h : G.core f = some c) : ∃ F, G.file f = some F ∧ F.core = c := by
  unfold DG.core at h
  cases hF : G.file f with
  | none => rw [hF] at h; cases h
  | some F => rw [hF] at h; exact ⟨F, rfl, by simpa using h⟩
theorem Is.created (h : Is G room fuse down D LD X n q) (c : Created G.tick G' s f) : (∃ x : DA, x.kind = 0 ∧ x.a = s ∧ x.id = f ∧ Is G' room (tickF fuse) down (dput D s.data.toList f) LD (X ++ [x]) (n + 1) q) ∧ G.core f = none ∧ G'.core = fun j => if j = f then some ([], [], []) else G.core j := by
  have t := h.tick
  obtain ⟨x, x1, x2, x3, x4⟩ := c.X
  refine ⟨⟨x, x1, x2, x3, c.room.trans t.room, c.fuse.trans t.fuse, c.down.trans t.down, by rw [c.D, t.D], c.LD.trans t.LD, by rw [x4, t.X], by rw [c.n, t.n], c.q.trans t.q⟩, ?_, ?_⟩
  · unfold DG.core; rw [show G.file f = none from c.fresh]; rfl
  · funext j
    unfold DG.core
    rw [c.file]
    by_cases e : j = f
    · simp only [if_pos e]; rfl
    · simp only [if_neg e]; rfl
theorem Is.named (h : Is G room fuse down D LD X n q) (c : Named G.tick G' x) : Is G' room (tickF fuse) down (x.run D) LD (X ++ [x]) (n + 1) q ∧ G'.core = G.core := by
  have t := h.tick
  refine ⟨⟨c.room.trans t.room, c.fuse.trans t.fuse, c.down.trans t.down, by rw [c.D, t.D], c.LD.trans t.LD, by rw [c.X, t.X], by rw [c.n, t.n], c.q.trans t.q⟩, ?_⟩
  unfold DG.core
  rw [c.file]
  rfl
theorem Is.acted (h : Is G room fuse down D LD X n q) (c : Acted G.tick G' f F F' a) : Is G' room (tickF fuse) down D LD X (n + 1) q ∧ G'.core = fun j => if j = f then some (a.run F.now a.units, F.last, F.acts ++ [a]) else G.core j := by
  have t := h.tick
  refine ⟨⟨c.room.trans t.room, c.fuse.trans t.fuse, c.down.trans t.down, c.D.trans t.D, c.LD.trans t.LD, c.X.trans t.X, by rw [c.n, t.n], c.q.trans t.q⟩, ?_⟩
  funext j
  unfold DG.core
  rw [c.file]
  by_cases e : j = f
  · simp only [if_pos e, Option.map_some, FG.core, c.now, c.last, c.acts]
  · simp only [if_neg e]; rfl
theorem Is.synced (h : Is G room fuse down D LD X n q) (c : Synced G.tick G' f F F') : Is G' room (tickF fuse) down D LD X n q ∧ G'.core = fun j => if j = f then some (F.now, F.now, []) else G.core j := by
  have t := h.tick
  refine ⟨⟨c.room.trans t.room, c.fuse.trans t.fuse, c.down.trans t.down, c.D.trans t.D, c.LD.trans t.LD, c.X.trans t.X, c.n.trans t.n, c.q.trans t.q⟩, ?_⟩
  funext j
  unfold DG.core
  rw [c.file]
  by_cases e : j = f
  · simp only [if_pos e, Option.map_some, FG.core, c.now, c.last, c.acts]
  · simp only [if_neg e]; rfl
theorem Is.dirsynced (h : Is G room fuse down D LD X n q) (c : DirSynced G.tick G') : Is G' room (tickF fuse) down D D [] n q ∧ G'.core = G.core := by
  have t := h.tick
  refine ⟨⟨c.room.trans t.room, c.fuse.trans t.fuse, c.down.trans t.down, c.D.trans t.D, by rw [c.LD, t.D], c.X, c.n.trans t.n, c.q.trans t.q⟩, ?_⟩
  unfold DG.core
  rw [c.file]
  rfl
theorem Is.crashed {dirs : Int} {us : List Int} (h : Is G room fuse down D LD X n q) (c : Crashed G G' dirs us) : Is G' room (-1) false (drunAll LD (X.take (dmany dirs X.length))) (drunAll LD (X.take (dmany dirs X.length))) [] n q ∧ G'.core = crashN (drunAll LD (X.take (dmany dirs X.length))) G.core (dnames (drunAll LD (X.take (dmany dirs X.length)))) us := by
  have hD : G'.D = drunAll LD (X.take (dmany dirs X.length)) := by rw [c.D, h.LD, h.X]
  refine ⟨⟨c.room.trans h.room, c.fuse, c.down, hD, c.LD.trans hD, c.X, c.n.trans h.n, c.q.trans h.q⟩, ?_⟩
  rw [c.core, hD]
theorem Fresh.is {room : Int} {q : Nat} (h : Fresh G room q) : Is G room (-1) false (.map []) (.map []) [] 0 q ∧ G.core = fun _ => none := by
  refine ⟨⟨h.room, h.fuse, h.down, h.D, h.LD, h.X, h.n, h.q⟩, ?_⟩
  unfold DG.core
  rw [h.file]
  rfl
end
/-- A file that has no acts since it was synced stays as it is in a crash. -/
theorem crashN_stable (D : DataW Nat) (c : Nat → Option (List UInt8 × List UInt8 × List FA)) (ks : List (List UInt8)) (us : List Int) (f : Nat) (l : List UInt8) (h : c f = some (l, l, [])) : crashN D c ks us f = some (l, l, []) := by
  induction ks generalizing c us with
  | nil => exact h
  | cons k ks ih =>
    simp only [crashN]
    refine ih _ _ ?_
    cases dget D k with
    | none => exact h
    | some g =>
      show crash1 c g (us.headD 0) f = _
      unfold crash1
      by_cases e : f = g
      · rw [if_pos e, ← e, h]; rfl
      · rw [if_neg e]; exact h
/-- A file in a crash is as it was, or the bytes that last and a beginning of what was done since. -/
theorem crashN_cases (D : DataW Nat) (c : Nat → Option (List UInt8 × List UInt8 × List FA)) (ks : List (List UInt8)) (us : List Int) (f : Nat) (now last : List UInt8) (acts : List FA) (h : c f = some (now, last, acts)) :
    crashN D c ks us f = some (now, last, acts) ∨ ∃ u, crashN D c ks us f = some (settleL last acts u, settleL last acts u, []) := by
  induction ks generalizing c us with
  | nil => exact .inl h
  | cons k ks ih =>
    simp only [crashN]
    cases dget D k with
    | none => exact ih _ _ h
    | some g =>
      by_cases e : f = g
      · subst e
        right
        refine ⟨us.headD 0, crashN_stable D _ ks _ f _ ?_⟩
        show crash1 c f (us.headD 0) f = _
        unfold crash1
        rw [if_pos rfl, h]
        rfl
      · refine ih _ _ ?_
        show crash1 c g (us.headD 0) f = _
        unfold crash1
        rw [if_neg e]
        exact h
/-- What Read tells, of a disk that is up. -/
theorem read_of {G : DG} {k : ByteArray} {f : Nat} {now last : List UInt8} {acts : List FA} (hd : G.down = false) (hg : dget G.D k.data.toList = some f) (hc : G.core f = some (now, last, acts)) : readS G k = ⟨now.toArray⟩ ∧ readE G k = 0 := by
  obtain ⟨F, hF, e⟩ := file_some hc
  have e1 : F.now = now := congrArg Prod.fst e
  unfold readS readE
  simp only [hd, hg, hF, e1]
  exact ⟨rfl, by simp⟩

end Go.Proofs.Ytdlaicbdconbcaa
