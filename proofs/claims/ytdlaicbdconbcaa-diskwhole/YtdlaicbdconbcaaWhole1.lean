/-
  A disk that never goes down against two lists: its names, and the bytes of each.
-/
import Derived.Test.YtdlaicbdconbcaaTwo
namespace Go.Proofs.Ytdlaicbdconbcaa
open Go.RowKit Go.Maps Go.Sort

/-- The names and the bytes of each, behind so many deeds. -/
structure WRel (w : World) (b : Nat) (G : DG) (N B : List (List UInt8)) (i : Nat) : Prop where
  rep : Rep w b G
  len : N.length = B.length
  nodup : N.Nodup
  hit : ∀ (j : Nat) (x y : List UInt8), N[j]? = some x → B[j]? = some y → cont G x = some y
  miss : ∀ k, k ∉ N → cont G k = none
  inj : Inj G.D
  down : G.down = false
  fuse : G.fuse = -1
  room : G.room = 1000000000
  q : G.q = 1000
  n : G.n ≤ i
  few : i ≤ 60
variable {w w' : World} {b : Nat} {G G' : DG} {N B : List (List UInt8)} {i : Nat} {er : Int}
theorem WRel.size (h : WRel w b G N B i) : Maps.size G.D ≤ 60 := by
  have h1 := h.rep.now.size_le
  have h2 := h.n
  have h3 := h.few
  omega
theorem WRel.used (h : WRel w b G N B i) : used G ≤ 3600000 := by
  rw [used_names]
  have h1 := usedL_le h.rep (dnames G.D)
  rw [names_length h.rep] at h1
  have h2 := h.size
  have h3 : G.n * G.q ≤ 60 * 1000 := Nat.mul_le_mul (Nat.le_trans h.n h.few) (by rw [h.q]; omega)
  have h4 : Maps.size G.D * (G.n * G.q) ≤ 60 * (60 * 1000) := Nat.mul_le_mul h2 h3
  omega
theorem WRel.mem (h : WRel w b G N B i) (k : List UInt8) : k ∈ N ↔ dget G.D k ≠ none := by
  constructor
  · intro hk e
    obtain ⟨j, hj, rfl⟩ := List.getElem_of_mem hk
    have hj' : j < B.length := by rw [← h.len]; exact hj
    have := h.hit j N[j] B[j] (List.getElem?_eq_getElem hj) (List.getElem?_eq_getElem hj')
    rw [cont_nil e] at this
    cases this
  · intro hd
    exact Classical.byContradiction fun e => hd ((cont_none h.rep k).1 (h.miss k e))
/-- A disk without a fuse that is up. -/
theorem res_up {rf : Int} {does : Prop} (hd : G.down = false) (hf : G.fuse = -1) (h : Res rf does G er G') : (rf ≠ 0 ∧ er = rf ∧ G' = G) ∨ (rf = 0 ∧ er = 0 ∧ does) := by
  rcases h with ⟨e, _⟩ | ⟨_, e1, e2, e3⟩ | ⟨_, _, e, _⟩ | ⟨_, e1, _, e2, e3⟩
  · rw [hd] at e; cases e
  · exact .inl ⟨e1, e2, e3⟩
  · rw [hf] at e; cases e
  · exact .inr ⟨e1, e2, e3⟩
theorem WRel.same (h : WRel w b G N B i) (s : Step w b G w' G') (e : G' = G) (hi : i < 60) : WRel w' b G' N B (i + 1) := by
  subst e
  exact ⟨s.rep, h.len, h.nodup, h.hit, h.miss, h.inj, h.down, h.fuse, h.room, h.q, by have := h.n; omega, by omega⟩
/-- What a deed that was done leaves of it. -/
theorem WRel.done {o : Dd} {p : Int} {N' B' : List (List UInt8)} (h : WRel w b G N B i) (s : Step w b G w' G') (d : does p o G.tick G') (hi : i < 60) (hl : N'.length = B'.length) (hn : N'.Nodup)
    (hh : ∀ (j : Nat) (x y : List UInt8), N'[j]? = some x → B'[j]? = some y → vrun p o (cont G) x = some y) (hm : ∀ k, k ∉ N' → vrun p o (cont G) k = none) : WRel w' b G' N' B' (i + 1) := by
  have fr := does_frame d
  obtain ⟨wt, hrt⟩ := h.rep.tickRep
  have hc0 : cont G' = vrun p o (cont G.tick) := does_cont hrt h.inj d
  have hc : cont G' = vrun p o (cont G) := hc0
  have n1 := fr.n1
  have n2 : G.tick.n = G.n := rfl
  have hn0 := h.n
  refine ⟨s.rep, hl, hn, fun j x y h1 h2 => by rw [hc]; exact hh j x y h1 h2, fun k hk => by rw [hc]; exact hm k hk, does_inj hrt h.inj d, fr.down.trans h.down, ?_, fr.room.trans h.room, fr.q.trans h.q, by omega, by omega⟩
  rw [fr.fuse]
  show (if 0 < G.fuse then G.fuse - 1 else G.fuse) = _
  rw [h.fuse]
  rfl
theorem whole_create (h : WRel w b G N B i) (hi : i < 60) (s : ByteArray) (st : Step w b G w' G') (rs : Res (rfCreate G s) (dCreate G.tick s G') G er G') :
    (er = 0 ∧ s.data.toList ∉ N ∧ isName s = true ∧ WRel w' b G' (N ++ [s.data.toList]) (B ++ [[]]) (i + 1)) ∨ (er ≠ 0 ∧ ¬ (s.data.toList ∉ N ∧ isName s = true) ∧ WRel w' b G' N B (i + 1)) := by
  have hsz := h.size
  rcases res_up h.down h.fuse rs with ⟨e1, e2, e3⟩ | ⟨e1, e2, e3⟩
  · refine .inr ⟨by rw [e2]; exact e1, fun ⟨h1, h2⟩ => e1 ?_, h.same st e3 hi⟩
    have hd : dget G.D s.data.toList = none := Classical.byContradiction fun e => h1 ((h.mem _).2 e)
    unfold rfCreate
    rw [if_neg (by rw [h2]; decide), if_neg (by rw [hd]; simp), if_neg (by omega)]
  · have hnm : isName s = true := by
      cases hn : isName s with
      | true => rfl
      | false => exfalso; unfold rfCreate at e1; rw [if_pos hn] at e1; cases e1
    have hd : dget G.D s.data.toList = none := by
      cases hg : dget G.D s.data.toList with
      | none => rfl
      | some f => exfalso; unfold rfCreate at e1; rw [if_neg (by rw [hnm]; decide), if_pos (by rw [hg]; simp)] at e1; cases e1
    have hni : s.data.toList ∉ N := fun e => (h.mem _).1 e hd
    refine .inl ⟨e2, hni, hnm, h.done (o := ⟨0, s, .empty, 0, none, 0, 0⟩) (p := 0) st e3 hi (by simp [h.len]) ?_ ?_ ?_⟩
    · exact List.nodup_append.2 ⟨h.nodup, by simp, fun a ha c hc e => by
        simp at hc
        subst hc
        exact hni (e ▸ ha)⟩
    · intro j x y h1 h2
      show (if x = s.data.toList then some [] else cont G x) = some y
      by_cases hj : j < N.length
      · rw [List.getElem?_append_left hj] at h1
        rw [List.getElem?_append_left (by rw [← h.len]; exact hj)] at h2
        have hne : x ≠ s.data.toList := fun e => hni (e ▸ List.mem_of_getElem? h1)
        rw [if_neg hne]
        exact h.hit j x y h1 h2
      · rw [List.getElem?_append_right (by omega)] at h1
        rw [List.getElem?_append_right (by rw [← h.len]; omega), ← h.len] at h2
        cases hjn : j - N.length with
        | zero =>
          rw [hjn] at h1 h2
          simp at h1 h2
          rw [if_pos h1.symm, h2]
        | succ m =>
          rw [hjn] at h1
          simp at h1
    · intro k hk
      simp only [List.mem_append, List.mem_singleton, not_or] at hk
      show (if k = s.data.toList then some [] else cont G k) = none
      rw [if_neg hk.2]
      exact h.miss k hk.1
/-- Changing the bytes of one name. -/
theorem WRel.put {o : Dd} {p : Int} {a y' : List UInt8} {m : Nat} (h : WRel w b G N B i) (s : Step w b G w' G') (d : does p o G.tick G') (hi : i < 60) (ha : N[m]? = some a)
    (hv : ∀ k, vrun p o (cont G) k = if k = a then some y' else cont G k) : WRel w' b G' N (B.set m y') (i + 1) := by
  have hmem : a ∈ N := List.mem_of_getElem? ha
  have hm : m < N.length := (List.getElem?_eq_some_iff.1 ha).1
  refine h.done s d hi (by simp [h.len]) h.nodup ?_ ?_
  · intro j x y h1 h2
    rw [hv]
    by_cases e : x = a
    · subst e
      have hj : j = m := by
        have hj' := (List.getElem?_eq_some_iff.1 h1).1
        exact (List.getElem?_inj hj' h.nodup).1 (h1.trans ha.symm)
      subst hj
      rw [if_pos rfl]
      rw [List.getElem?_set] at h2
      rw [if_pos rfl] at h2
      split at h2
      · exact h2
      · cases h2
    · rw [if_neg e]
      have hj : m ≠ j := fun e1 => e (by subst e1; exact Option.some.inj (h1.symm.trans ha))
      rw [List.getElem?_set_ne hj] at h2
      exact h.hit j x y h1 h2
  · intro k hk
    rw [hv, if_neg (show ¬ k = a from fun e => hk (e ▸ hmem))]
    exact h.miss k hk
theorem WRel.at (h : WRel w b G N B i) {m : Nat} {a : List UInt8} (ha : N[m]? = some a) : ∃ y, B[m]? = some y ∧ cont G a = some y := by
  have hm : m < B.length := by rw [← h.len]; exact (List.getElem?_eq_some_iff.1 ha).1
  exact ⟨B[m], List.getElem?_eq_getElem hm, h.hit m a _ ha (List.getElem?_eq_getElem hm)⟩
theorem whole_append (h : WRel w b G N B i) (hi : i < 60) (k s : ByteArray) (hs : s.size ≤ 1000) (st : Step w b G w' G') (rs : Res (rfAppend G k s) (dAppend G.tick k s G') G er G') :
    (er = 0 ∧ ∀ (m : Nat) (y : List UInt8), N[m]? = some k.data.toList → B[m]? = some y → WRel w' b G' N (B.set m (y ++ s.data.toList)) (i + 1)) ∧ k.data.toList ∈ N ∨ (er ≠ 0 ∧ k.data.toList ∉ N ∧ WRel w' b G' N B (i + 1)) := by
  have hu := h.used
  rcases res_up h.down h.fuse rs with ⟨e1, e2, e3⟩ | ⟨e1, e2, e3⟩
  · refine .inr ⟨by rw [e2]; exact e1, fun hm => e1 ?_, h.same st e3 hi⟩
    unfold rfAppend
    rw [if_neg ((h.mem _).1 hm), if_neg (by rw [h.room]; omega)]
  · have hmem : k.data.toList ∈ N := (h.mem _).2 fun e => by unfold rfAppend at e1; rw [if_pos e] at e1; cases e1
    refine .inl ⟨⟨e2, fun m y ha hy => h.put (o := ⟨1, k, s, 0, none, 0, 0⟩) (p := 1) st e3 hi ha fun x => ?_⟩, hmem⟩
    show (if x = k.data.toList then (cont G x).map (· ++ s.data.toList) else cont G x) = _
    by_cases e : x = k.data.toList
    · rw [if_pos e, if_pos e, e, h.hit m _ y ha hy]
      rfl
    · rw [if_neg e, if_neg e]
theorem whole_sync (h : WRel w b G N B i) (hi : i < 60) (k : ByteArray) (st : Step w b G w' G') (rs : Res (rfSync G k) (dSync G.tick k G') G er G') : WRel w' b G' N B (i + 1) := by
  rcases res_up h.down h.fuse rs with ⟨_, _, e3⟩ | ⟨_, _, e3⟩
  · exact h.same st e3 hi
  · exact h.done (o := ⟨2, k, .empty, 0, none, 0, 0⟩) (p := 2) st e3 hi h.len h.nodup h.hit h.miss
theorem whole_dirsync (h : WRel w b G N B i) (hi : i < 60) (st : Step w b G w' G') (rs : Res 0 (DirSynced G.tick G') G er G') : WRel w' b G' N B (i + 1) := by
  rcases res_up h.down h.fuse rs with ⟨_, _, e3⟩ | ⟨_, _, e3⟩
  · exact h.same st e3 hi
  · exact h.done (o := ⟨6, .empty, .empty, 0, none, 0, 0⟩) (p := 6) st e3 hi h.len h.nodup h.hit h.miss
theorem whole_truncate (h : WRel w b G N B i) (hi : i < 60) (k : ByteArray) (n : Int) (st : Step w b G w' G') (rs : Res (rfTruncate G k n) (dTruncate G.tick k n G') G er G') :
    (er = 0 ∧ k.data.toList ∈ N ∧ ∀ (m : Nat) (y : List UInt8), N[m]? = some k.data.toList → B[m]? = some y → 0 ≤ n ∧ n ≤ y.length ∧ WRel w' b G' N (B.set m (y.take n.toNat)) (i + 1)) ∨ (er ≠ 0 ∧ WRel w' b G' N B (i + 1)) := by
  rcases res_up h.down h.fuse rs with ⟨e1, e2, e3⟩ | ⟨e1, e2, e3⟩
  · exact .inr ⟨by rw [e2]; exact e1, h.same st e3 hi⟩
  · unfold rfTruncate at e1
    have hd : dget G.D k.data.toList ≠ none := fun e => by rw [if_pos e] at e1; cases e1
    rw [if_neg hd] at e1
    have hn : ¬ (n < 0 ∨ (flen G k.data.toList : Int) < n) := fun e => by rw [if_pos e] at e1; cases e1
    refine .inl ⟨e2, (h.mem _).2 hd, fun m y ha hy => ?_⟩
    have hc := h.hit m _ y ha hy
    have hl : flen G k.data.toList = y.length := by rw [flen_cont h.rep, hc]; rfl
    refine ⟨by omega, by omega, h.put (o := ⟨4, k, .empty, n, none, 0, 0⟩) (p := 4) st e3 hi ha fun x => ?_⟩
    show (if x = k.data.toList then (cont G x).map (·.take n.toNat) else cont G x) = _
    by_cases e : x = k.data.toList
    · rw [if_pos e, if_pos e, e, hc]
      rfl
    · rw [if_neg e, if_neg e]
theorem erase_get {α : Type} (l : List α) (m j : Nat) : (l.eraseIdx m)[j]? = if j < m then l[j]? else l[j + 1]? := by
  rw [List.getElem?_eraseIdx]
theorem whole_remove (h : WRel w b G N B i) (hi : i < 60) (k : ByteArray) (st : Step w b G w' G') (rs : Res (rfSync G k) (dRemove G.tick k G') G er G') :
    (er = 0 ∧ k.data.toList ∈ N ∧ ∀ m, N[m]? = some k.data.toList → WRel w' b G' (N.eraseIdx m) (B.eraseIdx m) (i + 1)) ∨ (er ≠ 0 ∧ k.data.toList ∉ N ∧ WRel w' b G' N B (i + 1)) := by
  rcases res_up h.down h.fuse rs with ⟨e1, e2, e3⟩ | ⟨e1, e2, e3⟩
  · refine .inr ⟨by rw [e2]; exact e1, fun hm => e1 ?_, h.same st e3 hi⟩
    unfold rfSync
    rw [if_neg ((h.mem _).1 hm)]
  · have hmem : k.data.toList ∈ N := (h.mem _).2 fun e => by unfold rfSync at e1; rw [if_pos e] at e1; cases e1
    refine .inl ⟨e2, hmem, fun m ha => ?_⟩
    have hm : m < N.length := (List.getElem?_eq_some_iff.1 ha).1
    have huniq : ∀ j x, (N.eraseIdx m)[j]? = some x → x ≠ k.data.toList := fun j x hj e => by
      subst e
      rw [erase_get] at hj
      split at hj
      · have hj' := (List.getElem?_eq_some_iff.1 hj).1
        have := (List.getElem?_inj hj' h.nodup).1 (hj.trans ha.symm)
        omega
      · have hj' := (List.getElem?_eq_some_iff.1 hj).1
        have := (List.getElem?_inj hj' h.nodup).1 (hj.trans ha.symm)
        omega
    refine h.done (o := ⟨5, k, .empty, 0, none, 0, 0⟩) (p := 5) st e3 hi (by rw [List.length_eraseIdx, List.length_eraseIdx, h.len]) (h.nodup.sublist (List.eraseIdx_sublist _ _)) ?_ ?_
    · intro j x y h1 h2
      show (if x = k.data.toList then none else cont G x) = some y
      rw [if_neg (huniq j x h1)]
      rw [erase_get] at h1 h2
      split at h1
      · rename_i hlt
        rw [if_pos hlt] at h2
        exact h.hit j x y h1 h2
      · rename_i hlt
        rw [if_neg hlt] at h2
        exact h.hit (j + 1) x y h1 h2
    · intro x hx
      show (if x = k.data.toList then none else cont G x) = none
      by_cases e : x = k.data.toList
      · rw [if_pos e]
      · rw [if_neg e]
        refine h.miss x fun hin => hx ?_
        obtain ⟨j, hj, rfl⟩ := List.getElem_of_mem hin
        have hne : j ≠ m := fun e1 => e (by subst e1; exact Option.some.inj ((List.getElem?_eq_getElem hj).symm.trans ha))
        by_cases hlt : j < m
        · exact List.mem_of_getElem? (i := j) (by rw [erase_get, if_pos hlt]; exact List.getElem?_eq_getElem hj)
        · exact List.mem_of_getElem? (i := j - 1) (by rw [erase_get, if_neg (by omega), show j - 1 + 1 = j by omega]; exact List.getElem?_eq_getElem hj)
/-- Each name's bytes are read. -/
theorem whole_read (h : WRel w b G N B i) {j : Nat} {x y : List UInt8} (hx : N[j]? = some x) (hy : B[j]? = some y) : readS G ⟨x.toArray⟩ = ⟨y.toArray⟩ ∧ readE G ⟨x.toArray⟩ = 0 := by
  have hc := h.hit j x y hx hy
  cases hg : dget G.D x with
  | none => rw [cont_nil hg] at hc; cases hc
  | some f =>
    obtain ⟨F, hF⟩ := h.rep.fileOf hg
    rw [cont_of hg hF] at hc
    have e : F.now = y := Option.some.inj hc
    have := read_of (k := ⟨x.toArray⟩) h.down (by simpa using hg) (core_some hF)
    rw [e] at this
    exact this
/-- As many names are told. -/
theorem whole_names (h : WRel w b G N B i) : (dnames G.D).length = N.length := by
  have hp : (dnames G.D).Perm N := (List.perm_ext_iff_of_nodup (nodup_names h.rep) h.nodup).2 fun x => by rw [mem_names h.rep, h.mem]
  exact hp.length_eq
end Go.Proofs.Ytdlaicbdconbcaa
