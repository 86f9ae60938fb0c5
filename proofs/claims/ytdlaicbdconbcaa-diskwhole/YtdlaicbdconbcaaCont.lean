/-
  The bytes of names, and what a deed does to them.
-/
import Derived.Test.YtdlaicbdconbcaaU2
namespace Go.Proofs.Ytdlaicbdconbcaa
open Go.RowKit Go.Maps Go.Sort

/-- The bytes of a name. -/
def cont (G : DG) (k : List UInt8) : Option (List UInt8) := (dget G.D k).bind fun f => (G.file f).map FG.now
theorem cont_of {G : DG} {k : List UInt8} {f : Nat} {F : FG} (hg : dget G.D k = some f) (hF : G.file f = some F) : cont G k = some F.now := by
  unfold cont
  rw [hg]
  show (G.file f).map FG.now = _
  rw [hF]
  rfl
theorem cont_nil {G : DG} {k : List UInt8} (hg : dget G.D k = none) : cont G k = none := by
  unfold cont
  rw [hg]
  rfl
theorem cont_none {w : World} {b : Nat} {G : DG} (h : Rep w b G) (k : List UInt8) : cont G k = none ↔ dget G.D k = none := by
  constructor
  · intro e
    cases hg : dget G.D k with
    | none => rfl
    | some f =>
      obtain ⟨F, hF⟩ := h.fileOf hg
      rw [cont_of hg hF] at e
      cases e
  · exact cont_nil
theorem flen_cont {w : World} {b : Nat} {G : DG} (h : Rep w b G) (k : List UInt8) : flen G k = ((cont G k).getD []).length := by
  cases hg : dget G.D k with
  | none =>
    rw [cont_nil hg]
    unfold flen
    rw [hg]
    rfl
  | some f =>
    obtain ⟨F, hF⟩ := h.fileOf hg
    rw [cont_of hg hF, flen_of hg hF]
    rfl
/-- What a deed does to the bytes of names. -/
def vrun (p : Int) (o : Dd) (c : List UInt8 → Option (List UInt8)) (k : List UInt8) : Option (List UInt8) :=
  if p = 0 then (if k = o.a.data.toList then some [] else c k)
  else if p = 1 then (if k = o.a.data.toList then (c k).map (· ++ o.b.data.toList) else c k)
  else if p = 3 then (if k = o.b.data.toList then c o.a.data.toList else if k = o.a.data.toList then none else c k)
  else if p = 4 then (if k = o.a.data.toList then (c k).map (·.take o.n.toNat) else c k)
  else if p = 5 then (if k = o.a.data.toList then none else c k)
  else c k
theorem cont_upd {G G' : DG} {f : Nat} {F' : FG} {a : List UInt8} (hi : Inj G.D) (hg : dget G.D a = some f) (hD : G'.D = G.D) (hf : G'.file = fun j => if j = f then some F' else G.file j) (k : List UInt8) : cont G' k = if k = a then some F'.now else cont G k := by
  by_cases e : k = a
  · subst e
    rw [if_pos rfl]
    exact cont_of (by rw [hD]; exact hg) (by rw [hf]; simp)
  · rw [if_neg e]
    unfold cont
    rw [hD]
    cases hk : dget G.D k with
    | none => rfl
    | some g =>
      have hne : g ≠ f := fun e1 => e (hi k a f (e1 ▸ hk) hg)
      show (G'.file g).map FG.now = (G.file g).map FG.now
      rw [hf]
      simp only [if_neg hne]
theorem does_cont {w : World} {b : Nat} {o : Dd} {G G' : DG} {p : Int} (hr : Rep w b G) (hi : Inj G.D) (h : does p o G G') : cont G' = vrun p o (cont G) := by
  funext k
  rcases does_cases h with ⟨rfl, f, c⟩ | ⟨rfl, f, F, F', x, hg, hF, c⟩ | ⟨rfl, f, F, F', hg, hF, c⟩ | ⟨rfl, f, x, hg, c, h1, h2, h3⟩ | ⟨rfl, f, F, F', x, hg, hF, hm, c⟩ | ⟨rfl, f, x, hg, c, h1, h2⟩ | ⟨⟨e0, e1, e2, e3, e4, e5⟩, c⟩
  · show _ = if k = o.a.data.toList then some [] else cont G k
    by_cases e : k = o.a.data.toList
    · rw [if_pos e, e]
      exact cont_of (by rw [c.D]; exact dget_put_same hr.now.isMap _ _) (F := ⟨none, 0, none, 0, none, 0, [], [], []⟩) (by rw [c.file]; simp)
    · rw [if_neg e]
      unfold cont
      rw [c.D, dget_put_other _ e]
      cases hk : dget G.D k with
      | none => rfl
      | some g =>
        have hne : g ≠ f := fun e1 => (hr.knownD k g hk).1 (e1 ▸ c.fresh)
        show (G'.file g).map FG.now = (G.file g).map FG.now
        rw [c.file]
        simp only [if_neg hne]
  · show _ = if k = o.a.data.toList then (cont G k).map (· ++ o.b.data.toList) else cont G k
    rw [cont_upd hi hg c.D c.file]
    by_cases e : k = o.a.data.toList
    · rw [if_pos e, if_pos e, e, cont_of hg hF, c.now]
      show some (F.now ++ o.b.data.toList.take o.b.size) = some (F.now ++ o.b.data.toList)
      rw [List.take_of_length_le (by simp)]
    · rw [if_neg e, if_neg e]
  · show _ = cont G k
    rw [cont_upd hi hg c.D c.file]
    by_cases e : k = o.a.data.toList
    · rw [if_pos e, e, cont_of hg hF, c.now]
    · rw [if_neg e]
  · show _ = if k = o.b.data.toList then cont G o.a.data.toList else if k = o.a.data.toList then none else cont G k
    have hm : IsMap (ddel G.D o.a.data.toList) := by obtain ⟨es, hes⟩ := hr.now.isMap; rw [hes]; exact ⟨_, rfl⟩
    unfold cont
    rw [c.D, c.file, rename_run h1 h2 h3 hg]
    by_cases e : k = o.b.data.toList
    · rw [if_pos e, e, dget_put_same hm, hg]
    · rw [if_neg e, dget_put_other _ e]
      by_cases e1 : k = o.a.data.toList
      · rw [if_pos e1, e1, dget_del_same]
        rfl
      · rw [if_neg e1, dget_del_other _ e1]
  · show _ = if k = o.a.data.toList then (cont G k).map (·.take o.n.toNat) else cont G k
    rw [cont_upd hi hg c.D c.file]
    by_cases e : k = o.a.data.toList
    · rw [if_pos e, if_pos e, e, cont_of hg hF, c.now]
      rfl
    · rw [if_neg e, if_neg e]
  · show _ = if k = o.a.data.toList then none else cont G k
    unfold cont
    rw [c.D, c.file, remove_run h1 h2]
    by_cases e : k = o.a.data.toList
    · rw [if_pos e, e, dget_del_same]
      rfl
    · rw [if_neg e, dget_del_other _ e]
  · unfold vrun
    rw [if_neg e0, if_neg e1, if_neg e3, if_neg e4, if_neg e5]
    unfold cont
    rw [c.D, c.file]
/-- Disks with the same bytes of names have the same names, as many bytes, and refuse the same. -/
theorem names_same {w w' : World} {b b' : Nat} {G H : DG} (hr : Rep w b G) (hs : Rep w' b' H) (h : cont G = cont H) : dnames G.D = dnames H.D := by
  unfold dnames
  refine mergeSort_of_perm ?_
  refine (List.perm_ext_iff_of_nodup (nodup_keys hr.now) (nodup_keys hs.now)).2 fun x => ?_
  rw [mem_keys hr.now, mem_keys hs.now, has_dget hr.fullD, has_dget hs.fullD]
  exact not_congr (by rw [← cont_none hr, ← cont_none hs, h])
theorem size_same {w w' : World} {b b' : Nat} {G H : DG} (hr : Rep w b G) (hs : Rep w' b' H) (h : cont G = cont H) : Maps.size G.D = Maps.size H.D := by
  rw [← names_length hr, ← names_length hs, names_same hr hs h]
theorem used_names (G : DG) : used G = usedL G (dnames G.D) := usedL_perm G (List.mergeSort_perm _ _).symm
theorem used_same {w w' : World} {b b' : Nat} {G H : DG} (hr : Rep w b G) (hs : Rep w' b' H) (h : cont G = cont H) : used G = used H := by
  rw [used_names, used_names, names_same hr hs h]
  unfold usedL
  congr 1
  exact List.map_congr_left fun k _ => by rw [flen_cont hr, flen_cont hs, h]
theorem refuse_same {w w' : World} {b b' : Nat} {G H : DG} (hr : Rep w b G) (hs : Rep w' b' H) (h : cont G = cont H) (hro : G.room = H.room) (p : Int) (o : Dd) : refuse p o G = refuse p o H := by
  have hd : ∀ k, dget G.D k = none ↔ dget H.D k = none := fun k => by rw [← cont_none hr, ← cont_none hs, h]
  have hl : ∀ k, flen G k = flen H k := fun k => by rw [flen_cont hr, flen_cont hs, h]
  unfold refuse rfCreate rfAppend rfSync rfRename rfTruncate
  simp only [ne_eq, hd, hl, hro, size_same hr hs h, used_same hr hs h]
end Go.Proofs.Ytdlaicbdconbcaa
