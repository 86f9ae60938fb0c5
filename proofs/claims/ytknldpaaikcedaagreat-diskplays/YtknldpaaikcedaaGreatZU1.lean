/-
  How many bytes a disk has: by the entries of its map of names.
-/
import Derived.Test.YtknldpaaikcedaaGreatZE1
namespace Go.Proofs.YtknldpaaikcedaaGreat
open Go.RowKit Go.Maps Go.Sort

/-- How many bytes a file has. -/
def flenF (file : Nat → Option FG) (f : Nat) : Nat :=
  match file f with
  | some F => F.now.length
  | none => 0
def vid (d : DataW Nat) : Option Nat :=
  match d with
  | .lit (.int _ z) => if 0 ≤ z then some z.toNat else none
  | _ => none
def vlen (file : Nat → Option FG) (d : DataW Nat) : Nat :=
  match vid d with
  | some f => flenF file f
  | none => 0
def sumE (file : Nat → Option FG) (es : List (Lit × DataW Nat)) : Nat := (es.map fun p => vlen file p.2).sum
def usedE (D : DataW Nat) (file : Nat → Option FG) : Nat :=
  match D with
  | .map es => sumE file es
  | _ => 0
theorem dget_vid (D : DataW Nat) (k : List UInt8) : dget D k = vid (D.atKey (.string k) (.lit (.int .i64 (-1)))) := rfl
theorem flen_vid (G : DG) (k : List UInt8) : flen G k = vlen G.file (G.D.atKey (.string k) (.lit (.int .i64 (-1)))) := rfl
theorem vlen_put (file : Nat → Option FG) (f : Nat) : vlen file (.lit (.int .i64 f)) = flenF file f := by
  unfold vlen vid
  simp
theorem vlen_none (file : Nat → Option FG) : vlen file (.lit (.int .i64 (-1))) = 0 := rfl
theorem sumE_cons (file : Nat → Option FG) (p : Lit × DataW Nat) (es : List (Lit × DataW Nat)) : sumE file (p :: es) = vlen file p.2 + sumE file es := by simp [sumE]

/-- Its keys are strings, and differ. -/
def Neat (es : List (Lit × DataW Nat)) : Prop := es.Pairwise (fun p q => p.1 ≠ q.1) ∧ ∀ p ∈ es, ∃ a, p.1 = Lit.string a
theorem Neat.tail {p : Lit × DataW Nat} {es : List (Lit × DataW Nat)} (h : Neat (p :: es)) : Neat es := ⟨(List.pairwise_cons.1 h.1).2, fun q hq => h.2 q (List.mem_cons_of_mem _ hq)⟩
theorem neat_own {w : World} {b n : Nat} {D : DataW Nat} (hown : w.ownsMap Tryz.prog 9 ptrR b n D) : ∃ es, D = .map es ∧ Neat es := by
  obtain ⟨es, hD, hpw⟩ := hown.tidy keyedS
  obtain ⟨es', hD', hko⟩ := hown.keysOf
  obtain rfl : es = es' := by rw [hD] at hD'; simpa using hD'
  refine ⟨es, hD, hpw, fun p hp => ?_⟩
  obtain ⟨v, hv⟩ := hko p hp
  obtain ⟨a, _, ha, _⟩ := Maps.keyOf_str Tryz.underlying9 hv
  exact ⟨_, ha⟩
theorem at_entry {es : List (Lit × DataW Nat)} (h : Neat es) (z : DataW Nat) : ∀ p ∈ es, (DataW.map es).atKey p.1 z = p.2 := by
  induction es with
  | nil => intro p hp; cases hp
  | cons q r ih =>
    intro p hp
    obtain ⟨a, ha⟩ := h.2 p hp
    rcases List.mem_cons.1 hp with rfl | hp
    · unfold DataW.atKey
      have e : p.1.sameKey p.1 = true := by rw [ha]; simp [Lit.sameKey]
      simp only [List.find?_cons, e]
    · have hne : q.1 ≠ p.1 := (List.pairwise_cons.1 h.1).1 p hp
      have e : q.1.sameKey p.1 = false := Maps.sameKey_ne hne
      have h1 := ih h.tail p hp
      unfold DataW.atKey at h1 ⊢
      simp only [List.find?_cons, e]
      exact h1
theorem used_eq {w : World} {b : Nat} {G : DG} (h : Rep w b G) : used G = usedE G.D G.file := by
  obtain ⟨es, hD, hn⟩ := neat_own h.now
  unfold used usedL
  rw [hD]
  show ((es.map fun p => strOf p.1).map (flen G)).sum = sumE G.file es
  unfold sumE
  rw [List.map_map]
  congr 1
  refine List.map_congr_left fun p hp => ?_
  obtain ⟨a, ha⟩ := hn.2 p hp
  show flen G (strOf p.1) = _
  rw [flen_vid, hD]
  have h1 := at_entry hn (.lit (.int .i64 (-1))) p hp
  rw [ha] at h1 ⊢
  show vlen G.file (DataW.atKey (.map es) (.string a) _) = _
  rw [h1]
theorem sumE_filter (file : Nat → Option FG) (P : Lit × DataW Nat → Bool) (es : List (Lit × DataW Nat)) : sumE file (es.filter P) ≤ sumE file es := by
  induction es with
  | nil => exact Nat.le_refl _
  | cons p es ih =>
    rw [List.filter_cons]
    split
    · rw [sumE_cons, sumE_cons]; omega
    · rw [sumE_cons]; omega
theorem usedE_del (D : DataW Nat) (k : List UInt8) (file : Nat → Option FG) : usedE (ddel D k) file ≤ usedE D file := by
  unfold ddel DataW.del
  split
  · exact sumE_filter _ _ _
  · exact Nat.le_refl _
theorem sumE_insert (file : Nat → Option FG) (x : Lit × DataW Nat) (es : List (Lit × DataW Nat)) : sumE file (DataW.insert x es) = vlen file x.2 + sumE file es := by
  induction es with
  | nil => exact sumE_cons _ _ _
  | cons p es ih =>
    unfold DataW.insert
    split
    · exact sumE_cons _ _ _
    · rw [sumE_cons, ih, sumE_cons]; omega
theorem usedE_put {D : DataW Nat} (hD : IsMap D) (k : List UInt8) (f : Nat) (file : Nat → Option FG) : usedE (dput D k f) file = flenF file f + usedE (ddel D k) file := by
  obtain ⟨es, rfl⟩ := hD
  show sumE file (DataW.insert _ _) = _
  rw [sumE_insert]
  show vlen file (.lit (.int .i64 f)) + _ = _
  rw [vlen_put]
  rfl
theorem filter_same {es : List (Lit × DataW Nat)} (k : Lit) (h : ∀ q ∈ es, q.1 ≠ k) : (es.filter fun p => !p.1.sameKey k) = es := by
  rw [List.filter_eq_self]
  intro q hq
  rw [Maps.sameKey_ne (h q hq)]
  rfl
theorem sumE_split {es : List (Lit × DataW Nat)} (h : Neat es) (k : List UInt8) (file : Nat → Option FG) : sumE file es = sumE file (es.filter fun p => !p.1.sameKey (.string k)) + vlen file ((DataW.map es).atKey (.string k) (.lit (.int .i64 (-1)))) := by
  induction es with
  | nil => rfl
  | cons p es ih =>
    have ih := ih h.tail
    by_cases e : p.1 = .string k
    · have e1 : p.1.sameKey (.string k) = true := by rw [e]; simp [Lit.sameKey]
      have e2 : (es.filter fun p => !p.1.sameKey (.string k)) = es := filter_same _ fun q hq hk => (List.pairwise_cons.1 h.1).1 q hq (e.trans hk.symm)
      rw [List.filter_cons, e1]
      simp only [Bool.not_true, Bool.false_eq_true, if_false]
      rw [e2, sumE_cons]
      unfold DataW.atKey
      simp only [List.find?_cons, e1]
      omega
    · have e1 : p.1.sameKey (.string k) = false := Maps.sameKey_ne e
      rw [List.filter_cons, e1]
      simp only [Bool.not_false, if_true]
      rw [sumE_cons, sumE_cons, ih]
      unfold DataW.atKey
      simp only [List.find?_cons, e1]
      omega
theorem usedE_split {w : World} {b n : Nat} {D : DataW Nat} (hown : w.ownsMap Tryz.prog 9 ptrR b n D) {k : List UInt8} {f : Nat} (hg : dget D k = some f) (file : Nat → Option FG) : usedE D file = usedE (ddel D k) file + flenF file f := by
  obtain ⟨es, rfl, hn⟩ := neat_own hown
  have h := sumE_split hn k file
  rw [dget_vid] at hg
  show sumE file es = sumE file _ + _
  rw [h]
  congr 1
  unfold vlen
  rw [hg]
theorem usedE_none {w : World} {b n : Nat} {D : DataW Nat} (hown : w.ownsMap Tryz.prog 9 ptrR b n D) {k : List UInt8} (hg : dget D k = none) (file : Nat → Option FG) : usedE D file = usedE (ddel D k) file := by
  obtain ⟨es, rfl, hn⟩ := neat_own hown
  have h := sumE_split hn k file
  rw [dget_vid] at hg
  show sumE file es = sumE file _
  rw [h]
  unfold vlen
  rw [hg]
  rfl
theorem usedE_le (D : DataW Nat) {file file' : Nat → Option FG} (h : ∀ j, flenF file' j ≤ flenF file j) : usedE D file' ≤ usedE D file := by
  unfold usedE
  split
  · rename_i es
    induction es with
    | nil => exact Nat.le_refl _
    | cons p es ih =>
      rw [sumE_cons, sumE_cons]
      have : vlen file' p.2 ≤ vlen file p.2 := by
        unfold vlen
        split
        · exact h _
        · exact Nat.le_refl _
      omega
  · exact Nat.le_refl _
/-- Two names are of two files. -/
def Inj (D : DataW Nat) : Prop := ∀ k k' f, dget D k = some f → dget D k' = some f → k = k'
theorem inj_put {D : DataW Nat} (hD : IsMap D) (h : Inj D) (k : List UInt8) (f : Nat) (hf : ∀ k', dget D k' ≠ some f) : Inj (dput D k f) := by
  intro a c g ha hc
  by_cases e1 : a = k
  · by_cases e2 : c = k
    · rw [e1, e2]
    · rw [e1, dget_put_same hD] at ha
      rw [dget_put_other D e2] at hc
      cases ha
      exact absurd hc (hf c)
  · rw [dget_put_other D e1] at ha
    by_cases e2 : c = k
    · rw [e2, dget_put_same hD] at hc
      cases hc
      exact absurd ha (hf a)
    · rw [dget_put_other D e2] at hc
      exact h a c g ha hc
theorem inj_del {D : DataW Nat} (h : Inj D) (k : List UInt8) : Inj (ddel D k) := by
  intro a c g ha hc
  by_cases e1 : a = k
  · rw [e1, dget_del_same] at ha; cases ha
  · by_cases e2 : c = k
    · rw [e2, dget_del_same] at hc; cases hc
    · rw [dget_del_other D e1] at ha
      rw [dget_del_other D e2] at hc
      exact h a c g ha hc
theorem inj_rename {D : DataW Nat} (hD : IsMap D) (h : Inj D) (k t : List UInt8) (f : Nat) (hk : dget D k = some f) : Inj (dput (ddel D k) t f) := by
  obtain ⟨es, rfl⟩ := hD
  refine inj_put ⟨_, rfl⟩ (inj_del h k) t f fun k' e0 => ?_
  have e : dget (ddel (.map es) k) k' = some f := e0
  by_cases e1 : k' = k
  · rw [e1, dget_del_same] at e; cases e
  · rw [dget_del_other _ e1] at e
    exact e1 (h k' k f e hk)
/-- A file's bytes grow. -/
theorem usedE_grow {w : World} {b n : Nat} {D : DataW Nat} (hown : w.ownsMap Tryz.prog 9 ptrR b n D) (hi : Inj D) {k : List UInt8} {f : Nat} (hg : dget D k = some f) {file file' : Nat → Option FG} (h : ∀ j, j ≠ f → file' j = file j) : usedE D file' + flenF file f = usedE D file + flenF file' f := by
  rw [usedE_split hown hg file, usedE_split hown hg file']
  have : usedE (ddel D k) file' = usedE (ddel D k) file := by
    obtain ⟨es, rfl, hn⟩ := neat_own hown
    show sumE file' _ = sumE file _
    unfold sumE
    congr 1
    refine List.map_congr_left fun p hp => ?_
    obtain ⟨hp1, hp2⟩ := List.mem_filter.1 hp
    obtain ⟨a, ha⟩ := hn.2 p hp1
    have h1 := at_entry hn (.lit (.int .i64 (-1))) p hp1
    show vlen file' p.2 = vlen file p.2
    unfold vlen
    split
    · rename_i g hv
      have hga : dget (.map es) a = some g := by rw [dget_vid, ← ha, h1, hv]
      have hne : g ≠ f := fun e => by
        subst e
        have := hi a k g hga hg
        subst this
        rw [ha] at hp2
        simp [Lit.sameKey] at hp2
      unfold flenF
      rw [h g hne]
    · rfl
  omega
end Go.Proofs.YtknldpaaikcedaaGreat
