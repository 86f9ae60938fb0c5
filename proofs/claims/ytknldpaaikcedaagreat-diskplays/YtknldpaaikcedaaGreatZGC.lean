/-
  The document's directory and files, on lists: what a name is, names rise, what was done.
-/
import Derived.Test.YtknldpaaikcedaaGreatZZ18
import Derived.Test.YtknldpaaikcedaaGreatZU1
import Derived.Sort.Walk0
import Derived.Test.YtknldpaaikcedaaGreatZZ16
import Derived.Test.YtknldpaaikcedaaGreatZGF
import Derived.Test.YtknldpaaikcedaaGreatZOps
namespace Go.Proofs.YtknldpaaikcedaaGreat
open Go.RowKit Go.Maps Go.Sort

/-- Two lists, place by place. -/
def All2 {α β : Type} (R : α → β → Prop) : List α → List β → Prop
  | [], [] => True
  | a :: l, b :: m => R a b ∧ All2 R l m
  | _, _ => False
theorem All2.length {α β : Type} {R : α → β → Prop} : ∀ {l : List α} {m : List β}, All2 R l m → l.length = m.length
  | [], [], _ => rfl
  | _ :: l, _ :: m, h => congrArg Nat.succ (All2.length (l := l) (m := m) h.2)
theorem All2.mono {α β : Type} {R R' : α → β → Prop} : ∀ {l : List α} {m : List β}, (∀ a b, b ∈ m → R a b → R' a b) → All2 R l m → All2 R' l m
  | [], [], _, _ => trivial
  | _ :: l, _ :: m, hm, h => ⟨hm _ _ List.mem_cons_self h.1, All2.mono (l := l) (m := m) (fun a b hb => hm a b (List.mem_cons_of_mem _ hb)) h.2⟩
theorem All2.snoc {α β : Type} {R : α → β → Prop} {a : α} {b : β} (hab : R a b) : ∀ {l : List α} {m : List β}, All2 R l m → All2 R (l ++ [a]) (m ++ [b])
  | [], [], _ => ⟨hab, trivial⟩
  | _ :: l, _ :: m, h => ⟨h.1, All2.snoc hab (l := l) (m := m) h.2⟩
theorem All2.take {α β : Type} {R : α → β → Prop} : ∀ {l : List α} {m : List β} (n : Nat), All2 R l m → All2 R (l.take n) (m.take n)
  | [], [], n, _ => by simp [All2]
  | _ :: l, _ :: m, 0, h => trivial
  | _ :: l, _ :: m, n + 1, h => ⟨h.1, All2.take (l := l) (m := m) n h.2⟩

theorem ba_ext {a b : ByteArray} (h : a.data.toList = b.data.toList) : a = b := by
  obtain ⟨⟨a⟩⟩ := a
  obtain ⟨⟨b⟩⟩ := b
  simp only at h
  subst h
  rfl
/-- Which file has a name. -/
def zid (l : List ZN) (k : ByteArray) : Option Nat := (l.find? fun p => decide (p.1 = k)).map (·.2)
theorem zfind_zid (l : List ZN) (k : ByteArray) : zfind l k = match zid l k with
    | some i => (i : Int)
    | none => -1 := by
  induction l with
  | nil => rfl
  | cons p l ih =>
    unfold zfind zid
    by_cases h : p.1 = k
    · rw [if_pos h, List.find?_cons_of_pos (by simpa using h)]
      rfl
    · rw [if_neg h, List.find?_cons_of_neg (by simpa using h)]
      exact ih
theorem zid_none {l : List ZN} {k : ByteArray} (h : zid l k = none) : zfind l k = -1 := by rw [zfind_zid, h]
theorem zid_some {l : List ZN} {k : ByteArray} {i : Nat} (h : zid l k = some i) : zfind l k = i := by rw [zfind_zid, h]
theorem zid_mem {l : List ZN} {k : ByteArray} {i : Nat} (h : zid l k = some i) : (k, i) ∈ l := by
  unfold zid at h
  cases hf : l.find? (fun p => decide (p.1 = k)) with
  | none => rw [hf] at h; cases h
  | some p =>
    rw [hf] at h
    have h1 : p.2 = i := Option.some.inj h
    have h2 := List.find?_some hf
    have h3 : p.1 = k := of_decide_eq_true h2
    have := List.mem_of_find?_eq_some hf
    rw [← h1, ← h3]
    exact this
theorem zid_iff (l : List ZN) (k : ByteArray) : zid l k ≠ none ↔ k ∈ l.map (·.1) := by
  unfold zid
  rw [ne_eq, Option.map_eq_none_iff, List.find?_eq_none]
  simp only [List.mem_map, decide_eq_true_eq]
  constructor
  · intro h
    exact Classical.byContradiction fun hn => h fun x hx e => hn ⟨x, hx, e⟩
  · rintro ⟨x, hx, e⟩ h
    exact h x hx e
theorem find_without (l : List ZN) (a k : ByteArray) (h : k ≠ a) : (zwithout l a).find? (fun p => decide (p.1 = k)) = l.find? (fun p => decide (p.1 = k)) := by
  unfold zwithout
  induction l with
  | nil => rfl
  | cons p l ih =>
    by_cases hp : p.1 = a
    · rw [List.filter_cons_of_neg (by simpa using hp), ih, List.find?_cons_of_neg (by simp; rw [hp]; exact fun e => h e.symm)]
    · rw [List.filter_cons_of_pos (by simpa using hp)]
      by_cases hk : p.1 = k
      · rw [List.find?_cons_of_pos (by simpa using hk), List.find?_cons_of_pos (by simpa using hk)]
      · rw [List.find?_cons_of_neg (by simpa using hk), List.find?_cons_of_neg (by simpa using hk), ih]
theorem without_none (l : List ZN) (a : ByteArray) : ∀ p ∈ zwithout l a, p.1 ≠ a := fun p hp => by
  have := (List.mem_filter.1 hp).2
  simpa using this
theorem zid_without (l : List ZN) (a k : ByteArray) : zid (zwithout l a) k = if k = a then none else zid l k := by
  by_cases h : k = a
  · rw [if_pos h]
    subst h
    refine Classical.byContradiction fun hn => ?_
    have := (zid_iff _ _).1 hn
    obtain ⟨p, hp, e⟩ := List.mem_map.1 this
    exact without_none l k p hp e
  · rw [if_neg h]
    unfold zid
    rw [find_without l a k h]
theorem zid_with (l : List ZN) (a : ByteArray) (id : Nat) (k : ByteArray) : zid (zwith l a id) k = if k = a then some id else zid l k := by
  unfold zwith
  generalize hm : zplace (zwithout l a) a = m
  have hno : ∀ p ∈ (zwithout l a).take m, p.1 ≠ a := fun p hp => without_none l a p (List.mem_of_mem_take hp)
  by_cases h : k = a
  · subst h
    rw [if_pos rfl]
    unfold zid
    rw [List.find?_append, List.find?_eq_none.2 (fun p hp => by simpa using hno p hp)]
    simp
  · rw [if_neg h]
    unfold zid
    rw [← find_without l a k h, List.find?_append, List.find?_cons_of_neg (by simpa using fun e => h e.symm), ← List.find?_append, List.take_append_drop]
/-- Names rise. -/
def zrises (l : List ZN) : Prop := l.Pairwise fun p q => p.1.data.toList < q.1.data.toList
theorem rises_without {l : List ZN} (h : zrises l) (a : ByteArray) : zrises (zwithout l a) := List.Pairwise.filter _ h
theorem less_iff (a b : ByteArray) : zless a b = true ↔ a.data.toList < b.data.toList := by
  unfold zless
  rw [ByteArray.toList_eq, ByteArray.toList_eq, bytesLess_eq, decide_eq_true_iff]
theorem tw_all {α : Type} (f : α → Bool) (l : List α) : ∀ p ∈ l.takeWhile f, f p = true := by
  induction l with
  | nil => intro p hp; cases hp
  | cons q l ih =>
    intro p hp
    by_cases hq : f q = true
    · rw [List.takeWhile_cons_of_pos hq] at hp
      rcases List.mem_cons.1 hp with rfl | hp
      · exact hq
      · exact ih p hp
    · rw [List.takeWhile_cons_of_neg hq] at hp
      cases hp
theorem rises_with {l : List ZN} (h : zrises l) (a : ByteArray) (id : Nat) : zrises (zwith l a id) := by
  unfold zwith
  have hr := rises_without h a
  have hn := without_none l a
  generalize zwithout l a = r at *
  have hp : zplace r a = (r.takeWhile fun p => zless p.1 a).length := rfl
  have key : ∀ {A B R : List ZN}, A ++ B = R → R.take A.length = A ∧ R.drop A.length = B := fun h => by subst h; exact ⟨List.take_left, List.drop_left⟩
  obtain ⟨e1, e2⟩ := key (List.takeWhile_append_dropWhile (p := fun p : ZN => zless p.1 a) (l := r))
  rw [← hp] at e1 e2
  rw [e1, e2]
  have hall : (r.takeWhile (fun p => zless p.1 a) ++ r.dropWhile fun p => zless p.1 a).Pairwise fun p q => p.1.data.toList < q.1.data.toList := by
    rw [List.takeWhile_append_dropWhile]
    exact hr
  rw [List.pairwise_append] at hall
  obtain ⟨h1, h2, h3⟩ := hall
  have hlo : ∀ p ∈ r.takeWhile (fun p => zless p.1 a), p.1.data.toList < a.data.toList := fun p hp => (less_iff _ _).1 (tw_all (fun p : ZN => zless p.1 a) r p hp)
  have hhi : ∀ p ∈ r.dropWhile (fun p => zless p.1 a), a.data.toList < p.1.data.toList := by
    cases hd : r.dropWhile (fun p => zless p.1 a) with
    | nil => intro p hp; cases hp
    | cons q t =>
      have hq : ¬ zless q.1 a = true := by
        have := List.head_dropWhile_not (fun p : ZN => zless p.1 a) (l := r) (by rw [hd]; simp)
        simp only [hd, List.head_cons] at this
        rw [this]
        decide
      have hqm : q ∈ r := (List.dropWhile_sublist _).subset (by rw [hd]; exact List.mem_cons_self)
      have hqa : a.data.toList < q.1.data.toList := by
        rw [less_iff] at hq
        have hle := List.not_lt.1 hq
        rcases List.le_iff_lt_or_eq.1 hle with e | e
        · exact e
        · exact absurd (ba_ext e.symm) (hn q hqm)
      rw [hd] at h2
      have h4 := List.pairwise_cons.1 h2
      intro p hp
      rcases List.mem_cons.1 hp with rfl | hp
      · exact hqa
      · exact List.lt_trans hqa (h4.1 p hp)
  refine List.pairwise_append.2 ⟨h1, List.pairwise_cons.2 ⟨hhi, h2⟩, fun p hp q hq => ?_⟩
  rcases List.mem_cons.1 hq with rfl | hq
  · exact hlo p hp
  · exact h3 p hp q hq
theorem rises_gone {l : List ZN} (h : zrises l) (x : ZS) : zrises (zgone l x) := by
  unfold zgone
  split
  · exact rises_with h _ _
  · split
    · exact rises_with (rises_without h _) _ _
    · exact rises_without h _
theorem rises_fold {l : List ZN} (h : zrises l) (xs : List ZS) : zrises (zfold l xs) := by
  unfold zfold
  induction xs generalizing l with
  | nil => exact h
  | cons x xs ih => exact ih (rises_gone h x)
end Go.Proofs.YtknldpaaikcedaaGreat
/-
  The program's disk and the document's, as lists: one relation; what follows.
-/
namespace Go.Proofs.YtknldpaaikcedaaGreat
open Go.RowKit Go.Maps Go.Sort

/-- An act of the directory, in both. -/
structure ActR (φ : Nat → Nat) (x : DA) (s : ZS) : Prop where
  kind : s.kind = (x.kind : Int) + 1 ∧ x.kind ≤ 2
  a : x.a = s.a
  b : x.kind = 1 → x.b = s.b
  id : x.kind = 0 → x.id = φ s.id
/-- What was done with a file, in both. -/
structure UnR (a : FA) (u : ZU) : Prop where
  cut : a.cuts = true → 0 ≤ u.n ∧ a.n = u.n.toNat ∧ u.s = ⟨#[]⟩
  app : a.cuts = false → u.n < 0 ∧ a.s = u.s
  num : -9223372036854775808 ≤ u.n ∧ u.n ≤ 9223372036854775807
structure Rel (G : DG) (S : RD) (φ : Nat → Nat) : Prop where
  room : G.room = S.room
  down : G.down = S.down
  fuse : G.fuse = S.fuse ∨ (G.fuse < 0 ∧ S.fuse < 0)
  fz : -1 ≤ S.fuse ∧ S.fuse ≤ 9223372036854775807
  dir : ∀ k : ByteArray, dget G.D k.data.toList = (zid S.dir k).map φ
  last : ∀ k : ByteArray, dget G.LD k.data.toList = (zid S.lasts k).map φ
  acts : All2 (ActR φ) G.X S.since
  files : ∀ i (h : i < S.files.length), ∃ now acts, G.core (φ i) = some (now, S.files[i].lasts.data.toList, acts) ∧ All2 UnR acts S.files[i].since
  inj : ∀ i j, i < S.files.length → j < S.files.length → φ i = φ j → i = j
  nf : S.files.length ≤ G.n
  rise : zrises S.dir
  riseL : zrises S.lasts
  ids : ∀ p ∈ S.dir, p.2 < S.files.length
  idl : ∀ p ∈ S.lasts, p.2 < S.files.length
  sid : ∀ s ∈ S.since, s.id ≤ S.files.length ∧ (s.kind = 1 → s.id < S.files.length)
section
variable {w : World} {b : Nat} {G G' : DG} {S : RD} {φ : Nat → Nat}
theorem un_run {a : FA} {u : ZU} (h : UnR a u) (s : ByteArray) : a.run s.data.toList a.units = (u.run s).data.toList := by
  obtain ⟨cu, c, sa, n⟩ := a
  cases cu with
  | false =>
    obtain ⟨h1, h2⟩ := h.app rfl
    simp only at h2
    subst h2
    have e : u.run s = s ++ u.s := if_pos h1
    rw [e]
    simp only [FA.run, FA.units]
    rw [List.take_of_length_le (by simp)]
    simp
  | true =>
    obtain ⟨h1, h2, _⟩ := h.cut rfl
    simp only at h2
    subst h2
    have e : u.run s = s.extract 0 u.n.toNat := if_neg (by omega)
    rw [e]
    simp only [FA.run]
    exact (extract_list s _).symm
theorem run_same : ∀ {A : List FA} {U : List ZU} (s : ByteArray), All2 UnR A U → runAll s.data.toList A = (zdone s U).data.toList
  | [], [], s, _ => rfl
  | a :: A, u :: U, s, h => by
    rw [runAll, zdone, un_run h.1 s]
    exact run_same (u.run s) h.2
theorem fit_same : ∀ {A : List FA} {U : List ZU} (s : ByteArray), All2 UnR A U → fitAll s.data.toList A → zfits s U
  | [], [], s, _, _ => trivial
  | a :: A, u :: U, s, h, hf => by
    refine ⟨fun h0 => ?_, ?_⟩
    · have hc : a.cuts = true := by
        cases hc : a.cuts with
        | true => rfl
        | false => have := (h.1.app hc).1; omega
      obtain ⟨_, h2, _⟩ := h.1.cut hc
      have h3 := hf.1
      unfold FA.fits at h3
      rw [hc] at h3
      simp only at h3
      rw [h2] at h3
      have : s.data.toList.length = s.size := by simp
      omega
    · have h2 := hf.2
      rw [un_run h.1 s] at h2
      exact fit_same (u.run s) h.2 h2
theorem sum_same : ∀ {A : List FA} {U : List ZU}, All2 UnR A U → zsum U ≤ unitsAll A
  | [], [], _ => Nat.le_refl _
  | a :: A, u :: U, h => by
    have ih := sum_same h.2
    rw [zsum, unitsAll]
    have : u.s.size ≤ a.units := by
      unfold FA.units
      cases hc : a.cuts with
      | true => rw [(h.1.cut hc).2.2]; show (0 : Nat) ≤ 1; omega
      | false => rw [(h.1.app hc).2]; exact Nat.le_refl _
    omega
theorem num_same : ∀ {A : List FA} {U : List ZU}, All2 UnR A U → ∀ u ∈ U, -9223372036854775808 ≤ u.n ∧ u.n ≤ 9223372036854775807
  | [], [], _, u, hu => by cases hu
  | a :: A, v :: U, h, u, hu => by
    rcases List.mem_cons.1 hu with rfl | hu
    · exact h.1.num
    · exact num_same h.2 u hu
theorem settle_same : ∀ {A : List FA} {U : List ZU} (s : ByteArray) (n : Int), All2 UnR A U → settleL s.data.toList A n = (zdone s (zkept U n)).data.toList
  | [], [], s, n, _ => rfl
  | a :: A, u :: U, s, n, h => by
    by_cases hn : n ≤ 0
    · rw [settleL_none _ _ _ hn, zkept_none _ _ hn]
      rfl
    · rw [settleL_step _ _ _ _ hn, zkept, if_neg hn]
      obtain ⟨cu, c, sa, m⟩ := a
      cases cu with
      | false =>
        obtain ⟨h1, h2⟩ := h.1.app rfl
        simp only at h2
        subst h2
        rw [if_pos h1]
        simp only [FA.units]
        have e : (FA.mk false c u.s m).run s.data.toList (min n (u.s.size : Int)).toNat = (ZU.run ⟨u.s.extract 0 (min n (u.s.size : Int)).toNat, u.n⟩ s).data.toList := by
          have e1 : ZU.run ⟨u.s.extract 0 (min n (u.s.size : Int)).toNat, u.n⟩ s = s ++ u.s.extract 0 (min n (u.s.size : Int)).toNat := if_pos h1
          rw [e1]
          simp only [FA.run]
          rw [← extract_list]
          simp
        rw [e, zdone]
        exact settle_same _ _ h.2
      | true =>
        obtain ⟨h1, h2, _⟩ := h.1.cut rfl
        rw [if_neg (by omega)]
        simp only [FA.units]
        have e0 : min n ((1 : Nat) : Int) = 1 := by omega
        have e := un_run h.1 s
        simp only [FA.run] at e
        rw [e0, zdone]
        simp only [FA.run]
        rw [e]
        exact settle_same _ _ h.2
/-- Names, the same. -/
theorem perm_names {D : DataW Nat} {b2 n2 : Nat} {l : List ZN} (hown : w.ownsMap Tryz.prog 9 ptrR b2 n2 D) (hfull : Full D) (hd : ∀ k : ByteArray, dget D k.data.toList = (zid l k).map φ) (hr : zrises l) : (l.map fun p => p.1.data.toList).Perm (strKeys D) := by
  have hnd : (l.map fun p => p.1.data.toList).Nodup := by
    unfold List.Nodup
    rw [List.pairwise_map]
    exact hr.imp fun h e => by rw [e] at h; exact absurd h (List.lt_irrefl _)
  refine (List.perm_ext_iff_of_nodup hnd (nodup_keys hown)).2 fun x => ?_
  rw [mem_keys hown, has_dget hfull]
  have e : dget D x = (zid l ⟨x.toArray⟩).map φ := by
    have := hd ⟨x.toArray⟩
    simpa using this
  rw [e, ne_eq, Option.map_eq_none_iff, ← ne_eq, zid_iff]
  simp only [List.mem_map]
  constructor
  · rintro ⟨p, hp, rfl⟩
    exact ⟨p, hp, ba_ext (by simp)⟩
  · rintro ⟨p, hp, e⟩
    exact ⟨p, hp, by rw [e]⟩
theorem rel_names (hr : Rep w b G) (h : Rel G S φ) : (S.dir.map fun p => p.1.data.toList) = dnames G.D := by
  have hp := perm_names hr.now hr.fullD h.dir h.rise
  have tr : ∀ a b c : List UInt8, leB a b = true → leB b c = true → leB a c = true := fun a b c h1 h2 => by simp only [leB, decide_eq_true_eq] at *; exact List.le_trans h1 h2
  have tt : ∀ a b : List UInt8, (leB a b || leB b a) = true := fun a b => by simp only [leB, Bool.or_eq_true, decide_eq_true_eq]; exact List.le_total a b
  refine List.Perm.eq_of_pairwise (le := fun a b => leB a b = true) (fun a b _ _ h1 h2 => ?_) ?_ (List.pairwise_mergeSort tr tt _) (hp.trans (List.mergeSort_perm _ leB).symm)
  · simp only [leB, decide_eq_true_eq] at h1 h2
    exact List.le_antisymm h1 h2
  · rw [List.pairwise_map]
    exact h.rise.imp fun h => by simp only [leB, decide_eq_true_eq]; exact List.le_of_lt h
theorem rel_size (hr : Rep w b G) (h : Rel G S φ) : Maps.size G.D = S.dir.length := by
  rw [← names_length hr, ← rel_names hr h, List.length_map]
theorem rel_file (hr : Rep w b G) (h : Rel G S φ) {i : Nat} (hi : i < S.files.length) : ∃ F, G.file (φ i) = some F ∧ F.now = (S.bytes i).data.toList ∧ F.last = S.files[i].lasts.data.toList ∧ All2 UnR F.acts S.files[i].since := by
  obtain ⟨now, acts, hc, hu⟩ := h.files i hi
  obtain ⟨F, hF, hcF⟩ := file_some hc
  have h1 : F.now = now := congrArg Prod.fst hcF
  have h2 : F.last = S.files[i].lasts.data.toList := congrArg (fun t => t.2.1) hcF
  have h3 : F.acts = acts := congrArg (fun t => t.2.2) hcF
  rw [← h3] at hu
  refine ⟨F, hF, ?_, h2, hu⟩
  rw [(hr.files _ _ hF).eq, h2, RD.bytes_at hi]
  exact run_same _ hu
theorem rel_id (h : Rel G S φ) {k : ByteArray} {i : Nat} (hz : zid S.dir k = some i) : i < S.files.length ∧ dget G.D k.data.toList = some (φ i) :=
  ⟨h.ids _ (zid_mem hz), by rw [h.dir, hz]; rfl⟩
theorem zflen_of {G : DG} {k : List UInt8} {f : Nat} {F : FG} (hg : dget G.D k = some f) (hF : G.file f = some F) : flen G k = F.now.length := by
  unfold flen
  rw [hg]
  simp only [hF]
theorem rel_flen (hr : Rep w b G) (h : Rel G S φ) {k : ByteArray} {i : Nat} (hz : zid S.dir k = some i) : flen G k.data.toList = (S.bytes i).size := by
  obtain ⟨hi, hg⟩ := rel_id h hz
  obtain ⟨F, hF, hn, _⟩ := rel_file hr h hi
  rw [zflen_of hg hF, hn]
  simp
theorem zid_at {l : List ZN} (hr : zrises l) (i : Nat) (hi : i < l.length) : zid l l[i].1 = some l[i].2 := by
  cases hz : zid l l[i].1 with
  | none => exact absurd (List.mem_map.2 ⟨l[i], List.getElem_mem hi, rfl⟩) (fun e => (zid_iff l l[i].1).2 e hz)
  | some j =>
    have hm := zid_mem hz
    obtain ⟨m, hm1, hm2⟩ := List.getElem_of_mem hm
    have e : m = i := by
      rcases Nat.lt_trichotomy m i with e | e | e
      · have := List.pairwise_iff_getElem.1 hr m i hm1 hi e
        rw [hm2] at this
        exact absurd this (List.lt_irrefl _)
      · exact e
      · have := List.pairwise_iff_getElem.1 hr i m hi hm1 e
        rw [hm2] at this
        exact absurd this (List.lt_irrefl _)
    subst e
    rw [hm2]
theorem rel_used (hr : Rep w b G) (h : Rel G S φ) : used G = S.used S.dir.length := by
  have e0 : used G = usedL G (dnames G.D) := usedL_perm G (List.mergeSort_perm _ _).symm
  rw [e0, ← rel_names hr h]
  unfold usedL RD.used
  rw [List.take_of_length_le (Nat.le_refl _), List.map_map]
  congr 1
  refine List.map_congr_left fun p hp => ?_
  obtain ⟨i, hi, rfl⟩ := List.getElem_of_mem hp
  exact rel_flen hr h (zid_at h.rise i hi)
/-- What the document's disk is within. -/
theorem rel_ok (hr : Rep w b G) (hn : G.n ≤ 1000) (h : Rel G S φ) : S.ok ∧ S.small := by
  have hq := hr.hq
  have key : ∀ i (hi : i < S.files.length), S.files[i].ok ∧ S.files[i].lasts.size + zsum S.files[i].since ≤ 1000000000000 := fun i hi => by
    obtain ⟨F, hF, _, hl, hu⟩ := rel_file hr h hi
    have hA := hr.files _ _ hF
    have h1 := sum_same hu
    have h2 := hA.big
    have h3 : F.last.length = S.files[i].lasts.size := by rw [hl]; simp
    have h4 : G.n * G.q ≤ 1000 * 1000000000 := Nat.mul_le_mul hn hq
    have h5 := hA.fit
    rw [hl] at h5
    have h6 := hA.few
    rw [All2.length hu] at h6
    exact ⟨⟨fit_same _ hu h5, by omega, num_same hu, by omega⟩, by omega⟩
  have hp1 := perm_names hr.now hr.fullD h.dir h.rise
  have hp2 := perm_names hr.last hr.full h.last h.riseL
  have hs1 := hr.now.size_le
  have hl1 : S.dir.length = Maps.size G.D := by
    have := hp1.length_eq
    rw [List.length_map] at this
    rw [this]
    obtain ⟨es, e⟩ := hr.now.isMap
    rw [e]
    simp [strKeys, Maps.size]
  have hl2 : S.lasts.length = Maps.size G.LD := by
    have := hp2.length_eq
    rw [List.length_map] at this
    rw [this]
    obtain ⟨es, e⟩ := hr.last.isMap
    rw [e]
    simp [strKeys, Maps.size]
  have hfew := hr.few
  have hal := All2.length h.acts
  have hnf := h.nf
  have hfz := h.fz
  refine ⟨⟨by rw [← h.room]; exact hr.hroom, ⟨by omega, hfz.2⟩, fun f hf => ?_, by omega, by omega, by omega, by omega, h.ids, h.idl⟩, fun i => ?_⟩
  · obtain ⟨i, hi, rfl⟩ := List.getElem_of_mem hf
    exact (key i hi).1
  · by_cases hi : i < S.files.length
    · rw [RD.bytes_at hi]
      have := zdone_size S.files[i].lasts S.files[i].since
      have := (key i hi).2
      omega
    · unfold RD.bytes
      rw [List.getElem?_eq_none (by omega)]
      show (0 : Nat) ≤ _
      omega
end
end Go.Proofs.YtknldpaaikcedaaGreat
/-
  The relation, kept by each call.
-/
namespace Go.Proofs.YtknldpaaikcedaaGreat
open Go.RowKit Go.Maps Go.Sort

section
variable {w w' : World} {b : Nat} {G G' : DG} {S : RD} {φ : Nat → Nat} {er : Int}
theorem rel_zero (h : Rel G S φ) (hz : G.fuse = 0) : S.tick = (false, { S with down := true }) ∧ Rel G.fall { S with down := true } φ := by
  have h0 : S.fuse = 0 := by rcases h.fuse with e | e <;> omega
  refine ⟨by unfold RD.tick; rw [if_pos h0], ⟨h.room, rfl, h.fuse, h.fz, h.dir, h.last, h.acts, h.files, h.inj, h.nf, h.rise, h.riseL, h.ids, h.idl, h.sid⟩⟩
theorem rel_tick (h : Rel G S φ) (hz : G.fuse ≠ 0) : S.tick.1 = true ∧ Rel G.tick S.tick.2 φ := by
  have h0 : S.fuse ≠ 0 := by rcases h.fuse with e | e <;> omega
  have hf := h.fuse
  have hz2 := h.fz
  unfold RD.tick
  rw [if_neg h0]
  by_cases h1 : 0 < S.fuse
  · rw [if_pos h1]
    have h2 : G.fuse = S.fuse := by rcases hf with e | e <;> omega
    refine ⟨rfl, ⟨h.room, h.down, .inl ?_, by simp only; omega, h.dir, h.last, h.acts, h.files, h.inj, h.nf, h.rise, h.riseL, h.ids, h.idl, h.sid⟩⟩
    show (if 0 < G.fuse then G.fuse - 1 else G.fuse) = _
    rw [if_pos (by omega), h2]
  · rw [if_neg h1]
    refine ⟨rfl, ⟨h.room, h.down, .inr ⟨?_, by show S.fuse < 0; omega⟩, h.fz, h.dir, h.last, h.acts, h.files, h.inj, h.nf, h.rise, h.riseL, h.ids, h.idl, h.sid⟩⟩
    show (if 0 < G.fuse then G.fuse - 1 else G.fuse) < 0
    rw [if_neg (by rcases hf with e | e <;> omega)]
    rcases hf with e | e <;> omega
/-- How a call ends, in both. -/
theorem res_rel {rf : Int} {does : Prop} {op : Int × RD} {done : RD} (hop : op = if S.down = true then (9, S) else if rf ≠ 0 then (rf, S) else if S.tick.1 = false then (9, S.tick.2) else (0, done)) (h : Rel G S φ) (hdone : rf = 0 → Rel G.tick S.tick.2 φ → does → ∃ φ', Rel G' done φ') (hr : Res rf does G er G') : er = op.1 ∧ ∃ φ', Rel G' op.2 φ' := by
  rcases hr with ⟨h1, h2, h3⟩ | ⟨h1, h2, h3, h4⟩ | ⟨h1, h2, h3, h4, h5⟩ | ⟨h1, h2, h3, h4, h5⟩
  · rw [h.down] at h1
    rw [hop, if_pos h1]
    exact ⟨h2, φ, h3 ▸ h⟩
  · rw [h.down] at h1
    rw [hop, if_neg (by rw [h1]; decide), if_pos h2]
    exact ⟨h3, φ, h4 ▸ h⟩
  · have hd := h1
    rw [h.down] at h1
    obtain ⟨e1, e2⟩ := rel_zero h h3
    rw [hop, if_neg (by rw [h1]; decide), if_neg (by rw [h2]; decide), if_pos (by rw [e1]), e1]
    exact ⟨h4, φ, h5 ▸ e2⟩
  · rw [h.down] at h1
    obtain ⟨e1, e2⟩ := rel_tick h h3
    rw [hop, if_neg (by rw [h1]; decide), if_neg (by rw [h2]; decide), if_neg (by rw [e1]; decide)]
    exact ⟨h4, hdone h2 e2 h5⟩
theorem zname_is (s : ByteArray) : zname s = isName s := by
  unfold zname isName
  rw [Bool.decide_and]
theorem none_iff (h : Rel G S φ) (k : ByteArray) : dget G.D k.data.toList = none ↔ zfind S.dir k < 0 := by
  rw [h.dir, Option.map_eq_none_iff, zfind_zid]
  cases zid S.dir k with
  | none => simp
  | some i => simp
theorem gone_mem {l : List ZN} {x : ZS} {p : ZN} (hp : p ∈ zgone l x) : p ∈ l ∨ (x.kind = 1 ∧ p.2 = x.id) ∨ (x.kind = 2 ∧ p.2 = (zfind l x.a).toNat) := by
  have hw : ∀ (m : List ZN) (a : ByteArray) (id : Nat), p ∈ zwith m a id → p ∈ m ∨ p.2 = id := fun m a id h => by
    unfold zwith at h
    rcases List.mem_append.1 h with e | e
    · exact .inl (List.mem_filter.1 (List.mem_of_mem_take e)).1
    · rcases List.mem_cons.1 e with rfl | e
      · exact .inr rfl
      · exact .inl (List.mem_filter.1 (List.mem_of_mem_drop e)).1
  unfold zgone at hp
  split at hp
  · rename_i h1
    rcases hw _ _ _ hp with e | e
    · exact .inl e
    · exact .inr (.inl ⟨h1, e⟩)
  · split at hp
    · rename_i h2
      rcases hw _ _ _ hp with e | e
      · exact .inl (List.mem_filter.1 e).1
      · exact .inr (.inr ⟨h2, e⟩)
    · exact .inl (List.mem_filter.1 hp).1
/-- One act of the directory, in both. -/
theorem run_rel {D : DataW Nat} {l : List ZN} {x : DA} {s : ZS} (hD : IsMap D) (hd : ∀ k : ByteArray, dget D k.data.toList = (zid l k).map φ) (hx : ActR φ x s) (hfit : x.fits D) (k : ByteArray) : dget (x.run D) k.data.toList = (zid (zgone l s) k).map φ := by
  have hne : ∀ {a c : ByteArray}, a ≠ c → a.data.toList ≠ c.data.toList := fun h e => h (ba_ext e)
  obtain ⟨hk1, hk2⟩ := hx.kind
  have ha := hx.a
  unfold zgone
  match hkd : x.kind with
  | 0 =>
    rw [hkd] at hk1
    have er : x.run D = dput D x.a.data.toList x.id := by unfold DA.run; simp only [hkd]
    rw [er, if_pos (by simpa using hk1), zid_with, hx.id hkd, ha]
    by_cases e : k = s.a
    · rw [if_pos e, e, dget_put_same hD]; rfl
    · rw [if_neg e, dget_put_other _ (hne e)]; exact hd k
  | 1 =>
    rw [hkd] at hk1
    have h2 : s.kind = 2 := by simpa using hk1
    rw [if_neg (by rw [h2]; decide), if_pos h2, zid_with, zid_without]
    have hf := hfit hkd
    obtain ⟨f, hf⟩ := Option.ne_none_iff_exists'.1 hf
    have er : x.run D = dput (ddel D x.a.data.toList) x.b.data.toList f := by unfold DA.run; simp only [hkd, hf]
    rw [er]
    rw [ha] at hf ⊢
    rw [hx.b hkd]
    have hz := hd s.a
    rw [hf] at hz
    obtain ⟨i, hi, hi2⟩ := Option.map_eq_some_iff.1 hz.symm
    by_cases e : k = s.b
    · rw [if_pos e, e, dget_put_same (show IsMap (ddel D s.a.data.toList) from hD.del _), zid_some hi]
      simp [hi2]
    · rw [if_neg e, dget_put_other _ (hne e)]
      by_cases e2 : k = s.a
      · rw [if_pos e2, e2, dget_del_same]; rfl
      · rw [if_neg e2, dget_del_other _ (hne e2)]; exact hd k
  | 2 =>
    rw [hkd] at hk1
    have h3 : s.kind = 3 := by simpa using hk1
    have er : x.run D = ddel D x.a.data.toList := by unfold DA.run; simp only [hkd]
    rw [er, if_neg (by rw [h3]; decide), if_neg (by rw [h3]; decide), zid_without, ha]
    by_cases e : k = s.a
    · rw [if_pos e, e, dget_del_same]; rfl
    · rw [if_neg e, dget_del_other _ (hne e)]; exact hd k
  | n + 3 => omega
def doneN (T : RD) (x : ZS) : RD := { T with dir := zgone T.dir x, since := T.since ++ [x] }
theorem create_rel (hr : Rep w b G) (h : Rel G S φ) (k : ByteArray) (hs : Res (rfCreate G k) (dCreate G.tick k G') G er G') : er = (S.create k).1 ∧ ∃ φ', Rel G' (S.create k).2 φ' := by
  refine res_rel (rf := rfCreate G k) (done := { S.tick.2 with files := S.tick.2.files ++ [(⟨⟨#[]⟩, []⟩ : ZF)], dir := zgone S.tick.2.dir ⟨1, k, ⟨#[]⟩, S.tick.2.files.length⟩, since := S.tick.2.since ++ [⟨1, k, ⟨#[]⟩, S.tick.2.files.length⟩] }) ?_ h ?_ hs
  · have e1 := zname_is k
    have e2 := none_iff h k
    have e3 := rel_size hr h
    unfold RD.create rfCreate
    rw [← e1, e3]
    by_cases a1 : S.down = true <;> by_cases a2 : zname k = false <;> by_cases a3 : zfind S.dir k < 0 <;> by_cases a4 : 200 ≤ S.dir.length <;> simp [a1, a2, a3, a4, e2] <;> omega
  · rintro _ h2 ⟨f, c⟩
    generalize S.tick.2 = T at *
    obtain ⟨x, x1, x2, x3, hX⟩ := c.X
    have hD : IsMap G.tick.D := hr.now.isMap
    have hfr : ∀ i, i < T.files.length → φ i ≠ f := fun i hi e => by
      obtain ⟨now, acts, hc, _⟩ := h2.files i hi
      rw [e] at hc
      unfold DG.core at hc
      rw [c.fresh] at hc
      cases hc
    have hcore : G'.core = fun j => if j = f then some ([], [], []) else G.tick.core j := by
      funext j
      unfold DG.core
      rw [c.file]
      by_cases e : j = f
      · simp only [if_pos e]; rfl
      · simp only [if_neg e]
    have hlen : (T.files ++ [(⟨⟨#[]⟩, []⟩ : ZF)]).length = T.files.length + 1 := by simp
    have hφ : ∀ i, i < T.files.length → (if i = T.files.length then f else φ i) = φ i := fun i hi => if_neg (by omega)
    have hmap : ∀ (l : List ZN) (k : ByteArray), (∀ p ∈ l, p.2 < T.files.length) → (zid l k).map (fun i => if i = T.files.length then f else φ i) = (zid l k).map φ := fun l k hl => by
      cases hz : zid l k with
      | none => rfl
      | some i => exact congrArg some (hφ i (hl _ (zid_mem hz)))
    refine ⟨fun i => if i = T.files.length then f else φ i, ⟨c.room.trans h2.room, c.down.trans h2.down, by rw [c.fuse]; exact h2.fuse, h2.fz, fun k' => ?_, fun k' => ?_, ?_, fun i hi => ?_, fun i j hi hj e => ?_, ?_, ?_, h2.riseL, fun p hp => ?_, fun p hp => ?_, fun s hs => ?_⟩⟩
    · rw [c.D]
      have e1 : zgone T.dir ⟨1, k, ⟨#[]⟩, T.files.length⟩ = zwith T.dir k T.files.length := rfl
      show _ = (zid (zgone T.dir ⟨1, k, ⟨#[]⟩, T.files.length⟩) k').map _
      rw [e1, zid_with]
      by_cases e : k' = k
      · rw [if_pos e, e, dget_put_same hD]
        simp
      · rw [if_neg e, dget_put_other _ (fun e2 => e (ba_ext e2)), hmap _ _ h2.ids]
        exact h2.dir k'
    · rw [c.LD, hmap _ _ h2.idl]
      exact h2.last k'
    · rw [hX]
      refine All2.snoc ⟨⟨by rw [x1]; rfl, by omega⟩, x2, fun e => by omega, fun _ => by rw [x3]; exact (if_pos rfl).symm⟩ ?_
      exact All2.mono (fun a s hs hR => ⟨hR.kind, hR.a, hR.b, fun e => by
        rw [hR.id e]
        exact (hφ _ ((h2.sid s hs).2 (by rw [hR.kind.1, e]; rfl))).symm⟩) h2.acts
    · have hi' : i < T.files.length + 1 := by rw [← hlen]; exact hi
      rw [hcore]
      by_cases e : i = T.files.length
      · subst e
        refine ⟨[], [], ?_, ?_⟩
        · simp
        · simp [All2]
      · have hi2 : i < T.files.length := by omega
        obtain ⟨now, acts, hc, hu⟩ := h2.files i hi2
        have e2 : (T.files ++ [(⟨⟨#[]⟩, []⟩ : ZF)])[i]'hi = T.files[i] := List.getElem_append_left hi2
        refine ⟨now, acts, ?_, ?_⟩
        · simp only [e2, if_neg e, if_neg (hfr i hi2)]
          exact hc
        · simp only [e2]
          exact hu
    · have hi' : i < T.files.length + 1 := by rw [← hlen]; exact hi
      have hj' : j < T.files.length + 1 := by rw [← hlen]; exact hj
      by_cases e1 : i = T.files.length
      · by_cases e2 : j = T.files.length
        · omega
        · rw [if_pos e1, if_neg e2] at e
          exact absurd e.symm (hfr j (by omega))
      · by_cases e2 : j = T.files.length
        · rw [if_neg e1, if_pos e2] at e
          exact absurd e (hfr i (by omega))
        · rw [if_neg e1, if_neg e2] at e
          exact h2.inj i j (by omega) (by omega) e
    · show (T.files ++ [(⟨⟨#[]⟩, []⟩ : ZF)]).length ≤ G'.n
      rw [hlen, c.n]
      have := h2.nf
      omega
    · exact rises_gone h2.rise ⟨1, k, ⟨#[]⟩, T.files.length⟩
    · show p.2 < (T.files ++ [(⟨⟨#[]⟩, []⟩ : ZF)]).length
      rw [hlen]
      have hp' : p ∈ zgone T.dir ⟨1, k, ⟨#[]⟩, T.files.length⟩ := hp
      rcases gone_mem hp' with e | ⟨_, e⟩ | ⟨e, _⟩
      · have := h2.ids p e; omega
      · simp only at e; omega
      · exact absurd e (by simp)
    · show p.2 < (T.files ++ [(⟨⟨#[]⟩, []⟩ : ZF)]).length
      rw [hlen]
      have := h2.idl p hp
      omega
    · show s.id ≤ (T.files ++ [(⟨⟨#[]⟩, []⟩ : ZF)]).length ∧ (s.kind = 1 → s.id < (T.files ++ [(⟨⟨#[]⟩, []⟩ : ZF)]).length)
      rw [hlen]
      rcases List.mem_append.1 hs with e1 | e1
      · have h9 := h2.sid s e1
        exact ⟨by omega, fun e => by have := h9.2 e; omega⟩
      · rw [List.mem_singleton.1 e1]
        exact ⟨Nat.le_succ _, fun _ => Nat.lt_succ_self _⟩
/-- An act on names, in both. -/
theorem named_rel (hr : Rep w b G) {T : RD} (h2 : Rel G.tick T φ) {x : DA} {s : ZS} (c : Named G.tick G' x) (hx : ActR φ x s) (hs1 : s.kind ≠ 1) (hs0 : s.id = 0) (hfit : x.fits G.tick.D) (hf2 : s.kind = 2 → ∃ i, zid T.dir s.a = some i) : Rel G' { T with dir := zgone T.dir s, since := T.since ++ [s] } φ := by
  have hcore : G'.core = G.tick.core := by unfold DG.core; rw [c.file]
  refine ⟨c.room.trans h2.room, c.down.trans h2.down, by rw [c.fuse]; exact h2.fuse, h2.fz, fun k => ?_, fun k => by rw [c.LD]; exact h2.last k, by rw [c.X]; exact All2.snoc hx h2.acts, fun i hi => by rw [hcore]; exact h2.files i hi, h2.inj, ?_, rises_gone h2.rise s, h2.riseL, fun p hp => ?_, h2.idl, fun y hy => ?_⟩
  · rw [c.D]
    exact run_rel hr.now.isMap h2.dir hx hfit k
  · rw [c.n]
    have := h2.nf
    show T.files.length ≤ _
    omega
  · rcases gone_mem hp with e | ⟨e, _⟩ | ⟨e1, e2⟩
    · exact h2.ids p e
    · exact absurd e hs1
    · obtain ⟨i, hi⟩ := hf2 e1
      rw [e2, zid_some hi]
      exact h2.ids _ (zid_mem hi)
  · rcases List.mem_append.1 hy with e1 | e1
    · exact h2.sid y e1
    · rw [List.mem_singleton.1 e1]
      exact ⟨by rw [hs0]; exact Nat.zero_le _, fun e => absurd e hs1⟩
theorem some_zid (h : Rel G S φ) {k : ByteArray} {f : Nat} (hg : dget G.D k.data.toList = some f) : ∃ i, zid S.dir k = some i ∧ φ i = f := by
  rw [h.dir] at hg
  obtain ⟨i, h1, h2⟩ := Option.map_eq_some_iff.1 hg
  exact ⟨i, h1, h2⟩
theorem remove_rel (hr : Rep w b G) (h : Rel G S φ) (k : ByteArray) (hs : Res (rfSync G k) (dRemove G.tick k G') G er G') : er = (S.remove k).1 ∧ ∃ φ', Rel G' (S.remove k).2 φ' := by
  refine res_rel (rf := rfSync G k) (done := { S.tick.2 with dir := zgone S.tick.2.dir ⟨3, k, ⟨#[]⟩, 0⟩, since := S.tick.2.since ++ [⟨3, k, ⟨#[]⟩, 0⟩] }) ?_ h ?_ hs
  · have e2 := none_iff h k
    unfold RD.remove rfSync
    by_cases a1 : S.down = true <;> by_cases a3 : zfind S.dir k < 0 <;> simp [a1, a3, e2]
  · rintro _ h2 ⟨f, x, _, c, x1, x2⟩
    exact ⟨φ, named_rel hr h2 (s := ⟨3, k, ⟨#[]⟩, 0⟩) c ⟨⟨by rw [x1]; rfl, by omega⟩, x2, fun e => by omega, fun e => by omega⟩ (by simp) rfl (fun e => by omega) (fun e => by simp at e)⟩
theorem rename_rel (hr : Rep w b G) (h : Rel G S φ) (k t : ByteArray) (hs : Res (rfRename G k t) (dRename G.tick k t G') G er G') : er = (S.rename k t).1 ∧ ∃ φ', Rel G' (S.rename k t).2 φ' := by
  refine res_rel (rf := rfRename G k t) (done := { S.tick.2 with dir := zgone S.tick.2.dir ⟨2, k, t, 0⟩, since := S.tick.2.since ++ [⟨2, k, t, 0⟩] }) ?_ h ?_ hs
  · have e1 := zname_is t
    have e2 := none_iff h k
    unfold RD.rename rfRename
    rw [← e1]
    by_cases a1 : S.down = true <;> by_cases a2 : zname t = false <;> by_cases a3 : zfind S.dir k < 0 <;> simp [a1, a2, a3, e2]
  · rintro _ h2 ⟨f, x, hg, c, x1, x2, x3⟩
    have hg2 : dget G.tick.D k.data.toList = some f := hg
    exact ⟨φ, named_rel hr h2 (s := ⟨2, k, t, 0⟩) c ⟨⟨by rw [x1]; rfl, by omega⟩, x2, fun _ => x3, fun e => by omega⟩ (by simp) rfl (fun _ => by rw [x2, hg2]; simp) (fun _ => by obtain ⟨i, hi, _⟩ := some_zid h2 hg2; exact ⟨i, hi⟩)⟩
theorem dirsync_rel (h : Rel G S φ) (hs : Res 0 (DirSynced G.tick G') G er G') : er = S.dirsync.1 ∧ ∃ φ', Rel G' S.dirsync.2 φ' := by
  refine res_rel (rf := 0) (done := { S.tick.2 with lasts := S.tick.2.dir, since := [] }) ?_ h ?_ hs
  · unfold RD.dirsync
    by_cases a1 : S.down = true <;> simp [a1]
  · rintro _ h2 c
    have hcore : G'.core = G.tick.core := by unfold DG.core; rw [c.file]
    exact ⟨φ, ⟨c.room.trans h2.room, c.down.trans h2.down, by rw [c.fuse]; exact h2.fuse, h2.fz, fun k => by rw [c.D]; exact h2.dir k, fun k => by rw [c.LD]; exact h2.dir k, by rw [c.X]; trivial, fun i hi => by rw [hcore]; exact h2.files i hi, h2.inj, by rw [c.n]; exact h2.nf, h2.rise, h2.rise, h2.ids, h2.ids, fun s hs => by cases hs⟩⟩
/-- A file is another one, in both. -/
theorem file_rel {T : RD} (h2 : Rel G.tick T φ) {i f : Nat} (hi : i < T.files.length) (hf : φ i = f) (f' : ZF) (t : List UInt8 × List UInt8 × List FA) (hcore : G'.core = fun j => if j = f then some t else G.tick.core j) (hl : t.2.1 = f'.lasts.data.toList) (hu : All2 UnR t.2.2 f'.since)
    (hroom : G'.room = G.room) (hdown : G'.down = G.down) (hfuse : G'.fuse = G.tick.fuse) (hD : G'.D = G.D) (hLD : G'.LD = G.LD) (hX : G'.X = G.X) (hn : G.n ≤ G'.n) : Rel G' { T with files := T.files.set i f' } φ := by
  have hlen : (T.files.set i f').length = T.files.length := List.length_set
  refine ⟨hroom.trans h2.room, hdown.trans h2.down, by rw [hfuse]; exact h2.fuse, h2.fz, fun k => by rw [hD]; exact h2.dir k, fun k => by rw [hLD]; exact h2.last k, by rw [hX]; exact h2.acts, fun j hj => ?_, fun a c ha hc e => h2.inj a c (by rw [← hlen]; exact ha) (by rw [← hlen]; exact hc) e, ?_, h2.rise, h2.riseL, fun p hp => by show p.2 < (T.files.set i f').length; rw [hlen]; exact h2.ids p hp, fun p hp => by show p.2 < (T.files.set i f').length; rw [hlen]; exact h2.idl p hp, fun s hs => by show s.id ≤ (T.files.set i f').length ∧ (s.kind = 1 → s.id < (T.files.set i f').length); rw [hlen]; exact h2.sid s hs⟩
  · have hj' : j < T.files.length := by rw [← hlen]; exact hj
    rw [hcore]
    have eg : (T.files.set i f')[j]'hj = if i = j then f' else T.files[j] := List.getElem_set ..
    simp only [eg]
    by_cases e : i = j
    · subst e
      simp only [hf, ↓reduceIte]
      exact ⟨t.1, t.2.2, by rw [← hl], hu⟩
    · have e3 : ¬ φ j = f := fun e2 => e (h2.inj i j hi hj' (hf.trans e2.symm))
      simp only [if_neg e, if_neg e3]
      exact h2.files j hj'
  · show (T.files.set i f').length ≤ _
    rw [hlen]
    exact Nat.le_trans h2.nf hn
theorem core_upd {f : Nat} {F' : FG} (hf : G'.file = fun j => if j = f then some F' else G.tick.file j) : G'.core = fun j => if j = f then some (F'.now, F'.last, F'.acts) else G.tick.core j := by
  funext j
  unfold DG.core
  rw [hf]
  by_cases e : j = f
  · simp only [if_pos e]; rfl
  · simp only [if_neg e]
theorem append_rel (hr : Rep w b G) (h : Rel G S φ) (k t : ByteArray) (hs : Res (rfAppend G k t) (dAppend G.tick k t G') G er G') : er = (S.append k t).1 ∧ ∃ φ', Rel G' (S.append k t).2 φ' := by
  refine res_rel (rf := rfAppend G k t) (done := { S.tick.2 with files := S.tick.2.files.set (zfind S.dir k).toNat ((S.tick.2.files.getD (zfind S.dir k).toNat ⟨⟨#[]⟩, []⟩).more ⟨t, -1⟩) }) ?_ h ?_ hs
  · have e2 := none_iff h k
    have e3 := rel_used hr h
    have e4 := h.room
    have e5 : (G.room - (used G : Int) < (t.size : Int)) ↔ (S.room < (S.used S.dir.length : Int) + (t.size : Int)) := by rw [e3, e4]; omega
    unfold RD.append rfAppend
    by_cases a1 : S.down = true <;> by_cases a3 : zfind S.dir k < 0 <;> by_cases a4 : S.room < (S.used S.dir.length : Int) + (t.size : Int) <;> simp [a1, a3, a4, e2, e5]
  · rintro _ h2 ⟨f, F, F', c, hg, hF, hc⟩
    have hd : S.tick.2.dir = S.dir := (tick_same S).1
    obtain ⟨i, hi, hif⟩ := some_zid h2 hg
    have hil := h2.ids _ (zid_mem hi)
    simp only at hil
    rw [hd] at hi
    have e1 : (zfind S.dir k).toNat = i := by rw [zid_some hi]; rfl
    rw [e1]
    have e2 : S.tick.2.files.getD i ⟨⟨#[]⟩, []⟩ = S.tick.2.files[i] := by rw [List.getD_eq_getElem?_getD, List.getElem?_eq_getElem hil]; rfl
    rw [e2]
    obtain ⟨now, acts, hco, hu⟩ := h2.files i hil
    rw [hif, core_some hF] at hco
    have hco := Option.some.inj hco
    have hl : F.last = S.tick.2.files[i].lasts.data.toList := congrArg (fun t => t.2.1) hco
    have ha : F.acts = acts := congrArg (fun t => t.2.2) hco
    refine ⟨φ, file_rel h2 hil hif _ (F'.now, F'.last, F'.acts) (core_upd hc.file) ?_ ?_ hc.room hc.down hc.fuse hc.D hc.LD hc.X (by rw [hc.n]; show G.n ≤ G.n + 1; omega)⟩
    · show F'.last = _
      rw [hc.last, hl]; rfl
    · show All2 UnR F'.acts _
      rw [hc.acts, ha]
      exact All2.snoc ⟨fun e => (by cases e), fun _ => ⟨(by show (-1 : Int) < 0; decide), rfl⟩, ⟨(by show (-9223372036854775808 : Int) ≤ -1; decide), (by show (-1 : Int) ≤ 9223372036854775807; decide)⟩⟩ hu
theorem truncate_rel (hr : Rep w b G) (h : Rel G S φ) (k : ByteArray) (m : Int) (hm : -9223372036854775808 ≤ m ∧ m ≤ 9223372036854775807) (hs : Res (rfTruncate G k m) (dTruncate G.tick k m G') G er G') : er = (S.truncate k m).1 ∧ ∃ φ', Rel G' (S.truncate k m).2 φ' := by
  have e6 : ∀ i, zid S.dir k = some i → (flen G k.data.toList = (S.bytes i).size ∧ (zfind S.dir k).toNat = i) := fun i hi => ⟨rel_flen hr h hi, by rw [zid_some hi]; rfl⟩
  refine res_rel (rf := rfTruncate G k m) (done := { S.tick.2 with files := S.tick.2.files.set (zfind S.dir k).toNat ((S.tick.2.files.getD (zfind S.dir k).toNat ⟨⟨#[]⟩, []⟩).more ⟨⟨#[]⟩, m⟩) }) ?_ h ?_ hs
  · have e2 := none_iff h k
    unfold RD.truncate rfTruncate
    by_cases a1 : S.down = true
    · simp [a1]
    · by_cases a3 : zfind S.dir k < 0
      · simp [a1, a3, e2]
      · cases hz : zid S.dir k with
        | none => exact absurd (zid_none hz) (by omega)
        | some i =>
          obtain ⟨q1, q2⟩ := e6 i hz
          rw [q1, q2]
          by_cases a4 : m < 0 ∨ ((S.bytes i).size : Int) < m <;> simp [a1, a3, e2, a4]
  · rintro hrf h2 ⟨f, F, F', c, hg, hF, _, hc⟩
    have hm0 : 0 ≤ m := by
      refine Classical.byContradiction fun hn => ?_
      unfold rfTruncate at hrf
      have hg2 : dget G.D k.data.toList = some f := hg
      rw [hg2, if_neg (by simp), if_pos (.inl (by omega))] at hrf
      exact absurd hrf (by decide)
    have hd : S.tick.2.dir = S.dir := (tick_same S).1
    obtain ⟨i, hi, hif⟩ := some_zid h2 hg
    have hil := h2.ids _ (zid_mem hi)
    simp only at hil
    rw [hd] at hi
    have e1 : (zfind S.dir k).toNat = i := by rw [zid_some hi]; rfl
    rw [e1]
    have e2 : S.tick.2.files.getD i ⟨⟨#[]⟩, []⟩ = S.tick.2.files[i] := by rw [List.getD_eq_getElem?_getD, List.getElem?_eq_getElem hil]; rfl
    rw [e2]
    obtain ⟨now, acts, hco, hu⟩ := h2.files i hil
    rw [hif, core_some hF] at hco
    have hco := Option.some.inj hco
    have hl : F.last = S.tick.2.files[i].lasts.data.toList := congrArg (fun t => t.2.1) hco
    have ha : F.acts = acts := congrArg (fun t => t.2.2) hco
    refine ⟨φ, file_rel h2 hil hif _ (F'.now, F'.last, F'.acts) (core_upd hc.file) ?_ ?_ hc.room hc.down hc.fuse hc.D hc.LD hc.X (by rw [hc.n]; show G.n ≤ G.n + 1; omega)⟩
    · show F'.last = _
      rw [hc.last, hl]; rfl
    · show All2 UnR F'.acts _
      rw [hc.acts, ha]
      exact All2.snoc ⟨fun _ => ⟨hm0, rfl, rfl⟩, fun e => (by cases e), hm⟩ hu
theorem sync_rel (hr : Rep w b G) (h : Rel G S φ) (k : ByteArray) (hs : Res (rfSync G k) (dSync G.tick k G') G er G') : er = (S.sync k).1 ∧ ∃ φ', Rel G' (S.sync k).2 φ' := by
  refine res_rel (rf := rfSync G k) (done := { S.tick.2 with files := S.tick.2.files.set (zfind S.dir k).toNat ⟨S.bytes (zfind S.dir k).toNat, []⟩ }) ?_ h ?_ hs
  · have e2 := none_iff h k
    unfold RD.sync rfSync
    by_cases a1 : S.down = true <;> by_cases a3 : zfind S.dir k < 0 <;> simp [a1, a3, e2]
  · rintro _ h2 ⟨f, F, F', hg, hF, hc⟩
    have hd : S.tick.2.dir = S.dir := (tick_same S).1
    obtain ⟨i, hi, hif⟩ := some_zid h2 hg
    have hil := h2.ids _ (zid_mem hi)
    simp only at hil
    rw [hd] at hi
    have e1 : (zfind S.dir k).toNat = i := by rw [zid_some hi]; rfl
    rw [e1]
    have hil2 : i < S.files.length := by rw [← (tick_same S).2.1]; exact hil
    obtain ⟨F2, hF2, hnow, _⟩ := rel_file hr h hil2
    rw [hif] at hF2
    have hFF : F = F2 := Option.some.inj ((show G.file f = some F from hF).symm.trans hF2)
    subst hFF
    refine ⟨φ, file_rel h2 hil hif _ (F'.now, F'.last, F'.acts) (core_upd hc.file) ?_ ?_ hc.room hc.down hc.fuse hc.D hc.LD hc.X (by rw [hc.n]; exact Nat.le_refl _)⟩
    · show F'.last = (S.bytes i).data.toList
      rw [hc.last, hnow]
    · show All2 UnR F'.acts []
      rw [hc.acts]
      trivial
theorem fuse_rel (h : Rel G S φ) (n : Int) (hn : -9223372036854775808 ≤ n ∧ n ≤ 9223372036854775807) (hc : G' = { G with fuse := n }) : Rel G' { S with fuse := max n (-1) } φ := by
  subst hc
  exact ⟨h.room, h.down, by show n = max n (-1) ∨ (n < 0 ∧ max n (-1) < 0); omega, by show -1 ≤ max n (-1) ∧ max n (-1) ≤ _; omega, h.dir, h.last, h.acts, h.files, h.inj, h.nf, h.rise, h.riseL, h.ids, h.idl, h.sid⟩
end
end Go.Proofs.YtknldpaaikcedaaGreat
/-
  The relation, kept by a crash; the two disks answer the same.
-/
namespace Go.Proofs.YtknldpaaikcedaaGreat
open Go.RowKit Go.Maps Go.Sort

section
variable {w w' : World} {b : Nat} {G G' : DG} {S : RD} {φ : Nat → Nat} {er : Int}
theorem many_same (dirs : Int) (m : Nat) : dmany dirs m = zmany dirs m := by
  unfold dmany zmany
  omega
/-- Acts of the directory, one behind the other, in both. -/
theorem fold_rel {N : Nat} : ∀ {X : List DA} {s : List ZS} {D : DataW Nat} {l : List ZN}, IsMap D → (∀ k : ByteArray, dget D k.data.toList = (zid l k).map φ) → (∀ p ∈ l, p.2 < N) → All2 (ActR φ) X s → (∀ x ∈ s, x.kind = 1 → x.id < N) → dfitAll D X → (∀ k : ByteArray, dget (drunAll D X) k.data.toList = (zid (zfold l s) k).map φ) ∧ ∀ p ∈ zfold l s, p.2 < N
  | [], [], D, l, _, hd, hi, _, _, _ => ⟨hd, hi⟩
  | x :: X, s :: t, D, l, hD, hd, hi, ha, hs, hf => by
    have h1 := run_rel hD hd ha.1 hf.1
    refine fold_rel (X := X) (s := t) (D := x.run D) (l := zgone l s) (isMap_run hD x) h1 (fun p hp => ?_) ha.2 (fun y hy => hs y (List.mem_cons_of_mem _ hy)) hf.2
    rcases gone_mem hp with e | ⟨e1, e2⟩ | ⟨e1, e2⟩
    · exact hi p e
    · rw [e2]; exact hs s List.mem_cons_self e1
    · have hk : x.kind = 1 := by have := ha.1.kind.1; omega
      have hg := hf.1 hk
      rw [ha.1.a, hd] at hg
      cases hz : zid l s.a with
      | none => rw [hz] at hg; exact absurd rfl hg
      | some i =>
        rw [e2, zid_some hz]
        exact hi _ (zid_mem hz)
theorem all2_at {α β : Type} {R : α → β → Prop} : ∀ {l : List α} {m : List β} (i : Nat) (h1 : i < l.length) (h2 : i < m.length), All2 R l m → R l[i] m[i]
  | a :: l, b :: m, 0, _, _, h => h.1
  | a :: l, b :: m, i + 1, h1, h2, h => all2_at (l := l) (m := m) i (by simpa using h1) (by simpa using h2) h.2
theorem crash_found (hr : Rep w b G) (h : Rel G S φ) (i : Nat) (hi : i < S.since.length) (hk : S.since[i].kind = 2) : ∃ j, zid (zfold S.lasts (S.since.take i)) S.since[i].a = some j ∧ j < S.files.length := by
  have hl := All2.length h.acts
  have hi2 : i < G.X.length := by omega
  obtain ⟨h1, h2⟩ := fold_rel (N := S.files.length) hr.last.isMap h.last h.idl (All2.take i h.acts) (fun x hx e => (h.sid x (List.mem_of_mem_take hx)).2 e) (dfitAll_take _ _ i hr.fit)
  have hR := all2_at i hi2 hi h.acts
  have hk1 : G.X[i].kind = 1 := by have := hR.kind.1; omega
  have hft := dfitAll_take _ _ (i + 1) hr.fit
  rw [List.take_succ_eq_append_getElem hi2, dfitAll_append] at hft
  have hg := hft.2.1 hk1
  rw [hR.a, h1] at hg
  cases hz : zid (zfold S.lasts (S.since.take i)) S.since[i].a with
  | none => rw [hz] at hg; exact absurd rfl hg
  | some j => exact ⟨j, rfl, h2 _ (zid_mem hz)⟩
/-- Files crash, one behind the other. -/
def crashL : List ZN → List Int → List ZF → List ZF
  | [], _, fs => fs
  | p :: m, us, fs => crashL m us.tail (zcrash1 fs p.2 (us.headD 0))
theorem crashL_snoc : ∀ (m : List ZN) (us : List Int) (fs : List ZF) (p : ZN), crashL (m ++ [p]) us fs = zcrash1 (crashL m us fs) p.2 (us.getD m.length 0)
  | [], us, fs, p => by
    show zcrash1 fs p.2 (us.headD 0) = _
    cases us <;> rfl
  | q :: m, us, fs, p => by
    show crashL (m ++ [p]) us.tail (zcrash1 fs q.2 (us.headD 0)) = _
    rw [crashL_snoc m us.tail _ p]
    congr 1
    cases us with
    | nil => simp
    | cons u us => simp
theorem crashL_is (D : List ZN) (us : List Int) (fs : List ZF) (i : Nat) (hi : i ≤ D.length) : zcrashN D us fs i = crashL (D.take i) us fs := by
  induction i with
  | zero => rfl
  | succ i ih =>
    have hi2 : i < D.length := by omega
    rw [List.take_succ_eq_append_getElem hi2, crashL_snoc, zcrashN, ih (by omega)]
    have e : D.getD i (⟨#[]⟩, 0) = D[i] := by rw [List.getD_eq_getElem?_getD, List.getElem?_eq_getElem hi2]; rfl
    rw [e, List.length_take]
    have e2 : min i D.length = i := by omega
    rw [e2]
def CoreR (φ : Nat → Nat) (c : Nat → Option (List UInt8 × List UInt8 × List FA)) (fs : List ZF) : Prop := ∀ i (h : i < fs.length), ∃ now acts, c (φ i) = some (now, fs[i].lasts.data.toList, acts) ∧ All2 UnR acts fs[i].since
theorem crash_core {D : DataW Nat} : ∀ (m : List ZN) (us : List Int) (c : Nat → Option (List UInt8 × List UInt8 × List FA)) (fs : List ZF), CoreR φ c fs → (∀ p ∈ m, dget D p.1.data.toList = some (φ p.2) ∧ p.2 < fs.length) → (∀ i j, i < fs.length → j < fs.length → φ i = φ j → i = j) → CoreR φ (crashN D c (m.map fun p => p.1.data.toList) us) (crashL m us fs)
  | [], _, _, _, h, _, _ => h
  | p :: m, us, c, fs, h, hm, hi => by
    obtain ⟨h1, h2⟩ := hm p List.mem_cons_self
    have hlen : (zcrash1 fs p.2 (us.headD 0)).length = fs.length := by unfold zcrash1; rw [List.length_set]
    show CoreR φ (crashN D (match dget D p.1.data.toList with | some f => crash1 c f (us.headD 0) | none => c) (m.map fun p => p.1.data.toList) us.tail) (crashL m us.tail (zcrash1 fs p.2 (us.headD 0)))
    rw [h1]
    refine crash_core m us.tail _ _ ?_ (fun q hq => by rw [hlen]; exact hm q (List.mem_cons_of_mem _ hq)) (fun i j hi1 hj1 => hi i j (by rw [← hlen]; exact hi1) (by rw [← hlen]; exact hj1))
    intro i hil
    have hil2 : i < fs.length := by rw [← hlen]; exact hil
    have eg : (zcrash1 fs p.2 (us.headD 0))[i]'hil = if p.2 = i then (fs.getD p.2 ⟨⟨#[]⟩, []⟩).crashed (us.headD 0) else fs[i] := List.getElem_set ..
    simp only [eg]
    unfold crash1
    by_cases e : p.2 = i
    · subst e
      obtain ⟨now, acts, hc, hu⟩ := h p.2 hil2
      have e2 : fs.getD p.2 ⟨⟨#[]⟩, []⟩ = fs[p.2] := by rw [List.getD_eq_getElem?_getD, List.getElem?_eq_getElem hil2]; rfl
      simp only [↓reduceIte, hc, e2]
      refine ⟨settleL fs[p.2].lasts.data.toList acts (us.headD 0), [], ?_, ?_⟩
      · simp only [Option.map_some]
        rw [settle_same _ _ hu]
        rfl
      · trivial
    · have e3 : ¬ φ i = φ p.2 := fun e4 => e (hi _ _ hil2 h2 e4).symm
      simp only [if_neg e, if_neg e3]
      exact h i hil2
theorem crash_rel (hr : Rep w b G) (hr' : Rep w' b G') (h : Rel G S φ) (dirs : Int) (us : List Int) (c : Crashed G G' dirs us) : Rel G' (S.crash dirs us) φ := by
  have hl := All2.length h.acts
  have hD : G'.D = drunAll G.LD (G.X.take (zmany dirs S.since.length)) := by rw [c.D, many_same, hl]
  obtain ⟨h1, h2⟩ := fold_rel (N := S.files.length) hr.last.isMap h.last h.idl (All2.take (zmany dirs S.since.length) h.acts) (fun x hx e => (h.sid x (List.mem_of_mem_take hx)).2 e) (dfitAll_take _ _ _ hr.fit)
  rw [← hD] at h1
  have hri : zrises (zfold S.lasts (S.since.take (zmany dirs S.since.length))) := rises_fold h.riseL _
  unfold RD.crash
  generalize zfold S.lasts (S.since.take (zmany dirs S.since.length)) = D at *
  have hp := perm_names hr'.now hr'.fullD h1 hri
  have hnames : (D.map fun p => p.1.data.toList) = dnames G'.D := by
    have tr : ∀ a b c : List UInt8, leB a b = true → leB b c = true → leB a c = true := fun a b c h1 h2 => by simp only [leB, decide_eq_true_eq] at *; exact List.le_trans h1 h2
    have tt : ∀ a b : List UInt8, (leB a b || leB b a) = true := fun a b => by simp only [leB, Bool.or_eq_true, decide_eq_true_eq]; exact List.le_total a b
    refine List.Perm.eq_of_pairwise (le := fun a b => leB a b = true) (fun a b _ _ h1 h2 => ?_) ?_ (List.pairwise_mergeSort tr tt _) (hp.trans (List.mergeSort_perm _ leB).symm)
    · simp only [leB, decide_eq_true_eq] at h1 h2
      exact List.le_antisymm h1 h2
    · rw [List.pairwise_map]
      exact hri.imp fun h => by simp only [leB, decide_eq_true_eq]; exact List.le_of_lt h
  have hcl : zcrashN D us S.files D.length = crashL D us S.files := by rw [crashL_is D us S.files D.length (Nat.le_refl _), List.take_of_length_le (Nat.le_refl _)]
  have hlen := zcrashN_length D us S.files D.length
  have hcore : CoreR φ G'.core (zcrashN D us S.files D.length) := by
    rw [c.core, ← hnames, hcl]
    refine crash_core D us G.core S.files h.files (fun p hp => ?_) h.inj
    obtain ⟨i, hi, rfl⟩ := List.getElem_of_mem hp
    exact ⟨by rw [h1, zid_at hri i hi]; rfl, h2 _ hp⟩
  refine ⟨c.room.trans h.room, c.down, .inl c.fuse, (by show (-1 : Int) ≤ -1 ∧ (-1 : Int) ≤ 9223372036854775807; decide), h1, fun k => by rw [c.LD]; exact h1 k, by rw [c.X]; trivial, hcore, fun i j hi hj => h.inj i j (by rw [← hlen]; exact hi) (by rw [← hlen]; exact hj), ?_, hri, hri, fun p hp => ?_, fun p hp => ?_, fun s hs => by cases hs⟩
  · show (zcrashN D us S.files D.length).length ≤ _
    rw [hlen, c.n]
    exact h.nf
  · show p.2 < (zcrashN D us S.files D.length).length
    rw [hlen]
    exact h2 p hp
  · show p.2 < (zcrashN D us S.files D.length).length
    rw [hlen]
    exact h2 p hp
theorem fresh_rel {room : Int} {q : Nat} (h : Fresh G room q) : Rel G (RD.fresh room) φ := by
  obtain ⟨hi, hc⟩ := h.is
  refine ⟨hi.room, hi.down, .inl hi.fuse, ?_, fun k => by rw [hi.D]; rfl, fun k => by rw [hi.LD]; rfl, by rw [hi.X]; trivial, fun i hi2 => (by cases hi2), fun i j hi2 => (by cases hi2), Nat.zero_le _, List.Pairwise.nil, List.Pairwise.nil, fun p hp => (by cases hp), fun p hp => (by cases hp), fun s hs => (by cases hs)⟩
  show (-1 : Int) ≤ -1 ∧ (-1 : Int) ≤ 9223372036854775807
  decide
theorem read_rel (hr : Rep w b G) (h : Rel G S φ) (k : ByteArray) : readS G k = (S.read k).1 ∧ readE G k = (S.read k).2 := by
  have hd := h.down
  have hn := none_iff h k
  unfold readS readE RD.read
  rw [hd]
  cases hdn : S.down with
  | true => exact ⟨rfl, rfl⟩
  | false =>
    cases hz : zid S.dir k with
    | none =>
      have e1 := zid_none hz
      have e2 : dget G.D k.data.toList = none := by rw [h.dir, hz]; rfl
      rw [e2, e1]
      exact ⟨rfl, rfl⟩
    | some i =>
      obtain ⟨hi, hg⟩ := rel_id h hz
      obtain ⟨F, hF, hnow, _⟩ := rel_file hr h hi
      rw [hg, zid_some hz]
      simp only [hF, hnow]
      have e3 : ¬ (i : Int) < 0 := by omega
      refine ⟨?_, ?_⟩
      · rw [if_neg (by decide), if_neg (by decide), if_neg e3]
        exact ba_ext (by simp)
      · rw [if_neg (by decide), if_neg (by simp), if_neg (by decide), if_neg e3]
end
end Go.Proofs.YtknldpaaikcedaaGreat
