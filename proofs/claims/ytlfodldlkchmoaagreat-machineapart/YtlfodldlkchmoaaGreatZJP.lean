/-
  MachineApart on lists: what is done of one topic, and of its subscription, changes nothing of the other one.
-/
import Derived.Test.YtlfodldlkchmoaaGreatZJ18
namespace Go.Proofs.YtlfodldlkchmoaaGreat.Y
open Go.RowKit
set_option maxRecDepth 100000
set_option linter.unusedVariables false
set_option linter.unusedSimpArgs false
inductive Upd where
  | no
  | put (H : TG)
  | new (H : TG)
  | sub (s : SB)
def Upd.on (k n : List UInt8) (X : MS) : Upd → MS
  | .no => X
  | .put H => X.putT k H
  | .new H => X.newT k H
  | .sub s => X.putS n s
def Upd.fit (k : List UInt8) (X : MS) : Upd → Prop
  | .no => True
  | .put _ => (X.T k).isSome = true
  | .new _ => X.T k = none
  | .sub s => s.top.data.toList = k
theorem keep_both {X Y : MS} {k n : List UInt8} (s : SB) (code : Int) (hn : code = 0 → s.name.data.toList = n ∧ s.top.data.toList = k) :
    ∃ r u, keepM X s code = (r, Upd.on k n X u) ∧ keepM Y s code = (r, Upd.on k n Y u) ∧ Upd.fit k X u := by
  unfold keepM
  by_cases h : code = 0
  · rw [if_pos h, if_pos h]
    rw [(hn h).1]
    exact ⟨_, .sub s, rfl, rfl, (hn h).2⟩
  · rw [if_neg h, if_neg h]
    exact ⟨_, .no, rfl, rfl, trivial⟩
theorem both_do {X Y : MS} {c d : Nat} (hX : X.Ok c) (hY : Y.Ok d) (k n : List UInt8) (cm : CM) (h1 : 1 ≤ cm.kind) (h9 : cm.kind ≤ 9) (ht : hasTopic cm.kind = true → cm.topic.data.toList = k)
    (hn : 3 ≤ cm.kind → cm.kind ≤ 7 → cm.name.data.toList = n) (hT : X.T k = Y.T k) (hS : X.S n = Y.S n) (hs : ∀ s, X.S n = some s → s.top.data.toList = k) (tX : X.tn < 20) (tY : Y.tn < 20) (sX : X.sn < 50) (sY : Y.sn < 50) :
    ∃ r u, doM X cm = (r, Upd.on k n X u) ∧ doM Y cm = (r, Upd.on k n Y u) ∧ Upd.fit k X u := by
  have hk : cm.kind = 1 ∨ cm.kind = 2 ∨ cm.kind = 3 ∨ cm.kind = 4 ∨ cm.kind = 5 ∨ cm.kind = 6 ∨ cm.kind = 7 ∨ cm.kind = 8 ∨ cm.kind = 9 := by omega
  rcases hk with hk | hk | hk | hk | hk | hk | hk | hk | hk
  · have e : ∀ Z, doM Z cm = createM Z cm := fun Z => by unfold doM; rw [if_pos hk]
    have et := ht (by rw [hk]; rfl)
    rw [e, e]
    unfold createM
    rw [et, ← hT]
    cases eT : X.T k with
    | some H => exact ⟨_, .no, rfl, rfl, trivial⟩
    | none =>
      simp only
      rw [if_neg (by omega), if_neg (by omega)]
      exact ⟨_, .new _, rfl, rfl, eT⟩
  · have e : ∀ Z, doM Z cm = publishM Z cm := fun Z => by unfold doM; simp only [hk]; rfl
    have et := ht (by rw [hk]; rfl)
    rw [e, e]
    unfold publishM
    rw [et, ← hT]
    cases eT : X.T k with
    | some H => exact ⟨_, .put _, rfl, rfl, by show (X.T k).isSome = true; rw [eT]; rfl⟩
    | none => exact ⟨_, .no, rfl, rfl, trivial⟩
  · have e : ∀ Z, doM Z cm = subscribeM Z cm := fun Z => by unfold doM; simp only [hk]; rfl
    have et := ht (by rw [hk]; rfl)
    have en := hn (by omega) (by omega)
    rw [e, e]
    unfold subscribeM
    rw [et, en, ← hT, ← hS]
    cases eT : X.T k with
    | none => exact ⟨_, .no, rfl, rfl, trivial⟩
    | some H =>
      simp only
      by_cases hi : (X.S n).isSome = true
      · rw [if_pos hi, if_pos hi]; exact ⟨_, .no, rfl, rfl, trivial⟩
      · rw [if_neg hi, if_neg hi, if_neg (by omega), if_neg (by omega)]
        refine keep_both _ _ fun h0 => ?_
        have q := new_name cm.name H cm.n h0
        rw [q.1, q.2, en]
        exact ⟨rfl, (hX.tops k H eT).2⟩
  · have e : ∀ Z, doM Z cm = attachM Z cm := fun Z => by unfold doM; simp only [hk]; rfl
    have en := hn (by omega) (by omega)
    rw [e, e]
    unfold attachM
    rw [en, ← hS]
    cases eS : X.S n with
    | none => exact ⟨_, .no, rfl, rfl, trivial⟩
    | some s => exact keep_both _ _ fun h0 => ⟨(hX.subs n s eS).2.1, hs s eS⟩
  · have e : ∀ Z, doM Z cm = pollM Z cm := fun Z => by unfold doM; simp only [hk]; rfl
    have en := hn (by omega) (by omega)
    rw [e, e]
    unfold pollM
    rw [en, ← hS]
    cases eS : X.S n with
    | none => exact ⟨_, .no, rfl, rfl, trivial⟩
    | some s =>
      simp only
      rw [hs s eS, ← hT]
      cases eT : X.T k with
      | none => exact ⟨_, .no, rfl, rfl, trivial⟩
      | some H =>
        simp only
        by_cases h0 : (pollF s H cm.n).2.2 = 0
        · rw [if_pos h0, if_pos h0]
          exact ⟨_, .sub (pollF s H cm.n).1, rfl, rfl, by show (pollF s H cm.n).1.top.data.toList = k; rw [(poll_name s H cm.n).2]; exact hs s eS⟩
        · rw [if_neg h0, if_neg h0]; exact ⟨_, .no, rfl, rfl, trivial⟩
  · have e : ∀ Z, doM Z cm = ackM Z cm := fun Z => by unfold doM; simp only [hk]; rfl
    have en := hn (by omega) (by omega)
    rw [e, e]
    unfold ackM
    rw [en, ← hS]
    cases eS : X.S n with
    | none => exact ⟨_, .no, rfl, rfl, trivial⟩
    | some s => exact keep_both _ _ fun h0 => by rw [(ack_name s cm.n).1, (ack_name s cm.n).2]; exact ⟨(hX.subs n s eS).2.1, hs s eS⟩
  · have e : ∀ Z, doM Z cm = seekM Z cm := fun Z => by unfold doM; simp only [hk]; rfl
    have en := hn (by omega) (by omega)
    rw [e, e]
    unfold seekM
    rw [en, ← hS]
    cases eS : X.S n with
    | none => exact ⟨_, .no, rfl, rfl, trivial⟩
    | some s =>
      simp only
      rw [hs s eS, ← hT]
      cases eT : X.T k with
      | none => exact ⟨_, .no, rfl, rfl, trivial⟩
      | some H => exact keep_both _ _ fun h0 => by rw [(seek_name s H cm.n).1, (seek_name s H cm.n).2]; exact ⟨(hX.subs n s eS).2.1, hs s eS⟩
  · have e : ∀ Z, doM Z cm = trimM Z cm := fun Z => by unfold doM; simp only [hk]; rfl
    have et := ht (by rw [hk]; rfl)
    rw [e, e]
    unfold trimM
    rw [et, ← hT]
    cases eT : X.T k with
    | some H => exact ⟨_, .put _, rfl, rfl, by show (X.T k).isSome = true; rw [eT]; rfl⟩
    | none => exact ⟨_, .no, rfl, rfl, trivial⟩
  · have e : ∀ Z, doM Z cm = compactM Z cm := fun Z => by unfold doM; simp only [hk]; rfl
    have et := ht (by rw [hk]; rfl)
    rw [e, e]
    unfold compactM
    rw [et, ← hT]
    cases eT : X.T k with
    | some H => exact ⟨_, .put _, rfl, rfl, by show (X.T k).isSome = true; rw [eT]; rfl⟩
    | none => exact ⟨_, .no, rfl, rfl, trivial⟩
def keyT (far : Bool) : List UInt8 := if far then [98] else [97]
def keyN (far : Bool) : List UInt8 := if far then [116] else [115]
def oneIf (b : Bool) : Nat := if b then 1 else 0
structure Lone (X : MS) : Prop where
  tn : X.tn ≤ oneIf (X.T (keyT false)).isSome + oneIf (X.T (keyT true)).isSome
  sn : X.sn ≤ oneIf (X.S (keyN false)).isSome + oneIf (X.S (keyN true)).isSome
  top : ∀ f s, X.S (keyN f) = some s → s.top.data.toList = keyT f
theorem oneIf_le (b : Bool) : oneIf b ≤ 1 := by cases b <;> decide
theorem Lone.few {X : MS} (h : Lone X) : X.tn < 20 ∧ X.sn < 50 := by
  have h1 := h.tn
  have h2 := h.sn
  have := oneIf_le (X.T (keyT false)).isSome
  have := oneIf_le (X.T (keyT true)).isSome
  have := oneIf_le (X.S (keyN false)).isSome
  have := oneIf_le (X.S (keyN true)).isSome
  omega
theorem Lone.new (m : Nat) : Lone (MS.new m) := ⟨Nat.zero_le _, Nat.zero_le _, fun f s e => by cases e⟩
theorem Lone.tick {X : MS} (h : Lone X) (l : List UInt8) : Lone (X.tick l) := ⟨h.tn, h.sn, h.top⟩
theorem keyT_ne (f : Bool) : keyT (!f) ≠ keyT f := by cases f <;> decide
theorem keyN_ne (f : Bool) : keyN (!f) ≠ keyN f := by cases f <;> decide
theorem Upd.otherT {k n j : List UInt8} {X : MS} (u : Upd) (hj : j ≠ k) : (Upd.on k n X u).T j = X.T j := by
  cases u with
  | no => rfl
  | put H => exact putF_other _ _ hj
  | new H => exact putF_other _ _ hj
  | sub s => rfl
theorem Upd.otherS {k n j : List UInt8} {X : MS} (u : Upd) (hj : j ≠ n) : (Upd.on k n X u).S j = X.S j := by
  cases u with
  | no => rfl
  | put H => rfl
  | new H => rfl
  | sub s => exact putF_other _ _ hj
theorem Upd.same {k n : List UInt8} {X Y : MS} (u : Upd) (hT : X.T k = Y.T k) (hS : X.S n = Y.S n) : (Upd.on k n X u).T k = (Upd.on k n Y u).T k ∧ (Upd.on k n X u).S n = (Upd.on k n Y u).S n := by
  cases u with
  | no => exact ⟨hT, hS⟩
  | put H => exact ⟨(putF_same _ _ _).trans (putF_same _ _ _).symm, hS⟩
  | new H => exact ⟨(putF_same _ _ _).trans (putF_same _ _ _).symm, hS⟩
  | sub s => exact ⟨hT, (putF_same _ _ _).trans (putF_same _ _ _).symm⟩
theorem two_le {f : Bool} (P : Bool → Nat) {m : Nat} (h : m ≤ P f + P (!f)) : m ≤ P false + P true := by
  cases f
  · exact h
  · exact Nat.le_trans h (Nat.le_of_eq (Nat.add_comm _ _))
theorem le_two {f : Bool} (P : Bool → Nat) {m : Nat} (h : m ≤ P false + P true) : m ≤ P f + P (!f) := by
  cases f
  · exact h
  · exact Nat.le_trans h (Nat.le_of_eq (Nat.add_comm _ _))
theorem Lone.on {X : MS} (h : Lone X) (f : Bool) (u : Upd) (hu : Upd.fit (keyT f) X u) : Lone (Upd.on (keyT f) (keyN f) X u) := by
  have ot : (Upd.on (keyT f) (keyN f) X u).T (keyT (!f)) = X.T (keyT (!f)) := u.otherT (keyT_ne f)
  have os : (Upd.on (keyT f) (keyN f) X u).S (keyN (!f)) = X.S (keyN (!f)) := u.otherS (keyN_ne f)
  have h1 : X.tn ≤ oneIf (X.T (keyT f)).isSome + oneIf (X.T (keyT (!f))).isSome := le_two (f := f) (fun b => oneIf (X.T (keyT b)).isSome) h.tn
  have h2 : X.sn ≤ oneIf (X.S (keyN f)).isSome + oneIf (X.S (keyN (!f))).isSome := le_two (f := f) (fun b => oneIf (X.S (keyN b)).isSome) h.sn
  refine ⟨two_le (f := f) (fun b => oneIf ((Upd.on (keyT f) (keyN f) X u).T (keyT b)).isSome) ?_, two_le (f := f) (fun b => oneIf ((Upd.on (keyT f) (keyN f) X u).S (keyN b)).isSome) ?_, fun g s e => ?_⟩
  · show (Upd.on (keyT f) (keyN f) X u).tn ≤ oneIf ((Upd.on (keyT f) (keyN f) X u).T (keyT f)).isSome + oneIf ((Upd.on (keyT f) (keyN f) X u).T (keyT (!f))).isSome
    rw [ot]
    cases u with
    | no => exact h1
    | put H =>
      have e9 : (Upd.on (keyT f) (keyN f) X (.put H)).T (keyT f) = some H := putF_same _ _ _
      rw [e9]
      have e8 : oneIf (X.T (keyT f)).isSome = 1 := by rw [show (X.T (keyT f)).isSome = true from hu]; rfl
      rw [e8] at h1
      exact h1
    | new H =>
      have e9 : (Upd.on (keyT f) (keyN f) X (.new H)).T (keyT f) = some H := putF_same _ _ _
      rw [e9]
      have e8 : oneIf (X.T (keyT f)).isSome = 0 := by rw [show X.T (keyT f) = none from hu]; rfl
      rw [e8] at h1
      show X.tn + 1 ≤ 1 + _
      omega
    | sub s => exact h1
  · show (Upd.on (keyT f) (keyN f) X u).sn ≤ oneIf ((Upd.on (keyT f) (keyN f) X u).S (keyN f)).isSome + oneIf ((Upd.on (keyT f) (keyN f) X u).S (keyN (!f))).isSome
    rw [os]
    cases u with
    | no => exact h2
    | put H => exact h2
    | new H => exact h2
    | sub s =>
      have e9 : (Upd.on (keyT f) (keyN f) X (.sub s)).S (keyN f) = some s := putF_same _ _ _
      rw [e9]
      show (if (X.S (keyN f)).isSome = true then X.sn else X.sn + 1) ≤ 1 + _
      cases e8 : (X.S (keyN f)).isSome with
      | true =>
        rw [e8] at h2
        rw [if_pos rfl]
        exact h2
      | false =>
        rw [e8] at h2
        rw [if_neg (by decide)]
        have e7 : oneIf false = 0 := rfl
        rw [e7] at h2
        omega
  · by_cases hg : g = f
    · subst hg
      cases u with
      | no => exact h.top g s e
      | put H => exact h.top g s e
      | new H => exact h.top g s e
      | sub s2 =>
        have e9 : (Upd.on (keyT g) (keyN g) X (.sub s2)).S (keyN g) = some s2 := putF_same _ _ _
        rw [e9] at e
        obtain rfl := Option.some.inj e
        exact hu
    · have e9 : (Upd.on (keyT f) (keyN f) X u).S (keyN g) = X.S (keyN g) := u.otherS fun e7 => hg (by revert e7; cases f <;> cases g <;> first | exact fun _ => rfl | exact fun e7 => absurd e7 (by decide))
      rw [e9] at e
      exact h.top g s e
structure Near (X Y : MS) : Prop where
  one : Lone X
  two : Lone Y
  t : X.T (keyT false) = Y.T (keyT false)
  s : X.S (keyN false) = Y.S (keyN false)
def apT (far : Bool) (s : ByteArray) : ByteArray := if s = ⟨#[]⟩ then s else if far then ⟨#[98]⟩ else ⟨#[97]⟩
def apN0 (kind : Int) (s : ByteArray) : ByteArray := if s = ⟨#[]⟩ ∨ kind = 2 then s else ⟨#[115]⟩
def apN (far : Bool) (kind : Int) (s : ByteArray) : ByteArray := if far = true ∧ apN0 kind s = ⟨#[115]⟩ then ⟨#[116]⟩ else apN0 kind s
def apC (far : Bool) (x : CM) : CM := { x with topic := apT far x.topic, name := apN far x.kind x.name }
theorem apT_key {far : Bool} {s : ByteArray} (h : wordB (apT far s) = true) : (apT far s).data.toList = keyT far := by
  unfold apT at h ⊢
  by_cases e : s = ⟨#[]⟩
  · rw [if_pos e, e] at h
    exact absurd h (by decide)
  · rw [if_neg e]
    cases far <;> rfl
theorem apN_key {far : Bool} {k : Int} {s : ByteArray} (h : wordB (apN far k s) = true) (hk : k ≠ 2) : (apN far k s).data.toList = keyN far := by
  by_cases e : s = ⟨#[]⟩
  · exfalso
    have e0 : apN0 k s = ⟨#[]⟩ := by unfold apN0; rw [if_pos (Or.inl e), e]
    unfold apN at h
    rw [e0, if_neg (fun e => absurd e.2 (by decide))] at h
    exact absurd h (by decide)
  · have e0 : apN0 k s = ⟨#[115]⟩ := by unfold apN0; rw [if_neg (fun q => q.elim e hk)]
    unfold apN
    rw [e0]
    cases far <;> rfl
theorem right_words {x : CM} (h : x.right = true) : (hasTopic x.kind = true → wordB x.topic = true) ∧ (hasName x.kind = true → wordB x.name = true) ∧ 1 ≤ x.kind ∧ x.kind ≤ 11 := by
  unfold CM.right at h
  simp only [Bool.and_eq_true] at h
  have h2 := h.2.2.2
  have h3 := h.2.2.1
  unfold fitsB textB at h2
  simp only [Bool.and_eq_true] at h2
  unfold kindOk at h3
  simp only [Bool.and_eq_true, decide_eq_true_eq] at h3
  refine ⟨fun e => ?_, fun e => ?_, h3.1, h3.2⟩
  · have := h2.1; rw [e] at this; exact this
  · have := h2.2.1; rw [e] at this; exact this
theorem ap_both {X Y : MS} {c d : Nat} (hX : X.Ok c) (hY : Y.Ok d) (lX : Lone X) (lY : Lone Y) (far : Bool) (x : CM) (hk : x.kind ≠ 10 ∧ x.kind ≠ 11) (hr : (apC far x).right = true) (hT : X.T (keyT far) = Y.T (keyT far)) (hS : X.S (keyN far) = Y.S (keyN far)) :
    ∃ r u, doM X (apC far x) = (r, Upd.on (keyT far) (keyN far) X u) ∧ doM Y (apC far x) = (r, Upd.on (keyT far) (keyN far) Y u) ∧ Upd.fit (keyT far) X u := by
  obtain ⟨q1, q2, q3, q4⟩ := right_words hr
  have e0 : (apC far x).kind = x.kind := rfl
  refine both_do hX hY (keyT far) (keyN far) (apC far x) q3 (by omega) (fun e => apT_key (q1 e)) (fun e1 e2 => apN_key (q2 ?_) ?_) hT hS (lX.top far) lX.few.1 lY.few.1 lX.few.2 lY.few.2
  · unfold hasName
    exact decide_eq_true (by omega)
  · omega
theorem Upd.fit_same {k : List UInt8} {X Y : MS} (u : Upd) (hT : X.T k = Y.T k) (h : Upd.fit k X u) : Upd.fit k Y u := by
  cases u with
  | no => trivial
  | put H => exact (show (Y.T k).isSome = true by rw [← hT]; exact h)
  | new H => exact (show Y.T k = none by rw [← hT]; exact h)
  | sub s => exact h
theorem Near.new (m : Nat) : Near (MS.new m) (MS.new m) := ⟨Lone.new m, Lone.new m, rfl, rfl⟩
theorem near_step {X Y : MS} {c d : Nat} (h : Near X Y) (hX : X.Ok c) (hY : Y.Ok d) (x : CM) (hk : x.kind ≠ 10 ∧ x.kind ≠ 11) :
    (applyM X (rencP (apC false x)).data.toList).1 = (applyM Y (rencP (apC false x)).data.toList).1 ∧ Near (applyM X (rencP (apC false x)).data.toList).2 (applyM Y (rencP (apC false x)).data.toList).2 := by
  by_cases hr : (apC false x).right = true
  · rw [apply_right X _ hr, apply_right Y _ hr]
    generalize (rencP (apC false x)).data.toList = l
    obtain ⟨r, u, e1, e2, hu⟩ := ap_both (hX.tick l) (hY.tick l) (h.one.tick l) (h.two.tick l) false x hk hr h.t h.s
    rw [e1, e2]
    obtain ⟨s1, s2⟩ := u.same (k := keyT false) (n := keyN false) (X := X.tick l) (Y := Y.tick l) h.t h.s
    exact ⟨rfl, (h.one.tick l).on false u hu, (h.two.tick l).on false u (u.fit_same (X := X.tick l) (Y := Y.tick l) h.t hu), s1, s2⟩
  · have hr : (apC false x).right = false := by simpa using hr
    rw [apply_wrong X _ hr, apply_wrong Y _ hr]
    exact ⟨rfl, h.one.tick _, h.two.tick _, h.t, h.s⟩
theorem far_step {X Y : MS} {c : Nat} (h : Near X Y) (hX : X.Ok c) (x : CM) (hk : x.kind ≠ 10 ∧ x.kind ≠ 11) :
    Near (applyM X (rencP (apC true x)).data.toList).2 Y := by
  by_cases hr : (apC true x).right = true
  · rw [apply_right X _ hr]
    generalize (rencP (apC true x)).data.toList = l
    obtain ⟨r, u, e1, e2, hu⟩ := ap_both (hX.tick l) (hX.tick l) (h.one.tick l) (h.one.tick l) true x hk hr rfl rfl
    rw [e1]
    have o1 : (Upd.on (keyT true) (keyN true) (X.tick l) u).T (keyT false) = X.T (keyT false) := u.otherT (by decide)
    have o2 : (Upd.on (keyT true) (keyN true) (X.tick l) u).S (keyN false) = X.S (keyN false) := u.otherS (by decide)
    exact ⟨(h.one.tick l).on true u hu, h.two, o1.trans h.t, o2.trans h.s⟩
  · have hr : (apC true x).right = false := by simpa using hr
    rw [apply_wrong X _ hr]
    exact ⟨h.one.tick _, h.two, h.t, h.s⟩
end Go.Proofs.YtlfodldlkchmoaaGreat.Y
