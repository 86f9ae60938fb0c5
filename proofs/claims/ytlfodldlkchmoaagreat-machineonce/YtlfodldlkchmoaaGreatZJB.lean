/-
  The machine in memory: its box, its two maps, its topics; what stays so when something else turns.
-/
import Derived.Test.YtlfodldlkchmoaaGreatZGN5
import Derived.Test.YtlfodldlkchmoaaGreatZSW
import Derived.Test.YtlfodldlkchmoaaGreatZKPure5
import Derived.Maps.Ext
import Derived.Sort.KeysCollected
namespace Go.Proofs.YtlfodldlkchmoaaGreat.G
open Go.RowKit
set_option maxHeartbeats 1000000
set_option maxRecDepth 100000
theorem take_snoc (s : ByteArray) (k : Nat) (h : k < s.size) : s.data.toList.take (k + 1) = s.data.toList.take k ++ [s[k]] := by
  have hl : k < s.data.toList.length := by simpa using h
  have : s[k] = s.data.toList[k] := rfl
  rw [this, List.take_add_one, List.getElem?_eq_getElem hl]
  rfl
theorem stepP_cg (d : Pr) (u v : Int) (h : Cg u v) : stepP d u = stepP d v := by
  refine Cp.eq ?_ (addP_right _ _) (addP_right _ _)
  refine (Cp.addP _ _).trans (Cp.trans ?_ (Cp.addP _ _).symm)
  exact Cp.add (Cp.refl _) ⟨h, Cg.refl _⟩
theorem stepP_at (z : Pr) (v : Int) : (⟨(z.re * 2 - z.im * 3 + v) % pI, (z.re * 3 + z.im * 2 + 0) % pI⟩ : Pr) = stepP z v := by
  refine Cp.eq ?_ ⟨(mod_right _).1, (mod_right _).2, (mod_right _).1, (mod_right _).2⟩ (addP_right _ _)
  refine Cp.trans (b := ⟨z.re * 2 - z.im * 3 + v, z.re * 3 + z.im * 2 + 0⟩) ⟨Cg.mod _, Cg.mod _⟩ (Cp.trans ?_ (Cp.addP _ _).symm)
  exact (Cp.add (Cp.mulP z gP) (Cp.refl ⟨v, 0⟩)).symm
theorem stepP_right (z : Pr) (v : Int) : (stepP z v).right := addP_right _ _
theorem step_is (z : Pr) (v : Int) (hz : z.right) (hv : 0 ≤ v ∧ v < 2 ^ 26) (w : World) :
    Calls Tryz.prog 51 #[.complex .f64 (floatOfInt .f64 z.re) (floatOfInt .f64 z.im), .int .i64 v] w fun e w' => e = .returned (.complex .f64 (floatOfInt .f64 (stepP z v).re) (floatOfInt .f64 (stepP z v).im)) ∧ Below w.heap.size w w' := by
  have h := step_any z.re z.im v ⟨hz.1, hz.2.1⟩ ⟨hz.2.2.1, hz.2.2.2⟩ hv w
  have e := stepP_at z v
  rw [← e]
  exact h
theorem On_right (z : Pr) (s : ByteArray) (hz : z.right) (hs : s.size ≤ 9223372036854775807) (w : World) :
    Calls Tryz.prog 27 #[.agg #[.int .i64 z.re, .int .i64 z.im], .string s] w fun e w' => e = .returned (.tuple #[.agg #[.int .i64 (onP z s.data.toList).re, .int .i64 (onP z s.data.toList).im], .int .i64 0]) ∧ Below w.heap.size w w' := by
  have HR := hide (Right_is z.re z.im true (Pr.right_b hz))
  have HN := hide (number_any z.re z.im)
  have HS := hide (step_is z (257 + (s.size : Int) % 33554383) hz (by omega))
  have HZ : Hid (onP z s.data.toList = runP (stepP z (257 + (s.size : Int) % 33554383)) (s.data.toList.map fun c => (c.toNat : Int) + 1)) := by
    show runP (stepP z _) _ = _
    rw [stepP_cg z _ (257 + (s.size : Int) % 33554383) ((Cg.mod _).trans (Cg.add (Cg.refl 257) ?_))]
    have e : (s.data.toList.length : Int) = s.size := by simp
    rw [e]
    exact (Cg.mod _).symm
  have HQ := hide (stepP_right z (257 + (s.size : Int) % 33554383))
  clear hz
  generalize stepP z (257 + (s.size : Int) % 33554383) = z1 at *
  go_enter Tryz.func27, Tryz.ntmps27
  go_wp2_with fail
  refine (HR.out _).mono ?_
  rintro e w1 ⟨rfl, bb⟩
  have A : Hid (Held w1 (w.heap.size) (z.re) (z.im)) := ((Held.at _ (z.re) (z.im) _ rfl).alloc _).below bb
  have R : Hid (Held w1 (w.heap.size + 1) (0) (0)) := (Held.at _ (0) (0) _ (by simp)).below bb
  have B := hide (bthen (below_new (below_new (Below.refl _ w) _) _) bb)
  clear bb
  have n3 : w.heap.size ≤ w.heap.size + 1 := by omega
  generalize w.heap.size + 1 = rb at *
  have a0 := A.out.c0
  have a1 := A.out.c1
  go_wp2_with fail
  refine (HN.out _).mono ?_
  rintro e w2 ⟨rfl, bb⟩
  replace R := hide (R.out.past bb)
  replace B := hide (bpast B.out bb)
  clear bb
  go_wp2_with fail
  refine (HS.out _).mono ?_
  rintro e w3 ⟨rfl, bb⟩
  replace R := hide (R.out.past bb)
  replace B := hide (bpast B.out bb)
  clear bb
  clear A a0 a1 HR HN HS
  go_wp2
  go_loopw [6, 21] (fun zv iv wv => ∃ (u : Pr) (i : Nat), i ≤ s.size ∧ zv = .complex .f64 (floatOfInt .f64 u.re) (floatOfInt .f64 u.im) ∧ iv = .int .i64 i ∧ Hid u.right ∧ Hid (u = runP z1 ((s.data.toList.take i).map fun c => (c.toNat : Int) + 1)) ∧ Hid (Held wv rb 0 0) ∧ Hid (Below w.heap.size w wv)) (fun _ i _ => s.size - (intOf i).toNat)
  case atStart => exact ⟨z1, 0, Nat.zero_le _, rfl, rfl, HQ, hide rfl, R, B⟩
  case round =>
    obtain ⟨u, i, hi, rfl, rfl, HU, HE, HR, HB⟩ := hrel
    clear R B HQ
    by_cases hlt : i < s.size
    · have h8 := s[i].toNat_lt
      have HS := hide (step_is u ((s[i].toNat : Int) + 1) HU.out (by omega))
      have HQ := hide (stepP_right u ((s[i].toNat : Int) + 1))
      have HE2 : Hid (stepP u ((s[i].toNat : Int) + 1) = runP z1 ((s.data.toList.take (i + 1)).map fun c => (c.toNat : Int) + 1)) := by
        rw [take_snoc s i hlt, List.map_append, runP_append, ← HE.out]
        rfl
      clear HE HU
      generalize stepP u ((s[i].toNat : Int) + 1) = v at *
      go_wp2_with fail
      refine (HS.out _).mono ?_
      rintro e w4 ⟨rfl, bb⟩
      have HR2 := hide (HR.out.past bb)
      have HB2 := hide (bpast HB.out bb)
      clear bb HR HB
      go_wp2
      go_roundw
      case rel => exact ⟨v, i + 1, by omega, rfl, by go_num, HQ, HE2, HR2, HB2⟩
      case measure => simp [intOf]; omega
    · have HF : Hid (onP z s.data.toList = u) := by
        rw [HZ.out, HE.out, List.take_of_length_le (by simp; omega)]
        exact hide rfl
      have HP := hide (pair_same u HU.out)
      clear HE HU HZ
      go_wp2_with fail
      refine (HP.out _).mono ?_
      rintro e w4 ⟨rfl, bb⟩
      have R := hide (HR.out.past bb)
      have B := hide (bpast HB.out bb)
      clear bb HR HB
      have r0 := R.out.c0
      have r1 := R.out.c1
      have rf0 := R.out.f0
      have rf1 := R.out.f1
      go_wp2
      refine bodyPost_ret (v := .tuple #[.agg #[.int .i64 u.re, .int .i64 u.im], .int .i64 0]) (by simp [results, Tryz.results27, go_sem, r0, r1]) rfl ⟨by rw [HF.out], ?_⟩
      exact below_box B.out _ n3 _ _
end Go.Proofs.YtlfodldlkchmoaaGreat.G
namespace Go.Proofs.YtlfodldlkchmoaaGreat.Y
open Go.RowKit
set_option maxRecDepth 100000
set_option linter.unusedVariables false
set_option linter.unusedSimpArgs false
structure RM where
  code : Int
  n : Int
  recs : List Rec
structure MS where
  cnt : Nat
  dig : G.Pr
  wan : List Bool
  T : List UInt8 → Option TG
  tn : Nat
  S : List UInt8 → Option SB
  sn : Nat
def putF {α : Type} (f : List UInt8 → Option α) (k : List UInt8) (v : α) : List UInt8 → Option α := fun j => if j = k then some v else f j
theorem putF_same {α : Type} (f : List UInt8 → Option α) (k : List UInt8) (v : α) : putF f k v k = some v := if_pos rfl
theorem putF_other {α : Type} (f : List UInt8 → Option α) {k j : List UInt8} (v : α) (h : j ≠ k) : putF f k v j = f j := if_neg h
def codedM (c : Int) : RM := ⟨c, 0, []⟩
def numM (c n : Int) : RM := if c = 0 then ⟨0, n, []⟩ else codedM c
def wcount (l : List Bool) : Nat := (l.filter id).length
def MS.putT (X : MS) (k : List UInt8) (H : TG) : MS := { X with T := putF X.T k H }
def MS.newT (X : MS) (k : List UInt8) (H : TG) : MS := { X with T := putF X.T k H, tn := X.tn + 1 }
def MS.putS (X : MS) (k : List UInt8) (s : SB) : MS := { X with S := putF X.S k s, sn := if (X.S k).isSome then X.sn else X.sn + 1 }
def keepM (X : MS) (s : SB) (code : Int) : RM × MS := (numM code s.cur, if code = 0 then X.putS s.name.data.toList s else X)
def createM (X : MS) (c : CM) : RM × MS :=
  match X.T c.topic.data.toList with
  | some _ => (codedM 4, X)
  | none => if 20 ≤ X.tn then (codedM 3, X) else (codedM 0, X.newT c.topic.data.toList (TG.new c.topic))
def publishM (X : MS) (c : CM) : RM × MS :=
  match X.T c.topic.data.toList with
  | none => (codedM 5, X)
  | some H => (numM (pubF H c.name c.seq c.key c.val).2.1 (pubF H c.name c.seq c.key c.val).1, X.putT c.topic.data.toList (pubF H c.name c.seq c.key c.val).2.2)
def subscribeM (X : MS) (c : CM) : RM × MS :=
  match X.T c.topic.data.toList with
  | none => (codedM 5, X)
  | some H => if (X.S c.name.data.toList).isSome then (codedM 4, X) else if 50 ≤ X.sn then (codedM 3, X) else keepM X (newF c.name H c.n).1 (newF c.name H c.n).2
def attachM (X : MS) (c : CM) : RM × MS :=
  match X.S c.name.data.toList with
  | none => (codedM 5, X)
  | some s => keepM X { s with next := s.cur } 0
def pollM (X : MS) (c : CM) : RM × MS :=
  match X.S c.name.data.toList with
  | none => (codedM 5, X)
  | some s => match X.T s.top.data.toList with
    | none => (codedM 5, X)
    | some H => if (pollF s H c.n).2.2 = 0 then (⟨0, (pollF s H c.n).1.next, (pollF s H c.n).2.1⟩, X.putS c.name.data.toList (pollF s H c.n).1) else (codedM (pollF s H c.n).2.2, X)
def ackM (X : MS) (c : CM) : RM × MS :=
  match X.S c.name.data.toList with
  | none => (codedM 5, X)
  | some s => keepM X (ackF s c.n).1 (ackF s c.n).2
def seekM (X : MS) (c : CM) : RM × MS :=
  match X.S c.name.data.toList with
  | none => (codedM 5, X)
  | some s => match X.T s.top.data.toList with
    | none => (codedM 5, X)
    | some H => keepM X (seekF s H c.n).1 (seekF s H c.n).2
def trimM (X : MS) (c : CM) : RM × MS :=
  match X.T c.topic.data.toList with
  | none => (codedM 5, X)
  | some H => (numM (trimF H c.n).1 ((trimF H c.n).2.low : Int), X.putT c.topic.data.toList (trimF H c.n).2)
def compactM (X : MS) (c : CM) : RM × MS :=
  match X.T c.topic.data.toList with
  | none => (codedM 5, X)
  | some H => (numM 0 ((compF H c.n).low : Int), X.putT c.topic.data.toList (compF H c.n))
def joinM (X : MS) (c : CM) : RM × MS := (numM 0 (wcount (X.wan.set c.n.toNat true) : Int), { X with wan := X.wan.set c.n.toNat true })
def leaveM (X : MS) (c : CM) : RM × MS :=
  if X.wan[c.n.toNat]? = some true ∧ wcount X.wan = 1 then (codedM 7, X)
  else (numM 0 (wcount (X.wan.set c.n.toNat false) : Int), { X with wan := X.wan.set c.n.toNat false })
def doM (X : MS) (c : CM) : RM × MS :=
  if c.kind = 1 then createM X c else if c.kind = 2 then publishM X c else if c.kind = 3 then subscribeM X c else if c.kind = 4 then attachM X c
  else if c.kind = 5 then pollM X c else if c.kind = 6 then ackM X c else if c.kind = 7 then seekM X c else if c.kind = 8 then trimM X c
  else if c.kind = 9 then compactM X c else if c.kind = 10 then joinM X c else leaveM X c
def MS.tick (X : MS) (s : List UInt8) : MS := { X with cnt := X.cnt + 1, dig := G.onP X.dig s }
def applyM (X : MS) (s : List UInt8) : RM × MS := if (decC s).2 ≠ 0 then (codedM 1, X.tick s) else doM (X.tick s) (decC s).1
def MS.new (nodes : Nat) : MS := ⟨0, G.Pr.one, (List.range 7).map fun i => decide (i < nodes), fun _ => none, 0, fun _ => none, 0⟩
structure MS.Ok (c : Nat) (X : MS) : Prop where
  tops : ∀ k H, X.T k = some H → H.Ok c ∧ H.name.data.toList = k
  subs : ∀ k s, X.S k = some s → s.ok ∧ s.name.data.toList = k ∧ (X.T s.top.data.toList).isSome = true
  wan : X.wan.length = 7
  dig : X.dig.right
  big : c ≤ 100000
  tn : X.tn ≤ 20
  sn : X.sn ≤ 50
theorem MS.Ok.new (nodes : Nat) : (MS.new nodes).Ok 0 := ⟨fun k H h => (by cases h), fun k s h => (by cases h), by simp [MS.new], (by show (0 : Int) ≤ 1 ∧ (1 : Int) < 33554383 ∧ (0 : Int) ≤ 0 ∧ (0 : Int) < 33554383; decide), Nat.zero_le _, Nat.zero_le _, Nat.zero_le _⟩
theorem MS.Ok.mono {c d : Nat} {X : MS} (h : X.Ok c) (hd : c ≤ d) (hb : d ≤ 100000) : X.Ok d :=
  ⟨fun k H e => ⟨(h.tops k H e).1.mono hd hb, (h.tops k H e).2⟩, h.subs, h.wan, h.dig, hb, h.tn, h.sn⟩
theorem MS.Ok.putT {c : Nat} {X : MS} (h : X.Ok c) {k : List UInt8} {H : TG} (hk : H.Ok c) (hn : H.name.data.toList = k) : (X.putT k H).Ok c := by
  refine ⟨fun j H' e => ?_, fun j s e => ?_, h.wan, h.dig, h.big, h.tn, h.sn⟩
  · by_cases hj : j = k
    · subst hj
      have e' : putF X.T j H j = some H' := e
      rw [putF_same] at e'
      obtain rfl := Option.some.inj e'
      exact ⟨hk, hn⟩
    · have e' : putF X.T k H j = some H' := e
      rw [putF_other _ _ hj] at e'
      exact h.tops j H' e'
  · obtain ⟨h1, h2, h3⟩ := h.subs j s e
    refine ⟨h1, h2, ?_⟩
    show (putF X.T k H _).isSome = true
    by_cases hj : s.top.data.toList = k
    · rw [hj, putF_same]; rfl
    · rw [putF_other _ _ hj]; exact h3
theorem MS.Ok.newT {c : Nat} {X : MS} (h : X.Ok c) {k : List UInt8} {H : TG} (hk : H.Ok c) (hn : H.name.data.toList = k) (ht : X.tn < 20) : (X.newT k H).Ok c :=
  have h2 := h.putT hk hn
  ⟨h2.tops, h2.subs, h2.wan, h2.dig, h2.big, ht, h2.sn⟩
theorem MS.Ok.putS {c : Nat} {X : MS} (h : X.Ok c) {k : List UInt8} {s : SB} (hk : s.ok) (hn : s.name.data.toList = k) (ht : (X.T s.top.data.toList).isSome = true) (hsn : (X.S k).isSome = true ∨ X.sn < 50) : (X.putS k s).Ok c := by
  refine ⟨h.tops, fun j s' e => ?_, h.wan, h.dig, h.big, h.tn, by
    show (if (X.S k).isSome = true then X.sn else X.sn + 1) ≤ 50
    have := h.sn
    split
    · exact this
    · rename_i h9
      rcases hsn with h8 | h8
      · exact absurd h8 h9
      · omega⟩
  by_cases hj : j = k
  · subst hj
    have e' : putF X.S j s j = some s' := e
    rw [putF_same] at e'
    obtain rfl := Option.some.inj e'
    exact ⟨hk, hn, ht⟩
  · have e' : putF X.S k s j = some s' := e
    rw [putF_other _ _ hj] at e'
    exact h.subs j s' e'
theorem ack_name (S : SB) (n : Int) : (ackF S n).1.name = S.name ∧ (ackF S n).1.top = S.top := by
  unfold ackF ackI
  repeat' split
  all_goals exact ⟨rfl, rfl⟩
theorem seek_name (S : SB) (H : TG) (n : Int) : (seekF S H n).1.name = S.name ∧ (seekF S H n).1.top = S.top := by
  unfold seekF seekI
  repeat' split
  all_goals exact ⟨rfl, rfl⟩
theorem poll_name (S : SB) (H : TG) (n : Int) : (pollF S H n).1.name = S.name ∧ (pollF S H n).1.top = S.top := by
  unfold pollF pollI
  repeat' split
  all_goals exact ⟨rfl, rfl⟩
theorem new_name (nm : ByteArray) (H : TG) (n : Int) (h : (newF nm H n).2 = 0) : (newF nm H n).1.name = nm ∧ (newF nm H n).1.top = H.name := by
  unfold newF at h ⊢
  generalize (if n < 0 then (H.fin : Int) else n) = m at *
  have h2 := seek_name ⟨nm, H.name, 0, 0⟩ H m
  generalize seekF ⟨nm, H.name, 0, 0⟩ H m = P at *
  by_cases h1 : P.2 = 0
  · rw [if_pos h1]; exact h2
  · rw [if_neg h1] at h
    exact absurd h h1
theorem SB.ok.same {s s' : SB} (h : s.ok) (h1 : s'.name = s.name) (h2 : s'.top = s.top) : s'.ok := ⟨by rw [h1]; exact h.nm, by rw [h2]; exact h.tp⟩
theorem keep_ok {c : Nat} {X : MS} (h : X.Ok c) (s : SB) (code : Int) (hs : code = 0 → s.ok ∧ (X.T s.top.data.toList).isSome = true ∧ ((X.S s.name.data.toList).isSome = true ∨ X.sn < 50)) : (keepM X s code).2.Ok c := by
  unfold keepM
  simp only
  split
  · rename_i h0
    exact h.putS (hs h0).1 rfl (hs h0).2.1 (hs h0).2.2
  · exact h
theorem pub_name (H : TG) (p : ByteArray) (seq : Int) (k v : ByteArray) : (pubF H p seq k v).2.2.name = H.name := by
  unfold pubF
  repeat' split
  all_goals rfl
theorem trim_name (H : TG) (n : Int) : (trimF H n).2.name = H.name := by
  unfold trimF
  repeat' split
  all_goals rfl
theorem do_ok {c : Nat} {X : MS} (h : X.Ok c) (hc : c + 1 ≤ 100000) (x : CM) (hx : x.right = true) : (doM X x).2.Ok (c + 1) := by
  have h1 := h.mono (Nat.le_succ c) hc
  have sm := CM.small hx
  have hnm : x.name.size ≤ 281474976710656 := by have := sm.m; omega
  have htp : ∀ k H, X.T k = some H → H.name.size ≤ 281474976710656 := fun k H e => by
    have := (wordL_out (h.tops k H e).1.word).2.1
    rw [size_listC] at this
    omega
  unfold doM
  split
  · rename_i hk
    unfold createM
    split
    · exact h1
    · split
      · exact h1
      · rename_i _ h20
        refine h1.newT ⟨?_, List.Pairwise.nil, (fun r hr => by cases hr), Nat.le_refl _, Nat.zero_le _, Nat.zero_le _, Nat.zero_le _, hc⟩ rfl (Nat.lt_of_not_le h20)
        have e := hx
        unfold CM.right at e
        simp only [Bool.and_eq_true] at e
        have e2 := e.2.2.2
        unfold fitsB at e2
        simp only [Bool.and_eq_true] at e2
        have e3 := e2.1
        rw [hk] at e3
        exact e3
  split
  · unfold publishM
    split
    · exact h1
    · rename_i H e
      exact h1.putT (pub_ok (h.tops _ H e).1 hc _ _ _ _) (by rw [pub_name]; exact (h.tops _ H e).2)
  split
  · unfold subscribeM
    split
    · exact h1
    · rename_i H e
      split
      · exact h1
      · split
        · exact h1
        · rename_i _ h50
          refine keep_ok h1 _ _ fun h0 => ?_
          obtain ⟨n1, n2⟩ := new_name _ _ _ h0
          refine ⟨⟨by rw [n1]; exact hnm, by rw [n2]; exact htp _ H e⟩, ?_, .inr (Nat.lt_of_not_le h50)⟩
          rw [n2, (h.tops _ H e).2, e]
          rfl
  split
  · unfold attachM
    split
    · exact h1
    · rename_i s e
      obtain ⟨a1, a2, a3⟩ := h.subs _ s e
      exact keep_ok h1 _ _ fun _ => ⟨⟨a1.nm, a1.tp⟩, a3, .inl (by show (X.S s.name.data.toList).isSome = true; rw [a2, e]; rfl)⟩
  split
  · unfold pollM
    split
    · exact h1
    · rename_i s e
      obtain ⟨a1, a2, a3⟩ := h.subs _ s e
      split
      · exact h1
      · rename_i H e2
        obtain ⟨n1, n2⟩ := poll_name s H x.n
        split
        · exact h1.putS (a1.same n1 n2) (by rw [n1]; exact a2) (by rw [n2]; exact a3) (.inl (by rw [e]; rfl))
        · exact h1
  split
  · unfold ackM
    split
    · exact h1
    · rename_i s e
      obtain ⟨a1, a2, a3⟩ := h.subs _ s e
      obtain ⟨n1, n2⟩ := ack_name s x.n
      exact keep_ok h1 _ _ fun _ => ⟨a1.same n1 n2, by rw [n2]; exact a3, .inl (by rw [n1, a2, e]; rfl)⟩
  split
  · unfold seekM
    split
    · exact h1
    · rename_i s e
      obtain ⟨a1, a2, a3⟩ := h.subs _ s e
      split
      · exact h1
      · rename_i H e2
        obtain ⟨n1, n2⟩ := seek_name s H x.n
        exact keep_ok h1 _ _ fun _ => ⟨a1.same n1 n2, by rw [n2]; exact a3, .inl (by rw [n1, a2, e]; rfl)⟩
  split
  · unfold trimM
    split
    · exact h1
    · rename_i H e
      exact h1.putT (trim_ok (h1.tops _ H e).1 _) (by rw [trim_name]; exact (h.tops _ H e).2)
  split
  · unfold compactM
    split
    · exact h1
    · rename_i H e
      exact h1.putT (comp_ok (h1.tops _ H e).1 _) (h.tops _ H e).2
  split
  · exact ⟨h1.tops, h1.subs, by show (X.wan.set _ _).length = 7; rw [List.length_set]; exact h.wan, h1.dig, h1.big, h1.tn, h1.sn⟩
  · unfold leaveM
    split
    · exact h1
    · exact ⟨h1.tops, h1.subs, by show (X.wan.set _ _).length = 7; rw [List.length_set]; exact h.wan, h1.dig, h1.big, h1.tn, h1.sn⟩
theorem on_right {d : G.Pr} (h : d.right) (s : List UInt8) : (G.onP d s).right := G.runP_right _ _ h
theorem keep_cnt (X : MS) (s : SB) (code : Int) : (keepM X s code).2.cnt = X.cnt ∧ (keepM X s code).2.dig = X.dig := by
  unfold keepM
  simp only
  split <;> exact ⟨rfl, rfl⟩
theorem do_cnt (X : MS) (x : CM) : (doM X x).2.cnt = X.cnt ∧ (doM X x).2.dig = X.dig := by
  unfold doM
  split
  · unfold createM
    split
    · exact ⟨rfl, rfl⟩
    · split <;> exact ⟨rfl, rfl⟩
  split
  · unfold publishM
    split <;> exact ⟨rfl, rfl⟩
  split
  · unfold subscribeM
    split
    · exact ⟨rfl, rfl⟩
    · split
      · exact ⟨rfl, rfl⟩
      · split
        · exact ⟨rfl, rfl⟩
        · exact keep_cnt _ _ _
  split
  · unfold attachM
    split
    · exact ⟨rfl, rfl⟩
    · exact keep_cnt _ _ _
  split
  · unfold pollM
    split
    · exact ⟨rfl, rfl⟩
    · split
      · exact ⟨rfl, rfl⟩
      · split <;> exact ⟨rfl, rfl⟩
  split
  · unfold ackM
    split
    · exact ⟨rfl, rfl⟩
    · exact keep_cnt _ _ _
  split
  · unfold seekM
    split
    · exact ⟨rfl, rfl⟩
    · split
      · exact ⟨rfl, rfl⟩
      · exact keep_cnt _ _ _
  split
  · unfold trimM
    split <;> exact ⟨rfl, rfl⟩
  split
  · unfold compactM
    split <;> exact ⟨rfl, rfl⟩
  split
  · exact ⟨rfl, rfl⟩
  · unfold leaveM
    split <;> exact ⟨rfl, rfl⟩
theorem apply_cnt (X : MS) (s : List UInt8) : (applyM X s).2.cnt = X.cnt + 1 ∧ (applyM X s).2.dig = G.onP X.dig s := by
  unfold applyM
  split
  · exact ⟨rfl, rfl⟩
  · exact do_cnt _ _
theorem MS.Ok.tick {c : Nat} {X : MS} (h : X.Ok c) (s : List UInt8) : (X.tick s).Ok c := ⟨h.tops, h.subs, h.wan, on_right h.dig s, h.big, h.tn, h.sn⟩
theorem apply_ok {c : Nat} {X : MS} (h : X.Ok c) (hc : c + 1 ≤ 100000) (s : List UInt8) : (applyM X s).2.Ok (c + 1) := by
  unfold applyM
  split
  · exact (h.tick s).mono (Nat.le_succ c) hc
  · rename_i h0
    exact do_ok (h.tick s) hc _ (decC_back (Classical.not_not.1 h0)).1
end Go.Proofs.YtlfodldlkchmoaaGreat.Y
namespace Go.Proofs.YtlfodldlkchmoaaGreat
open Go.RowKit Go.Maps
set_option maxRecDepth 100000
def ptrR (v : Value) : Option (DataW Nat × List MemPlace) :=
  match v with
  | .pointer (some ⟨b, 0, none⟩) => some (.lit (.int .i64 b), [])
  | .pointer none => some (.lit (.int .i64 (-1)), [])
  | _ => none
theorem ptrR_some (b : Nat) : ptrR (.pointer (some ⟨b, 0, none⟩)) = some (.lit (.int .i64 b), []) := rfl
theorem ptrR_none : ptrR (.pointer none) = some (.lit (.int .i64 (-1)), []) := rfl
theorem ptrR_inv {v : Value} {y : DataW Nat × List MemPlace} (h : ptrR v = some y) : (∃ b : Nat, v = .pointer (some ⟨b, 0, none⟩) ∧ y = (.lit (.int .i64 b), [])) ∨ (v = .pointer none ∧ y = (.lit (.int .i64 (-1)), [])) := by
  unfold ptrR at h
  split at h
  · rename_i b
    exact .inl ⟨b, rfl, (Option.some.inj h).symm⟩
  · exact .inr ⟨rfl, (Option.some.inj h).symm⟩
  · cases h
def dget (D : DataW Nat) (k : List UInt8) : Option Nat :=
  match D.atKey (.string k) (.lit (.int .i64 (-1))) with
  | .lit (.int _ z) => if 0 ≤ z then some z.toNat else none
  | _ => none
def dput (D : DataW Nat) (k : List UInt8) (b : Nat) : DataW Nat := D.put (.string k) (.lit (.int .i64 b))
def ddel (D : DataW Nat) (k : List UInt8) : DataW Nat := D.del (.string k)
theorem keyLit (k : List UInt8) : WideAt.IsKeyLit (.string k) := by simp [WideAt.IsKeyLit]
theorem dget_put_same {D : DataW Nat} (h : IsMap D) (k : List UInt8) (b : Nat) : dget (dput D k b) k = some b := by
  unfold dget dput
  rw [atKey_put_same h (keyLit k)]
  simp
theorem dget_put_other (D : DataW Nat) {k k' : List UInt8} (hne : k' ≠ k) (b : Nat) : dget (dput D k b) k' = dget D k' := by
  unfold dget dput
  rw [atKey_put_other (fun e => hne (by injection e))]
structure DA where
  kind : Nat
  a : ByteArray
  b : ByteArray
  id : Nat
  c : Nat
  d : Nat
def DA.run (x : DA) (D : DataW Nat) : DataW Nat :=
  match x.kind with
  | 0 => dput D x.a.data.toList x.id
  | 1 => match dget D x.a.data.toList with
    | some f => dput (ddel D x.a.data.toList) x.b.data.toList f
    | none => D
  | _ => ddel D x.a.data.toList
def DA.fits (x : DA) (D : DataW Nat) : Prop := x.kind = 1 → dget D x.a.data.toList ≠ none
def Full (D : DataW Nat) : Prop := ∀ k, Maps.has D (.string k) = true → dget D k ≠ none
theorem full_empty : Full (.map []) := fun k h => by cases h
theorem full_put {D : DataW Nat} (hD : IsMap D) (h : Full D) (k : List UInt8) (b : Nat) : Full (dput D k b) := by
  intro k' hk
  by_cases e : k' = k
  · subst e
    rw [dget_put_same hD]
    simp
  · rw [dget_put_other D e]
    refine h k' ?_
    unfold dput at hk
    rw [has_put_other (fun e' => e (by injection e'))] at hk
    exact hk
section
variable {P : Program} {w : World} {t k e : TypeId} {b n : Nat} {D : DataW Nat}
theorem dlook (hown : w.ownsMap P k ptrR b n D) (K : Keyed P k) (ht : P.underlying t = some (.map k e)) (hk : P.underlying k = some .string) (hz : (zeroValue e).run P w = .ok (.pointer none) w) (s : ByteArray) (hs : s.size ≤ maxLen) :
    (Instr.lookup t (.map (some b)) (.string s) false).run P w = .ok (.pointer ((dget D s.data.toList).map fun j => ⟨j, 0, none⟩)) w := by
  obtain ⟨v, ps, hrun, hv⟩ := hown.lookup K ht hz ptrR_none (Go.WideMaps.keyOf_string_mk hk hs)
  rw [hrun]
  unfold dget
  rcases ptrR_inv hv with ⟨j, rfl, hy⟩ | ⟨rfl, hy⟩
  · have e1 := congrArg Prod.fst hy
    simp only at e1
    rw [e1]
    simp
  · have e1 := congrArg Prod.fst hy
    simp only at e1
    rw [e1]
    simp
end
end Go.Proofs.YtlfodldlkchmoaaGreat
namespace Go.Proofs.YtlfodldlkchmoaaGreat.Y
open Go.RowKit Go.Maps
set_option maxRecDepth 100000
set_option linter.unusedVariables false
set_option linter.unusedSimpArgs false
def subR (v : Value) : Option (DataW Nat × List MemPlace) :=
  match v with
  | .agg ⟨[.string a, .string b, .int .i64 c, .int .i64 d]⟩ => some (.agg [.lit (.string a.data.toList), .lit (.string b.data.toList), .lit (.int .i64 c), .lit (.int .i64 d)], [])
  | _ => none
def SB.d (s : SB) : DataW Nat := .agg [.lit (.string s.name.data.toList), .lit (.string s.top.data.toList), .lit (.int .i64 s.cur), .lit (.int .i64 s.next)]
theorem subR_mk (s : SB) : subR s.v = some (s.d, []) := rfl
theorem subR_inv {v : Value} {y : DataW Nat × List MemPlace} (h : subR v = some y) : ∃ s : SB, v = s.v ∧ y = (s.d, []) := by
  unfold subR at h
  split at h
  · exact ⟨⟨_, _, _, _⟩, rfl, (Option.some.inj h).symm⟩
  · cases h
def sget (D : DataW Nat) (k : List UInt8) : Option SB :=
  match D.atKey (.string k) .nil with
  | .agg [.lit (.string a), .lit (.string b), .lit (.int _ c), .lit (.int _ d)] => some ⟨⟨a.toArray⟩, ⟨b.toArray⟩, c, d⟩
  | _ => none
def sput (D : DataW Nat) (k : List UInt8) (s : SB) : DataW Nat := D.put (.string k) s.d
theorem sget_put_same {D : DataW Nat} (h : IsMap D) (k : List UInt8) (s : SB) : sget (sput D k s) k = some s := by
  unfold sget sput
  rw [atKey_put_same h (keyLit k)]
  rfl
theorem sget_put_other (D : DataW Nat) {k k' : List UInt8} (hne : k' ≠ k) (s : SB) : sget (sput D k s) k' = sget D k' := by
  unfold sget sput
  rw [atKey_put_other (fun e => hne (by injection e))]
def SB.zero : SB := ⟨⟨#[]⟩, ⟨#[]⟩, 0, 0⟩
theorem zeroSub (w : World) : (zeroValue 91).run Tryz.prog w = .ok SB.zero.v w := by kernel_rfl
theorem zeroTop (w : World) : (zeroValue 52).run Tryz.prog w = .ok (.pointer none) w := by kernel_rfl
theorem at_has {D : DataW Nat} (h : IsMap D) {k : Lit} (hh : Maps.has D k = true) (z z' : DataW Nat) : D.atKey k z = D.atKey k z' := by
  obtain ⟨es, rfl⟩ := h
  unfold Maps.has at hh
  simp only at hh
  unfold DataW.atKey
  simp only
  cases hf : es.find? (fun p => p.1.sameKey k) with
  | none =>
    rw [List.find?_eq_none] at hf
    rw [List.any_eq_true] at hh
    obtain ⟨p, hp, hp2⟩ := hh
    exact absurd hp2 (by simpa using hf p hp)
  | some p => rfl
theorem slook_at {w : World} {b n : Nat} {D : DataW Nat} (hown : w.ownsMap Tryz.prog 9 subR b n D) (s : ByteArray) (hs : s.size ≤ maxLen) :
    (Instr.lookup 64 (.map (some b)) (.string s) true).run Tryz.prog w = .ok (.tuple #[((sget D s.data.toList).getD SB.zero).v, .bool (sget D s.data.toList).isSome]) w ∧ Maps.has D (.string s.data.toList) = (sget D s.data.toList).isSome := by
  have hk := Go.WideMaps.keyOf_string_mk (P := Tryz.prog) Tryz.underlying9 (s := s) hs
  obtain ⟨v, ps, hrun, hv⟩ := hown.look_ok keyedS Tryz.underlying64 (zeroSub w) (subR_mk SB.zero) hk
  rw [hrun]
  cases hh : Maps.has D (.string s.data.toList) with
  | false =>
    rw [atKey_of_not_has hh] at hv
    obtain ⟨x, rfl, e⟩ := subR_inv hv
    have hp : sget D s.data.toList = none := by unfold sget; rw [atKey_of_not_has hh]
    rw [hp]
    have e1 := congrArg Prod.fst e
    unfold SB.d SB.zero at e1
    injection e1 with e1
    simp only [List.cons.injEq, DataW.lit.injEq, Lit.string.injEq, Lit.int.injEq, and_true, true_and] at e1
    obtain ⟨x1, x2, x3, x4⟩ := x
    obtain ⟨h1, h2, h3, h4⟩ := e1
    have z1 : x1 = ⟨#[]⟩ := by cases x1; rename_i a; cases a; simp at h1; rw [h1]
    have z2 : x2 = ⟨#[]⟩ := by cases x2; rename_i a; cases a; simp at h2; rw [h2]
    subst z1 z2 h3 h4
    exact ⟨rfl, rfl⟩
  | true =>
    obtain ⟨x, rfl, e⟩ := subR_inv hv
    have e1 := congrArg Prod.fst e
    simp only at e1
    have hp : sget D s.data.toList = some x := by unfold sget; rw [at_has hown.isMap hh DataW.nil SB.zero.d, e1]; rfl
    rw [hp]
    exact ⟨rfl, rfl⟩
theorem slook {w : World} {b n : Nat} {D : DataW Nat} (hown : w.ownsMap Tryz.prog 9 subR b n D) (s : ByteArray) (hs : s.size ≤ maxLen) :
    (Instr.lookup 64 (.map (some b)) (.string s) true).run Tryz.prog w = .ok (.tuple #[((sget D s.data.toList).getD SB.zero).v, .bool (sget D s.data.toList).isSome]) w := (slook_at hown s hs).1
theorem tlook_at {w : World} {b n : Nat} {D : DataW Nat} (hown : w.ownsMap Tryz.prog 9 ptrR b n D) (hf : Full D) (s : ByteArray) (hs : s.size ≤ maxLen) :
    (Instr.lookup 63 (.map (some b)) (.string s) true).run Tryz.prog w = .ok (.tuple #[.pointer ((dget D s.data.toList).map fun j => ⟨j, 0, none⟩), .bool (dget D s.data.toList).isSome]) w ∧ Maps.has D (.string s.data.toList) = (dget D s.data.toList).isSome := by
  have hk := Go.WideMaps.keyOf_string_mk (P := Tryz.prog) Tryz.underlying9 (s := s) hs
  obtain ⟨v, ps, hrun, hv⟩ := hown.look_ok keyedS Tryz.underlying63 (zeroTop w) ptrR_none hk
  rw [hrun]
  cases hh : Maps.has D (.string s.data.toList) with
  | false =>
    rw [atKey_of_not_has hh] at hv
    have hp : dget D s.data.toList = none := by unfold dget; rw [atKey_of_not_has hh]; rfl
    rw [hp]
    rcases ptrR_inv hv with ⟨j, rfl, e⟩ | ⟨rfl, e⟩
    · have e1 := congrArg Prod.fst e
      simp only at e1
      injection e1 with e1
      injection e1 with e1 e2
      omega
    · exact ⟨rfl, rfl⟩
  | true =>
    have hne := hf _ hh
    rcases ptrR_inv hv with ⟨j, rfl, e⟩ | ⟨rfl, e⟩
    · have e1 := congrArg Prod.fst e
      simp only at e1
      have hp : dget D s.data.toList = some j := by unfold dget; rw [e1]; simp
      rw [hp]
      exact ⟨rfl, rfl⟩
    · have e1 := congrArg Prod.fst e
      simp only at e1
      exact absurd (by unfold dget; rw [e1]; rfl) hne
theorem tlook {w : World} {b n : Nat} {D : DataW Nat} (hown : w.ownsMap Tryz.prog 9 ptrR b n D) (hf : Full D) (s : ByteArray) (hs : s.size ≤ maxLen) :
    (Instr.lookup 63 (.map (some b)) (.string s) true).run Tryz.prog w = .ok (.tuple #[.pointer ((dget D s.data.toList).map fun j => ⟨j, 0, none⟩), .bool (dget D s.data.toList).isSome]) w := (tlook_at hown hf s hs).1
end Go.Proofs.YtlfodldlkchmoaaGreat.Y
