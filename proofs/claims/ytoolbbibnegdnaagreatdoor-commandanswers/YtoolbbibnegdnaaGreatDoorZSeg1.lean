/-
  Records on lists: a record's code and frame, what is read of a text, and how reading goes on.
-/
import Derived.Test.YtoolbbibnegdnaaGreatDoorZGA
import Derived.Test.YtoolbbibnegdnaaGreatDoorZGB
namespace Go.Proofs.YtoolbbibnegdnaaGreatDoor

structure Rec where
  off : Int
  prod : ByteArray
  seq : Int
  key : ByteArray
  val : ByteArray
def Rec.zero : Rec := ⟨0, ⟨#[]⟩, 0, ⟨#[]⟩, ⟨#[]⟩⟩
def RightP (r : Rec) : Prop := 0 ≤ r.off ∧ r.off ≤ 9007199254740991 ∧ 0 ≤ r.seq ∧ r.seq ≤ 9007199254740991 ∧ r.prod.size ≤ 20 ∧ r.key.size ≤ 100 ∧ r.val.size ≤ 1000
instance (r : Rec) : Decidable (RightP r) := by unfold RightP; infer_instance
def itemsR (r : Rec) : List K.It := [⟨3, r.off, ⟨#[]⟩⟩, ⟨4, 0, r.prod⟩, ⟨3, r.seq, ⟨#[]⟩⟩, ⟨4, 0, r.key⟩, ⟨4, 0, r.val⟩]
def codeR (r : Rec) : List UInt8 := (itemsR r).flatMap K.itemB
def oneF (r : Rec) : List UInt8 := frameB (codeR r)

theorem itemsR_fault {r : Rec} (h : RightP r) : ∀ x ∈ itemsR r, K.faultF x = 0 ∧ 0 ≤ x.n := by
  obtain ⟨h1, h2, h3, h4, h5, h6, h7⟩ := h
  intro x hx
  simp only [itemsR, List.mem_cons, List.not_mem_nil, or_false] at hx
  have w3 : (256 : Int) ^ K.widthN 3 = 18446744073709551616 := by decide
  have k3 : K.kindB 3 = true := by decide
  have k4 : K.kindB 4 = true := by decide
  have z0 : (⟨#[]⟩ : ByteArray).size = 0 := rfl
  rcases hx with rfl | rfl | rfl | rfl | rfl
  · refine ⟨?_, h1⟩
    unfold K.faultF
    simp only [k3, z0, w3]
    simp
    omega
  · refine ⟨?_, Int.le_refl _⟩
    unfold K.faultF
    simp only [k4]
    simp
    omega
  · refine ⟨?_, h3⟩
    unfold K.faultF
    simp only [k3, z0, w3]
    simp
    omega
  · refine ⟨?_, Int.le_refl _⟩
    unfold K.faultF
    simp only [k4]
    simp
    omega
  · refine ⟨?_, Int.le_refl _⟩
    unfold K.faultF
    simp only [k4]
    simp
    omega
theorem encR {r : Rec} (h : RightP r) : K.encF (itemsR r) = (codeR r, 0) := by
  unfold K.encF
  rw [if_neg (by simp [itemsR]), if_pos ((K.firstFault_zero _).2 fun x hx => (itemsR_fault h x hx).1)]
  rfl
theorem itemB_len (x : K.It) : (K.itemB x).length = K.widthN x.k + x.s.size := by
  unfold K.itemB
  rw [List.length_append, Lib.beBytes_length]
  simp
theorem codeR_len (r : Rec) : (codeR r).length = 28 + r.prod.size + r.key.size + r.val.size := by
  simp only [codeR, itemsR, List.flatMap_cons, List.flatMap_nil, List.length_append, List.length_nil, itemB_len]
  have z0 : (⟨#[]⟩ : ByteArray).size = 0 := rfl
  have w3 : K.widthN 3 = 8 := by decide
  have w4 : K.widthN 4 = 4 := by decide
  simp only [z0, w3, w4]
  omega
theorem codeR_le {r : Rec} (h : RightP r) : (codeR r).length ≤ 1148 := by
  obtain ⟨h1, h2, h3, h4, h5, h6, h7⟩ := h
  rw [codeR_len]
  omega
theorem frameR {r : Rec} (h : RightP r) : frameF (codeR r) = (oneF r, 0) := by
  unfold frameF
  rw [if_neg (by have := codeR_le h; omega)]
  rfl
theorem oneF_len (r : Rec) : (oneF r).length = (codeR r).length + 8 := frameB_length _

def shapeR : List UInt8 := [108, 116, 108, 116, 116]
def recOf : List K.It → Rec
  | [a, b, c, d, e] => ⟨a.n, b.s, c.n, d.s, e.s⟩
  | _ => Rec.zero
def readR (body : List UInt8) : Option Rec :=
  if (K.decF shapeR body).2 = 0 then if RightP (recOf (K.decF shapeR body).1) then some (recOf (K.decF shapeR body).1) else none else none

theorem readF_len (todo : List UInt8) (f m : Nat) (rest : List UInt8) (ht : K.allL todo = true) (hf : rest.length < f) (h : (K.readF f [] m todo rest).2 = 0) : (K.readF f [] m todo rest).1.length = todo.length := by
  induction todo generalizing f m rest with
  | nil =>
    cases f with
    | zero => omega
    | succ f =>
      simp only [K.readF] at h ⊢
      split
      · rfl
      · rename_i hne
        rw [if_neg hne] at h
        simp at h
  | cons c t ih =>
    cases f with
    | zero => omega
    | succ f =>
      obtain ⟨hc, ht2⟩ := K.allL_cons c t ht
      simp only [K.readF] at h ⊢
      split
      · rename_i hm
        rw [if_pos hm] at h
        simp at h
      · rename_i hm
        rw [if_neg hm] at h
        split
        · rename_i hi
          rw [if_pos hi] at h
          have hl := K.itemF_less' c rest hc hi
          split
          · rename_i hr
            have := ih f (m + 1) (K.itemF c rest).2.1 ht2 (by omega) hr
            simp [this]
          · rename_i hr
            rw [if_neg hr] at h
            exact absurd h hr
        · rename_i hi
          rw [if_neg hi] at h
          exact absurd h hi
theorem cut_shapeR : K.cutStar shapeR = (shapeR, [], false) := by decide
theorem ok_shapeR : K.shapeOk shapeR = true := by decide
theorem dec_five (body : List UInt8) (h : (K.decF shapeR body).2 = 0) : ∃ a b c d e, (K.decF shapeR body).1 = [a, b, c, d, e] := by
  have hd : K.decF shapeR body = K.readF (2 * body.length + 2) [] 0 shapeR body := by
    unfold K.decF
    rw [if_pos ok_shapeR, cut_shapeR]
  rw [hd] at h ⊢
  have h5 := readF_len shapeR _ 0 body (by decide) (by omega) h
  generalize (K.readF (2 * body.length + 2) [] 0 shapeR body).1 = l at h5
  match l, h5 with
  | [a, b, c, d, e], _ => exact ⟨a, b, c, d, e, rfl⟩
theorem shape_itemsR (r : Rec) : K.shapeF (itemsR r) = (shapeR, 0) := by
  unfold K.shapeF
  rw [if_pos (by simp only [itemsR, List.all_cons, List.all_nil]; decide)]
  simp only [itemsR, List.map_cons, List.map_nil]
  rfl
theorem readR_code {r : Rec} (h : RightP r) : readR (codeR r) = some r := by
  have e := K.back_pure (itemsR r) (by rw [encR h]) fun x hx => (itemsR_fault h x hx).2
  rw [shape_itemsR, encR h] at e
  have e2 : K.decF shapeR (codeR r) = (itemsR r, 0) := e.2
  unfold readR
  rw [e2, if_pos rfl]
  have e3 : recOf (itemsR r) = r := rfl
  simp only [e3]
  rw [if_pos h]
theorem readR_right {body : List UInt8} {r : Rec} (h : readR body = some r) : RightP r := by
  unfold readR at h
  split at h
  · split at h
    · rename_i h1
      injection h with h
      rw [← h]
      exact h1
    · cases h
  · cases h

/-- The record with which a text begins, how many bytes it has, the fault. -/
def headR (least : Int) (s : List UInt8) : Rec × Nat × Int :=
  if (takeF s).2.2 = 0 then
    match readR (takeF s).1 with
    | some r => if r.off < least then (.zero, 0, 11) else (r, (takeF s).2.1, 0)
    | none => (.zero, 0, 10)
  else (.zero, 0, (takeF s).2.2)

theorem takeF_ok (s : List UInt8) (h : (takeF s).2.2 = 0) : 8 ≤ (takeF s).2.1 ∧ (takeF s).2.1 ≤ s.length := by
  unfold takeF at *
  by_cases h1 : s.length < 4
  · rw [if_pos h1] at h; simp at h
  · rw [if_neg h1] at h ⊢
    by_cases h2 : 400000 < Lib.beNat (s.take 4)
    · rw [if_pos h2] at h; simp at h
    · rw [if_neg h2] at h ⊢
      by_cases h3 : s.length < 8 + Lib.beNat (s.take 4)
      · rw [if_pos h3] at h; simp at h
      · rw [if_neg h3] at h ⊢
        by_cases h4 : Lib.beNat ((s.drop 4).take 4) ≠ sumF (s.take 4 ++ (s.drop 8).take (Lib.beNat (s.take 4)))
        · rw [if_pos h4] at h; simp at h
        · rw [if_neg h4]
          exact ⟨by simp, by simp only; omega⟩
theorem takeF_small (s : List UInt8) : (takeF s).1.length ≤ 400000 := by
  unfold takeF
  split
  · simp
  · split
    · simp
    · split
      · simp
      · split
        · simp
        · simp only [List.length_take]
          omega
theorem headR_ok {least : Int} {s : List UInt8} (h : (headR least s).2.2 = 0) : (takeF s).2.2 = 0 ∧ readR (takeF s).1 = some (headR least s).1 ∧ least ≤ (headR least s).1.off ∧ (headR least s).2.1 = (takeF s).2.1 := by
  unfold headR at *
  by_cases ht : (takeF s).2.2 = 0
  · rw [if_pos ht] at h ⊢
    cases hr : readR (takeF s).1 with
    | none => rw [hr] at h; simp at h
    | some r =>
      rw [hr] at h
      simp only at h ⊢
      by_cases ho : r.off < least
      · rw [if_pos ho] at h; simp at h
      · rw [if_neg ho]
        exact ⟨ht, rfl, by simp only; omega, rfl⟩
  · rw [if_neg ht] at h
    exact absurd h ht
theorem headR_size {least : Int} {s : List UInt8} (h : (headR least s).2.2 = 0) : 8 ≤ (headR least s).2.1 ∧ (headR least s).2.1 ≤ s.length := by
  obtain ⟨h1, _, _, h4⟩ := headR_ok h
  rw [h4]
  exact takeF_ok s h1
theorem headR_right {least : Int} {s : List UInt8} (h : (headR least s).2.2 = 0) : RightP (headR least s).1 := readR_right (headR_ok h).2.1

/-- Reading goes on: kept so many; the records that are kept, with their places; where it ends; the fault. -/
def goF : Nat → Nat → Int → Int → Int → Nat → List UInt8 → List (Rec × Nat) × Nat × Int
  | 0, _, _, _, _, pos, _ => ([], pos, 0)
  | f + 1, kept, least, low, most, pos, s =>
    if s = [] ∨ most ≤ (kept : Int) then ([], pos, 0)
    else if (headR least s).2.2 = 0 then
      if low ≤ (headR least s).1.off then
        (((headR least s).1, pos) :: (goF f (kept + 1) ((headR least s).1.off + 1) low most (pos + (headR least s).2.1) (s.drop (headR least s).2.1)).1, (goF f (kept + 1) ((headR least s).1.off + 1) low most (pos + (headR least s).2.1) (s.drop (headR least s).2.1)).2)
      else goF f kept ((headR least s).1.off + 1) low most (pos + (headR least s).2.1) (s.drop (headR least s).2.1)
    else ([], pos, (headR least s).2.2)

/-- What is left to read comes, behind what is kept, to the result. -/
structure GI (s : List UInt8) (low most : Int) (out : List (Rec × Nat)) (least : Int) (pos : Nat) (R : List (Rec × Nat) × Nat × Int) : Prop where
  le : pos ≤ s.length
  many : 8 * out.length ≤ pos
  spec : ∃ f, s.length - pos < f ∧ R = (out ++ (goF f out.length least low most pos (s.drop pos)).1, (goF f out.length least low most pos (s.drop pos)).2)
def scanF (base : Int) (s : List UInt8) : List (Rec × Nat) × Nat × Int := goF (s.length + 1) 0 base 0 s.length 0 s
def fromF (base low most : Int) (pos : Nat) (s : List UInt8) : List (Rec × Nat) × Nat × Int := goF (s.length + 1) 0 base low most pos (s.drop pos)
theorem fromF_scan (base : Int) (s : List UInt8) : fromF base 0 s.length 0 s = scanF base s := rfl
theorem GI.init (base low most : Int) (pos : Nat) (s : List UInt8) (h : pos ≤ s.length) : GI s low most [] base pos (fromF base low most pos s) := ⟨h, by simp, s.length + 1, by omega, by simp [fromF]⟩
theorem drop_ne {s : List UInt8} {used : Nat} (h : used < s.length) : s.drop used ≠ [] := by
  intro e
  have := congrArg List.length e
  simp at this
  omega
theorem GI.done {s : List UInt8} {low most : Int} {out : List (Rec × Nat)} {least : Int} {pos : Nat} {R : List (Rec × Nat) × Nat × Int} (h : GI s low most out least pos R) (he : pos = s.length ∨ most ≤ (out.length : Int)) : R = (out, pos, 0) := by
  obtain ⟨f, hf, hR⟩ := h.spec
  cases f with
  | zero => omega
  | succ f =>
    have : goF (f + 1) out.length least low most pos (s.drop pos) = ([], pos, 0) := by
      simp only [goF]
      rw [if_pos]
      rcases he with he | he
      · left; rw [he]; simp
      · exact .inr he
    rw [this] at hR
    simpa using hR
theorem GI.fault {s : List UInt8} {low most : Int} {out : List (Rec × Nat)} {least : Int} {pos : Nat} {R : List (Rec × Nat) × Nat × Int} (h : GI s low most out least pos R) (hl : pos < s.length) (hm : (out.length : Int) < most) (he : (headR least (s.drop pos)).2.2 ≠ 0) : R = (out, pos, (headR least (s.drop pos)).2.2) := by
  obtain ⟨f, hf, hR⟩ := h.spec
  cases f with
  | zero => omega
  | succ f =>
    have : goF (f + 1) out.length least low most pos (s.drop pos) = ([], pos, (headR least (s.drop pos)).2.2) := by
      simp only [goF]
      rw [if_neg (by rintro (e | e); exact drop_ne hl e; omega), if_neg he]
    rw [this] at hR
    simpa using hR
theorem GI.keep {s : List UInt8} {low most : Int} {out : List (Rec × Nat)} {least : Int} {pos : Nat} {R : List (Rec × Nat) × Nat × Int} (h : GI s low most out least pos R) (hl : pos < s.length) (hm : (out.length : Int) < most) (he : (headR least (s.drop pos)).2.2 = 0) (ho : low ≤ (headR least (s.drop pos)).1.off) :
    GI s low most (out ++ [((headR least (s.drop pos)).1, pos)]) ((headR least (s.drop pos)).1.off + 1) (pos + (headR least (s.drop pos)).2.1) R := by
  obtain ⟨f, hf, hR⟩ := h.spec
  have hz := headR_size he
  rw [List.length_drop] at hz
  cases f with
  | zero => omega
  | succ f =>
    refine ⟨by omega, by rw [List.length_append, List.length_singleton]; have := h.many; omega, f, by omega, ?_⟩
    simp only [goF] at hR
    rw [if_neg (by rintro (e | e); exact drop_ne hl e; omega), if_pos he, if_pos ho] at hR
    rw [hR, List.drop_drop, List.length_append, List.length_singleton]
    simp
theorem GI.pass {s : List UInt8} {low most : Int} {out : List (Rec × Nat)} {least : Int} {pos : Nat} {R : List (Rec × Nat) × Nat × Int} (h : GI s low most out least pos R) (hl : pos < s.length) (hm : (out.length : Int) < most) (he : (headR least (s.drop pos)).2.2 = 0) (ho : ¬ low ≤ (headR least (s.drop pos)).1.off) :
    GI s low most out ((headR least (s.drop pos)).1.off + 1) (pos + (headR least (s.drop pos)).2.1) R := by
  obtain ⟨f, hf, hR⟩ := h.spec
  have hz := headR_size he
  rw [List.length_drop] at hz
  cases f with
  | zero => omega
  | succ f =>
    refine ⟨by omega, by have := h.many; omega, f, by omega, ?_⟩
    simp only [goF] at hR
    rw [if_neg (by rintro (e | e); exact drop_ne hl e; omega), if_pos he, if_neg ho] at hR
    rw [hR, List.drop_drop]
theorem GI.fits {s : List UInt8} {low most : Int} {out : List (Rec × Nat)} {least : Int} {pos : Nat} {R : List (Rec × Nat) × Nat × Int} (h : GI s low most out least pos R) : out.length ≤ R.1.length := by
  obtain ⟨f, _, hR⟩ := h.spec
  rw [hR]
  simp

end Go.Proofs.YtoolbbibnegdnaaGreatDoor
