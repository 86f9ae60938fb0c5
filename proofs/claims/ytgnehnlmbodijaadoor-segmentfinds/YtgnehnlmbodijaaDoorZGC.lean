/-
  Records on lists: a record's code and frame, what is read of a text, and how reading goes on.
-/
import Derived.Test.YtgnehnlmbodijaaDoorZGA
import Derived.Test.YtgnehnlmbodijaaDoorZGB
namespace Go.Proofs.YtgnehnlmbodijaaDoor

structure Rec where
  off : Int
  prod : ByteArray
  seq : Int
  key : ByteArray
  val : ByteArray
def Rec.zero : Rec := ⟨0, ⟨#[]⟩, 0, ⟨#[]⟩, ⟨#[]⟩⟩
def RightP (r : Rec) : Prop := 0 ≤ r.off ∧ r.off ≤ 9007199254740991 ∧ 0 ≤ r.seq ∧ r.seq ≤ 9007199254740991 ∧ r.prod.size ≤ 20 ∧ r.key.size ≤ 100 ∧ r.val.size ≤ 1000
instance (r : Rec) : Decidable (RightP r) := by unfold RightP; infer_instance
def itemsR (r : Rec) : List K.It := [⟨3, r.off, ⟨#[]⟩⟩, ⟨4, 0, r.prod⟩, ⟨3, r.seq, ⟨#[]⟩⟩, ⟨4, 0, r.key⟩, ⟨4, 0, r.val⟩]
def codeR (r : Rec) : List UInt8 := (itemsR r).flatMap K.itemB
def oneF (r : Rec) : List UInt8 := frameB (codeR r)

theorem itemsR_fault {r : Rec} (h : RightP r) : ∀ x ∈ itemsR r, K.faultF x = 0 ∧ 0 ≤ x.n := by
  obtain ⟨h1, h2, h3, h4, h5, h6, h7⟩ := h
  intro x hx
  simp only [itemsR, List.mem_cons, List.not_mem_nil, or_false] at hx
  have w3 : (256 : Int) ^ K.widthN 3 = 18446744073709551616 := by decide
  have k3 : K.kindB 3 = true := by decide
  have k4 : K.kindB 4 = true := by decide
  have z0 : (⟨#[]⟩ : ByteArray).size = 0 := rfl
  rcases hx with rfl | rfl | rfl | rfl | rfl
  · refine ⟨?_, h1⟩
    unfold K.faultF
    simp only [k3, z0, w3]
    simp
    omega
  · refine ⟨?_, Int.le_refl _⟩
    unfold K.faultF
    simp only [k4]
    simp
    omega
  · refine ⟨?_, h3⟩
    unfold K.faultF
    simp only [k3, z0, w3]
    simp
    omega
  · refine ⟨?_, Int.le_refl _⟩
    unfold K.faultF
    simp only [k4]
    simp
    omega
  · refine ⟨?_, Int.le_refl _⟩
    unfold K.faultF
    simp only [k4]
    simp
    omega
theorem encR {r : Rec} (h : RightP r) : K.encF (itemsR r) = (codeR r, 0) := by
  unfold K.encF
  rw [if_neg (by simp [itemsR]), if_pos ((K.firstFault_zero _).2 fun x hx => (itemsR_fault h x hx).1)]
  rfl
theorem itemB_len (x : K.It) : (K.itemB x).length = K.widthN x.k + x.s.size := by
  unfold K.itemB
  rw [List.length_append, Lib.beBytes_length]
  simp
theorem codeR_len (r : Rec) : (codeR r).length = 28 + r.prod.size + r.key.size + r.val.size := by
  simp only [codeR, itemsR, List.flatMap_cons, List.flatMap_nil, List.length_append, List.length_nil, itemB_len]
  have z0 : (⟨#[]⟩ : ByteArray).size = 0 := rfl
  have w3 : K.widthN 3 = 8 := by decide
  have w4 : K.widthN 4 = 4 := by decide
  simp only [z0, w3, w4]
  omega
theorem codeR_le {r : Rec} (h : RightP r) : (codeR r).length ≤ 1148 := by
  obtain ⟨h1, h2, h3, h4, h5, h6, h7⟩ := h
  rw [codeR_len]
  omega
theorem frameR {r : Rec} (h : RightP r) : frameF (codeR r) = (oneF r, 0) := by
  unfold frameF
  rw [if_neg (by have := codeR_le h; omega)]
  rfl
theorem oneF_len (r : Rec) : (oneF r).length = (codeR r).length + 8 := frameB_length _

def shapeR : List UInt8 := [108, 116, 108, 116, 116]
def recOf : List K.It → Rec
  | [a, b, c, d, e] => ⟨a.n, b.s, c.n, d.s, e.s⟩
  | _ => Rec.zero
def readR (body : List UInt8) : Option Rec :=
  if (K.decF shapeR body).2 = 0 then if RightP (recOf (K.decF shapeR body).1) then some (recOf (K.decF shapeR body).1) else none else none

theorem readF_len (todo : List UInt8) (f m : Nat) (rest : List UInt8) (ht : K.allL todo = true) (hf : rest.length < f) (h : (K.readF f [] m todo rest).2 = 0) : (K.readF f [] m todo rest).1.length = todo.length := by
  induction todo generalizing f m rest with
  | nil =>
    cases f with
    | zero => omega
    | succ f =>
      simp only [K.readF] at h ⊢
      split
      · rfl
      · rename_i hne
        rw [if_neg hne] at h
        simp at h
  | cons c t ih =>
    cases f with
    | zero => omega
    | succ f =>
      obtain ⟨hc, ht2⟩ := K.allL_cons c t ht
      simp only [K.readF] at h ⊢
      split
      · rename_i hm
        rw [if_pos hm] at h
        simp at h
      · rename_i hm
        rw [if_neg hm] at h
        split
        · rename_i hi
          rw [if_pos hi] at h
          have hl := K.itemF_less' c rest hc hi
          split
          · rename_i hr
            have := ih f (m + 1) (K.itemF c rest).2.1 ht2 (by omega) hr
            simp [this]
          · rename_i hr
            rw [if_neg hr] at h
            exact absurd h hr
        · rename_i hi
          rw [if_neg hi] at h
          exact absurd h hi
theorem cut_shapeR : K.cutStar shapeR = (shapeR, [], false) := by decide
theorem ok_shapeR : K.shapeOk shapeR = true := by decide
theorem dec_five (body : List UInt8) (h : (K.decF shapeR body).2 = 0) : ∃ a b c d e, (K.decF shapeR body).1 = [a, b, c, d, e] := by
  have hd : K.decF shapeR body = K.readF (2 * body.length + 2) [] 0 shapeR body := by
    unfold K.decF
    rw [if_pos ok_shapeR, cut_shapeR]
  rw [hd] at h ⊢
  have h5 := readF_len shapeR _ 0 body (by decide) (by omega) h
  generalize (K.readF (2 * body.length + 2) [] 0 shapeR body).1 = l at h5
  match l, h5 with
  | [a, b, c, d, e], _ => exact ⟨a, b, c, d, e, rfl⟩
theorem shape_itemsR (r : Rec) : K.shapeF (itemsR r) = (shapeR, 0) := by
  unfold K.shapeF
  rw [if_pos (by simp only [itemsR, List.all_cons, List.all_nil]; decide)]
  simp only [itemsR, List.map_cons, List.map_nil]
  rfl
theorem readR_code {r : Rec} (h : RightP r) : readR (codeR r) = some r := by
  have e := K.back_pure (itemsR r) (by rw [encR h]) fun x hx => (itemsR_fault h x hx).2
  rw [shape_itemsR, encR h] at e
  have e2 : K.decF shapeR (codeR r) = (itemsR r, 0) := e.2
  unfold readR
  rw [e2, if_pos rfl]
  have e3 : recOf (itemsR r) = r := rfl
  simp only [e3]
  rw [if_pos h]
theorem readR_right {body : List UInt8} {r : Rec} (h : readR body = some r) : RightP r := by
  unfold readR at h
  split at h
  · split at h
    · rename_i h1
      injection h with h
      rw [← h]
      exact h1
    · cases h
  · cases h

/-- The record with which a text begins, how many bytes it has, the fault. -/
def headR (least : Int) (s : List UInt8) : Rec × Nat × Int :=
  if (takeF s).2.2 = 0 then
    match readR (takeF s).1 with
    | some r => if r.off < least then (.zero, 0, 11) else (r, (takeF s).2.1, 0)
    | none => (.zero, 0, 10)
  else (.zero, 0, (takeF s).2.2)

theorem takeF_ok (s : List UInt8) (h : (takeF s).2.2 = 0) : 8 ≤ (takeF s).2.1 ∧ (takeF s).2.1 ≤ s.length := by
  unfold takeF at *
  by_cases h1 : s.length < 4
  · rw [if_pos h1] at h; simp at h
  · rw [if_neg h1] at h ⊢
    by_cases h2 : 400000 < Lib.beNat (s.take 4)
    · rw [if_pos h2] at h; simp at h
    · rw [if_neg h2] at h ⊢
      by_cases h3 : s.length < 8 + Lib.beNat (s.take 4)
      · rw [if_pos h3] at h; simp at h
      · rw [if_neg h3] at h ⊢
        by_cases h4 : Lib.beNat ((s.drop 4).take 4) ≠ sumF (s.take 4 ++ (s.drop 8).take (Lib.beNat (s.take 4)))
        · rw [if_pos h4] at h; simp at h
        · rw [if_neg h4]
          exact ⟨by simp, by simp only; omega⟩
theorem takeF_small (s : List UInt8) : (takeF s).1.length ≤ 400000 := by
  unfold takeF
  split
  · simp
  · split
    · simp
    · split
      · simp
      · split
        · simp
        · simp only [List.length_take]
          omega
theorem headR_ok {least : Int} {s : List UInt8} (h : (headR least s).2.2 = 0) : (takeF s).2.2 = 0 ∧ readR (takeF s).1 = some (headR least s).1 ∧ least ≤ (headR least s).1.off ∧ (headR least s).2.1 = (takeF s).2.1 := by
  unfold headR at *
  by_cases ht : (takeF s).2.2 = 0
  · rw [if_pos ht] at h ⊢
    cases hr : readR (takeF s).1 with
    | none => rw [hr] at h; simp at h
    | some r =>
      rw [hr] at h
      simp only at h ⊢
      by_cases ho : r.off < least
      · rw [if_pos ho] at h; simp at h
      · rw [if_neg ho]
        exact ⟨ht, rfl, by simp only; omega, rfl⟩
  · rw [if_neg ht] at h
    exact absurd h ht
theorem headR_size {least : Int} {s : List UInt8} (h : (headR least s).2.2 = 0) : 8 ≤ (headR least s).2.1 ∧ (headR least s).2.1 ≤ s.length := by
  obtain ⟨h1, _, _, h4⟩ := headR_ok h
  rw [h4]
  exact takeF_ok s h1
theorem headR_right {least : Int} {s : List UInt8} (h : (headR least s).2.2 = 0) : RightP (headR least s).1 := readR_right (headR_ok h).2.1

/-- Reading goes on: kept so many; the records that are kept, with their places; where it ends; the fault. -/
def goF : Nat → Nat → Int → Int → Int → Nat → List UInt8 → List (Rec × Nat) × Nat × Int
  | 0, _, _, _, _, pos, _ => ([], pos, 0)
  | f + 1, kept, least, low, most, pos, s =>
    if s = [] ∨ most ≤ (kept : Int) then ([], pos, 0)
    else if (headR least s).2.2 = 0 then
      if low ≤ (headR least s).1.off then
        (((headR least s).1, pos) :: (goF f (kept + 1) ((headR least s).1.off + 1) low most (pos + (headR least s).2.1) (s.drop (headR least s).2.1)).1, (goF f (kept + 1) ((headR least s).1.off + 1) low most (pos + (headR least s).2.1) (s.drop (headR least s).2.1)).2)
      else goF f kept ((headR least s).1.off + 1) low most (pos + (headR least s).2.1) (s.drop (headR least s).2.1)
    else ([], pos, (headR least s).2.2)

/-- What is left to read comes, behind what is kept, to the result. -/
structure GI (s : List UInt8) (low most : Int) (out : List (Rec × Nat)) (least : Int) (pos : Nat) (R : List (Rec × Nat) × Nat × Int) : Prop where
  le : pos ≤ s.length
  many : 8 * out.length ≤ pos
  spec : ∃ f, s.length - pos < f ∧ R = (out ++ (goF f out.length least low most pos (s.drop pos)).1, (goF f out.length least low most pos (s.drop pos)).2)
def scanF (base : Int) (s : List UInt8) : List (Rec × Nat) × Nat × Int := goF (s.length + 1) 0 base 0 s.length 0 s
def fromF (base low most : Int) (pos : Nat) (s : List UInt8) : List (Rec × Nat) × Nat × Int := goF (s.length + 1) 0 base low most pos (s.drop pos)
theorem fromF_scan (base : Int) (s : List UInt8) : fromF base 0 s.length 0 s = scanF base s := rfl
theorem GI.init (base low most : Int) (pos : Nat) (s : List UInt8) (h : pos ≤ s.length) : GI s low most [] base pos (fromF base low most pos s) := ⟨h, by simp, s.length + 1, by omega, by simp [fromF]⟩
theorem drop_ne {s : List UInt8} {used : Nat} (h : used < s.length) : s.drop used ≠ [] := by
  intro e
  have := congrArg List.length e
  simp at this
  omega
theorem GI.done {s : List UInt8} {low most : Int} {out : List (Rec × Nat)} {least : Int} {pos : Nat} {R : List (Rec × Nat) × Nat × Int} (h : GI s low most out least pos R) (he : pos = s.length ∨ most ≤ (out.length : Int)) : R = (out, pos, 0) := by
  obtain ⟨f, hf, hR⟩ := h.spec
  cases f with
  | zero => omega
  | succ f =>
    have : goF (f + 1) out.length least low most pos (s.drop pos) = ([], pos, 0) := by
      simp only [goF]
      rw [if_pos]
      rcases he with he | he
      · left; rw [he]; simp
      · exact .inr he
    rw [this] at hR
    simpa using hR
theorem GI.fault {s : List UInt8} {low most : Int} {out : List (Rec × Nat)} {least : Int} {pos : Nat} {R : List (Rec × Nat) × Nat × Int} (h : GI s low most out least pos R) (hl : pos < s.length) (hm : (out.length : Int) < most) (he : (headR least (s.drop pos)).2.2 ≠ 0) : R = (out, pos, (headR least (s.drop pos)).2.2) := by
  obtain ⟨f, hf, hR⟩ := h.spec
  cases f with
  | zero => omega
  | succ f =>
    have : goF (f + 1) out.length least low most pos (s.drop pos) = ([], pos, (headR least (s.drop pos)).2.2) := by
      simp only [goF]
      rw [if_neg (by rintro (e | e); exact drop_ne hl e; omega), if_neg he]
    rw [this] at hR
    simpa using hR
theorem GI.keep {s : List UInt8} {low most : Int} {out : List (Rec × Nat)} {least : Int} {pos : Nat} {R : List (Rec × Nat) × Nat × Int} (h : GI s low most out least pos R) (hl : pos < s.length) (hm : (out.length : Int) < most) (he : (headR least (s.drop pos)).2.2 = 0) (ho : low ≤ (headR least (s.drop pos)).1.off) :
    GI s low most (out ++ [((headR least (s.drop pos)).1, pos)]) ((headR least (s.drop pos)).1.off + 1) (pos + (headR least (s.drop pos)).2.1) R := by
  obtain ⟨f, hf, hR⟩ := h.spec
  have hz := headR_size he
  rw [List.length_drop] at hz
  cases f with
  | zero => omega
  | succ f =>
    refine ⟨by omega, by rw [List.length_append, List.length_singleton]; have := h.many; omega, f, by omega, ?_⟩
    simp only [goF] at hR
    rw [if_neg (by rintro (e | e); exact drop_ne hl e; omega), if_pos he, if_pos ho] at hR
    rw [hR, List.drop_drop, List.length_append, List.length_singleton]
    simp
theorem GI.pass {s : List UInt8} {low most : Int} {out : List (Rec × Nat)} {least : Int} {pos : Nat} {R : List (Rec × Nat) × Nat × Int} (h : GI s low most out least pos R) (hl : pos < s.length) (hm : (out.length : Int) < most) (he : (headR least (s.drop pos)).2.2 = 0) (ho : ¬ low ≤ (headR least (s.drop pos)).1.off) :
    GI s low most out ((headR least (s.drop pos)).1.off + 1) (pos + (headR least (s.drop pos)).2.1) R := by
  obtain ⟨f, hf, hR⟩ := h.spec
  have hz := headR_size he
  rw [List.length_drop] at hz
  cases f with
  | zero => omega
  | succ f =>
    refine ⟨by omega, by have := h.many; omega, f, by omega, ?_⟩
    simp only [goF] at hR
    rw [if_neg (by rintro (e | e); exact drop_ne hl e; omega), if_pos he, if_neg ho] at hR
    rw [hR, List.drop_drop]
theorem GI.fits {s : List UInt8} {low most : Int} {out : List (Rec × Nat)} {least : Int} {pos : Nat} {R : List (Rec × Nat) × Nat × Int} (h : GI s low most out least pos R) : out.length ≤ R.1.length := by
  obtain ⟨f, _, hR⟩ := h.spec
  rw [hR]
  simp

end Go.Proofs.YtgnehnlmbodijaaDoor
/-
  Records that rise, one behind the other, on lists: all of them, a beginning, a bit turned; from an offset on.
-/
namespace Go.Proofs.YtgnehnlmbodijaaDoor

def writtenF (l : List Rec) : List UInt8 := l.flatMap oneF
def Rises : Int → List Rec → Prop
  | _, [] => True
  | lo, r :: l => RightP r ∧ lo ≤ r.off ∧ Rises (r.off + 1) l
def placed : Nat → List Rec → List (Rec × Nat)
  | _, [] => []
  | pos, r :: l => (r, pos) :: placed (pos + (oneF r).length) l
def nextR : Int → List Rec → Int
  | lo, [] => lo
  | _, r :: l => nextR (r.off + 1) l
theorem placed_length (pos : Nat) (l : List Rec) : (placed pos l).length = l.length := by
  induction l generalizing pos with
  | nil => rfl
  | cons r l ih => simp [placed, ih]
theorem placed_recs (pos : Nat) (l : List Rec) : (placed pos l).map (·.1) = l := by
  induction l generalizing pos with
  | nil => rfl
  | cons r l ih => simp [placed, ih]
theorem written_cons (r : Rec) (l : List Rec) : writtenF (r :: l) = oneF r ++ writtenF l := by simp [writtenF]
theorem one_pos (r : Rec) : 8 ≤ (oneF r).length := by rw [oneF_len]; omega
theorem written_le (l : List Rec) : l.length ≤ (writtenF l).length := by
  induction l with
  | nil => simp
  | cons r l ih => rw [written_cons, List.length_append, List.length_cons]; have := one_pos r; omega
theorem headR_one {r : Rec} {least : Int} (h : RightP r) (hl : least ≤ r.off) (rest : List UInt8) : headR least (oneF r ++ rest) = (r, (oneF r).length, 0) := by
  have ht : takeF (oneF r ++ rest) = (codeR r, 8 + (codeR r).length, 0) := take_frame (codeR r) rest (by have := codeR_le h; omega)
  unfold headR
  rw [ht, if_pos rfl, readR_code h]
  simp only
  rw [if_neg (by omega), oneF_len, Nat.add_comm]
theorem one_ne (r : Rec) (rest : List UInt8) : oneF r ++ rest ≠ [] := frame_ne _ _
theorem goF_pre (l : List Rec) (f kept : Nat) (least most : Int) (pos : Nat) (t : List UInt8) (h : Rises least l) (hm : ((kept + l.length : Nat) : Int) ≤ most) :
    goF (f + l.length) kept least 0 most pos (writtenF l ++ t) = (placed pos l ++ (goF f (kept + l.length) (nextR least l) 0 most (pos + (writtenF l).length) t).1, (goF f (kept + l.length) (nextR least l) 0 most (pos + (writtenF l).length) t).2) := by
  induction l generalizing kept least pos with
  | nil => simp [writtenF, placed, nextR]
  | cons r l ih =>
    obtain ⟨h1, h2, h3⟩ := h
    rw [List.length_cons] at hm
    have hk := ih (kept + 1) (r.off + 1) (pos + (oneF r).length) h3 (by omega)
    rw [written_cons, List.append_assoc, List.length_cons, show f + (l.length + 1) = (f + l.length) + 1 by omega]
    simp only [goF]
    rw [if_neg (by rintro (e | e); exact one_ne _ _ e; omega), headR_one h1 h2]
    simp only
    rw [if_pos trivial, if_pos h1.1, List.drop_left' rfl, hk]
    simp only [placed, nextR, List.length_append, List.cons_append]
    rw [show kept + 1 + l.length = kept + (l.length + 1) by omega, Nat.add_assoc]
theorem goF_nil (f kept : Nat) (least low most : Int) (pos : Nat) : goF f kept least low most pos [] = ([], pos, 0) := by
  cases f with
  | zero => rfl
  | succ f => simp [goF]
/-- P6.4: records that rise are read as they were. -/
theorem scan_written (base : Int) (l : List Rec) (h : Rises base l) : scanF base (writtenF l) = (placed 0 l, (writtenF l).length, 0) := by
  unfold scanF
  have hl := written_le l
  have e : (writtenF l).length + 1 = ((writtenF l).length + 1 - l.length) + l.length := by omega
  rw [e]
  have := goF_pre l ((writtenF l).length + 1 - l.length) 0 base (writtenF l).length 0 [] h (by omega)
  rw [List.append_nil] at this
  rw [this, goF_nil]
  simp
theorem goF_bad (f kept : Nat) (least low most : Int) (pos : Nat) (t : List UInt8) (e : Int) (ht : t ≠ []) (hm : (kept : Int) < most) (hh : (takeF t).2.2 = e) (he : e ≠ 0) : goF (f + 1) kept least low most pos t = ([], pos, e) := by
  have hd : (headR least t).2.2 = e := by
    unfold headR
    rw [if_neg (by rw [hh]; exact he)]
    exact hh
  simp only [goF]
  rw [if_neg (by rintro (x | x); exact ht x; omega), if_neg (by rw [hd]; exact he), hd]
/-- Behind records that rise, what is no frame: they are told, and its error. -/
theorem scan_bad (base : Int) (l : List Rec) (t : List UInt8) (e : Int) (h : Rises base l) (ht : t ≠ []) (hh : (takeF t).2.2 = e) (he : e ≠ 0) : scanF base (writtenF l ++ t) = (placed 0 l, (writtenF l).length, e) := by
  unfold scanF
  have hl := written_le l
  have h1 : 1 ≤ t.length := List.length_pos_iff.2 ht
  have e1 : (writtenF l ++ t).length + 1 = ((writtenF l ++ t).length - l.length + 1) + l.length := by rw [List.length_append]; omega
  rw [e1, goF_pre l _ 0 base _ 0 t h (by rw [List.length_append]; omega), goF_bad _ _ _ _ _ _ t e ht (by rw [List.length_append]; omega) hh he]
  simp
theorem scan_torn (base : Int) (l : List Rec) (r : Rec) (c : Nat) (h : Rises base l) (hr : RightP r) (h0 : 0 < c) (h1 : c < (oneF r).length) : scanF base (writtenF l ++ (oneF r).take c) = (placed 0 l, (writtenF l).length, 2) := by
  refine scan_bad base l _ 2 h ?_ ?_ (by decide)
  · intro e
    have h9 := congrArg List.length e
    rw [List.length_take, List.length_nil] at h9
    omega
  · have := take_torn (codeR r) [] c (by have := codeR_le hr; omega) (by rw [oneF_len] at h1; exact h1)
    rw [List.append_nil] at this
    have e2 : takeF ((oneF r).take c) = ([], 0, 2) := this
    rw [e2]
theorem take_bit_rest (b rest : List UInt8) (k : Nat) (h : b.length ≤ 400000) (h1 : 32 ≤ k) (h2 : k < 8 * (b.length + 8)) : takeF (flipF (frameB b) k ++ rest) = ([], 0, 4) := by
  unfold frameB
  by_cases h3 : k < 64
  · obtain ⟨j, rfl⟩ : ∃ j, k = 8 * (lenB b).length + j := ⟨k - 32, by rw [lenB_length]; omega⟩
    rw [lenB_length] at h3
    have hj : j < 8 * (sumB b).length := by rw [sumB_length]; omega
    rw [flip_append_right, flip_append_left _ _ _ hj]
    have := take_sum b (flipF (sumB b) j) rest h (by rw [flipF_length, sumB_length]) (flip_ne _ _ hj)
    simpa using this
  · obtain ⟨j, rfl⟩ : ∃ j, k = 8 * (lenB b).length + (8 * (sumB b).length + j) := ⟨k - 64, by rw [lenB_length, sumB_length]; omega⟩
    rw [lenB_length, sumB_length] at h2
    have hj : j < 8 * b.length := by omega
    rw [flip_append_right, flip_append_right]
    have := take_burst b (flipF b j) rest j 1 h (flipF_length b j) (by omega) (by omega) (by omega) (by rw [leF_flip b j hj, Nat.mul_one])
    simpa using this
/-- Of records one of whose bits is turned those ahead of it are told. -/
theorem scan_bit (base : Int) (l l2 : List Rec) (r : Rec) (k : Nat) (h : Rises base l) (hr : RightP r) (h1 : 32 ≤ k) (h2 : k < 8 * (oneF r).length) : scanF base (writtenF l ++ (flipF (oneF r) k ++ writtenF l2)) = (placed 0 l, (writtenF l).length, 4) := by
  refine scan_bad base l _ 4 h ?_ ?_ (by decide)
  · intro e
    have h9 := congrArg List.length e
    rw [List.length_append, flipF_length, List.length_nil] at h9
    have := one_pos r
    omega
  · have := take_bit_rest (codeR r) (writtenF l2) k (by have := codeR_le hr; omega) h1 (by rw [oneF_len] at h2; exact h2)
    have e2 : takeF (flipF (oneF r) k ++ writtenF l2) = ([], 0, 4) := this
    rw [e2]
end Go.Proofs.YtgnehnlmbodijaaDoor
/-
  What is read from an offset on, out of all that is read; from a record's place on; on lists.
-/
namespace Go.Proofs.YtgnehnlmbodijaaDoor

theorem drop_less {least : Int} {s : List UInt8} (h : (headR least s).2.2 = 0) : (s.drop (headR least s).2.1).length < s.length := by
  have := headR_size h
  rw [List.length_drop]
  omega
/-- What is kept: of all that would be told, those from the offset on, so many of them. -/
theorem goF_filter (f kept k0 : Nat) (least low most M : Int) (pos : Nat) (s : List UInt8) (hM : ((k0 + s.length : Nat) : Int) ≤ M) :
    (goF f kept least low most pos s).1 = (((goF f k0 least 0 M pos s).1.filter fun p => decide (low ≤ p.1.off)).take (most - kept).toNat) := by
  induction f generalizing kept k0 least pos s with
  | zero => simp [goF]
  | succ f ih =>
    by_cases hs : s = []
    · subst hs
      rw [goF_nil, goF_nil]
      simp
    · have hlen : 1 ≤ s.length := List.length_pos_iff.2 hs
      simp only [goF]
      rw [if_neg (show ¬ (s = [] ∨ M ≤ (k0 : Int)) by rintro (e | e); exact hs e; omega)]
      by_cases hm : most ≤ (kept : Int)
      · rw [if_pos (.inr hm), show (most - (kept : Int)).toNat = 0 by omega]
        simp
      · rw [if_neg (by rintro (e | e); exact hs e; exact hm e)]
        by_cases he : (headR least s).2.2 = 0
        · have hd := drop_less he
          have hr := headR_right he
          rw [if_pos he, if_pos he, if_pos hr.1]
          have h1 := ih (kept + 1) (k0 + 1) ((headR least s).1.off + 1) (pos + (headR least s).2.1) (s.drop (headR least s).2.1) (by omega)
          have h2 := ih kept (k0 + 1) ((headR least s).1.off + 1) (pos + (headR least s).2.1) (s.drop (headR least s).2.1) (by omega)
          by_cases hl : low ≤ (headR least s).1.off
          · rw [if_pos hl]
            simp only
            rw [List.filter_cons, if_pos (by simpa using hl), show (most - (kept : Int)).toNat = (most - ((kept + 1 : Nat) : Int)).toNat + 1 by omega, List.take_succ_cons, h1]
          · rw [if_neg hl]
            simp only
            rw [List.filter_cons, if_neg (by simpa using hl), h2]
        · rw [if_neg he, if_neg he]
          simp
/-- Fuel that suffices is as good as any. -/
theorem goF_fuel (f f2 kept : Nat) (least low most : Int) (pos : Nat) (s : List UInt8) (h1 : s.length < f) (h2 : s.length < f2) : goF f kept least low most pos s = goF f2 kept least low most pos s := by
  induction f generalizing f2 kept least pos s with
  | zero => omega
  | succ f ih =>
    cases f2 with
    | zero => omega
    | succ f2 =>
      simp only [goF]
      by_cases hs : s = [] ∨ most ≤ (kept : Int)
      · rw [if_pos hs, if_pos hs]
      · rw [if_neg hs, if_neg hs]
        by_cases he : (headR least s).2.2 = 0
        · have hd := drop_less he
          rw [if_pos he, if_pos he, ih f2 (kept + 1) _ _ _ (by omega) (by omega), ih f2 kept _ _ _ (by omega) (by omega)]
        · rw [if_neg he, if_neg he]
theorem headR_of {x : Int} {s : List UInt8} {r : Rec} (h1 : (takeF s).2.2 = 0) (h2 : readR (takeF s).1 = some r) : headR x s = if r.off < x then (.zero, 0, 11) else (r, (takeF s).2.1, 0) := by
  unfold headR
  rw [if_pos h1, h2]
/-- A smaller least offset changes nothing of a record that is told. -/
theorem headR_low {least b : Int} {s : List UInt8} (h : (headR least s).2.2 = 0) (hb : b ≤ least) : headR b s = headR least s := by
  obtain ⟨h1, h2, h3, h4⟩ := headR_ok h
  generalize (headR least s).1 = r at h2 h3
  rw [headR_of h1 h2, headR_of h1 h2, if_neg (by omega), if_neg (by omega)]
/-- How many are kept does not matter where all are. -/
theorem goF_kept (f kept k2 : Nat) (least M : Int) (pos : Nat) (s : List UInt8) (h1 : ((kept + s.length : Nat) : Int) ≤ M) (h2 : ((k2 + s.length : Nat) : Int) ≤ M) : goF f kept least 0 M pos s = goF f k2 least 0 M pos s := by
  induction f generalizing kept k2 least pos s with
  | zero => rfl
  | succ f ih =>
    by_cases hs : s = []
    · subst hs
      rw [goF_nil, goF_nil]
    · have hlen : 1 ≤ s.length := List.length_pos_iff.2 hs
      simp only [goF]
      rw [if_neg (show ¬ (s = [] ∨ M ≤ (kept : Int)) by rintro (e | e); exact hs e; omega), if_neg (show ¬ (s = [] ∨ M ≤ (k2 : Int)) by rintro (e | e); exact hs e; omega)]
      by_cases he : (headR least s).2.2 = 0
      · have hd := drop_less he
        rw [if_pos he, if_pos he, if_pos (headR_right he).1, if_pos (headR_right he).1, ih (kept + 1) (k2 + 1) _ _ _ (by omega) (by omega)]
      · rw [if_neg he, if_neg he]
/-- From a record's place on, with any least offset not above its own, the records from it on are told. -/
theorem goF_tail (k : Nat) (f kept k2 : Nat) (least b M : Int) (pos : Nat) (s : List UInt8) (hf : s.length < f) (hM : ((kept + s.length : Nat) : Int) ≤ M) (hM2 : ((k2 + s.length : Nat) : Int) ≤ M) (hb : b ≤ least) (r : Rec) (p : Nat) (hk : (goF f kept least 0 M pos s).1[k]? = some (r, p)) :
    pos ≤ p ∧ p - pos ≤ s.length ∧ (goF f k2 b 0 M p (s.drop (p - pos))).1 = (goF f kept least 0 M pos s).1.drop k ∧ least ≤ r.off := by
  induction k generalizing f kept least pos s with
  | zero =>
    cases f with
    | zero => omega
    | succ f =>
      have hs : s ≠ [] := fun e => by rw [e, goF_nil] at hk; simp at hk
      have hlen : 1 ≤ s.length := List.length_pos_iff.2 hs
      have hs1 : ¬ (s = [] ∨ M ≤ (kept : Int)) := by rintro (e | e); exact hs e; omega
      have hs2 : ¬ (s = [] ∨ M ≤ (k2 : Int)) := by rintro (e | e); exact hs e; omega
      by_cases he : (headR least s).2.2 = 0
      · have hd := drop_less he
        have hr := headR_right he
        have e1 : goF (f + 1) kept least 0 M pos s = (((headR least s).1, pos) :: (goF f (kept + 1) ((headR least s).1.off + 1) 0 M (pos + (headR least s).2.1) (s.drop (headR least s).2.1)).1, (goF f (kept + 1) ((headR least s).1.off + 1) 0 M (pos + (headR least s).2.1) (s.drop (headR least s).2.1)).2) := by
          simp only [goF]
          rw [if_neg hs1, if_pos he, if_pos hr.1]
        have e2 : goF (f + 1) k2 b 0 M pos s = (((headR least s).1, pos) :: (goF f (k2 + 1) ((headR least s).1.off + 1) 0 M (pos + (headR least s).2.1) (s.drop (headR least s).2.1)).1, (goF f (k2 + 1) ((headR least s).1.off + 1) 0 M (pos + (headR least s).2.1) (s.drop (headR least s).2.1)).2) := by
          simp only [goF]
          rw [if_neg hs2, headR_low he hb, if_pos he, if_pos hr.1]
        rw [e1] at hk ⊢
        simp at hk
        obtain ⟨rfl, rfl⟩ := hk
        rw [Nat.sub_self, List.drop_zero, e2, goF_kept f (k2 + 1) (kept + 1) _ M _ _ (by omega) (by omega)]
        exact ⟨Nat.le_refl _, Nat.zero_le _, rfl, (headR_ok he).2.2.1⟩
      · simp only [goF] at hk
        rw [if_neg hs1, if_neg he] at hk
        simp at hk
  | succ k ih =>
    cases f with
    | zero => omega
    | succ f =>
      have hs : s ≠ [] := fun e => by rw [e, goF_nil] at hk; simp at hk
      have hlen : 1 ≤ s.length := List.length_pos_iff.2 hs
      have hs1 : ¬ (s = [] ∨ M ≤ (kept : Int)) := by rintro (e | e); exact hs e; omega
      by_cases he : (headR least s).2.2 = 0
      · have hd := drop_less he
        have hr := headR_right he
        have hz := headR_size he
        have ho := (headR_ok he).2.2.1
        have e1 : goF (f + 1) kept least 0 M pos s = (((headR least s).1, pos) :: (goF f (kept + 1) ((headR least s).1.off + 1) 0 M (pos + (headR least s).2.1) (s.drop (headR least s).2.1)).1, (goF f (kept + 1) ((headR least s).1.off + 1) 0 M (pos + (headR least s).2.1) (s.drop (headR least s).2.1)).2) := by
          simp only [goF]
          rw [if_neg hs1, if_pos he, if_pos hr.1]
        rw [e1] at hk ⊢
        simp only [List.getElem?_cons_succ, List.drop_succ_cons] at hk ⊢
        obtain ⟨g1, g2, g3, g4⟩ := ih f (kept + 1) ((headR least s).1.off + 1) (pos + (headR least s).2.1) (s.drop (headR least s).2.1) (by omega) (by omega) (by omega) (by omega) hk
        rw [List.length_drop] at g2
        rw [List.drop_drop, show (headR least s).2.1 + (p - (pos + (headR least s).2.1)) = p - pos by omega] at g3
        refine ⟨by omega, by omega, ?_, by omega⟩
        rw [← g3, goF_fuel (f + 1) f k2 b 0 M p (s.drop (p - pos)) (by rw [List.length_drop]; omega) (by rw [List.length_drop]; omega)]
      · simp only [goF] at hk
        rw [if_neg hs1, if_neg he] at hk
        simp at hk
end Go.Proofs.YtgnehnlmbodijaaDoor
