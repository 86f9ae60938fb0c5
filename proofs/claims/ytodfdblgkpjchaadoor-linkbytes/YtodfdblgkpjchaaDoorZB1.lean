/-
  A frame's code on lists: written, read.
-/
import Derived.Test.YtodfdblgkpjchaaDoorZGA
import Derived.Test.YtodfdblgkpjchaaDoorZGB
import Derived.Test.YtodfdblgkpjchaaDoorZL1
namespace Go.Proofs.YtodfdblgkpjchaaDoor

def FR.zero : FR := ⟨0, 0, 0, 0, ⟨#[]⟩⟩
def itemsL (f : FR) : List K.It := [⟨3, f.epoch, ⟨#[]⟩⟩, ⟨3, f.peer, ⟨#[]⟩⟩, ⟨3, f.seq, ⟨#[]⟩⟩, ⟨3, f.ack, ⟨#[]⟩⟩, ⟨4, 0, f.body⟩]
def codeL (f : FR) : List UInt8 := (itemsL f).flatMap K.itemB
def oneL (f : FR) : List UInt8 := frameB (codeL f)
theorem itemsL_fault {f : FR} (h : f.rightP) : ∀ x ∈ itemsL f, K.faultF x = 0 ∧ 0 ≤ x.n := by
  obtain ⟨h1, h2, h3, h4, h5, h6, h7, h8, h9, _⟩ := h
  intro x hx
  simp only [itemsL, List.mem_cons, List.not_mem_nil, or_false] at hx
  have w3 : (256 : Int) ^ K.widthN 3 = 18446744073709551616 := by decide
  have k3 : K.kindB 3 = true := by decide
  have k4 : K.kindB 4 = true := by decide
  have z0 : (⟨#[]⟩ : ByteArray).size = 0 := rfl
  rcases hx with rfl | rfl | rfl | rfl | rfl
  · refine ⟨?_, by show 0 ≤ f.epoch; omega⟩
    unfold K.faultF
    simp only [k3, z0, w3]
    simp
    omega
  · refine ⟨?_, h3⟩
    unfold K.faultF
    simp only [k3, z0, w3]
    simp
    omega
  · refine ⟨?_, h5⟩
    unfold K.faultF
    simp only [k3, z0, w3]
    simp
    omega
  · refine ⟨?_, h7⟩
    unfold K.faultF
    simp only [k3, z0, w3]
    simp
    omega
  · refine ⟨?_, Int.le_refl _⟩
    unfold K.faultF
    simp only [k4]
    simp
    omega
theorem encL {f : FR} (h : f.rightP) : K.encF (itemsL f) = (codeL f, 0) := by
  unfold K.encF
  rw [if_neg (by simp [itemsL]), if_pos ((K.firstFault_zero _).2 fun x hx => (itemsL_fault h x hx).1)]
  rfl
theorem itemB_len (x : K.It) : (K.itemB x).length = K.widthN x.k + x.s.size := by
  unfold K.itemB
  rw [List.length_append, Lib.beBytes_length]
  simp
theorem codeL_len (f : FR) : (codeL f).length = 36 + f.body.size := by
  simp only [codeL, itemsL, List.flatMap_cons, List.flatMap_nil, List.length_append, List.length_nil, itemB_len]
  have z0 : (⟨#[]⟩ : ByteArray).size = 0 := rfl
  have w3 : K.widthN 3 = 8 := by decide
  have w4 : K.widthN 4 = 4 := by decide
  simp only [z0, w3, w4]
  omega
theorem codeL_le {f : FR} (h : f.rightP) : (codeL f).length ≤ 100036 := by
  obtain ⟨_, _, _, _, _, _, _, _, h9, _⟩ := h
  rw [codeL_len]
  omega
theorem frameL {f : FR} (h : f.rightP) : frameF (codeL f) = (oneL f, 0) := by
  unfold frameF
  rw [if_neg (by have := codeL_le h; omega)]
  rfl
theorem oneL_len (f : FR) : (oneL f).length = (codeL f).length + 8 := frameB_length _
def shapeL : List UInt8 := [108, 108, 108, 108, 116]
def frOf : List K.It → FR
  | [a, b, c, d, e] => ⟨a.n, b.n, c.n, d.n, e.s⟩
  | _ => FR.zero
def readL (body : List UInt8) : Option FR :=
  if (K.decF shapeL body).2 = 0 then if (frOf (K.decF shapeL body).1).rightP then some (frOf (K.decF shapeL body).1) else none else none
theorem readF_len (todo : List UInt8) (f m : Nat) (rest : List UInt8) (ht : K.allL todo = true) (hf : rest.length < f) (h : (K.readF f [] m todo rest).2 = 0) : (K.readF f [] m todo rest).1.length = todo.length := by
  induction todo generalizing f m rest with
  | nil =>
    cases f with
    | zero => omega
    | succ f =>
      simp only [K.readF] at h ⊢
      split
      · rfl
      · rename_i hne
        rw [if_neg hne] at h
        simp at h
  | cons c t ih =>
    cases f with
    | zero => omega
    | succ f =>
      obtain ⟨hc, ht2⟩ := K.allL_cons c t ht
      simp only [K.readF] at h ⊢
      split
      · rename_i hm
        rw [if_pos hm] at h
        simp at h
      · rename_i hm
        rw [if_neg hm] at h
        split
        · rename_i hi
          rw [if_pos hi] at h
          have hl := K.itemF_less' c rest hc hi
          split
          · rename_i hr
            have := ih f (m + 1) (K.itemF c rest).2.1 ht2 (by omega) hr
            simp [this]
          · rename_i hr
            rw [if_neg hr] at h
            exact absurd h hr
        · rename_i hi
          rw [if_neg hi] at h
          exact absurd h hi
theorem cut_shapeL : K.cutStar shapeL = (shapeL, [], false) := by decide
theorem ok_shapeL : K.shapeOk shapeL = true := by decide
theorem dec_five (body : List UInt8) (h : (K.decF shapeL body).2 = 0) : ∃ a b c d e, (K.decF shapeL body).1 = [a, b, c, d, e] := by
  have hd : K.decF shapeL body = K.readF (2 * body.length + 2) [] 0 shapeL body := by
    unfold K.decF
    rw [if_pos ok_shapeL, cut_shapeL]
  rw [hd] at h ⊢
  have h5 := readF_len shapeL _ 0 body (by decide) (by omega) h
  generalize (K.readF (2 * body.length + 2) [] 0 shapeL body).1 = l at h5
  match l, h5 with
  | [a, b, c, d, e], _ => exact ⟨a, b, c, d, e, rfl⟩
theorem shape_itemsL (f : FR) : K.shapeF (itemsL f) = (shapeL, 0) := by
  unfold K.shapeF
  rw [if_pos (by simp only [itemsL, List.all_cons, List.all_nil]; decide)]
  simp only [itemsL, List.map_cons, List.map_nil]
  rfl
theorem readL_code {f : FR} (h : f.rightP) : readL (codeL f) = some f := by
  have e := K.back_pure (itemsL f) (by rw [encL h]) fun x hx => (itemsL_fault h x hx).2
  rw [shape_itemsL, encL h] at e
  have e2 : K.decF shapeL (codeL f) = (itemsL f, 0) := e.2
  unfold readL
  rw [e2, if_pos rfl]
  have e3 : frOf (itemsL f) = f := rfl
  simp only [e3]
  rw [if_pos h]
theorem readL_right {body : List UInt8} {f : FR} (h : readL body = some f) : f.rightP := by
  unfold readL at h
  split at h
  · split at h
    · rename_i h1
      injection h with h
      rw [← h]
      exact h1
    · cases h
  · cases h
def okFor (c : UInt8) (x : K.It) : Prop := (K.kindOfL c = 4 ∧ ∃ s, x = ⟨4, 0, s⟩) ∨ (K.kindOfL c ≠ 4 ∧ ∃ n, x = ⟨K.kindOfL c, n, ⟨#[]⟩⟩)
theorem itemF_okFor (c : UInt8) (s : List UInt8) (h : (K.itemF c s).2.2 = 0) : okFor c (K.itemF c s).1 := by
  unfold K.itemF at *
  by_cases h1 : s.length < K.widthN (K.kindOfL c)
  · rw [if_pos h1] at h; simp at h
  · rw [if_neg h1] at h ⊢
    by_cases h2 : K.kindOfL c = 4
    · rw [if_pos h2] at h ⊢
      by_cases h3 : 100000 < Lib.beNat (s.take 4)
      · rw [if_pos h3] at h; simp at h
      · rw [if_neg h3] at h ⊢
        by_cases h4 : (s.drop 4).length < Lib.beNat (s.take 4)
        · rw [if_pos h4] at h; simp at h
        · rw [if_neg h4]
          exact .inl ⟨h2, _, rfl⟩
    · rw [if_neg h2]
      exact .inr ⟨h2, _, rfl⟩
def fits : List UInt8 → List K.It → Prop
  | [], [] => True
  | c :: t, x :: l => okFor c x ∧ fits t l
  | _, _ => False
theorem readF_fits (todo : List UInt8) (f m : Nat) (rest : List UInt8) (ht : K.allL todo = true) (hf : rest.length < f) (h : (K.readF f [] m todo rest).2 = 0) : fits todo (K.readF f [] m todo rest).1 := by
  induction todo generalizing f m rest with
  | nil =>
    cases f with
    | zero => omega
    | succ f =>
      simp only [K.readF] at h ⊢
      split
      · trivial
      · rename_i hne
        rw [if_neg hne] at h
        simp at h
  | cons c t ih =>
    cases f with
    | zero => omega
    | succ f =>
      obtain ⟨hc, ht2⟩ := K.allL_cons c t ht
      simp only [K.readF] at h ⊢
      split
      · rename_i hm
        rw [if_pos hm] at h
        simp at h
      · rename_i hm
        rw [if_neg hm] at h
        split
        · rename_i hi
          rw [if_pos hi] at h
          have hl := K.itemF_less' c rest hc hi
          split
          · rename_i hr
            exact ⟨itemF_okFor c rest hi, ih f (m + 1) (K.itemF c rest).2.1 ht2 (by omega) hr⟩
          · rename_i hr
            rw [if_neg hr] at h
            exact absurd h hr
        · rename_i hi
          rw [if_neg hi] at h
          exact absurd h hi
theorem kind_l : K.kindOfL 108 = 3 := by decide
theorem kind_t : K.kindOfL 116 = 4 := by decide
theorem dec_items (body : List UInt8) (h : (K.decF shapeL body).2 = 0) : (K.decF shapeL body).1 = itemsL (frOf (K.decF shapeL body).1) := by
  have hd : K.decF shapeL body = K.readF (2 * body.length + 2) [] 0 shapeL body := by
    unfold K.decF
    rw [if_pos ok_shapeL, cut_shapeL]
  obtain ⟨a, b, c, d, e, h5⟩ := dec_five _ h
  have hf : fits shapeL (K.decF shapeL body).1 := by
    rw [hd] at h ⊢
    exact readF_fits shapeL _ 0 body (by decide) (by omega) h
  rw [h5] at hf ⊢
  obtain ⟨ha, hb, hc, hd, he, _⟩ := hf
  have key : ∀ x, okFor 108 x → x = ⟨3, x.n, ⟨#[]⟩⟩ := fun x hx => by
    rcases hx with ⟨h1, _⟩ | ⟨_, n, rfl⟩
    · rw [kind_l] at h1; cases h1
    · rw [kind_l]
  have ke : e = ⟨4, 0, e.s⟩ := by
    rcases he with ⟨_, s, rfl⟩ | ⟨h1, _⟩
    · rfl
    · exact absurd kind_t h1
  show [a, b, c, d, e] = [⟨3, a.n, ⟨#[]⟩⟩, ⟨3, b.n, ⟨#[]⟩⟩, ⟨3, c.n, ⟨#[]⟩⟩, ⟨3, d.n, ⟨#[]⟩⟩, ⟨4, 0, e.s⟩]
  rw [← key a ha, ← key b hb, ← key c hc, ← key d hd, ← ke]
/-- What is read is written as it stood. -/
theorem readL_back {body : List UInt8} {f : FR} (h : readL body = some f) : codeL f = body := by
  have hr := readL_right h
  unfold readL at h
  split at h
  · rename_i hd
    split at h
    · injection h with h
      have h6 := (K.again_pure shapeL body hd).1
      rw [dec_items body hd, h, encL hr] at h6
      exact congrArg Prod.fst h6
    · cases h
  · cases h
/-- Decode: the frame, the fault. -/
def decL (s : List UInt8) : FR × Int :=
  if (takeF s).2.2 ≠ 0 then (FR.zero, (takeF s).2.2)
  else if (takeF s).2.1 ≠ s.length then (FR.zero, 10)
  else match readL (takeF s).1 with
    | some f => (f, 0)
    | none => (FR.zero, 10)
theorem takeF_small (s : List UInt8) : (takeF s).1.length ≤ 400000 := by
  unfold takeF
  split
  · simp
  · split
    · simp
    · split
      · simp
      · split
        · simp
        · simp only [List.length_take]
          omega
theorem decL_one {f : FR} (h : f.rightP) : decL (oneL f) = (f, 0) := by
  have e := take_frame (codeL f) [] (by have := codeL_le h; omega)
  rw [List.append_nil] at e
  unfold decL
  have e2 : takeF (oneL f) = (codeL f, 8 + (codeL f).length, 0) := e
  rw [e2]
  simp only
  rw [if_neg (by simp), if_neg (by rw [oneL_len]; omega), readL_code h]
/-- A whole frame. -/
theorem takeF_whole (s : List UInt8) (h : (takeF s).2.2 = 0) (hl : (takeF s).2.1 = s.length) : frameB (takeF s).1 = s := by
  unfold takeF at *
  by_cases h1 : s.length < 4
  · rw [if_pos h1] at h; simp at h
  · rw [if_neg h1] at h hl ⊢
    by_cases h2 : 400000 < Lib.beNat (s.take 4)
    · rw [if_pos h2] at h; simp at h
    · rw [if_neg h2] at h hl ⊢
      by_cases h3 : s.length < 8 + Lib.beNat (s.take 4)
      · rw [if_pos h3] at h; simp at h
      · rw [if_neg h3] at h hl ⊢
        by_cases h4 : Lib.beNat ((s.drop 4).take 4) ≠ sumF (s.take 4 ++ (s.drop 8).take (Lib.beNat (s.take 4)))
        · rw [if_pos h4] at h; simp at h
        · rw [if_neg h4] at hl ⊢
          have h5 : Lib.beNat ((s.drop 4).take 4) = sumF (s.take 4 ++ (s.drop 8).take (Lib.beNat (s.take 4))) := Decidable.not_not.1 h4
          simp only at hl ⊢
          have hb : ((s.drop 8).take (Lib.beNat (s.take 4))).length = Lib.beNat (s.take 4) := by rw [List.length_take, List.length_drop]; omega
          have e1 : lenB ((s.drop 8).take (Lib.beNat (s.take 4))) = s.take 4 := by
            unfold lenB
            rw [hb]
            exact beBytes_beNat 4 (s.take 4) (by rw [List.length_take]; omega)
          have e2 : sumB ((s.drop 8).take (Lib.beNat (s.take 4))) = (s.drop 4).take 4 := by
            unfold sumB
            rw [e1, ← h5]
            exact beBytes_beNat 4 ((s.drop 4).take 4) (by rw [List.length_take, List.length_drop]; omega)
          unfold frameB
          rw [e1, e2]
          have e3 : (s.drop 8).take (Lib.beNat (s.take 4)) = s.drop 8 := List.take_of_length_le (by rw [List.length_drop]; omega)
          rw [e3]
          have e4 : (s.drop 4).take 4 ++ s.drop 8 = s.drop 4 := by
            have := List.take_append_drop 4 (s.drop 4)
            rw [List.drop_drop] at this
            exact this
          rw [e4]
          exact List.take_append_drop 4 s
theorem decL_back {s : List UInt8} (h : (decL s).2 = 0) : (decL s).1.rightP ∧ oneL (decL s).1 = s := by
  unfold decL at *
  by_cases h1 : (takeF s).2.2 ≠ 0
  · rw [if_pos h1] at h; exact absurd h h1
  · rw [if_neg h1] at h ⊢
    by_cases h2 : (takeF s).2.1 ≠ s.length
    · rw [if_pos h2] at h; cases h
    · rw [if_neg h2] at h ⊢
      cases hr : readL (takeF s).1 with
      | none => rw [hr] at h; cases h
      | some f =>
        simp only
        refine ⟨readL_right hr, ?_⟩
        unfold oneL
        rw [readL_back hr]
        exact takeF_whole s (Decidable.not_not.1 h1) (Decidable.not_not.1 h2)
end Go.Proofs.YtodfdblgkpjchaaDoor
