/-
  A view's code on lists: written, read.
-/
import Derived.Test.YtjnbfopipmglgaaZGA
import Derived.Test.YtjnbfopipmglgaaZHA
namespace Go.Proofs.Ytjnbfopipmglgaa

def memItems (m : MB) : List K.It := [⟨1, m.node, ⟨#[]⟩⟩, ⟨3, m.life, ⟨#[]⟩⟩]
def itemsV (v : VW) : List K.It := ⟨3, v.num, ⟨#[]⟩⟩ :: v.mem.flatMap memItems
def codeV (v : VW) : List UInt8 := (itemsV v).flatMap K.itemB
def pairsOf : List K.It → List MB
  | a :: b :: l => ⟨a.n, b.n⟩ :: pairsOf l
  | _ => []
def viewOf : List K.It → VW
  | a :: l => ⟨a.n, pairsOf l⟩
  | [] => ⟨0, []⟩
def shapeV : List UInt8 := [108, 42, 98, 108]
/-- Decode: the view, the fault. -/
def decV (s : List UInt8) : VW × Int :=
  if (K.decF shapeV s).2 ≠ 0 then (⟨0, []⟩, (K.decF shapeV s).2) else if (viewOf (K.decF shapeV s).1).right then (viewOf (K.decF shapeV s).1, 0) else (⟨0, []⟩, 10)
theorem pairs_items (L : List MB) : pairsOf (L.flatMap memItems) = L := by
  induction L with
  | nil => rfl
  | cons m L ih => show ⟨m.node, m.life⟩ :: pairsOf (L.flatMap memItems) = m :: L; rw [ih]
theorem view_items (v : VW) : viewOf (itemsV v) = v := by
  show VW.mk v.num (pairsOf (v.mem.flatMap memItems)) = v
  rw [pairs_items]
theorem mem_right {v : VW} (h : v.right) : ∀ m ∈ v.mem, m.right := (ok_rise h.2.2.2.2).2
theorem fault_num {k : Int} {n : Int} (hk : k = 1 ∨ k = 3) (_h0 : 0 ≤ n) (h1 : n < 256 ^ K.widthN k) : K.faultF ⟨k, n, ⟨#[]⟩⟩ = 0 := by
  have k3 : K.kindB 3 = true := by decide
  have k1 : K.kindB 1 = true := by decide
  have z0 : (⟨#[]⟩ : ByteArray).size = 0 := rfl
  unfold K.faultF
  rcases hk with rfl | rfl
  · simp only [k1, z0]
    simp
    omega
  · simp only [k3, z0]
    simp
    omega
theorem itemsV_fault {v : VW} (h : v.right) : ∀ x ∈ itemsV v, K.faultF x = 0 ∧ 0 ≤ x.n := by
  have w3 : (256 : Int) ^ K.widthN 3 = 18446744073709551616 := by decide
  have w1 : (256 : Int) ^ K.widthN 1 = 256 := by decide
  have hbig : big = 9007199254740991 := rfl
  intro x hx
  rcases List.mem_cons.1 hx with rfl | hx
  · have h1 := h.1
    have h2 := h.2.1
    exact ⟨fault_num (.inr rfl) (by omega) (by rw [w3]; omega), by show 0 ≤ v.num; omega⟩
  · obtain ⟨m, hm, hx⟩ := List.mem_flatMap.1 hx
    obtain ⟨r1, r2, r3, r4⟩ := mem_right h m hm
    simp only [memItems, List.mem_cons, List.not_mem_nil, or_false] at hx
    rcases hx with rfl | rfl
    · exact ⟨fault_num (.inl rfl) r1 (by rw [w1]; omega), r1⟩
    · exact ⟨fault_num (.inr rfl) (by omega) (by rw [w3]; omega), by show 0 ≤ m.life; omega⟩
theorem itemsV_len (v : VW) : (itemsV v).length = 1 + 2 * v.mem.length := by
  unfold itemsV
  rw [List.length_cons]
  have : (v.mem.flatMap memItems).length = 2 * v.mem.length := by
    induction v.mem with
    | nil => rfl
    | cons m L ih => rw [List.flatMap_cons, List.length_append, ih, List.length_cons]; simp only [memItems, List.length_cons, List.length_nil]; omega
  omega
theorem encV {v : VW} (h : v.right) : K.encF (itemsV v) = (codeV v, 0) := by
  have hl := h.2.2.2.1
  unfold K.encF
  rw [if_neg (by rw [itemsV_len]; omega), if_pos ((K.firstFault_zero _).2 fun x hx => (itemsV_fault h x hx).1)]
  rfl
theorem shapeV_items (L : List MB) : (L.flatMap memItems).map (fun x => K.letterF x.k) = Lib.repeatL [98, 108] L.length := by
  induction L with
  | nil => rfl
  | cons m L ih =>
    rw [List.flatMap_cons, List.map_append, ih]
    rfl
theorem decV_code {v : VW} (h : v.right) : decV (codeV v) = (v, 0) := by
  have he := encV h
  have hb := K.back_pure (itemsV v) (by rw [he]) fun x hx => (itemsV_fault h x hx).2
  have hs : (K.shapeF (itemsV v)).1 = [108] ++ Lib.repeatL [98, 108] v.mem.length := by
    rw [K.shapeF_ok _ fun x hx => K.fault_kind x (itemsV_fault h x hx).1]
    show K.letterF 3 :: (v.mem.flatMap memItems).map (fun x => K.letterF x.k) = _
    rw [shapeV_items]
    rfl
  have hd : K.decF ([108] ++ Lib.repeatL [98, 108] v.mem.length) (codeV v) = (itemsV v, 0) := by
    have := hb.2
    rw [he, hs] at this
    exact this
  have hstar := K.star_pure [108] [98, 108] (codeV v) v.mem.length (by decide) (by decide) (by decide) (by decide) (by rw [hd])
  have hd2 : K.decF shapeV (codeV v) = (itemsV v, 0) := hstar.trans hd
  unfold decV
  rw [hd2, if_neg (fun e => e rfl)]
  show (if (viewOf (itemsV v)).right then (viewOf (itemsV v), (0 : Int)) else _) = _
  rw [view_items, if_pos h]
/-- What letters the items that are read have. -/
theorem readF_kinds (G : List UInt8) (hG : K.allL G = true) (f : Nat) : ∀ (m : Nat) (todo rest : List UInt8), K.allL todo = true → (K.readF f G m todo rest).2 = 0 → 2 * rest.length + (if todo = [] then 1 else 0) < f → ∃ k, (K.readF f G m todo rest).1.map (fun x => K.letterF x.k) = todo ++ Lib.repeatL G k := by
  induction f with
  | zero => intro m todo rest _ _ hf; omega
  | succ f ih =>
    intro m todo rest ht h hf
    cases todo with
    | nil =>
      rw [K.readF] at h ⊢
      by_cases h1 : rest = []
      · rw [if_pos h1]
        exact ⟨0, rfl⟩
      · rw [if_neg h1] at h ⊢
        by_cases h2 : G = []
        · rw [if_pos h2] at h; simp at h
        · rw [if_neg h2] at h ⊢
          rw [if_pos rfl] at hf
          obtain ⟨k, hk⟩ := ih m G rest hG h (by rw [if_neg h2]; omega)
          exact ⟨k + 1, by rw [hk]; rfl⟩
    | cons c t =>
      obtain ⟨hc, ht⟩ := K.allL_cons c t ht
      rw [K.readF] at h ⊢
      by_cases h1 : m = 1000
      · rw [if_pos h1] at h; simp at h
      · rw [if_neg h1] at h ⊢
        by_cases h2 : (K.itemF c rest).2.2 = 0
        · rw [if_pos h2] at h ⊢
          by_cases h3 : (K.readF f G (m + 1) t (K.itemF c rest).2.1).2 = 0
          · rw [if_pos h3]
            have hl := K.itemF_less' c rest hc h2
            rw [if_neg (by simp)] at hf
            obtain ⟨k, hk⟩ := ih (m + 1) t (K.itemF c rest).2.1 ht h3 (by split <;> omega)
            obtain ⟨_, _, _, e4⟩ := K.itemF_inv c rest hc h2
            refine ⟨k, ?_⟩
            show K.letterF (K.itemF c rest).1.k :: _ = c :: (t ++ _)
            rw [hk]
            congr 1
          · rw [if_neg h3] at h; exact absurd h h3
        · rw [if_neg h2] at h; exact absurd h h2
theorem item_num {x : K.It} (h : K.faultF x = 0) {c : UInt8} (hc : K.letterF x.k = c) (hc2 : c = 98 ∨ c = 108) : x = ⟨if c = 98 then 1 else 3, x.n, ⟨#[]⟩⟩ := by
  have hk := K.kind_cases x.k (K.fault_kind x h)
  have hs := K.fault_shape x h
  obtain ⟨k, n, s⟩ := x
  simp only at hk hs hc ⊢
  have hk3 : k = (if c = 98 then 1 else 3) ∧ k ≠ 4 := by
    rcases hk with rfl | rfl | rfl | rfl
    · subst hc; exact ⟨by decide, by decide⟩
    · subst hc; exact absurd hc2 (by decide)
    · subst hc; exact ⟨by decide, by decide⟩
    · subst hc; exact absurd hc2 (by decide)
  rcases hs with ⟨_, e, _⟩ | ⟨e, _⟩
  · rw [K.mk_empty s e, ← hk3.1]
  · exact absurd e hk3.2
theorem items_pairs (l : List K.It) (hf : ∀ x ∈ l, K.faultF x = 0) : ∀ k, l.map (fun x => K.letterF x.k) = Lib.repeatL [98, 108] k → (pairsOf l).flatMap memItems = l := by
  intro k
  induction k generalizing l with
  | zero =>
    intro h
    have e : l = [] := List.map_eq_nil_iff.1 h
    rw [e]
    rfl
  | succ k ih =>
    intro h
    match l, h, hf with
    | [], h, _ => simp [Lib.repeatL] at h
    | [a], h, _ => simp [Lib.repeatL] at h
    | a :: b :: l, h, hf =>
      have h2 : K.letterF a.k :: K.letterF b.k :: l.map (fun x => K.letterF x.k) = 98 :: 108 :: Lib.repeatL [98, 108] k := h
      injection h2 with e1 h2
      injection h2 with e2 h2
      have ha := item_num (hf a (by simp)) e1 (.inl rfl)
      have hb := item_num (hf b (by simp)) e2 (.inr rfl)
      show memItems ⟨a.n, b.n⟩ ++ (pairsOf l).flatMap memItems = _
      rw [ih l (fun x hx => hf x (by simp [hx])) h2]
      simp only [memItems]
      rw [show (⟨1, a.n, ⟨#[]⟩⟩ : K.It) = a from ha.symm, show (⟨3, b.n, ⟨#[]⟩⟩ : K.It) = b from hb.symm]
      rfl
/-- What is read is what was written. -/
theorem decF_view {s : List UInt8} (h : (K.decF shapeV s).2 = 0) : itemsV (viewOf (K.decF shapeV s).1) = (K.decF shapeV s).1 ∧ codeV (viewOf (K.decF shapeV s).1) = s ∧ (∀ x ∈ (K.decF shapeV s).1, x.ok) ∧ (K.decF shapeV s).1.length ≤ 1000 ∧ ∃ a l, (K.decF shapeV s).1 = a :: l := by
  obtain ⟨h1, h2, h3⟩ := K.again_pure shapeV s h
  have hf := (K.encF_zero _ (by rw [h1])).2.1
  have hs : K.shapeOk shapeV = true := by decide
  have hc : K.cutStar shapeV = ([108], [98, 108], true) := by decide
  have hd : K.decF shapeV s = K.readF (2 * s.length + 2) [98, 108] 0 [108] s := by
    unfold K.decF
    rw [if_pos hs, hc]
  obtain ⟨k, hk⟩ := readF_kinds [98, 108] (by decide) (2 * s.length + 2) 0 [108] s (by decide) (by rw [← hd]; exact h) (by simp)
  rw [← hd] at hk
  generalize (K.decF shapeV s).1 = its at *
  cases its with
  | nil => simp at hk
  | cons a l =>
    have hk2 : K.letterF a.k :: l.map (fun x => K.letterF x.k) = 108 :: Lib.repeatL [98, 108] k := hk
    injection hk2 with e1 e2
    have ha := item_num (hf a (by simp)) e1 (.inr rfl)
    have e3 := items_pairs l (fun x hx => hf x (by simp [hx])) k e2
    have e4 : itemsV (viewOf (a :: l)) = a :: l := by
      show (⟨3, a.n, ⟨#[]⟩⟩ : K.It) :: (pairsOf l).flatMap memItems = a :: l
      rw [e3]
      congr 1
      exact ha.symm
    refine ⟨e4, ?_, h2, h3, a, l, rfl⟩
    unfold codeV
    rw [e4]
    have := (K.encF_zero _ (by rw [h1])).2.2
    rw [h1] at this
    exact (congrArg Prod.fst this).symm
theorem decV_back {s : List UInt8} (h : (decV s).2 = 0) : (decV s).1.right ∧ codeV (decV s).1 = s := by
  unfold decV at h ⊢
  by_cases h1 : (K.decF shapeV s).2 = 0
  · rw [if_neg (fun e => e h1)] at h ⊢
    by_cases h2 : (viewOf (K.decF shapeV s).1).right
    · rw [if_pos h2]
      exact ⟨h2, (decF_view h1).2.1⟩
    · rw [if_neg h2] at h
      cases h
  · rw [if_pos h1] at h
    exact absurd h h1
theorem decV_none {s : List UInt8} (h : (decV s).2 ≠ 0) : (decV s).1 = ⟨0, []⟩ := by
  unfold decV at h ⊢
  split
  · rfl
  · rename_i c
    rw [if_neg c] at h
    split
    · rename_i c2
      rw [if_pos c2] at h
      exact absurd rfl h
    · rfl
end Go.Proofs.Ytjnbfopipmglgaa
