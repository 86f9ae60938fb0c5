/-
  carillonref12's Encode: its regions (mkve.py).
-/
import Derived.Test.YtfcpclpaalekiaaZKPure4
import Derived.Lib.Repeat
import Derived.Test.YtfcpclpaalekiaaZFH
import Derived.Test.YtfcpclpaalekiaaProg
namespace Go.Proofs.Ytfcpclpaalekiaa.K
theorem indexByte_hit (A G : List UInt8) (c : UInt8) (h : ∀ x ∈ A, x ≠ c) : Lib.indexByte (A ++ c :: G) c = A.length := by
  induction A with
  | nil => simp [Lib.indexByte]
  | cons b A ih =>
    have h1 : (b == c) = false := by simpa using h b (by simp)
    have h2 := ih fun x hx => h x (by simp [hx])
    rw [List.cons_append]
    simp only [Lib.indexByte, h1, h2]
    have h3 : ((A.length : Int) == -1) = false := by rw [beq_eq_false_iff_ne]; omega
    simp [h3]
theorem cutStar_hit (A G : List UInt8) (h : ∀ x ∈ A, x ≠ 42) : cutStar (A ++ 42 :: G) = (A, G, true) := by
  unfold cutStar
  rw [indexByte_hit A G 42 h, if_neg (by omega)]
  simp
theorem itemF_nil (c : UInt8) : (itemF c []).2.2 = 2 := by
  unfold itemF
  have : 1 ≤ widthN (kindOfL c) := by
    unfold widthN
    split
    · omega
    · split <;> omega
  rw [if_pos (by simp; omega)]
theorem star_read (G : List UInt8) (hG : G ≠ []) (hGl : allL G = true) (f' : Nat) : ∀ (f m k : Nat) (todo rest : List UInt8), allL todo = true →
    2 * rest.length + 1 < f → 2 * rest.length + (if todo = [] then 1 else 0) < f' → (readF f [] m (todo ++ Lib.repeatL G k) rest).2 = 0 →
    readF f' G m todo rest = readF f [] m (todo ++ Lib.repeatL G k) rest := by
  induction f' with
  | zero => intro f m k todo rest _ _ h; omega
  | succ f' ih =>
    intro f m k todo rest ht hf hf' h
    obtain ⟨g, rfl⟩ : ∃ g, f = g + 1 := ⟨f - 1, by omega⟩
    cases todo with
    | cons c t =>
      obtain ⟨hc, ht⟩ := allL_cons c t ht
      rw [List.cons_append] at h ⊢
      rw [readF] at h ⊢
      rw [readF]
      by_cases h1 : m = 1000
      · rw [if_pos h1] at h; simp at h
      · rw [if_neg h1] at h ⊢
        rw [if_neg h1]
        by_cases h2 : (itemF c rest).2.2 = 0
        · rw [if_pos h2] at h ⊢
          rw [if_pos h2]
          have hl := itemF_less' c rest hc h2
          rw [if_neg (by simp)] at hf'
          by_cases h3 : (readF g [] (m + 1) (t ++ Lib.repeatL G k) (itemF c rest).2.1).2 = 0
          · have e := ih g (m + 1) k t (itemF c rest).2.1 ht (by omega) (by split <;> omega) h3
            rw [e]
          · rw [if_neg h3] at h; exact absurd h h3
        · rw [if_neg h2] at h; exact absurd h h2
    | nil =>
      rw [if_pos rfl] at hf'
      rw [List.nil_append] at h ⊢
      cases k with
      | zero =>
        show readF (f' + 1) G m [] rest = readF (g + 1) [] m [] rest
        have h' : (readF (g + 1) [] m [] rest).2 = 0 := h
        rw [readF] at h' ⊢
        rw [readF]
        by_cases h1 : rest = []
        · rw [if_pos h1, if_pos h1]
        · rw [if_neg h1, if_pos rfl] at h'; simp at h'
      | succ k =>
        have e : Lib.repeatL G (k + 1) = G ++ Lib.repeatL G k := rfl
        rw [e] at h ⊢
        rw [readF]
        by_cases h1 : rest = []
        · subst h1
          obtain ⟨c, t, hct⟩ : ∃ c t, G = c :: t := by
            cases G with
            | nil => exact absurd rfl hG
            | cons c t => exact ⟨c, t, rfl⟩
          rw [hct, List.cons_append, readF] at h
          by_cases h2 : m = 1000
          · rw [if_pos h2] at h; simp at h
          · rw [if_neg h2, if_neg (by rw [itemF_nil]; decide)] at h
            exact absurd h (by rw [itemF_nil]; decide)
        · rw [if_neg h1, if_neg hG]
          exact ih (g + 1) m k G rest hGl hf (by rw [if_neg hG]; omega) h
theorem allL_append' (a b : List UInt8) : allL (a ++ b) = (allL a && allL b) := by simp [allL]
theorem repeatL_star (G : List UInt8) (k : Nat) (h : ∀ x ∈ G, x ≠ 42) : ∀ x ∈ Lib.repeatL G k, x ≠ 42 := by
  induction k with
  | zero => simp [Lib.repeatL]
  | succ k ih =>
    intro x hx
    have e : Lib.repeatL G (k + 1) = G ++ Lib.repeatL G k := rfl
    rw [e] at hx
    rcases List.mem_append.1 hx with hx | hx
    · exact h x hx
    · exact ih x hx
theorem star_pure (A G s : List UInt8) (k : Nat) (hA : ∀ x ∈ A, x ≠ 42) (hG : ∀ x ∈ G, x ≠ 42) (hne : G ≠ []) (hno : (decF G []).2 ≠ 1) (h : (decF (A ++ Lib.repeatL G k) s).2 = 0) :
    decF (A ++ 42 :: G) s = decF (A ++ Lib.repeatL G k) s := by
  have hGl : allL G = true := by
    unfold decF at hno
    by_cases h1 : shapeOk G = true
    · have := (shapeOk_parts G h1).1
      rwa [cutStar_letters G hG] at this
    · rw [if_neg h1] at hno; exact absurd rfl hno
  have hAll : ∀ x ∈ A ++ Lib.repeatL G k, x ≠ 42 := by
    intro x hx
    rcases List.mem_append.1 hx with hx | hx
    · exact hA x hx
    · exact repeatL_star G k hG x hx
  unfold decF at h ⊢
  by_cases h1 : shapeOk (A ++ Lib.repeatL G k) = true
  · rw [if_pos h1] at h ⊢
    have hl := (shapeOk_parts _ h1).1
    rw [cutStar_letters _ hAll] at hl h ⊢
    have hAl : allL A = true := by
      rw [allL_append'] at hl
      simp at hl
      exact hl.1
    have h2 : shapeOk (A ++ 42 :: G) = true := by
      unfold shapeOk
      rw [cutStar_hit A G hA]
      have e : G.isEmpty = false := by cases G with
        | nil => exact absurd rfl hne
        | cons c t => rfl
      simp [hAl, hGl, e]
    rw [if_pos h2, cutStar_hit A G hA]
    exact star_read G hne hGl (2 * s.length + 2) (2 * s.length + 2) 0 k A s hAl (by omega) (by split <;> omega) h
  · rw [if_neg h1] at h; simp at h
end Go.Proofs.Ytfcpclpaalekiaa.K
namespace Go.Proofs.Ytfcpclpaalekiaa
def memItems (m : MB) : List K.It := [⟨1, m.node, ⟨#[]⟩⟩, ⟨3, m.life, ⟨#[]⟩⟩]
def itemsV (v : VW) : List K.It := ⟨3, v.num, ⟨#[]⟩⟩ :: v.mem.flatMap memItems
def codeV (v : VW) : List UInt8 := (itemsV v).flatMap K.itemB
def pairsOf : List K.It → List MB
  | a :: b :: l => ⟨a.n, b.n⟩ :: pairsOf l
  | _ => []
def viewOf : List K.It → VW
  | a :: l => ⟨a.n, pairsOf l⟩
  | [] => ⟨0, []⟩
def shapeV : List UInt8 := [108, 42, 98, 108]
def decV (s : List UInt8) : VW × Int :=
  if (K.decF shapeV s).2 ≠ 0 then (⟨0, []⟩, (K.decF shapeV s).2) else if (viewOf (K.decF shapeV s).1).right then (viewOf (K.decF shapeV s).1, 0) else (⟨0, []⟩, 10)
theorem pairs_items (L : List MB) : pairsOf (L.flatMap memItems) = L := by
  induction L with
  | nil => rfl
  | cons m L ih => show ⟨m.node, m.life⟩ :: pairsOf (L.flatMap memItems) = m :: L; rw [ih]
theorem view_items (v : VW) : viewOf (itemsV v) = v := by
  show VW.mk v.num (pairsOf (v.mem.flatMap memItems)) = v
  rw [pairs_items]
theorem mem_right {v : VW} (h : v.right) : ∀ m ∈ v.mem, m.right := (ok_rise h.2.2.2.2).2
theorem fault_num {k : Int} {n : Int} (hk : k = 1 ∨ k = 3) (_h0 : 0 ≤ n) (h1 : n < 256 ^ K.widthN k) : K.faultF ⟨k, n, ⟨#[]⟩⟩ = 0 := by
  have k3 : K.kindB 3 = true := by decide
  have k1 : K.kindB 1 = true := by decide
  have z0 : (⟨#[]⟩ : ByteArray).size = 0 := rfl
  unfold K.faultF
  rcases hk with rfl | rfl
  · simp only [k1, z0]
    simp
    omega
  · simp only [k3, z0]
    simp
    omega
theorem itemsV_fault {v : VW} (h : v.right) : ∀ x ∈ itemsV v, K.faultF x = 0 ∧ 0 ≤ x.n := by
  have w3 : (256 : Int) ^ K.widthN 3 = 18446744073709551616 := by decide
  have w1 : (256 : Int) ^ K.widthN 1 = 256 := by decide
  have hbig : big = 9007199254740991 := rfl
  intro x hx
  rcases List.mem_cons.1 hx with rfl | hx
  · have h1 := h.1
    have h2 := h.2.1
    exact ⟨fault_num (.inr rfl) (by omega) (by rw [w3]; omega), by show 0 ≤ v.num; omega⟩
  · obtain ⟨m, hm, hx⟩ := List.mem_flatMap.1 hx
    obtain ⟨r1, r2, r3, r4⟩ := mem_right h m hm
    simp only [memItems, List.mem_cons, List.not_mem_nil, or_false] at hx
    rcases hx with rfl | rfl
    · exact ⟨fault_num (.inl rfl) r1 (by rw [w1]; omega), r1⟩
    · exact ⟨fault_num (.inr rfl) (by omega) (by rw [w3]; omega), by show 0 ≤ m.life; omega⟩
theorem itemsV_len (v : VW) : (itemsV v).length = 1 + 2 * v.mem.length := by
  unfold itemsV
  rw [List.length_cons]
  have : (v.mem.flatMap memItems).length = 2 * v.mem.length := by
    induction v.mem with
    | nil => rfl
    | cons m L ih => rw [List.flatMap_cons, List.length_append, ih, List.length_cons]; simp only [memItems, List.length_cons, List.length_nil]; omega
  omega
theorem encV {v : VW} (h : v.right) : K.encF (itemsV v) = (codeV v, 0) := by
  have hl := h.2.2.2.1
  unfold K.encF
  rw [if_neg (by rw [itemsV_len]; omega), if_pos ((K.firstFault_zero _).2 fun x hx => (itemsV_fault h x hx).1)]
  rfl
theorem shapeV_items (L : List MB) : (L.flatMap memItems).map (fun x => K.letterF x.k) = Lib.repeatL [98, 108] L.length := by
  induction L with
  | nil => rfl
  | cons m L ih =>
    rw [List.flatMap_cons, List.map_append, ih]
    rfl
theorem decV_code {v : VW} (h : v.right) : decV (codeV v) = (v, 0) := by
  have he := encV h
  have hb := K.back_pure (itemsV v) (by rw [he]) fun x hx => (itemsV_fault h x hx).2
  have hs : (K.shapeF (itemsV v)).1 = [108] ++ Lib.repeatL [98, 108] v.mem.length := by
    rw [K.shapeF_ok _ fun x hx => K.fault_kind x (itemsV_fault h x hx).1]
    show K.letterF 3 :: (v.mem.flatMap memItems).map (fun x => K.letterF x.k) = _
    rw [shapeV_items]
    rfl
  have hd : K.decF ([108] ++ Lib.repeatL [98, 108] v.mem.length) (codeV v) = (itemsV v, 0) := by
    have := hb.2
    rw [he, hs] at this
    exact this
  have hstar := K.star_pure [108] [98, 108] (codeV v) v.mem.length (by decide) (by decide) (by decide) (by decide) (by rw [hd])
  have hd2 : K.decF shapeV (codeV v) = (itemsV v, 0) := hstar.trans hd
  unfold decV
  rw [hd2, if_neg (fun e => e rfl)]
  show (if (viewOf (itemsV v)).right then (viewOf (itemsV v), (0 : Int)) else _) = _
  rw [view_items, if_pos h]
theorem readF_kinds (G : List UInt8) (hG : K.allL G = true) (f : Nat) : ∀ (m : Nat) (todo rest : List UInt8), K.allL todo = true → (K.readF f G m todo rest).2 = 0 → 2 * rest.length + (if todo = [] then 1 else 0) < f → ∃ k, (K.readF f G m todo rest).1.map (fun x => K.letterF x.k) = todo ++ Lib.repeatL G k := by
  induction f with
  | zero => intro m todo rest _ _ hf; omega
  | succ f ih =>
    intro m todo rest ht h hf
    cases todo with
    | nil =>
      rw [K.readF] at h ⊢
      by_cases h1 : rest = []
      · rw [if_pos h1]
        exact ⟨0, rfl⟩
      · rw [if_neg h1] at h ⊢
        by_cases h2 : G = []
        · rw [if_pos h2] at h; simp at h
        · rw [if_neg h2] at h ⊢
          rw [if_pos rfl] at hf
          obtain ⟨k, hk⟩ := ih m G rest hG h (by rw [if_neg h2]; omega)
          exact ⟨k + 1, by rw [hk]; rfl⟩
    | cons c t =>
      obtain ⟨hc, ht⟩ := K.allL_cons c t ht
      rw [K.readF] at h ⊢
      by_cases h1 : m = 1000
      · rw [if_pos h1] at h; simp at h
      · rw [if_neg h1] at h ⊢
        by_cases h2 : (K.itemF c rest).2.2 = 0
        · rw [if_pos h2] at h ⊢
          by_cases h3 : (K.readF f G (m + 1) t (K.itemF c rest).2.1).2 = 0
          · rw [if_pos h3]
            have hl := K.itemF_less' c rest hc h2
            rw [if_neg (by simp)] at hf
            obtain ⟨k, hk⟩ := ih (m + 1) t (K.itemF c rest).2.1 ht h3 (by split <;> omega)
            obtain ⟨_, _, _, e4⟩ := K.itemF_inv c rest hc h2
            refine ⟨k, ?_⟩
            show K.letterF (K.itemF c rest).1.k :: _ = c :: (t ++ _)
            rw [hk]
            congr 1
          · rw [if_neg h3] at h; exact absurd h h3
        · rw [if_neg h2] at h; exact absurd h h2
theorem item_num {x : K.It} (h : K.faultF x = 0) {c : UInt8} (hc : K.letterF x.k = c) (hc2 : c = 98 ∨ c = 108) : x = ⟨if c = 98 then 1 else 3, x.n, ⟨#[]⟩⟩ := by
  have hk := K.kind_cases x.k (K.fault_kind x h)
  have hs := K.fault_shape x h
  obtain ⟨k, n, s⟩ := x
  simp only at hk hs hc ⊢
  have hk3 : k = (if c = 98 then 1 else 3) ∧ k ≠ 4 := by
    rcases hk with rfl | rfl | rfl | rfl
    · subst hc; exact ⟨by decide, by decide⟩
    · subst hc; exact absurd hc2 (by decide)
    · subst hc; exact ⟨by decide, by decide⟩
    · subst hc; exact absurd hc2 (by decide)
  rcases hs with ⟨_, e, _⟩ | ⟨e, _⟩
  · rw [K.mk_empty s e, ← hk3.1]
  · exact absurd e hk3.2
theorem items_pairs (l : List K.It) (hf : ∀ x ∈ l, K.faultF x = 0) : ∀ k, l.map (fun x => K.letterF x.k) = Lib.repeatL [98, 108] k → (pairsOf l).flatMap memItems = l := by
  intro k
  induction k generalizing l with
  | zero =>
    intro h
    have e : l = [] := List.map_eq_nil_iff.1 h
    rw [e]
    rfl
  | succ k ih =>
    intro h
    match l, h, hf with
    | [], h, _ => simp [Lib.repeatL] at h
    | [a], h, _ => simp [Lib.repeatL] at h
    | a :: b :: l, h, hf =>
      have h2 : K.letterF a.k :: K.letterF b.k :: l.map (fun x => K.letterF x.k) = 98 :: 108 :: Lib.repeatL [98, 108] k := h
      injection h2 with e1 h2
      injection h2 with e2 h2
      have ha := item_num (hf a (by simp)) e1 (.inl rfl)
      have hb := item_num (hf b (by simp)) e2 (.inr rfl)
      show memItems ⟨a.n, b.n⟩ ++ (pairsOf l).flatMap memItems = _
      rw [ih l (fun x hx => hf x (by simp [hx])) h2]
      simp only [memItems]
      rw [show (⟨1, a.n, ⟨#[]⟩⟩ : K.It) = a from ha.symm, show (⟨3, b.n, ⟨#[]⟩⟩ : K.It) = b from hb.symm]
      rfl
theorem decF_view {s : List UInt8} (h : (K.decF shapeV s).2 = 0) : itemsV (viewOf (K.decF shapeV s).1) = (K.decF shapeV s).1 ∧ codeV (viewOf (K.decF shapeV s).1) = s ∧ (∀ x ∈ (K.decF shapeV s).1, x.ok) ∧ (K.decF shapeV s).1.length ≤ 1000 ∧ ∃ a l, (K.decF shapeV s).1 = a :: l := by
  obtain ⟨h1, h2, h3⟩ := K.again_pure shapeV s h
  have hf := (K.encF_zero _ (by rw [h1])).2.1
  have hs : K.shapeOk shapeV = true := by decide
  have hc : K.cutStar shapeV = ([108], [98, 108], true) := by decide
  have hd : K.decF shapeV s = K.readF (2 * s.length + 2) [98, 108] 0 [108] s := by
    unfold K.decF
    rw [if_pos hs, hc]
  obtain ⟨k, hk⟩ := readF_kinds [98, 108] (by decide) (2 * s.length + 2) 0 [108] s (by decide) (by rw [← hd]; exact h) (by simp)
  rw [← hd] at hk
  generalize (K.decF shapeV s).1 = its at *
  cases its with
  | nil => simp at hk
  | cons a l =>
    have hk2 : K.letterF a.k :: l.map (fun x => K.letterF x.k) = 108 :: Lib.repeatL [98, 108] k := hk
    injection hk2 with e1 e2
    have ha := item_num (hf a (by simp)) e1 (.inr rfl)
    have e3 := items_pairs l (fun x hx => hf x (by simp [hx])) k e2
    have e4 : itemsV (viewOf (a :: l)) = a :: l := by
      show (⟨3, a.n, ⟨#[]⟩⟩ : K.It) :: (pairsOf l).flatMap memItems = a :: l
      rw [e3]
      congr 1
      exact ha.symm
    refine ⟨e4, ?_, h2, h3, a, l, rfl⟩
    unfold codeV
    rw [e4]
    have := (K.encF_zero _ (by rw [h1])).2.2
    rw [h1] at this
    exact (congrArg Prod.fst this).symm
end Go.Proofs.Ytfcpclpaalekiaa
namespace Go.Proofs.Ytfcpclpaalekiaa
def txI (s : ByteArray) : K.It := ⟨4, 0, s⟩
def sizeF : List ByteArray → Nat
  | [] => 0
  | s :: l => 4 + s.size + sizeF l
theorem sizeF_append (a b : List ByteArray) : sizeF (a ++ b) = sizeF a + sizeF b := by
  induction a with
  | nil => show sizeF b = 0 + sizeF b; omega
  | cons x a ih => show 4 + x.size + sizeF (a ++ b) = 4 + x.size + sizeF a + sizeF b; rw [ih]; omega
theorem sizeF_mem {l : List ByteArray} {s : ByteArray} (h : s ∈ l) : 4 + s.size ≤ sizeF l := by
  induction l with
  | nil => cases h
  | cons x l ih =>
    show _ ≤ 4 + x.size + sizeF l
    rcases List.mem_cons.1 h with e | e
    · subst e; omega
    · have := ih e; omega
theorem sizeF_le (l : List ByteArray) (m : Nat) (h : ∀ s ∈ l, s.size ≤ m) : sizeF l ≤ l.length * (4 + m) := by
  induction l with
  | nil => exact Nat.zero_le _
  | cons x l ih =>
    show 4 + x.size + sizeF l ≤ (l.length + 1) * (4 + m)
    have h1 := ih fun s hs => h s (List.mem_cons_of_mem _ hs)
    have h2 := h x List.mem_cons_self
    rw [Nat.add_mul]
    omega
def headV (v : VW) : ByteArray := ⟨(codeV v).toArray⟩
def itemsL (v : VW) (log : List ByteArray) : List K.It := txI (headV v) :: log.map txI
def fitsL (v : VW) (log : List ByteArray) : Prop := log.length ≤ 990 ∧ sizeF (headV v :: log) ≤ 100000
instance (v : VW) (log : List ByteArray) : Decidable (fitsL v log) := inferInstanceAs (Decidable (_ ∧ _))
def encL (v : VW) (log : List ByteArray) : List UInt8 × Int := if v.right then (if fitsL v log then ((itemsL v log).flatMap K.itemB, 0) else ([], 3)) else ([], 1)
def shapeL : List UInt8 := [116, 42, 116]
def decL (s : List UInt8) : VW × List ByteArray × Int :=
  if (K.decF shapeL s).2 ≠ 0 then (⟨0, []⟩, [], (K.decF shapeL s).2)
  else if (decV ((K.decF shapeL s).1.headD K.It.zero).s.data.toList).2 = 0 ∧ (K.decF shapeL s).1.length ≤ 991 then ((decV ((K.decF shapeL s).1.headD K.It.zero).s.data.toList).1, (K.decF shapeL s).1.tail.map (·.s), 0)
  else (⟨0, []⟩, [], 10)
theorem txI_fault {s : ByteArray} (h : s.size ≤ 100000) : K.faultF (txI s) = 0 := by
  have k4 : K.kindB 4 = true := by decide
  unfold K.faultF txI
  simp only [k4]
  simp
  omega
theorem itemsL_fault {v : VW} {log : List ByteArray} (h : fitsL v log) : ∀ x ∈ itemsL v log, K.faultF x = 0 ∧ 0 ≤ x.n := by
  intro x hx
  have : ∃ s ∈ headV v :: log, x = txI s := by
    unfold itemsL at hx
    rcases List.mem_cons.1 hx with e | e
    · exact ⟨_, List.mem_cons_self, e⟩
    · obtain ⟨s, hs, rfl⟩ := List.mem_map.1 e
      exact ⟨s, List.mem_cons_of_mem _ hs, rfl⟩
  obtain ⟨s, hs, rfl⟩ := this
  exact ⟨txI_fault (by have := sizeF_mem hs; have := h.2; omega), Int.le_refl 0⟩
theorem encF_L {v : VW} {log : List ByteArray} (h : fitsL v log) : K.encF (itemsL v log) = ((itemsL v log).flatMap K.itemB, 0) := by
  have hl := h.1
  unfold K.encF
  rw [if_neg (by unfold itemsL; simp; omega), if_pos ((K.firstFault_zero _).2 fun x hx => (itemsL_fault h x hx).1)]
theorem repeat_t (l : List ByteArray) : (l.map txI).map (fun x => K.letterF x.k) = Lib.repeatL [116] l.length := by
  induction l with
  | nil => rfl
  | cons m L ih =>
    show K.letterF 4 :: (L.map txI).map (fun x => K.letterF x.k) = 116 :: Lib.repeatL [116] L.length
    rw [ih]
    rfl
theorem tail_log (l : List ByteArray) : (l.map txI).map (·.s) = l := by
  induction l with
  | nil => rfl
  | cons x l ih => show x :: (l.map txI).map (·.s) = x :: l; rw [ih]
theorem decL_code {v : VW} {log : List ByteArray} (hv : v.right) (h : fitsL v log) : decL ((itemsL v log).flatMap K.itemB) = (v, log, 0) := by
  have he := encF_L h
  have hb := K.back_pure (itemsL v log) (by rw [he]) fun x hx => (itemsL_fault h x hx).2
  have hs : (K.shapeF (itemsL v log)).1 = [116] ++ Lib.repeatL [116] log.length := by
    rw [K.shapeF_ok _ fun x hx => K.fault_kind x (itemsL_fault h x hx).1]
    show K.letterF 4 :: (log.map txI).map (fun x => K.letterF x.k) = _
    rw [repeat_t]
    rfl
  have hd : K.decF ([116] ++ Lib.repeatL [116] log.length) ((itemsL v log).flatMap K.itemB) = (itemsL v log, 0) := by
    have := hb.2
    rw [he, hs] at this
    exact this
  have hstar := K.star_pure [116] [116] ((itemsL v log).flatMap K.itemB) log.length (by decide) (by decide) (by decide) (by decide) (by rw [hd])
  have hd2 : K.decF shapeL ((itemsL v log).flatMap K.itemB) = (itemsL v log, 0) := hstar.trans hd
  have hc : (headV v).data.toList = codeV v := by simp [headV]
  have h1 := h.1
  unfold decL
  rw [hd2, if_neg (fun e => e rfl)]
  show (if (decV (headV v).data.toList).2 = 0 ∧ (log.map txI).length + 1 ≤ 991 then ((decV (headV v).data.toList).1, (log.map txI).map (·.s), (0 : Int)) else _) = _
  rw [hc, decV_code hv, if_pos ⟨rfl, by rw [List.length_map]; omega⟩, tail_log]
theorem decL_encL {v : VW} {log : List ByteArray} (h : (encL v log).2 = 0) : decL (encL v log).1 = (v, log, 0) ∧ v.right := by
  unfold encL at h ⊢
  by_cases h1 : v.right
  · rw [if_pos h1] at h ⊢
    by_cases h2 : fitsL v log
    · rw [if_pos h2]; exact ⟨decL_code h1 h2, h1⟩
    · rw [if_neg h2] at h; cases h
  · rw [if_neg h1] at h; cases h
theorem item_t {x : K.It} (h : K.faultF x = 0) (hc : K.letterF x.k = 116) : x = txI x.s := by
  have hk := K.kind_cases x.k (K.fault_kind x h)
  have hs := K.fault_shape x h
  obtain ⟨k, n, s⟩ := x
  simp only at hk hs hc ⊢
  have hk3 : k = 4 := by
    rcases hk with rfl | rfl | rfl | rfl
    · exact absurd hc (by decide)
    · exact absurd hc (by decide)
    · exact absurd hc (by decide)
    · rfl
  subst hk3
  have hn : n = 0 := by
    unfold K.faultF at h
    have k4 : K.kindB 4 = true := by decide
    simp only [k4] at h
    simp at h
    exact Decidable.byContradiction fun e => by rw [if_neg e] at h; cases h
  unfold txI
  rw [hn]
theorem items_t (l : List K.It) (hf : ∀ x ∈ l, K.faultF x = 0) : ∀ k, l.map (fun x => K.letterF x.k) = Lib.repeatL [116] k → (l.map (·.s)).map txI = l := by
  intro k
  induction k generalizing l with
  | zero =>
    intro h
    have e : l = [] := List.map_eq_nil_iff.1 h
    rw [e]
    rfl
  | succ k ih =>
    intro h
    match l, h, hf with
    | [], h, _ => simp [Lib.repeatL] at h
    | a :: l, h, hf =>
      have h2 : K.letterF a.k :: l.map (fun x => K.letterF x.k) = 116 :: Lib.repeatL [116] k := h
      injection h2 with e1 h2
      show txI a.s :: (l.map (·.s)).map txI = a :: l
      rw [ih l (fun x hx => hf x (by simp [hx])) h2, ← item_t (hf a (by simp)) e1]
theorem decF_L {s : List UInt8} (h : (K.decF shapeL s).2 = 0) : ∃ (x : ByteArray) (log : List ByteArray), (K.decF shapeL s).1 = txI x :: log.map txI ∧ (txI x :: log.map txI).flatMap K.itemB = s ∧ x.size ≤ 100000 ∧ (∀ y ∈ log, y.size ≤ 100000) ∧ log.length ≤ 999 := by
  obtain ⟨h1, h2, h3⟩ := K.again_pure shapeL s h
  have hf := (K.encF_zero _ (by rw [h1])).2.1
  have hs : K.shapeOk shapeL = true := by decide
  have hc : K.cutStar shapeL = ([116], [116], true) := by decide
  have hd : K.decF shapeL s = K.readF (2 * s.length + 2) [116] 0 [116] s := by
    unfold K.decF
    rw [if_pos hs, hc]
  obtain ⟨k, hk⟩ := readF_kinds [116] (by decide) (2 * s.length + 2) 0 [116] s (by decide) (by rw [← hd]; exact h) (by simp)
  rw [← hd] at hk
  have hfl := (K.encF_zero _ (by rw [h1])).2.2
  rw [h1] at hfl
  generalize (K.decF shapeL s).1 = its at *
  have e3 := items_t its hf (k + 1) (by rw [hk]; rfl)
  have h32 : ∀ y ∈ its.map (·.s), y.size ≤ 100000 := fun y hy => by
    obtain ⟨x, hx, rfl⟩ := List.mem_map.1 hy
    have := hf x hx
    unfold K.faultF at this
    split at this
    · cases this
    · split at this
      · cases this
      · split at this
        · cases this
        · split at this
          · cases this
          · omega
  cases its with
  | nil => simp at hk
  | cons a l =>
    have e4 : txI a.s :: (l.map (·.s)).map txI = a :: l := e3
    refine ⟨a.s, l.map (·.s), e4.symm, ?_, h32 _ (by simp), fun y hy => h32 y (by simp at hy ⊢; exact .inr hy), ?_⟩
    · rw [e4]; exact (congrArg Prod.fst hfl).symm
    · rw [List.length_map]; simp at h3; omega
end Go.Proofs.Ytfcpclpaalekiaa
namespace Go.Proofs.Ytfcpclpaalekiaa
open Go.RowKit
attribute [local go_sem ↓] Go.wp_at_zero Go.wp_at_succ
set_option linter.unusedSimpArgs false
set_option linter.unusedVariables false
end Go.Proofs.Ytfcpclpaalekiaa
namespace Go.Proofs.Ytfcpclpaalekiaa
open Go.RowKit
attribute [local go_sem ↓] Go.wp_at_zero Go.wp_at_succ
set_option linter.unusedSimpArgs false
set_option linter.unusedVariables false
structure Vvr where
  v1 : Value
  v2 : Value
  v3 : Value
  v4 : Value
structure Fvr (a : Act) (v : Vvr) : Prop where
  size : a.tmps.size = 60
  defers : a.defers = []
  s1 : a.tmps.getD 1 undef = v.v1
  s2 : a.tmps.getD 2 undef = v.v2
  s3 : a.tmps.getD 3 undef = v.v3
  s4 : a.tmps.getD 4 undef = v.v4
end Go.Proofs.Ytfcpclpaalekiaa
namespace Go.Proofs.Ytfcpclpaalekiaa
open Go.RowKit
attribute [local go_sem ↓] Go.wp_at_zero Go.wp_at_succ
set_option linter.unusedSimpArgs false
set_option linter.unusedVariables false
end Go.Proofs.Ytfcpclpaalekiaa
namespace Go.Proofs.Ytfcpclpaalekiaa
open Go.RowKit
attribute [local go_sem ↓] Go.wp_at_zero Go.wp_at_succ
set_option linter.unusedSimpArgs false
set_option linter.unusedVariables false
attribute [local go_sem ↓] Go.wp_at_zero Go.wp_at_succ
end Go.Proofs.Ytfcpclpaalekiaa
namespace Go.Proofs.Ytfcpclpaalekiaa
open Go.RowKit
attribute [local go_sem ↓] Go.wp_at_zero Go.wp_at_succ
set_option linter.unusedSimpArgs false
set_option linter.unusedVariables false
abbrev IT := K.It
abbrev tItem : TypeId := 66
theorem infoIt : (Try.prog.info? tItem).map (fun i => (i.zero, i.size, i.bytes)) = some (some (.agg #[.int .i64 0, .int .u64 0, .string ⟨#[]⟩]), 3, 32) := by kernel_rfl
theorem u64_wrap {n : Int} (h0 : 0 ≤ n) (h1 : n < 18446744073709551616) : IntKind.u64.wrap n = n := by
  simp only [IntKind.wrap, IntKind.bits, IntKind.signed]
  simp
  omega
def itCells (l : List K.It) : List Value := l.flatMap fun x => [.int .i64 x.k, .int .u64 x.n, .string x.s]
theorem itCells_append (a b : List K.It) : itCells (a ++ b) = itCells a ++ itCells b := by simp [itCells]
theorem itCells_get (L : List K.It) (i j : Nat) (hi : i < L.length) (hj : j < 3) : (itCells L)[i * 3 + j]? = [Value.int .i64 L[i].k, .int .u64 L[i].n, .string L[i].s][j]? := by
  induction L generalizing i with
  | nil => cases hi
  | cons a L ih =>
    have e : itCells (a :: L) = [Value.int .i64 a.k, .int .u64 a.n, .string a.s] ++ itCells L := rfl
    rw [e]
    cases i with
    | zero => rw [List.getElem?_append_left (by simp; omega)]; simp
    | succ i =>
      rw [List.getElem?_append_right (by simp; omega)]
      have := ih i (by simpa using hi)
      simp only [List.getElem_cons_succ]
      rw [← this]
      congr 1
      simp
      omega
def ItsAt (w : World) (ao : Option Addr) (l : List K.It) : Prop :=
  ∀ i (h : i < l.length), ∃ b off, ao = some ⟨b, off, none⟩ ∧ b < w.heap.size ∧ w.cell? ⟨b, off + i * 3, none⟩ = some (.int .i64 l[i].k) ∧ w.cell? ⟨b, off + i * 3 + 1, none⟩ = some (.int .u64 l[i].n) ∧ w.cell? ⟨b, off + i * 3 + 2, none⟩ = some (.string l[i].s)
theorem its_of_row {w : World} {B : Nat} {ao : Option Addr} {n cp : Nat} {L : List K.It} (h : w.ownsRow B tItem 3 (.slice ao n cp) n (itCells L)) (hn : L.length = n) : ItsAt w ao L := by
  subst hn
  intro i hi
  rcases h.2 with ⟨_, h2⟩ | ⟨g, cap, cur, hv, hg, hh, _⟩
  · omega
  · injection hv with h1 _ h3
    subst h1
    have hc := h.cells (g := g) rfl
    refine ⟨g, 0, rfl, heap_lt hh, ?_, ?_, ?_⟩
    · have := hc (i * 3) (.int .i64 L[i].k) (by rw [show i * 3 = i * 3 + 0 by omega, itCells_get L i 0 hi (by omega)]; rfl)
      rw [Addr.add_lit] at this
      simpa using this
    · have := hc (i * 3 + 1) (.int .u64 L[i].n) (by rw [itCells_get L i 1 hi (by omega)]; rfl)
      rw [Addr.add_lit] at this
      simpa using this
    · have := hc (i * 3 + 2) (.string L[i].s) (by rw [itCells_get L i 2 hi (by omega)]; rfl)
      rw [Addr.add_lit] at this
      simpa using this
structure Vve where
  v1 : Value
  v2 : Value
  v3 : Value
  v4 : Value
  v5 : Value
  v6 : Value
  v7 : Value
structure Fve (a : Act) (v : Vve) : Prop where
  size : a.tmps.size = 50
  defers : a.defers = []
  s1 : a.tmps.getD 1 undef = v.v1
  s2 : a.tmps.getD 2 undef = v.v2
  s3 : a.tmps.getD 3 undef = v.v3
  s4 : a.tmps.getD 4 undef = v.v4
  s5 : a.tmps.getD 5 undef = v.v5
  s6 : a.tmps.getD 6 undef = v.v6
  s7 : a.tmps.getD 7 undef = v.v7
end Go.Proofs.Ytfcpclpaalekiaa
