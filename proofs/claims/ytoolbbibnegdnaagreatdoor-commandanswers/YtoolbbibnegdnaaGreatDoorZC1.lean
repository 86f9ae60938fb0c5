/-
  Commands and replies on lists: right ones, their codes, written and read.
-/
import Derived.Test.YtoolbbibnegdnaaGreatDoorZGA
import Derived.Test.YtoolbbibnegdnaaGreatDoorZSeg1
namespace Go.Proofs.YtoolbbibnegdnaaGreatDoor

/-- A command. -/
structure CM where
  kind : Int
  topic : ByteArray
  name : ByteArray
  seq : Int
  key : ByteArray
  val : ByteArray
  n : Int
  node : Int
  ask : Int
def CM.zero : CM := ⟨0, ⟨#[]⟩, ⟨#[]⟩, 0, ⟨#[]⟩, ⟨#[]⟩, 0, 0, 0⟩
/-- A letter or digit; a word. -/
def letB (b : Nat) : Bool := (decide (97 ≤ b) && decide (b ≤ 122)) || (decide (48 ≤ b) && decide (b ≤ 57))
def wordL (l : List UInt8) : Bool := decide (1 ≤ l.length) && decide (l.length ≤ 20) && l.all fun b => letB b.toNat
def wordB (s : ByteArray) : Bool := wordL s.data.toList
def greatB (n : Int) : Bool := decide (0 ≤ n) && decide (n ≤ 9007199254740991)
def hasTopic (k : Int) : Bool := decide (1 ≤ k ∧ k ≤ 3) || decide (8 ≤ k ∧ k ≤ 9)
def hasName (k : Int) : Bool := decide (2 ≤ k ∧ k ≤ 7)
def textB (b : Bool) (s : ByteArray) : Bool := if b then wordB s else s.size == 0
/-- A Seq, a Key, a Value of a kind; its N. -/
def seqB (k : Int) (n : Int) : Bool := if k = 2 then greatB n else n == 0
def keyB (k : Int) (s : ByteArray) : Bool := if k = 2 then decide (s.size ≤ 100) else s.size == 0
def valB (k : Int) (s : ByteArray) : Bool := if k = 2 then decide (s.size ≤ 1000) else s.size == 0
def manyB (k : Int) (n : Int) : Bool :=
  if k = 1 ∨ k = 2 ∨ k = 4 then n == 0 else if k = 3 then (n == -1 || greatB n) else if k = 5 then decide (1 ≤ n) && decide (n ≤ 50)
  else if k = 10 ∨ k = 11 then decide (0 ≤ n) && decide (n < 7) else greatB n
def fitsB (c : CM) : Bool := textB (hasTopic c.kind) c.topic && (textB (hasName c.kind) c.name && (seqB c.kind c.seq && (keyB c.kind c.key && (valB c.kind c.val && manyB c.kind c.n))))
def kindOk (k : Int) : Bool := decide (1 ≤ k) && decide (k ≤ 11)
def nodeB (n : Int) : Bool := decide (0 ≤ n) && decide (n < 7)
def CM.right (c : CM) : Bool := nodeB c.node && (greatB c.ask && (kindOk c.kind && fitsB c))
theorem wordL_out {l : List UInt8} (h : wordL l = true) : 1 ≤ l.length ∧ l.length ≤ 20 ∧ l.all (fun b => letB b.toNat) = true := by
  unfold wordL at h
  simp only [Bool.and_eq_true, decide_eq_true_eq] at h
  exact ⟨h.1.1, h.1.2, h.2⟩
theorem size_listC (s : ByteArray) : s.data.toList.length = s.size := by simp
theorem textB_le {b : Bool} {s : ByteArray} (h : textB b s = true) : s.size ≤ 20 := by
  unfold textB at h
  split at h
  · have := (wordL_out h).2.1
    rwa [size_listC] at this
  · simp only [beq_iff_eq] at h
    omega
theorem greatB_out {n : Int} (h : greatB n = true) : 0 ≤ n ∧ n ≤ 9007199254740991 := by
  unfold greatB at h
  simpa using h
/-- The bounds of a right command. -/
structure CM.Small (c : CM) : Prop where
  k1 : 1 ≤ c.kind
  k2 : c.kind ≤ 11
  o1 : 0 ≤ c.node
  o2 : c.node ≤ 6
  a1 : 0 ≤ c.ask
  a2 : c.ask ≤ 9007199254740991
  s1 : 0 ≤ c.seq
  s2 : c.seq ≤ 9007199254740991
  n1 : -1 ≤ c.n
  n2 : c.n ≤ 9007199254740991
  t : c.topic.size ≤ 20
  m : c.name.size ≤ 20
  y : c.key.size ≤ 100
  v : c.val.size ≤ 1000
theorem CM.small {c : CM} (h : c.right = true) : c.Small := by
  unfold CM.right fitsB nodeB kindOk at h
  simp only [Bool.and_eq_true, decide_eq_true_eq] at h
  obtain ⟨⟨o1, o2⟩, ha, ⟨k1, k2⟩, ht, hm, hs, hy, hv, hn⟩ := h
  have ha := greatB_out ha
  have hs2 : 0 ≤ c.seq ∧ c.seq ≤ 9007199254740991 := by
    unfold seqB at hs
    split at hs
    · exact greatB_out hs
    · simp only [beq_iff_eq] at hs; omega
  have hy2 : c.key.size ≤ 100 := by
    unfold keyB at hy
    split at hy
    · simpa using hy
    · simp only [beq_iff_eq] at hy; omega
  have hv2 : c.val.size ≤ 1000 := by
    unfold valB at hv
    split at hv
    · simpa using hv
    · simp only [beq_iff_eq] at hv; omega
  have hn2 : -1 ≤ c.n ∧ c.n ≤ 9007199254740991 := by
    unfold manyB at hn
    split at hn
    · simp only [beq_iff_eq] at hn; omega
    · split at hn
      · simp only [Bool.or_eq_true, beq_iff_eq] at hn
        rcases hn with hn | hn
        · omega
        · have := greatB_out hn; omega
      · split at hn
        · simp only [Bool.and_eq_true, decide_eq_true_eq] at hn; omega
        · split at hn
          · simp only [Bool.and_eq_true, decide_eq_true_eq] at hn; omega
          · have := greatB_out hn; omega
  exact ⟨k1, k2, o1, by omega, ha.1, ha.2, hs2.1, hs2.2, hn2.1, hn2.2, textB_le ht, textB_le hm, hy2, hv2⟩

def itemsC (c : CM) : List K.It := [⟨1, c.kind, ⟨#[]⟩⟩, ⟨4, 0, c.topic⟩, ⟨4, 0, c.name⟩, ⟨3, c.seq, ⟨#[]⟩⟩, ⟨4, 0, c.key⟩, ⟨4, 0, c.val⟩, ⟨3, c.n + 1, ⟨#[]⟩⟩, ⟨1, c.node, ⟨#[]⟩⟩, ⟨3, c.ask, ⟨#[]⟩⟩]
def codeC (c : CM) : List UInt8 := (itemsC c).flatMap K.itemB
def oneC (c : CM) : List UInt8 := frameB (codeC c)
theorem fault_long {n : Int} (_h0 : 0 ≤ n) (h1 : n < 18446744073709551616) : K.faultF ⟨3, n, ⟨#[]⟩⟩ = 0 := by
  have k3 : K.kindB 3 = true := by decide
  have w3 : (256 : Int) ^ K.widthN 3 = 18446744073709551616 := by decide
  have z0 : (⟨#[]⟩ : ByteArray).size = 0 := rfl
  unfold K.faultF
  simp only [k3, z0, w3]
  simp
  omega
theorem fault_byte {n : Int} (_h0 : 0 ≤ n) (h1 : n < 256) : K.faultF ⟨1, n, ⟨#[]⟩⟩ = 0 := by
  have k1 : K.kindB 1 = true := by decide
  have w1 : (256 : Int) ^ K.widthN 1 = 256 := by decide
  have z0 : (⟨#[]⟩ : ByteArray).size = 0 := rfl
  unfold K.faultF
  simp only [k1, z0, w1]
  simp
  omega
theorem fault_text {s : ByteArray} (h : s.size ≤ 100000) : K.faultF ⟨4, 0, s⟩ = 0 := by
  have k4 : K.kindB 4 = true := by decide
  unfold K.faultF
  simp only [k4]
  simp
  omega
theorem itemsC_fault {c : CM} (h : c.Small) : ∀ x ∈ itemsC c, K.faultF x = 0 ∧ 0 ≤ x.n := by
  obtain ⟨k1, k2, o1, o2, a1, a2, s1, s2, n1, n2, ht, hm, hy, hv⟩ := h
  intro x hx
  simp only [itemsC, List.mem_cons, List.not_mem_nil, or_false] at hx
  rcases hx with rfl | rfl | rfl | rfl | rfl | rfl | rfl | rfl | rfl
  · exact ⟨fault_byte (by omega) (by omega), by show 0 ≤ c.kind; omega⟩
  · exact ⟨fault_text (by omega), Int.le_refl _⟩
  · exact ⟨fault_text (by omega), Int.le_refl _⟩
  · exact ⟨fault_long s1 (by omega), s1⟩
  · exact ⟨fault_text (by omega), Int.le_refl _⟩
  · exact ⟨fault_text (by omega), Int.le_refl _⟩
  · exact ⟨fault_long (by omega) (by omega), by show 0 ≤ c.n + 1; omega⟩
  · exact ⟨fault_byte o1 (by omega), o1⟩
  · exact ⟨fault_long a1 (by omega), a1⟩
theorem encC {c : CM} (h : c.Small) : K.encF (itemsC c) = (codeC c, 0) := by
  unfold K.encF
  rw [if_neg (by simp [itemsC]), if_pos ((K.firstFault_zero _).2 fun x hx => (itemsC_fault h x hx).1)]
  rfl
theorem codeC_len (c : CM) : (codeC c).length = 42 + c.topic.size + c.name.size + c.key.size + c.val.size := by
  simp only [codeC, itemsC, List.flatMap_cons, List.flatMap_nil, List.length_append, List.length_nil, itemB_len]
  have z0 : (⟨#[]⟩ : ByteArray).size = 0 := rfl
  have w1 : K.widthN 1 = 1 := by decide
  have w3 : K.widthN 3 = 8 := by decide
  have w4 : K.widthN 4 = 4 := by decide
  simp only [z0, w1, w3, w4]
  omega
theorem codeC_le {c : CM} (h : c.Small) : (codeC c).length ≤ 1182 := by
  have := h.t
  have := h.m
  have := h.y
  have := h.v
  rw [codeC_len]
  omega
theorem frameC {c : CM} (h : c.Small) : frameF (codeC c) = (oneC c, 0) := by
  unfold frameF
  rw [if_neg (by have := codeC_le h; omega)]
  rfl
theorem oneC_len (c : CM) : (oneC c).length = (codeC c).length + 8 := frameB_length _
def shapeC : List UInt8 := [98, 116, 116, 108, 116, 116, 108, 98, 108]
def cmOf : List K.It → CM
  | [a, b, c, d, e, f, g, h, i] => ⟨a.n, b.s, c.s, d.n, e.s, f.s, g.n - 1, h.n, i.n⟩
  | _ => CM.zero
/-- Decode: the command, the fault. -/
def decC (s : List UInt8) : CM × Int :=
  if (K.decF shapeC s).2 ≠ 0 then (CM.zero, (K.decF shapeC s).2) else if (cmOf (K.decF shapeC s).1).right then (cmOf (K.decF shapeC s).1, 0) else (CM.zero, 10)
theorem cut_shapeC : K.cutStar shapeC = (shapeC, [], false) := by decide
theorem ok_shapeC : K.shapeOk shapeC = true := by decide
theorem decC_read (s : List UInt8) : K.decF shapeC s = K.readF (2 * s.length + 2) [] 0 shapeC s := by
  unfold K.decF
  rw [if_pos ok_shapeC, cut_shapeC]
theorem dec_nine (s : List UInt8) (h : (K.decF shapeC s).2 = 0) : ∃ a b c d e f g h i, (K.decF shapeC s).1 = [a, b, c, d, e, f, g, h, i] := by
  rw [decC_read] at h ⊢
  have h5 := readF_len shapeC _ 0 s (by decide) (by omega) h
  generalize (K.readF (2 * s.length + 2) [] 0 shapeC s).1 = l at h5
  match l, h5 with
  | [a, b, c, d, e, f, g, h, i], _ => exact ⟨a, b, c, d, e, f, g, h, i, rfl⟩
theorem shape_itemsC (c : CM) : K.shapeF (itemsC c) = (shapeC, 0) := by
  unfold K.shapeF
  rw [if_pos (by simp only [itemsC, List.all_cons, List.all_nil]; decide)]
  simp only [itemsC, List.map_cons, List.map_nil]
  rfl
theorem cm_items (c : CM) : cmOf (itemsC c) = c := by
  obtain ⟨k, t, m, s, y, v, n, o, a⟩ := c
  show CM.mk k t m s y v (n + 1 - 1) o a = _
  rw [show n + 1 - 1 = n by omega]
theorem decC_code {c : CM} (h : c.right = true) : decC (codeC c) = (c, 0) := by
  have hs := c.small h
  have e := K.back_pure (itemsC c) (by rw [encC hs]) fun x hx => (itemsC_fault hs x hx).2
  rw [shape_itemsC, encC hs] at e
  have e2 : K.decF shapeC (codeC c) = (itemsC c, 0) := e.2
  unfold decC
  rw [e2, if_neg (fun e => e rfl)]
  show (if (cmOf (itemsC c)).right then (cmOf (itemsC c), (0 : Int)) else _) = _
  rw [cm_items, if_pos h]
/-- Letters of what is read. -/
theorem readF_kinds (G : List UInt8) (hG : K.allL G = true) (f : Nat) : ∀ (m : Nat) (todo rest : List UInt8), K.allL todo = true → (K.readF f G m todo rest).2 = 0 → 2 * rest.length + (if todo = [] then 1 else 0) < f → ∃ k, (K.readF f G m todo rest).1.map (fun x => K.letterF x.k) = todo ++ Lib.repeatL G k := by
  induction f with
  | zero => intro m todo rest _ _ hf; omega
  | succ f ih =>
    intro m todo rest ht h hf
    cases todo with
    | nil =>
      rw [K.readF] at h ⊢
      by_cases h1 : rest = []
      · rw [if_pos h1]
        exact ⟨0, rfl⟩
      · rw [if_neg h1] at h ⊢
        by_cases h2 : G = []
        · rw [if_pos h2] at h; simp at h
        · rw [if_neg h2] at h ⊢
          rw [if_pos rfl] at hf
          obtain ⟨k, hk⟩ := ih m G rest hG h (by rw [if_neg h2]; omega)
          exact ⟨k + 1, by rw [hk]; rfl⟩
    | cons c t =>
      obtain ⟨hc, ht⟩ := K.allL_cons c t ht
      rw [K.readF] at h ⊢
      by_cases h1 : m = 1000
      · rw [if_pos h1] at h; simp at h
      · rw [if_neg h1] at h ⊢
        by_cases h2 : (K.itemF c rest).2.2 = 0
        · rw [if_pos h2] at h ⊢
          by_cases h3 : (K.readF f G (m + 1) t (K.itemF c rest).2.1).2 = 0
          · rw [if_pos h3]
            have hl := K.itemF_less' c rest hc h2
            rw [if_neg (by simp)] at hf
            obtain ⟨k, hk⟩ := ih (m + 1) t (K.itemF c rest).2.1 ht h3 (by split <;> omega)
            obtain ⟨_, _, _, e4⟩ := K.itemF_inv c rest hc h2
            refine ⟨k, ?_⟩
            show K.letterF (K.itemF c rest).1.k :: _ = c :: (t ++ _)
            rw [hk]
            congr 1
          · rw [if_neg h3] at h; exact absurd h h3
        · rw [if_neg h2] at h; exact absurd h h2
theorem item_num {x : K.It} (h : K.faultF x = 0) {c : UInt8} (hc : K.letterF x.k = c) (hc2 : c = 98 ∨ c = 108) : x = ⟨if c = 98 then 1 else 3, x.n, ⟨#[]⟩⟩ := by
  have hk := K.kind_cases x.k (K.fault_kind x h)
  have hs := K.fault_shape x h
  obtain ⟨k, n, s⟩ := x
  simp only at hk hs hc ⊢
  have hk3 : k = (if c = 98 then 1 else 3) ∧ k ≠ 4 := by
    rcases hk with rfl | rfl | rfl | rfl
    · subst hc; exact ⟨by decide, by decide⟩
    · subst hc; exact absurd hc2 (by decide)
    · subst hc; exact ⟨by decide, by decide⟩
    · subst hc; exact absurd hc2 (by decide)
  rcases hs with ⟨_, e, _⟩ | ⟨e, _⟩
  · rw [K.mk_empty s e, ← hk3.1]
  · exact absurd e hk3.2
theorem item_text {x : K.It} (h : K.faultF x = 0) (hc : K.letterF x.k = 116) : x = ⟨4, 0, x.s⟩ := by
  have hk := K.kind_cases x.k (K.fault_kind x h)
  have hs := K.fault_shape x h
  obtain ⟨k, n, s⟩ := x
  simp only at hk hs hc ⊢
  have hk3 : k = 4 := by
    rcases hk with rfl | rfl | rfl | rfl
    · exact absurd hc (by decide)
    · exact absurd hc (by decide)
    · exact absurd hc (by decide)
    · rfl
  rcases hs with ⟨e, _⟩ | ⟨_, e, _⟩
  · exact absurd hk3 e
  · rw [hk3, e]
/-- What is read by a shape without a star: its letters. -/
theorem decF_letters {shape s : List UInt8} (hs : K.shapeOk shape = true) (hc : K.cutStar shape = (shape, [], false)) (ha : K.allL shape = true) (hne : shape ≠ []) (h : (K.decF shape s).2 = 0) : (K.decF shape s).1.map (fun x => K.letterF x.k) = shape := by
  have hd : K.decF shape s = K.readF (2 * s.length + 2) [] 0 shape s := by
    unfold K.decF
    rw [if_pos hs, hc]
  obtain ⟨k, hk⟩ := readF_kinds [] (by decide) (2 * s.length + 2) 0 shape s ha (by rw [← hd]; exact h) (by rw [if_neg hne]; omega)
  rw [← hd] at hk
  rw [hk]
  clear hk hd
  have : Lib.repeatL ([] : List UInt8) k = [] := by
    induction k with
    | zero => rfl
    | succ k ih => show [] ++ Lib.repeatL [] k = []; exact ih
  rw [this, List.append_nil]
theorem dec_itemsC {s : List UInt8} (h : (K.decF shapeC s).2 = 0) : itemsC (cmOf (K.decF shapeC s).1) = (K.decF shapeC s).1 ∧ ∀ x ∈ (K.decF shapeC s).1, x.ok ∧ K.faultF x = 0 := by
  obtain ⟨h1, h2, _⟩ := K.again_pure shapeC s h
  have hf := (K.encF_zero _ (by rw [h1])).2.1
  have hl := decF_letters ok_shapeC cut_shapeC (by decide) (by decide) h
  refine ⟨?_, fun x hx => ⟨h2 x hx, hf x hx⟩⟩
  obtain ⟨a, b, c, d, e, f, g, i, j, h9⟩ := dec_nine s h
  rw [h9] at hl hf ⊢
  simp only [List.map_cons, List.map_nil, shapeC, List.cons.injEq, and_true] at hl
  obtain ⟨e1, e2, e3, e4, e5, e6, e7, e8, e9⟩ := hl
  have ha := item_num (hf a (by simp)) e1 (.inl rfl)
  have hb := item_text (hf b (by simp)) e2
  have hc := item_text (hf c (by simp)) e3
  have hd := item_num (hf d (by simp)) e4 (.inr rfl)
  have he := item_text (hf e (by simp)) e5
  have hf' := item_text (hf f (by simp)) e6
  have hg := item_num (hf g (by simp)) e7 (.inr rfl)
  have hi := item_num (hf i (by simp)) e8 (.inl rfl)
  have hj := item_num (hf j (by simp)) e9 (.inr rfl)
  show [(⟨1, a.n, ⟨#[]⟩⟩ : K.It), ⟨4, 0, b.s⟩, ⟨4, 0, c.s⟩, ⟨3, d.n, ⟨#[]⟩⟩, ⟨4, 0, e.s⟩, ⟨4, 0, f.s⟩, ⟨3, g.n - 1 + 1, ⟨#[]⟩⟩, ⟨1, i.n, ⟨#[]⟩⟩, ⟨3, j.n, ⟨#[]⟩⟩] = _
  rw [show g.n - 1 + 1 = g.n by omega, ← hb, ← hc, ← he, ← hf', show (⟨1, a.n, ⟨#[]⟩⟩ : K.It) = a from ha.symm, show (⟨3, d.n, ⟨#[]⟩⟩ : K.It) = d from hd.symm, show (⟨3, g.n, ⟨#[]⟩⟩ : K.It) = g from hg.symm, show (⟨1, i.n, ⟨#[]⟩⟩ : K.It) = i from hi.symm, show (⟨3, j.n, ⟨#[]⟩⟩ : K.It) = j from hj.symm]
/-- What is read is written as it stood. -/
theorem decC_back {s : List UInt8} (h : (decC s).2 = 0) : (decC s).1.right = true ∧ codeC (decC s).1 = s := by
  unfold decC at h ⊢
  by_cases h1 : (K.decF shapeC s).2 = 0
  · rw [if_neg (fun e => e h1)] at h ⊢
    by_cases h2 : (cmOf (K.decF shapeC s).1).right = true
    · rw [if_pos h2]
      refine ⟨h2, ?_⟩
      have h3 := (K.again_pure shapeC s h1).1
      have h4 := (K.encF_zero _ (by rw [h3])).2.2
      unfold codeC
      rw [(dec_itemsC h1).1]
      rw [h3] at h4
      exact (congrArg Prod.fst h4).symm
    · rw [if_neg h2] at h; cases h
  · rw [if_pos h1] at h
    exact absurd h h1
theorem decC_none {s : List UInt8} (h : (decC s).2 ≠ 0) : (decC s).1 = CM.zero := by
  unfold decC at h ⊢
  split
  · rfl
  · rename_i c
    rw [if_neg c] at h
    split
    · rename_i c2
      rw [if_pos c2] at h
      exact absurd rfl h
    · rfl
/-- Asked: the command, the fault. -/
def askC (s : List UInt8) : CM × Int :=
  if (takeF s).2.2 ≠ 0 then (CM.zero, (takeF s).2.2)
  else if (takeF s).2.1 ≠ s.length then (CM.zero, 10)
  else if (decC (takeF s).1).2 ≠ 0 then (CM.zero, 10)
  else if (decC (takeF s).1).1.node ≠ 0 then (CM.zero, 10) else decC (takeF s).1
theorem take_one {code : List UInt8} (h : code.length ≤ 400000) : takeF (frameB code) = (code, (frameB code).length, 0) := by
  have e := take_frame code [] (by omega)
  rw [List.append_nil] at e
  rw [e, frameB_length]
  congr 2
  omega
theorem askC_one {c : CM} (h : c.right = true) (h0 : c.node = 0) : askC (oneC c) = (c, 0) := by
  unfold askC oneC
  rw [take_one (by have := codeC_le (c.small h); omega)]
  simp only [ne_eq, not_true_eq_false, if_false]
  rw [decC_code h]
  simp [h0]
theorem askC_none {s : List UInt8} (h : (askC s).2 ≠ 0) : (askC s).1 = CM.zero := by
  unfold askC at h ⊢
  split
  · rfl
  · rename_i c
    rw [if_neg c] at h
    split
    · rfl
    · rename_i c
      rw [if_neg c] at h
      split
      · rfl
      · rename_i c
        rw [if_neg c] at h
        split
        · rfl
        · rename_i c2
          rw [if_neg c2] at h
          exact absurd (Decidable.not_not.1 c) h
/-- A whole frame. -/
theorem takeF_whole (s : List UInt8) (h : (takeF s).2.2 = 0) (hl : (takeF s).2.1 = s.length) : frameB (takeF s).1 = s := by
  unfold takeF at *
  by_cases h1 : s.length < 4
  · rw [if_pos h1] at h; simp at h
  · rw [if_neg h1] at h hl ⊢
    by_cases h2 : 400000 < Lib.beNat (s.take 4)
    · rw [if_pos h2] at h; simp at h
    · rw [if_neg h2] at h hl ⊢
      by_cases h3 : s.length < 8 + Lib.beNat (s.take 4)
      · rw [if_pos h3] at h; simp at h
      · rw [if_neg h3] at h hl ⊢
        by_cases h4 : Lib.beNat ((s.drop 4).take 4) ≠ sumF (s.take 4 ++ (s.drop 8).take (Lib.beNat (s.take 4)))
        · rw [if_pos h4] at h; simp at h
        · rw [if_neg h4] at hl ⊢
          have h5 : Lib.beNat ((s.drop 4).take 4) = sumF (s.take 4 ++ (s.drop 8).take (Lib.beNat (s.take 4))) := Decidable.not_not.1 h4
          simp only at hl ⊢
          have hb : ((s.drop 8).take (Lib.beNat (s.take 4))).length = Lib.beNat (s.take 4) := by rw [List.length_take, List.length_drop]; omega
          have e1 : lenB ((s.drop 8).take (Lib.beNat (s.take 4))) = s.take 4 := by
            unfold lenB
            rw [hb]
            exact beBytes_beNat 4 (s.take 4) (by rw [List.length_take]; omega)
          have e2 : sumB ((s.drop 8).take (Lib.beNat (s.take 4))) = (s.drop 4).take 4 := by
            unfold sumB
            rw [e1, ← h5]
            exact beBytes_beNat 4 ((s.drop 4).take 4) (by rw [List.length_take, List.length_drop]; omega)
          unfold frameB
          rw [e1, e2]
          have e3 : (s.drop 8).take (Lib.beNat (s.take 4)) = s.drop 8 := List.take_of_length_le (by rw [List.length_drop]; omega)
          rw [e3]
          have e4 : (s.drop 4).take 4 ++ s.drop 8 = s.drop 4 := by
            have := List.take_append_drop 4 (s.drop 4)
            rw [List.drop_drop] at this
            exact this
          rw [e4]
          exact List.take_append_drop 4 s
theorem askC_back {s : List UInt8} (h : (askC s).2 = 0) : (askC s).1.right = true ∧ (askC s).1.node = 0 ∧ oneC (askC s).1 = s := by
  unfold askC at h ⊢
  by_cases h1 : (takeF s).2.2 = 0
  · rw [if_neg (fun e => e h1)] at h ⊢
    by_cases h2 : (takeF s).2.1 = s.length
    · rw [if_neg (fun e => e h2)] at h ⊢
      by_cases h3 : (decC (takeF s).1).2 = 0
      · rw [if_neg (fun e => e h3)] at h ⊢
        by_cases h4 : (decC (takeF s).1).1.node = 0
        · rw [if_neg (fun e => e h4)]
          obtain ⟨r, b⟩ := decC_back h3
          refine ⟨r, h4, ?_⟩
          unfold oneC
          rw [b]
          exact takeF_whole s h1 h2
        · rw [if_pos h4] at h; cases h
      · rw [if_pos h3] at h; cases h
    · rw [if_pos h2] at h; cases h
  · rw [if_pos h1] at h; exact absurd h h1

/-- A reply. -/
structure RP where
  code : Int
  n : Int
  recs : List Rec
def RP.zero : RP := ⟨0, 0, []⟩
def RP.right (r : RP) : Prop := 0 ≤ r.code ∧ r.code ≤ 255 ∧ -1 ≤ r.n ∧ r.n ≤ 9007199254740991 ∧ r.recs.length ≤ 50 ∧ ∀ x ∈ r.recs, RightP x
instance (r : RP) : Decidable r.right := by unfold RP.right; infer_instance
def askOk (a : Int) : Prop := 0 ≤ a ∧ a ≤ 9007199254740991
instance (a : Int) : Decidable (askOk a) := by unfold askOk; infer_instance
def itemsP (a : Int) (r : RP) : List K.It := ⟨3, a, ⟨#[]⟩⟩ :: ⟨1, r.code, ⟨#[]⟩⟩ :: ⟨3, r.n + 1, ⟨#[]⟩⟩ :: r.recs.flatMap itemsR
def codeP (a : Int) (r : RP) : List UInt8 := (itemsP a r).flatMap K.itemB
def oneP (a : Int) (r : RP) : List UInt8 := frameB (codeP a r)
def shapeP : List UInt8 := [108, 98, 108, 42, 108, 116, 108, 116, 116]
def recsOf : List K.It → List Rec
  | a :: b :: c :: d :: e :: l => ⟨a.n, b.s, c.n, d.s, e.s⟩ :: recsOf l
  | _ => []
def replyOf : List K.It → Int × RP
  | a :: b :: c :: l => (a.n, ⟨b.n, c.n - 1, recsOf l⟩)
  | _ => (0, RP.zero)
theorem recs_items (L : List Rec) : recsOf (L.flatMap itemsR) = L := by
  induction L with
  | nil => rfl
  | cons m L ih => show ⟨m.off, m.prod, m.seq, m.key, m.val⟩ :: recsOf (L.flatMap itemsR) = m :: L; rw [ih]
theorem reply_items (a : Int) (r : RP) : replyOf (itemsP a r) = (a, r) := by
  show (a, RP.mk r.code (r.n + 1 - 1) (recsOf (r.recs.flatMap itemsR))) = (a, r)
  rw [recs_items, show r.n + 1 - 1 = r.n by omega]
theorem flatR_len (L : List Rec) : (L.flatMap itemsR).length = 5 * L.length := by
  induction L with
  | nil => rfl
  | cons m L ih => rw [List.flatMap_cons, List.length_append, ih, List.length_cons]; simp only [itemsR, List.length_cons, List.length_nil]; omega
theorem itemsP_len (a : Int) (r : RP) : (itemsP a r).length = 3 + 5 * r.recs.length := by
  unfold itemsP
  rw [List.length_cons, List.length_cons, List.length_cons, flatR_len]
  omega
theorem itemsP_fault {a : Int} {r : RP} (ha : askOk a) (h : r.right) : ∀ x ∈ itemsP a r, K.faultF x = 0 ∧ 0 ≤ x.n := by
  obtain ⟨c1, c2, n1, n2, _, hr⟩ := h
  obtain ⟨a1, a2⟩ := ha
  intro x hx
  rcases List.mem_cons.1 hx with rfl | hx
  · exact ⟨fault_long a1 (by omega), a1⟩
  rcases List.mem_cons.1 hx with rfl | hx
  · exact ⟨fault_byte c1 (by omega), c1⟩
  rcases List.mem_cons.1 hx with rfl | hx
  · exact ⟨fault_long (by omega) (by omega), by show 0 ≤ r.n + 1; omega⟩
  obtain ⟨m, hm, hx⟩ := List.mem_flatMap.1 hx
  exact itemsR_fault (hr m hm) x hx
theorem encP {a : Int} {r : RP} (ha : askOk a) (h : r.right) : K.encF (itemsP a r) = (codeP a r, 0) := by
  have hl := h.2.2.2.2.1
  unfold K.encF
  rw [if_neg (by rw [itemsP_len]; omega), if_pos ((K.firstFault_zero _).2 fun x hx => (itemsP_fault ha h x hx).1)]
  rfl
theorem flatR_bytes (L : List Rec) (h : ∀ x ∈ L, RightP x) : ((L.flatMap itemsR).flatMap K.itemB).length ≤ 1148 * L.length := by
  induction L with
  | nil => simp
  | cons m L ih =>
    rw [List.flatMap_cons, List.flatMap_append, List.length_append, List.length_cons]
    have h1 := ih fun x hx => h x (by simp [hx])
    have h2 := codeR_le (h m (by simp))
    unfold codeR at h2
    omega
theorem codeP_le {a : Int} {r : RP} (h : r.right) : (codeP a r).length ≤ 57417 := by
  unfold codeP itemsP
  rw [List.flatMap_cons, List.flatMap_cons, List.flatMap_cons, List.length_append, List.length_append, List.length_append, itemB_len, itemB_len, itemB_len]
  have z0 : (⟨#[]⟩ : ByteArray).size = 0 := rfl
  have w1 : K.widthN 1 = 1 := by decide
  have w3 : K.widthN 3 = 8 := by decide
  simp only [z0, w1, w3]
  have := flatR_bytes r.recs h.2.2.2.2.2
  have := h.2.2.2.2.1
  omega
theorem frameP {a : Int} {r : RP} (h : r.right) : frameF (codeP a r) = (oneP a r, 0) := by
  unfold frameF
  rw [if_neg (by have := codeP_le (a := a) h; omega)]
  rfl
theorem shapeP_items (L : List Rec) : (L.flatMap itemsR).map (fun x => K.letterF x.k) = Lib.repeatL shapeR L.length := by
  induction L with
  | nil => rfl
  | cons m L ih =>
    rw [List.flatMap_cons, List.map_append, ih]
    rfl
theorem decP_code {a : Int} {r : RP} (ha : askOk a) (h : r.right) : K.decF shapeP (codeP a r) = (itemsP a r, 0) := by
  have he := encP ha h
  have hb := K.back_pure (itemsP a r) (by rw [he]) fun x hx => (itemsP_fault ha h x hx).2
  have hs : (K.shapeF (itemsP a r)).1 = [108, 98, 108] ++ Lib.repeatL shapeR r.recs.length := by
    rw [K.shapeF_ok _ fun x hx => K.fault_kind x (itemsP_fault ha h x hx).1]
    show K.letterF 3 :: K.letterF 1 :: K.letterF 3 :: (r.recs.flatMap itemsR).map (fun x => K.letterF x.k) = _
    rw [shapeP_items]
    rfl
  have hd : K.decF ([108, 98, 108] ++ Lib.repeatL shapeR r.recs.length) (codeP a r) = (itemsP a r, 0) := by
    have := hb.2
    rw [he, hs] at this
    exact this
  have hstar := K.star_pure [108, 98, 108] shapeR (codeP a r) r.recs.length (by decide) (by decide) (by decide) (by decide) (by rw [hd])
  exact hstar.trans hd
/-- Answered: the number, the reply, the fault. -/
def answP (s : List UInt8) : Int × RP × Int :=
  if (takeF s).2.2 ≠ 0 then (0, RP.zero, (takeF s).2.2)
  else if (takeF s).2.1 ≠ s.length then (0, RP.zero, 10)
  else if (K.decF shapeP (takeF s).1).2 ≠ 0 then (0, RP.zero, 10)
  else if askOk (replyOf (K.decF shapeP (takeF s).1).1).1 ∧ (replyOf (K.decF shapeP (takeF s).1).1).2.right then ((replyOf (K.decF shapeP (takeF s).1).1).1, (replyOf (K.decF shapeP (takeF s).1).1).2, 0) else (0, RP.zero, 10)
theorem answP_one {a : Int} {r : RP} (ha : askOk a) (h : r.right) : answP (oneP a r) = (a, r, 0) := by
  unfold answP oneP
  rw [take_one (by have := codeP_le (a := a) h; omega)]
  simp only [ne_eq, not_true_eq_false, if_false]
  rw [decP_code ha h]
  simp only [not_true_eq_false, if_false]
  rw [reply_items, if_pos ⟨ha, h⟩]
theorem items_recs (l : List K.It) (hf : ∀ x ∈ l, K.faultF x = 0) : ∀ k, l.map (fun x => K.letterF x.k) = Lib.repeatL shapeR k → (recsOf l).flatMap itemsR = l ∧ l.length = 5 * k := by
  intro k
  induction k generalizing l with
  | zero =>
    intro h
    have e : l = [] := List.map_eq_nil_iff.1 h
    rw [e]
    exact ⟨rfl, rfl⟩
  | succ k ih =>
    intro h
    match l, h, hf with
    | [], h, _ => simp [Lib.repeatL, shapeR] at h
    | [a], h, _ => simp [Lib.repeatL, shapeR] at h
    | [a, b], h, _ => simp [Lib.repeatL, shapeR] at h
    | [a, b, c], h, _ => simp [Lib.repeatL, shapeR] at h
    | [a, b, c, d], h, _ => simp [Lib.repeatL, shapeR] at h
    | a :: b :: c :: d :: e :: l, h, hf =>
      have h2 : K.letterF a.k :: K.letterF b.k :: K.letterF c.k :: K.letterF d.k :: K.letterF e.k :: l.map (fun x => K.letterF x.k) = 108 :: 116 :: 108 :: 116 :: 116 :: Lib.repeatL shapeR k := h
      injection h2 with e1 h2
      injection h2 with e2 h2
      injection h2 with e3 h2
      injection h2 with e4 h2
      injection h2 with e5 h2
      have ha := item_num (hf a (by simp)) e1 (.inr rfl)
      have hb := item_text (hf b (by simp)) e2
      have hc := item_num (hf c (by simp)) e3 (.inr rfl)
      have hd := item_text (hf d (by simp)) e4
      have he := item_text (hf e (by simp)) e5
      obtain ⟨i1, i2⟩ := ih l (fun x hx => hf x (by simp [hx])) h2
      refine ⟨?_, by simp only [List.length_cons, i2]; omega⟩
      show itemsR ⟨a.n, b.s, c.n, d.s, e.s⟩ ++ (recsOf l).flatMap itemsR = _
      rw [i1]
      simp only [itemsR]
      rw [← hb, ← hd, ← he, show (⟨3, a.n, ⟨#[]⟩⟩ : K.It) = a from ha.symm, show (⟨3, c.n, ⟨#[]⟩⟩ : K.It) = c from hc.symm]
      rfl
/-- What is read of a reply's code. -/
theorem dec_itemsP {s : List UInt8} (h : (K.decF shapeP s).2 = 0) : itemsP (replyOf (K.decF shapeP s).1).1 (replyOf (K.decF shapeP s).1).2 = (K.decF shapeP s).1 ∧ codeP (replyOf (K.decF shapeP s).1).1 (replyOf (K.decF shapeP s).1).2 = s ∧ (∀ x ∈ (K.decF shapeP s).1, x.ok ∧ K.faultF x = 0) ∧ ∃ a b c l k, (K.decF shapeP s).1 = a :: b :: c :: l ∧ l.length = 5 * k ∧ k ≤ 200 := by
  obtain ⟨h1, h2, h3⟩ := K.again_pure shapeP s h
  have hf := (K.encF_zero _ (by rw [h1])).2.1
  have hle := (K.encF_zero _ (by rw [h1])).1
  have hs : K.shapeOk shapeP = true := by decide
  have hc : K.cutStar shapeP = ([108, 98, 108], shapeR, true) := by decide
  have hd : K.decF shapeP s = K.readF (2 * s.length + 2) shapeR 0 [108, 98, 108] s := by
    unfold K.decF
    rw [if_pos hs, hc]
  obtain ⟨k, hk⟩ := readF_kinds shapeR (by decide) (2 * s.length + 2) 0 [108, 98, 108] s (by decide) (by rw [← hd]; exact h) (by simp)
  rw [← hd] at hk
  have h4 := (K.encF_zero _ (by rw [h1])).2.2
  rw [h1] at h4
  generalize (K.decF shapeP s).1 = its at *
  match its, hk with
  | a :: b :: c :: l, hk =>
    have hk2 : K.letterF a.k :: K.letterF b.k :: K.letterF c.k :: l.map (fun x => K.letterF x.k) = 108 :: 98 :: 108 :: Lib.repeatL shapeR k := hk
    injection hk2 with e1 hk2
    injection hk2 with e2 hk2
    injection hk2 with e3 hk2
    have ha := item_num (hf a (by simp)) e1 (.inr rfl)
    have hb := item_num (hf b (by simp)) e2 (.inl rfl)
    have hc := item_num (hf c (by simp)) e3 (.inr rfl)
    obtain ⟨e4, e5⟩ := items_recs l (fun x hx => hf x (by simp [hx])) k hk2
    have e6 : itemsP (replyOf (a :: b :: c :: l)).1 (replyOf (a :: b :: c :: l)).2 = a :: b :: c :: l := by
      show (⟨3, a.n, ⟨#[]⟩⟩ : K.It) :: ⟨1, b.n, ⟨#[]⟩⟩ :: ⟨3, c.n - 1 + 1, ⟨#[]⟩⟩ :: (recsOf l).flatMap itemsR = a :: b :: c :: l
      rw [e4, show c.n - 1 + 1 = c.n by omega, show (⟨3, a.n, ⟨#[]⟩⟩ : K.It) = a from ha.symm, show (⟨1, b.n, ⟨#[]⟩⟩ : K.It) = b from hb.symm, show (⟨3, c.n, ⟨#[]⟩⟩ : K.It) = c from hc.symm]
    refine ⟨e6, ?_, fun x hx => ⟨h2 x hx, hf x hx⟩, a, b, c, l, k, rfl, e5, ?_⟩
    · unfold codeP
      rw [e6]
      exact (congrArg Prod.fst h4).symm
    · simp only [List.length_cons] at hle
      omega
  | [], hk => simp at hk
  | [a], hk => simp at hk
  | [a, b], hk => simp at hk
theorem answP_none {s : List UInt8} (h : (answP s).2.2 ≠ 0) : (answP s).1 = 0 ∧ (answP s).2.1 = RP.zero := by
  unfold answP at h ⊢
  split
  · exact ⟨rfl, rfl⟩
  · rename_i c
    rw [if_neg c] at h
    split
    · exact ⟨rfl, rfl⟩
    · rename_i c
      rw [if_neg c] at h
      split
      · exact ⟨rfl, rfl⟩
      · rename_i c
        rw [if_neg c] at h
        split
        · rename_i c2
          rw [if_pos c2] at h
          exact absurd rfl h
        · exact ⟨rfl, rfl⟩
theorem answP_back {s : List UInt8} (h : (answP s).2.2 = 0) : askOk (answP s).1 ∧ (answP s).2.1.right ∧ oneP (answP s).1 (answP s).2.1 = s := by
  unfold answP at h ⊢
  by_cases h1 : (takeF s).2.2 = 0
  · rw [if_neg (fun e => e h1)] at h ⊢
    by_cases h2 : (takeF s).2.1 = s.length
    · rw [if_neg (fun e => e h2)] at h ⊢
      by_cases h3 : (K.decF shapeP (takeF s).1).2 = 0
      · rw [if_neg (fun e => e h3)] at h ⊢
        by_cases h4 : askOk (replyOf (K.decF shapeP (takeF s).1).1).1 ∧ (replyOf (K.decF shapeP (takeF s).1).1).2.right
        · rw [if_pos h4]
          refine ⟨h4.1, h4.2, ?_⟩
          unfold oneP
          simp only
          rw [(dec_itemsP h3).2.1]
          exact takeF_whole s h1 h2
        · rw [if_neg h4] at h; cases h
      · rw [if_pos h3] at h; cases h
    · rw [if_pos h2] at h; cases h
  · rw [if_pos h1] at h; exact absurd h h1
end Go.Proofs.YtoolbbibnegdnaaGreatDoor
