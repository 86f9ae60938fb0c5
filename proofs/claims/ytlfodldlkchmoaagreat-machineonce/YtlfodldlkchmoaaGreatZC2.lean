/-
  The program's small functions, as they run (mkc2.py)
-/
import Derived.Test.YtlfodldlkchmoaaGreatZKPure5
import Derived.Deep.RegionLaw
import Derived.ScopeJumps
import Derived.WalkMore
import Derived.WalkSmall
import Derived.KernelRfl
import Derived.Deep.DrawnRows
import Derived.Deep.RegionHeldLaw
import Derived.Deep.AppendLies
import Derived.Shelf.Abstract
import Derived.Deep.QuietTactic
import Derived.BigRegion
import Derived.Maps.AppendAt
import Derived.Laws.OwnMore
import Derived.Laws.AppendOwnNone
import Derived.Lib.QuietBelow
import Derived.Deep.DeepCutAuto
import Derived.Test.YtlfodldlkchmoaaGreatProg
namespace Go.Proofs.YtlfodldlkchmoaaGreat
theorem itemB_len (x : K.It) : (K.itemB x).length = K.widthN x.k + x.s.size := by
  unfold K.itemB
  rw [List.length_append, Lib.beBytes_length]
  simp
theorem readF_len (todo : List UInt8) (f m : Nat) (rest : List UInt8) (ht : K.allL todo = true) (hf : rest.length < f) (h : (K.readF f [] m todo rest).2 = 0) : (K.readF f [] m todo rest).1.length = todo.length := by
  induction todo generalizing f m rest with
  | nil =>
    cases f with
    | zero => omega
    | succ f =>
      simp only [K.readF] at h ⊢
      split
      · rfl
      · rename_i hne
        rw [if_neg hne] at h
        simp at h
  | cons c t ih =>
    cases f with
    | zero => omega
    | succ f =>
      obtain ⟨hc, ht2⟩ := K.allL_cons c t ht
      simp only [K.readF] at h ⊢
      split
      · rename_i hm
        rw [if_pos hm] at h
        simp at h
      · rename_i hm
        rw [if_neg hm] at h
        split
        · rename_i hi
          rw [if_pos hi] at h
          have hl := K.itemF_less' c rest hc hi
          split
          · rename_i hr
            have := ih f (m + 1) (K.itemF c rest).2.1 ht2 (by omega) hr
            simp [this]
          · rename_i hr
            rw [if_neg hr] at h
            exact absurd h hr
        · rename_i hi
          rw [if_neg hi] at h
          exact absurd h hi
structure CM where
  kind : Int
  topic : ByteArray
  name : ByteArray
  seq : Int
  key : ByteArray
  val : ByteArray
  n : Int
  node : Int
  ask : Int
def CM.zero : CM := ⟨0, ⟨#[]⟩, ⟨#[]⟩, 0, ⟨#[]⟩, ⟨#[]⟩, 0, 0, 0⟩
def letB (b : Nat) : Bool := (decide (97 ≤ b) && decide (b ≤ 122)) || (decide (48 ≤ b) && decide (b ≤ 57))
def wordL (l : List UInt8) : Bool := decide (1 ≤ l.length) && decide (l.length ≤ 20) && l.all fun b => letB b.toNat
def wordB (s : ByteArray) : Bool := wordL s.data.toList
def greatB (n : Int) : Bool := decide (0 ≤ n) && decide (n ≤ 9007199254740991)
def hasTopic (k : Int) : Bool := decide (1 ≤ k ∧ k ≤ 3) || decide (8 ≤ k ∧ k ≤ 9)
def hasName (k : Int) : Bool := decide (2 ≤ k ∧ k ≤ 7)
def textB (b : Bool) (s : ByteArray) : Bool := if b then wordB s else s.size == 0
def seqB (k : Int) (n : Int) : Bool := if k = 2 then greatB n else n == 0
def keyB (k : Int) (s : ByteArray) : Bool := if k = 2 then decide (s.size ≤ 100) else s.size == 0
def valB (k : Int) (s : ByteArray) : Bool := if k = 2 then decide (s.size ≤ 1000) else s.size == 0
def manyB (k : Int) (n : Int) : Bool :=
  if k = 1 ∨ k = 2 ∨ k = 4 then n == 0 else if k = 3 then (n == -1 || greatB n) else if k = 5 then decide (1 ≤ n) && decide (n ≤ 50)
  else if k = 10 ∨ k = 11 then decide (0 ≤ n) && decide (n < 7) else greatB n
def fitsB (c : CM) : Bool := textB (hasTopic c.kind) c.topic && (textB (hasName c.kind) c.name && (seqB c.kind c.seq && (keyB c.kind c.key && (valB c.kind c.val && manyB c.kind c.n))))
def kindOk (k : Int) : Bool := decide (1 ≤ k) && decide (k ≤ 11)
def nodeB (n : Int) : Bool := decide (0 ≤ n) && decide (n < 7)
def CM.right (c : CM) : Bool := nodeB c.node && (greatB c.ask && (kindOk c.kind && fitsB c))
theorem wordL_out {l : List UInt8} (h : wordL l = true) : 1 ≤ l.length ∧ l.length ≤ 20 ∧ l.all (fun b => letB b.toNat) = true := by
  unfold wordL at h
  simp only [Bool.and_eq_true, decide_eq_true_eq] at h
  exact ⟨h.1.1, h.1.2, h.2⟩
theorem size_listC (s : ByteArray) : s.data.toList.length = s.size := by simp
theorem textB_le {b : Bool} {s : ByteArray} (h : textB b s = true) : s.size ≤ 20 := by
  unfold textB at h
  split at h
  · have := (wordL_out h).2.1
    rwa [size_listC] at this
  · simp only [beq_iff_eq] at h
    omega
theorem greatB_out {n : Int} (h : greatB n = true) : 0 ≤ n ∧ n ≤ 9007199254740991 := by
  unfold greatB at h
  simpa using h
structure CM.Small (c : CM) : Prop where
  k1 : 1 ≤ c.kind
  k2 : c.kind ≤ 11
  o1 : 0 ≤ c.node
  o2 : c.node ≤ 6
  a1 : 0 ≤ c.ask
  a2 : c.ask ≤ 9007199254740991
  s1 : 0 ≤ c.seq
  s2 : c.seq ≤ 9007199254740991
  n1 : -1 ≤ c.n
  n2 : c.n ≤ 9007199254740991
  t : c.topic.size ≤ 20
  m : c.name.size ≤ 20
  y : c.key.size ≤ 100
  v : c.val.size ≤ 1000
theorem CM.small {c : CM} (h : c.right = true) : c.Small := by
  unfold CM.right fitsB nodeB kindOk at h
  simp only [Bool.and_eq_true, decide_eq_true_eq] at h
  obtain ⟨⟨o1, o2⟩, ha, ⟨k1, k2⟩, ht, hm, hs, hy, hv, hn⟩ := h
  have ha := greatB_out ha
  have hs2 : 0 ≤ c.seq ∧ c.seq ≤ 9007199254740991 := by
    unfold seqB at hs
    split at hs
    · exact greatB_out hs
    · simp only [beq_iff_eq] at hs; omega
  have hy2 : c.key.size ≤ 100 := by
    unfold keyB at hy
    split at hy
    · simpa using hy
    · simp only [beq_iff_eq] at hy; omega
  have hv2 : c.val.size ≤ 1000 := by
    unfold valB at hv
    split at hv
    · simpa using hv
    · simp only [beq_iff_eq] at hv; omega
  have hn2 : -1 ≤ c.n ∧ c.n ≤ 9007199254740991 := by
    unfold manyB at hn
    split at hn
    · simp only [beq_iff_eq] at hn; omega
    · split at hn
      · simp only [Bool.or_eq_true, beq_iff_eq] at hn
        rcases hn with hn | hn
        · omega
        · have := greatB_out hn; omega
      · split at hn
        · simp only [Bool.and_eq_true, decide_eq_true_eq] at hn; omega
        · split at hn
          · simp only [Bool.and_eq_true, decide_eq_true_eq] at hn; omega
          · have := greatB_out hn; omega
  exact ⟨k1, k2, o1, by omega, ha.1, ha.2, hs2.1, hs2.2, hn2.1, hn2.2, textB_le ht, textB_le hm, hy2, hv2⟩
def itemsC (c : CM) : List K.It := [⟨1, c.kind, ⟨#[]⟩⟩, ⟨4, 0, c.topic⟩, ⟨4, 0, c.name⟩, ⟨3, c.seq, ⟨#[]⟩⟩, ⟨4, 0, c.key⟩, ⟨4, 0, c.val⟩, ⟨3, c.n + 1, ⟨#[]⟩⟩, ⟨1, c.node, ⟨#[]⟩⟩, ⟨3, c.ask, ⟨#[]⟩⟩]
def codeC (c : CM) : List UInt8 := (itemsC c).flatMap K.itemB
theorem fault_long {n : Int} (_h0 : 0 ≤ n) (h1 : n < 18446744073709551616) : K.faultF ⟨3, n, ⟨#[]⟩⟩ = 0 := by
  have k3 : K.kindB 3 = true := by decide
  have w3 : (256 : Int) ^ K.widthN 3 = 18446744073709551616 := by decide
  have z0 : (⟨#[]⟩ : ByteArray).size = 0 := rfl
  unfold K.faultF
  simp only [k3, z0, w3]
  simp
  omega
theorem fault_byte {n : Int} (_h0 : 0 ≤ n) (h1 : n < 256) : K.faultF ⟨1, n, ⟨#[]⟩⟩ = 0 := by
  have k1 : K.kindB 1 = true := by decide
  have w1 : (256 : Int) ^ K.widthN 1 = 256 := by decide
  have z0 : (⟨#[]⟩ : ByteArray).size = 0 := rfl
  unfold K.faultF
  simp only [k1, z0, w1]
  simp
  omega
theorem fault_text {s : ByteArray} (h : s.size ≤ 100000) : K.faultF ⟨4, 0, s⟩ = 0 := by
  have k4 : K.kindB 4 = true := by decide
  unfold K.faultF
  simp only [k4]
  simp
  omega
theorem itemsC_fault {c : CM} (h : c.Small) : ∀ x ∈ itemsC c, K.faultF x = 0 ∧ 0 ≤ x.n := by
  obtain ⟨k1, k2, o1, o2, a1, a2, s1, s2, n1, n2, ht, hm, hy, hv⟩ := h
  intro x hx
  simp only [itemsC, List.mem_cons, List.not_mem_nil, or_false] at hx
  rcases hx with rfl | rfl | rfl | rfl | rfl | rfl | rfl | rfl | rfl
  · exact ⟨fault_byte (by omega) (by omega), by show 0 ≤ c.kind; omega⟩
  · exact ⟨fault_text (by omega), Int.le_refl _⟩
  · exact ⟨fault_text (by omega), Int.le_refl _⟩
  · exact ⟨fault_long s1 (by omega), s1⟩
  · exact ⟨fault_text (by omega), Int.le_refl _⟩
  · exact ⟨fault_text (by omega), Int.le_refl _⟩
  · exact ⟨fault_long (by omega) (by omega), by show 0 ≤ c.n + 1; omega⟩
  · exact ⟨fault_byte o1 (by omega), o1⟩
  · exact ⟨fault_long a1 (by omega), a1⟩
theorem encC {c : CM} (h : c.Small) : K.encF (itemsC c) = (codeC c, 0) := by
  unfold K.encF
  rw [if_neg (by simp [itemsC]), if_pos ((K.firstFault_zero _).2 fun x hx => (itemsC_fault h x hx).1)]
  rfl
theorem codeC_len (c : CM) : (codeC c).length = 42 + c.topic.size + c.name.size + c.key.size + c.val.size := by
  simp only [codeC, itemsC, List.flatMap_cons, List.flatMap_nil, List.length_append, List.length_nil, itemB_len]
  have z0 : (⟨#[]⟩ : ByteArray).size = 0 := rfl
  have w1 : K.widthN 1 = 1 := by decide
  have w3 : K.widthN 3 = 8 := by decide
  have w4 : K.widthN 4 = 4 := by decide
  simp only [z0, w1, w3, w4]
  omega
theorem codeC_le {c : CM} (h : c.Small) : (codeC c).length ≤ 1182 := by
  have := h.t
  have := h.m
  have := h.y
  have := h.v
  rw [codeC_len]
  omega
def shapeC : List UInt8 := [98, 116, 116, 108, 116, 116, 108, 98, 108]
def cmOf : List K.It → CM
  | [a, b, c, d, e, f, g, h, i] => ⟨a.n, b.s, c.s, d.n, e.s, f.s, g.n - 1, h.n, i.n⟩
  | _ => CM.zero
def decC (s : List UInt8) : CM × Int :=
  if (K.decF shapeC s).2 ≠ 0 then (CM.zero, (K.decF shapeC s).2) else if (cmOf (K.decF shapeC s).1).right then (cmOf (K.decF shapeC s).1, 0) else (CM.zero, 10)
theorem cut_shapeC : K.cutStar shapeC = (shapeC, [], false) := by decide
theorem ok_shapeC : K.shapeOk shapeC = true := by decide
theorem decC_read (s : List UInt8) : K.decF shapeC s = K.readF (2 * s.length + 2) [] 0 shapeC s := by
  unfold K.decF
  rw [if_pos ok_shapeC, cut_shapeC]
theorem dec_nine (s : List UInt8) (h : (K.decF shapeC s).2 = 0) : ∃ a b c d e f g h i, (K.decF shapeC s).1 = [a, b, c, d, e, f, g, h, i] := by
  rw [decC_read] at h ⊢
  have h5 := readF_len shapeC _ 0 s (by decide) (by omega) h
  generalize (K.readF (2 * s.length + 2) [] 0 shapeC s).1 = l at h5
  match l, h5 with
  | [a, b, c, d, e, f, g, h, i], _ => exact ⟨a, b, c, d, e, f, g, h, i, rfl⟩
theorem shape_itemsC (c : CM) : K.shapeF (itemsC c) = (shapeC, 0) := by
  unfold K.shapeF
  rw [if_pos (by simp only [itemsC, List.all_cons, List.all_nil]; decide)]
  simp only [itemsC, List.map_cons, List.map_nil]
  rfl
theorem cm_items (c : CM) : cmOf (itemsC c) = c := by
  obtain ⟨k, t, m, s, y, v, n, o, a⟩ := c
  show CM.mk k t m s y v (n + 1 - 1) o a = _
  rw [show n + 1 - 1 = n by omega]
theorem decC_code {c : CM} (h : c.right = true) : decC (codeC c) = (c, 0) := by
  have hs := c.small h
  have e := K.back_pure (itemsC c) (by rw [encC hs]) fun x hx => (itemsC_fault hs x hx).2
  rw [shape_itemsC, encC hs] at e
  have e2 : K.decF shapeC (codeC c) = (itemsC c, 0) := e.2
  unfold decC
  rw [e2, if_neg (fun e => e rfl)]
  show (if (cmOf (itemsC c)).right then (cmOf (itemsC c), (0 : Int)) else _) = _
  rw [cm_items, if_pos h]
theorem readF_kinds (G : List UInt8) (hG : K.allL G = true) (f : Nat) : ∀ (m : Nat) (todo rest : List UInt8), K.allL todo = true → (K.readF f G m todo rest).2 = 0 → 2 * rest.length + (if todo = [] then 1 else 0) < f → ∃ k, (K.readF f G m todo rest).1.map (fun x => K.letterF x.k) = todo ++ Lib.repeatL G k := by
  induction f with
  | zero => intro m todo rest _ _ hf; omega
  | succ f ih =>
    intro m todo rest ht h hf
    cases todo with
    | nil =>
      rw [K.readF] at h ⊢
      by_cases h1 : rest = []
      · rw [if_pos h1]
        exact ⟨0, rfl⟩
      · rw [if_neg h1] at h ⊢
        by_cases h2 : G = []
        · rw [if_pos h2] at h; simp at h
        · rw [if_neg h2] at h ⊢
          rw [if_pos rfl] at hf
          obtain ⟨k, hk⟩ := ih m G rest hG h (by rw [if_neg h2]; omega)
          exact ⟨k + 1, by rw [hk]; rfl⟩
    | cons c t =>
      obtain ⟨hc, ht⟩ := K.allL_cons c t ht
      rw [K.readF] at h ⊢
      by_cases h1 : m = 1000
      · rw [if_pos h1] at h; simp at h
      · rw [if_neg h1] at h ⊢
        by_cases h2 : (K.itemF c rest).2.2 = 0
        · rw [if_pos h2] at h ⊢
          by_cases h3 : (K.readF f G (m + 1) t (K.itemF c rest).2.1).2 = 0
          · rw [if_pos h3]
            have hl := K.itemF_less' c rest hc h2
            rw [if_neg (by simp)] at hf
            obtain ⟨k, hk⟩ := ih (m + 1) t (K.itemF c rest).2.1 ht h3 (by split <;> omega)
            obtain ⟨_, _, _, e4⟩ := K.itemF_inv c rest hc h2
            refine ⟨k, ?_⟩
            show K.letterF (K.itemF c rest).1.k :: _ = c :: (t ++ _)
            rw [hk]
            congr 1
          · rw [if_neg h3] at h; exact absurd h h3
        · rw [if_neg h2] at h; exact absurd h h2
theorem item_num {x : K.It} (h : K.faultF x = 0) {c : UInt8} (hc : K.letterF x.k = c) (hc2 : c = 98 ∨ c = 108) : x = ⟨if c = 98 then 1 else 3, x.n, ⟨#[]⟩⟩ := by
  have hk := K.kind_cases x.k (K.fault_kind x h)
  have hs := K.fault_shape x h
  obtain ⟨k, n, s⟩ := x
  simp only at hk hs hc ⊢
  have hk3 : k = (if c = 98 then 1 else 3) ∧ k ≠ 4 := by
    rcases hk with rfl | rfl | rfl | rfl
    · subst hc; exact ⟨by decide, by decide⟩
    · subst hc; exact absurd hc2 (by decide)
    · subst hc; exact ⟨by decide, by decide⟩
    · subst hc; exact absurd hc2 (by decide)
  rcases hs with ⟨_, e, _⟩ | ⟨e, _⟩
  · rw [K.mk_empty s e, ← hk3.1]
  · exact absurd e hk3.2
theorem item_text {x : K.It} (h : K.faultF x = 0) (hc : K.letterF x.k = 116) : x = ⟨4, 0, x.s⟩ := by
  have hk := K.kind_cases x.k (K.fault_kind x h)
  have hs := K.fault_shape x h
  obtain ⟨k, n, s⟩ := x
  simp only at hk hs hc ⊢
  have hk3 : k = 4 := by
    rcases hk with rfl | rfl | rfl | rfl
    · exact absurd hc (by decide)
    · exact absurd hc (by decide)
    · exact absurd hc (by decide)
    · rfl
  rcases hs with ⟨e, _⟩ | ⟨_, e, _⟩
  · exact absurd hk3 e
  · rw [hk3, e]
theorem decF_letters {shape s : List UInt8} (hs : K.shapeOk shape = true) (hc : K.cutStar shape = (shape, [], false)) (ha : K.allL shape = true) (hne : shape ≠ []) (h : (K.decF shape s).2 = 0) : (K.decF shape s).1.map (fun x => K.letterF x.k) = shape := by
  have hd : K.decF shape s = K.readF (2 * s.length + 2) [] 0 shape s := by
    unfold K.decF
    rw [if_pos hs, hc]
  obtain ⟨k, hk⟩ := readF_kinds [] (by decide) (2 * s.length + 2) 0 shape s ha (by rw [← hd]; exact h) (by rw [if_neg hne]; omega)
  rw [← hd] at hk
  rw [hk]
  clear hk hd
  have : Lib.repeatL ([] : List UInt8) k = [] := by
    induction k with
    | zero => rfl
    | succ k ih => show [] ++ Lib.repeatL [] k = []; exact ih
  rw [this, List.append_nil]
theorem dec_itemsC {s : List UInt8} (h : (K.decF shapeC s).2 = 0) : itemsC (cmOf (K.decF shapeC s).1) = (K.decF shapeC s).1 ∧ ∀ x ∈ (K.decF shapeC s).1, x.ok ∧ K.faultF x = 0 := by
  obtain ⟨h1, h2, _⟩ := K.again_pure shapeC s h
  have hf := (K.encF_zero _ (by rw [h1])).2.1
  have hl := decF_letters ok_shapeC cut_shapeC (by decide) (by decide) h
  refine ⟨?_, fun x hx => ⟨h2 x hx, hf x hx⟩⟩
  obtain ⟨a, b, c, d, e, f, g, i, j, h9⟩ := dec_nine s h
  rw [h9] at hl hf ⊢
  simp only [List.map_cons, List.map_nil, shapeC, List.cons.injEq, and_true] at hl
  obtain ⟨e1, e2, e3, e4, e5, e6, e7, e8, e9⟩ := hl
  have ha := item_num (hf a (by simp)) e1 (.inl rfl)
  have hb := item_text (hf b (by simp)) e2
  have hc := item_text (hf c (by simp)) e3
  have hd := item_num (hf d (by simp)) e4 (.inr rfl)
  have he := item_text (hf e (by simp)) e5
  have hf' := item_text (hf f (by simp)) e6
  have hg := item_num (hf g (by simp)) e7 (.inr rfl)
  have hi := item_num (hf i (by simp)) e8 (.inl rfl)
  have hj := item_num (hf j (by simp)) e9 (.inr rfl)
  show [(⟨1, a.n, ⟨#[]⟩⟩ : K.It), ⟨4, 0, b.s⟩, ⟨4, 0, c.s⟩, ⟨3, d.n, ⟨#[]⟩⟩, ⟨4, 0, e.s⟩, ⟨4, 0, f.s⟩, ⟨3, g.n - 1 + 1, ⟨#[]⟩⟩, ⟨1, i.n, ⟨#[]⟩⟩, ⟨3, j.n, ⟨#[]⟩⟩] = _
  rw [show g.n - 1 + 1 = g.n by omega, ← hb, ← hc, ← he, ← hf', show (⟨1, a.n, ⟨#[]⟩⟩ : K.It) = a from ha.symm, show (⟨3, d.n, ⟨#[]⟩⟩ : K.It) = d from hd.symm, show (⟨3, g.n, ⟨#[]⟩⟩ : K.It) = g from hg.symm, show (⟨1, i.n, ⟨#[]⟩⟩ : K.It) = i from hi.symm, show (⟨3, j.n, ⟨#[]⟩⟩ : K.It) = j from hj.symm]
theorem decC_back {s : List UInt8} (h : (decC s).2 = 0) : (decC s).1.right = true ∧ codeC (decC s).1 = s := by
  unfold decC at h ⊢
  by_cases h1 : (K.decF shapeC s).2 = 0
  · rw [if_neg (fun e => e h1)] at h ⊢
    by_cases h2 : (cmOf (K.decF shapeC s).1).right = true
    · rw [if_pos h2]
      refine ⟨h2, ?_⟩
      have h3 := (K.again_pure shapeC s h1).1
      have h4 := (K.encF_zero _ (by rw [h3])).2.2
      unfold codeC
      rw [(dec_itemsC h1).1]
      rw [h3] at h4
      exact (congrArg Prod.fst h4).symm
    · rw [if_neg h2] at h; cases h
  · rw [if_pos h1] at h
    exact absurd h h1
end Go.Proofs.YtlfodldlkchmoaaGreat
namespace Go.Proofs.YtlfodldlkchmoaaGreat
open Go.RowKit
set_option maxRecDepth 100000
end Go.Proofs.YtlfodldlkchmoaaGreat
namespace Go.Proofs.YtlfodldlkchmoaaGreat
open Go.RowKit
set_option maxRecDepth 100000
def regOf : Code → Nat → Option Code
  | .region i ops d, k => match i == k with
    | true => some (.region i ops d)
    | false => none
  | .seq a b, k => match regOf a k with
    | some c => some c
    | none => regOf b k
  | .cond _ a b, k => match regOf a k with
    | some c => some c
    | none => regOf b k
  | .block _ c, k => regOf c k
  | .loop c, k => regOf c k
  | .scope c, k => regOf c k
  | _, _ => none
theorem reg_mono {P : Program} {K : Act → World → Prop} {Q : Exit → Act → World → Prop} {c : Code} {a : Act} {w : World} (h : Code.wp P c (Exit.then K fun _ _ _ => False) a w) : Code.wp P c (Exit.then K Q) a w :=
  wp_mono h fun e a w q => by
    cases e with
    | normal => exact q
    | _ => exact False.elim q
theorem reg_all {P : Program} {Q : Exit → Act → World → Prop} {c : Code} {a : Act} {w : World} (h : Code.wp P c (Exit.then (fun a w => Q .normal a w) fun _ _ _ => False) a w) : Code.wp P c Q a w :=
  wp_mono h fun e a w q => by
    cases e with
    | normal => exact q
    | _ => exact False.elim q
theorem wp_mid {P : Program} {c1 c2 : Code} {Q : Exit → Act → World → Prop} {a : Act} {w : World} (Mid : Act → World → Prop) (h1 : Code.wp P c1 (Exit.then Mid fun _ _ _ => False) a w) (h2 : ∀ a w, Mid a w → Code.wp P c2 Q a w) : Code.wp P (c1.seq c2) Q a w :=
  wp_seq (wp_mono h1 fun e a w q => by
    cases e with
    | normal => exact h2 a w q
    | _ => exact False.elim q)
theorem slot_get {a : Act} {n : Nat} {v : Value} (h : a.tmps.getD n undef = v) : a.tmps[n]?.getD undef = v := by
  have := h
  rw [Array.getD_eq_getD_getElem?] at this
  exact this
end Go.Proofs.YtlfodldlkchmoaaGreat
namespace Go.Proofs.YtlfodldlkchmoaaGreat
open Go.RowKit
set_option maxHeartbeats 2000000
set_option maxRecDepth 100000
set_option linter.unusedSimpArgs false
set_option linter.unusedVariables false
theorem pletter (b : Nat) (hb : b < 256) (w : World) :
    Calls Tryz.prog 164 #[.int .u8 (b : Int)] w fun e w' => e = .returned (.bool (letB b)) ∧ w' = w := by
  by_cases h1 : (97 : Int) ≤ (b : Int)
  · by_cases h2 : (b : Int) ≤ 122
    · by_cases h3 : (48 : Int) ≤ (b : Int)
      · by_cases h4 : (b : Int) ≤ 57
        · exfalso
          omega
        · have hk : (letB b) = true := by
            simp [letB]
            try omega
          rw [hk]
          clear hk
          go_enter Tryz.func164, Tryz.ntmps164
          go_wp2
          go_ret
          exact ⟨rfl, rfl⟩
      · by_cases h4 : (b : Int) ≤ 57
        · exfalso
          omega
        · exfalso
          omega
    · by_cases h3 : (48 : Int) ≤ (b : Int)
      · by_cases h4 : (b : Int) ≤ 57
        · exfalso
          omega
        · have hk : (letB b) = false := by
            simp [letB]
            try omega
          rw [hk]
          clear hk
          go_enter Tryz.func164, Tryz.ntmps164
          go_wp2
          go_ret
          exact ⟨rfl, rfl⟩
      · by_cases h4 : (b : Int) ≤ 57
        · exfalso
          omega
        · exfalso
          omega
  · by_cases h2 : (b : Int) ≤ 122
    · by_cases h3 : (48 : Int) ≤ (b : Int)
      · by_cases h4 : (b : Int) ≤ 57
        · have hk : (letB b) = true := by
            simp [letB]
            try omega
          rw [hk]
          clear hk
          go_enter Tryz.func164, Tryz.ntmps164
          go_wp2
          go_ret
          exact ⟨rfl, rfl⟩
        · have hk : (letB b) = false := by
            simp [letB]
            try omega
          rw [hk]
          clear hk
          go_enter Tryz.func164, Tryz.ntmps164
          go_wp2
          go_ret
          exact ⟨rfl, rfl⟩
      · by_cases h4 : (b : Int) ≤ 57
        · have hk : (letB b) = false := by
            simp [letB]
            try omega
          rw [hk]
          clear hk
          go_enter Tryz.func164, Tryz.ntmps164
          go_wp2
          go_ret
          exact ⟨rfl, rfl⟩
        · exfalso
          omega
    · by_cases h3 : (48 : Int) ≤ (b : Int)
      · by_cases h4 : (b : Int) ≤ 57
        · exfalso
          omega
        · exfalso
          omega
      · by_cases h4 : (b : Int) ≤ 57
        · exfalso
          omega
        · exfalso
          omega
theorem pnumber (n : Int) (w : World) :
    Calls Tryz.prog 100 #[.int .i64 n] w fun e w' => e = .returned (.bool (greatB n)) ∧ w' = w := by
  by_cases h1 : 0 ≤ n
  · by_cases h2 : n ≤ 9007199254740991
    · have hk : (greatB n) = true := by
        simp [greatB, *]
        try omega
      rw [hk]
      clear hk
      go_enter Tryz.func100, Tryz.ntmps100
      go_wp2
      go_ret
      exact ⟨rfl, rfl⟩
    · have hk : (greatB n) = false := by
        simp [greatB, *]
        try omega
      rw [hk]
      clear hk
      go_enter Tryz.func100, Tryz.ntmps100
      go_wp2
      go_ret
      exact ⟨rfl, rfl⟩
  · by_cases h2 : n ≤ 9007199254740991
    · have hk : (greatB n) = false := by
        simp [greatB, *]
        try omega
      rw [hk]
      clear hk
      go_enter Tryz.func100, Tryz.ntmps100
      go_wp2
      go_ret
      exact ⟨rfl, rfl⟩
    · exfalso
      omega
theorem pnode (n : Int) (w : World) :
    Calls Tryz.prog 99 #[.int .i64 n] w fun e w' => e = .returned (.bool (nodeB n)) ∧ w' = w := by
  by_cases h1 : 0 ≤ n
  · by_cases h2 : n < 7
    · have hk : (nodeB n) = true := by
        simp [nodeB, *]
        try omega
      rw [hk]
      clear hk
      go_enter Tryz.func99, Tryz.ntmps99
      go_wp2
      go_ret
      exact ⟨rfl, rfl⟩
    · have hk : (nodeB n) = false := by
        simp [nodeB, *]
        try omega
      rw [hk]
      clear hk
      go_enter Tryz.func99, Tryz.ntmps99
      go_wp2
      go_ret
      exact ⟨rfl, rfl⟩
  · by_cases h2 : n < 7
    · have hk : (nodeB n) = false := by
        simp [nodeB, *]
        try omega
      rw [hk]
      clear hk
      go_enter Tryz.func99, Tryz.ntmps99
      go_wp2
      go_ret
      exact ⟨rfl, rfl⟩
    · exfalso
      omega
theorem pmany (n : Int) (w : World) :
    Calls Tryz.prog 163 #[.int .i64 n] w fun e w' => e = .returned (.bool ((decide (1 ≤ n) && decide (n ≤ 50)))) ∧ w' = w := by
  by_cases h1 : 1 ≤ n
  · by_cases h2 : n ≤ 50
    · have hk : ((decide (1 ≤ n) && decide (n ≤ 50))) = true := by
        simp [*]
        try omega
      rw [hk]
      clear hk
      go_enter Tryz.func163, Tryz.ntmps163
      go_wp2
      go_ret
      exact ⟨rfl, rfl⟩
    · have hk : ((decide (1 ≤ n) && decide (n ≤ 50))) = false := by
        simp [*]
        try omega
      rw [hk]
      clear hk
      go_enter Tryz.func163, Tryz.ntmps163
      go_wp2
      go_ret
      exact ⟨rfl, rfl⟩
  · by_cases h2 : n ≤ 50
    · have hk : ((decide (1 ≤ n) && decide (n ≤ 50))) = false := by
        simp [*]
        try omega
      rw [hk]
      clear hk
      go_enter Tryz.func163, Tryz.ntmps163
      go_wp2
      go_ret
      exact ⟨rfl, rfl⟩
    · exfalso
      omega
theorem pnonum (n : Int) (w : World) :
    Calls Tryz.prog 159 #[.int .i64 n] w fun e w' => e = .returned (.bool (n == 0)) ∧ w' = w := by
  go_enter Tryz.func159, Tryz.ntmps159
  go_wp2
  go_ret
  exact ⟨rfl, rfl⟩
theorem pkey (s : ByteArray) (h63 : s.size ≤ 9223372036854775807) (w : World) :
    Calls Tryz.prog 160 #[.string s] w fun e w' => e = .returned (.bool (decide (s.size ≤ 100))) ∧ w' = w := by
  by_cases h1 : (s.size : Int) ≤ 100
  · have hk : (decide (s.size ≤ 100)) = true := by
      simp []
      try omega
    rw [hk]
    clear hk
    go_enter Tryz.func160, Tryz.ntmps160
    go_wp2
    go_ret
    exact ⟨rfl, rfl⟩
  · have hk : (decide (s.size ≤ 100)) = false := by
      simp []
      try omega
    rw [hk]
    clear hk
    go_enter Tryz.func160, Tryz.ntmps160
    go_wp2
    go_ret
    exact ⟨rfl, rfl⟩
theorem pvalue (s : ByteArray) (h63 : s.size ≤ 9223372036854775807) (w : World) :
    Calls Tryz.prog 161 #[.string s] w fun e w' => e = .returned (.bool (decide (s.size ≤ 1000))) ∧ w' = w := by
  by_cases h1 : (s.size : Int) ≤ 1000
  · have hk : (decide (s.size ≤ 1000)) = true := by
      simp []
      try omega
    rw [hk]
    clear hk
    go_enter Tryz.func161, Tryz.ntmps161
    go_wp2
    go_ret
    exact ⟨rfl, rfl⟩
  · have hk : (decide (s.size ≤ 1000)) = false := by
      simp []
      try omega
    rw [hk]
    clear hk
    go_enter Tryz.func161, Tryz.ntmps161
    go_wp2
    go_ret
    exact ⟨rfl, rfl⟩
theorem empty_list {s : ByteArray} : s.toList.isEmpty = (s.size == 0) := by
  have e : s.toList = s.data.toList := by rw [ByteArray.toList_eq]
  rw [e, ← size_listC]
  cases s.data.toList <;> rfl
theorem pnotext (s : ByteArray) (w : World) :
    Calls Tryz.prog 158 #[.string s] w fun e w' => e = .returned (.bool (s.size == 0)) ∧ w' = w := by
  have hE := @empty_list s
  by_cases h : s.size = 0
  · have h1 : (s.size == 0) = true := by simpa using h
    rw [h1] at hE ⊢
    go_enter Tryz.func158, Tryz.ntmps158
    go_wp2
    go_ret
    exact ⟨rfl, rfl⟩
  · have h1 : (s.size == 0) = false := by simpa using h
    rw [h1] at hE ⊢
    go_enter Tryz.func158, Tryz.ntmps158
    go_wp2
    go_ret
    exact ⟨rfl, rfl⟩
def minusB (n : Int) : Bool := n == -1 || greatB n
theorem pminus (n : Int) (w : World) :
    Calls Tryz.prog 162 #[.int .i64 n] w fun e w' => e = .returned (.bool (minusB n)) ∧ w' = w := by
  have HN := hide (pnumber n)
  by_cases h : n = -1
  · subst h
    go_enter Tryz.func162, Tryz.ntmps162
    go_wp2
    go_ret
    exact ⟨rfl, rfl⟩
  · have h1 : (n == -1) = false := by simpa using h
    have h2 : minusB n = greatB n := by unfold minusB; rw [h1]; rfl
    rw [h2]
    generalize greatB n = g at *
    go_enter Tryz.func162, Tryz.ntmps162
    go_wp2_with (go_at_call 100; refine (HN.out _).mono ?_; rintro e w' ⟨rfl, rfl⟩)
    go_ret
    exact ⟨rfl, rfl⟩
def backN (n : Int) : Int := wrap64 (IntKind.u64.wrap (n - 1))
theorem backN_eq {n : Int} (h1 : 0 ≤ n) (h2 : n < 18446744073709551616) : backN n = if n ≤ 9223372036854775808 then n - 1 else n - 1 - 18446744073709551616 := by
  unfold backN
  simp only [IntKind.wrap_u64]
  unfold wrap64
  split <;> omega
theorem pback (n : Int) (w : World) :
    Calls Tryz.prog 98 #[.int .u64 n] w fun e w' => e = .returned (.int .i64 (backN n)) ∧ w' = w := by
  unfold backN
  go_enter Tryz.func98, Tryz.ntmps98
  go_wp2
  go_ret
  first | exact ⟨rfl, rfl⟩
theorem take_snocC (s : ByteArray) (k : Nat) (h : k < s.size) : s.data.toList.take (k + 1) = s.data.toList.take k ++ [s[k]] := by
  have hl : k < s.data.toList.length := by simpa using h
  have : s[k] = s.data.toList[k] := rfl
  rw [this, List.take_add_one, List.getElem?_eq_getElem hl]
  rfl
theorem word_short {s : ByteArray} (h : s.size = 0) : wordB s = false := by
  unfold wordB wordL
  rw [size_listC, h]
  rfl
theorem word_long {s : ByteArray} (h : 20 < s.size) : wordB s = false := by
  unfold wordB wordL
  rw [size_listC, decide_eq_false (show ¬ s.size ≤ 20 by omega)]
  simp
theorem word_bad {s : ByteArray} {k : Nat} (h : k < s.size) (hb : letB s[k].toNat = false) : wordB s = false := by
  have : (s.data.toList.all fun b => letB b.toNat) = false := by
    rw [List.all_eq_false]
    exact ⟨s[k], List.getElem_mem _, by rw [hb]; simp⟩
  unfold wordB wordL
  rw [this]
  simp
theorem word_good {s : ByteArray} (h1 : s.size ≠ 0) (h2 : s.size ≤ 20) (h : (s.data.toList.all fun b => letB b.toNat) = true) : wordB s = true := by
  unfold wordB wordL
  rw [h, size_listC, decide_eq_true (show 1 ≤ s.size by omega), decide_eq_true h2]
  rfl
theorem pword (s : ByteArray) (h63 : s.size ≤ 9223372036854775807) (w : World) :
    Calls Tryz.prog 129 #[.string s] w fun e w' => e = .returned (.bool (wordB s)) ∧ w' = w := by
  have hE := @empty_list s
  by_cases h : s.size = 0
  · have h1 : (s.size == 0) = true := by simpa using h
    rw [h1] at hE
    rw [word_short h]
    clear h h1
    go_enter Tryz.func129, Tryz.ntmps129
    go_wp2
    go_ret
    exact ⟨rfl, rfl⟩
  · have h1 : (s.size == 0) = false := by simpa using h
    rw [h1] at hE
    by_cases h2 : (s.size : Int) > 20
    · rw [word_long (by omega)]
      clear h h1
      go_enter Tryz.func129, Tryz.ntmps129
      go_wp2
      go_ret
      exact ⟨rfl, rfl⟩
    · have HG := hide (fun hh => word_good h (by omega) hh)
      have HB := hide (fun k (hk : k < s.size) hb => word_bad (s := s) hk hb)
      have HW := hide (fun b hb => pletter b hb)
      have hle : (s.size : Int) ≤ 20 := by omega
      generalize wordB s = r at *
      clear h h1
      go_enter Tryz.func129, Tryz.ntmps129
      go_wp2
      go_loopw [13] (fun iv wv => ∃ k : Nat, k ≤ s.size ∧ iv = .int .i64 k ∧ wv = w ∧ Hid (((s.data.toList.take k).all fun b => letB b.toNat) = true)) (fun iv _ => s.size - (intOf iv).toNat)
      case atStart => exact ⟨0, Nat.zero_le _, rfl, rfl, rfl⟩
      case round =>
        obtain ⟨k, hk, rfl, rfl, HJ⟩ := hrel
        by_cases hlt : k < s.size
        · have hlt2 : (k : Int) < (s.size : Int) := by omega
          have HX : Hid (letB s[k].toNat = true → ((s.data.toList.take (k + 1)).all fun b => letB b.toNat) = true) := fun hb => by
            rw [take_snocC s k hlt, List.all_append, HJ.out]
            simp [hb]
          have HY := hide (HB.out k hlt)
          have HP := hide (HW.out s[k].toNat (UInt8.toNat_lt s[k]))
          clear HB HW HJ
          by_cases hb : letB s[k].toNat = true
          · rw [hb] at HP
            have HZ := hide (HX.out hb)
            clear hb HX HY
            go_wp2_with (go_at_call 164; refine (HP.out _).mono ?_; rintro e w' ⟨rfl, rfl⟩)
            exact ⟨⟨k + 1, by omega, by go_num, trivial, HZ⟩, by simp [intOf]; omega⟩
          · rw [Bool.not_eq_true] at hb
            rw [hb] at HP
            have HR := hide (HY.out hb)
            clear hb HX HY
            go_wp2_with fail
            refine (HP.out _).mono ?_
            rintro e w' ⟨rfl, rfl⟩
            go_wp2
            go_ret
            exact ⟨by rw [HR.out]; rfl, rfl⟩
        · have hlt2 : ¬ (k : Int) < (s.size : Int) := by omega
          have e : s.data.toList.take k = s.data.toList := List.take_of_length_le (by simp; omega)
          have HR := hide (HG.out (by have := HJ.out; rwa [e] at this))
          clear e HJ HB HW HG
          go_wp2
          go_ret
          exact ⟨by rw [HR.out]; rfl, rfl⟩
end Go.Proofs.YtlfodldlkchmoaaGreat
