/-
  Commands on lists: which are right (cut out of wip/command's C1).
-/
import Derived.Test.YtominplelmbecaaZM0
import Derived.Test.YtominplelmbecaaProg
namespace Go.Proofs.Ytominplelmbecaa

structure CM where
  kind : Int
  topic : ByteArray
  name : ByteArray
  seq : Int
  key : ByteArray
  val : ByteArray
  n : Int
  node : Int
  ask : Int
def CM.zero : CM := ⟨0, ⟨#[]⟩, ⟨#[]⟩, 0, ⟨#[]⟩, ⟨#[]⟩, 0, 0, 0⟩
/-- A letter or digit; a word. -/
def letB (b : Nat) : Bool := (decide (97 ≤ b) && decide (b ≤ 122)) || (decide (48 ≤ b) && decide (b ≤ 57))
def wordL (l : List UInt8) : Bool := decide (1 ≤ l.length) && decide (l.length ≤ 20) && l.all fun b => letB b.toNat
def wordB (s : ByteArray) : Bool := wordL s.data.toList
def greatB (n : Int) : Bool := decide (0 ≤ n) && decide (n ≤ 9007199254740991)
def hasTopic (k : Int) : Bool := decide (1 ≤ k ∧ k ≤ 3) || decide (8 ≤ k ∧ k ≤ 9)
def hasName (k : Int) : Bool := decide (2 ≤ k ∧ k ≤ 7)
def textB (b : Bool) (s : ByteArray) : Bool := if b then wordB s else s.size == 0
/-- A Seq, a Key, a Value of a kind; its N. -/
def seqB (k : Int) (n : Int) : Bool := if k = 2 then greatB n else n == 0
def keyB (k : Int) (s : ByteArray) : Bool := if k = 2 then decide (s.size ≤ 100) else s.size == 0
def valB (k : Int) (s : ByteArray) : Bool := if k = 2 then decide (s.size ≤ 1000) else s.size == 0
def manyB (k : Int) (n : Int) : Bool :=
  if k = 1 ∨ k = 2 ∨ k = 4 then n == 0 else if k = 3 then (n == -1 || greatB n) else if k = 5 then decide (1 ≤ n) && decide (n ≤ 50)
  else if k = 10 ∨ k = 11 then decide (0 ≤ n) && decide (n < 7) else greatB n
def fitsB (c : CM) : Bool := textB (hasTopic c.kind) c.topic && (textB (hasName c.kind) c.name && (seqB c.kind c.seq && (keyB c.kind c.key && (valB c.kind c.val && manyB c.kind c.n))))
def kindOk (k : Int) : Bool := decide (1 ≤ k) && decide (k ≤ 11)
def nodeB (n : Int) : Bool := decide (0 ≤ n) && decide (n < 7)
def CM.right (c : CM) : Bool := nodeB c.node && (greatB c.ask && (kindOk c.kind && fitsB c))
theorem wordL_out {l : List UInt8} (h : wordL l = true) : 1 ≤ l.length ∧ l.length ≤ 20 ∧ l.all (fun b => letB b.toNat) = true := by
  unfold wordL at h
  simp only [Bool.and_eq_true, decide_eq_true_eq] at h
  exact ⟨h.1.1, h.1.2, h.2⟩
theorem size_listC (s : ByteArray) : s.data.toList.length = s.size := by simp
theorem textB_le {b : Bool} {s : ByteArray} (h : textB b s = true) : s.size ≤ 20 := by
  unfold textB at h
  split at h
  · have := (wordL_out h).2.1
    rwa [size_listC] at this
  · simp only [beq_iff_eq] at h
    omega
theorem greatB_out {n : Int} (h : greatB n = true) : 0 ≤ n ∧ n ≤ 9007199254740991 := by
  unfold greatB at h
  simpa using h
/-- The bounds of a right command. -/
structure CM.Small (c : CM) : Prop where
  k1 : 1 ≤ c.kind
  k2 : c.kind ≤ 11
  o1 : 0 ≤ c.node
  o2 : c.node ≤ 6
  a1 : 0 ≤ c.ask
  a2 : c.ask ≤ 9007199254740991
  s1 : 0 ≤ c.seq
  s2 : c.seq ≤ 9007199254740991
  n1 : -1 ≤ c.n
  n2 : c.n ≤ 9007199254740991
  t : c.topic.size ≤ 20
  m : c.name.size ≤ 20
  y : c.key.size ≤ 100
  v : c.val.size ≤ 1000
theorem CM.small {c : CM} (h : c.right = true) : c.Small := by
  unfold CM.right fitsB nodeB kindOk at h
  simp only [Bool.and_eq_true, decide_eq_true_eq] at h
  obtain ⟨⟨o1, o2⟩, ha, ⟨k1, k2⟩, ht, hm, hs, hy, hv, hn⟩ := h
  have ha := greatB_out ha
  have hs2 : 0 ≤ c.seq ∧ c.seq ≤ 9007199254740991 := by
    unfold seqB at hs
    split at hs
    · exact greatB_out hs
    · simp only [beq_iff_eq] at hs; omega
  have hy2 : c.key.size ≤ 100 := by
    unfold keyB at hy
    split at hy
    · simpa using hy
    · simp only [beq_iff_eq] at hy; omega
  have hv2 : c.val.size ≤ 1000 := by
    unfold valB at hv
    split at hv
    · simpa using hv
    · simp only [beq_iff_eq] at hv; omega
  have hn2 : -1 ≤ c.n ∧ c.n ≤ 9007199254740991 := by
    unfold manyB at hn
    split at hn
    · simp only [beq_iff_eq] at hn; omega
    · split at hn
      · simp only [Bool.or_eq_true, beq_iff_eq] at hn
        rcases hn with hn | hn
        · omega
        · have := greatB_out hn; omega
      · split at hn
        · simp only [Bool.and_eq_true, decide_eq_true_eq] at hn; omega
        · split at hn
          · simp only [Bool.and_eq_true, decide_eq_true_eq] at hn; omega
          · have := greatB_out hn; omega
  exact ⟨k1, k2, o1, by omega, ha.1, ha.2, hs2.1, hs2.2, hn2.1, hn2.2, textB_le ht, textB_le hm, hy2, hv2⟩

end Go.Proofs.Ytominplelmbecaa

