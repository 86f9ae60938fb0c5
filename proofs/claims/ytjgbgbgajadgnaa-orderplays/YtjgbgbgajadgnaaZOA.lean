/-
  A log in a view, on lists; the middle one of sorted counts; nothing of the program is in this text.
-/
import Derived.Test.YtjgbgbgajadgnaaZM0
import Derived.WalkKit
namespace Go.Proofs.Ytjgbgbgajadgnaa
open Go.RowKit

/-- How many are not below v. -/
def cnt (l : List Nat) (v : Nat) : Nat := l.countP fun x => decide (v ≤ x)
def sortI (l : List Nat) : List Int := (l.map fun (x : Nat) => (x : Int)).mergeSort fun x y => decide (x ≤ y)
theorem sortI_length (l : List Nat) : (sortI l).length = l.length := by unfold sortI; rw [List.length_mergeSort, List.length_map]
theorem sortI_perm (l : List Nat) : (sortI l).Perm (l.map fun (x : Nat) => (x : Int)) := List.mergeSort_perm _ _
theorem sortI_sorted (l : List Nat) : (sortI l).Pairwise (fun a b => a ≤ b) := by
  have h := List.pairwise_mergeSort (le := fun (x y : Int) => decide (x ≤ y)) (fun a b c h1 h2 => by simp at *; omega) (fun a b => by simp; omega) (l.map fun (x : Nat) => (x : Int))
  exact h.imp fun h => by simpa using h
def midI (l : List Nat) : Int := (sortI l).getD ((l.length - 1) / 2) 0
def midN (l : List Nat) : Nat := (midI l).toNat
theorem midI_get (l : List Nat) (h : l ≠ []) : ∃ hk : (l.length - 1) / 2 < (sortI l).length, midI l = (sortI l)[(l.length - 1) / 2] := by
  have h0 : 0 < l.length := List.length_pos_iff.2 h
  have hk : (l.length - 1) / 2 < (sortI l).length := by rw [sortI_length]; omega
  exact ⟨hk, by unfold midI; simp [List.getD_eq_getElem?_getD, hk]⟩
theorem mid_cast (l : List Nat) (h : l ≠ []) : midI l = (midN l : Int) := by
  obtain ⟨hk, e⟩ := midI_get l h
  have : midI l ∈ l.map fun (x : Nat) => (x : Int) := by
    rw [e]
    exact (sortI_perm l).mem_iff.1 (List.getElem_mem hk)
  obtain ⟨x, _, hx⟩ := List.mem_map.1 this
  unfold midN
  omega
theorem mid_mem (l : List Nat) (h : l ≠ []) : midN l ∈ l := by
  obtain ⟨hk, e⟩ := midI_get l h
  have : midI l ∈ l.map fun (x : Nat) => (x : Int) := by
    rw [e]
    exact (sortI_perm l).mem_iff.1 (List.getElem_mem hk)
  obtain ⟨x, hx, h2⟩ := List.mem_map.1 this
  rw [mid_cast l h] at h2
  have : x = midN l := by omega
  rw [← this]; exact hx
theorem cnt_sort (l : List Nat) (v : Nat) : cnt l v = (sortI l).countP fun x => decide ((v : Int) ≤ x) := by
  rw [(sortI_perm l).countP_eq, List.countP_map]
  unfold cnt
  congr 1
  funext x
  simp
theorem mid_iff (l : List Nat) (h : l ≠ []) (v : Nat) : v ≤ midN l ↔ l.length < 2 * cnt l v := by
  obtain ⟨hk, e⟩ := midI_get l h
  have hl := sortI_length l
  have h0 : 0 < l.length := List.length_pos_iff.2 h
  have hs := sortI_sorted l
  have hc := mid_cast l h
  rw [cnt_sort]
  rw [List.pairwise_iff_getElem] at hs
  generalize sortI l = s at *
  have split : s.countP (fun x => decide ((v : Int) ≤ x)) = (s.take ((l.length - 1) / 2)).countP (fun x => decide ((v : Int) ≤ x)) + (s.drop ((l.length - 1) / 2)).countP (fun x => decide ((v : Int) ≤ x)) := by
    rw [← List.countP_append, List.take_append_drop]
  constructor
  · intro hv
    have : (s.drop ((l.length - 1) / 2)).countP (fun x => decide ((v : Int) ≤ x)) = (s.drop ((l.length - 1) / 2)).length := by
      rw [List.countP_eq_length]
      intro x hx
      obtain ⟨j, hj, rfl⟩ := List.getElem_of_mem hx
      rw [List.length_drop] at hj
      rw [List.getElem_drop]
      have : s[(l.length - 1) / 2] ≤ s[(l.length - 1) / 2 + j] := by
        rcases Nat.eq_zero_or_pos j with rfl | hp
        · exact Int.le_refl _
        · exact hs _ _ hk (by omega) (by omega)
      simp
      omega
    rw [List.length_drop] at this
    omega
  · intro hv
    apply Classical.byContradiction
    intro hn
    have h1 : (s.take ((l.length - 1) / 2 + 1)).countP (fun x => decide ((v : Int) ≤ x)) = 0 := by
      rw [List.countP_eq_zero]
      intro x hx
      obtain ⟨j, hj, rfl⟩ := List.getElem_of_mem hx
      rw [List.length_take] at hj
      rw [List.getElem_take]
      have : s[j] ≤ s[(l.length - 1) / 2] := by
        rcases Nat.lt_or_ge j ((l.length - 1) / 2) with hp | hp
        · exact hs _ _ (by omega) hk hp
        · have : j = (l.length - 1) / 2 := by omega
          subst this
          exact Int.le_refl _
      simp
      omega
    have h2 : s.countP (fun x => decide ((v : Int) ≤ x)) = (s.take ((l.length - 1) / 2 + 1)).countP (fun x => decide ((v : Int) ≤ x)) + (s.drop ((l.length - 1) / 2 + 1)).countP (fun x => decide ((v : Int) ≤ x)) := by
      rw [← List.countP_append, List.take_append_drop]
    have h3 : (s.drop ((l.length - 1) / 2 + 1)).countP (fun x => decide ((v : Int) ≤ x)) ≤ (s.drop ((l.length - 1) / 2 + 1)).length := List.countP_le_length
    rw [List.length_drop] at h3
    omega
theorem cnt_mono {l l' : List Nat} (hl : l.length = l'.length) (h : ∀ i (hi : i < l.length), l[i] ≤ l'[i]'(hl ▸ hi)) (v : Nat) : cnt l v ≤ cnt l' v := by
  induction l generalizing l' with
  | nil => exact Nat.zero_le _
  | cons a l ih =>
    match l', hl with
    | b :: l', hl =>
      have h0 := h 0 (by simp)
      have := ih (l' := l') (by simpa using hl) (fun i hi => by have := h (i + 1) (by simpa using hi); simpa using this)
      simp only [cnt, List.countP_cons] at *
      simp only [List.getElem_cons_zero] at h0
      by_cases ha : v ≤ a
      · have hb : v ≤ b := by omega
        simp [ha, hb]; exact this
      · simp [ha]
        exact Nat.le_trans this (Nat.le_add_right _ _)

/-- A log in a view. -/
structure OS where
  self : Nat
  nodes : List Nat
  log : List ByteArray
  bytes : Int
  sure : Nat
  had : List Nat
def addB (b : Int) (s : ByteArray) : Int := wrap64 (b + ((s.size : Int) + 4))
def bytesF (l : List ByteArray) : Int := l.foldl addB 0
def OS.first (o : OS) : Bool := decide (o.nodes.getD 0 7 = o.self)
def OS.fits (o : OS) (s : ByteArray) : Bool := decide (addB o.bytes s ≤ 45000)
def OS.keep (o : OS) (s : ByteArray) : OS := { o with log := o.log ++ [s], bytes := addB o.bytes s, had := o.had.set o.self (o.log.length + 1) }
def OS.counts (o : OS) : List Nat := o.nodes.map fun i => o.had.getD i 0
def OS.make (o : OS) : OS := { o with sure := midN o.counts }
def OS.asks (o : OS) (node : Int) : Bool := o.first && decide (node ≠ (o.self : Int)) && o.nodes.any fun i => decide ((i : Int) = node)
/-- Propose: the place, the error. -/
def OS.propose (o : OS) (s : ByteArray) : OS × Int × Int :=
  if o.first then (if o.fits s then ((o.keep s).make, (o.log.length : Int), 0) else (o, 0, 8)) else (o, 0, 11)
def OS.add (o : OS) (i : Int) (s : ByteArray) : OS × Bool :=
  if o.first = false ∧ i = (o.log.length : Int) ∧ o.fits s = true then (o.keep s, true) else (o, false)
def OS.hasN (o : OS) (node n : Nat) : OS := { o with had := o.had.set node (max (o.had.getD node 0) n) }
def OS.has (o : OS) (node n : Int) : OS × Bool :=
  if o.asks node = true ∧ 0 ≤ n ∧ n ≤ (o.log.length : Int) then ((o.hasN node.toNat n.toNat).make, true) else (o, false)
def OS.learn (o : OS) (n : Int) : OS × Bool :=
  if o.first = false ∧ (o.sure : Int) < min n (o.log.length : Int) then ({ o with sure := (min n (o.log.length : Int)).toNat }, true) else (o, false)
def OS.wants (o : OS) (node most : Int) : Int × List ByteArray :=
  if o.asks node then ((o.had.getD node.toNat 0 : Nat), (o.log.drop (o.had.getD node.toNat 0)).take most.toNat) else (-1, [])
/-- One that may be. -/
structure OS.Ok (o : OS) : Prop where
  ne : o.nodes ≠ []
  lt : ∀ i ∈ o.nodes, i < 7
  self : o.self ∈ o.nodes
  seven : o.had.length = 7
  had : ∀ i ∈ o.had, i ≤ o.log.length
  sure : o.sure ≤ o.log.length
  text : ∀ s ∈ o.log, s.size ≤ 140737488351232
  rises : o.nodes.Pairwise (· < ·)
theorem rises_len {l : List Nat} {n a : Nat} (h : l.Pairwise (· < ·)) (h1 : ∀ i ∈ l, i < n) (h2 : ∀ i ∈ l, a ≤ i) : l.length + a ≤ max n a := by
  induction l generalizing a with
  | nil => simp; omega
  | cons x r ih =>
    obtain ⟨h3, h4⟩ := List.pairwise_cons.1 h
    have hx1 := h1 x (by simp)
    have hx2 := h2 x (by simp)
    have := ih (a := x + 1) h4 (fun i hi => h1 i (by simp [hi])) (fun i hi => h3 i hi)
    simp only [List.length_cons]
    omega
theorem OS.Ok.len {o : OS} (h : o.Ok) : o.nodes.length ≤ 7 := by
  have := rises_len h.rises h.lt (a := 0) (fun _ _ => Nat.zero_le _)
  omega
theorem OS.Ok.pos {o : OS} (h : o.Ok) : 0 < o.nodes.length := List.length_pos_iff.2 h.ne
theorem OS.Ok.slf {o : OS} (h : o.Ok) : o.self < 7 := h.lt _ h.self
theorem OS.Ok.get {o : OS} (h : o.Ok) (i : Nat) : o.had.getD i 0 ≤ o.log.length := by
  rw [List.getD_eq_getElem?_getD]
  rcases Nat.lt_or_ge i o.had.length with hi | hi
  · rw [List.getElem?_eq_getElem hi]
    exact h.had _ (List.getElem_mem hi)
  · rw [List.getElem?_eq_none hi]
    exact Nat.zero_le _
theorem OS.Ok.cne {o : OS} (h : o.Ok) : o.counts ≠ [] := by
  unfold OS.counts
  intro e
  exact h.ne (List.map_eq_nil_iff.1 e)
theorem OS.Ok.keep {o : OS} (h : o.Ok) (s : ByteArray) (hs : s.size ≤ 140737488351232) : (o.keep s).Ok := by
  refine ⟨h.ne, h.lt, h.self, by simp [OS.keep, h.seven], fun i hi => ?_, ?_, fun x hx => ?_, h.rises⟩
  · simp only [OS.keep, List.length_append, List.length_cons, List.length_nil] at *
    rcases List.mem_or_eq_of_mem_set hi with hi | rfl
    · have := h.had i hi; omega
    · omega
  · have := h.sure
    simp only [OS.keep, List.length_append, List.length_cons, List.length_nil]
    omega
  · simp only [OS.keep, List.mem_append, List.mem_cons, List.not_mem_nil, or_false] at hx
    rcases hx with hx | rfl
    · exact h.text x hx
    · exact hs
theorem OS.Ok.make {o : OS} (h : o.Ok) : o.make.Ok := by
  refine ⟨h.ne, h.lt, h.self, h.seven, h.had, ?_, h.text, h.rises⟩
  have := mid_mem o.counts h.cne
  obtain ⟨i, _, e⟩ := List.mem_map.1 this
  have h2 := h.get i
  rw [e] at h2
  exact h2
theorem OS.Ok.hasN {o : OS} (h : o.Ok) {node n : Nat} (hn : n ≤ o.log.length) : (o.hasN node n).Ok := by
  refine ⟨h.ne, h.lt, h.self, by simp [OS.hasN, h.seven], fun i hi => ?_, h.sure, h.text, h.rises⟩
  rcases List.mem_or_eq_of_mem_set hi with hi | rfl
  · exact h.had i hi
  · have := h.get node
    show max _ _ ≤ o.log.length
    omega
theorem OS.Ok.asks {o : OS} (h : o.Ok) {node : Int} (ha : o.asks node = true) : o.first = true ∧ node ≠ (o.self : Int) ∧ node.toNat ∈ o.nodes ∧ (node.toNat : Int) = node ∧ node.toNat < 7 := by
  unfold OS.asks at ha
  simp only [Bool.and_eq_true, decide_eq_true_eq, List.any_eq_true] at ha
  obtain ⟨⟨h1, h2⟩, i, hi, e⟩ := ha
  have e2 : node.toNat = i := by omega
  exact ⟨h1, h2, by rw [e2]; exact hi, by omega, by rw [e2]; exact h.lt i hi⟩
theorem OS.Ok.propose {o : OS} (h : o.Ok) (s : ByteArray) (hs : s.size ≤ 140737488351232) : (o.propose s).1.Ok := by
  unfold OS.propose
  split
  · split
    · exact (h.keep s hs).make
    · exact h
  · exact h
theorem OS.Ok.add {o : OS} (h : o.Ok) (i : Int) (s : ByteArray) (hs : s.size ≤ 140737488351232) : (o.add i s).1.Ok := by
  unfold OS.add
  split
  · exact h.keep s hs
  · exact h
theorem OS.Ok.has {o : OS} (h : o.Ok) (node n : Int) : (o.has node n).1.Ok := by
  unfold OS.has
  split
  · rename_i hc
    exact (h.hasN (by omega)).make
  · exact h
theorem OS.Ok.learn {o : OS} (h : o.Ok) (n : Int) : (o.learn n).1.Ok := by
  unfold OS.learn
  split
  · refine ⟨h.ne, h.lt, h.self, h.seven, h.had, ?_, h.text, h.rises⟩
    show (min n (o.log.length : Int)).toNat ≤ o.log.length
    omega
  · exact h
/-- New. -/
def risingF (a : Int) : List Int → Bool
  | [] => true
  | x :: r => !(decide (x ≤ a) || decide (7 ≤ x)) && risingF x r
def newOk (self : Int) (nodes : List Int) : Bool := risingF (-1) nodes && nodes.any fun x => decide (x = self)
def OS.new (self : Int) (nodes : List Int) (log : List ByteArray) : OS :=
  ⟨self.toNat, nodes.map Int.toNat, log, bytesF log, log.length, (List.range 7).map fun i => if (nodes.map Int.toNat).contains i then log.length else 0⟩
theorem risingF_spec {nodes : List Int} {a : Int} (ha : -1 ≤ a) (h : risingF a nodes = true) : (∀ x ∈ nodes, a < x ∧ x < 7) ∧ (nodes.map Int.toNat).Pairwise (· < ·) := by
  induction nodes generalizing a with
  | nil => exact ⟨fun x hx => by simp at hx, List.Pairwise.nil⟩
  | cons x r ih =>
    unfold risingF at h
    simp only [Bool.and_eq_true, Bool.not_eq_true', Bool.or_eq_false_iff, decide_eq_false_iff_not] at h
    obtain ⟨⟨h1, h2⟩, h3⟩ := h
    obtain ⟨h4, h5⟩ := ih (by omega) h3
    refine ⟨fun y hy => ?_, ?_⟩
    · rcases List.mem_cons.1 hy with rfl | hy
      · omega
      · have := h4 y hy; omega
    · rw [List.map_cons, List.pairwise_cons]
      refine ⟨fun y hy => ?_, h5⟩
      obtain ⟨z, hz, rfl⟩ := List.mem_map.1 hy
      have := h4 z hz
      omega
theorem OS.Ok.new {self : Int} {nodes : List Int} {log : List ByteArray} (h : newOk self nodes = true) (ht : ∀ s ∈ log, s.size ≤ 140737488351232) : (OS.new self nodes log).Ok := by
  unfold newOk at h
  simp only [Bool.and_eq_true, List.any_eq_true, decide_eq_true_eq] at h
  obtain ⟨h1, x, hx, rfl⟩ := h
  obtain ⟨h2, h3⟩ := risingF_spec (by omega) h1
  refine ⟨fun e => ?_, fun i hi => ?_, ?_, by simp [OS.new], fun i hi => ?_, Nat.le_refl _, ht, h3⟩
  · have : nodes = [] := List.map_eq_nil_iff.1 e
    rw [this] at hx
    cases hx
  · obtain ⟨z, hz, rfl⟩ := List.mem_map.1 hi
    have := h2 z hz
    omega
  · exact List.mem_map_of_mem hx
  · obtain ⟨j, _, rfl⟩ := List.mem_map.1 hi
    show (if _ then log.length else 0) ≤ log.length
    split <;> omega
end Go.Proofs.Ytjgbgbgajadgnaa
