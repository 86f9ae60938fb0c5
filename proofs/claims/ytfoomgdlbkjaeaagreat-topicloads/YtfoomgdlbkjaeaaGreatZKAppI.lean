/-
  Appending a list of items, wherever it lies, to one that the call owns.
-/
import Derived.Test.YtfoomgdlbkjaeaaGreatZKPure
import Derived.Test.YtfoomgdlbkjaeaaGreatZKW14
import Derived.Laws.AppendOwnNone
namespace Go.Proofs.YtfoomgdlbkjaeaaGreat.K
theorem beBytes_succ (k v : Nat) : Lib.beBytes (k + 1) v = Lib.beBytes k (v / 256) ++ [(v % 256).toUInt8] := by
  simp [Lib.beBytes, Lib.leBytes]
theorem beNat_beBytes (k v : Nat) (h : v < 256 ^ k) : Lib.beNat (Lib.beBytes k v) = v := by
  induction k generalizing v with
  | zero => simp at h; subst h; rfl
  | succ k ih =>
    rw [beBytes_succ, beNat_snoc, ih (v / 256) (by rw [Nat.pow_succ] at h; omega), Lib.toUInt8_mod]
    omega
theorem snoc_of (l : List UInt8) (k : Nat) (h : l.length = k + 1) : ∃ a c, l = a ++ [c] ∧ a.length = k := by
  have hne : l ≠ [] := by intro e; rw [e] at h; simp at h
  refine ⟨l.dropLast, l.getLast hne, (List.dropLast_concat_getLast hne).symm, by rw [List.length_dropLast]; omega⟩
theorem beBytes_beNat (k : Nat) (l : List UInt8) (h : l.length = k) : Lib.beBytes k (Lib.beNat l) = l := by
  induction k generalizing l with
  | zero => simp at h; subst h; rfl
  | succ k ih =>
    obtain ⟨a, c, rfl, ha⟩ := snoc_of l k h
    have hc := c.toNat_lt
    have h1 : (Lib.beNat a * 256 + c.toNat) / 256 = Lib.beNat a := by omega
    have h2 : (Lib.beNat a * 256 + c.toNat) % 256 = c.toNat := by omega
    rw [beNat_snoc, beBytes_succ, h1, h2, ih a ha]
    simp
theorem kind_cases (k : Int) (h : kindB k = true) : k = 1 ∨ k = 2 ∨ k = 3 ∨ k = 4 := by
  simp [kindB] at h
  omega
theorem kindOfL_letterF (k : Int) (h : kindB k = true) : kindOfL (letterF k) = k := by
  rcases kind_cases k h with rfl | rfl | rfl | rfl <;> rfl
theorem isLetter_letterF (k : Int) (h : kindB k = true) : isLetter (letterF k) = true := by
  rcases kind_cases k h with rfl | rfl | rfl | rfl <;> rfl
theorem letterF_ne (k : Int) : letterF k ≠ 42 := by
  unfold letterF
  split
  · decide
  · split
    · decide
    · split <;> decide
theorem fault_kind (x : It) (h : faultF x = 0) : kindB x.k = true := by
  unfold faultF at h
  cases hk : kindB x.k with
  | true => rfl
  | false => rw [hk] at h; simp at h
theorem fault_shape (x : It) (h : faultF x = 0) : (x.k ≠ 4 ∧ x.s.size = 0 ∧ x.n < 256 ^ widthN x.k) ∨ (x.k = 4 ∧ x.n = 0 ∧ x.s.size ≤ 100000) := by
  have hk := fault_kind x h
  unfold faultF at h
  rw [hk] at h
  simp only [Bool.true_eq_false, if_false] at h
  by_cases h4 : x.k = 4
  · right
    by_cases hn : x.n = 0
    · by_cases hs : 100000 < x.s.size
      · simp [h4, hn, hs] at h
      · exact ⟨h4, hn, by omega⟩
    · simp [h4, hn] at h
  · left
    by_cases hs : x.s.size = 0
    · by_cases hn : x.n < 256 ^ widthN x.k
      · exact ⟨h4, hs, hn⟩
      · simp [h4, hs, hn] at h
    · simp [h4, hs] at h
theorem numOf_lt (x : It) (h : faultF x = 0) (h0 : 0 ≤ x.n) : numOf x < 256 ^ widthN x.k := by
  unfold numOf
  rcases fault_shape x h with ⟨h4, _, hn⟩ | ⟨h4, _, hs⟩
  · rw [if_neg h4]
    obtain ⟨n, hn'⟩ := Int.eq_ofNat_of_zero_le h0
    rw [hn'] at hn ⊢
    rw [Int.toNat_natCast]
    have e : ((256 ^ widthN x.k : Nat) : Int) = (256 : Int) ^ widthN x.k := Int.natCast_pow 256 _
    rw [← e] at hn
    omega
  · have w4 : widthN x.k = 4 := by rw [h4]; rfl
    rw [if_pos h4, w4]
    omega
theorem mk_empty (s : ByteArray) (h : s.size = 0) : s = ⟨#[]⟩ := by
  obtain ⟨d⟩ := s
  congr
  exact Array.eq_empty_of_size_eq_zero h
theorem mk_back (s : ByteArray) : (⟨s.data.toList.toArray⟩ : ByteArray) = s := by obtain ⟨d⟩ := s; rfl
theorem itemF_item (x : It) (rest : List UInt8) (h : faultF x = 0) (h0 : 0 ≤ x.n) : itemF (letterF x.k) (itemB x ++ rest) = (x, rest, 0) := by
  have hk := fault_kind x h
  have hlt := numOf_lt x h h0
  have hl : (Lib.beBytes (widthN x.k) (numOf x)).length = widthN x.k := Lib.beBytes_length _ _
  unfold itemF itemB
  rw [kindOfL_letterF x.k hk, List.append_assoc]
  rw [if_neg (by rw [List.length_append, hl]; omega)]
  rcases fault_shape x h with ⟨h4, hs, _⟩ | ⟨h4, hn, hs⟩
  · rw [if_neg h4, List.take_left' hl, List.drop_left' hl, beNat_beBytes _ _ hlt]
    have e1 : x.s.data.toList = [] := List.eq_nil_of_length_eq_zero (by simpa using hs)
    have e2 : ((numOf x : Nat) : Int) = x.n := by unfold numOf; rw [if_neg h4]; omega
    rw [e1, List.nil_append, e2, ← mk_empty x.s hs]
  · have w4 : widthN x.k = 4 := by rw [h4]; rfl
    rw [w4] at hl hlt ⊢
    have e1 : numOf x = x.s.size := by unfold numOf; rw [if_pos h4]
    rw [if_pos h4, List.take_left' hl, List.drop_left' hl, beNat_beBytes _ _ hlt, e1]
    have e2 : x.s.data.toList.length = x.s.size := by simp
    rw [if_neg (by omega), if_neg (by rw [List.length_append, e2]; omega), List.take_left' e2, List.drop_left' e2, mk_back]
    obtain ⟨k, n, s⟩ := x
    simp only at h4 hn
    subst h4 hn
    rfl
theorem readF_back (l : List It) (m f : Nat) (hm : m + l.length ≤ 1000) (hl : ∀ x ∈ l, faultF x = 0 ∧ 0 ≤ x.n) (hf : l.length < f) :
    readF f [] m (l.map fun x => letterF x.k) (l.flatMap itemB) = (l, 0) := by
  induction l generalizing m f with
  | nil =>
    obtain ⟨g, rfl⟩ : ∃ g, f = g + 1 := ⟨f - 1, by simp at hf; omega⟩
    simp [readF]
  | cons x l ih =>
    obtain ⟨g, rfl⟩ : ∃ g, f = g + 1 := ⟨f - 1, by simp at hf; omega⟩
    obtain ⟨h1, h2⟩ := hl x (by simp)
    have h3 := ih (m + 1) g (by simp at hm; omega) (fun y hy => hl y (by simp [hy])) (by simp at hf; omega)
    rw [List.map_cons, List.flatMap_cons, readF, itemF_item x _ h1 h2]
    simp only [List.length_cons] at hm
    rw [if_neg (by omega), if_pos rfl, h3, if_pos rfl]
theorem indexByte_none (l : List UInt8) (c : UInt8) (h : ∀ x ∈ l, x ≠ c) : Lib.indexByte l c = -1 := by
  induction l with
  | nil => rfl
  | cons b l ih =>
    have h1 : (b == c) = false := by simpa using h b (by simp)
    have h2 := ih fun x hx => h x (by simp [hx])
    simp [Lib.indexByte, h1, h2]
theorem cutStar_letters (l : List UInt8) (h : ∀ x ∈ l, x ≠ 42) : cutStar l = (l, [], false) := by
  unfold cutStar
  rw [indexByte_none l 42 h, if_pos (by omega)]
theorem letters_star (l : List It) : ∀ x ∈ (l.map fun x => letterF x.k), x ≠ 42 := by
  intro x hx
  obtain ⟨y, _, rfl⟩ := List.mem_map.1 hx
  exact letterF_ne y.k
theorem letters_all (l : List It) (h : ∀ x ∈ l, kindB x.k = true) : allL (l.map fun x => letterF x.k) = true := by
  unfold allL
  rw [List.all_eq_true]
  intro x hx
  obtain ⟨y, hy, rfl⟩ := List.mem_map.1 hx
  exact isLetter_letterF y.k (h y hy)
theorem shapeOk_letters (l : List It) (h : ∀ x ∈ l, kindB x.k = true) : shapeOk (l.map fun x => letterF x.k) = true := by
  unfold shapeOk
  rw [cutStar_letters _ (letters_star l)]
  simp only [Bool.false_and, Bool.not_false, Bool.true_and]
  rw [letters_all l h]
  rfl
theorem decF_letters (l : List It) (s : List UInt8) (h : ∀ x ∈ l, kindB x.k = true) : decF (l.map fun x => letterF x.k) s = readF (2 * s.length + 2) [] 0 (l.map fun x => letterF x.k) s := by
  unfold decF
  rw [shapeOk_letters l h, if_pos rfl, cutStar_letters _ (letters_star l)]
theorem firstFault_zero (l : List It) : firstFault l = 0 ↔ ∀ x ∈ l, faultF x = 0 := by
  induction l with
  | nil => simp [firstFault]
  | cons x l ih =>
    simp only [firstFault, List.mem_cons, forall_eq_or_imp]
    by_cases h : faultF x = 0
    · rw [if_pos h, ih]; simp [h]
    · rw [if_neg h]; simp [h]
theorem itemB_pos (x : It) : 1 ≤ (itemB x).length := by
  unfold itemB
  rw [List.length_append, Lib.beBytes_length]
  have : 1 ≤ widthN x.k := by
    unfold widthN
    split
    · omega
    · split <;> omega
  omega
theorem items_le (l : List It) : l.length ≤ (l.flatMap itemB).length := by
  induction l with
  | nil => simp
  | cons x l ih =>
    have := itemB_pos x
    rw [List.flatMap_cons, List.length_append, List.length_cons]
    omega
theorem encF_zero (l : List It) (h : (encF l).2 = 0) : l.length ≤ 1000 ∧ (∀ x ∈ l, faultF x = 0) ∧ encF l = (l.flatMap itemB, 0) := by
  unfold encF at *
  by_cases h1 : 1000 < l.length
  · rw [if_pos h1] at h; simp at h
  · rw [if_neg h1] at h ⊢
    by_cases h2 : firstFault l = 0
    · rw [if_pos h2]
      exact ⟨by omega, (firstFault_zero l).1 h2, rfl⟩
    · rw [if_neg h2] at h
      exact absurd h h2
theorem shapeF_ok (l : List It) (h : ∀ x ∈ l, kindB x.k = true) : shapeF l = (l.map fun x => letterF x.k, 0) := by
  unfold shapeF
  rw [if_pos]
  rw [List.all_eq_true]
  exact h
theorem back_pure (l : List It) (h : (encF l).2 = 0) (hn : ∀ x ∈ l, 0 ≤ x.n) : (shapeF l).2 = 0 ∧ decF (shapeF l).1 (encF l).1 = (l, 0) := by
  obtain ⟨h1, h2, h3⟩ := encF_zero l h
  have hk : ∀ x ∈ l, kindB x.k = true := fun x hx => fault_kind x (h2 x hx)
  rw [shapeF_ok l hk, h3]
  refine ⟨rfl, ?_⟩
  show decF (l.map fun x => letterF x.k) (l.flatMap itemB) = (l, 0)
  rw [decF_letters l _ hk]
  exact readF_back l 0 _ (by omega) (fun x hx => ⟨h2 x hx, hn x hx⟩) (by have := items_le l; omega)
end Go.Proofs.YtfoomgdlbkjaeaaGreat.K
namespace Go.Proofs.YtfoomgdlbkjaeaaGreat.K
open Go.ChangeShapes Go.WideShapes Go.ChangeAt Go.RowKit
theorem own : ownKnob Tryz.prog.godebug = none := by kernel_rfl
end Go.Proofs.YtfoomgdlbkjaeaaGreat.K
namespace Go.Proofs.YtfoomgdlbkjaeaaGreat.K
open Go.RowKit
theorem items_news {w : World} {ad : Addr} {l : List It} (h : ItemsAt w (some ad) l) : ∀ (j : Nat) (u : Value), (itemCells l)[j]? = some u → w.cell? (ad.add j) = some u := by
  intro j u hj
  have hjl : j < (itemCells l).length := (List.getElem?_eq_some_iff.1 hj).1
  rw [itemCells_length] at hjl
  have hi : j / 3 < l.length := by omega
  obtain ⟨b, off, hb, _, c0, c1, c2⟩ := h (j / 3) hi
  injection hb with hb
  subst hb
  have hm : j % 3 = 0 ∨ j % 3 = 1 ∨ j % 3 = 2 := by omega
  have e : j = j / 3 * 3 + j % 3 := by omega
  have hg := itemCells_get l (j / 3) (j % 3) hi (by omega)
  rw [← e, hj] at hg
  rw [addr_add]
  rcases hm with hm | hm | hm
  · rw [hm] at hg e
    have : u = .int .i64 l[j / 3].k := by simpa [It.cells] using hg
    rw [this, ← c0]
    congr 2
    omega
  · rw [hm] at hg e
    have : u = .int .u64 l[j / 3].n := by simpa [It.cells] using hg
    rw [this, ← c1]
    congr 2
    omega
  · rw [hm] at hg e
    have : u = .string l[j / 3].s := by simpa [It.cells] using hg
    rw [this, ← c2]
    congr 2
    omega
theorem itemCells_one (l : List It) : ∀ u ∈ itemCells l, u.oneCell' = true := by
  intro u hu
  obtain ⟨x, _, hx⟩ := List.mem_flatMap.1 hu
  simp [It.cells] at hx
  rcases hx with rfl | rfl | rfl <;> rfl
theorem itemCells_append (k l : List It) : itemCells (k ++ l) = itemCells k ++ itemCells l := by simp [itemCells]
theorem wpList_append_items {w : World} {ops : Array Oper} {rest : List Oper} {o : Oper} {a : Act} {Q : Exit → Act → World → Prop} (hgd : o.guard = none) (s x : Operand)
    (ho : o.op = .call { callee := .builtin .append, args := #[s, x], argTypes := #[66, 66] }) (base : Nat) (v : Value) (k : List It) (hs : a.eval s = v) (hown : w.ownsRow base 83 3 v k.length (itemCells k))
    (xo : Option Addr) (xcap : Nat) (l : List It) (hx : a.eval x = .slice xo l.length xcap) (hnil : xo = none → xcap = 0 ∧ l = []) (hat : ItemsAt w xo l) (hlen : k.length + l.length ≤ 4398046511104) (hbase : base ≤ w.heap.size)
    (h : ∀ v' w', w'.ownsRow base 83 3 v' (k ++ l).length (itemCells (k ++ l)) → w.grownBy w' v.ownBlock → wpList Tryz.prog ops Q rest (a.put o.dst v') w') : wpList Tryz.prog ops Q (o :: rest) a w := by
  cases xo with
  | none =>
    obtain ⟨rfl, rfl⟩ := hnil rfl
    refine wpList_append_own_none hgd s x 66 ho base 83 Tryz.t83 3 Tryz.underlying66 Tryz.info83 v k.length (itemCells k) hs hown hx ?_
    exact h v w (by rw [List.append_nil]; exact hown) ⟨rfl, rfl, rfl, Nat.le_refl _, fun _ _ _ => rfl⟩
  | some ad =>
    refine wpList_append_own w hgd s x 66 ho base 83 Tryz.t83 (.agg #[.int .i64 0, .int .u64 0, .string ⟨#[]⟩]) 3 32 Tryz.underlying66 Tryz.info83 Tryz.zero83 Tryz.cells83 Tryz.bytes83 rfl (by decide) v k.length (itemCells k) hs hown
      ad l.length xcap (itemCells l) hx (itemCells_length l) (items_news hat) (itemCells_one l) (by unfold maxLen; omega) (by omega) hbase ?_
    intro v' w' h1 h2 _
    exact h v' w' (by rw [List.length_append, itemCells_append]; exact h1) h2
end Go.Proofs.YtfoomgdlbkjaeaaGreat.K
