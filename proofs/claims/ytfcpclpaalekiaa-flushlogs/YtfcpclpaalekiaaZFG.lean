/-
  A view and its log as bytes, on lists: written, read.
-/
import Derived.Test.YtfcpclpaalekiaaZFH
import Derived.Test.YtfcpclpaalekiaaZV3
namespace Go.Proofs.Ytfcpclpaalekiaa
def txI (s : ByteArray) : K.It := ⟨4, 0, s⟩
def sizeF : List ByteArray → Nat
  | [] => 0
  | s :: l => 4 + s.size + sizeF l
theorem sizeF_append (a b : List ByteArray) : sizeF (a ++ b) = sizeF a + sizeF b := by
  induction a with
  | nil => show sizeF b = 0 + sizeF b; omega
  | cons x a ih => show 4 + x.size + sizeF (a ++ b) = 4 + x.size + sizeF a + sizeF b; rw [ih]; omega
theorem sizeF_mem {l : List ByteArray} {s : ByteArray} (h : s ∈ l) : 4 + s.size ≤ sizeF l := by
  induction l with
  | nil => cases h
  | cons x l ih =>
    show _ ≤ 4 + x.size + sizeF l
    rcases List.mem_cons.1 h with e | e
    · subst e; omega
    · have := ih e; omega
theorem sizeF_le (l : List ByteArray) (m : Nat) (h : ∀ s ∈ l, s.size ≤ m) : sizeF l ≤ l.length * (4 + m) := by
  induction l with
  | nil => exact Nat.zero_le _
  | cons x l ih =>
    show 4 + x.size + sizeF l ≤ (l.length + 1) * (4 + m)
    have h1 := ih fun s hs => h s (List.mem_cons_of_mem _ hs)
    have h2 := h x List.mem_cons_self
    rw [Nat.add_mul]
    omega
def headV (v : VW) : ByteArray := ⟨(codeV v).toArray⟩
def itemsL (v : VW) (log : List ByteArray) : List K.It := txI (headV v) :: log.map txI
def fitsL (v : VW) (log : List ByteArray) : Prop := log.length ≤ 990 ∧ sizeF (headV v :: log) ≤ 100000
instance (v : VW) (log : List ByteArray) : Decidable (fitsL v log) := inferInstanceAs (Decidable (_ ∧ _))
def encL (v : VW) (log : List ByteArray) : List UInt8 × Int := if v.right then (if fitsL v log then ((itemsL v log).flatMap K.itemB, 0) else ([], 3)) else ([], 1)
def shapeL : List UInt8 := [116, 42, 116]
def decL (s : List UInt8) : VW × List ByteArray × Int :=
  if (K.decF shapeL s).2 ≠ 0 then (⟨0, []⟩, [], (K.decF shapeL s).2)
  else if (decV ((K.decF shapeL s).1.headD K.It.zero).s.data.toList).2 = 0 ∧ (K.decF shapeL s).1.length ≤ 991 then ((decV ((K.decF shapeL s).1.headD K.It.zero).s.data.toList).1, (K.decF shapeL s).1.tail.map (·.s), 0)
  else (⟨0, []⟩, [], 10)
theorem txI_fault {s : ByteArray} (h : s.size ≤ 100000) : K.faultF (txI s) = 0 := by
  have k4 : K.kindB 4 = true := by decide
  unfold K.faultF txI
  simp only [k4]
  simp
  omega
theorem itemsL_fault {v : VW} {log : List ByteArray} (h : fitsL v log) : ∀ x ∈ itemsL v log, K.faultF x = 0 ∧ 0 ≤ x.n := by
  intro x hx
  have : ∃ s ∈ headV v :: log, x = txI s := by
    unfold itemsL at hx
    rcases List.mem_cons.1 hx with e | e
    · exact ⟨_, List.mem_cons_self, e⟩
    · obtain ⟨s, hs, rfl⟩ := List.mem_map.1 e
      exact ⟨s, List.mem_cons_of_mem _ hs, rfl⟩
  obtain ⟨s, hs, rfl⟩ := this
  exact ⟨txI_fault (by have := sizeF_mem hs; have := h.2; omega), Int.le_refl 0⟩
theorem encF_L {v : VW} {log : List ByteArray} (h : fitsL v log) : K.encF (itemsL v log) = ((itemsL v log).flatMap K.itemB, 0) := by
  have hl := h.1
  unfold K.encF
  rw [if_neg (by unfold itemsL; simp; omega), if_pos ((K.firstFault_zero _).2 fun x hx => (itemsL_fault h x hx).1)]
theorem repeat_t (l : List ByteArray) : (l.map txI).map (fun x => K.letterF x.k) = Lib.repeatL [116] l.length := by
  induction l with
  | nil => rfl
  | cons m L ih =>
    show K.letterF 4 :: (L.map txI).map (fun x => K.letterF x.k) = 116 :: Lib.repeatL [116] L.length
    rw [ih]
    rfl
theorem tail_log (l : List ByteArray) : (l.map txI).map (·.s) = l := by
  induction l with
  | nil => rfl
  | cons x l ih => show x :: (l.map txI).map (·.s) = x :: l; rw [ih]
theorem decL_code {v : VW} {log : List ByteArray} (hv : v.right) (h : fitsL v log) : decL ((itemsL v log).flatMap K.itemB) = (v, log, 0) := by
  have he := encF_L h
  have hb := K.back_pure (itemsL v log) (by rw [he]) fun x hx => (itemsL_fault h x hx).2
  have hs : (K.shapeF (itemsL v log)).1 = [116] ++ Lib.repeatL [116] log.length := by
    rw [K.shapeF_ok _ fun x hx => K.fault_kind x (itemsL_fault h x hx).1]
    show K.letterF 4 :: (log.map txI).map (fun x => K.letterF x.k) = _
    rw [repeat_t]
    rfl
  have hd : K.decF ([116] ++ Lib.repeatL [116] log.length) ((itemsL v log).flatMap K.itemB) = (itemsL v log, 0) := by
    have := hb.2
    rw [he, hs] at this
    exact this
  have hstar := K.star_pure [116] [116] ((itemsL v log).flatMap K.itemB) log.length (by decide) (by decide) (by decide) (by decide) (by rw [hd])
  have hd2 : K.decF shapeL ((itemsL v log).flatMap K.itemB) = (itemsL v log, 0) := hstar.trans hd
  have hc : (headV v).data.toList = codeV v := by simp [headV]
  have h1 := h.1
  unfold decL
  rw [hd2, if_neg (fun e => e rfl)]
  show (if (decV (headV v).data.toList).2 = 0 ∧ (log.map txI).length + 1 ≤ 991 then ((decV (headV v).data.toList).1, (log.map txI).map (·.s), (0 : Int)) else _) = _
  rw [hc, decV_code hv, if_pos ⟨rfl, by rw [List.length_map]; omega⟩, tail_log]
theorem decL_encL {v : VW} {log : List ByteArray} (h : (encL v log).2 = 0) : decL (encL v log).1 = (v, log, 0) ∧ v.right := by
  unfold encL at h ⊢
  by_cases h1 : v.right
  · rw [if_pos h1] at h ⊢
    by_cases h2 : fitsL v log
    · rw [if_pos h2]; exact ⟨decL_code h1 h2, h1⟩
    · rw [if_neg h2] at h; cases h
  · rw [if_neg h1] at h; cases h
theorem item_t {x : K.It} (h : K.faultF x = 0) (hc : K.letterF x.k = 116) : x = txI x.s := by
  have hk := K.kind_cases x.k (K.fault_kind x h)
  have hs := K.fault_shape x h
  obtain ⟨k, n, s⟩ := x
  simp only at hk hs hc ⊢
  have hk3 : k = 4 := by
    rcases hk with rfl | rfl | rfl | rfl
    · exact absurd hc (by decide)
    · exact absurd hc (by decide)
    · exact absurd hc (by decide)
    · rfl
  subst hk3
  have hn : n = 0 := by
    unfold K.faultF at h
    have k4 : K.kindB 4 = true := by decide
    simp only [k4] at h
    simp at h
    exact Decidable.byContradiction fun e => by rw [if_neg e] at h; cases h
  unfold txI
  rw [hn]
theorem items_t (l : List K.It) (hf : ∀ x ∈ l, K.faultF x = 0) : ∀ k, l.map (fun x => K.letterF x.k) = Lib.repeatL [116] k → (l.map (·.s)).map txI = l := by
  intro k
  induction k generalizing l with
  | zero =>
    intro h
    have e : l = [] := List.map_eq_nil_iff.1 h
    rw [e]
    rfl
  | succ k ih =>
    intro h
    match l, h, hf with
    | [], h, _ => simp [Lib.repeatL] at h
    | a :: l, h, hf =>
      have h2 : K.letterF a.k :: l.map (fun x => K.letterF x.k) = 116 :: Lib.repeatL [116] k := h
      injection h2 with e1 h2
      show txI a.s :: (l.map (·.s)).map txI = a :: l
      rw [ih l (fun x hx => hf x (by simp [hx])) h2, ← item_t (hf a (by simp)) e1]
theorem decF_L {s : List UInt8} (h : (K.decF shapeL s).2 = 0) : ∃ (x : ByteArray) (log : List ByteArray), (K.decF shapeL s).1 = txI x :: log.map txI ∧ (txI x :: log.map txI).flatMap K.itemB = s ∧ x.size ≤ 100000 ∧ (∀ y ∈ log, y.size ≤ 100000) ∧ log.length ≤ 999 := by
  obtain ⟨h1, h2, h3⟩ := K.again_pure shapeL s h
  have hf := (K.encF_zero _ (by rw [h1])).2.1
  have hs : K.shapeOk shapeL = true := by decide
  have hc : K.cutStar shapeL = ([116], [116], true) := by decide
  have hd : K.decF shapeL s = K.readF (2 * s.length + 2) [116] 0 [116] s := by
    unfold K.decF
    rw [if_pos hs, hc]
  obtain ⟨k, hk⟩ := readF_kinds [116] (by decide) (2 * s.length + 2) 0 [116] s (by decide) (by rw [← hd]; exact h) (by simp)
  rw [← hd] at hk
  have hfl := (K.encF_zero _ (by rw [h1])).2.2
  rw [h1] at hfl
  generalize (K.decF shapeL s).1 = its at *
  have e3 := items_t its hf (k + 1) (by rw [hk]; rfl)
  have h32 : ∀ y ∈ its.map (·.s), y.size ≤ 100000 := fun y hy => by
    obtain ⟨x, hx, rfl⟩ := List.mem_map.1 hy
    have := hf x hx
    unfold K.faultF at this
    split at this
    · cases this
    · split at this
      · cases this
      · split at this
        · cases this
        · split at this
          · cases this
          · omega
  cases its with
  | nil => simp at hk
  | cons a l =>
    have e4 : txI a.s :: (l.map (·.s)).map txI = a :: l := e3
    refine ⟨a.s, l.map (·.s), e4.symm, ?_, h32 _ (by simp), fun y hy => h32 y (by simp at hy ⊢; exact .inr hy), ?_⟩
    · rw [e4]; exact (congrArg Prod.fst hfl).symm
    · rw [List.length_map]; simp at h3; omega
end Go.Proofs.Ytfcpclpaalekiaa
