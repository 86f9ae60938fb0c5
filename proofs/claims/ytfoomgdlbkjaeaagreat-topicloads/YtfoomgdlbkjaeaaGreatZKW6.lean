/-
  A scope in which the run jumps to one of two labels, the second one entered from above: what holds at each jump, and a measure that every pass lowers.
-/
import Derived.Scope
import Derived.WalkMore
import Derived.Test.YtfoomgdlbkjaeaaGreatZKW4
namespace Go.Proofs.YtfoomgdlbkjaeaaGreat.K
def jump2 (J0 J1 : Act → World → Prop) (Q : Exit → Act → World → Prop) : Exit → Act → World → Prop
  | .goto l, a, w => (l = 0 ∧ J0 a w) ∨ (l = 1 ∧ J1 a w)
  | e, a, w => Q e a w
section
variable {P : Program} {a : Act} {w : World} {Q : Exit → Act → World → Prop}
theorem wp_scope_two {c r0 r1 : Code} (J0 J1 : Act → World → Prop) (m0 m1 : Act → World → Nat) (h0 : findLabel c 0 = some (.seq .skip r0)) (h1 : findLabel c 1 = some (.seq .skip r1))
    (pass0 : ∀ a w, J0 a w → r0.wp P (jump2 (fun a' w' => J0 a' w' ∧ m0 a' w' < m0 a w) (fun a' w' => J1 a' w' ∧ m1 a' w' < m0 a w) Q) a w)
    (pass1 : ∀ a w, J1 a w → r1.wp P (jump2 (fun a' w' => J0 a' w' ∧ m0 a' w' < m1 a w) (fun a' w' => J1 a' w' ∧ m1 a' w' < m1 a w) Q) a w)
    (first : (∀ a w, J1 a w → r1.wp P (jump2 J0 J1 Q) a w) → c.wp P (jump2 J0 J1 Q) a w) : (Code.scope c).wp P Q a w := by
  have skip : ∀ (r : Code) (R : Exit → Act → World → Prop) a w, r.wp P R a w → (Code.seq .skip r).wp P R a w := fun r R a w h => wp_seq (wp_skip h)
  have first' := first fun a w h => wp_mono (pass1 a w h) fun e a w q => by
    cases e with
    | goto l => exact q.elim (fun x => Or.inl ⟨x.1, x.2.1⟩) (fun x => Or.inr ⟨x.1, x.2.1⟩)
    | _ => exact q
  intro b k cs
  have hg0 : gotoIn 0 (.inScope c :: k) = some (.code (.seq .skip r0) :: .inScope c :: k) := by simp [gotoIn, h0]
  have hg1 : gotoIn 1 (.inScope c :: k) = some (.code (.seq .skip r1) :: .inScope c :: k) := by simp [gotoIn, h1]
  have key : ∀ n a w, (m0 a w = n → J0 a w → ∃ e a' w', Q e a' w' ∧ Arrives P (lone (b.at a (.code (.seq .skip r0) :: .inScope c :: k)) cs w) b k cs e a' w') ∧
      (m1 a w = n → J1 a w → ∃ e a' w', Q e a' w' ∧ Arrives P (lone (b.at a (.code (.seq .skip r1) :: .inScope c :: k)) cs w) b k cs e a' w') := by
    intro n
    induction n using Nat.strongRecOn with
    | _ n ih =>
      intro a w
      constructor
      · intro hn hJ
        obtain ⟨e, a₁, w₁, hq, harr⟩ := skip _ _ _ _ (pass0 a w hJ) b (.inScope c :: k) cs
        cases e with
        | normal => exact ⟨.normal, a₁, w₁, hq, Steps.trans harr (.one step_inScope)⟩
        | exit id => exact ⟨.exit id, a₁, w₁, hq, fun k' hk => harr k' (by simp [exitTo, hk])⟩
        | goto l' =>
          rcases hq with ⟨rfl, hJ', hlt⟩ | ⟨rfl, hJ', hlt⟩
          · obtain ⟨e₂, a₂, w₂, hq₂, harr₂⟩ := (ih _ (by omega) a₁ w₁).1 rfl hJ'
            exact ⟨e₂, a₂, w₂, hq₂, .of_steps (harr _ hg0) harr₂⟩
          · obtain ⟨e₂, a₂, w₂, hq₂, harr₂⟩ := (ih _ (by omega) a₁ w₁).2 rfl hJ'
            exact ⟨e₂, a₂, w₂, hq₂, .of_steps (harr _ hg1) harr₂⟩
        | ret => exact ⟨_, a₁, w₁, hq, harr⟩
        | panic ch => exact ⟨_, a₁, w₁, hq, harr⟩
        | outgrown => exact ⟨_, a₁, w₁, hq, harr⟩
      · intro hn hJ
        obtain ⟨e, a₁, w₁, hq, harr⟩ := skip _ _ _ _ (pass1 a w hJ) b (.inScope c :: k) cs
        cases e with
        | normal => exact ⟨.normal, a₁, w₁, hq, Steps.trans harr (.one step_inScope)⟩
        | exit id => exact ⟨.exit id, a₁, w₁, hq, fun k' hk => harr k' (by simp [exitTo, hk])⟩
        | goto l' =>
          rcases hq with ⟨rfl, hJ', hlt⟩ | ⟨rfl, hJ', hlt⟩
          · obtain ⟨e₂, a₂, w₂, hq₂, harr₂⟩ := (ih _ (by omega) a₁ w₁).1 rfl hJ'
            exact ⟨e₂, a₂, w₂, hq₂, .of_steps (harr _ hg0) harr₂⟩
          · obtain ⟨e₂, a₂, w₂, hq₂, harr₂⟩ := (ih _ (by omega) a₁ w₁).2 rfl hJ'
            exact ⟨e₂, a₂, w₂, hq₂, .of_steps (harr _ hg1) harr₂⟩
        | ret => exact ⟨_, a₁, w₁, hq, harr⟩
        | panic ch => exact ⟨_, a₁, w₁, hq, harr⟩
        | outgrown => exact ⟨_, a₁, w₁, hq, harr⟩
  obtain ⟨e, a₁, w₁, hq, harr⟩ := first' b (.inScope c :: k) cs
  cases e with
  | normal => exact ⟨.normal, a₁, w₁, hq, .head step_scope (Steps.trans harr (.one step_inScope))⟩
  | exit id => exact ⟨.exit id, a₁, w₁, hq, fun k' hk => .head step_scope (harr k' (by simp [exitTo, hk]))⟩
  | goto l' =>
    rcases hq with ⟨rfl, hJ'⟩ | ⟨rfl, hJ'⟩
    · obtain ⟨e₂, a₂, w₂, hq₂, harr₂⟩ := (key _ a₁ w₁).1 rfl hJ'
      exact ⟨e₂, a₂, w₂, hq₂, .of_steps (.head step_scope (harr _ hg0)) harr₂⟩
    · obtain ⟨e₂, a₂, w₂, hq₂, harr₂⟩ := (key _ a₁ w₁).2 rfl hJ'
      exact ⟨e₂, a₂, w₂, hq₂, .of_steps (.head step_scope (harr _ hg1)) harr₂⟩
  | ret => exact ⟨_, a₁, w₁, hq, .of_steps (.one step_scope) harr⟩
  | panic ch => exact ⟨_, a₁, w₁, hq, .of_steps (.one step_scope) harr⟩
  | outgrown => exact ⟨_, a₁, w₁, hq, .of_steps (.one step_scope) harr⟩
end
end Go.Proofs.YtfoomgdlbkjaeaaGreat.K
namespace Go.Proofs.YtfoomgdlbkjaeaaGreat.K
open Go.RowKit
set_option maxHeartbeats 1000000
set_option maxRecDepth 100000
def It.cells (x : It) : List Value := [.int .i64 x.k, .int .u64 x.n, .string x.s]
def itemCells (l : List It) : List Value := l.flatMap It.cells
theorem itemCells_length (l : List It) : (itemCells l).length = l.length * 3 := by
  unfold itemCells
  induction l with
  | nil => rfl
  | cons x l ih => simp [It.cells, ih]; omega
theorem itemCells_snoc (l : List It) (x : It) : itemCells (l ++ [x]) = itemCells l ++ x.cells := by simp [itemCells]
structure RS (w w' : World) (v : Value) (l : List It) (x : It) : Prop where
  below : Below w.heap.size w w'
  box : w'.heap[w.heap.size]? = some (.cells #[.int .i64 x.k, .int .u64 x.n, .string x.s] 83 (0, 0))
  own : w'.ownsRow (w.heap.size + 1) 83 3 v l.length (itemCells l)
theorem RS.init (w : World) : RS w (w.alloc (.cells #[.int .i64 0, .int .u64 0, .string ⟨#[]⟩] 83)) (.slice none 0 0) [] It.zero :=
  ⟨(Below.refl _ _).alloc (Nat.le_refl _) _, by show (w.heap.push _)[w.heap.size]? = _; simp [It.zero], ⟨rfl, Or.inl ⟨rfl, rfl⟩⟩⟩
theorem RS.lt {w w' : World} {v : Value} {l : List It} {x : It} (h : RS w w' v l x) : w.heap.size < w'.heap.size := (Array.getElem?_eq_some_iff.1 h.box).1
theorem own_below {w w' : World} {B N : Nat} {e : TypeId} {size : Nat} {v : Value} {n : Nat} {xs : List Value} (h : w.ownsRow B e size v n xs) (hb : Below N w w') (hN : w.heap.size ≤ N) : w'.ownsRow B e size v n xs := by
  refine ⟨h.1, ?_⟩
  rcases h.2 with h2 | ⟨g, cap, cur, hv, hg, hh, r⟩
  · exact Or.inl h2
  · exact Or.inr ⟨g, cap, cur, hv, hg, by rw [hb.block g (by have := (Array.getElem?_eq_some_iff.1 hh).1; omega)]; exact hh, r⟩
theorem RS.after {w w' w2 : World} {v : Value} {l : List It} {x : It} (h : RS w w' v l x) (hb : Below w'.heap.size w' w2) : RS w w2 v l x :=
  ⟨h.below.trans (hb.mono (by have := h.lt; omega)), by rw [hb.block _ h.lt]; exact h.box, own_below h.own hb (Nat.le_refl _)⟩
theorem RS.cells {w w' : World} {v : Value} {l : List It} {x : It} (h : RS w w' v l x) : w'.cell? ⟨w.heap.size, 0, none⟩ = some (.int .i64 x.k) ∧ w'.cell? ⟨w.heap.size, 1, none⟩ = some (.int .u64 x.n) ∧ w'.cell? ⟨w.heap.size, 2, none⟩ = some (.string x.s) :=
  ⟨by rw [Lib.cell_of_heap h.box]; rfl, by rw [Lib.cell_of_heap h.box]; rfl, by rw [Lib.cell_of_heap h.box]; rfl⟩
theorem RS.frozen {w w' : World} {v : Value} {l : List It} {x : It} (h : RS w w' v l x) (j : Nat) : w'.frozen? ⟨w.heap.size, j, none⟩ = false := Lib.frozen_of_heap h.box j
theorem RS.store {w w' : World} {v : Value} {l : List It} {x : It} (h : RS w w' v l x) (y : It) :
    RS w (((w'.setCell ⟨w.heap.size, 0, none⟩ (.int .i64 y.k)).setCell ⟨w.heap.size, 1, none⟩ (.int .u64 y.n)).setCell ⟨w.heap.size, 2, none⟩ (.string y.s)) v l y := by
  refine ⟨below3 h.below _ (Nat.le_refl _) _ _ _, ?_, ?_⟩
  · have hb := h.box
    simp [World.setCell, Array.getElem?_modify, hb]
  · exact ownsRow_setCell_below (ownsRow_setCell_below (ownsRow_setCell_below h.own (a := ⟨w.heap.size, 0, none⟩) (Nat.lt_succ_self _) _) (a := ⟨w.heap.size, 1, none⟩) (Nat.lt_succ_self _) _) (a := ⟨w.heap.size, 2, none⟩) (Nat.lt_succ_self _) _
theorem RS.append {w w' w4 : World} {v v' : Value} {l : List It} {x : It} {o : Obj} (h : RS w w' v l x) (hg : (w'.alloc o).grownBy w4 v.ownBlock) (hown : w4.ownsRow (w.heap.size + 1) 83 3 v' (l.length + 1) (itemCells l ++ x.cells)) : RS w w4 v' (l ++ [x]) x := by
  have hlt := h.lt
  have hrow : ∀ k, v.ownBlock = some k → w.heap.size + 1 ≤ k := fun k hk => (h.own.lt k hk).1
  refine ⟨(h.below.alloc (by omega) o).grown hg (by simp; omega) (fun k hk => by have := hrow k hk; omega), ?_, ?_⟩
  · rw [hg.block _ (by simp; omega) (fun e => by have := hrow _ e.symm; omega), Lib.alloc_old w' o _ hlt]
    exact h.box
  · rw [List.length_append, List.length_singleton, itemCells_snoc]; exact hown
def joinR (l : List It) (r : List It × Int) : List It × Int := if r.2 = 0 then (l ++ r.1, 0) else ([], r.2)
structure RI (again : List UInt8) (l : List It) (todo rest : ByteArray) (R : List It × Int) : Prop where
  len : l.length ≤ 1000
  todoLen : todo.size ≤ maxLen
  restLen : rest.size ≤ maxLen
  spec : ∃ f, 2 * rest.size + (if todo.size = 0 then 1 else 0) < f ∧ joinR l (readF f again l.length todo.data.toList rest.data.toList) = R
theorem size_list (s : ByteArray) : s.data.toList.length = s.size := by simp
theorem list_nil {s : ByteArray} (h : s.size = 0) : s.data.toList = [] := List.eq_nil_of_length_eq_zero (by rw [size_list]; exact h)
theorem list_ne {s : ByteArray} (h : s.size ≠ 0) : s.data.toList ≠ [] := fun e => h (by rw [← size_list, e]; rfl)
theorem list_cons {s : ByteArray} (h : 0 < s.size) : s.data.toList = s[0] :: (s.extract 1 s.size).data.toList := by
  rw [Lib.extract_to_end]
  have h1 : 0 < s.data.toList.length := by rw [size_list]; exact h
  cases e : s.data.toList with
  | nil => rw [e] at h1; simp at h1
  | cons a t =>
    have h2 : s.data.toList[0]'h1 = s[0] := rfl
    simp only [e, List.getElem_cons_zero] at h2
    simp [h2]
theorem widthN_pos (k : Int) : 1 ≤ widthN k := by
  unfold widthN
  split
  · omega
  · split <;> omega
theorem itemF_less (c : UInt8) (s : List UInt8) (h : (itemF c s).2.2 = 0) : (itemF c s).2.1.length < s.length := by
  unfold itemF at *
  have hw := widthN_pos (kindOfL c)
  by_cases h1 : s.length < widthN (kindOfL c)
  · rw [if_pos h1] at h; simp at h
  · rw [if_neg h1] at h ⊢
    by_cases h2 : kindOfL c = 4
    · rw [if_pos h2] at h ⊢
      by_cases h3 : 100000 < Lib.beNat (s.take 4)
      · rw [if_pos h3] at h; simp at h
      · rw [if_neg h3] at h ⊢
        by_cases h4 : (s.drop 4).length < Lib.beNat (s.take 4)
        · rw [if_pos h4] at h; simp at h
        · rw [if_neg h4]
          rw [h2] at h1
          have : widthN 4 = 4 := rfl
          simp
          omega
    · rw [if_neg h2]
      simp
      omega
theorem RI.done {again : List UInt8} {l : List It} {todo rest : ByteArray} {R : List It × Int} (h : RI again l todo rest R) (h0 : todo.size = 0) (h1 : rest.size = 0) : R = (l, 0) := by
  obtain ⟨f, hf, rfl⟩ := h.spec
  rw [list_nil h0, list_nil h1]
  obtain ⟨g, rfl⟩ : ∃ g, f = g + 1 := ⟨f - 1, by omega⟩
  simp [readF, joinR]
theorem RI.form {l : List It} {todo rest : ByteArray} {R : List It × Int} (h : RI [] l todo rest R) (h0 : todo.size = 0) (h1 : rest.size ≠ 0) : R = ([], 10) := by
  obtain ⟨f, hf, rfl⟩ := h.spec
  rw [list_nil h0]
  obtain ⟨g, rfl⟩ : ∃ g, f = g + 1 := ⟨f - 1, by omega⟩
  rw [readF, if_neg (list_ne h1), if_pos rfl]
  simp [joinR]
theorem RI.again {again : ByteArray} {l : List It} {todo rest : ByteArray} {R : List It × Int} (h : RI again.data.toList l todo rest R) (h0 : todo.size = 0) (h1 : rest.size ≠ 0) (h2 : again.size ≠ 0) (h3 : again.size ≤ maxLen) : RI again.data.toList l again rest R := by
  refine ⟨h.len, h3, h.restLen, ?_⟩
  obtain ⟨f, hf, hR⟩ := h.spec
  rw [if_pos h0] at hf
  obtain ⟨g, rfl⟩ : ∃ g, f = g + 1 := ⟨f - 1, by omega⟩
  refine ⟨g, by rw [if_neg h2]; omega, ?_⟩
  rw [list_nil h0, readF, if_neg (list_ne h1), if_neg (list_ne h2)] at hR
  exact hR
theorem RI.long {again : List UInt8} {l : List It} {todo rest : ByteArray} {R : List It × Int} (h : RI again l todo rest R) (h0 : 0 < todo.size) (h1 : l.length = 1000) : R = ([], 3) := by
  obtain ⟨f, hf, rfl⟩ := h.spec
  obtain ⟨g, rfl⟩ : ∃ g, f = g + 1 := ⟨f - 1, by omega⟩
  rw [list_cons h0, readF, if_pos h1]
  simp [joinR]
theorem RI.fault {again : List UInt8} {l : List It} {todo rest : ByteArray} {R : List It × Int} (h : RI again l todo rest R) (h0 : 0 < todo.size) (h1 : l.length ≠ 1000) (h2 : (itemG (kindOfL todo[0]) (widthN (kindOfL todo[0])) rest).2.2 ≠ 0) :
    R = ([], (itemG (kindOfL todo[0]) (widthN (kindOfL todo[0])) rest).2.2) := by
  obtain ⟨f, hf, rfl⟩ := h.spec
  obtain ⟨g, rfl⟩ : ∃ g, f = g + 1 := ⟨f - 1, by omega⟩
  rw [(itemG_eq todo[0] rest).2.2] at h2 ⊢
  rw [list_cons h0, readF, if_neg h1, if_neg h2]
  simp [joinR, h2]
theorem RI.next {again : List UInt8} {l : List It} {todo rest : ByteArray} {R : List It × Int} (h : RI again l todo rest R) (h0 : 0 < todo.size) (h1 : l.length ≠ 1000) (h2 : (itemG (kindOfL todo[0]) (widthN (kindOfL todo[0])) rest).2.2 = 0) :
    RI again (l ++ [(itemG (kindOfL todo[0]) (widthN (kindOfL todo[0])) rest).1]) (todo.extract 1 todo.size) (itemG (kindOfL todo[0]) (widthN (kindOfL todo[0])) rest).2.1 R ∧ (itemG (kindOfL todo[0]) (widthN (kindOfL todo[0])) rest).2.1.size < rest.size := by
  obtain ⟨e1, e2, e3⟩ := itemG_eq todo[0] rest
  have hl := itemF_less todo[0] rest.data.toList (by rw [← e3]; exact h2)
  rw [← e2, size_list, size_list] at hl
  have hlen := h.len
  refine ⟨⟨by simp; omega, ?_, by have := h.restLen; omega, ?_⟩, hl⟩
  · have := h.todoLen
    simp
    omega
  obtain ⟨f, hf, hR⟩ := h.spec
  rw [if_neg (by omega)] at hf
  obtain ⟨g, rfl⟩ : ∃ g, f = g + 1 := ⟨f - 1, by omega⟩
  refine ⟨g, by split <;> omega, ?_⟩
  rw [list_cons h0, readF, if_neg h1, if_pos (by rw [← e3]; exact h2), ← e1, ← e2] at hR
  rw [← hR, List.length_append, List.length_singleton]
  unfold joinR
  split
  · simp
  · simp
theorem hide {p : Prop} (h : p) : Hid p := h
def strSize : Value → Nat
  | .string s => s.size
  | _ => 0
def JL (first again s : ByteArray) (R : List It × Int) (w : World) (z : Bool) : Act → World → Prop := fun a' w' =>
  ∃ (l : List It) (x : It) (todo rest : ByteArray) (v : Value) (u13 u14 u15 u16 u17 u18 u19 u20 u21 u22 u23 u24 u25 u26 u27 u28 u29 u30 u31 u32 u33 u34 u35 u36 u37 u38 u39 u40 u41 u42 : Value), a' = { tmps := List.toArray (Value.string first :: Value.string again :: Value.string s :: undef :: undef :: undef :: Value.slice none 0 0 :: Value.int .i64 0 :: v :: Value.pointer (some ⟨w.heap.size, 0, none⟩) :: Value.int .i64 0 :: Value.string todo :: Value.string rest :: u13 :: u14 :: u15 :: u16 :: u17 :: u18 :: u19 :: u20 :: u21 :: u22 :: u23 :: u24 :: u25 :: u26 :: u27 :: u28 :: u29 :: u30 :: u31 :: u32 :: u33 :: u34 :: u35 :: u36 :: u37 :: u38 :: u39 :: u40 :: u41 :: u42 :: []), defers := [] } ∧ RS w w' v l x ∧ RI again.data.toList l todo rest R ∧ (z = true → todo.size = 0)
def mA (a' : Act) (_ : World) : Nat := 2 * (2 * strSize (a'.tmps.getD 12 undef) + 1)
def mB (a' : Act) (_ : World) : Nat := 2 * (2 * strSize (a'.tmps.getD 12 undef) + (if strSize (a'.tmps.getD 11 undef) = 0 then 1 else 0)) + 1
theorem Tryz.info83 : Tryz.prog.info? 83 = some Tryz.t83 := by kernel_rfl
theorem Tryz.zero83 : Tryz.t83.zero = some (.agg #[.int .i64 0, .int .u64 0, .string ⟨#[]⟩]) := by kernel_rfl
theorem Tryz.cells83 : Tryz.t83.size = 3 := by kernel_rfl
theorem Tryz.bytes83 : Tryz.t83.bytes = 32 := by kernel_rfl
theorem cells_new3 (W : World) (a b c : Value) (t : TypeId) (n : Nat) (hn : n = W.heap.size) : ∀ (j : Nat) (u : Value), [a, b, c][j]? = some u → (W.alloc (.cells #[a, b, c] t)).cell? ((⟨n, 0, none⟩ : Addr).add j) = some u := by
  subst hn
  intro j u hj
  match j, hj with
  | 0, hj => simp at hj; subst hj; simp [Addr.add]
  | 1, hj => simp at hj; subst hj; simp [Addr.add]
  | 2, hj => simp at hj; subst hj; simp [Addr.add]
  | j + 3, hj => simp at hj
theorem mB_less (a a' : Act) (w w' : World) (s0 s1 : ByteArray) {t0 t1 : ByteArray} (h0 : a.tmps.getD 12 undef = .string s0) (h1 : a'.tmps.getD 12 undef = .string s1) (h2 : a.tmps.getD 11 undef = .string t0) (h3 : a'.tmps.getD 11 undef = .string t1) (hl : s1.size < s0.size) (hp : 0 < t0.size) : mB a' w' < mB a w := by
  unfold mB
  rw [h0, h1, h2, h3]
  have e0 : strSize (.string t0) = t0.size := rfl
  have e1 : strSize (.string s0) = s0.size := rfl
  have e2 : strSize (.string s1) = s1.size := rfl
  rw [e1, e2]
  split <;> split <;> omega
theorem isEmpty_of {s : ByteArray} (h : s.size = 0) : s.toList.isEmpty = true := by
  rw [Lib.toList_data, list_nil h]; rfl
theorem notEmpty_of {s : ByteArray} (h : s.size ≠ 0) : s.toList.isEmpty = false := by
  rw [Lib.toList_data]
  cases e : s.data.toList with
  | nil => exact absurd e (list_ne h)
  | cons a t => rfl
theorem ret2 {a a' b b' : Value} (h1 : a = a') (h2 : b = b') : Ending.returned (.tuple #[a, b]) = .returned (.tuple #[a', b']) := by rw [h1, h2]
theorem own_base {w : World} {B B' : Nat} {e : TypeId} {size : Nat} {v : Value} {n : Nat} {xs : List Value} (h : w.ownsRow B' e size v n xs) (hB : B ≤ B') : w.ownsRow B e size v n xs := by
  refine ⟨h.1, ?_⟩
  rcases h.2 with h2 | ⟨g, cap, cur, hv, hg, r⟩
  · exact Or.inl h2
  · exact Or.inr ⟨g, cap, cur, hv, by omega, r⟩
theorem own_shape {w : World} {B : Nat} {e : TypeId} {size : Nat} {v : Value} {n : Nat} {xs : List Value} (h : w.ownsRow B e size v n xs) : ∃ ao cap, v = .slice ao n cap := by
  rcases h.2 with ⟨h2, h3⟩ | ⟨g, cap, cur, hv, r⟩
  · exact ⟨none, 0, by rw [h2, h3]⟩
  · exact ⟨_, _, hv⟩
theorem readItems_core (first again s : ByteArray) (R : List It × Int) (w : World) (hA : again.size ≤ maxLen)
    (hI : RI again.data.toList [] first s R) :
    Calls Tryz.prog 96 #[.string first, .string again, .string s] w fun e w' => ∃ v, e = .returned (.tuple #[v, .int .i64 R.2]) ∧ w'.ownsRow w.heap.size 83 3 v R.1.length (itemCells R.1) ∧ Below w.heap.size w w' := by
  go_enter Tryz.func96, Tryz.ntmps96
  go_wp2
  refine wp_scope_two (JL first again s R w true) (JL first again s R w false) mA mB rfl rfl ?pass0 ?pass1 ?first
  case first =>
    intro h1
    have H1 := hide h1
    clear h1
    go_wp2
    go_step3
    rename_i K hK
    refine hK _ _ (H1.out _ _ ⟨[], It.zero, first, s, .slice none 0 0, _, _, _, _, _, _, _, _, _, _, _, _, _, _, _, _, _, _, _, _, _, _, _, _, _, _, _, _, _, _, rfl, RS.init w, hI, fun h => by cases h⟩)
  case pass0 =>
    rintro a' w' ⟨l, x, todo, rest, v, u13, u14, u15, u16, u17, u18, u19, u20, u21, u22, u23, u24, u25, u26, u27, u28, u29, u30, u31, u32, u33, u34, u35, u36, u37, u38, u39, u40, u41, u42, rfl, hS, hR, hz⟩
    have H0 := hide (hz rfl)
    have HS := hide hS
    have HR := hide hR
    have HA := hide hA
    clear hS hR hz hA hI
    by_cases hr : rest.size = 0
    · have hre := isEmpty_of hr
      have HE := hide (HR.out.done H0.out hr)
      clear hr
      go_wp2
      simp only [jump2]
      go_ret2
      exact ⟨v, ret2 rfl (by rw [HE.out]; rfl), by rw [HE.out]; exact own_base HS.out.own (by omega), HS.out.below⟩
    · have hre := notEmpty_of hr
      by_cases ha : again.size = 0
      · have hae := isEmpty_of ha
        have HE : Hid (R = ([], 10)) := by
          have := HR.out
          rw [list_nil ha] at this
          exact this.form H0.out hr
        clear hr ha
        go_wp2
        simp only [jump2]
        go_ret2
        exact ⟨.slice none 0 0, ret2 rfl (by rw [HE.out]; rfl), by rw [HE.out]; exact ⟨rfl, Or.inl ⟨rfl, rfl⟩⟩, HS.out.below⟩
      · have hae := notEmpty_of ha
        have HN := hide (HR.out.again H0.out hr ha HA.out)
        have HQ := hide ha
        clear hr ha
        go_wp2
        go_step3
        exact Or.inr ⟨rfl, ⟨l, x, again, rest, v, _, _, _, _, _, _, _, _, _, _, _, _, _, _, _, _, _, _, _, _, _, _, _, _, _, _, _, _, _, _, rfl, HS.out, HN.out, fun h => by cases h⟩, by simp [mA, mB, strSize, HQ.out]; omega⟩
  case pass1 =>
    rintro a' w' ⟨l, x, todo, rest, v, u13, u14, u15, u16, u17, u18, u19, u20, u21, u22, u23, u24, u25, u26, u27, u28, u29, u30, u31, u32, u33, u34, u35, u36, u37, u38, u39, u40, u41, u42, rfl, hS, hR, hz⟩
    clear hz hI
    obtain ⟨ao, cap, rfl⟩ := own_shape hS.own
    have HS := hide hS
    have HR := hide hR
    have hlen := hR.len
    clear hS hR hA
    by_cases h0 : todo.size = 0
    · have hte := isEmpty_of h0
      have H0 := hide h0
      clear h0
      go_wp2
      go_step3
      exact Or.inl ⟨rfl, ⟨l, x, todo, rest, _, _, _, _, _, _, _, _, _, _, _, _, _, _, _, _, _, _, _, _, _, _, _, _, _, _, _, _, _, _, _, rfl, HS.out, HR.out, fun _ => H0.out⟩, by simp [mA, mB, strSize, H0.out]⟩
    · have hte := notEmpty_of h0
      have hpos : 0 < todo.size := by omega
      clear h0
      by_cases h1 : l.length = 1000
      · have hl1 : ((l.length : Int) == 1000) = true := by simp [h1]
        have HE := hide (HR.out.long hpos h1)
        clear h1
        go_wp2
        simp only [jump2]
        go_ret2
        exact ⟨.slice none 0 0, ret2 rfl (by rw [HE.out]; rfl), by rw [HE.out]; exact ⟨rfl, Or.inl ⟨rfl, rfl⟩⟩, HS.out.below⟩
      · have hl1 : ((l.length : Int) == 1000) = false := by rw [beq_eq_false_iff_ne]; omega
        have hcall := fun w => readItem_any todo[0] rest w HR.out.restLen
        have hfault := HR.out.fault hpos h1
        have hnext := HR.out.next hpos h1
        generalize itemG (kindOfL todo[0]) (widthN (kindOfL todo[0])) rest = r at hcall hfault hnext
        obtain ⟨⟨rk, rn, rs⟩, rr, re⟩ := r
        have HC : Hid (∀ w, Calls Tryz.prog 128 #[.int .u8 (todo[0].toNat : Int), .string rest] w fun e w' => e = .returned (.tuple #[.agg #[.int .i64 rk, .int .u64 rn, .string rs], .string rr, .int .i64 re]) ∧ Below w.heap.size w w') := hcall
        clear hcall h1
        by_cases he : re = 0
        · subst he
          have HN := hide (hnext rfl)
          clear hfault hnext
          go_wp2_with fail
          refine (HC.out _).mono ?_
          rintro e w2 ⟨rfl, hb⟩
          have hS2 := HS.out.after hb
          have HS2 := hide hS2
          obtain ⟨c0, c1, c2⟩ := hS2.cells
          have f0 := hS2.frozen 0
          have f1 := hS2.frozen 1
          have f2 := hS2.frozen 2
          clear hS2 hb
          go_wp2_with (at_builtin; refine wpList_append_own _ rfl _ _ 66 rfl (w.heap.size + 1) 83 Tryz.t83 (.agg #[.int .i64 0, .int .u64 0, .string ⟨#[]⟩]) 3 32 Tryz.underlying66 ?hi ?hz ?hs ?hby rfl (by decide) _ _ _ rfl ((HS2.out.store ⟨rk, rn, rs⟩).own.alloc _) ⟨w2.heap.size, 0, none⟩ 1 1 (It.cells ⟨rk, rn, rs⟩) rfl rfl ?hnews ?h1 ?h63 ?hb47 ?hbase ?_)
          case hi => exact Tryz.info83
          case hz => exact Tryz.zero83
          case hs => exact Tryz.cells83
          case hby => exact Tryz.bytes83
          case hnews => exact cells_new3 _ _ _ _ _ _ (by simp)
          case h1 =>
            intro u hu
            simp [It.cells] at hu
            rcases hu with rfl | rfl | rfl <;> rfl
          case h63 => unfold maxLen; omega
          case hb47 => omega
          case hbase => have := HS2.out.lt; simp; omega
          intro v' w4 hown hgrow _
          have HS4 := hide ((HS2.out.store ⟨rk, rn, rs⟩).append hgrow hown)
          clear hown hgrow
          go_wp2
          go_step3
          exact Or.inr ⟨rfl, ⟨l ++ [⟨rk, rn, rs⟩], ⟨rk, rn, rs⟩, todo.extract 1 todo.size, rr, v', _, _, _, _, _, _, _, _, _, _, _, _, _, _, _, _, _, _, _, _, _, _, _, _, _, _, _, _, _, _, rfl, HS4.out, HN.out.1, fun h => by cases h⟩, mB_less _ _ _ _ _ _ rfl rfl rfl rfl HN.out.2 hpos⟩
        · have hne : (re != 0) = true := by rw [bne_iff_ne]; exact he
          have HE := hide (hfault he)
          clear hfault hnext he
          go_wp2_with fail
          refine (HC.out _).mono ?_
          rintro e w2 ⟨rfl, hb⟩
          have hS2 := HS.out.after hb
          have HS2 := hide hS2
          obtain ⟨c0, c1, c2⟩ := hS2.cells
          have f0 := hS2.frozen 0
          have f1 := hS2.frozen 1
          have f2 := hS2.frozen 2
          clear hS2 hb
          go_wp2
          simp only [jump2]
          go_ret2
          exact ⟨.slice none 0 0, ret2 rfl (by rw [HE.out]; rfl), by rw [HE.out]; exact ⟨rfl, Or.inl ⟨rfl, rfl⟩⟩, (HS2.out.store ⟨rk, rn, rs⟩).below⟩
end Go.Proofs.YtfoomgdlbkjaeaaGreat.K
namespace Go.Proofs.YtfoomgdlbkjaeaaGreat.K
open Go.RowKit
set_option maxHeartbeats 400000
theorem readItems_any (first again s : ByteArray) (w : World) (h1 : first.size ≤ maxLen) (h2 : again.size ≤ maxLen) (h3 : s.size ≤ maxLen) (R : List It × Int)
    (hR : readF (2 * s.size + 2) again.data.toList 0 first.data.toList s.data.toList = R) (h0 : R.2 ≠ 0 → R.1 = []) :
    Calls Tryz.prog 96 #[.string first, .string again, .string s] w fun e w' => ∃ v, e = .returned (.tuple #[v, .int .i64 R.2]) ∧ w'.ownsRow w.heap.size 83 3 v R.1.length (itemCells R.1) ∧ Below w.heap.size w w' := by
  refine readItems_core first again s R w h2 ⟨by simp, h1, h3, 2 * s.size + 2, by split <;> omega, ?_⟩
  rw [List.length_nil, hR]
  unfold joinR
  by_cases h : R.2 = 0
  · rw [if_pos h]; simp [← h]
  · rw [if_neg h, ← h0 h]
theorem readF_err (f : Nat) (again : List UInt8) (m : Nat) (todo rest : List UInt8) (h : (readF f again m todo rest).2 ≠ 0) : (readF f again m todo rest).1 = [] := by
  induction f generalizing m todo rest with
  | zero => rfl
  | succ f ih =>
    cases todo with
    | nil =>
      rw [readF] at h ⊢
      split
      · rfl
      · rename_i h1
        rw [if_neg h1] at h
        split
        · rfl
        · rename_i h2
          rw [if_neg h2] at h
          exact ih _ _ _ h
    | cons c t =>
      rw [readF] at h ⊢
      split
      · rfl
      · rename_i h1
        rw [if_neg h1] at h
        split
        · rename_i h2
          rw [if_pos h2] at h
          split
          · rename_i h3
            rw [if_pos h3] at h
            exact absurd rfl h
          · rfl
        · rfl
theorem decF_err (shape s : List UInt8) (h : (decF shape s).2 ≠ 0) : (decF shape s).1 = [] := by
  unfold decF at *
  split
  · rename_i h1
    rw [if_pos h1] at h
    exact readF_err _ _ _ _ _ h
  · rfl
theorem decode_any (shape s : ByteArray) (w : World) (h1 : shape.size ≤ maxLen) (h2 : s.size ≤ maxLen) (R : List It × Int) (hR : decF shape.data.toList s.data.toList = R) :
    Calls Tryz.prog 74 #[.string shape, .string s] w fun e w' => ∃ v, e = .returned (.tuple #[v, .int .i64 R.2]) ∧ w'.ownsRow w.heap.size 83 3 v R.1.length (itemCells R.1) ∧ Below w.heap.size w w' := by
  have HS := hide (fun w => isShape_any shape w h1)
  have HC := hide (fun w => cut_star shape w h1)
  have hE : R.2 ≠ 0 → R.1 = [] := by rw [← hR]; exact decF_err _ _
  unfold decF at hR
  rw [← shapeB_eq, ← cutA_list, ← cutB_list, size_list] at hR
  cases hb : shapeB shape with
  | false =>
    rw [hb] at HS hR
    rw [if_neg (by decide)] at hR
    subst hR
    clear hE hb
    go_enter Tryz.func74, Tryz.ntmps74
    go_wp2_with (go_at_call 94; refine (HS.out _).mono ?_; rintro e w' ⟨rfl, nq, rfl⟩)
    go_ret2
    exact ⟨.slice none 0 0, rfl, ⟨rfl, Or.inl ⟨rfl, rfl⟩⟩, below_drewN (Below.refl _ _) nq⟩
  | true =>
    rw [hb] at HS hR
    rw [if_pos rfl] at hR
    have HI := hide (fun w => readItems_any (cutA shape) (cutB shape) s w (Nat.le_trans (cutA_size shape) h1) (Nat.le_trans (cutB_size shape) h1) h2 R hR hE)
    clear hE hb hR
    generalize cutA shape = a at HC HI
    generalize cutB shape = b at HC HI
    go_enter Tryz.func74, Tryz.ntmps74
    go_wp2_with (first | (go_at_call 94; refine (HS.out _).mono ?_; rintro e w' ⟨rfl, nq, rfl⟩) | (go_at_call 95; refine (HC.out _).mono ?_; rintro e w' ⟨rfl, nr, rfl⟩) | (go_at_call 96; refine (HI.out _).mono ?_; rintro e w' ⟨v, rfl, hown, hb⟩))
    go_ret2
    refine ⟨v, rfl, ?_, ?_⟩
    · exact hown
    · exact (below_drewN (Below.refl _ _) (nq + nr)).trans hb
end Go.Proofs.YtfoomgdlbkjaeaaGreat.K
