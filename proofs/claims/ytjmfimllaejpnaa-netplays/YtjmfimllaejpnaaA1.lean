/-
  NetApart's own list beside the net.
-/
import Derived.Test.YtjmfimllaejpnaaO2
import Derived.Maps.AppendAt
import Derived.Deep.RegionHeldLaw
namespace Go.Proofs.Ytjmfimllaejpnaa
open Go.RowKit Go.Maps

/-- append, as one step of a region that draws its order; what is appended may be nothing. -/
theorem step_append_at {P : Program} {w : World} {ops : Array Oper} {o : Oper} {a : Act} {K : Act → World → Prop} {Q : Exit → Act → World → Prop} {E : Prop} (hgd : o.guard = none) (s x : Operand) (t : TypeId)
    (ho : o.op = .call { callee := .builtin .append, args := #[s, x], argTypes := #[t, t] })
    (base : Nat) (e : TypeId) (i : TypeInfo) (z : Value) (size bytes : Nat) (ht : P.underlying t = some (.slice e)) (hi : P.info? e = some i) (hz : i.zero = some z)
    (hsize : i.size = size) (hby : i.bytes = bytes) (hzs : z.cells.size = size) (hsz : 0 < size)
    (v : Value) (n : Nat) (xs : List Value) (hs : a.eval s = v) (hown : w.ownsRow base e size v n xs)
    (ad : Addr) (m c : Nat) (news : List Value) (hx : a.eval x = .slice (some ad) m c) (hl : news.length = m * size) (hnews : ∀ j u, news[j]? = some u → w.cell? (ad.add j) = some u) (h1 : ∀ u ∈ news, u.oneCell' = true)
    (h63 : n + m ≤ maxLen) (hbytes : (n + m) * bytes ≤ 140737488355328) (hbase : base ≤ w.heap.size)
    (h : ∀ ao cp w', w'.ownsRow base e size (.slice ao (n + m) cp) (n + m) (xs ++ news) → w.grownBy w' v.ownBlock → ((Value.slice ao (n + m) cp).ownBlock = v.ownBlock ∨ (Value.slice ao (n + m) cp).ownBlock = some w.heap.size) → K (a.put o.dst (.slice ao (n + m) cp)) w') :
    if Region.wanted o (yielded ops a.tmps) = true then Oper.wp P o a w K Q else E := by
  have hw : Region.wanted o (yielded ops a.tmps) = true := by simp [Region.wanted, hgd]
  rw [if_pos hw]
  obtain ⟨v', w', hr, h2, h3, h4, h5⟩ := run_append_own_at (P := P) w base t o.type e i z size bytes ht hi hz hsize hby hzs hsz v n xs hown ad m c news hl hnews h1 h63 hbytes hbase
  obtain ⟨ao, cp, rfl⟩ := row_slice h2
  unfold Oper.wp execOp
  simp only [ho, resolve, invoke, builtin, Sem.run_bind, Sem.run_pure, Result.andThen_ok, List.map_toArray, List.map_cons, List.map_nil, hs, hx, hr]
  exact h ao cp w' h2 h3 h5
/-- The list and the net. -/
structure Ap (W : World) (b : Nat) (q : Qs) (v : Value) (wv : World) : Prop where
  net : Nt (fun j => j < W.heap.size ∨ v.ownBlock = some j) wv b 3 0 q
  row : wv.ownsRow W.heap.size 9 1 v (q 0 1).length ((q 0 1).map .string)
  below : Below W.heap.size W wv
abbrev deedC (o : Dd) : Array Value := #[.int .i64 o.kind, .int .i64 o.a, .int .i64 o.c, .int .i64 o.i, .string o.s]
structure Ap2 (W : World) (b : Nat) (q : Qs) (v : Value) (D0 : Nat) (o : Dd) (M : List ByteArray) (wv : World) : Prop where
  net : Nt (fun j => j < W.heap.size ∨ v.ownBlock = some j ∨ j = D0) wv b 3 0 q
  row : wv.ownsRow W.heap.size 9 1 v M.length (M.map .string)
  below : Below W.heap.size W wv
  deed : wv.heap[D0]? = some (.cells (deedC o) 32 (0, 0))
  dW : W.heap.size ≤ D0
  dv : v.ownBlock ≠ some D0
theorem Ap.deed {W : World} {b : Nat} {q : Qs} {v : Value} {wv : World} (h : Ap W b q v wv) (o : Dd) : Ap2 W b q v wv.heap.size o (q 0 1) (wv.alloc (.cells (deedC o) 32)) := by
  refine ⟨h.net.move (own := fun _ => False) ((Touch.refl _ wv).alloc _) (fun _ _ e => e.elim) (fun j e => ?_), h.row.alloc _, h.below.alloc h.below.size _, heap_alloc_new wv _, h.below.size, fun e => ?_⟩
  · rcases e with e | e | e
    · exact .inl (.inl e)
    · exact .inl (.inr e)
    · exact .inr (by omega)
  · have := row_lt h.row e; omega
theorem Ap2.far {W : World} {b : Nat} {q : Qs} {v : Value} {D0 : Nat} {o : Dd} {M : List ByteArray} {wv : World} (h : Ap2 W b q v D0 o M wv) : ∀ j, (j < W.heap.size ∨ v.ownBlock = some j ∨ j = D0) → j < wv.heap.size := fun j e => by
  have h1 := heap_lt h.deed
  have h2 := h.below.size
  rcases e with e | e | e
  · omega
  · exact row_lt h.row e
  · omega
theorem Ap2.call {W : World} {b : Nat} {q q' : Qs} {v : Value} {D0 : Nat} {o : Dd} {M : List ByteArray} {wv w' : World} (h : Ap2 W b q v D0 o M wv) (hn : Nt (fun j => j < W.heap.size ∨ v.ownBlock = some j ∨ j = D0) w' b 3 0 q') (ht : Touch (fun j => ¬ (j < W.heap.size ∨ v.ownBlock = some j ∨ j = D0)) wv w') : Ap2 W b q' v D0 o M w' :=
  ⟨hn, ht.row h.row fun _ hk e => e (.inr (.inl hk)), h.below.trans (ht.toBelow h.below.size fun _ hk e => e (.inl hk)), ht.at h.deed fun e => e (.inr (.inr rfl)), h.dW, h.dv⟩
theorem Ap2.stay {W : World} {b : Nat} {q : Qs} {v : Value} {D0 : Nat} {o : Dd} {M : List ByteArray} {wv : World} (h : Ap2 W b q v D0 o M wv) (hM : q 0 1 = M) : Ap W b q v wv := by
  refine ⟨h.net.move (own := fun _ => False) (Touch.refl _ wv) (fun _ _ e => e.elim) (fun j e => .inl (e.elim (fun h => .inl h) fun h => .inr (.inl h))), ?_, h.below⟩
  rw [hM]
  exact h.row
theorem Ap2.put {W : World} {b : Nat} {q : Qs} {v v' : Value} {D0 : Nat} {o : Dd} {M : List ByteArray} {wv w' : World} (h : Ap2 W b q v D0 o M wv) (ht : Touch (fun j => v.ownBlock = some j) wv w') (hr : w'.ownsRow W.heap.size 9 1 v' (q 0 1).length ((q 0 1).map .string)) (hv : ∀ j, v'.ownBlock = some j → v.ownBlock = some j ∨ wv.heap.size ≤ j) : Ap W b q v' w' := by
  refine ⟨h.net.move ht (fun j _ e => .inr (.inl e)) (fun j e => ?_), hr, h.below.trans (ht.toBelow h.below.size fun k hk e => ?_)⟩
  · rcases e with e | e
    · exact .inl (.inl e)
    · rcases hv j e with e | e
      · exact .inl (.inr (.inl e))
      · exact .inr e
  · have := (h.row.lt k e).1; omega
theorem Ap2.append {W : World} {b : Nat} {q : Qs} {v : Value} {D0 : Nat} {o : Dd} {M : List ByteArray} {wv w4 : World} {s : ByteArray} (h : Ap2 W b q v D0 o M wv) (hq : q 0 1 = M ++ [s]) {ob : Obj} {ao : Option Addr} {cp : Nat} (h1 : w4.ownsRow W.heap.size 9 1 (.slice ao (M.length + 1) cp) (M.length + 1) (M.map .string ++ [.string s])) (h2 : (wv.alloc ob).grownBy w4 v.ownBlock) (h3 : (Value.slice ao (M.length + 1) cp).ownBlock = v.ownBlock ∨ (Value.slice ao (M.length + 1) cp).ownBlock = some (wv.alloc ob).heap.size) : Ap W b q (.slice ao (M.length + 1) cp) w4 := by
  refine h.put (((Touch.refl _ wv).alloc ob).grown h2 fun j e _ => e) ?_ (fun j e => ?_)
  · rw [hq, List.length_append, List.map_append]
    exact h1
  · rcases h3 with h3 | h3
    · exact .inl (h3 ▸ e)
    · rw [h3] at e
      have := Option.some.inj e
      simp at this
      exact .inr (by omega)
theorem Ap2.removed {W : World} {b : Nat} {q : Qs} {v : Value} {D0 : Nat} {o : Dd} {M : List ByteArray} {wv w5 w6 : World} {k n5 n6 : Nat} (h : Ap2 W b q v D0 o M wv) (hq : q 0 1 = M.eraseIdx k) (hk : k < M.length) {a5 a6 : Option Addr} {c5 c6 : Nat} (h1 : wv.drew.grownBy w5 (Value.slice none 0 0).ownBlock) (h3 : (Value.slice a5 n5 c5).ownBlock = (Value.slice none 0 0).ownBlock ∨ (Value.slice a5 n5 c5).ownBlock = some wv.drew.heap.size)
    (h4 : w6.ownsRow W.heap.size 9 1 (.slice a6 n6 c6) n6 (([] ++ (M.take k).map Value.string) ++ (M.drop (k + 1)).map Value.string)) (hn : n6 = M.length - 1) (h5 : w5.grownBy w6 (Value.slice a5 n5 c5).ownBlock) (h6 : (Value.slice a6 n6 c6).ownBlock = (Value.slice a5 n5 c5).ownBlock ∨ (Value.slice a6 n6 c6).ownBlock = some w5.heap.size) : Ap W b q (.slice a6 n6 c6) w6 := by
  have hs : wv.heap.size ≤ w5.heap.size := h1.size
  have T1 : Touch (fun j => v.ownBlock = some j) wv w5 := ((Touch.refl _ wv).drew).grown h1 fun j e _ => by cases e
  refine h.put (T1.grown h5 fun j e hj => ?_) ?_ (fun j e => ?_)
  · rcases h3 with h3 | h3
    · rw [h3] at e; cases e
    · rw [h3] at e
      have e2 := Option.some.inj e
      have e3 : wv.drew.heap.size = wv.heap.size := rfl
      omega
  · rw [hq, List.length_eraseIdx_of_lt hk, ← hn, List.eraseIdx_eq_take_drop_succ, List.map_append]
    exact h4
  · right
    rcases h6 with h6 | h6
    · rw [h6] at e
      rcases h3 with h3 | h3
      · rw [h3] at e; cases e
      · rw [h3] at e
        have e2 := Option.some.inj e
        have e3 : wv.drew.heap.size = wv.heap.size := rfl
        omega
    · rw [h6] at e
      have := Option.some.inj e
      omega
theorem tail_at {M : List ByteArray} {w3 : World} {g cap k : Nat} (hc : ∀ j u, (M.map Value.string)[j]? = some u → w3.cell? ⟨g, j, none⟩ = some u) (hl : M.length ≤ cap) (hk : k < M.length) : ∃ AD : Addr, (if cap = k + 1 then some (⟨g, 0, none⟩ : Addr) else some ⟨g, k + 1, none⟩) = some AD ∧
    ∀ w5, w3.drew.grownBy w5 none → ∀ j u, ((M.drop (k + 1)).map Value.string)[j]? = some u → w5.cell? (AD.add j) = some u := by
  by_cases h : cap = k + 1
  · refine ⟨⟨g, 0, none⟩, by simp [h], fun w5 _ j u hu => ?_⟩
    rw [List.drop_of_length_le (by omega)] at hu
    simp at hu
  · refine ⟨⟨g, k + 1, none⟩, by simp [h], fun w5 hg j u hu => ?_⟩
    rw [Addr.add_lit]
    refine hg.cell (w := w3.drew) (hc (k + 1 + j) u ?_) (by simp)
    rw [List.getElem?_map, List.getElem?_drop] at hu
    rw [List.getElem?_map]
    exact hu
theorem head_at {M : List ByteArray} {w3 : World} {g k : Nat} (hc : ∀ j u, (M.map Value.string)[j]? = some u → w3.cell? ⟨g, j, none⟩ = some u) : ∀ j u, ((M.take k).map Value.string)[j]? = some u → w3.drew.cell? ((⟨g, 0, none⟩ : Addr).add j) = some u := by
  intro j u hu
  rw [Addr.add_lit]
  have h : w3.cell? ⟨g, 0 + j, none⟩ = some u := by
    rw [Nat.zero_add]
    refine hc j u ?_
    rw [List.getElem?_map, List.getElem?_take] at hu
    rw [List.getElem?_map]
    split at hu
    · exact hu
    · simp at hu
  exact h
theorem one_strs (l : List ByteArray) : ∀ u ∈ l.map Value.string, u.oneCell' = true := fun u hu => by
  obtain ⟨x, _, rfl⟩ := List.mem_map.1 hu
  rfl
theorem link01 : isLink 3 0 1 := by decide
theorem len01 (q : Qs) : lenQ 3 q 0 1 = (q 0 1).length := by
  unfold lenQ
  rw [if_pos link01]
  rfl
theorem join3 {P C : Nat} (hP : P < 3) (hC : C < 3) : joined 3 0 P C := ⟨by omega, by omega, by simp [bit]⟩
theorem more_other {q : Qs} {P C : Nat} (s : ByteArray) (h : ¬ (P = 0 ∧ C = 1)) : (moreQ q P C s) 0 1 = q 0 1 := by
  show (if 0 = ((P : Int).toNat) ∧ 1 = ((C : Int).toNat) then _ else q 0 1) = q 0 1
  rw [if_neg (fun e => h ⟨by omega, by omega⟩)]
theorem less_other {q : Qs} {P C : Nat} (i : Int) (h : ¬ (P = 0 ∧ C = 1)) : (lessQ q P C i) 0 1 = q 0 1 := by
  show (if 0 = ((P : Int).toNat) ∧ 1 = ((C : Int).toNat) then _ else q 0 1) = q 0 1
  rw [if_neg (fun e => h ⟨by omega, by omega⟩)]
theorem more_own {q : Qs} (s : ByteArray) : (moreQ q ((0 : Nat) : Int) ((1 : Nat) : Int) s) 0 1 = q 0 1 ++ [s] := rfl
theorem less_own {q : Qs} (i : Int) : (lessQ q ((0 : Nat) : Int) ((1 : Nat) : Int) i) 0 1 = (q 0 1).eraseIdx i.toNat := rfl
theorem room_own {q : Qs} : roomQ 3 q ((0 : Nat) : Int) ((1 : Nat) : Int) ↔ (q 0 1).length < 64 := by
  show isLink 3 0 1 ∧ lenQ 3 q 0 1 < 64 ↔ _
  rw [len01]
  exact ⟨fun h => h.2, fun h => ⟨link01, h⟩⟩
theorem doubles_own {q : Qs} {i : Int} : doublesQ 3 q ((0 : Nat) : Int) ((1 : Nat) : Int) i ↔ (0 ≤ i ∧ i < (q 0 1).length) ∧ (q 0 1).length < 64 := by
  show (0 ≤ i ∧ i < lenQ 3 q 0 1) ∧ lenQ 3 q 0 1 < 64 ↔ _
  rw [len01]
theorem takes_own {q : Qs} {i : Int} : takesQ 3 0 q ((0 : Nat) : Int) ((1 : Nat) : Int) i ↔ 0 ≤ i ∧ i < (q 0 1).length := by
  show (0 ≤ i ∧ i < lenQ 3 q 0 1) ∧ joined 3 0 ((0 : Nat) : Int) ((1 : Nat) : Int) ↔ _
  rw [len01]
  exact ⟨fun h => h.1, fun h => ⟨h, join3 (by omega) (by omega)⟩⟩
theorem msg_own {q : Qs} {k : Nat} (h : k < (q 0 1).length) : msgQ q ((0 : Nat) : Int) ((1 : Nat) : Int) (k : Int) = (q 0 1)[k] := by
  show (q 0 1).getD ((k : Int).toNat) ⟨#[]⟩ = _
  rw [show ((k : Int).toNat) = k by omega]
  simp [List.getD, List.getElem?_eq_getElem h]
theorem has_own {q : Qs} {i : Int} : hasQ 3 q ((0 : Nat) : Int) ((1 : Nat) : Int) i ↔ 0 ≤ i ∧ i < (q 0 1).length := by
  show 0 ≤ i ∧ i < lenQ 3 q 0 1 ↔ _
  rw [len01]

end Go.Proofs.Ytjmfimllaejpnaa
