/-
  TopicReads on lists; a topic and two rows of records of the law's own beside it.
-/
import Derived.Test.YtooaliadefendaaT9
import Derived.Maps.AppendAt
import Derived.Laws.OwnMore
namespace Go.Proofs.Ytooaliadefendaa.Y
open Go.RowKit Go.Maps

set_option linter.unusedVariables false
def OffI (T : List Rec) : Prop := ∀ k (h : k < T.length), T[k].off = (k : Int)
theorem place_off {T : List Rec} (h : OffI T) (m : Nat) (hm : m ≤ T.length) : placeF T (m : Int) = m :=
  place_boundary T m hm (fun t ht hti => by rw [h t ht]; omega) (fun t ht hti => by rw [h t ht]; omega)
/-- What is left to be read, and what was read. -/
def RI (T AL OL : List Rec) (from_ : Int) : Prop := AL = OL ++ T.drop (placeF T from_)
theorem ri_start {T : List Rec} (hl : T.length ≤ 1000) (from_ : Int) : RI T (readF T from_ 1000) [] from_ := by
  unfold RI readF
  rw [List.nil_append]
  exact List.take_of_length_le (by rw [List.length_drop]; simp; omega)
theorem ri_none {T AL OL : List Rec} {from_ : Int} (h : RI T AL OL from_) {n : Int} (hn : readF T from_ n = []) : RI T AL (OL ++ readF T from_ n) from_ := by
  rw [hn, List.append_nil]; exact h
theorem ri_some {T AL OL : List Rec} {from_ : Int} (h : RI T AL OL from_) (ho : OffI T) {n : Int} {m : Nat} (hm : (readF T from_ n).length = m + 1) :
    ∃ hk : m < (readF T from_ n).length, RI T AL (OL ++ readF T from_ n) ((readF T from_ n)[m].off + 1) := by
  refine ⟨by omega, ?_⟩
  have h1 := hm
  have hle := placeF_le T from_
  unfold readF at h1
  rw [List.length_take, List.length_drop] at h1
  have e : (readF T from_ n)[m]'(by omega) = T[placeF T from_ + m]'(by omega) := by
    unfold readF
    rw [List.getElem_take, List.getElem_drop]
  have e2 : ((readF T from_ n)[m]'(by omega)).off + 1 = ((placeF T from_ + m + 1 : Nat) : Int) := by
    rw [e, ho]; omega
  unfold RI at h ⊢
  rw [e2, place_off ho _ (by omega), h, List.append_assoc]
  congr 1
  have e3 : readF T from_ n = (T.drop (placeF T from_)).take (m + 1) := by
    unfold readF
    by_cases hc : n.toNat ≤ T.length - placeF T from_
    · rw [show n.toNat = m + 1 by omega]
    · rw [List.take_of_length_le (by rw [List.length_drop]; omega), List.take_of_length_le (by rw [List.length_drop]; omega)]
  rw [e3, Nat.add_assoc, ← List.drop_drop, List.take_append_drop]
theorem ri_len {T AL OL : List Rec} {from_ : Int} (h : RI T AL OL from_) (n : Int) : OL.length + (readF T from_ n).length ≤ AL.length := by
  unfold RI at h
  rw [h, List.length_append]
  unfold readF
  rw [List.length_take]
  omega
theorem ri_take {T AL OL : List Rec} {from_ : Int} (h : RI T AL OL from_) : AL.take OL.length = OL := by
  unfold RI at h
  rw [h, List.take_left]
theorem read_len (T : List Rec) (from_ n : Int) : (readF T from_ n).length ≤ n.toNat := by
  unfold readF
  rw [List.length_take]
  omega
theorem recCells_append (k l : List Rec) : recCells (k ++ l) = recCells k ++ recCells l := by simp [recCells]
theorem recCells_one (l : List Rec) : ∀ u ∈ recCells l, u.oneCell' = true := by
  intro u hu
  obtain ⟨x, _, hx⟩ := List.mem_flatMap.1 hu
  simp [Rec.cells] at hx
  rcases hx with rfl | rfl | rfl | rfl | rfl <;> rfl
theorem recs_news {w : World} {ad : Addr} {cap : Nat} {l : List Rec} (h : RecsAt w (.slice (some ad) l.length cap) l) : ∀ (j : Nat) (u : Value), (recCells l)[j]? = some u → w.cell? (ad.add j) = some u := by
  intro j u hj
  have hjl : j < (recCells l).length := (List.getElem?_eq_some_iff.1 hj).1
  rw [recCells_length] at hjl
  have hi : j / 5 < l.length := by omega
  obtain ⟨a, c, hv, _, ha⟩ := h
  injection hv with h1 h2 h3
  obtain ⟨b, off, e, hb, hc⟩ := ha (j / 5) hi
  rw [← h1] at e
  injection e with e
  subst e
  have h5 : j % 5 < 5 := by omega
  have h6 := hc (j % 5) h5
  have h7 := recCells_get l (j / 5) (j % 5) hi h5
  have ej : j / 5 * 5 + j % 5 = j := by omega
  rw [ej, hj] at h7
  have h8 := h6.trans h7.symm
  rw [Nat.add_assoc, ej] at h8
  rw [Addr.add_lit]
  exact h8
/-- append of a whole row of records to a row of one's own. -/
theorem run_append_recs {w : World} {B : Nat} {k l : List Rec} {oo xo : Option Addr} {oc xc : Nat} (hown : w.ownsRow B 35 5 (.slice oo k.length oc) k.length (recCells k)) {B2 : Nat} (hx : w.ownsRow B2 35 5 (.slice xo l.length xc) l.length (recCells l)) (hB : B ≤ w.heap.size) (hl : k.length + l.length ≤ 1000000) (ty : TypeId) :
    ∃ to' tc' w', (Builtin.append_ #[28, 28] ty #[.slice oo k.length oc, .slice xo l.length xc]).run Try.prog w = .ok (.slice to' (k ++ l).length tc') w' ∧ w'.ownsRow B 35 5 (.slice to' (k ++ l).length tc') (k ++ l).length (recCells (k ++ l)) ∧ w.grownBy w' (Value.slice oo k.length oc).ownBlock ∧ ((Value.slice to' (k ++ l).length tc').ownBlock = (Value.slice oo k.length oc).ownBlock ∨ (Value.slice to' (k ++ l).length tc').ownBlock = some w.heap.size) := by
  cases xo with
  | none =>
    rcases hx.2 with ⟨hv, hn⟩ | ⟨g, cap, cur, hv, _⟩
    · have h0 := hn
      injection hv with _ _ h3
      subst h3
      have hl0 : l = [] := List.eq_nil_of_length_eq_zero h0
      subst hl0
      have hr := run_append_owned_none (P := Try.prog) w B 28 ty 35 _ 5 Try.underlying28 Try.infoRec (.slice oo k.length oc) k.length (recCells k) hown
      refine ⟨oo, oc, w, by simpa using hr, by simpa using hown, ⟨rfl, rfl, rfl, Nat.le_refl _, fun _ _ _ => rfl⟩, .inl (by simp)⟩
    · cases hv
  | some ad =>
    obtain ⟨v', w', hr, h2, h3, _, h4⟩ := run_append_own_at (P := Try.prog) w B 28 ty 35 _ _ 5 64 Try.underlying28 Try.infoRec Try.zeroRec Try.sizeRec Try.bytesRec rfl (by decide) (.slice oo k.length oc) k.length (recCells k) hown ad l.length xc (recCells l) (recCells_length l) (recs_news (recs_of_own hx)) (recCells_one l) (by unfold maxLen; omega) (by omega) hB
    obtain ⟨to', tc', rfl⟩ := row_slice h2
    refine ⟨to', tc', w', by rw [List.length_append]; exact hr, by rw [List.length_append, recCells_append]; exact h2, h3, by rw [List.length_append]; exact h4⟩
theorem wpList_append_run {P : Program} {w w' : World} {ops : Array Oper} {rest : List Oper} {o : Oper} {a : Act} {Q : Exit → Act → World → Prop} (hgd : o.guard = none) (s x : Operand) (t : TypeId)
    (ho : o.op = .call { callee := .builtin .append, args := #[s, x], argTypes := #[t, t] }) (vs vx v' : Value) (hs : a.eval s = vs) (hx : a.eval x = vx) (hr : (Builtin.append_ #[t, t] o.type #[vs, vx]).run P w = .ok v' w')
    (h : wpList P ops Q rest (a.put o.dst v') w') : wpList P ops Q (o :: rest) a w := by
  refine wpList_plain hgd fun K hK => ?_
  unfold Oper.wp execOp
  simp only [ho, resolve, invoke, builtin, Sem.run_bind, Sem.run_pure, Result.andThen_ok, List.map_toArray, List.map_cons, List.map_nil, hs, hx, hr]
  exact hK _ _ h
/-- A topic, a row that grows, and another one. -/
structure RM (B : Nat) (w0 w : World) (L : LOC) (G : TG) (c : Nat) (OL : List Rec) (oo : Option Addr) (oc : Nat) (AL : List Rec) (ao : Option Addr) (ac : Nat) : Prop where
  om : OM B w0 w L G c OL oo oc
  all : w.ownsRow B 35 5 (.slice ao AL.length ac) AL.length (recCells AL)
  ap : ∀ j, (Value.slice oo OL.length oc).ownBlock = some j → (Value.slice ao AL.length ac).ownBlock ≠ some j
section
variable {B : Nat} {w0 w w' : World} {L L' : LOC} {G G' : TG} {c c' : Nat} {OL OL' AL : List Rec} {oo oo' ao : Option Addr} {oc oc' ac : Nat}
theorem RM.to (h : RM B w0 w L G c OL oo oc AL ao ac) (hb : Below w.heap.size w w') : RM B w0 w' L G c OL oo oc AL ao ac := ⟨h.om.to hb, own_below h.all hb, h.ap⟩
theorem RM.grown (h : RM B w0 w L G c OL oo oc AL ao ac) (hg : w.grownBy w' (Value.slice oo OL.length oc).ownBlock) (hr : w'.ownsRow B 35 5 (.slice oo' OL'.length oc') OL'.length (recCells OL')) (hw : (Value.slice oo' OL'.length oc').ownBlock = (Value.slice oo OL.length oc).ownBlock ∨ (Value.slice oo' OL'.length oc').ownBlock = some w.heap.size) : RM B w0 w' L G c OL' oo' oc' AL ao ac := by
  refine ⟨h.om.grown hg hr hw, grown_row hg h.all (fun k hk e => h.ap k e hk), fun j hj e => ?_⟩
  rcases hw with hw | hw
  · exact h.ap j (hw ▸ hj) e
  · rw [hw] at hj
    have := row_lt h.all e
    have := Option.some.inj hj
    omega
end
end Go.Proofs.Ytooaliadefendaa.Y
