/-
  MachineAgree's regions (mkj24.py).
-/
import Derived.Test.YtlfodldlkchmoaaGreatZJ18
import Derived.Test.YtlfodldlkchmoaaGreatZYCl
import Derived.Laws.StructEq
namespace Go.Proofs.YtlfodldlkchmoaaGreat.Y
open Go.RowKit Go.Maps
set_option maxRecDepth 100000
set_option linter.unusedVariables false
set_option linter.unusedSimpArgs false
theorem bytes_ext {a b : ByteArray} (h : a.data.toList = b.data.toList) : a = b := by
  obtain ⟨⟨x⟩⟩ := a
  obtain ⟨⟨y⟩⟩ := b
  simp only at h
  subst h
  rfl
structure OI (G : TG) (T : List Rec) : Prop where
  recs : G.recs = T
  fin : G.fin = T.length
  low : G.low = 0
  off : ∀ k (h : k < T.length), T[k].off = (k : Int)
  map : IsMap G.D
  none_ : ∀ p : ByteArray, pget G.D p.data.toList = none → ∀ r ∈ T, r.prod ≠ p
  some_ : ∀ (p : ByteArray) (o s : Int), pget G.D p.data.toList = some (o, s) → ∃ k, ∃ h : k < T.length, o = (k : Int) ∧ T[k].prod = p ∧ T[k].seq = s ∧ ∀ r ∈ T, r.prod = p → r.seq ≤ s
theorem oi_new (s : ByteArray) : OI (TG.new s) [] :=
  ⟨rfl, rfl, rfl, fun k h => by simp at h, isMap_empty, fun p _ r hr => by simp at hr, fun p o s h => by cases h⟩
theorem oi_add {G : TG} {T : List Rec} (h : OI G T) {p : ByteArray} {seq : Int} (k v : ByteArray) (hlt : ∀ r ∈ T, r.prod = p → r.seq < seq) : OI (addF G ⟨0, p, seq, k, v⟩) (T ++ [⟨(T.length : Int), p, seq, k, v⟩]) := by
  refine ⟨?_, ?_, h.low, ?_, h.map.put _ _, ?_, ?_⟩
  · show G.recs ++ [_] = _
    rw [h.recs, h.fin]
  · show G.fin + 1 = _
    rw [h.fin]; simp
  · intro i hi
    rw [List.length_append] at hi
    simp at hi
    by_cases e : i < T.length
    · rw [List.getElem_append_left e]; exact h.off i e
    · obtain rfl : i = T.length := by omega
      simp
  · intro q hq r hr
    show r.prod ≠ q
    have hq2 : pget (pput G.D p.data.toList G.fin seq) q.data.toList = none := hq
    by_cases e : q.data.toList = p.data.toList
    · rw [e, pget_put_same h.map] at hq2; cases hq2
    · rw [pget_put_other _ e] at hq2
      rcases List.mem_append.1 hr with hr | hr
      · exact h.none_ q hq2 r hr
      · rw [List.mem_singleton] at hr
        subst hr
        intro e2
        exact e (by rw [← e2])
  · intro q o s hq
    have hq2 : pget (pput G.D p.data.toList G.fin seq) q.data.toList = some (o, s) := hq
    by_cases e : q.data.toList = p.data.toList
    · rw [e, pget_put_same h.map] at hq2
      have e3 := bytes_ext e
      subst e3
      injection hq2 with hq2
      injection hq2 with e1 e2
      subst e1 e2
      refine ⟨T.length, by simp, by rw [h.fin], by simp, by simp, fun r hr hp => ?_⟩
      rcases List.mem_append.1 hr with hr | hr
      · exact Int.le_of_lt (hlt r hr hp)
      · rw [List.mem_singleton] at hr
        subst hr
        exact Int.le_refl _
    · rw [pget_put_other _ e] at hq2
      obtain ⟨i, hi, e1, e2, e3, e4⟩ := h.some_ q o s hq2
      refine ⟨i, by rw [List.length_append]; omega, e1, by rw [List.getElem_append_left hi]; exact e2, by rw [List.getElem_append_left hi]; exact e3, fun r hr hp => ?_⟩
      rcases List.mem_append.1 hr with hr | hr
      · exact e4 r hr hp
      · rw [List.mem_singleton] at hr
        subst hr
        exact absurd (by rw [← hp]) e
theorem once_step {G : TG} {T : List Rec} (h : OI G T) (p : ByteArray) (seq : Int) (k v : ByteArray) :
    (∃ cd, cd ≠ 0 ∧ pubF G p seq k v = (0, cd, G)) ∨
    (∃ i, ∃ hi : i < T.length, pubF G p seq k v = ((i : Int), 0, G) ∧ T[i].prod = p ∧ T[i].seq = seq) ∨
    (pubF G p seq k v = ((T.length : Int), 0, addF G ⟨0, p, seq, k, v⟩) ∧ OI (addF G ⟨0, p, seq, k, v⟩) (T ++ [⟨(T.length : Int), p, seq, k, v⟩]) ∧ ∀ r ∈ T, r.prod = p → r.seq < seq) := by
  unfold pubF
  cases hb : pubOk p seq k v with
  | false => exact .inl ⟨7, by decide, by rw [if_neg (by decide)]⟩
  | true =>
    rw [if_pos rfl]
    cases hg : pget G.D p.data.toList with
    | none =>
      have hlt : ∀ r ∈ T, r.prod = p → r.seq < seq := fun r hr hp => absurd hp (h.none_ p hg r hr)
      exact .inr (.inr ⟨by simp only [h.fin], oi_add h k v hlt, hlt⟩)
    | some g =>
      obtain ⟨o, s⟩ := g
      obtain ⟨i, hi, e1, e2, e3, e4⟩ := h.some_ p o s hg
      simp only
      by_cases h1 : s = seq
      · rw [if_pos h1]
        exact .inr (.inl ⟨i, hi, by rw [e1], e2, by rw [e3, h1]⟩)
      · rw [if_neg h1]
        by_cases h2 : seq < s
        · rw [if_pos h2]
          exact .inl ⟨6, by decide, rfl⟩
        · rw [if_neg h2]
          have hlt : ∀ r ∈ T, r.prod = p → r.seq < seq := fun r hr hp => by have := e4 r hr hp; omega
          exact .inr (.inr ⟨by rw [h.fin], oi_add h k v hlt, hlt⟩)
def OS (T : List Rec) : Prop := ∀ i j (_ : i < j) (hj : j < T.length), (T[i]'(by omega)).prod = T[j].prod → (T[i]'(by omega)).seq < T[j].seq
theorem os_add {T : List Rec} (h : OS T) (r : Rec) (hlt : ∀ x ∈ T, x.prod = r.prod → x.seq < r.seq) : OS (T ++ [r]) := by
  intro i j hij hj
  rw [List.length_append] at hj
  simp only [List.length_cons, List.length_nil] at hj
  have hi : i < T.length := by omega
  rw [List.getElem_append_left hi]
  by_cases e : j < T.length
  · rw [List.getElem_append_left e]
    exact h i j hij e
  · obtain rfl : j = T.length := by omega
    have e2 : (T ++ [r])[T.length]'(by rw [List.length_append]; simp) = r := by simp
    rw [e2]
    exact hlt _ (List.getElem_mem hi)
structure TI (H : TG) : Prop where
  oi : OI H H.recs
  os : OS H.recs
theorem ti_new (s : ByteArray) : TI (TG.new s) := ⟨oi_new s, fun i j _ hj => by cases hj⟩
theorem addF_recs {H : TG} {T : List Rec} {p : ByteArray} {seq : Int} {k v : ByteArray} (h : OI (addF H ⟨0, p, seq, k, v⟩) T) : (addF H ⟨0, p, seq, k, v⟩).recs = T := h.recs
theorem ti_pub {H : TG} (h : TI H) (p : ByteArray) (seq : Int) (k v : ByteArray) : TI (pubF H p seq k v).2.2 := by
  rcases once_step h.oi p seq k v with ⟨cd, _, e⟩ | ⟨i, hi, e, _⟩ | ⟨e, e2, e3⟩
  · rw [e]; exact h
  · rw [e]; exact h
  · rw [e]
    have e4 := addF_recs e2
    refine ⟨by rw [e4]; exact e2, ?_⟩
    show OS (addF H ⟨0, p, seq, k, v⟩).recs
    rw [e4]
    exact os_add h.os _ e3
def MI (X : MS) : Prop := ∀ k H, X.T k = some H → TI H
theorem MI.sameT {X Y : MS} (h : MI X) (e : Y.T = X.T) : MI Y := fun k H q => h k H (by rw [← e]; exact q)
theorem MI.putT {X : MS} (h : MI X) (k : List UInt8) {H : TG} (hH : TI H) : MI (X.putT k H) := fun j G q => by
  have q2 : putF X.T k H j = some G := q
  by_cases e : j = k
  · subst e
    rw [putF_same] at q2
    cases q2
    exact hH
  · rw [putF_other _ _ e] at q2
    exact h j G q2
theorem MI.newT {X : MS} (h : MI X) (k : List UInt8) {H : TG} (hH : TI H) : MI (X.newT k H) := fun j G q => by
  have q2 : putF X.T k H j = some G := q
  by_cases e : j = k
  · subst e
    rw [putF_same] at q2
    cases q2
    exact hH
  · rw [putF_other _ _ e] at q2
    exact h j G q2
theorem mi_new (n : Nat) : MI (MS.new n) := fun k H q => by cases q
theorem keep_T (X : MS) (s : SB) (code : Int) : (keepM X s code).2.T = X.T := by
  unfold keepM
  simp only
  split <;> rfl
theorem do_sameT (X : MS) (x : CM) (h1 : x.kind ≠ 1) (h2 : x.kind ≠ 2) (h8 : x.kind ≠ 8) (h9 : x.kind ≠ 9) : (doM X x).2.T = X.T := by
  unfold doM
  rw [if_neg h1, if_neg h2, if_neg h8, if_neg h9]
  split
  · unfold subscribeM
    split
    · rfl
    · split
      · rfl
      · split
        · rfl
        · exact keep_T _ _ _
  split
  · unfold attachM
    split
    · rfl
    · exact keep_T _ _ _
  split
  · unfold pollM
    split
    · rfl
    · split
      · rfl
      · split <;> rfl
  split
  · unfold ackM
    split
    · rfl
    · exact keep_T _ _ _
  split
  · unfold seekM
    split
    · rfl
    · split
      · rfl
      · exact keep_T _ _ _
  split
  · rfl
  · unfold leaveM
    split <;> rfl
theorem mi_do {X : MS} (h : MI X) (x : CM) (h8 : x.kind ≠ 8) (h9 : x.kind ≠ 9) : MI (doM X x).2 := by
  by_cases h1 : x.kind = 1
  · unfold doM
    rw [if_pos h1]
    unfold createM
    split
    · exact h
    · split
      · exact h
      · exact h.newT _ (ti_new _)
  by_cases h2 : x.kind = 2
  · unfold doM
    rw [if_neg h1, if_pos h2]
    unfold publishM
    split
    · exact h
    · rename_i H e
      exact h.putT _ (ti_pub (h _ H e) _ _ _ _)
  exact h.sameT (do_sameT X x h1 h2 h8 h9)
theorem mi_apply {X : MS} (h : MI X) (x : CM) (h8 : x.kind ≠ 8) (h9 : x.kind ≠ 9) : MI (applyM X (rencP x).data.toList).2 := by
  cases hr : x.right with
  | true =>
    rw [apply_right X x hr]
    exact mi_do (h.sameT (Y := X.tick _) rfl) x h8 h9
  | false =>
    rw [apply_wrong X x hr]
    exact h.sameT rfl
def HD (X : MS) (c : CM) (o : Int) : Prop := ∃ H, X.T c.topic.data.toList = some H ∧ TI H ∧ pget H.D c.name.data.toList = some (o, c.seq)
theorem HD.sameT {X Y : MS} {c : CM} {o : Int} (h : HD X c o) (e : Y.T = X.T) : HD Y c o := by
  obtain ⟨H, h1, h2, h3⟩ := h
  exact ⟨H, by rw [e]; exact h1, h2, h3⟩
theorem num_code {a n : Int} (h : (numM a n).code = 0) : a = 0 ∧ (numM a n).n = n := by
  unfold numM at *
  split
  · rename_i e; exact ⟨e, rfl⟩
  · rename_i e
    rw [if_neg e] at h
    exact absurd h e
theorem apply_code {X : MS} {x : CM} (h : (applyM X (rencP x).data.toList).1.code = 0) : x.right = true := by
  cases hr : x.right with
  | true => rfl
  | false =>
    rw [apply_wrong X x hr] at h
    cases h
theorem had_first {X : MS} (hM : MI X) (c : CM) (hk : c.kind = 2) (h : (applyM X (rencP c).data.toList).1.code = 0) : HD (applyM X (rencP c).data.toList).2 c (applyM X (rencP c).data.toList).1.n ∧ pubOk c.name c.seq c.key c.val = true ∧ c.right = true := by
  have hr := apply_code h
  rw [apply_right X c hr] at h ⊢
  have e0 : doM (X.tick (rencP c).data.toList) c = publishM (X.tick (rencP c).data.toList) c := by
    unfold doM
    rw [if_neg (by omega), if_pos hk]
  rw [e0] at h ⊢
  unfold publishM at h ⊢
  have hM2 : MI (X.tick (rencP c).data.toList) := hM.sameT rfl
  generalize X.tick (rencP c).data.toList = Z at *
  cases hT : Z.T c.topic.data.toList with
  | none =>
    rw [hT] at h
    cases h
  | some H =>
    rw [hT] at h
    simp only at h ⊢
    obtain ⟨c0, n0⟩ := num_code h
    have hI := hM2 _ H hT
    refine ⟨?_, ?_, hr⟩
    · rw [n0]
      refine ⟨_, putF_same _ _ _, ti_pub hI _ _ _ _, ?_⟩
      unfold pubF at c0 ⊢
      split at c0
      · rename_i hb
        rw [if_pos hb]
        cases hg : pget H.D c.name.data.toList with
        | none =>
          exact pget_put_same hI.oi.map _ _ _
        | some g =>
          obtain ⟨o, s⟩ := g
          rw [hg] at c0
          simp only at c0 ⊢
          by_cases h1 : s = c.seq
          · rw [if_pos h1]
            subst h1
            exact hg
          · rw [if_neg h1] at c0 ⊢
            by_cases h2 : c.seq < s
            · rw [if_pos h2] at c0
              cases c0
            · rw [if_neg h2]
              exact pget_put_same hI.oi.map _ _ _
      · cases c0
    · unfold pubF at c0
      split at c0
      · assumption
      · cases c0
theorem had_again {X : MS} {c : CM} {o : Int} (h : HD X c o) (hk : c.kind = 2) (hb : pubOk c.name c.seq c.key c.val = true) (hr : c.right = true) : (applyM X (rencP c).data.toList).1.code = 0 ∧ (applyM X (rencP c).data.toList).1.n = o ∧ HD (applyM X (rencP c).data.toList).2 c o := by
  rw [apply_right X c hr]
  have e0 : doM (X.tick (rencP c).data.toList) c = publishM (X.tick (rencP c).data.toList) c := by
    unfold doM
    rw [if_neg (by omega), if_pos hk]
  rw [e0]
  have h2 : HD (X.tick (rencP c).data.toList) c o := h.sameT rfl
  generalize X.tick (rencP c).data.toList = Z at *
  obtain ⟨H, h1, hI, hg⟩ := h2
  have e1 : pubF H c.name c.seq c.key c.val = (o, 0, H) := by
    unfold pubF
    rw [if_pos hb, hg]
    exact if_pos rfl
  unfold publishM
  rw [h1]
  simp only
  rw [e1]
  exact ⟨rfl, rfl, H, putF_same _ _ _, hI, hg⟩
theorem had_keep {X : MS} {c : CM} {o : Int} (h : HD X c o) (hM : MI X) (x : CM) (h8 : x.kind ≠ 8) (h9 : x.kind ≠ 9) (hp : ¬ (x.kind = 2 ∧ x.topic = c.topic ∧ x.name = c.name ∧ c.seq < x.seq)) : HD (applyM X (rencP x).data.toList).2 c o := by
  cases hr : x.right with
  | false =>
    rw [apply_wrong X x hr]
    exact h.sameT rfl
  | true =>
  rw [apply_right X x hr]
  have h2 : HD (X.tick (rencP x).data.toList) c o := h.sameT rfl
  have hM2 : MI (X.tick (rencP x).data.toList) := hM.sameT rfl
  generalize X.tick (rencP x).data.toList = Z at *
  by_cases k1 : x.kind = 1
  · unfold doM
    rw [if_pos k1]
    unfold createM
    split
    · exact h2
    · rename_i e
      split
      · exact h2
      · obtain ⟨H, e1, e2, e3⟩ := h2
        refine ⟨H, ?_, e2, e3⟩
        show putF Z.T _ _ _ = _
        rw [putF_other]
        · exact e1
        · intro q
          rw [q] at e1
          rw [e1] at e
          cases e
  by_cases k2 : x.kind = 2
  · unfold doM
    rw [if_neg k1, if_pos k2]
    unfold publishM
    split
    · exact h2
    · rename_i G e
      obtain ⟨H, e1, e2, e3⟩ := h2
      by_cases kt : c.topic.data.toList = x.topic.data.toList
      · have ht : x.topic = c.topic := bytes_ext kt.symm
        rw [← kt, e1] at e
        obtain rfl : H = G := Option.some.inj e
        refine ⟨_, by show putF Z.T _ _ _ = _; rw [kt]; exact putF_same _ _ _, ti_pub e2 _ _ _ _, ?_⟩
        unfold pubF
        split
        · by_cases kn : x.name.data.toList = c.name.data.toList
          · have hn := bytes_ext kn
            rw [kn, e3]
            simp only
            by_cases s1 : c.seq = x.seq
            · rw [if_pos s1]; exact e3
            · rw [if_neg s1]
              by_cases s2 : x.seq < c.seq
              · rw [if_pos s2]; exact e3
              · exact absurd ⟨k2, ht, hn, by omega⟩ hp
          · have hq : ∀ f q, pget (pput H.D x.name.data.toList f q) c.name.data.toList = some (o, c.seq) := fun f q => by
              rw [pget_put_other _ (fun q => kn q.symm)]
              exact e3
            cases hg : pget H.D x.name.data.toList with
            | none => exact hq _ _
            | some g =>
              obtain ⟨a, b⟩ := g
              simp only
              split
              · exact e3
              · split
                · exact e3
                · exact hq _ _
        · exact e3
      · refine ⟨H, ?_, e2, e3⟩
        show putF Z.T _ _ _ = _
        rw [putF_other _ _ kt]
        exact e1
  · exact h2.sameT (do_sameT Z x k1 k2 h8 h9)
theorem had_once {X : MS} {c : CM} {o : Int} (h : HD X c o) : ∃ H i, X.T c.topic.data.toList = some H ∧ TI H ∧ o = ((i : Nat) : Int) ∧ i < H.recs.length ∧ ∀ k (hk : k < H.recs.length), H.recs[k].off = (k : Int) ∧ ((H.recs[k].prod = c.name ∧ H.recs[k].seq = c.seq) ↔ k = i) := by
  obtain ⟨H, h1, hI, hg⟩ := h
  obtain ⟨i, hi, e1, e2, e3, e4⟩ := hI.oi.some_ _ _ _ hg
  refine ⟨H, i, h1, hI, e1, hi, fun k hk => ⟨hI.oi.off k hk, ⟨fun q => ?_, fun q => ?_⟩⟩⟩
  · rcases Nat.lt_trichotomy k i with q2 | q2 | q2
    · have := hI.os k i q2 hi (q.1.trans e2.symm); omega
    · exact q2
    · have := hI.os i k q2 hk (e2.trans q.1.symm); omega
  · subst q
    exact ⟨e2, e3⟩
theorem read_all {H : TG} (h : TI H) (hl : H.recs.length ≤ 10000) : readF H.recs 0 10000 = H.recs := by
  unfold readF
  have e : placeF H.recs 0 = 0 := by
    unfold placeF
    rw [List.countP_eq_zero]
    intro r hr
    obtain ⟨k, hk, rfl⟩ := List.mem_iff_getElem.1 hr
    rw [h.oi.off k hk, decide_eq_false (by omega)]
    exact fun e => by cases e
  rw [e, List.drop_zero, List.take_of_length_le]
  exact hl
end Go.Proofs.YtlfodldlkchmoaaGreat.Y
namespace Go.Proofs.YtlfodldlkchmoaaGreat.Y
open Go.RowKit
attribute [local go_sem ↓] Go.wp_at_zero Go.wp_at_succ
set_option linter.unusedSimpArgs false
set_option linter.unusedVariables false
open Go.Maps
structure Two (w0 w : World) (La Lb : LM) (X Y : MS) : Prop where
  a : MAt w La X
  b : MAt w Lb Y
  ap : ∀ j, La.own j → ¬ Lb.own j
  bel : Below w0.heap.size w0 w
  oa : ∀ j, La.own j → w0.heap.size ≤ j
  ob : ∀ j, Lb.own j → w0.heap.size ≤ j
theorem Two.to {w0 w w' : World} {La Lb : LM} {X Y : MS} (h : Two w0 w La Lb X Y) (hb : Below w.heap.size w w') : Two w0 w' La Lb X Y := ⟨h.a.below hb, h.b.below hb, h.ap, h.bel.trans (hb.mono h.bel.size), h.oa, h.ob⟩
structure Vag where
  v0 : Value
  v1 : Value
  v2 : Value
  v5 : Value
  v6 : Value
  v7 : Value
  v8 : Value
  v9 : Value
  v10 : Value
  v11 : Value
  v12 : Value
  v13 : Value
  v14 : Value
  v15 : Value
structure Fag (a : Act) (v : Vag) : Prop where
  size : a.tmps.size = 105
  defers : a.defers = []
  s0 : a.tmps.getD 0 undef = v.v0
  s1 : a.tmps.getD 1 undef = v.v1
  s2 : a.tmps.getD 2 undef = v.v2
  s5 : a.tmps.getD 5 undef = v.v5
  s6 : a.tmps.getD 6 undef = v.v6
  s7 : a.tmps.getD 7 undef = v.v7
  s8 : a.tmps.getD 8 undef = v.v8
  s9 : a.tmps.getD 9 undef = v.v9
  s10 : a.tmps.getD 10 undef = v.v10
  s11 : a.tmps.getD 11 undef = v.v11
  s12 : a.tmps.getD 12 undef = v.v12
  s13 : a.tmps.getD 13 undef = v.v13
  s14 : a.tmps.getD 14 undef = v.v14
  s15 : a.tmps.getD 15 undef = v.v15
end Go.Proofs.YtlfodldlkchmoaaGreat.Y
