/-
  What the document's topic and subscription do is what the program's do: on lists.
-/
import Derived.Test.YtominplelmbecaaZZC
import Derived.Test.YtominplelmbecaaZSXa
namespace Go.Proofs.Ytominplelmbecaa.Y
open Go.RowKit Go.Maps

set_option linter.unusedVariables false
set_option linter.unusedSimpArgs false
theorem filter_drop {l : List Rec} (hr : Rises l) (x : Int) : l.filter (geB x) = l.drop (placeF l x) := by
  have e : l.filter (geB x) = (l.take (placeF l x)).filter (geB x) ++ (l.drop (placeF l x)).filter (geB x) := by rw [← List.filter_append, List.take_append_drop]
  have h1 : (l.take (placeF l x)).filter (geB x) = [] := by
    rw [List.filter_eq_nil_iff]
    intro r hm
    obtain ⟨j, hj, ej⟩ := List.mem_iff_getElem.1 hm
    rw [List.length_take] at hj
    rw [List.getElem_take] at ej
    have := (place_lt hr (off := x) j (by omega)).1 (by omega)
    rw [ej] at this
    simp only [geB, decide_eq_true_eq]
    omega
  have h2 : (l.drop (placeF l x)).filter (geB x) = l.drop (placeF l x) := by
    rw [List.filter_eq_self]
    intro r hm
    have := drop_ge hr r hm
    simp only [geB, decide_eq_true_eq]
    omega
  rw [e, h1, h2]
  rfl
theorem filter_take {l : List Rec} (hr : Rises l) (x : Int) : l.filter (fun r => decide (r.off < x)) = l.take (placeF l x) := by
  have e : l.filter (fun r => decide (r.off < x)) = (l.take (placeF l x)).filter (fun r => decide (r.off < x)) ++ (l.drop (placeF l x)).filter (fun r => decide (r.off < x)) := by rw [← List.filter_append, List.take_append_drop]
  have h1 : (l.take (placeF l x)).filter (fun r => decide (r.off < x)) = l.take (placeF l x) := by
    rw [List.filter_eq_self]
    intro r hm
    obtain ⟨j, hj, ej⟩ := List.mem_iff_getElem.1 hm
    rw [List.length_take] at hj
    rw [List.getElem_take] at ej
    have := (place_lt hr (off := x) j (by omega)).1 (by omega)
    rw [ej] at this
    simpa using this
  have h2 : (l.drop (placeF l x)).filter (fun r => decide (r.off < x)) = [] := by
    rw [List.filter_eq_nil_iff]
    intro r hm
    have := drop_ge hr r hm
    simp only [decide_eq_true_eq]
    omega
  rw [e, h1, h2, List.append_nil]
theorem grant_eq {G : TG} {c : Nat} (hk : G.Ok c) (S : SB) (n : Int) (lo : Int) (hlo : lo = G.low) : grantF G S n = zout S lo G.recs n := by
  subst hlo
  have hr := hk.rises
  unfold grantF readF zout
  generalize max S.cur (G.low : Int) + 100 = ed
  generalize S.next = x
  generalize G.recs = l at *
  have e : l.filter (zP x ed) = (l.drop (placeF l x)).filter (fun r => decide (r.off < ed)) := by
    rw [← filter_drop hr, List.filter_filter]
    congr 1
    funext r
    simp only [zP, geB, Bool.and_comm]
  rw [e]
  have hD : Rises (l.drop (placeF l x)) := hr.drop _
  rw [filter_take hD]
  generalize l.drop (placeF l x) = D at *
  generalize n.toNat = m
  have hp : placeF (D.take m) ed = min (D.take m).length (placeF D ed) :=
    place_boundary (D.take m) _ (Nat.min_le_left _ _) (fun t ht hlt => by
      rw [List.getElem_take]
      rw [List.length_take] at ht
      exact (place_lt hD t (by omega)).1 (Nat.lt_of_lt_of_le hlt (Nat.min_le_right _ _))) (fun t ht hle => by
      rw [List.getElem_take]
      have ht2 := ht
      rw [List.length_take] at ht2
      rcases Nat.le_total (D.take m).length (placeF D ed) with q | q
      · rw [Nat.min_eq_left q] at hle; omega
      · rw [Nat.min_eq_right q] at hle
        exact fun h => absurd ((place_lt hD t (by omega)).2 h) (by omega))
  rw [hp, List.take_take, List.take_take]
  congr 1
  have := placeF_le D ed
  rw [List.length_take]
  omega
theorem poll_eq {G : TG} {c : Nat} (hk : G.Ok c) (S : SB) (n : Int) : pollF S G n = zpollF S G.name G.low G.fin G.recs n := by
  have hL : pollF S G n = if S.right = true ∧ pollOk S G n = true then ({ S with next := nextF S (grantF G S n) }, grantF G S n, 0) else (S, [], 7) := by
    unfold pollF pollI
    by_cases hr : S.right = true
    · by_cases h : pollOk S G n = true
      · simp [hr, h]
      · simp [hr, h]
    · simp [hr]
  have hiff : (S.right = true ∧ pollOk S G n = true) ↔ (S.right = true ∧ (S.top.toList == G.name.toList) = true ∧ ¬ (G.fin : Int) < S.next ∧ ¬ n < 1 ∧ ¬ 50 < n) := by
    simp only [pollOk, Bool.and_eq_true, decide_eq_true_eq]
    constructor
    · rintro ⟨q0, ⟨⟨q1, q2⟩, q3⟩, q4⟩
      exact ⟨q0, q1, by omega, by omega, by omega⟩
    · rintro ⟨q0, q1, q2, q3, q4⟩
      exact ⟨q0, ⟨⟨q1, by omega⟩, by omega⟩, by omega⟩
  rw [hL]
  unfold zpollF
  rw [← grant_eq hk S n G.low rfl]
  by_cases h : S.right = true ∧ pollOk S G n = true
  · rw [if_pos h, if_pos (hiff.1 h)]
  · rw [if_neg h, if_neg (fun q => h (hiff.2 q))]
theorem seek_eq (G : TG) (S : SB) (n : Int) : seekF S G n = zseekF S G.name G.fin n := by
  have hL : seekF S G n = if S.right = true ∧ ((S.top.toList == G.name.toList) = true ∧ 0 ≤ n ∧ n ≤ (G.fin : Int)) then ({ S with cur := n, next := n }, 0) else (S, 7) := by
    unfold seekF seekI
    by_cases hr : S.right = true
    · by_cases h : (S.top.toList == G.name.toList) = true ∧ 0 ≤ n ∧ n ≤ (G.fin : Int)
      · rw [if_pos h, if_pos (show S.right = true ∧ ((S.top.toList == G.name.toList) = true ∧ 0 ≤ n ∧ n ≤ (G.fin : Int)) from ⟨hr, h⟩)]
        simp [hr]
      · rw [if_neg h, if_neg (show ¬ (S.right = true ∧ ((S.top.toList == G.name.toList) = true ∧ 0 ≤ n ∧ n ≤ (G.fin : Int))) from fun q => h q.2)]
        simp
    · rw [if_neg (show ¬ (S.right = true ∧ ((S.top.toList == G.name.toList) = true ∧ 0 ≤ n ∧ n ≤ (G.fin : Int))) from fun q => hr q.1)]
      simp [hr]
  rw [hL]
  unfold zseekF
  by_cases h : S.right = true ∧ ((S.top.toList == G.name.toList) = true ∧ 0 ≤ n ∧ n ≤ (G.fin : Int))
  · rw [if_pos h, if_pos ⟨h.1, h.2.1, by have := h.2.2.1; omega, by have := h.2.2.2; omega⟩]
  · rw [if_neg h, if_neg (fun q => h ⟨q.1, q.2.1, by have := q.2.2.1; omega, by have := q.2.2.2; omega⟩)]
theorem new_eq {G : TG} {c : Nat} (hk : G.Ok c) (p : ByteArray) (n : Int) : newF p G n = newZ p G.name G.fin n := by
  unfold newF newZ
  obtain ⟨m, hm⟩ : ∃ m, (if n < 0 then (G.fin : Int) else n) = m := ⟨_, rfl⟩
  have hm0 : 0 ≤ m := by rw [← hm]; split <;> omega
  rw [hm, seek_eq]
  have hr : SB.right ⟨p, G.name, 0, 0⟩ = wordB p := by
    unfold SB.right
    simp only
    rw [hk.word]
    simp
  have ht : (G.name.toList == G.name.toList) = true := by simp
  have e : zseekF ⟨p, G.name, 0, 0⟩ G.name G.fin m = if wordB p = true ∧ ¬ (G.fin : Int) < m then (⟨p, G.name, m, m⟩, 0) else (⟨p, G.name, 0, 0⟩, 7) := by
    unfold zseekF
    simp only
    rw [hr]
    by_cases h : wordB p = true ∧ ¬ (G.fin : Int) < m
    · rw [if_pos h, if_pos (show wordB p = true ∧ (G.name.toList == G.name.toList) = true ∧ ¬ m < 0 ∧ ¬ (G.fin : Int) < m from ⟨h.1, ht, by omega, h.2⟩)]
    · rw [if_neg h, if_neg (show ¬ (wordB p = true ∧ (G.name.toList == G.name.toList) = true ∧ ¬ m < 0 ∧ ¬ (G.fin : Int) < m) from fun q => h ⟨q.1, q.2.2.2⟩)]
  rw [e]
  by_cases h : wordB p = true ∧ ¬ (G.fin : Int) < m
  · rw [if_pos h, if_pos h]
    rfl
  · rw [if_neg h, if_neg h]
    rfl
theorem find_pB (x o : Int) : findF [⟨pB, x, o⟩] pB = 0 := by
  unfold findF
  rw [show lessB pB pB = false by kernel_rfl]
  rfl
theorem there_pB (x o : Int) : thereF [⟨pB, x, o⟩] pB = true := by
  unfold thereF
  rw [find_pB]
  simp
theorem got_pB (x o : Int) : xgot [⟨pB, x, o⟩] pB = some ⟨pB, x, o⟩ := by
  unfold xgot
  rw [there_pB, find_pB]
  rfl
/-- The document's topic is the program's, of one producer's numbers. -/
structure PX (G : TG) (Y : XG) (n : Nat) : Prop where
  name : Y.name = G.name
  low : Y.low = G.low
  fin : Y.fin = G.fin
  recs : Y.recs = G.recs
  isMap : IsMap G.D
  le : G.fin ≤ n
  prod : (n = 0 ∧ Y.prods = [] ∧ pget G.D pB.data.toList = none) ∨ ∃ o : Int, 0 < n ∧ Y.prods = [⟨pB, (n : Int) - 1, o⟩] ∧ pget G.D pB.data.toList = some (o, (n : Int) - 1)
theorem px_new : PX (TG.new tB) ⟨tB, 0, 0, [], []⟩ 0 := ⟨rfl, rfl, rfl, rfl, ⟨[], rfl⟩, Nat.le_refl _, .inl ⟨rfl, rfl, rfl⟩⟩
theorem px_pub {G : TG} {Y : XG} {n : Nat} (h : PX G Y n) (hn : n ≤ 100000) : PX (pubF G pB (n : Int) eB eB).2.2 (xpubF Y pB (n : Int) eB eB).2.2 (n + 1) := by
  have hp : pubOk pB (n : Int) eB eB = true := by
    unfold pubOk
    rw [show wordB pB = true by kernel_rfl, decide_eq_true (show eB.size ≤ 100 by decide), decide_eq_true (show eB.size ≤ 1000 by decide)]
    simp [greatB]
    omega
  have e1 : pubF G pB (n : Int) eB eB = ((G.fin : Int), 0, addF G ⟨0, pB, n, eB, eB⟩) := by
    unfold pubF
    rw [if_pos hp]
    rcases h.prod with ⟨_, _, hg⟩ | ⟨o, _, _, hg⟩
    · rw [hg]
    · rw [hg]
      simp only
      rw [if_neg (by omega), if_neg (by omega)]
  have e2 : (xpubF Y pB (n : Int) eB eB).2.2 = xadd Y pB n eB eB := by
    unfold xpubF
    rw [if_pos hp]
    rcases h.prod with ⟨_, hy, _⟩ | ⟨o, h0, hy, _⟩
    · rw [hy]
      rfl
    · rw [hy]
      rw [got_pB]
      simp only
      rw [if_neg (by omega), if_neg (by omega)]
  rw [e1, e2]
  refine ⟨h.name, h.low, ?_, ?_, ?_, ?_, .inr ⟨G.fin, Nat.succ_pos _, ?_, ?_⟩⟩
  · show Y.fin + 1 = ((G.fin + 1 : Nat) : Int)
    rw [h.fin]
    omega
  · show Y.recs ++ [⟨Y.fin, pB, n, eB, eB⟩] = G.recs ++ [⟨G.fin, pB, n, eB, eB⟩]
    rw [h.recs, h.fin]
  · obtain ⟨es, he⟩ := h.isMap
    show IsMap (pput G.D _ _ _)
    unfold pput
    rw [he]
    exact ⟨_, rfl⟩
  · show G.fin + 1 ≤ n + 1
    have := h.le
    omega
  · show Y.prods.take (findF Y.prods pB) ++ [⟨pB, n, Y.fin⟩] ++ Y.prods.drop (if thereF Y.prods pB = true then findF Y.prods pB + 1 else findF Y.prods pB) = _
    rw [h.fin, show ((n + 1 : Nat) : Int) - 1 = (n : Int) by omega]
    rcases h.prod with ⟨_, hy, _⟩ | ⟨o, _, hy, _⟩
    · rw [hy]
      rfl
    · rw [hy, there_pB, find_pB]
      rfl
  · show pget (pput G.D pB.data.toList G.fin n) pB.data.toList = _
    rw [pget_put_same h.isMap, show ((n + 1 : Nat) : Int) - 1 = (n : Int) by omega]
theorem px_trim {G : TG} {Y : XG} {n c : Nat} (h : PX G Y n) (hk : G.Ok c) (m : Int) : (trimF G m).1 = (xtrimF Y m).1 ∧ PX (trimF G m).2 (xtrimF Y m).2 n := by
  have hlf := hk.low
  unfold trimF xtrimF
  rw [h.fin, h.low]
  by_cases h1 : m ≤ (G.low : Int)
  · rw [if_pos h1, if_neg (by omega), if_neg (by omega)]
    exact ⟨rfl, h⟩
  · rw [if_neg h1]
    by_cases h2 : m > (G.fin : Int)
    · rw [if_pos h2, if_pos (by omega)]
      exact ⟨rfl, h⟩
    · rw [if_neg h2, if_neg (by omega), if_pos (by omega)]
      refine ⟨rfl, h.name, ?_, rfl, ?_, h.isMap, h.le, h.prod⟩
      · show m = ((m.toNat : Nat) : Int)
        omega
      · show xreadF Y.recs m Y.recs.length = G.recs.drop (placeF G.recs m)
        unfold xreadF
        rw [h.recs, filter_drop hk.rises]
        exact List.take_of_length_le (by rw [List.length_drop]; omega)
/-- Both topics, and both subscriptions. -/
theorem TAt.apartT {w : World} {L : LOC} {G : TG} {sb : Nat} {cs : Array Value} {t : TypeId} (h : TAt w L G) (hs : w.heap[sb]? = some (.cells cs t (0, 0))) (h1 : t ≠ 69) (h2 : t ≠ 63) : ¬ L.own sb := by
  rintro (rfl | rfl | hj)
  · have := h.box.symm.trans hs
    injection this with this
    injection this with _ e
    exact h1 e.symm
  · obtain ⟨es, c, hb, _⟩ := h.map
    rw [hb] at hs
    cases hs
  · exact h2 (h.row.type ((own_block _ _ _ _).trans hj) hs).symm
theorem XAt.apartT {w : World} {X : XL} {Y : XG} {sb : Nat} {cs : Array Value} {t : TypeId} (h : XAt w X Y) (hs : w.heap[sb]? = some (.cells cs t (0, 0))) (h1 : t ≠ 72) (h2 : t ≠ 63) (h3 : t ≠ 84) : ¬ X.own sb := by
  rintro (rfl | hj | hj)
  · have := h.box.symm.trans hs
    injection this with this
    injection this with _ e
    exact h1 e.symm
  · exact h3 (h.prow.type ((own_block _ _ _ _).trans hj) hs).symm
  · exact h2 (h.row.type ((own_block _ _ _ _).trans hj) hs).symm
def SB.cs (S : SB) : Array Value := #[.string S.name, .string S.top, .int .i64 S.cur, .int .i64 S.next]
/-- Both topics. -/
structure PT2 (B : Nat) (w0 w : World) (L : LOC) (G : TG) (n : Nat) (X : XL) (Y : XG) : Prop where
  held : Held B w0 w L G n
  xat : XAt w X Y
  apart : ∀ j, X.own j → ¬ L.own j
  xnew : ∀ j, X.own j → B ≤ j
  px : PX G Y n
section
variable {B : Nat} {w0 w w' : World} {L L' : LOC} {G G' : TG} {n n' : Nat} {X X' : XL} {Y Y' : XG}
theorem PT2.touch {own : Nat → Prop} (h : PT2 B w0 w L G n X Y) (t : Touch own w w') (h1 : ∀ j, L.own j → ¬ own j) (h2 : ∀ j, X.own j → ¬ own j) (h3 : ∀ j, own j → B ≤ j) : PT2 B w0 w' L G n X Y :=
  ⟨h.held.touch t h1 h3, h.xat.keep t h2, h.apart, h.xnew, h.px⟩
theorem PT2.to (h : PT2 B w0 w L G n X Y) (hb : Below w.heap.size w w') : PT2 B w0 w' L G n X Y := h.touch (own := fun _ => False) (Touch.of_below hb) (fun _ _ e => e) (fun _ _ e => e) (fun _ e => e.elim)
/-- The program's topic alone has changed. -/
theorem PT2.one (h : PT2 B w0 w L G n X Y) (H : Held B w0 w' L' G' n') (s : TStep w w' L L') : Held B w0 w' L' G' n' ∧ XAt w' X Y ∧ (∀ j, X.own j → ¬ L'.own j) :=
  ⟨H, h.xat.keep s.touch h.apart, fun j hj hl => (s.own j hl).elim (h.apart j hj) fun e => by have := h.xat.lt hj; omega⟩
/-- Then the document's. -/
theorem two_of (H : Held B w0 w L G n) (hx : XAt w X Y) (ap : ∀ j, X.own j → ¬ L.own j) (nw : ∀ j, X.own j → B ≤ j) (hx' : XAt w' X' Y') (s : XStep w w' X X') (px : PX G Y' n) : PT2 B w0 w' L G n X' Y' := by
  refine ⟨H.touch s.touch (fun j hj e => ap j (by rw [e]; exact .inl rfl) hj) (fun j e => by rw [e]; exact nw _ (.inl rfl)), hx', fun j hj hl => ?_, fun j hj => ?_, px⟩
  · rcases s.own j hj with e | e
    · exact ap j e hl
    · have := H.at_.lt hl
      omega
  · rcases s.own j hj with e | e
    · exact nw j e
    · have := H.below.size
      have := H.le
      omega
end
/-- The whole state. -/
structure PB (B : Nat) (w0 w : World) (L : LOC) (G : TG) (n : Nat) (X : XL) (Y : XG) (sb zb : Nat) (S : SB) : Prop where
  two : PT2 B w0 w L G n X Y
  sbox : w.heap[sb]? = some (.cells #[.string S.name, .string S.top, .int .i64 S.cur, .int .i64 S.next] 23 (0, 0))
  zbox : w.heap[zb]? = some (.cells #[.string S.name, .string S.top, .int .i64 S.cur, .int .i64 S.next] 37 (0, 0))
  snew : B ≤ sb
  znew : B ≤ zb
section
variable {B : Nat} {w0 w w' : World} {L L' : LOC} {G G' : TG} {n n' : Nat} {X X' : XL} {Y Y' : XG} {sb zb : Nat} {S : SB}
theorem PB.to (h : PB B w0 w L G n X Y sb zb S) (hb : Below w.heap.size w w') : PB B w0 w' L G n X Y sb zb S := ⟨h.two.to hb, Below.at hb h.sbox, Below.at hb h.zbox, h.snew, h.znew⟩
/-- The topics have changed. -/
theorem PB.topics (h : PB B w0 w L G n X Y sb zb S) {w1 : World} {L1 : LOC} (s1 : TStep w w1 L L1) (hx1 : XAt w1 X Y) (s2 : XStep w1 w' X X') (H : PT2 B w0 w' L' G' n' X' Y') : PB B w0 w' L' G' n' X' Y' sb zb S :=
  ⟨H, s2.touch.at (s1.touch.at h.sbox (h.two.held.at_.apart h.sbox)) (fun e => hx1.apartT (s1.touch.at h.sbox (h.two.held.at_.apart h.sbox)) (by decide) (by decide) (by decide) (.inl e)), s2.touch.at (s1.touch.at h.zbox (h.two.held.at_.apartT h.zbox (by decide) (by decide))) (fun e => hx1.apartT (s1.touch.at h.zbox (h.two.held.at_.apartT h.zbox (by decide) (by decide))) (by decide) (by decide) (by decide) (.inl e)), h.snew, h.znew⟩
/-- Both subscriptions have changed: the program's first. -/
theorem PB.subs (h : PB B w0 w L G n X Y sb zb S) {w1 : World} (b1 : Below w.heap.size w w1) (T : SB) {w2 : World} (b2 : Below (set4 w1 sb (.string T.name) (.string T.top) (.int .i64 T.cur) (.int .i64 T.next)).heap.size (set4 w1 sb (.string T.name) (.string T.top) (.int .i64 T.cur) (.int .i64 T.next)) w2) : PB B w0 (set4 w2 zb (.string T.name) (.string T.top) (.int .i64 T.cur) (.int .i64 T.next)) L G n X Y sb zb T := by
  have h1 := h.to b1
  have hne : zb ≠ sb := fun e => by
    subst e
    have := h.sbox.symm.trans h.zbox
    injection this with this
    injection this with _ e
    exact absurd e (by decide)
  have t1 : Touch (fun j => j = sb) w1 (set4 w1 sb (.string T.name) (.string T.top) (.int .i64 T.cur) (.int .i64 T.next)) := set4_touch _ _
  have p1 := h1.two.touch t1 (fun j hj e => by subst e; exact h1.two.held.at_.apart h1.sbox hj) (fun j hj e => by subst e; exact h1.two.xat.apartT h1.sbox (by decide) (by decide) (by decide) hj) (fun j e => by subst e; exact h.snew)
  have z1 := t1.at h1.zbox hne
  have s1 := set4_box (x0 := .string T.name) (x1 := .string T.top) (x2 := .int .i64 T.cur) (x3 := .int .i64 T.next) h1.sbox
  generalize set4 w1 sb _ _ _ _ = w3 at *
  have p2 := p1.to b2
  have z2 := Below.at b2 z1
  have s2 := Below.at b2 s1
  have t2 : Touch (fun j => j = zb) w2 (set4 w2 zb (.string T.name) (.string T.top) (.int .i64 T.cur) (.int .i64 T.next)) := set4_touch _ _
  exact ⟨p2.touch t2 (fun j hj e => by subst e; exact p2.held.at_.apartT z2 (by decide) (by decide) hj) (fun j hj e => by subst e; exact p2.xat.apartT z2 (by decide) (by decide) (by decide) hj) (fun j e => by subst e; exact h.znew), t2.at s2 (fun e => hne e.symm), set4_box z2, h.snew, h.znew⟩
theorem PB.mid (h : PB B w0 w L G n X Y sb zb S) {w1 : World} (b1 : Below w.heap.size w w1) (x0 x1 x2 x3 : Value) : PT2 B w0 (set4 w1 sb x0 x1 x2 x3) L G n X Y ∧ (set4 w1 sb x0 x1 x2 x3).heap[zb]? = some (.cells #[.string S.name, .string S.top, .int .i64 S.cur, .int .i64 S.next] 37 (0, 0)) := by
  have h1 := h.to b1
  have hne : zb ≠ sb := fun e => by
    subst e
    have := h.sbox.symm.trans h.zbox
    injection this with this
    injection this with _ e
    exact absurd e (by decide)
  have t1 : Touch (fun j => j = sb) w1 (set4 w1 sb x0 x1 x2 x3) := set4_touch _ _
  exact ⟨h1.two.touch t1 (fun j hj e => by subst e; exact h1.two.held.at_.apart h1.sbox hj) (fun j hj e => by subst e; exact h1.two.xat.apartT h1.sbox (by decide) (by decide) (by decide) hj) (fun j e => by subst e; exact h.snew), t1.at h1.zbox hne⟩
end
theorem ack_names (S : SB) (n : Int) : (ackF S n).1.name = S.name ∧ (ackF S n).1.top = S.top := by
  unfold ackF ackI
  repeat' split
  all_goals exact ⟨rfl, rfl⟩
theorem seek_names (S : SB) (nm : ByteArray) (fi n : Int) : (zseekF S nm fi n).1.name = S.name ∧ (zseekF S nm fi n).1.top = S.top := by
  unfold zseekF
  split <;> exact ⟨rfl, rfl⟩
theorem poll_names (S : SB) (nm : ByteArray) (lo fi : Int) (l : List Rec) (n : Int) : (zpollF S nm lo fi l n).1.name = S.name ∧ (zpollF S nm lo fi l n).1.top = S.top := by
  unfold zpollF
  split <;> exact ⟨rfl, rfl⟩
theorem poll_len (S : SB) (nm : ByteArray) (lo fi : Int) (l : List Rec) (n : Int) : (zpollF S nm lo fi l n).2.1.length ≤ l.length := by
  unfold zpollF
  split
  · show (zout S lo l n).length ≤ l.length
    unfold zout
    rw [List.length_take]
    exact Nat.le_trans (Nat.min_le_right _ _) (List.length_filter_le _ _)
  · exact Nat.zero_le _
theorem ok_of {S T : SB} (h : S.ok) (h1 : T.name = S.name) (h2 : T.top = S.top) : T.ok := by
  obtain ⟨k1, k2⟩ := h
  exact ⟨by rw [h1]; exact k1, by rw [h2]; exact k2⟩
theorem word_size {s : ByteArray} (h : wordB s = true) : s.size ≤ 20 := by
  have := wordL_out h
  have e := size_listC s
  omega
theorem new_ok {p tn : ByteArray} {fi n : Int} (hp : p.size ≤ 281474976710656) (ht : tn.size ≤ 281474976710656) : (newZ p tn fi n).1.ok := by
  unfold newZ
  generalize (if n < 0 then fi else n) = m
  split
  · exact ⟨hp, ht⟩
  · exact ⟨z0, z0⟩
set_option maxHeartbeats 4000000 in
set_option maxRecDepth 100000 in
theorem csame (xn xt : ByteArray) (xc xx : Int) (w : World) : Calls Try.prog 13 #[.agg #[.string xn, .string xt, .int .i64 xc, .int .i64 xx], .agg #[.string xn, .string xt, .int .i64 xc, .int .i64 xx]] w fun e w' => e = .returned (.bool true) ∧ Below w.heap.size w w' := by
  have hb : Below w.heap.size w ((w.alloc (.cells #[.string xn, .string xt, .int .i64 xc, .int .i64 xx] 23)).alloc (.cells #[.string xn, .string xt, .int .i64 xc, .int .i64 xx] 37)) := ((Below.refl w.heap.size w).alloc (Nat.le_refl _) _).alloc (by simp) _
  have HB := hide hb
  clear hb
  go_enter Try.func13, Try.ntmps13
  go_wp2
  go_ret
  exact ⟨by simp, HB.out⟩
end Go.Proofs.Ytominplelmbecaa.Y
