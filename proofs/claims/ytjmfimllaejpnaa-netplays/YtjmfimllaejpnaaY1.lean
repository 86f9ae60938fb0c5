/-
  carillonref05's net in memory: its box, its list of links, each link's row of texts in a block of its own.
-/
import Derived.Test.YtjmfimllaejpnaaA1
namespace Go.Proofs.Ytjmfimllaejpnaa
open Go.RowKit Go.Maps

/-- The messages at a place of the list. -/
def qk (n : Nat) (q : Qs) (k : Nat) : List ByteArray := if k / n = k % n then [] else q (k / n) (k % n)
theorem place_div {n a c : Nat} (hc : c < n) : (a * n + c) / n = a ∧ (a * n + c) % n = c := by
  constructor
  · rw [Nat.mul_comm, Nat.mul_add_div (by omega), Nat.div_eq_of_lt hc, Nat.add_zero]
  · rw [Nat.mul_comm, Nat.mul_add_mod, Nat.mod_eq_of_lt hc]
theorem place_lt {n a c : Nat} (ha : a < n) (hc : c < n) : a * n + c < n * n := by
  have h : a * n + n ≤ n * n := by
    have := Nat.mul_le_mul_right n (show a + 1 ≤ n by omega)
    rw [Nat.add_mul, Nat.one_mul] at this
    exact this
  omega
theorem link_lt2 {n a c : Nat} (h : isLink n (a : Int) (c : Int)) : a < n ∧ c < n ∧ a ≠ c := by
  obtain ⟨_, h1, _, h2, h3⟩ := h
  exact ⟨by omega, by omega, fun e => h3 (by omega)⟩
theorem qk_link {n : Nat} {q : Qs} {a c : Nat} (h : isLink n (a : Int) (c : Int)) : qk n q (a * n + c) = q a c := by
  obtain ⟨_, h2, h3⟩ := link_lt2 h
  unfold qk
  rw [(place_div h2).1, (place_div h2).2, if_neg h3]
theorem qk_set {n : Nat} {q : Qs} {a c : Nat} (h : isLink n (a : Int) (c : Int)) (l : List ByteArray) (k : Nat) : qk n (setQ q a c l) k = if k = a * n + c then l else qk n q k := by
  obtain ⟨h1, h2, h3⟩ := link_lt2 h
  by_cases e : k = a * n + c
  · subst e
    rw [if_pos rfl, qk_link h]
    unfold setQ
    simp
  · rw [if_neg e]
    unfold qk
    by_cases hd : k / n = k % n
    · rw [if_pos hd, if_pos hd]
    · rw [if_neg hd, if_neg hd]
      unfold setQ
      have hne : ¬ (k / n = a ∧ k % n = c) := by
        rintro ⟨e1, e2⟩
        apply e
        have := Nat.div_add_mod k n
        rw [e1, e2, Nat.mul_comm] at this
        exact this.symm
      simp [hne]
structure YG where
  lb : Nat
  row : Nat → Value
def YG.own (Y : YG) (b n j : Nat) : Prop := j = b ∨ j = Y.lb ∨ ∃ k, k < n * n ∧ (Y.row k).ownBlock = some j
structure YR (w : World) (b n : Nat) (s : Int) (q : Qs) (Y : YG) : Prop where
  nodes : 1 ≤ n ∧ n ≤ 7
  side : 0 ≤ s ∧ s ≤ 9223372036854775807
  box : w.heap[b]? = some (.cells #[.int .i64 n, .slice (some ⟨Y.lb, 0, none⟩) (n * n) (n * n), .int .i64 s] 47 (0, 0))
  lst : ∃ cur, w.heap[Y.lb]? = some (.cells cur 52 (0, 0)) ∧ cur.size = n * n ∧ ∀ k, k < n * n → cur[k]? = some (Y.row k)
  row : ∀ k, k < n * n → w.ownsRow 0 9 1 (Y.row k) (qk n q k).length ((qk n q k).map .string)
  few : ∀ k, k < n * n → (qk n q k).length ≤ 64
  apart : ∀ k k', k < n * n → k' < n * n → k ≠ k' → ∀ j, (Y.row k).ownBlock = some j → (Y.row k').ownBlock ≠ some j
section
variable {w w' : World} {b n : Nat} {s : Int} {q : Qs} {Y : YG}
theorem own_type {B : Nat} {e : TypeId} {z : Nat} {v : Value} {m : Nat} {xs : List Value} (h : w.ownsRow B e z v m xs) {j : Nat} (hj : v.ownBlock = some j) {cs : Array Value} {t : TypeId} (hb : w.heap[j]? = some (.cells cs t (0, 0))) : e = t := by
  rcases h.2 with ⟨rfl, _⟩ | ⟨g, c, cur, rfl, _, hh, _⟩
  · cases hj
  · have e' : g = j := Option.some.inj hj
    subst e'
    rw [hh] at hb
    injection hb with hb
    injection hb with _ h3 _
theorem YR.neL (h : YR w b n s q Y) : b ≠ Y.lb := by
  intro e
  obtain ⟨cur, hc, _⟩ := h.lst
  have hb := h.box
  rw [e, hc] at hb
  injection hb with hb
  injection hb with _ h3 _
  exact absurd h3 (by decide)
theorem YR.neB (h : YR w b n s q Y) {k : Nat} (hk : k < n * n) : (Y.row k).ownBlock ≠ some b := fun e => absurd (own_type (h.row k hk) e h.box) (by decide)
theorem YR.neR (h : YR w b n s q Y) {k : Nat} (hk : k < n * n) : (Y.row k).ownBlock ≠ some Y.lb := fun e => by
  obtain ⟨cur, hc, _⟩ := h.lst
  exact absurd (own_type (h.row k hk) e hc) (by decide)
theorem YR.lt (h : YR w b n s q Y) {j : Nat} (hj : Y.own b n j) : j < w.heap.size := by
  rcases hj with rfl | rfl | ⟨k, hk, e⟩
  · exact heap_lt h.box
  · obtain ⟨cur, hc, _⟩ := h.lst
    exact heap_lt hc
  · exact row_lt (h.row k hk) e
theorem YR.keep {own : Nat → Prop} (h : YR w b n s q Y) (ht : Touch own w w') (hn : ∀ j, Y.own b n j → ¬ own j) : YR w' b n s q Y := by
  obtain ⟨cur, hc, h1, h2⟩ := h.lst
  exact ⟨h.nodes, h.side, ht.at h.box (hn _ (.inl rfl)), ⟨cur, ht.at hc (hn _ (.inr (.inl rfl))), h1, h2⟩, fun k hk => ht.row (h.row k hk) fun j hj => hn j (.inr (.inr ⟨k, hk, hj⟩)), h.few, h.apart⟩
theorem YR.below (h : YR w b n s q Y) (hb : Below w.heap.size w w') : YR w' b n s q Y := h.keep (own := fun _ => False) (Touch.of_below hb) fun _ _ e => e
/-- What the cells of it are. -/
theorem YR.c0 (h : YR w b n s q Y) : w.cell? ⟨b, 0, none⟩ = some (.int .i64 n) := box_cell h.box 0 rfl
theorem YR.c1 (h : YR w b n s q Y) : w.cell? ⟨b, 1, none⟩ = some (.slice (some ⟨Y.lb, 0, none⟩) (n * n) (n * n)) := box_cell h.box 1 rfl
theorem YR.c2 (h : YR w b n s q Y) : w.cell? ⟨b, 2, none⟩ = some (.int .i64 s) := box_cell h.box 2 rfl
theorem YR.ck (h : YR w b n s q Y) {k : Nat} (hk : k < n * n) : w.cell? ⟨Y.lb, k, none⟩ = some (Y.row k) ∧ w.frozen? ⟨Y.lb, k, none⟩ = false := by
  obtain ⟨cur, hc, h1, h2⟩ := h.lst
  exact ⟨box_cell hc k (h2 k hk), box_free hc k⟩
def YG.put (Y : YG) (k : Nat) (v : Value) : YG := ⟨Y.lb, fun j => if j = k then v else Y.row j⟩
theorem YG.put_own {k : Nat} {v : Value} {j : Nat} (h : (Y.put k v).own b n j) : Y.own b n j ∨ v.ownBlock = some j := by
  rcases h with h | h | ⟨i, hi, e⟩
  · exact .inl (.inl h)
  · exact .inl (.inr (.inl h))
  · unfold YG.put at e
    simp only at e
    split at e
    · exact .inr e
    · exact .inl (.inr (.inr ⟨i, hi, e⟩))
/-- A link's row is another one, in its own block or in a new one. -/
theorem YR.put (h : YR w b n s q Y) {a c : Nat} (hl : isLink n (a : Int) (c : Int)) (v : Value) (l : List ByteArray) (hlen : l.length ≤ 64) {w1 : World} (ht : Touch (fun j => (Y.row (a * n + c)).ownBlock = some j) w w1)
    (hr : w1.ownsRow 0 9 1 v l.length (l.map .string)) (hv : ∀ j, v.ownBlock = some j → (Y.row (a * n + c)).ownBlock = some j ∨ w.heap.size ≤ j) :
    YR (w1.setCell ⟨Y.lb, a * n + c, none⟩ v) b n s (setQ q a c l) (Y.put (a * n + c) v) ∧ Touch (fun j => j = Y.lb ∨ (Y.row (a * n + c)).ownBlock = some j) w (w1.setCell ⟨Y.lb, a * n + c, none⟩ v) := by
  obtain ⟨h1, h2, h3⟩ := link_lt2 hl
  have hk := place_lt h1 h2
  have hk2 := @qk_set n q a c hl l
  generalize a * n + c = k at *
  obtain ⟨cur, hc, hs1, hs2⟩ := h.lst
  have hc1 := ht.at hc (h.neR hk)
  have hb1 := ht.at h.box (h.neB hk)
  have hvL : v.ownBlock ≠ some Y.lb := fun e => absurd (own_type hr e hc1) (by decide)
  refine ⟨⟨h.nodes, h.side, box_apart hb1 h.neL _ _, ⟨cur.setIfInBounds k v, box_set hc1 k v, by simpa using hs1, fun i hi => ?_⟩, fun i hi => ?_, fun i hi => ?_, fun i i' hi hi' hne j hj => ?_⟩, ?_⟩
  · rw [Array.getElem?_setIfInBounds]
    unfold YG.put
    by_cases e : k = i
    · subst e; simp; omega
    · rw [if_neg e, hs2 i hi]
      simp [Ne.symm e]
  · rw [hk2 i]
    unfold YG.put
    by_cases e : i = k
    · subst e
      simp only [if_true]
      exact set_row hr _ _ _ hvL
    · simp only [e, if_false]
      exact set_row (ht.row (h.row i hi) fun j hj e' => h.apart i k hi hk e j hj e') _ _ _ (h.neR hi)
  · rw [hk2 i]
    split
    · exact hlen
    · exact h.few i hi
  · unfold YG.put at hj ⊢
    simp only at hj ⊢
    by_cases e : i = k
    · subst e
      simp only [if_true] at hj
      rw [if_neg (Ne.symm hne)]
      rcases hv j hj with e2 | e2
      · exact h.apart i i' hi hi' hne j e2
      · intro e3
        have := row_lt (h.row i' hi') e3
        omega
    · rw [if_neg e] at hj
      by_cases e' : i' = k
      · rw [if_pos e']
        intro e3
        subst e'
        rcases hv j e3 with e2 | e2
        · exact h.apart i i' hi hi' hne j hj e2
        · have := row_lt (h.row i hi) hj
          omega
      · rw [if_neg e']
        exact h.apart i i' hi hi' hne j hj
  · exact (ht.mono fun _ _ e => .inr e).setCell _ _ fun _ => .inl rfl
end
end Go.Proofs.Ytjmfimllaejpnaa
