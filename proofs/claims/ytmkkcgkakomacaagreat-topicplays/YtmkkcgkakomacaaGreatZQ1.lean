/-
  A row in a block of its own that is taken off in front, and appended to behind; nothing of the program is in this text.
-/
import Derived.Test.YtmkkcgkakomacaaGreatZM0
import Derived.Deep.RegionLaw
import Derived.Maps.AppendAt
namespace Go.Proofs.YtmkkcgkakomacaaGreat
open Go.RowKit
def OwnsQ (w : World) (e : TypeId) (size : Nat) (v : Value) (n : Nat) (xs : List Value) : Prop :=
  xs.length = n * size ∧ ((v = .slice none 0 0 ∧ n = 0) ∨ ∃ g off cap cur, v = .slice (some ⟨g, off, none⟩) n cap ∧ w.heap[g]? = some (.cells cur e (0, 0)) ∧ n ≤ cap ∧ cap ≤ maxLen ∧ off + cap * size ≤ cur.size ∧ ∀ j, j < n * size → cur[off + j]? = xs[j]?)
section
variable {w w' : World} {e : TypeId} {size : Nat} {v : Value} {n : Nat} {xs : List Value}
theorem OwnsQ.nil (w : World) (e : TypeId) (size : Nat) : OwnsQ w e size (.slice none 0 0) 0 [] := ⟨by simp, .inl ⟨rfl, rfl⟩⟩
theorem OwnsQ.of_row {base : Nat} (h : w.ownsRow base e size v n xs) : OwnsQ w e size v n xs := by
  refine ⟨h.1, h.2.imp id ?_⟩
  rintro ⟨g, cap, cur, h1, _, h3, h4, h5, h6, h7⟩
  refine ⟨g, 0, cap, cur, h1, h3, h4, h5, by omega, fun j hj => ?_⟩
  rw [← h7, List.getElem?_take_of_lt hj, Nat.zero_add, Array.getElem?_toList]
theorem OwnsQ.lt (h : OwnsQ w e size v n xs) {k : Nat} (hk : v.ownBlock = some k) : k < w.heap.size := by
  rcases h.2 with ⟨rfl, _⟩ | ⟨g, off, cap, cur, rfl, hg, _⟩
  · cases hk
  · obtain rfl : g = k := Option.some.inj hk
    exact heap_lt hg
theorem OwnsQ.slice (h : OwnsQ w e size v n xs) : ∃ ao cp, v = .slice ao n cp := by
  rcases h.2 with ⟨rfl, rfl⟩ | ⟨g, off, cap, cur, rfl, _⟩
  · exact ⟨none, 0, rfl⟩
  · exact ⟨_, _, rfl⟩
theorem OwnsQ.type (h : OwnsQ w e size v n xs) {j : Nat} (hj : v.ownBlock = some j) {cs : Array Value} {t : TypeId} (hb : w.heap[j]? = some (.cells cs t (0, 0))) : e = t := by
  rcases h.2 with ⟨rfl, _⟩ | ⟨g, off, c, cur, rfl, hh, _⟩
  · cases hj
  · obtain rfl : g = j := Option.some.inj hj
    rw [hh] at hb
    injection hb with hb
    injection hb with _ h3 _
theorem OwnsQ.congr (h : OwnsQ w e size v n xs) (hb : ∀ j, v.ownBlock = some j → w'.heap[j]? = w.heap[j]?) : OwnsQ w' e size v n xs := by
  refine ⟨h.1, h.2.imp id ?_⟩
  rintro ⟨g, off, cap, cur, rfl, h3, h4⟩
  exact ⟨g, off, cap, cur, rfl, (hb g rfl).trans h3, h4⟩
theorem OwnsQ.keep {own : Nat → Prop} (h : OwnsQ w e size v n xs) (ht : Touch own w w') (hn : ∀ j, v.ownBlock = some j → ¬ own j) : OwnsQ w' e size v n xs :=
  h.congr fun j hj => ht.block j (h.lt hj) (hn j hj)
theorem OwnsQ.alloc (h : OwnsQ w e size v n xs) (o : Obj) : OwnsQ (w.alloc o) e size v n xs := h.congr fun j hj => Below.heap_alloc w o j (h.lt hj)
theorem OwnsQ.drew (h : OwnsQ w e size v n xs) : OwnsQ w.drew e size v n xs := h.congr fun _ _ => rfl
theorem OwnsQ.set (h : OwnsQ w e size v n xs) (b o : Nat) (u : Value) (hn : v.ownBlock ≠ some b) : OwnsQ (w.setCell ⟨b, o, none⟩ u) e size v n xs := h.congr fun j hj => by
  rw [Below.heap_setCell]
  intro e
  subst e
  exact hn hj
theorem OwnsQ.cell {ad : Addr} {cap : Nat} (h : OwnsQ w e size (.slice (some ad) n cap) n xs) : ∃ off, ad = ⟨ad.block, off, none⟩ ∧ (∀ j, j < n * size → w.cell? ⟨ad.block, off + j, none⟩ = xs[j]?) ∧ ∀ o, w.frozen? ⟨ad.block, o, none⟩ = false := by
  rcases h.2 with ⟨hv, _⟩ | ⟨g, off, c, cur, hv, hg, h4, h5, h6, h7⟩
  · cases hv
  · injection hv with h1 _ _
    injection h1 with h1
    subst h1
    refine ⟨off, rfl, fun j hj => ?_, fun o => box_free hg o⟩
    rw [← h7 j hj]
    exact Lib.cell_of_heap hg _
theorem OwnsQ.cut {g off cap : Nat} (h : OwnsQ w e size (.slice (some ⟨g, off, none⟩) n cap) n xs) (k : Nat) (hk : k ≤ n) : OwnsQ w e size (.slice (if cap = k then some ⟨g, off, none⟩ else some ⟨g, off + k * size, none⟩) (n - k) (cap - k)) (n - k) (xs.drop (k * size)) := by
  have hm : (n - k) * size = n * size - k * size := Nat.sub_mul _ _ _
  have hkn : k * size ≤ n * size := Nat.mul_le_mul_right _ hk
  refine ⟨by rw [List.length_drop, h.1, hm], .inr ?_⟩
  rcases h.2 with ⟨hv, _⟩ | ⟨g', off', c, cur, hv, hg, h4, h5, h6, h7⟩
  · cases hv
  · injection hv with h1 _ h3
    injection h1 with h1
    injection h1 with h1 h2 _
    subst h1 h2 h3
    by_cases hc : cap = k
    · rw [if_pos hc]
      refine ⟨g, off, cap - k, cur, rfl, hg, by omega, by omega, by rw [hc, Nat.sub_self, Nat.zero_mul]; omega, fun j hj => ?_⟩
      have : n - k = 0 := by omega
      rw [this, Nat.zero_mul] at hj
      omega
    · rw [if_neg hc]
      have h8 : (cap - k) * size = cap * size - k * size := Nat.sub_mul _ _ _
      have h9 : k * size ≤ cap * size := Nat.mul_le_mul_right _ (by omega)
      refine ⟨g, off + k * size, cap - k, cur, rfl, hg, by omega, by omega, by omega, fun j hj => ?_⟩
      rw [List.getElem?_drop, Nat.add_assoc]
      exact h7 _ (by omega)
end
theorem setCells_heap (g : Nat) {e : TypeId} : ∀ (vs : List Value) (o : Nat) (w : World) (cur : Array Value), w.heap[g]? = some (.cells cur e (0, 0)) → ∃ cur', (w.setCells g o vs).heap[g]? = some (.cells cur' e (0, 0)) ∧ cur'.size = cur.size
  | [], _, _, cur, h => ⟨cur, h, rfl⟩
  | v :: r, o, w, cur, h => by
    obtain ⟨c, h1, h2⟩ := setCells_heap g r (o + 1) (w.setCell ⟨g, o, none⟩ v) _ (box_set h o v)
    exact ⟨c, h1, by rw [h2, Array.size_setIfInBounds]⟩
theorem setCells_grown (g : Nat) : ∀ (vs : List Value) (o : Nat) (w : World), w.grownBy (w.setCells g o vs) (some g) ∧ (w.setCells g o vs).heap.size = w.heap.size
  | [], _, w => ⟨⟨rfl, rfl, rfl, Nat.le_refl _, fun _ _ _ => rfl⟩, rfl⟩
  | v :: r, o, w => by
    obtain ⟨h1, h2⟩ := setCells_grown g r (o + 1) (w.setCell ⟨g, o, none⟩ v)
    have hs : (w.setCell ⟨g, o, none⟩ v).heap.size = w.heap.size := by unfold World.setCell; simp
    refine ⟨⟨h1.os, h1.tape, h1.output, by rw [← hs]; exact h1.size, fun k hk hne => ?_⟩, by rw [World.setCells, h2, hs]⟩
    rw [World.setCells, h1.block k (by rw [hs]; exact hk) hne]
    exact Below.heap_setCell _ _ _ _ (fun e => hne (by rw [e]))
section
variable {P : Program} (w : World)
theorem run_append_q (t ty e : TypeId) (i : TypeInfo) (z : Value) (size bytes : Nat) (ht : P.underlying t = some (.slice e)) (hi : P.info? e = some i) (hz : i.zero = some z)
    (hsize : i.size = size) (hby : i.bytes = bytes) (hzs : z.cells.size = size) (hsz : 0 < size)
    (v : Value) (n : Nat) (xs : List Value) (hown : OwnsQ w e size v n xs)
    (ad : Addr) (m c : Nat) (news : List Value) (hl : news.length = m * size) (hnews : ∀ j u, news[j]? = some u → w.cell? (ad.add j) = some u) (h1 : ∀ u ∈ news, u.oneCell' = true)
    (h63 : n + m ≤ maxLen) (hbytes : (n + m) * bytes ≤ 140737488355328) :
    ∃ ao cp w', (Builtin.append_ #[t, t] ty #[v, .slice (some ad) m c]).run P w = .ok (.slice ao (n + m) cp) w' ∧ OwnsQ w' e size (.slice ao (n + m) cp) (n + m) (xs ++ news) ∧ w.grownBy w' v.ownBlock ∧ ∀ j, (Value.slice ao (n + m) cp).ownBlock = some j → v.ownBlock = some j ∨ w.heap.size ≤ j := by
  rcases hown.2 with ⟨rfl, rfl⟩ | ⟨g, off, cap, cur, rfl, hg, h4, h5, h6, h7⟩
  · have hx : xs = [] := List.eq_nil_of_length_eq_zero (by rw [hown.1, Nat.zero_mul])
    subst hx
    obtain ⟨v', w', hr, h2, h3, _, _⟩ := run_append_own_at (P := P) w w.heap.size t ty e i z size bytes ht hi hz hsize hby hzs hsz (.slice none 0 0) 0 [] (World.ownsRow_nil w _ e size) ad m c news hl hnews h1 h63 hbytes (Nat.le_refl _)
    obtain ⟨ao, cp, rfl⟩ := row_slice h2
    exact ⟨ao, cp, w', hr, .of_row h2, h3, fun j hj => .inr (h2.lt j hj).1⟩
  · by_cases hroom : n + m ≤ cap
    · subst hsize
      have hle : (n + m) * i.size ≤ cap * i.size := Nat.mul_le_mul_right _ hroom
      rw [Nat.add_mul] at hle
      have hcell : ∀ j, j < news.length → (w.cell? ⟨g, off + n * i.size + j, none⟩).isSome = true := fun j hj => by
        have h8 : off + n * i.size + j < cur.size := by omega
        rw [Lib.cell_of_heap hg, Array.getElem?_eq_getElem h8]
        rfl
      have hrun := run_append_room_cells (P := P) w t ty e i ht hi g off n cap ad m c news hl hnews h1 hroom hcell (fun j _ => box_free hg _)
      obtain ⟨cur', hg', hs'⟩ := setCells_heap g news (off + n * i.size) w cur hg
      obtain ⟨hgr, _⟩ := setCells_grown g news (off + n * i.size) w
      refine ⟨_, _, _, hrun, ⟨by rw [List.length_append, hown.1, hl, Nat.add_mul], .inr ⟨g, off, cap, cur', rfl, hg', hroom, h5, by omega, fun j hj => ?_⟩⟩, hgr, fun j hj => .inl hj⟩
      rw [Nat.add_mul] at hj
      have e1 : cur'[off + j]? = (w.setCells g (off + n * i.size) news).cell? ⟨g, off + j, none⟩ := (Lib.cell_of_heap hg' _).symm
      rw [e1]
      by_cases hjn : j < n * i.size
      · rw [World.cell?_setCells_out g _ _ _ _ (fun _ _ => Or.inl (by show off + j < off + n * i.size; omega)), List.getElem?_append_left (by rw [hown.1]; exact hjn), Lib.cell_of_heap hg]
        exact h7 j hjn
      · have hj2 : j - n * i.size < news.length := by omega
        have := World.cell?_setCells_in g news (off + n * i.size) w hcell (j - n * i.size) hj2
        rw [show off + n * i.size + (j - n * i.size) = off + j by omega] at this
        rw [this, List.getElem?_append_right (by rw [hown.1]; omega), hown.1, List.getElem?_eq_getElem hj2]
    · obtain ⟨v', w', hrun, r1, r2⟩ := run_append_arg_grows (P := P) w t ty e i z size bytes ht hi hz hsize hby hzs hsz ⟨g, off, none⟩ n cap xs hown.1 (fun j u hj => by
        have hlt : j < n * size := by rw [← hown.1]; exact (List.getElem?_eq_some_iff.1 hj).1
        rw [Addr.add_lit, Lib.cell_of_heap hg, h7 j hlt]
        exact hj) ad m c news hl hnews (by omega) h63 hbytes
      obtain ⟨ao, cp, rfl⟩ := row_slice r1
      exact ⟨ao, cp, w', hrun, .of_row r1, ⟨r2.os, r2.tape, r2.output, r2.size, fun k hk _ => r2.block k hk (by simp)⟩, fun j hj => .inr (r1.lt j hj).1⟩
theorem step_append_q {w : World} {ops : Array Oper} {o : Oper} {a : Act} {K : Act → World → Prop} {Q : Exit → Act → World → Prop} {E : Prop} (hgd : o.guard = none) (s x : Operand) (t : TypeId)
    (ho : o.op = .call { callee := .builtin .append, args := #[s, x], argTypes := #[t, t] })
    (e : TypeId) (i : TypeInfo) (z : Value) (size bytes : Nat) (ht : P.underlying t = some (.slice e)) (hi : P.info? e = some i) (hz : i.zero = some z)
    (hsize : i.size = size) (hby : i.bytes = bytes) (hzs : z.cells.size = size) (hsz : 0 < size)
    (v : Value) (n : Nat) (xs : List Value) (hs : a.eval s = v) (hown : OwnsQ w e size v n xs)
    (ad : Addr) (m c : Nat) (news : List Value) (hx : a.eval x = .slice (some ad) m c) (hl : news.length = m * size) (hnews : ∀ j u, news[j]? = some u → w.cell? (ad.add j) = some u) (h1 : ∀ u ∈ news, u.oneCell' = true)
    (h63 : n + m ≤ maxLen) (hbytes : (n + m) * bytes ≤ 140737488355328)
    (h : ∀ ao cp w', OwnsQ w' e size (.slice ao (n + m) cp) (n + m) (xs ++ news) → w.grownBy w' v.ownBlock → (∀ j, (Value.slice ao (n + m) cp).ownBlock = some j → v.ownBlock = some j ∨ w.heap.size ≤ j) → K (a.put o.dst (.slice ao (n + m) cp)) w') :
    if Region.wanted o (yielded ops a.tmps) = true then Oper.wp P o a w K Q else E := by
  have hw : Region.wanted o (yielded ops a.tmps) = true := by simp [Region.wanted, hgd]
  rw [if_pos hw]
  obtain ⟨ao, cp, w', hr, h2, h3, h5⟩ := run_append_q (P := P) w t o.type e i z size bytes ht hi hz hsize hby hzs hsz v n xs hown ad m c news hl hnews h1 h63 hbytes
  unfold Oper.wp execOp
  simp only [ho, resolve, invoke, builtin, Sem.run_bind, Sem.run_pure, Result.andThen_ok, List.map_toArray, List.map_cons, List.map_nil, hs, hx, hr]
  exact h ao cp w' h2 h3 h5
end
end Go.Proofs.YtmkkcgkakomacaaGreat
