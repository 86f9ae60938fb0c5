/-
  The program's putOut, as it runs.
-/
import Derived.Test.YtiealipplckfnaaZD1
namespace Go.Proofs.Ytiealipplckfnaa
open Go.RowKit

/-- A cell of it is another one. -/
theorem OwnsQ.putCell {w : World} {e : TypeId} {size : Nat} {g off cap n : Nat} {xs : List Value} (h : OwnsQ w e size (.slice (some ⟨g, off, none⟩) n cap) n xs) (j : Nat) (hj : j < n * size) (u : Value) : OwnsQ (w.setCell ⟨g, off + j, none⟩ u) e size (.slice (some ⟨g, off, none⟩) n cap) n (xs.set j u) := by
  refine ⟨by rw [List.length_set]; exact h.1, .inr ?_⟩
  rcases h.2 with ⟨hv, _⟩ | ⟨g', off', c, cur, hv, hg, h4, h5, h6, h7⟩
  · cases hv
  · injection hv with h1 _ h3
    injection h1 with h1
    injection h1 with h1 h2 _
    subst h1 h2 h3
    have hle : n * size ≤ cap * size := Nat.mul_le_mul_right _ h4
    refine ⟨g, off, cap, cur.setIfInBounds (off + j) u, rfl, box_set hg _ _, h4, h5, by rw [Array.size_setIfInBounds]; exact h6, fun i hi => ?_⟩
    rw [Array.getElem?_setIfInBounds, List.getElem?_set]
    by_cases e : j = i
    · subst e
      rw [if_pos rfl, if_pos (by omega), if_pos rfl, if_pos (by rw [h.1]; exact hj)]
    · rw [if_neg (by omega), if_neg e]
      exact h7 i hi
theorem wtCells_set : ∀ (r : List ByteArray) (k f : Nat), k < r.length → (wtCells (waitsOf f k r)).set (k * 3 + 2) (.bool false) = wtCells (waitsOf f (k + 1) r)
  | s :: r, 0, f, _ => by simp [waitsOf, wtCells, WT.cells]
  | s :: r, k + 1, f, h => by
    have ih := wtCells_set r k (f + 1) (by simpa using h)
    have e1 : wtCells (waitsOf f (k + 1) (s :: r)) = (⟨f, s, false⟩ : WT).cells ++ wtCells (waitsOf (f + 1) k r) := by simp [waitsOf, wtCells]
    have e2 : wtCells (waitsOf f (k + 1 + 1) (s :: r)) = (⟨f, s, false⟩ : WT).cells ++ wtCells (waitsOf (f + 1) (k + 1) r) := by simp [waitsOf, wtCells]
    rw [e1, e2, List.set_append_right _ _ (by show 3 ≤ _; omega), ← ih]
    congr 2
    show (k + 1) * 3 + 2 - 3 = _
    omega
/-- On the way: so far the first k were looked at. -/
def LK.mid (l : LK) (k : Nat) : LK := if k ≤ l.due then l else { l with due := k, out := k }
def LK.dues (l : LK) (k : Nat) : List WT := waitsOf (l.first + l.due) 0 ((l.wait.take k).drop l.due)
def LK.putD (l : LK) : LK := if l.peer = 0 then l else l.mid l.top
def LK.dueL (l : LK) : List WT := if l.peer = 0 then [] else l.dues l.top
section
variable {l : LK}
theorem mid_same (h : LK.ok l) {k : Nat} (hk : k ≤ l.top) : (l.mid k).ok ∧ (l.mid k).wait = l.wait ∧ (l.mid k).first = l.first ∧ (l.mid k).peer = l.peer := by
  unfold LK.mid
  by_cases c : k ≤ l.due
  · rw [if_pos c]; exact ⟨h, rfl, rfl, rfl⟩
  · rw [if_neg c]
    unfold LK.top at hk
    exact ⟨⟨h.epoch, h.peer, h.most, h.first, by show k ≤ l.wait.length; omega, by show k ≤ 8; omega, Nat.le_refl _, h.taken, h.ticks, h.small⟩, rfl, rfl, rfl⟩
theorem mid_tk (h : l.out = 0 → l.ticks = 0) (k : Nat) : (l.mid k).out = 0 → (l.mid k).ticks = 0 := by
  unfold LK.mid
  by_cases c : k ≤ l.due
  · rw [if_pos c]; exact h
  · rw [if_neg c]; intro e; exact absurd e (by show k ≠ 0; omega)
theorem dues_less {k : Nat} (h : k < l.due) : l.dues (k + 1) = l.dues k := by
  unfold LK.dues
  rw [List.drop_eq_nil_of_le (by rw [List.length_take]; omega), List.drop_eq_nil_of_le (by rw [List.length_take]; omega)]
theorem dues_more {k : Nat} (h : l.due ≤ k) (hk : k < l.wait.length) : l.dues (k + 1) = l.dues k ++ [⟨l.first + k, l.wait[k], true⟩] := by
  unfold LK.dues
  rw [List.take_add_one, List.getElem?_eq_getElem hk, List.drop_append_of_le_length (by rw [List.length_take]; omega), waitsOf_append]
  congr 1
  rw [List.length_drop, List.length_take, show l.first + l.due + (min k l.wait.length - l.due) = l.first + k by omega, Nat.zero_sub]
  rfl
theorem dues_length {k : Nat} (hk : k ≤ l.wait.length) : (l.dues k).length = k - l.due := by
  unfold LK.dues
  rw [waitsOf_length, List.length_drop, List.length_take]
  omega
theorem mid_less {k : Nat} (h : k < l.due) : l.mid (k + 1) = l.mid k := by
  unfold LK.mid
  rw [if_pos (by omega), if_pos (by omega)]
theorem mid_more {k : Nat} (h : l.due ≤ k) : l.mid (k + 1) = { l.mid k with due := k + 1, out := k + 1 } ∧ (l.mid k).due = k := by
  unfold LK.mid
  rw [if_neg (by omega)]
  by_cases c : k ≤ l.due
  · rw [if_pos c]; exact ⟨rfl, by omega⟩
  · rw [if_neg c]; exact ⟨rfl, rfl⟩
end
section
variable {w : World} {b : Nat} {v : Value} {l : LK}
theorem PL.put {g off cp n : Nat} (h : PL w b (.slice (some ⟨g, off, none⟩) n cp) l) {k : Nat} (hk : k < l.wait.length) (hd : l.due = k) (hok : ({ l with due := k + 1, out := k + 1 } : LK).ok) : PL ((w.setCell ⟨g, off + k * 3 + 2, none⟩ (.bool false)).setCell ⟨b, 4, none⟩ (.int .i64 ((l.first + k : Nat) : Int))) b (.slice (some ⟨g, off, none⟩) n cp) { l with due := k + 1, out := k + 1 } := by
  have hne := h.ne
  have hn : n = l.wait.length := by obtain ⟨a1, c1, e1⟩ := h.row.slice; injection e1
  subst hn
  have hgb : b ≠ g := fun e => hne (by rw [e]; rfl)
  refine ⟨hok, fun e => absurd e (by show k + 1 ≠ 0; omega), ?_, ?_⟩
  · have h1 := box_set (box_apart h.box hgb (off + k * 3 + 2) (.bool false)) 4 (.int .i64 ((l.first + k : Nat) : Int))
    have h2 := h.ok.first
    rw [show pCells { l with due := k + 1, out := k + 1 } (.slice (some ⟨g, off, none⟩) l.wait.length cp) = #[.int .i64 l.epoch, .int .i64 l.peer, .int .i64 l.taken, .int .i64 ((l.first - 1 + l.wait.length : Nat) : Int), .int .i64 ((l.first + k : Nat) : Int), .slice (some ⟨g, off, none⟩) l.wait.length cp, .int .i64 l.ticks, .bool l.owes] by
      show pCells { l with due := k + 1, out := k + 1 } _ = _
      unfold pCells
      rw [show l.first - 1 + (k + 1) = l.first + k by omega]]
    exact h1
  · have h1 := (h.row.putCell (k * 3 + 2) (by omega) (.bool false)).set b 4 (.int .i64 ((l.first + k : Nat) : Int)) hne
    rw [hd, wtCells_set _ _ _ hk, ← Nat.add_assoc] at h1
    exact h1
set_option maxHeartbeats 4000000 in
theorem pputOut (h : PL w b v l) : Calls Try.prog 26 #[.pointer (some ⟨b, 0, none⟩)] w fun e w' => ∃ oo oc, e = .returned (.slice oo l.dueL.length oc) ∧ PL w' b v l.putD ∧ Touch (pown b v) w w' ∧ w'.ownsRow w.heap.size 67 3 (.slice oo l.dueL.length oc) l.dueL.length (wtCells l.dueL) := by
  have HK := hide (pknows h)
  by_cases hp : l.peer = 0
  · have e1 : l.dueL = [] := by unfold LK.dueL; rw [if_pos hp]
    have e2 : l.putD = l := by unfold LK.putD; rw [if_pos hp]
    rw [e1, e2]
    rw [decide_eq_false (fun e => e hp)] at HK
    have HH := hide h
    clear h hp e1 e2
    go_enter Try.func26, Try.ntmps26
    go_wp2_with (go_at_call 28; refine HK.out.mono ?_; rintro e w' ⟨rfl, rfl⟩)
    go_ret
    exact ⟨_, _, rfl, HH.out, Touch.refl _ _, World.ownsRow_nil _ _ _ _⟩
  · have e1 : l.dueL = l.dues l.top := by unfold LK.dueL; rw [if_neg hp]
    have e2 : l.putD = l.mid l.top := by unfold LK.putD; rw [if_neg hp]
    rw [e1, e2]
    rw [decide_eq_true hp] at HK
    obtain ⟨i0, hi0, hz0, hz1, hz2⟩ := info_parts infoWT
    have HH := hide h
    have hmost := h.ok.most
    obtain ⟨ao, cp, rfl⟩ := h.row.slice
    obtain ⟨_, _, _, _, _, c5, _⟩ := h.c
    have HOW : Hid (∀ j, pown b (.slice ao l.wait.length cp) j → j < w.heap.size) := fun j e => h.lt e
    have HTK := hide h.tk
    have HOK := hide h.ok
    have htop : l.top ≤ l.wait.length := by unfold LK.top; omega
    have hmin : min (l.wait.length : Int) 8 = (l.top : Int) := by unfold LK.top; omega
    clear h hp e1 e2
    go_enter Try.func26, Try.ntmps26
    go_wp2_with (go_at_call 28; refine HK.out.mono ?_; rintro e w' ⟨rfl, rfl⟩)
    go_loopw [3, 15] (fun dv iv wv => ∃ (k : Nat) (oo : Option Addr) (oc : Nat), k ≤ l.top ∧ iv = .int .i64 k ∧ dv = .slice oo (l.dues k).length oc ∧ Hid (PL wv b (.slice ao l.wait.length cp) (l.mid k)) ∧ Hid (wv.ownsRow w'.heap.size 67 3 (.slice oo (l.dues k).length oc) (l.dues k).length (wtCells (l.dues k))) ∧ Hid (Touch (pown b (.slice ao l.wait.length cp)) w' wv)) (fun _ iv _ => l.top - (intOf iv).toNat)
    case atStart =>
      have e0 : l.dues 0 = [] := by unfold LK.dues; rw [List.take_zero, List.drop_nil]; rfl
      have e3 : l.mid 0 = l := by unfold LK.mid; rw [if_pos (Nat.zero_le _)]
      exact ⟨0, none, 0, Nat.zero_le _, rfl, by rw [e0]; rfl, by rw [e3]; exact HH, by rw [e0]; exact World.ownsRow_nil _ _ _ _, Touch.refl _ _⟩
    case round =>
      obtain ⟨k, oo, oc, hk, rfl, rfl, PV, OV, TV⟩ := hrel
      by_cases hlt : k < l.top
      · obtain ⟨mok, mw, mf, mp⟩ := mid_same HOK.out hk
        have hkw : k < l.wait.length := by omega
        have hdl := dues_length (l := l) (k := k) (by omega)
        obtain ⟨g, off, rfl, hgb, hgl, a0, a1, a2, ff⟩ := PV.out.at k (by rw [mw]; exact hkw)
        simp only [mw, mf] at a0 a1
        have fa := ff (off + k * 3 + 2)
        obtain ⟨_, _, _, _, _, q5, _⟩ := PV.out.c
        have f4 := PV.out.f 4
        have hj0 : (0 : Int) ≤ (k : Int) := by omega
        have hi1 : (k : Int) < (l.wait.length : Int) := by omega
        have hi2 : (k : Int) < (l.top : Int) := by omega
        by_cases hd : k < l.due
        · have hm : l.mid k = l := by unfold LK.mid; rw [if_pos (by omega)]
          rw [hm, decide_eq_false (by omega : ¬ l.due ≤ k)] at a2
          have HM := hide (mid_less hd)
          have HD := hide (dues_less hd)
          clear hm a0 a1
          obtain ⟨dn, hdn⟩ : ∃ dn, (l.dues k).length = dn := ⟨_, rfl⟩
          rw [hdn] at OV ⊢
          have DN := hide hdn
          clear hdn hdl
          go_wp2
          refine ⟨⟨k + 1, oo, oc, by omega, by go_num, ?_, ?_, ?_, TV.out⟩, by simp [intOf]; omega⟩
          · rw [HD.out, DN.out]
          · rw [HM.out]; exact PV
          · rw [HD.out, DN.out]; exact OV
        · obtain ⟨hm1, hm2⟩ := mid_more (l := l) (k := k) (by omega)
          rw [hm2, decide_eq_true (Nat.le_refl k)] at a2
          have HD := hide (dues_more (l := l) (by omega) hkw)
          have HM := hide hm1
          have hmk := (mid_same HOK.out (k := k + 1) hlt).1
          rw [hm1] at hmk
          have HP := hide (PV.out)
          have X : Hid (∀ W : World, PL W b (.slice (some ⟨g, off, none⟩) l.wait.length cp) (l.mid k) → PL ((W.setCell ⟨g, off + k * 3 + 2, none⟩ (.bool false)).setCell ⟨b, 4, none⟩ (.int .i64 ((l.first + k : Nat) : Int))) b (.slice (some ⟨g, off, none⟩) l.wait.length cp) (l.mid (k + 1))) := fun W hW => by
            have h1 := hW.put (by rw [mw]; exact hkw) hm2 hmk
            rw [hm1, ← mf]
            exact h1
          generalize hxx : l.wait[k] = x at *
          obtain ⟨N, hN⟩ : ∃ N, l.first + k = N := ⟨_, rfl⟩
          rw [hN] at a0 X HD
          have HN := hide hN
          clear hN
          have hbg : b ≠ g := fun e => hgb e.symm
          have hvn : Hid (∀ j, (Value.slice oo (l.dues k).length oc).ownBlock = some j → ¬ pown b (.slice (some ⟨g, off, none⟩) l.wait.length cp) j) := fun j e e2 => by
            have h1 := (OV.out.lt j e).1
            have h2 := HOW.out j e2
            omega
          clear hm1 hm2 hmk hxx
          obtain ⟨dn, hdn⟩ : ∃ dn, (l.dues k).length = dn := ⟨_, rfl⟩
          rw [hdn] at OV hvn ⊢
          have DN := hide hdn
          have hdk : dn ≤ 8 := by unfold LK.top at hlt; omega
          clear hdn hdl
          go_wp2_with (at_builtin; refine wpList_append_own _ rfl _ _ 61 rfl w'.heap.size 67 i0 _ 3 32 Try.underlying61 hi0 hz0 hz1 hz2 rfl (by decide) (.slice oo dn oc) dn (wtCells (l.dues k)) rfl (OV.out.alloc _) ⟨wr.heap.size, 0, none⟩ 1 1 [.int .i64 (N : Int), .string x, .bool true] rfl rfl (World.news_of_block (cs := #[.int .i64 (N : Int), .string x, .bool true]) (t := 67) (fr := (0, 0)) (heap_alloc_new wr _)) (by simp [Value.oneCell']) (by unfold maxLen; omega) (by omega) (by have := TV.out.size; simp; omega) ?_; intro v4 w4 hown hgrow _; obtain ⟨oo4, oc4, rfl⟩ := row_slice hown; have P4 := hide (PV.out.grown hgrow hvn.out); obtain ⟨_, _, b0, _, b2, bf⟩ := P4.out.at2 k (by rw [mw]; exact hkw); obtain ⟨_, _, _, _, b4, _⟩ := P4.out.c; rw [mf, HN.out] at b0; have bfa := bf (off + k * 3 + 2); have bf4 := P4.out.f 4; clear bf)
          have O5 : Hid (((w4.setCell ⟨g, off + k * 3 + 2, none⟩ (.bool false)).setCell ⟨b, 4, none⟩ (.int .i64 (N : Int))).ownsRow w'.heap.size 67 3 (.slice oo4 (dn + 1) oc4) (dn + 1) (wtCells (l.dues k) ++ [.int .i64 (N : Int), .string x, .bool true])) := by
            have hne : ∀ j, pown b (.slice (some ⟨g, off, none⟩) l.wait.length cp) j → (Value.slice oo4 (dn + 1) oc4).ownBlock ≠ some j := fun j hj e => by
              have h1 := (hown.lt j e).1
              have h2 := HOW.out j hj
              omega
            exact set_row (set_row hown g _ _ (hne g (.inr rfl))) b _ _ (hne b (.inl rfl))
          have T5 : Hid (Touch (pown b (.slice (some ⟨g, off, none⟩) l.wait.length cp)) w' ((w4.setCell ⟨g, off + k * 3 + 2, none⟩ (.bool false)).setCell ⟨b, 4, none⟩ (.int .i64 (N : Int)))) := by
            refine Touch.setCell (Touch.setCell ?_ _ _ fun _ => .inr rfl) _ _ fun _ => .inl rfl
            refine (TV.out.alloc _).grown hgrow fun j e hj => ?_
            have h1 := (OV.out.lt j e).1
            omega
          refine ⟨⟨k + 1, oo4, oc4, by omega, by go_num, ?_, ?_, ?_, T5⟩, by simp [intOf]; omega⟩
          · rw [HD.out, List.length_append, DN.out]; rfl
          · exact X.out _ P4.out
          · rw [HD.out, List.length_append, DN.out, wtCells_snoc]; exact O5
      · have hi2 : ¬ (k : Int) < (l.top : Int) := by omega
        obtain rfl : k = l.top := by omega
        go_wp2
        go_ret
        exact ⟨_, _, rfl, PV.out, TV.out, OV.out⟩
end
end Go.Proofs.Ytiealipplckfnaa
