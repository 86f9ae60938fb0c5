/-
  The program's putOut, as it runs.
-/
import Derived.Test.YthgfijmpofbchaaZD1
import Derived.Test.YthgfijmpofbchaaZS1
import Derived.Laws.MakeOwn
import Derived.Deep.DrawnRows
import Derived.Deep.RegionHeldLaw
import Derived.Deep.AppendLies
import Derived.Shelf.Abstract
namespace Go.Proofs.Ythgfijmpofbchaa
open Go.RowKit

/-- A cell of it is another one. -/
theorem OwnsQ.putCell {w : World} {e : TypeId} {size : Nat} {g off cap n : Nat} {xs : List Value} (h : OwnsQ w e size (.slice (some ⟨g, off, none⟩) n cap) n xs) (j : Nat) (hj : j < n * size) (u : Value) : OwnsQ (w.setCell ⟨g, off + j, none⟩ u) e size (.slice (some ⟨g, off, none⟩) n cap) n (xs.set j u) := by
  refine ⟨by rw [List.length_set]; exact h.1, .inr ?_⟩
  rcases h.2 with ⟨hv, _⟩ | ⟨g', off', c, cur, hv, hg, h4, h5, h6, h7⟩
  · cases hv
  · injection hv with h1 _ h3
    injection h1 with h1
    injection h1 with h1 h2 _
    subst h1 h2 h3
    have hle : n * size ≤ cap * size := Nat.mul_le_mul_right _ h4
    refine ⟨g, off, cap, cur.setIfInBounds (off + j) u, rfl, box_set hg _ _, h4, h5, by rw [Array.size_setIfInBounds]; exact h6, fun i hi => ?_⟩
    rw [Array.getElem?_setIfInBounds, List.getElem?_set]
    by_cases e : j = i
    · subst e
      rw [if_pos rfl, if_pos (by omega), if_pos rfl, if_pos (by rw [h.1]; exact hj)]
    · rw [if_neg (by omega), if_neg e]
      exact h7 i hi
theorem wtCells_set : ∀ (r : List ByteArray) (k f : Nat), k < r.length → (wtCells (waitsOf f k r)).set (k * 3 + 2) (.bool false) = wtCells (waitsOf f (k + 1) r)
  | s :: r, 0, f, _ => by simp [waitsOf, wtCells, WT.cells]
  | s :: r, k + 1, f, h => by
    have ih := wtCells_set r k (f + 1) (by simpa using h)
    have e1 : wtCells (waitsOf f (k + 1) (s :: r)) = (⟨f, s, false⟩ : WT).cells ++ wtCells (waitsOf (f + 1) k r) := by simp [waitsOf, wtCells]
    have e2 : wtCells (waitsOf f (k + 1 + 1) (s :: r)) = (⟨f, s, false⟩ : WT).cells ++ wtCells (waitsOf (f + 1) (k + 1) r) := by simp [waitsOf, wtCells]
    rw [e1, e2, List.set_append_right _ _ (by show 3 ≤ _; omega), ← ih]
    congr 2
    show (k + 1) * 3 + 2 - 3 = _
    omega
/-- On the way: so far the first k were looked at. -/
def LK.mid (l : LK) (k : Nat) : LK := if k ≤ l.due then l else { l with due := k, out := k }
def LK.dues (l : LK) (k : Nat) : List WT := waitsOf (l.first + l.due) 0 ((l.wait.take k).drop l.due)
def LK.putD (l : LK) : LK := if l.peer = 0 then l else l.mid l.top
def LK.dueL (l : LK) : List WT := if l.peer = 0 then [] else l.dues l.top
section
variable {l : LK}
theorem mid_same (h : LK.ok l) {k : Nat} (hk : k ≤ l.top) : (l.mid k).ok ∧ (l.mid k).wait = l.wait ∧ (l.mid k).first = l.first ∧ (l.mid k).peer = l.peer := by
  unfold LK.mid
  by_cases c : k ≤ l.due
  · rw [if_pos c]; exact ⟨h, rfl, rfl, rfl⟩
  · rw [if_neg c]
    unfold LK.top at hk
    exact ⟨⟨h.epoch, h.peer, h.most, h.first, by show k ≤ l.wait.length; omega, by show k ≤ 8; omega, Nat.le_refl _, h.taken, h.ticks, h.small⟩, rfl, rfl, rfl⟩
theorem mid_tk (h : l.out = 0 → l.ticks = 0) (k : Nat) : (l.mid k).out = 0 → (l.mid k).ticks = 0 := by
  unfold LK.mid
  by_cases c : k ≤ l.due
  · rw [if_pos c]; exact h
  · rw [if_neg c]; intro e; exact absurd e (by show k ≠ 0; omega)
theorem dues_less {k : Nat} (h : k < l.due) : l.dues (k + 1) = l.dues k := by
  unfold LK.dues
  rw [List.drop_eq_nil_of_le (by rw [List.length_take]; omega), List.drop_eq_nil_of_le (by rw [List.length_take]; omega)]
theorem dues_more {k : Nat} (h : l.due ≤ k) (hk : k < l.wait.length) : l.dues (k + 1) = l.dues k ++ [⟨l.first + k, l.wait[k], true⟩] := by
  unfold LK.dues
  rw [List.take_add_one, List.getElem?_eq_getElem hk, List.drop_append_of_le_length (by rw [List.length_take]; omega), waitsOf_append]
  congr 1
  rw [List.length_drop, List.length_take, show l.first + l.due + (min k l.wait.length - l.due) = l.first + k by omega, Nat.zero_sub]
  rfl
theorem dues_length {k : Nat} (hk : k ≤ l.wait.length) : (l.dues k).length = k - l.due := by
  unfold LK.dues
  rw [waitsOf_length, List.length_drop, List.length_take]
  omega
theorem mid_less {k : Nat} (h : k < l.due) : l.mid (k + 1) = l.mid k := by
  unfold LK.mid
  rw [if_pos (by omega), if_pos (by omega)]
theorem mid_more {k : Nat} (h : l.due ≤ k) : l.mid (k + 1) = { l.mid k with due := k + 1, out := k + 1 } ∧ (l.mid k).due = k := by
  unfold LK.mid
  rw [if_neg (by omega)]
  by_cases c : k ≤ l.due
  · rw [if_pos c]; exact ⟨rfl, by omega⟩
  · rw [if_neg c]; exact ⟨rfl, rfl⟩
end
section
variable {w : World} {b : Nat} {v : Value} {l : LK}
theorem PL.put {g off cp n : Nat} (h : PL w b (.slice (some ⟨g, off, none⟩) n cp) l) {k : Nat} (hk : k < l.wait.length) (hd : l.due = k) (hok : ({ l with due := k + 1, out := k + 1 } : LK).ok) : PL ((w.setCell ⟨g, off + k * 3 + 2, none⟩ (.bool false)).setCell ⟨b, 4, none⟩ (.int .i64 ((l.first + k : Nat) : Int))) b (.slice (some ⟨g, off, none⟩) n cp) { l with due := k + 1, out := k + 1 } := by
  have hne := h.ne
  have hn : n = l.wait.length := by obtain ⟨a1, c1, e1⟩ := h.row.slice; injection e1
  subst hn
  have hgb : b ≠ g := fun e => hne (by rw [e]; rfl)
  refine ⟨hok, fun e => absurd e (by show k + 1 ≠ 0; omega), ?_, ?_⟩
  · have h1 := box_set (box_apart h.box hgb (off + k * 3 + 2) (.bool false)) 4 (.int .i64 ((l.first + k : Nat) : Int))
    have h2 := h.ok.first
    rw [show pCells { l with due := k + 1, out := k + 1 } (.slice (some ⟨g, off, none⟩) l.wait.length cp) = #[.int .i64 l.epoch, .int .i64 l.peer, .int .i64 l.taken, .int .i64 ((l.first - 1 + l.wait.length : Nat) : Int), .int .i64 ((l.first + k : Nat) : Int), .slice (some ⟨g, off, none⟩) l.wait.length cp, .int .i64 l.ticks, .bool l.owes] by
      show pCells { l with due := k + 1, out := k + 1 } _ = _
      unfold pCells
      rw [show l.first - 1 + (k + 1) = l.first + k by omega]]
    exact h1
  · have h1 := (h.row.putCell (k * 3 + 2) (by omega) (.bool false)).set b 4 (.int .i64 ((l.first + k : Nat) : Int)) hne
    rw [hd, wtCells_set _ _ _ hk, ← Nat.add_assoc] at h1
    exact h1
set_option maxHeartbeats 4000000 in
theorem pputOut (h : PL w b v l) : Calls Try.prog 25 #[.pointer (some ⟨b, 0, none⟩)] w fun e w' => ∃ oo oc, e = .returned (.slice oo l.dueL.length oc) ∧ PL w' b v l.putD ∧ Touch (pown b v) w w' ∧ w'.ownsRow w.heap.size 66 3 (.slice oo l.dueL.length oc) l.dueL.length (wtCells l.dueL) := by
  have HK := hide (pknows h)
  by_cases hp : l.peer = 0
  · have e1 : l.dueL = [] := by unfold LK.dueL; rw [if_pos hp]
    have e2 : l.putD = l := by unfold LK.putD; rw [if_pos hp]
    rw [e1, e2]
    rw [decide_eq_false (fun e => e hp)] at HK
    have HH := hide h
    clear h hp e1 e2
    go_enter Try.func25, Try.ntmps25
    go_wp2_with (go_at_call 27; refine HK.out.mono ?_; rintro e w' ⟨rfl, rfl⟩)
    go_ret
    exact ⟨_, _, rfl, HH.out, Touch.refl _ _, World.ownsRow_nil _ _ _ _⟩
  · have e1 : l.dueL = l.dues l.top := by unfold LK.dueL; rw [if_neg hp]
    have e2 : l.putD = l.mid l.top := by unfold LK.putD; rw [if_neg hp]
    rw [e1, e2]
    rw [decide_eq_true hp] at HK
    obtain ⟨i0, hi0, hz0, hz1, hz2⟩ := info_parts infoWT
    have HH := hide h
    have hmost := h.ok.most
    obtain ⟨ao, cp, rfl⟩ := h.row.slice
    obtain ⟨_, _, _, _, _, c5, _⟩ := h.c
    have HOW : Hid (∀ j, pown b (.slice ao l.wait.length cp) j → j < w.heap.size) := fun j e => h.lt e
    have HTK := hide h.tk
    have HOK := hide h.ok
    have htop : l.top ≤ l.wait.length := by unfold LK.top; omega
    have hmin : min (l.wait.length : Int) 8 = (l.top : Int) := by unfold LK.top; omega
    clear h hp e1 e2
    go_enter Try.func25, Try.ntmps25
    go_wp2_with (go_at_call 27; refine HK.out.mono ?_; rintro e w' ⟨rfl, rfl⟩)
    go_loopw [3, 15] (fun dv iv wv => ∃ (k : Nat) (oo : Option Addr) (oc : Nat), k ≤ l.top ∧ iv = .int .i64 k ∧ dv = .slice oo (l.dues k).length oc ∧ Hid (PL wv b (.slice ao l.wait.length cp) (l.mid k)) ∧ Hid (wv.ownsRow w'.heap.size 66 3 (.slice oo (l.dues k).length oc) (l.dues k).length (wtCells (l.dues k))) ∧ Hid (Touch (pown b (.slice ao l.wait.length cp)) w' wv)) (fun _ iv _ => l.top - (intOf iv).toNat)
    case atStart =>
      have e0 : l.dues 0 = [] := by unfold LK.dues; rw [List.take_zero, List.drop_nil]; rfl
      have e3 : l.mid 0 = l := by unfold LK.mid; rw [if_pos (Nat.zero_le _)]
      exact ⟨0, none, 0, Nat.zero_le _, rfl, by rw [e0]; rfl, by rw [e3]; exact HH, by rw [e0]; exact World.ownsRow_nil _ _ _ _, Touch.refl _ _⟩
    case round =>
      obtain ⟨k, oo, oc, hk, rfl, rfl, PV, OV, TV⟩ := hrel
      by_cases hlt : k < l.top
      · obtain ⟨mok, mw, mf, mp⟩ := mid_same HOK.out hk
        have hkw : k < l.wait.length := by omega
        have hdl := dues_length (l := l) (k := k) (by omega)
        obtain ⟨g, off, rfl, hgb, hgl, a0, a1, a2, ff⟩ := PV.out.at k (by rw [mw]; exact hkw)
        simp only [mw, mf] at a0 a1
        have fa := ff (off + k * 3 + 2)
        obtain ⟨_, _, _, _, _, q5, _⟩ := PV.out.c
        have f4 := PV.out.f 4
        have hj0 : (0 : Int) ≤ (k : Int) := by omega
        have hi1 : (k : Int) < (l.wait.length : Int) := by omega
        have hi2 : (k : Int) < (l.top : Int) := by omega
        by_cases hd : k < l.due
        · have hm : l.mid k = l := by unfold LK.mid; rw [if_pos (by omega)]
          rw [hm, decide_eq_false (by omega : ¬ l.due ≤ k)] at a2
          have HM := hide (mid_less hd)
          have HD := hide (dues_less hd)
          clear hm a0 a1
          obtain ⟨dn, hdn⟩ : ∃ dn, (l.dues k).length = dn := ⟨_, rfl⟩
          rw [hdn] at OV ⊢
          have DN := hide hdn
          clear hdn hdl
          go_wp2
          refine ⟨⟨k + 1, oo, oc, by omega, by go_num, ?_, ?_, ?_, TV.out⟩, by simp [intOf]; omega⟩
          · rw [HD.out, DN.out]
          · rw [HM.out]; exact PV
          · rw [HD.out, DN.out]; exact OV
        · obtain ⟨hm1, hm2⟩ := mid_more (l := l) (k := k) (by omega)
          rw [hm2, decide_eq_true (Nat.le_refl k)] at a2
          have HD := hide (dues_more (l := l) (by omega) hkw)
          have HM := hide hm1
          have hmk := (mid_same HOK.out (k := k + 1) hlt).1
          rw [hm1] at hmk
          have HP := hide (PV.out)
          have X : Hid (∀ W : World, PL W b (.slice (some ⟨g, off, none⟩) l.wait.length cp) (l.mid k) → PL ((W.setCell ⟨g, off + k * 3 + 2, none⟩ (.bool false)).setCell ⟨b, 4, none⟩ (.int .i64 ((l.first + k : Nat) : Int))) b (.slice (some ⟨g, off, none⟩) l.wait.length cp) (l.mid (k + 1))) := fun W hW => by
            have h1 := hW.put (by rw [mw]; exact hkw) hm2 hmk
            rw [hm1, ← mf]
            exact h1
          generalize hxx : l.wait[k] = x at *
          obtain ⟨N, hN⟩ : ∃ N, l.first + k = N := ⟨_, rfl⟩
          rw [hN] at a0 X HD
          have HN := hide hN
          clear hN
          have hbg : b ≠ g := fun e => hgb e.symm
          have hvn : Hid (∀ j, (Value.slice oo (l.dues k).length oc).ownBlock = some j → ¬ pown b (.slice (some ⟨g, off, none⟩) l.wait.length cp) j) := fun j e e2 => by
            have h1 := (OV.out.lt j e).1
            have h2 := HOW.out j e2
            omega
          clear hm1 hm2 hmk hxx
          obtain ⟨dn, hdn⟩ : ∃ dn, (l.dues k).length = dn := ⟨_, rfl⟩
          rw [hdn] at OV hvn ⊢
          have DN := hide hdn
          have hdk : dn ≤ 8 := by unfold LK.top at hlt; omega
          clear hdn hdl
          go_wp2_with (at_builtin; refine wpList_append_own _ rfl _ _ 60 rfl w'.heap.size 66 i0 _ 3 32 Try.underlying60 hi0 hz0 hz1 hz2 rfl (by decide) (.slice oo dn oc) dn (wtCells (l.dues k)) rfl (OV.out.alloc _) ⟨wr.heap.size, 0, none⟩ 1 1 [.int .i64 (N : Int), .string x, .bool true] rfl rfl (World.news_of_block (cs := #[.int .i64 (N : Int), .string x, .bool true]) (t := 66) (fr := (0, 0)) (heap_alloc_new wr _)) (by simp [Value.oneCell']) (by unfold maxLen; omega) (by omega) (by have := TV.out.size; simp; omega) ?_; intro v4 w4 hown hgrow _; obtain ⟨oo4, oc4, rfl⟩ := row_slice hown; have P4 := hide (PV.out.grown hgrow hvn.out); obtain ⟨_, _, b0, _, b2, bf⟩ := P4.out.at2 k (by rw [mw]; exact hkw); obtain ⟨_, _, _, _, b4, _⟩ := P4.out.c; rw [mf, HN.out] at b0; have bfa := bf (off + k * 3 + 2); have bf4 := P4.out.f 4; clear bf)
          have O5 : Hid (((w4.setCell ⟨g, off + k * 3 + 2, none⟩ (.bool false)).setCell ⟨b, 4, none⟩ (.int .i64 (N : Int))).ownsRow w'.heap.size 66 3 (.slice oo4 (dn + 1) oc4) (dn + 1) (wtCells (l.dues k) ++ [.int .i64 (N : Int), .string x, .bool true])) := by
            have hne : ∀ j, pown b (.slice (some ⟨g, off, none⟩) l.wait.length cp) j → (Value.slice oo4 (dn + 1) oc4).ownBlock ≠ some j := fun j hj e => by
              have h1 := (hown.lt j e).1
              have h2 := HOW.out j hj
              omega
            exact set_row (set_row hown g _ _ (hne g (.inr rfl))) b _ _ (hne b (.inl rfl))
          have T5 : Hid (Touch (pown b (.slice (some ⟨g, off, none⟩) l.wait.length cp)) w' ((w4.setCell ⟨g, off + k * 3 + 2, none⟩ (.bool false)).setCell ⟨b, 4, none⟩ (.int .i64 (N : Int)))) := by
            refine Touch.setCell (Touch.setCell ?_ _ _ fun _ => .inr rfl) _ _ fun _ => .inl rfl
            refine (TV.out.alloc _).grown hgrow fun j e hj => ?_
            have h1 := (OV.out.lt j e).1
            omega
          refine ⟨⟨k + 1, oo4, oc4, by omega, by go_num, ?_, ?_, ?_, T5⟩, by simp [intOf]; omega⟩
          · rw [HD.out, List.length_append, DN.out]; rfl
          · exact X.out _ P4.out
          · rw [HD.out, List.length_append, DN.out, wtCells_snoc]; exact O5
      · have hi2 : ¬ (k : Int) < (l.top : Int) := by omega
        obtain rfl : k = l.top := by omega
        go_wp2
        go_ret
        exact ⟨_, _, rfl, PV.out, TV.out, OV.out⟩
end
end Go.Proofs.Ythgfijmpofbchaa
/-
  The program's frames, as it runs.
-/
namespace Go.Proofs.Ythgfijmpofbchaa
open Go.RowKit

attribute [local go_sem ↓] Go.wp_at_zero Go.wp_at_succ
/-- The frame of one. -/
def WT.fr (l : LK) (x : WT) : FR := ⟨l.epoch, l.peer, x.num, l.taken, x.body⟩
/-- The cells of one, in a row of one's own. -/
theorem wt_at {w : World} {B : Nat} {ao : Option Addr} {cp : Nat} {D : List WT} (h : w.ownsRow B 66 3 (.slice ao D.length cp) D.length (wtCells D)) (i : Nat) (hi : i < D.length) : ∃ g, ao = some ⟨g, 0, none⟩ ∧ g < w.heap.size ∧ w.cell? ⟨g, i * 3, none⟩ = some (.int .i64 (D[i].num : Int)) ∧ w.cell? ⟨g, i * 3 + 1, none⟩ = some (.string D[i].body) ∧ w.cell? ⟨g, i * 3 + 2, none⟩ = some (.bool D[i].due) := by
  have hr := OwnsQ.of_row h
  rcases h.2 with ⟨_, h2⟩ | ⟨g, cap, cur, hv, hg, hh, hn, hc, hs, ht⟩
  · omega
  · injection hv with h1 _ h3
    subst h1 h3
    obtain ⟨off2, ha, hcc, _⟩ := hr.cell
    injection ha with _ ha _
    subst ha
    have key : ∀ j, j < 3 → w.cell? ⟨g, i * 3 + j, none⟩ = (D[i].cells)[j]? := fun j hj => by
      rw [← wtCells_get _ i j hi hj]
      have := hcc (i * 3 + j) (by omega)
      rw [Nat.zero_add] at this
      exact this
    exact ⟨g, rfl, heap_lt hh, key 0 (by omega), key 1 (by omega), key 2 (by omega)⟩
set_option maxHeartbeats 4000000 in
theorem pframes {w : World} {b : Nat} {v : Value} {l : LK} (h : PL w b v l) (B : Nat) (ao : Option Addr) (cp : Nat) (D : List WT) (hD : D.length ≤ 8) (hs : ∀ x ∈ D, x.body.size ≤ 100000) (ho : w.ownsRow B 66 3 (.slice ao D.length cp) D.length (wtCells D)) :
    Calls Try.prog 26 #[.pointer (some ⟨b, 0, none⟩), .slice ao D.length cp] w fun e w' => ∃ gg oc, e = .returned (.slice (some ⟨gg, 0, none⟩) D.length oc) ∧ w'.ownsRow w.heap.size 31 5 (.slice (some ⟨gg, 0, none⟩) D.length oc) D.length (frCells (D.map (WT.fr l))) ∧ Below w.heap.size w w' := by
  obtain ⟨i0, hi0, hz0, hz1, hz2⟩ := info_parts infoFR
  obtain ⟨w1, hmk, om, gm⟩ := run_make_own (P := Try.prog) w w.heap.size 38 31 i0 _ 5 Try.underlying38 hi0 hz0 hz1 .i64 .i64 D.length (by rw [hz2]; omega) (by unfold maxLen; omega) (Nat.le_refl _)
  have B1 : Hid (Below w.heap.size w w1) := ⟨gm.os, gm.tape, gm.output, gm.size, fun k hk => gm.block k hk (by simp)⟩
  have OM := hide om
  have HH := hide h
  have HO := hide ho
  have HS := hide hs
  have HK := hide (enters_of Try.func36 (by kernel_rfl) rfl)
  have hblt := heap_lt h.box
  clear om gm ho h hs
  go_enter Try.func26, Try.ntmps26
  go_wp2
  go_loopw [5, 13] (fun ov iv wv => ∃ (k gg : Nat) (oc : Nat), k ≤ D.length ∧ iv = .int .i64 k ∧ ov = .slice (some ⟨gg, 0, none⟩) k oc ∧ Hid (wv.ownsRow w.heap.size 31 5 (.slice (some ⟨gg, 0, none⟩) k oc) k (frCells ((D.take k).map (WT.fr l)))) ∧ Hid (Below w.heap.size w wv)) (fun _ iv _ => D.length - (intOf iv).toNat)
  case atStart => exact ⟨0, _, _, Nat.zero_le _, rfl, rfl, OM.out, B1.out⟩
  case round =>
    obtain ⟨k, gg, oc, hk, rfl, rfl, OV, BV⟩ := hrel
    by_cases hlt : k < D.length
    · obtain ⟨g, rfl, hgl, a0, a1, a2⟩ := wt_at (below_row BV.out HO.out) k hlt
      have hj0 : (0 : Int) ≤ (k : Int) := by omega
      have hj1 : (k : Int) < (D.length : Int) := by omega
      have PV := hide (HH.out.below BV.out)
      obtain ⟨c0, c1, c2, _⟩ := PV.out.c
      have hx := HS.out _ (List.getElem_mem hlt)
      have HT : Hid ((D.take (k + 1)).map (WT.fr l) = (D.take k).map (WT.fr l) ++ [WT.fr l D[k]]) := by
        show _ = _
        rw [List.take_add_one, List.getElem?_eq_getElem hlt, List.map_append]
        rfl
      generalize D[k] = x at *
      obtain ⟨xn, xb, xd⟩ := x
      simp only [WT.fr] at a0 a1 a2 hx HT
      have HC := hide (fun w => clone_any xb w (by omega))
      have x2 := heap_alloc_new wr (.cells #[.int .i64 (xn : Int), .string xb, .bool xd] 66)
      have P2 := hide (PV.out.below ((Below.refl _ wr).alloc (Nat.le_refl _) (.cells #[.int .i64 (xn : Int), .string xb, .bool xd] 66)))
      have O2 := hide (OV.out.alloc (.cells #[.int .i64 (xn : Int), .string xb, .bool xd] 66))
      have B2 := hide (BV.out.alloc BV.out.size (.cells #[.int .i64 (xn : Int), .string xb, .bool xd] 66))
      have hrb : wr.heap.size < (wr.alloc (.cells #[.int .i64 (xn : Int), .string xb, .bool xd] 66)).heap.size := by simp
      have X2 := hide x2
      clear x2
      go_wp2_with fail
      generalize wr.alloc (.cells #[.int .i64 (xn : Int), .string xb, .bool xd] 66) = w2 at *
      generalize wr.heap.size = rb at *
      obtain ⟨d0, d1, d2, _⟩ := P2.out.c
      have x0 := box_cell X2.out 0 rfl
      have x1 := box_cell X2.out 1 rfl
      have hnr : (Value.slice (some ⟨gg, 0, none⟩) k oc).ownBlock ≠ some rb := fun e => absurd ((OwnsQ.of_row O2.out).type e X2.out) (by decide)
      have hnb : (Value.slice (some ⟨gg, 0, none⟩) k oc).ownBlock ≠ some b := fun e => by have := (O2.out.lt b e).1; omega
      clear c0 c1 c2 a0 a1 a2 OV BV PV
      go_region_held_law (fun w' => w'.cell? ⟨b, 0, none⟩ = some (.int .i64 l.epoch) ∧ w'.cell? ⟨b, 1, none⟩ = some (.int .i64 l.peer) ∧ w'.cell? ⟨b, 2, none⟩ = some (.int .i64 l.taken) ∧ w'.cell? ⟨rb, 0, none⟩ = some (.int .i64 (xn : Int)) ∧ w'.cell? ⟨rb, 1, none⟩ = some (.string xb)) (first | go_keep | exact KS.out | exact KA.out _ | exact KG.out) (first
        | (refine step_fn rfl 36 _ _ rfl HK.out [.string xb] rfl (HC.out _) ?_; rintro e w3 ⟨rfl, bb⟩; refine ⟨_, rfl, ?_⟩; have B3 := hide bb; clear bb; have P3 := hide (P2.out.keep (own := fun _ => False) (Touch.of_below (w := w2) (w1 := w3) ⟨B3.out.os, B3.out.tape, B3.out.output, B3.out.size, B3.out.block⟩) (fun _ _ e => e)); have X3 : Hid (w3.heap[rb]? = some (.cells #[.int .i64 (xn : Int), .string xb, .bool xd] 66 (0, 0))) := (B3.out.block rb hrb).trans X2.out; have KS : Hid (w3.cell? ⟨b, 0, none⟩ = some (.int .i64 l.epoch) ∧ w3.cell? ⟨b, 1, none⟩ = some (.int .i64 l.peer) ∧ w3.cell? ⟨b, 2, none⟩ = some (.int .i64 l.taken) ∧ w3.cell? ⟨rb, 0, none⟩ = some (.int .i64 (xn : Int)) ∧ w3.cell? ⟨rb, 1, none⟩ = some (.string xb)) := ⟨P3.out.c.1, P3.out.c.2.1, P3.out.c.2.2.1, box_cell X3.out 0 rfl, box_cell X3.out 1 rfl⟩; have KA : Hid (∀ o : Obj, (w3.alloc o).cell? ⟨b, 0, none⟩ = some (.int .i64 l.epoch) ∧ (w3.alloc o).cell? ⟨b, 1, none⟩ = some (.int .i64 l.peer) ∧ (w3.alloc o).cell? ⟨b, 2, none⟩ = some (.int .i64 l.taken) ∧ (w3.alloc o).cell? ⟨rb, 0, none⟩ = some (.int .i64 (xn : Int)) ∧ (w3.alloc o).cell? ⟨rb, 1, none⟩ = some (.string xb)) := fun o => ⟨box_cell (box_alloc P3.out.box o) 0 rfl, box_cell (box_alloc P3.out.box o) 1 rfl, box_cell (box_alloc P3.out.box o) 2 rfl, box_cell (box_alloc X3.out o) 0 rfl, box_cell (box_alloc X3.out o) 1 rfl⟩)
        | (refine step_append_lies _ (by rfl) _ _ _ (by rfl) w.heap.size 31 i0 _ 5 48 Try.underlying38 hi0 hz0 hz1 hz2 rfl (by omega) (.slice (some ⟨gg, 0, none⟩) k oc) k (frCells ((D.take k).map (WT.fr l))) (by rfl) ((below_row (w := w2) (w1 := w3) ⟨B3.out.os, B3.out.tape, B3.out.output, B3.out.size, B3.out.block⟩ O2.out).alloc _) ⟨w3.heap.size, 0, none⟩ 1 1 [.int .i64 l.epoch, .int .i64 l.peer, .int .i64 (xn : Int), .int .i64 l.taken, .string xb] (by rfl) (by rfl) (World.news_of_block (cs := #[.int .i64 l.epoch, .int .i64 l.peer, .int .i64 (xn : Int), .int .i64 l.taken, .string xb]) (t := 31) (fr := (0, 0)) (heap_alloc_new w3 _)) (by simp [Value.oneCell']) (by omega) (by unfold maxLen; omega) (by omega) (by have h5 := B2.out.size; have h6 := B3.out.size; have h7 : w2.drew.heap.size = w2.heap.size := rfl; simp; omega) (w3.heap.size + 1) (by simp) ?_; intro g4 cap4 w4 hown4 hgrow4 hat4 hlt4; have B4 := hide (((B2.out.trans (Below.mono (⟨B3.out.os, B3.out.tape, B3.out.output, B3.out.size, B3.out.block⟩ : Below w2.heap.size w2 w3) B2.out.size)).alloc (by have h5 := B2.out.size; have h6 := B3.out.size; have h7 : w2.drew.heap.size = w2.heap.size := rfl; omega) (.cells #[.int .i64 l.epoch, .int .i64 l.peer, .int .i64 (xn : Int), .int .i64 l.taken, .string xb] 31)).grown hgrow4 (by have h5 := B2.out.size; have h6 := B3.out.size; have h7 : w2.drew.heap.size = w2.heap.size := rfl; simp; omega) (fun j hj => (O2.out.lt j hj).1)); have KG : Hid (w4.cell? ⟨b, 0, none⟩ = some (.int .i64 l.epoch) ∧ w4.cell? ⟨b, 1, none⟩ = some (.int .i64 l.peer) ∧ w4.cell? ⟨b, 2, none⟩ = some (.int .i64 l.taken) ∧ w4.cell? ⟨rb, 0, none⟩ = some (.int .i64 (xn : Int)) ∧ w4.cell? ⟨rb, 1, none⟩ = some (.string xb)) := ⟨box_cell (grown_at hgrow4 (box_alloc P3.out.box _) hnb) 0 rfl, box_cell (grown_at hgrow4 (box_alloc P3.out.box _) hnb) 1 rfl, box_cell (grown_at hgrow4 (box_alloc P3.out.box _) hnb) 2 rfl, box_cell (grown_at hgrow4 (box_alloc X3.out _) hnr) 0 rfl, box_cell (grown_at hgrow4 (box_alloc X3.out _) hnr) 1 rfl⟩))
      all_goals (
        go_wp2
        refine ⟨⟨k + 1, _, _, by omega, by go_num, rfl, ?_, B4.out⟩, by simp [intOf]; omega⟩
        rw [HT.out, frCells_snoc]
        exact hown4)
    · have hj1 : ¬ (k : Int) < (D.length : Int) := by omega
      obtain rfl : k = D.length := by omega
      have O2 := OV.out
      rw [List.take_length] at O2
      have O3 := hide O2
      clear O2
      go_wp2
      go_ret
      exact ⟨_, _, rfl, O3.out, BV.out⟩
end Go.Proofs.Ythgfijmpofbchaa
