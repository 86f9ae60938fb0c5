/-
  The program's Out, as it runs.
-/
import Derived.Test.YthgfijmpofbchaaZGP
namespace Go.Proofs.Ythgfijmpofbchaa
open Go.RowKit

theorem row_base {w : World} {B B' : Nat} {e : TypeId} {z : Nat} {v : Value} {n : Nat} {xs : List Value} (h : w.ownsRow B e z v n xs) (hB : B' ≤ B) : w.ownsRow B' e z v n xs := by
  refine ⟨h.1, ?_⟩
  rcases h.2 with h2 | ⟨g, cap, cur, hv, hg, r⟩
  · exact .inl h2
  · exact .inr ⟨g, cap, cur, hv, Nat.le_trans hB hg, r⟩
section
variable {l : LK}
theorem put_eq (h : l.ok) (htk : l.out = 0 → l.ticks = 0) : l.put = { l.putD with owes := false } := by
  unfold LK.put LK.putD
  by_cases c1 : l.peer = 0
  · rw [if_pos (.inl c1), if_pos c1]
  · rw [if_neg c1]
    unfold LK.mid
    by_cases c2 : l.top ≤ l.due
    · rw [if_pos (.inr c2), if_pos c2]
    · rw [if_neg (by rintro (e | e); exact c1 e; exact c2 e), if_neg c2]
      have e1 : max l.out l.top = l.top := by have := h.outw; have := h.win; unfold LK.top; omega
      have e2 : (if l.out = 0 then 0 else l.ticks) = l.ticks := by split; (rename_i e; exact (htk e).symm); rfl
      rw [e1, e2]
theorem dueL_fr : l.dueL.map (WT.fr l) = l.frames := by
  unfold LK.dueL LK.frames
  by_cases c1 : l.peer = 0
  · rw [if_pos c1, if_pos c1]; rfl
  · rw [if_neg c1, if_neg c1]
    have hlen : (l.dues l.top).length = l.top - l.due := dues_length (by unfold LK.top; omega)
    refine List.ext_getElem? fun i => ?_
    by_cases hi : i < l.top - l.due
    · rw [List.getElem?_map, List.getElem?_map, List.getElem?_range hi]
      have h2 : i < ((l.wait.take l.top).drop l.due).length := by
        unfold LK.dues at hlen; rw [waitsOf_length] at hlen; omega
      unfold LK.dues
      rw [waitsOf_get _ _ _ _ h2]
      have h3 : l.due + i < l.wait.length := by unfold LK.top at hi; omega
      simp only [Option.map_some, WT.fr, LK.frame, List.getElem_drop, List.getElem_take]
      rw [List.getD_eq_getElem?_getD, List.getElem?_eq_getElem h3]
      congr 2
      omega
    · rw [List.getElem?_eq_none (by rw [List.length_map, hlen]; omega), List.getElem?_eq_none (by rw [List.length_map, List.length_range]; omega)]
theorem dueL_len : l.dueL.length ≤ 8 := by
  unfold LK.dueL
  split
  · exact Nat.zero_le _
  · rw [dues_length (by unfold LK.top; omega)]; unfold LK.top; omega
theorem dueL_small (h : l.ok) : ∀ x ∈ l.dueL, x.body.size ≤ 100000 := by
  intro x hx
  have h1 : WT.fr l x ∈ l.frames := by rw [← dueL_fr]; exact List.mem_map_of_mem hx
  obtain ⟨_, k, hk, _, e⟩ := mem_frames h1
  have e2 : x.body = l.wait.getD k ⟨#[]⟩ := congrArg FR.body e
  have hk2 : k < l.wait.length := by unfold LK.top at hk; omega
  rw [e2, List.getD_eq_getElem?_getD, List.getElem?_eq_getElem hk2]
  exact h.small _ (List.getElem_mem hk2)
theorem putD_same : l.putD.epoch = l.epoch ∧ l.putD.peer = l.peer ∧ l.putD.taken = l.taken ∧ l.putD.owes = l.owes := by
  unfold LK.putD LK.mid
  split
  · exact ⟨rfl, rfl, rfl, rfl⟩
  · split <;> exact ⟨rfl, rfl, rfl, rfl⟩
end
theorem frames_nil {l : LK} (h : l.dueL = []) : l.frames = [] := by rw [← dueL_fr, h]; rfl
section
variable {w : World} {b : Nat} {v : Value} {l : LK}
theorem PL.owe (h : PL w b v l) (x : Bool) : PL (w.setCell ⟨b, 7, none⟩ (.bool x)) b v { l with owes := x } :=
  h.boxed (h.ok.owes x) h.tk rfl rfl rfl ((Touch.refl _ w).setCell _ _ fun _ => rfl) (box_set h.box 7 (.bool x))
/-- What Out is behind what is due. -/
structure Gave (w w' : World) (b : Nat) (v : Value) (l : LK) (ov : Value) (fs : List FR) : Prop where
  link : PL w' b v l
  touch : Touch (pown b v) w w'
  row : w'.ownsRow w.heap.size 31 5 ov fs.length (frCells fs)
set_option maxHeartbeats 4000000 in
theorem pout (h : PL w b v l) : Calls Try.prog 12 #[.pointer (some ⟨b, 0, none⟩)] w fun e w' => ∃ gg oc, e = .returned (.slice (some ⟨gg, 0, none⟩) l.outs.length oc) ∧ Gave w w' b v l.put (.slice (some ⟨gg, 0, none⟩) l.outs.length oc) l.outs := by
  have HP := hide (pputOut h)
  have HE := hide (put_eq h.ok h.tk)
  have HL := hide (dueL_len (l := l))
  have HS := hide (dueL_small h.ok)
  obtain ⟨i0, hi0, hz0, hz1, hz2⟩ := info_parts infoWT
  have HFR := hide (dueL_fr (l := l))
  obtain ⟨s1, s2, s3, s4⟩ := putD_same (l := l)
  have HLT : Hid (∀ j, pown b v j → j < w.heap.size) := fun j e => h.lt e
  have HW : Hid (∀ x, WT.fr { l.putD with owes := false } x = WT.fr l x) := fun x => by simp only [WT.fr, s1, s2, s3]
  have HOWES := hide s4
  clear s1 s2 s3 s4 h
  by_cases hd : l.dueL = []
  · have hf := frames_nil hd
    rw [hd] at HP
    by_cases how : l.owes = true
    · have e1 : l.outs = [l.bare] := by unfold LK.outs; rw [if_pos ⟨hf, how⟩]
      rw [e1]
      have HB : Hid ([l.bare] = [(⟨0, ⟨#[]⟩, false⟩ : WT)].map (WT.fr l)) := rfl
      rw [HB.out]
      rw [how] at HOWES
      clear e1 hf hd how
      go_enter Try.func12, Try.ntmps12
      go_wp2_with fail
      refine HP.out.mono ?_
      rintro e w1 ⟨oo, oc, rfl, p1, t1, o1⟩
      have P1 := hide p1
      have T1 := hide t1
      have O1 := hide o1
      have c7 := p1.c.2.2.2.2.2.2.2
      rw [HOWES.out] at c7
      clear p1 t1 o1 HP
      simp only [List.length_nil] at O1 ⊢
      go_wp2_with (at_builtin; refine wpList_append_own _ rfl _ _ 60 rfl w.heap.size 66 i0 _ 3 32 Try.underlying60 hi0 hz0 hz1 hz2 rfl (by decide) (.slice oo 0 oc) 0 (wtCells []) rfl (O1.out.alloc _) ⟨w1.heap.size, 0, none⟩ 1 1 [.int .i64 0, .string ⟨#[]⟩, .bool false] rfl rfl (World.news_of_block (cs := #[.int .i64 0, .string ⟨#[]⟩, .bool false]) (t := 66) (fr := (0, 0)) (heap_alloc_new w1 _)) (by simp [Value.oneCell']) (by unfold maxLen; omega) (by omega) (by have := T1.out.size; simp; omega) ?_; intro v4 w4 hown hgrow _; obtain ⟨oo4, oc4, rfl⟩ := row_slice hown; have P4 := hide (P1.out.grown hgrow (fun j e e2 => by have h1 := (O1.out.lt j e).1; have h2 := HLT.out j e2; omega)); have T4 : Hid (Touch (pown b v) w w4) := (T1.out.alloc _).grown hgrow (fun j e hj => by have h1 := (O1.out.lt j e).1; omega); obtain ⟨_, _, _, _, _, _, _, d7⟩ := P4.out.c; have fd7 := P4.out.f 7)
      have PO := hide (P4.out.owe false)
      have TO : Hid (Touch (pown b v) w (w4.setCell ⟨b, 7, none⟩ (.bool false))) := T4.out.setCell _ _ fun _ => .inl rfl
      have OO : Hid ((w4.setCell ⟨b, 7, none⟩ (.bool false)).ownsRow w.heap.size 66 3 (.slice oo4 ([(⟨0, ⟨#[]⟩, false⟩ : WT)]).length oc4) ([(⟨0, ⟨#[]⟩, false⟩ : WT)]).length (wtCells ([(⟨0, ⟨#[]⟩, false⟩ : WT)]))) := set_row (hown) b _ _ (fun e => by
        have h1 := (World.ownsRow.lt (hown) b e).1
        have h2 := HLT.out b (.inl rfl)
        omega)
      refine (pframes PO.out w.heap.size oo4 oc4 ([(⟨0, ⟨#[]⟩, false⟩ : WT)]) (by decide) (fun x hx => by rw [List.mem_singleton.1 hx]; decide) OO.out).mono ?_
      rintro e w5 ⟨o5, c5, rfl, r5, b5⟩
      go_wp2
      go_ret
      have r6 := row_base (B' := w.heap.size) r5 (by have := TO.out.size; exact this)
      rw [List.map_congr_left (fun x _ => HW.out x)] at r6
      rw [HE.out]
      exact ⟨o5, c5, rfl, PO.out.below b5, TO.out.below b5, by rw [List.length_map]; exact r6⟩
    · have e1 : l.outs = l.dueL.map (WT.fr l) := by unfold LK.outs; rw [if_neg (fun e => how e.2), HFR.out]
      rw [e1, hd]
      rw [show l.owes = false by simpa using how] at HOWES
      clear e1 hf hd how
      go_enter Try.func12, Try.ntmps12
      go_wp2_with fail
      refine HP.out.mono ?_
      rintro e w1 ⟨oo, oc, rfl, p1, t1, o1⟩
      have P1 := hide p1
      have T1 := hide t1
      have O1 := hide o1
      have c7 := p1.c.2.2.2.2.2.2.2
      have f7 := p1.f 7
      rw [HOWES.out] at c7
      clear p1 t1 o1 HP
      simp only [List.length_nil] at O1 ⊢
      go_wp2_with fail
      have PO := hide (P1.out.owe false)
      have TO : Hid (Touch (pown b v) w (w1.setCell ⟨b, 7, none⟩ (.bool false))) := T1.out.setCell _ _ fun _ => .inl rfl
      have OO : Hid ((w1.setCell ⟨b, 7, none⟩ (.bool false)).ownsRow w.heap.size 66 3 (.slice oo ([] : List WT).length oc) ([] : List WT).length (wtCells ([] : List WT))) := set_row (O1.out) b _ _ (fun e => by
        have h1 := (World.ownsRow.lt (O1.out) b e).1
        have h2 := HLT.out b (.inl rfl)
        omega)
      refine (pframes PO.out w.heap.size oo oc ([] : List WT) (by decide) (fun x hx => by cases hx) OO.out).mono ?_
      rintro e w5 ⟨o5, c5, rfl, r5, b5⟩
      go_wp2
      go_ret
      have r6 := row_base (B' := w.heap.size) r5 (by have := TO.out.size; exact this)
      rw [List.map_congr_left (fun x _ => HW.out x)] at r6
      rw [HE.out]
      exact ⟨o5, c5, rfl, PO.out.below b5, TO.out.below b5, by rw [List.length_map]; exact r6⟩
  · have e1 : l.outs = l.dueL.map (WT.fr l) := by
      unfold LK.outs
      rw [if_neg (fun e => hd (List.eq_nil_of_length_eq_zero (by have := congrArg List.length e.1; rw [← HFR.out, List.length_map] at this; exact this))), HFR.out]
    rw [e1]
    clear e1
    generalize l.dueL = D at *
    have hD0 : ((D.length : Int) == 0) = false := by
      rw [beq_eq_false_iff_ne]
      intro e
      exact hd (List.eq_nil_of_length_eq_zero (by omega))
    clear hd
    go_enter Try.func12, Try.ntmps12
    go_wp2_with fail
    refine HP.out.mono ?_
    rintro e w1 ⟨oo, oc, rfl, p1, t1, o1⟩
    have P1 := hide p1
    have T1 := hide t1
    have O1 := hide o1
    have c7 := p1.c.2.2.2.2.2.2.2
    have f7 := p1.f 7
    clear p1 t1 o1 HP
    go_wp2_with fail
    have PO := hide (P1.out.owe false)
    have TO : Hid (Touch (pown b v) w (w1.setCell ⟨b, 7, none⟩ (.bool false))) := T1.out.setCell _ _ fun _ => .inl rfl
    have OO : Hid ((w1.setCell ⟨b, 7, none⟩ (.bool false)).ownsRow w.heap.size 66 3 (.slice oo (D).length oc) (D).length (wtCells (D))) := set_row (O1.out) b _ _ (fun e => by
      have h1 := (World.ownsRow.lt (O1.out) b e).1
      have h2 := HLT.out b (.inl rfl)
      omega)
    refine (pframes PO.out w.heap.size oo oc (D) HL.out HS.out OO.out).mono ?_
    rintro e w5 ⟨o5, c5, rfl, r5, b5⟩
    go_wp2
    go_ret
    have r6 := row_base (B' := w.heap.size) r5 (by have := TO.out.size; exact this)
    rw [List.map_congr_left (fun x _ => HW.out x)] at r6
    rw [HE.out, List.length_map]
    exact ⟨o5, c5, rfl, PO.out.below b5, TO.out.below b5, by rw [List.length_map]; exact r6⟩
end
end Go.Proofs.Ythgfijmpofbchaa
