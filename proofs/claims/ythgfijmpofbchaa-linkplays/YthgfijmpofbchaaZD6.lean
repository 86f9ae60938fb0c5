/-
  The program's underWay, resend, Tick, as they run.
-/
import Derived.Test.YthgfijmpofbchaaZGP
import Derived.Lib.QuietBelow
import Derived.BigQuiet
namespace Go.Proofs.Ythgfijmpofbchaa
open Go.RowKit

/-- What waits, of which the first k are due again. -/
def again (f d k : Nat) (r : List ByteArray) : List WT := waitsOf f 0 (r.take k) ++ (waitsOf f d r).drop k
theorem again_zero (f d : Nat) (r : List ByteArray) : again f d 0 r = waitsOf f d r := by simp [again, waitsOf]
theorem again_all (f d : Nat) (r : List ByteArray) : again f d r.length r = waitsOf f 0 r := by
  unfold again
  rw [List.take_length, List.drop_eq_nil_of_le (by rw [waitsOf_length]; exact Nat.le_refl _), List.append_nil]
theorem again_length (f d k : Nat) (r : List ByteArray) (h : k ≤ r.length) : (again f d k r).length = r.length := by
  unfold again
  rw [List.length_append, waitsOf_length, List.length_drop, waitsOf_length, List.length_take]
  omega
theorem again_step (f d k : Nat) (r : List ByteArray) (h : k < r.length) : (wtCells (again f d k r)).set (k * 3 + 2) (.bool true) = wtCells (again f d (k + 1) r) := by
  have h1 : (waitsOf f 0 (r.take k)).length = k := by rw [waitsOf_length, List.length_take]; omega
  have hlt : k < (waitsOf f d r).length := by rw [waitsOf_length]; exact h
  have h2 : (waitsOf f d r).drop k = ⟨f + k, r[k], decide (d ≤ k)⟩ :: (waitsOf f d r).drop (k + 1) := by
    rw [List.drop_eq_getElem_cons hlt]
    congr 1
    have := waitsOf_get r k f d h
    rw [List.getElem?_eq_getElem hlt] at this
    exact Option.some.inj this
  have h3 : waitsOf f 0 (r.take (k + 1)) = waitsOf f 0 (r.take k) ++ [⟨f + k, r[k], true⟩] := by
    rw [List.take_add_one, List.getElem?_eq_getElem h, waitsOf_append]
    congr 1
    rw [List.length_take, Nat.min_eq_left (by omega), Nat.zero_sub]
    rfl
  unfold again
  rw [h2, h3, List.append_assoc, wtCells_append, wtCells_append, List.set_append_right _ _ (by rw [wtCells_length, h1]; omega), wtCells_length, h1]
  congr 1
  have e2 : ∀ (x : WT) (t : List WT), wtCells (x :: t) = x.cells ++ wtCells t := fun x t => by simp [wtCells]
  rw [e2, show k * 3 + 2 - k * 3 = 2 by omega]
  simp only [List.singleton_append]
  rw [e2]
  rfl
section
variable {w : World} {b : Nat} {v : Value} {l : LK}
set_option maxHeartbeats 2000000 in
set_option maxRecDepth 100000 in
theorem punder (h : PL w b v l) : Calls Try.prog 28 #[.pointer (some ⟨b, 0, none⟩)] w fun e w' => e = .returned (.bool (decide (l.out ≠ 0))) ∧ Below w.heap.size w w' := by
  obtain ⟨ao, cp, rfl⟩ := h.row.slice
  obtain ⟨_, _, _, _, c4, c5, _⟩ := h.c
  have hout := h.ok.outw
  have hfst := h.ok.first
  by_cases hw : 0 < l.wait.length
  · obtain ⟨g, off, rfl, hgb, hgl, a0, a1, _, _⟩ := h.at 0 hw
    clear a1
    simp only [Nat.zero_mul, Nat.add_zero] at a0
    have hx : decide (l.out ≠ 0) = decide (l.first ≤ l.first - 1 + l.out) := decide_eq_decide.2 (by omega)
    rw [hx]
    generalize (l.first - 1 + l.out : Nat) = pu at *
    obtain ⟨n, hn⟩ : ∃ n, l.wait.length = n + 1 := ⟨l.wait.length - 1, by omega⟩
    rw [hn] at c5
    have hn0 : (0 : Int) < (n : Int) + 1 := by omega
    have hn1 : decide ((0 : Int) < (n : Int) + 1) = true := decide_eq_true hn0
    clear h hout hw hn
    go_enter Try.func28, Try.ntmps28
    go_wp2_with fail
    have d_a0 := cell_regrown a0
    have d_c4 := cell_regrown c4
    have d_c5 := cell_regrown c5
    refine wp_region_quiet_below (by kernel_rfl) (by kernel_rfl) ?_
    repeat (go_big_quiet_step (first | fail))
    refine wpQuiet_nil ?_
    intro _ hw'
    obtain ⟨⟨dq, osq⟩, hw''⟩ := hw'
    subst hw''
    have B4 := hide (below_regrown w dq osq)
    generalize Go.Sort.grow (redrawn w dq) osq = w4 at *
    go_wp2
    go_ret
    exact ⟨rfl, B4.out⟩
  · have ho : decide (l.out ≠ 0) = false := decide_eq_false (by omega)
    rw [ho]
    obtain hn : l.wait.length = 0 := by omega
    rw [hn] at c5
    clear h hout hw
    go_enter Try.func28, Try.ntmps28
    go_wp2_with fail
    have d_c5 := cell_regrown c5
    refine wp_region_quiet_below (by kernel_rfl) (by kernel_rfl) ?_
    repeat (go_big_quiet_step (first | fail))
    refine wpQuiet_nil ?_
    intro _ hw'
    obtain ⟨⟨dq, osq⟩, hw''⟩ := hw'
    subst hw''
    have B4 := hide (below_regrown w dq osq)
    generalize Go.Sort.grow (redrawn w dq) osq = w4 at *
    go_wp2
    go_ret
    exact ⟨rfl, B4.out⟩
/-- On the way through resend. -/
structure Res (w w' : World) (b g off cp : Nat) (l : LK) (T : Int) (k : Nat) : Prop where
  box : w'.heap[b]? = some (.cells ((pCells l (.slice (some ⟨g, off, none⟩) l.wait.length cp)).setIfInBounds 6 (.int .i64 T)) 62 (0, 0))
  row : OwnsQ w' 66 3 (.slice (some ⟨g, off, none⟩) l.wait.length cp) l.wait.length (wtCells (again l.first l.due k l.wait))
  touch : Touch (pown b (.slice (some ⟨g, off, none⟩) l.wait.length cp)) w w'
theorem Res.step {w w' : World} {b g off cp k : Nat} {l : LK} {T : Int} (h : Res w w' b g off cp l T k) (hgb : g ≠ b) (hk : k < l.wait.length) : Res w (w'.setCell ⟨g, off + k * 3 + 2, none⟩ (.bool true)) b g off cp l T (k + 1) := by
  refine ⟨box_apart h.box (Ne.symm hgb) _ _, ?_, h.touch.setCell _ _ fun _ => .inr rfl⟩
  have h1 := h.row.putCell (k * 3 + 2) (by omega) (.bool true)
  rw [again_step _ _ _ _ hk, ← Nat.add_assoc] at h1
  exact h1
set_option maxHeartbeats 4000000 in
set_option maxRecDepth 100000 in
theorem presend (h : PL w b v l) (hw : l.out ≠ 0) (T : Int) : Calls Try.prog 29 #[.pointer (some ⟨b, 0, none⟩)] (w.setCell ⟨b, 6, none⟩ (.int .i64 T)) fun e w' => e = .returned (.tuple #[]) ∧ PL w' b v { l with ticks := 0, due := 0 } ∧ Touch (pown b v) w w' := by
  obtain ⟨ao, cp, rfl⟩ := h.row.slice
  have hwl : 0 < l.wait.length := by have := h.ok.outw; omega
  obtain ⟨g, off, rfl, hgb, hgl, _, _, _, _⟩ := h.at 0 hwl
  have hm := h.ok.most
  have R0 : Hid (Res w (w.setCell ⟨b, 6, none⟩ (.int .i64 T)) b g off cp l T 0) := ⟨box_set h.box 6 _, by rw [again_zero]; exact h.row.set b 6 _ h.ne, (Touch.refl _ w).setCell _ _ fun _ => .inl rfl⟩
  generalize w.setCell ⟨b, 6, none⟩ (.int .i64 T) = w0 at *
  have c5 := box_cell R0.out.box 5 rfl
  have HOK : Hid (({ l with ticks := 0, due := 0 } : LK).ok) := ⟨h.ok.epoch, h.ok.peer, h.ok.most, h.ok.first, h.ok.outw, h.ok.win, Nat.zero_le _, h.ok.taken, Nat.zero_le _, h.ok.small⟩
  have hne := hide h.ne
  clear h
  go_enter Try.func29, Try.ntmps29
  go_wp2
  go_loopw [8] (fun iv wv => ∃ (k : Nat), k ≤ l.wait.length ∧ iv = .int .i64 k ∧ Hid (Res w wv b g off cp l T k)) (fun iv _ => l.wait.length - (intOf iv).toNat)
  case atStart => exact ⟨0, Nat.zero_le _, rfl, R0⟩
  case round =>
    obtain ⟨k, hk, rfl, RV⟩ := hrel
    by_cases hlt : k < l.wait.length
    · have hj0 : (0 : Int) ≤ (k : Int) := by omega
      have hj1 : (k : Int) < (l.wait.length : Int) := by omega
      have q5 := box_cell RV.out.box 5 rfl
      have RS := hide (RV.out.step hgb hlt)
      obtain ⟨off2, ha, hcc, hff⟩ := RV.out.row.cell
      injection ha with _ ha _
      subst ha
      have a2 := hcc (k * 3 + 2) (by omega)
      have fa := hff (off + (k * 3 + 2))
      rw [← Nat.add_assoc] at a2 fa
      rw [List.getElem?_eq_getElem (by rw [wtCells_length, again_length _ _ _ _ hk]; omega)] at a2
      generalize (wtCells (again l.first l.due k l.wait))[k * 3 + 2]'_ = old at a2
      clear hcc hff
      go_wp2
      exact ⟨⟨k + 1, by omega, by go_num, RS⟩, by simp [intOf]; omega⟩
    · have hj1 : ¬ (k : Int) < (l.wait.length : Int) := by omega
      obtain rfl : k = l.wait.length := by omega
      have q6 := box_cell RV.out.box 6 rfl
      have f6 := box_free RV.out.box 6
      go_wp2
      go_end0
      refine ⟨rfl, ⟨HOK.out, fun _ => rfl, ?_, ?_⟩, RV.out.touch.setCell _ _ fun _ => .inl rfl⟩
      · exact box_set RV.out.box 6 (.int .i64 0)
      · have h1 := RV.out.row.set b 6 (.int .i64 0) hne.out
        rw [again_all] at h1
        exact h1
set_option maxHeartbeats 4000000 in
theorem ptick (h : PL w b v l) : Calls Try.prog 14 #[.pointer (some ⟨b, 0, none⟩)] w fun e w' => e = .returned (.tuple #[]) ∧ PL w' b v l.tick ∧ Touch (pown b v) w w' := by
  have HK := hide (pknows h)
  have ht2 := h.ok.ticks
  by_cases e1 : l.peer = 0
  · rw [decide_eq_false (fun x => x e1)] at HK
    by_cases e2 : l.out = 0
    · have hT : l.tick = { l with owes := true } := by unfold LK.tick; simp [e1, e2]
      rw [hT]
      have P0 : Hid (PL (w.setCell ⟨b, 7, none⟩ (.bool true)) b v { l with owes := true }) := h.boxed (h.ok.owes true) h.tk rfl rfl rfl ((Touch.refl _ w).setCell _ _ fun _ => rfl) (box_set h.box 7 (.bool true))
      have T0 : Hid (Touch (pown b v) w (w.setCell ⟨b, 7, none⟩ (.bool true))) := (Touch.refl _ w).setCell _ _ fun _ => .inl rfl
      have HU := hide (punder P0.out)
      rw [show decide (({ l with owes := true } : LK).out ≠ 0) = false from decide_eq_false (fun x => x e2)] at HU
      have f7 := h.f 7
      have c7 := h.c.2.2.2.2.2.2.2
      clear h hT e1 e2
      go_enter Try.func14, Try.ntmps14
      go_wp2_with fail
      refine HK.out.mono ?_
      rintro e w' ⟨rfl, hw'⟩
      obtain rfl := hw'.symm
      go_wp2_with fail
      refine HU.out.mono ?_
      rintro e w2 ⟨rfl, b2⟩
      have P2 := hide (P0.out.below b2)
      have T2 := hide (T0.out.below b2)
      clear b2
      go_wp2
      ((try simp only [Exit.inBlock, Exit.then]); refine bodyPost_ret (results_none rfl _ _ _) rfl ?_)
      exact ⟨rfl, P2.out, T2.out⟩
    · have E2 := hide e2
      by_cases e3 : l.ticks + 1 = 3
      · have hT : l.tick = { { l with owes := true } with ticks := 0, due := 0 } := by unfold LK.tick; simp [e1, e2, e3]
        rw [hT]
        have P0 : Hid (PL (w.setCell ⟨b, 7, none⟩ (.bool true)) b v { l with owes := true }) := h.boxed (h.ok.owes true) h.tk rfl rfl rfl ((Touch.refl _ w).setCell _ _ fun _ => rfl) (box_set h.box 7 (.bool true))
        have T0 : Hid (Touch (pown b v) w (w.setCell ⟨b, 7, none⟩ (.bool true))) := (Touch.refl _ w).setCell _ _ fun _ => .inl rfl
        have HU := hide (punder P0.out)
        rw [show decide (({ l with owes := true } : LK).out ≠ 0) = true from decide_eq_true e2] at HU
        have f7 := h.f 7
        have c7 := h.c.2.2.2.2.2.2.2
        obtain e4 : l.ticks = 2 := by omega
        have E4 := hide e4
        clear e4
        clear h hT e1 e2
        go_enter Try.func14, Try.ntmps14
        go_wp2_with fail
        refine HK.out.mono ?_
        rintro e w' ⟨rfl, hw'⟩
        obtain rfl := hw'.symm
        go_wp2_with fail
        refine HU.out.mono ?_
        rintro e w2 ⟨rfl, b2⟩
        have P2 := hide (P0.out.below b2)
        have T2 := hide (T0.out.below b2)
        clear b2
        obtain ⟨_, _, _, _, _, _, d6, _⟩ := P2.out.c
        have fd6 := P2.out.f 6
        rw [show (({ l with owes := true } : LK).ticks : Int) = 2 by rw [E4.out]; rfl] at d6
        go_wp2_with fail
        refine (presend P2.out E2.out 3).mono ?_
        rintro e w3 ⟨rfl, p3, t3⟩
        have P3 := hide p3
        have T3 := hide (T2.out.andThen t3 fun _ _ e => e)
        clear p3 t3
        go_wp2
        go_end0
        exact ⟨rfl, P3.out, T3.out⟩
      · have hT : l.tick = { { l with owes := true } with ticks := l.ticks + 1 } := by unfold LK.tick; simp [e1, e2, e3]
        rw [hT]
        have P0 : Hid (PL (w.setCell ⟨b, 7, none⟩ (.bool true)) b v { l with owes := true }) := h.boxed (h.ok.owes true) h.tk rfl rfl rfl ((Touch.refl _ w).setCell _ _ fun _ => rfl) (box_set h.box 7 (.bool true))
        have T0 : Hid (Touch (pown b v) w (w.setCell ⟨b, 7, none⟩ (.bool true))) := (Touch.refl _ w).setCell _ _ fun _ => .inl rfl
        have HU := hide (punder P0.out)
        rw [show decide (({ l with owes := true } : LK).out ≠ 0) = true from decide_eq_true e2] at HU
        have f7 := h.f 7
        have c7 := h.c.2.2.2.2.2.2.2
        have g3 : (((l.ticks : Nat) : Int) + 1 == 3) = false := by rw [beq_eq_false_iff_ne]; omega
        clear h hT e1 e2
        go_enter Try.func14, Try.ntmps14
        go_wp2_with fail
        refine HK.out.mono ?_
        rintro e w' ⟨rfl, hw'⟩
        obtain rfl := hw'.symm
        go_wp2_with fail
        refine HU.out.mono ?_
        rintro e w2 ⟨rfl, b2⟩
        have P2 := hide (P0.out.below b2)
        have T2 := hide (T0.out.below b2)
        clear b2
        obtain ⟨_, _, _, _, _, _, d6, _⟩ := P2.out.c
        have fd6 := P2.out.f 6
        go_wp2
        go_end0
        refine ⟨rfl, P2.out.boxed (l' := { { l with owes := true } with ticks := l.ticks + 1 }) ?_ (fun x => absurd x E2.out) rfl rfl rfl ((Touch.refl _ w2).setCell _ _ fun _ => rfl) (box_set P2.out.box 6 (.int .i64 ((l.ticks : Int) + 1))), T2.out.setCell _ _ fun _ => .inl rfl⟩
        have k := P2.out.ok
        exact ⟨k.epoch, k.peer, k.most, k.first, k.outw, k.win, k.due, k.taken, by show l.ticks + 1 ≤ 2; omega, k.small⟩
  · rw [decide_eq_true e1] at HK
    by_cases e2 : l.out = 0
    · have hT : l.tick = l := by unfold LK.tick; simp [e1, e2]
      rw [hT]
      have P0 : Hid (PL w b v l) := h
      have T0 : Hid (Touch (pown b v) w w) := Touch.refl _ w
      have HU := hide (punder P0.out)
      rw [show decide (l.out ≠ 0) = false from decide_eq_false (fun x => x e2)] at HU
      have f7 := h.f 7
      have c7 := h.c.2.2.2.2.2.2.2
      clear h hT e1 e2
      go_enter Try.func14, Try.ntmps14
      go_wp2_with fail
      refine HK.out.mono ?_
      rintro e w' ⟨rfl, hw'⟩
      obtain rfl := hw'.symm
      go_wp2_with fail
      refine HU.out.mono ?_
      rintro e w2 ⟨rfl, b2⟩
      have P2 := hide (P0.out.below b2)
      have T2 := hide (T0.out.below b2)
      clear b2
      go_wp2
      ((try simp only [Exit.inBlock, Exit.then]); refine bodyPost_ret (results_none rfl _ _ _) rfl ?_)
      exact ⟨rfl, P2.out, T2.out⟩
    · have E2 := hide e2
      by_cases e3 : l.ticks + 1 = 3
      · have hT : l.tick = { l with ticks := 0, due := 0 } := by unfold LK.tick; simp [e1, e2, e3]
        rw [hT]
        have P0 : Hid (PL w b v l) := h
        have T0 : Hid (Touch (pown b v) w w) := Touch.refl _ w
        have HU := hide (punder P0.out)
        rw [show decide (l.out ≠ 0) = true from decide_eq_true e2] at HU
        have f7 := h.f 7
        have c7 := h.c.2.2.2.2.2.2.2
        obtain e4 : l.ticks = 2 := by omega
        have E4 := hide e4
        clear e4
        clear h hT e1 e2
        go_enter Try.func14, Try.ntmps14
        go_wp2_with fail
        refine HK.out.mono ?_
        rintro e w' ⟨rfl, hw'⟩
        obtain rfl := hw'.symm
        go_wp2_with fail
        refine HU.out.mono ?_
        rintro e w2 ⟨rfl, b2⟩
        have P2 := hide (P0.out.below b2)
        have T2 := hide (T0.out.below b2)
        clear b2
        obtain ⟨_, _, _, _, _, _, d6, _⟩ := P2.out.c
        have fd6 := P2.out.f 6
        rw [E4.out] at d6
        go_wp2_with fail
        refine (presend P2.out E2.out 3).mono ?_
        rintro e w3 ⟨rfl, p3, t3⟩
        have P3 := hide p3
        have T3 := hide (T2.out.andThen t3 fun _ _ e => e)
        clear p3 t3
        go_wp2
        go_end0
        exact ⟨rfl, P3.out, T3.out⟩
      · have hT : l.tick = { l with ticks := l.ticks + 1 } := by unfold LK.tick; simp [e1, e2, e3]
        rw [hT]
        have P0 : Hid (PL w b v l) := h
        have T0 : Hid (Touch (pown b v) w w) := Touch.refl _ w
        have HU := hide (punder P0.out)
        rw [show decide (l.out ≠ 0) = true from decide_eq_true e2] at HU
        have f7 := h.f 7
        have c7 := h.c.2.2.2.2.2.2.2
        have g3 : (((l.ticks : Nat) : Int) + 1 == 3) = false := by rw [beq_eq_false_iff_ne]; omega
        clear h hT e1 e2
        go_enter Try.func14, Try.ntmps14
        go_wp2_with fail
        refine HK.out.mono ?_
        rintro e w' ⟨rfl, hw'⟩
        obtain rfl := hw'.symm
        go_wp2_with fail
        refine HU.out.mono ?_
        rintro e w2 ⟨rfl, b2⟩
        have P2 := hide (P0.out.below b2)
        have T2 := hide (T0.out.below b2)
        clear b2
        obtain ⟨_, _, _, _, _, _, d6, _⟩ := P2.out.c
        have fd6 := P2.out.f 6
        go_wp2
        go_end0
        refine ⟨rfl, P2.out.boxed (l' := { l with ticks := l.ticks + 1 }) ?_ (fun x => absurd x E2.out) rfl rfl rfl ((Touch.refl _ w2).setCell _ _ fun _ => rfl) (box_set P2.out.box 6 (.int .i64 ((l.ticks : Int) + 1))), T2.out.setCell _ _ fun _ => .inl rfl⟩
        have k := P2.out.ok
        exact ⟨k.epoch, k.peer, k.most, k.first, k.outw, k.win, k.due, k.taken, by show l.ticks + 1 ≤ 2; omega, k.small⟩
end
end Go.Proofs.Ythgfijmpofbchaa
