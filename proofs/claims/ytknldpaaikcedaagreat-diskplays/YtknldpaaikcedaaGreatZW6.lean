/-
  An act of the directory as it runs.
-/
import Derived.Test.YtknldpaaikcedaaGreatZW5
import Derived.Laws.EntriesVeiled
namespace Go.Proofs.YtknldpaaikcedaaGreat
open Go.RowKit Go.Maps

theorem infoName : (Tryz.prog.info? 93).map (fun i => (i.zero, i.size, i.bytes)) = some (some (.agg #[.nilFunc]), 1, 8) := by kernel_rfl
theorem dfn_enters (x : DA) : ∀ args w, (callFunc x.fn args).run Tryz.prog w = .ok (.enter x.fn args) w := by
  unfold DA.fn
  split
  · exact enters_of Tryz.func74 (by kernel_rfl) rfl
  · exact enters_of Tryz.func76 (by kernel_rfl) rfl
  · exact enters_of Tryz.func78 (by kernel_rfl) rfl
/-- An act's function, called with a map of names. -/
theorem do_dir2 (x : DA) (hx : x.kind ≤ 1) (mb n : Nat) (D : DataW Nat) (w : World) (hheld : x.held w) (hfit : x.fits D) (hn : n < maxLen) (hd : x.d ≠ mb) (hown : w.ownsMap Tryz.prog 9 ptrR mb n D) :
    Calls Tryz.prog x.fn #[.map (some mb), .pointer (some ⟨x.c, 0, none⟩), .pointer (some ⟨x.d, 0, none⟩)] w fun e w' => e = .returned (.tuple #[]) ∧ w'.ownsMap Tryz.prog 9 ptrR mb (n + 1) (x.run D) ∧ w.grownBy w' (some mb) := by
  obtain ⟨k, a, b, id, c, d⟩ := x
  match k, hx with
  | 0, _ => exact create_do mb n D c d id a w (box_cell hheld.1 0 rfl) (box_cell hheld.2.1 0 rfl) (by have h : a.size ≤ 40 := hheld.2.2; unfold maxLen; omega) hn hown
  | 1, _ =>
    have hf := hfit rfl
    obtain ⟨f, hf2⟩ : ∃ f, dget D a.data.toList = some f := Option.ne_none_iff_exists'.1 hf
    have h := rename_do mb n D c d f a b w (box_cell hheld.1 0 rfl) (box_cell hheld.2.1 0 rfl) (by have h : a.size ≤ 40 := hheld.2.2.1; unfold maxLen; omega) (by have h : b.size ≤ 40 := hheld.2.2.2; unfold maxLen; omega) hn hd hown hf2
    have e : (DA.mk 1 a b id c d).run D = dput (ddel D a.data.toList) b.data.toList f := by
      show (match dget D a.data.toList with | some f => dput (ddel D a.data.toList) b.data.toList f | none => D) = _
      rw [hf2]
    rw [e]
    exact h
theorem do_dir1 (x : DA) (hx : ¬ x.kind ≤ 1) (mb n : Nat) (D : DataW Nat) (w : World) (hheld : x.held w) (hown : w.ownsMap Tryz.prog 9 ptrR mb n D) :
    Calls Tryz.prog x.fn #[.map (some mb), .pointer (some ⟨x.c, 0, none⟩)] w fun e w' => e = .returned (.tuple #[]) ∧ w'.ownsMap Tryz.prog 9 ptrR mb (n + 1) (x.run D) ∧ w.grownBy w' (some mb) := by
  obtain ⟨k, a, b, id, c, d⟩ := x
  match k, hx with
  | 0, h => exact absurd (Nat.zero_le 1) h
  | 1, h => exact absurd (Nat.le_refl 1) h
  | k + 2, _ =>
    have h := remove_do mb n D c a w (box_cell hheld.1 0 rfl) (by have h : a.size ≤ 40 := hheld.2.2; unfold maxLen; omega) hown
    exact h.mono fun e w' ⟨h1, h2, h3⟩ => ⟨h1, h2.mono (Nat.le_succ _), h3⟩

theorem dact_end {b nb lb n' : Nat} {r fu dn sv : Value} {D' : DataW Nat} {m : Nat} {acts news : List Value} {w wc w3 : World} {g cap : Nat} {o : Obj}
    (F1 : wc.heap[b]? = some (.cells #[r, fu, dn, .map (some nb), .map (some lb), sv] 56 (0, 0))) (F2 : wc.ownsMap Tryz.prog 9 ptrR nb n' D') (hsz : w.heap.size ≤ wc.heap.size)
    (T1 : Touch (fun j => j = b ∨ j = nb ∨ sv.ownBlock = some j) w wc) (hsb : sv.ownBlock ≠ some b) (hsn : sv.ownBlock ≠ some nb) (hnb : nb ≠ b)
    (h1 : w3.ownsRow 0 93 1 (.slice (some ⟨g, 0, none⟩) (m + 1) cap) (m + 1) (acts ++ news)) (h2 : (wc.alloc o).drew.grownBy w3 sv.ownBlock) (h3 : sv.ownBlock = some g ∨ g = wc.heap.size + 1) :
    ∃ g' cap', (w3.setCell ⟨b, 5, none⟩ (.slice (some ⟨g, 0, none⟩) (m + 1) cap)).heap[b]? = some (.cells #[r, fu, dn, .map (some nb), .map (some lb), .slice (some ⟨g', 0, none⟩) (m + 1) cap'] 56 (0, 0)) ∧
      (w3.setCell ⟨b, 5, none⟩ (.slice (some ⟨g, 0, none⟩) (m + 1) cap)).ownsMap Tryz.prog 9 ptrR nb n' D' ∧
      (w3.setCell ⟨b, 5, none⟩ (.slice (some ⟨g, 0, none⟩) (m + 1) cap)).ownsRow 0 93 1 (.slice (some ⟨g', 0, none⟩) (m + 1) cap') (m + 1) (acts ++ news) ∧ (sv.ownBlock = some g' ∨ w.heap.size ≤ g') ∧
      Touch (fun j => j = b ∨ j = nb ∨ sv.ownBlock = some j) w (w3.setCell ⟨b, 5, none⟩ (.slice (some ⟨g, 0, none⟩) (m + 1) cap)) := by
  have hb := heap_lt F1
  have hgb : g ≠ b := by
    rcases h3 with h | h
    · exact fun e => hsb (e ▸ h)
    · omega
  have e1 := grown_at h2 (box_alloc F1 o) hsb
  have e2 : w3.ownsMap Tryz.prog 9 ptrR nb n' D' := (F2.alloc o).kept (w := wc.alloc o) ⟨h2.os, h2.tape, h2.output, h2.size, h2.block⟩ (fun e => hsn e.symm)
  refine ⟨g, cap, box_set e1 5 _, e2.setCell (a := ⟨b, 5, none⟩) hnb _, set_row h1 b 5 _ (fun e => hgb (by simpa [Value.ownBlock] using e)), ?_, ((T1.alloc o).grown (w2 := w3) ⟨h2.os, h2.tape, h2.output, h2.size, h2.block⟩ fun j h _ => .inr (.inr h)).setCell _ _ fun _ => .inl rfl⟩
  rcases h3 with h | h
  · exact .inl h
  · exact .inr (by omega)

attribute [local go_sem ↓] Go.wp_at_zero Go.wp_at_succ
set_option maxRecDepth 100000 in
set_option maxHeartbeats 2000000 in
/-- An act of the directory, whatever its function does with the names. -/
theorem dact2_any (b nb lb n' : Nat) (k c d : Nat) (r fu dn sv : Value) (D' : DataW Nat) (m : Nat) (acts : List Value) (w : World) (hk : ∀ args w, (callFunc k args).run Tryz.prog w = .ok (.enter k args) w)
    (hbox : w.heap[b]? = some (.cells #[r, fu, dn, .map (some nb), .map (some lb), sv] 56 (0, 0))) (hs : w.ownsRow 0 93 1 sv m acts) (hm : m < 1000000)
    (hnl : nb < w.heap.size) (hnb : nb ≠ b) (hsb : sv.ownBlock ≠ some b) (hsn : sv.ownBlock ≠ some nb)
    (hdo : ∀ w1, Below w.heap.size w w1 → Calls Tryz.prog k #[.map (some nb), .pointer (some ⟨c, 0, none⟩), .pointer (some ⟨d, 0, none⟩)] w1 fun e w2 => e = .returned (.tuple #[]) ∧ w2.ownsMap Tryz.prog 9 ptrR nb n' D' ∧ w1.grownBy w2 (some nb)) :
    Calls Tryz.prog 50 #[.pointer (some ⟨b, 3, none⟩), .agg #[.func (.func k) #[] #[.pointer (some ⟨c, 0, none⟩), .pointer (some ⟨d, 0, none⟩)]]] w fun e w' => e = .returned (.tuple #[]) ∧ ∃ g cap, w'.heap[b]? = some (.cells #[r, fu, dn, .map (some nb), .map (some lb), .slice (some ⟨g, 0, none⟩) (m + 1) cap] 56 (0, 0)) ∧
      w'.ownsMap Tryz.prog 9 ptrR nb n' D' ∧ w'.ownsRow 0 93 1 (.slice (some ⟨g, 0, none⟩) (m + 1) cap) (m + 1) (acts ++ [.func (.func k) #[] #[.pointer (some ⟨c, 0, none⟩), .pointer (some ⟨d, 0, none⟩)]]) ∧ (sv.ownBlock = some g ∨ w.heap.size ≤ g) ∧
      Touch (fun j => j = b ∨ j = nb ∨ sv.ownBlock = some j) w w' := by
  obtain ⟨i0, hi0, hz0, hz1, hz2⟩ := info_parts infoName
  have hlt := heap_lt hbox
  have HB := hide hbox
  have HS := hide hs
  have HD := hide hdo
  have HN1 := hide hnb
  have HN2 := hide hsb
  have HN3 := hide hsn
  have hne : b ≠ w.heap.size := by omega
  have hnn : w.heap.size ≠ nb := by omega
  clear hbox hs hdo hnb hsb hsn
  go_enter Tryz.func50, Tryz.ntmps50
  go_wp2_with fail
  have B0 : Hid (Below w.heap.size w (w.alloc (.cells #[.func (.func k) #[] #[.pointer (some ⟨c, 0, none⟩), .pointer (some ⟨d, 0, none⟩)]] 93))) := (Below.refl _ w).alloc (Nat.le_refl _) _
  have X0 : Hid ((w.alloc (.cells #[.func (.func k) #[] #[.pointer (some ⟨c, 0, none⟩), .pointer (some ⟨d, 0, none⟩)]] 93)).heap[w.heap.size]? = some (.cells #[.func (.func k) #[] #[.pointer (some ⟨c, 0, none⟩), .pointer (some ⟨d, 0, none⟩)]] 93 (0, 0))) := heap_alloc_new w _
  generalize w.alloc (.cells #[.func (.func k) #[] #[.pointer (some ⟨c, 0, none⟩), .pointer (some ⟨d, 0, none⟩)]] 93) = W0 at *
  have F0 : Hid (W0.heap[b]? = some (.cells #[r, fu, dn, .map (some nb), .map (some lb), sv] 56 (0, 0))) := Below.at B0.out HB.out
  have x0 : W0.cell? ⟨w.heap.size, 0, none⟩ = some (.func (.func k) #[] #[.pointer (some ⟨c, 0, none⟩), .pointer (some ⟨d, 0, none⟩)]) := box_cell X0.out 0 rfl
  have c3 : W0.cell? ⟨b, 3, none⟩ = some (.map (some nb)) := box_cell F0.out 3 rfl
  go_region_held3 (fun w' => w'.cell? ⟨w.heap.size, 0, none⟩ = some (.func (.func k) #[] #[.pointer (some ⟨c, 0, none⟩), .pointer (some ⟨d, 0, none⟩)]) ∧ w'.cell? ⟨b, 3, none⟩ = some (.map (some nb)))
    (go_keep)
    ((go_at_fn k; refine (HD.out _ B0.out.drew).mono ?_; rintro e w2 ⟨rfl, hmap, hgrow⟩; have d0 : w2.cell? ⟨w.heap.size, 0, none⟩ = some (.func (.func k) #[] #[.pointer (some ⟨c, 0, none⟩), .pointer (some ⟨d, 0, none⟩)]) := hgrow.cell (w := W0.drew) x0 (by simpa using hnn); have d1 : w2.cell? ⟨b, 3, none⟩ = some (.map (some nb)) := hgrow.cell (w := W0.drew) c3 (by simpa using HN1.out.symm)))
  clear d0 d1 x0 c3
  have hG : Hid (W0.grownBy w2 (some nb)) := ⟨hgrow.os, hgrow.tape, hgrow.output, hgrow.size, hgrow.block⟩
  have HM := hide hmap
  have F1 : Hid (w2.heap[b]? = some (.cells #[r, fu, dn, .map (some nb), .map (some lb), sv] 56 (0, 0))) := grown_at hG.out F0.out (by simpa using HN1.out)
  have F2 : Hid (w2.heap[w.heap.size]? = some (.cells #[.func (.func k) #[] #[.pointer (some ⟨c, 0, none⟩), .pointer (some ⟨d, 0, none⟩)]] 93 (0, 0))) := grown_at hG.out X0.out (by simpa using hnn.symm)
  have F4 : Hid (w2.ownsRow 0 93 1 sv m acts) := grown_row hG.out (below_row B0.out HS.out) fun j h e => HN3.out (by rw [h, ← e])
  have T1 : Hid (Touch (fun j => j = b ∨ j = nb ∨ sv.ownBlock = some j) w w2) := (Touch.of_below B0.out).grown hG.out fun j h _ => .inr (.inl (by injection h with h; exact h.symm))
  clear hgrow hmap hG F0 B0 X0 HD HB
  have hw1 : b ≠ w2.heap.size := Nat.ne_of_lt (heap_lt F1.out)
  have hw2 : w.heap.size ≠ w2.heap.size := Nat.ne_of_lt (heap_lt F2.out)
  have y2 : w2.cell? ⟨b, 5, none⟩ = some sv := box_cell F1.out 5 rfl
  have x0 : w2.cell? ⟨w.heap.size, 0, none⟩ = some (.func (.func k) #[] #[.pointer (some ⟨c, 0, none⟩), .pointer (some ⟨d, 0, none⟩)]) := box_cell F2.out 0 rfl
  have y2a : ∀ o, (w2.alloc o).cell? ⟨b, 5, none⟩ = some sv := fun o => box_cell (box_alloc F1.out o) 5 rfl
  go_wp2
  go_region_law ((refine step_append_lies _ (by rfl) _ _ _ (by rfl) 0 93 i0 _ 1 8 Tryz.underlying51 hi0 hz0 hz1 hz2 rfl (by omega) sv m acts (by rfl) ((F4.out.alloc _).drew) ⟨w2.heap.size, 0, none⟩ 1 1 [.func (.func k) #[] #[.pointer (some ⟨c, 0, none⟩), .pointer (some ⟨d, 0, none⟩)]] (by rfl) (by rfl) (World.news_of_block (cs := #[.func (.func k) #[] #[.pointer (some ⟨c, 0, none⟩), .pointer (some ⟨d, 0, none⟩)]]) (t := 93) (fr := (0, 0)) (heap_alloc_new w2 _)) (by simp [Value.oneCell']) (by omega) (by unfold maxLen; omega) (by omega) (Nat.zero_le _) (w2.heap.size + 1) (by simp) ?_; intro g cap w3 hown3 hgrow3 hat3 hlt3; have F5 : Hid (w3.heap[b]? = some (.cells #[r, fu, dn, .map (some nb), .map (some lb), sv] 56 (0, 0))) := grown_at hgrow3 (box_alloc F1.out _) HN2.out; have z2 : w3.cell? ⟨b, 5, none⟩ = some sv := box_cell F5.out 5 rfl; have zf := box_free F5.out 5))
  all_goals (go_end0; exact ⟨rfl, dact_end F1.out HM.out T1.out.size T1.out HN2.out HN3.out HN1.out hown3 hgrow3 hat3⟩)

set_option maxRecDepth 100000 in
set_option maxHeartbeats 2000000 in
/-- An act of the directory, whatever its function does with the names. -/
theorem dact1_any (b nb lb n' : Nat) (k c : Nat) (r fu dn sv : Value) (D' : DataW Nat) (m : Nat) (acts : List Value) (w : World) (hk : ∀ args w, (callFunc k args).run Tryz.prog w = .ok (.enter k args) w)
    (hbox : w.heap[b]? = some (.cells #[r, fu, dn, .map (some nb), .map (some lb), sv] 56 (0, 0))) (hs : w.ownsRow 0 93 1 sv m acts) (hm : m < 1000000)
    (hnl : nb < w.heap.size) (hnb : nb ≠ b) (hsb : sv.ownBlock ≠ some b) (hsn : sv.ownBlock ≠ some nb)
    (hdo : ∀ w1, Below w.heap.size w w1 → Calls Tryz.prog k #[.map (some nb), .pointer (some ⟨c, 0, none⟩)] w1 fun e w2 => e = .returned (.tuple #[]) ∧ w2.ownsMap Tryz.prog 9 ptrR nb n' D' ∧ w1.grownBy w2 (some nb)) :
    Calls Tryz.prog 50 #[.pointer (some ⟨b, 3, none⟩), .agg #[.func (.func k) #[] #[.pointer (some ⟨c, 0, none⟩)]]] w fun e w' => e = .returned (.tuple #[]) ∧ ∃ g cap, w'.heap[b]? = some (.cells #[r, fu, dn, .map (some nb), .map (some lb), .slice (some ⟨g, 0, none⟩) (m + 1) cap] 56 (0, 0)) ∧
      w'.ownsMap Tryz.prog 9 ptrR nb n' D' ∧ w'.ownsRow 0 93 1 (.slice (some ⟨g, 0, none⟩) (m + 1) cap) (m + 1) (acts ++ [.func (.func k) #[] #[.pointer (some ⟨c, 0, none⟩)]]) ∧ (sv.ownBlock = some g ∨ w.heap.size ≤ g) ∧
      Touch (fun j => j = b ∨ j = nb ∨ sv.ownBlock = some j) w w' := by
  obtain ⟨i0, hi0, hz0, hz1, hz2⟩ := info_parts infoName
  have hlt := heap_lt hbox
  have HB := hide hbox
  have HS := hide hs
  have HD := hide hdo
  have HN1 := hide hnb
  have HN2 := hide hsb
  have HN3 := hide hsn
  have hne : b ≠ w.heap.size := by omega
  have hnn : w.heap.size ≠ nb := by omega
  clear hbox hs hdo hnb hsb hsn
  go_enter Tryz.func50, Tryz.ntmps50
  go_wp2_with fail
  have B0 : Hid (Below w.heap.size w (w.alloc (.cells #[.func (.func k) #[] #[.pointer (some ⟨c, 0, none⟩)]] 93))) := (Below.refl _ w).alloc (Nat.le_refl _) _
  have X0 : Hid ((w.alloc (.cells #[.func (.func k) #[] #[.pointer (some ⟨c, 0, none⟩)]] 93)).heap[w.heap.size]? = some (.cells #[.func (.func k) #[] #[.pointer (some ⟨c, 0, none⟩)]] 93 (0, 0))) := heap_alloc_new w _
  generalize w.alloc (.cells #[.func (.func k) #[] #[.pointer (some ⟨c, 0, none⟩)]] 93) = W0 at *
  have F0 : Hid (W0.heap[b]? = some (.cells #[r, fu, dn, .map (some nb), .map (some lb), sv] 56 (0, 0))) := Below.at B0.out HB.out
  have x0 : W0.cell? ⟨w.heap.size, 0, none⟩ = some (.func (.func k) #[] #[.pointer (some ⟨c, 0, none⟩)]) := box_cell X0.out 0 rfl
  have c3 : W0.cell? ⟨b, 3, none⟩ = some (.map (some nb)) := box_cell F0.out 3 rfl
  go_region_held3 (fun w' => w'.cell? ⟨w.heap.size, 0, none⟩ = some (.func (.func k) #[] #[.pointer (some ⟨c, 0, none⟩)]) ∧ w'.cell? ⟨b, 3, none⟩ = some (.map (some nb)))
    (go_keep)
    ((go_at_fn k; refine (HD.out _ B0.out.drew).mono ?_; rintro e w2 ⟨rfl, hmap, hgrow⟩; have d0 : w2.cell? ⟨w.heap.size, 0, none⟩ = some (.func (.func k) #[] #[.pointer (some ⟨c, 0, none⟩)]) := hgrow.cell (w := W0.drew) x0 (by simpa using hnn); have d1 : w2.cell? ⟨b, 3, none⟩ = some (.map (some nb)) := hgrow.cell (w := W0.drew) c3 (by simpa using HN1.out.symm)))
  clear d0 d1 x0 c3
  have hG : Hid (W0.grownBy w2 (some nb)) := ⟨hgrow.os, hgrow.tape, hgrow.output, hgrow.size, hgrow.block⟩
  have HM := hide hmap
  have F1 : Hid (w2.heap[b]? = some (.cells #[r, fu, dn, .map (some nb), .map (some lb), sv] 56 (0, 0))) := grown_at hG.out F0.out (by simpa using HN1.out)
  have F2 : Hid (w2.heap[w.heap.size]? = some (.cells #[.func (.func k) #[] #[.pointer (some ⟨c, 0, none⟩)]] 93 (0, 0))) := grown_at hG.out X0.out (by simpa using hnn.symm)
  have F4 : Hid (w2.ownsRow 0 93 1 sv m acts) := grown_row hG.out (below_row B0.out HS.out) fun j h e => HN3.out (by rw [h, ← e])
  have T1 : Hid (Touch (fun j => j = b ∨ j = nb ∨ sv.ownBlock = some j) w w2) := (Touch.of_below B0.out).grown hG.out fun j h _ => .inr (.inl (by injection h with h; exact h.symm))
  clear hgrow hmap hG F0 B0 X0 HD HB
  have hw1 : b ≠ w2.heap.size := Nat.ne_of_lt (heap_lt F1.out)
  have hw2 : w.heap.size ≠ w2.heap.size := Nat.ne_of_lt (heap_lt F2.out)
  have y2 : w2.cell? ⟨b, 5, none⟩ = some sv := box_cell F1.out 5 rfl
  have x0 : w2.cell? ⟨w.heap.size, 0, none⟩ = some (.func (.func k) #[] #[.pointer (some ⟨c, 0, none⟩)]) := box_cell F2.out 0 rfl
  have y2a : ∀ o, (w2.alloc o).cell? ⟨b, 5, none⟩ = some sv := fun o => box_cell (box_alloc F1.out o) 5 rfl
  go_wp2
  go_region_law ((refine step_append_lies _ (by rfl) _ _ _ (by rfl) 0 93 i0 _ 1 8 Tryz.underlying51 hi0 hz0 hz1 hz2 rfl (by omega) sv m acts (by rfl) ((F4.out.alloc _).drew) ⟨w2.heap.size, 0, none⟩ 1 1 [.func (.func k) #[] #[.pointer (some ⟨c, 0, none⟩)]] (by rfl) (by rfl) (World.news_of_block (cs := #[.func (.func k) #[] #[.pointer (some ⟨c, 0, none⟩)]]) (t := 93) (fr := (0, 0)) (heap_alloc_new w2 _)) (by simp [Value.oneCell']) (by omega) (by unfold maxLen; omega) (by omega) (Nat.zero_le _) (w2.heap.size + 1) (by simp) ?_; intro g cap w3 hown3 hgrow3 hat3 hlt3; have F5 : Hid (w3.heap[b]? = some (.cells #[r, fu, dn, .map (some nb), .map (some lb), sv] 56 (0, 0))) := grown_at hgrow3 (box_alloc F1.out _) HN2.out; have z2 : w3.cell? ⟨b, 5, none⟩ = some sv := box_cell F5.out 5 rfl; have zf := box_free F5.out 5))
  all_goals (go_end0; exact ⟨rfl, dact_end F1.out HM.out T1.out.size T1.out HN2.out HN3.out HN1.out hown3 hgrow3 hat3⟩)

end Go.Proofs.YtknldpaaikcedaaGreat
