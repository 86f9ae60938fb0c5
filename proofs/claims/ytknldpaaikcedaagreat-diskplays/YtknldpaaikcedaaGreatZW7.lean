/-
  What was done with names since they were synced, done with those that last: settle, settleAll, crash; names.
-/
import Derived.Test.YtknldpaaikcedaaGreatZW6
namespace Go.Proofs.YtknldpaaikcedaaGreat
open Go.RowKit Go.Maps

/-- Acts of the directory as cells. -/
def dactC (x : DA) : Value := .func (.func x.fn) #[] x.caps
theorem caps2 {x : DA} (h : x.kind ≤ 1) : x.caps = #[.pointer (some ⟨x.c, 0, none⟩), .pointer (some ⟨x.d, 0, none⟩)] := by
  obtain ⟨k, a, b, id, c, d⟩ := x
  match k, h with
  | 0, _ => rfl
  | 1, _ => rfl
theorem caps1 {x : DA} (h : ¬ x.kind ≤ 1) : x.caps = #[.pointer (some ⟨x.c, 0, none⟩)] := by
  obtain ⟨k, a, b, id, c, d⟩ := x
  match k, h with
  | 0, h => exact absurd (Nat.zero_le 1) h
  | 1, h => exact absurd (Nat.le_refl 1) h
  | k + 2, _ => rfl
theorem drun_step (D : DataW Nat) (X : List DA) (i : Nat) (h : i < X.length) : drunAll D (X.take (i + 1)) = X[i].run (drunAll D (X.take i)) := by
  rw [List.take_add_one, List.getElem?_eq_getElem h, drunAll_append]
  rfl
theorem dfit_step (D : DataW Nat) (X : List DA) (i : Nat) (h : i < X.length) (hf : dfitAll D X) : X[i].fits (drunAll D (X.take i)) := by
  have h1 := dfitAll_take D X (i + 1) hf
  rw [List.take_add_one, List.getElem?_eq_getElem h, dfitAll_append] at h1
  exact h1.2.1

/-- On the way: so many acts are done with the names that last. -/
structure DMid (b lb n : Nat) (cs : Array Value) (LD : DataW Nat) (X : List DA) (w wv : World) (i : Nat) : Prop where
  box : wv.heap[b]? = some (.cells cs 56 (0, 0))
  map : wv.ownsMap Tryz.prog 9 ptrR lb (n + i) (drunAll LD (X.take i))
  touch : Touch (fun j => j = lb) w wv
theorem DMid.alloc {b lb n : Nat} {cs : Array Value} {LD : DataW Nat} {X : List DA} {w wv : World} {i : Nat} (h : DMid b lb n cs LD X w wv i) (o : Obj) : DMid b lb n cs LD X w (wv.alloc o) i :=
  ⟨box_alloc h.box o, h.map.alloc o, h.touch.alloc o⟩

/-- How many acts are done. -/
def dmany (u : Int) (m : Nat) : Nat := (min (max u 0) m).toNat

attribute [local go_sem ↓] Go.wp_at_zero Go.wp_at_succ
set_option maxRecDepth 100000 in
set_option maxHeartbeats 2000000 in
theorem dsettle_neg (b nb lb n : Nat) (r fu dn : Value) (so : Option Addr) (sc : Nat) (LD : DataW Nat) (X : List DA) (u0 : Int) (hu : u0 < 0) (w : World)
    (hbox : w.heap[b]? = some (.cells #[r, fu, dn, .map (some nb), .map (some lb), .slice so X.length sc] 56 (0, 0))) (hs : w.ownsRow 0 93 1 (.slice so X.length sc) X.length (X.map dactC)) (hm : X.length < 1000000) (_hn : n < 1000000)
    (hown : w.ownsMap Tryz.prog 9 ptrR lb n LD) (hheld : ∀ x ∈ X, x.held w) (hfit : dfitAll LD X) (hbl : lb ≠ b) (hsl : (Value.slice so X.length sc).ownBlock ≠ some lb) (hsb : (Value.slice so X.length sc).ownBlock ≠ some b) (hcap : ∀ x ∈ X, x.c ≠ lb ∧ x.d ≠ lb) :
    Calls Tryz.prog 62 #[.pointer (some ⟨b, 3, none⟩), .int .i64 u0] w fun e w' => e = .returned (.tuple #[]) ∧ w'.heap[b]? = some (.cells #[r, fu, dn, .map (some nb), .map (some lb), .slice none 0 0] 56 (0, 0)) ∧
      w'.ownsMap Tryz.prog 9 ptrR lb (n + X.length) (drunAll LD (X.take 0)) ∧ Touch (fun j => j = b ∨ j = lb) w w' := by
  have HB := hide hbox
  have HS := hide hs
  have HO := hide hown
  have HH := hide hheld
  have HF := hide hfit
  have HN2 := hide hsl
  have HN3 := hide hsb
  have HN4 := hide hcap
  have c5 : w.cell? ⟨b, 5, none⟩ = some (.slice so X.length sc) := box_cell hbox 5 rfl
  have hcap2 : (X.length : Int) ≤ (sc : Int) := by
    rcases hs.2 with ⟨h, h0⟩ | ⟨g, cap, cur, h, _, _, h4, _⟩
    · rw [h0]; omega
    · cases h; omega
  clear hbox hs hown hheld hfit hsl hsb hcap
  rcases so with _ | ad
  · have hx0 : X.length = 0 := by
      rcases HS.out.2 with ⟨_, h⟩ | ⟨g, cap, cur, h, _⟩
      · exact h
      · cases h
    obtain rfl : sc = 0 := by
      rcases HS.out.2 with ⟨h, _⟩ | ⟨g, cap, cur, h, _⟩
      · simp at h; exact h.2
      · cases h
    have hX : X = [] := List.eq_nil_of_length_eq_zero hx0
    subst hX
    have f5 := box_free HB.out 5
    go_enter Tryz.func62, Tryz.ntmps62
    go_wp2
    go_loopw [21] (fun iv wv => iv = .int .i64 0 ∧ Hid (wv = w)) (fun _ _ => 0)
    case atStart => exact ⟨rfl, rfl⟩
    case round =>
      obtain ⟨rfl, HW⟩ := hrel
      cases HW.out
      go_wp2
      go_end0
      refine ⟨rfl, box_set HB.out 5 _, ?_, (Touch.refl _ w).setCell _ _ fun _ => .inl rfl⟩
      exact HO.out.setCell (a := ⟨b, 5, none⟩) hbl _
  · obtain ⟨g, rfl⟩ : ∃ g, ad = ⟨g, 0, none⟩ := by
      rcases HS.out.2 with ⟨h, _⟩ | ⟨g, cap, cur, h, _⟩
      · cases h
      · cases h; exact ⟨g, rfl⟩
    have hkc : (0 : Int) ≤ (sc : Int) := by omega
    go_enter Tryz.func62, Tryz.ntmps62
    go_wp2
    go_loopw [21] (fun iv wv => ∃ i : Nat, iv = .int .i64 i ∧ i ≤ 0 ∧ Hid (DMid b lb n #[r, fu, dn, .map (some nb), .map (some lb), .slice (some ⟨g, 0, none⟩) X.length sc] LD X w wv i)) (fun iv _ => 0 - (intOf iv).toNat)
    case atStart => exact ⟨0, rfl, Nat.zero_le _, ⟨HB.out, by simpa [drunAll] using HO.out, Touch.refl _ _⟩⟩
    case round =>
      obtain ⟨i, rfl, hi, HM⟩ := hrel
      clear c5
      have k5 : wr.cell? ⟨b, 5, none⟩ = some (.slice (some ⟨g, 0, none⟩) X.length sc) := box_cell HM.out.box 5 rfl
      have kf := box_free HM.out.box 5
      by_cases hlt : i < 0
      · exact absurd hlt (Nat.not_lt_zero _)
      · have hik : i = 0 := by omega
        have HIK := hide hik
        clear hik
        go_wp2
        go_end0
        have e := HIK.out
        have hM := HM.out
        rw [e] at hM
        exact ⟨rfl, box_set hM.box 5 _, (hM.map.mono (by omega)).setCell (a := ⟨b, 5, none⟩) hbl _, (hM.touch.mono fun j _ h => .inr h).setCell _ _ fun _ => .inl rfl⟩

set_option maxRecDepth 100000 in
set_option maxHeartbeats 2000000 in
theorem dsettle_some (b nb lb n : Nat) (r fu dn : Value) (so : Option Addr) (sc : Nat) (LD : DataW Nat) (X : List DA) (k : Nat) (hkx : ¬ (X.length : Int) < (k : Int)) (w : World)
    (hbox : w.heap[b]? = some (.cells #[r, fu, dn, .map (some nb), .map (some lb), .slice so X.length sc] 56 (0, 0))) (hs : w.ownsRow 0 93 1 (.slice so X.length sc) X.length (X.map dactC)) (hm : X.length < 1000000) (hn : n < 1000000)
    (hown : w.ownsMap Tryz.prog 9 ptrR lb n LD) (hheld : ∀ x ∈ X, x.held w) (hfit : dfitAll LD X) (hbl : lb ≠ b) (hsl : (Value.slice so X.length sc).ownBlock ≠ some lb) (hsb : (Value.slice so X.length sc).ownBlock ≠ some b) (hcap : ∀ x ∈ X, x.c ≠ lb ∧ x.d ≠ lb) :
    Calls Tryz.prog 62 #[.pointer (some ⟨b, 3, none⟩), .int .i64 k] w fun e w' => e = .returned (.tuple #[]) ∧ w'.heap[b]? = some (.cells #[r, fu, dn, .map (some nb), .map (some lb), .slice none 0 0] 56 (0, 0)) ∧
      w'.ownsMap Tryz.prog 9 ptrR lb (n + X.length) (drunAll LD (X.take k)) ∧ Touch (fun j => j = b ∨ j = lb) w w' := by
  have HB := hide hbox
  have HS := hide hs
  have HO := hide hown
  have HH := hide hheld
  have HF := hide hfit
  have HN2 := hide hsl
  have HN3 := hide hsb
  have HN4 := hide hcap
  have c5 : w.cell? ⟨b, 5, none⟩ = some (.slice so X.length sc) := box_cell hbox 5 rfl
  have hkm : k ≤ X.length := by omega
  have hcap2 : (X.length : Int) ≤ (sc : Int) := by
    rcases hs.2 with ⟨h, h0⟩ | ⟨g, cap, cur, h, _, _, h4, _⟩
    · rw [h0]; omega
    · cases h; omega
  have hk0 : (0 : Int) ≤ ((k : Nat) : Int) := by omega
  clear hbox hs hown hheld hfit hsl hsb hcap
  rcases so with _ | ad
  · have hx0 : X.length = 0 := by
      rcases HS.out.2 with ⟨_, h⟩ | ⟨g, cap, cur, h, _⟩
      · exact h
      · cases h
    have hkz : k = 0 := by omega
    obtain rfl : sc = 0 := by
      rcases HS.out.2 with ⟨h, _⟩ | ⟨g, cap, cur, h, _⟩
      · simp at h; exact h.2
      · cases h
    have hX : X = [] := List.eq_nil_of_length_eq_zero hx0
    subst hX
    have f5 := box_free HB.out 5
    go_enter Tryz.func62, Tryz.ntmps62
    go_wp2
    go_loopw [21] (fun iv wv => iv = .int .i64 0 ∧ Hid (wv = w)) (fun _ _ => 0)
    case atStart => exact ⟨rfl, rfl⟩
    case round =>
      obtain ⟨rfl, HW⟩ := hrel
      cases HW.out
      go_wp2
      go_end0
      refine ⟨rfl, box_set HB.out 5 _, ?_, (Touch.refl _ w).setCell _ _ fun _ => .inl rfl⟩
      exact HO.out.setCell (a := ⟨b, 5, none⟩) hbl _
  · obtain ⟨g, rfl⟩ : ∃ g, ad = ⟨g, 0, none⟩ := by
      rcases HS.out.2 with ⟨h, _⟩ | ⟨g, cap, cur, h, _⟩
      · cases h
      · cases h; exact ⟨g, rfl⟩
    have hkc : ((k : Nat) : Int) ≤ (sc : Int) := by omega
    go_enter Tryz.func62, Tryz.ntmps62
    go_wp2
    go_loopw [21] (fun iv wv => ∃ i : Nat, iv = .int .i64 i ∧ i ≤ k ∧ Hid (DMid b lb n #[r, fu, dn, .map (some nb), .map (some lb), .slice (some ⟨g, 0, none⟩) X.length sc] LD X w wv i)) (fun iv _ => k - (intOf iv).toNat)
    case atStart => exact ⟨0, rfl, Nat.zero_le _, ⟨HB.out, by simpa [drunAll] using HO.out, Touch.refl _ _⟩⟩
    case round =>
      obtain ⟨i, rfl, hi, HM⟩ := hrel
      clear c5
      have k5 : wr.cell? ⟨b, 5, none⟩ = some (.slice (some ⟨g, 0, none⟩) X.length sc) := box_cell HM.out.box 5 rfl
      have kf := box_free HM.out.box 5
      by_cases hlt : i < k
      · have hlx : i < X.length := by omega
        have hmem := List.getElem_mem hlx
        have HST := hide (drun_step LD X i hlx)
        have hst : Hid (wr.ownsRow 0 93 1 (.slice (some ⟨g, 0, none⟩) X.length sc) X.length (X.map dactC)) := HM.out.touch.row HS.out fun j hj e => HN2.out (by rw [hj, e])
        have hat : (X.map dactC)[i]? = some (dactC X[i]) := by rw [List.getElem?_map, List.getElem?_eq_getElem hlx]; rfl
        have r0 : wr.cell? ⟨g, i, none⟩ = some (dactC X[i]) := by have h := hst.out.cells rfl _ _ hat; rw [Addr.add_lit] at h; simpa using h
        have hHe : Hid (X[i].held wr) := DA.held_of (HH.out _ hmem) (HM.out.touch.block _ (DA.held_lt (HH.out _ hmem)).1 (HN4.out _ hmem).1) (HM.out.touch.block _ (DA.held_lt (HH.out _ hmem)).2 (HN4.out _ hmem).2)
        have hwl : wr.heap.size ≠ lb := fun e => by have := HM.out.map.lt; omega
        have hbw : b ≠ wr.heap.size := Nat.ne_of_lt (heap_lt HM.out.box)
        have k4 : ∀ o, (wr.alloc o).cell? ⟨b, 4, none⟩ = some (.map (some lb)) := fun o => box_cell (HM.out.alloc o).box 4 rfl
        have hfit := hide (dfit_step LD X i hlx HF.out)
        have hfn := dfn_enters X[i]
        have hi0 : (0 : Int) ≤ (i : Int) := by omega
        have hi1 : (i : Int) < ((k : Nat) : Int) := by omega
        unfold dactC at r0
        clear k5 kf hat
        by_cases hkd : X[i].kind ≤ 1
        · have HD : Hid (∀ w1, Below wr.heap.size wr w1 → Calls Tryz.prog X[i].fn #[.map (some lb), .pointer (some ⟨X[i].c, 0, none⟩), .pointer (some ⟨X[i].d, 0, none⟩)] w1 fun e w2 => e = .returned (.tuple #[]) ∧ w2.ownsMap Tryz.prog 9 ptrR lb (n + (i + 1)) (X[i].run (drunAll LD (X.take i))) ∧ w1.grownBy w2 (some lb)) := fun w1 hb =>
            do_dir2 X[i] hkd lb (n + i) _ w1 (DA.held_of hHe.out (hb.block _ (DA.held_lt hHe.out).1) (hb.block _ (DA.held_lt hHe.out).2)) hfit.out (by unfold maxLen; omega) (HN4.out _ hmem).2 (below_map hb HM.out.map)
          rw [caps2 hkd] at r0
          obtain ⟨kk, hkk⟩ : ∃ kk, X[i].fn = kk := ⟨_, rfl⟩
          obtain ⟨cc, hcc⟩ : ∃ cc, X[i].c = cc := ⟨_, rfl⟩
          obtain ⟨dd, hdd⟩ : ∃ dd, X[i].d = dd := ⟨_, rfl⟩
          rw [hkk] at HD r0 hfn
          rw [hcc] at HD r0
          rw [hdd] at HD r0
          clear hkk hcc hdd hst hHe hfit hkd hmem
          go_wp2
          go_region_held3 (fun w' => w'.cell? ⟨wr.heap.size, 0, none⟩ = some (.func (.func kk) #[] #[.pointer (some ⟨cc, 0, none⟩), .pointer (some ⟨dd, 0, none⟩)]) ∧ w'.cell? ⟨b, 4, none⟩ = some (.map (some lb)))
            (go_keep)
            ((go_at_fn kk; refine (HD.out _ (((Below.refl _ wr).alloc (Nat.le_refl _) _).drew)).mono ?_; rintro e w2 ⟨rfl, hmap, hgrow⟩; have d0 : w2.cell? ⟨wr.heap.size, 0, none⟩ = some (.func (.func kk) #[] #[.pointer (some ⟨cc, 0, none⟩), .pointer (some ⟨dd, 0, none⟩)]) := hgrow.cell (w := (wr.alloc (.cells #[.func (.func kk) #[] #[.pointer (some ⟨cc, 0, none⟩), .pointer (some ⟨dd, 0, none⟩)]] 93)).drew) (box_cell (heap_alloc_new wr _) 0 rfl) (by simpa using hwl); have d1 : w2.cell? ⟨b, 4, none⟩ = some (.map (some lb)) := hgrow.cell (w := (wr.alloc (.cells #[.func (.func kk) #[] #[.pointer (some ⟨cc, 0, none⟩), .pointer (some ⟨dd, 0, none⟩)]] 93)).drew) (k4 _) (by simpa using hbl.symm)))
          clear d0 d1
          have HG := hide hgrow
          have HMM := hide hmap
          clear hgrow hmap
          go_wp2
          go_roundw
          case rel => exact ⟨i + 1, by go_num, by omega, ⟨grown_at HG.out (HM.out.alloc _).box (by simpa using fun e => hbl e), by rw [HST.out]; exact HMM.out, (HM.out.touch.alloc _).grown (w2 := w2) ⟨HG.out.os, HG.out.tape, HG.out.output, HG.out.size, HG.out.block⟩ fun j e _ => by injection e with e; exact e.symm⟩⟩
          case measure => simp [intOf]; omega
        · have HD : Hid (∀ w1, Below wr.heap.size wr w1 → Calls Tryz.prog X[i].fn #[.map (some lb), .pointer (some ⟨X[i].c, 0, none⟩)] w1 fun e w2 => e = .returned (.tuple #[]) ∧ w2.ownsMap Tryz.prog 9 ptrR lb (n + (i + 1)) (X[i].run (drunAll LD (X.take i))) ∧ w1.grownBy w2 (some lb)) := fun w1 hb =>
            do_dir1 X[i] hkd lb (n + i) _ w1 (DA.held_of hHe.out (hb.block _ (DA.held_lt hHe.out).1) (hb.block _ (DA.held_lt hHe.out).2)) (below_map hb HM.out.map)
          rw [caps1 hkd] at r0
          obtain ⟨kk, hkk⟩ : ∃ kk, X[i].fn = kk := ⟨_, rfl⟩
          obtain ⟨cc, hcc⟩ : ∃ cc, X[i].c = cc := ⟨_, rfl⟩
          rw [hkk] at HD r0 hfn
          rw [hcc] at HD r0
          clear hkk hcc hst hHe hfit hkd hmem
          go_wp2
          go_region_held3 (fun w' => w'.cell? ⟨wr.heap.size, 0, none⟩ = some (.func (.func kk) #[] #[.pointer (some ⟨cc, 0, none⟩)]) ∧ w'.cell? ⟨b, 4, none⟩ = some (.map (some lb)))
            (go_keep)
            ((go_at_fn kk; refine (HD.out _ (((Below.refl _ wr).alloc (Nat.le_refl _) _).drew)).mono ?_; rintro e w2 ⟨rfl, hmap, hgrow⟩; have d0 : w2.cell? ⟨wr.heap.size, 0, none⟩ = some (.func (.func kk) #[] #[.pointer (some ⟨cc, 0, none⟩)]) := hgrow.cell (w := (wr.alloc (.cells #[.func (.func kk) #[] #[.pointer (some ⟨cc, 0, none⟩)]] 93)).drew) (box_cell (heap_alloc_new wr _) 0 rfl) (by simpa using hwl); have d1 : w2.cell? ⟨b, 4, none⟩ = some (.map (some lb)) := hgrow.cell (w := (wr.alloc (.cells #[.func (.func kk) #[] #[.pointer (some ⟨cc, 0, none⟩)]] 93)).drew) (k4 _) (by simpa using hbl.symm)))
          clear d0 d1
          have HG := hide hgrow
          have HMM := hide hmap
          clear hgrow hmap
          go_wp2
          go_roundw
          case rel => exact ⟨i + 1, by go_num, by omega, ⟨grown_at HG.out (HM.out.alloc _).box (by simpa using fun e => hbl e), by rw [HST.out]; exact HMM.out, (HM.out.touch.alloc _).grown (w2 := w2) ⟨HG.out.os, HG.out.tape, HG.out.output, HG.out.size, HG.out.block⟩ fun j e _ => by injection e with e; exact e.symm⟩⟩
          case measure => simp [intOf]; omega
      · have hik : i = k := by omega
        have HIK := hide hik
        clear hik
        go_wp2
        go_end0
        have e := HIK.out
        have hM := HM.out
        rw [e] at hM
        exact ⟨rfl, box_set hM.box 5 _, (hM.map.mono (by omega)).setCell (a := ⟨b, 5, none⟩) hbl _, (hM.touch.mono fun j _ h => .inr h).setCell _ _ fun _ => .inl rfl⟩

set_option maxRecDepth 100000 in
set_option maxHeartbeats 2000000 in
theorem dsettle_more (b nb lb n : Nat) (r fu dn : Value) (so : Option Addr) (sc : Nat) (LD : DataW Nat) (X : List DA) (k : Nat) (hkx : (X.length : Int) < (k : Int)) (hk63 : k ≤ 9223372036854775807) (w : World)
    (hbox : w.heap[b]? = some (.cells #[r, fu, dn, .map (some nb), .map (some lb), .slice so X.length sc] 56 (0, 0))) (hs : w.ownsRow 0 93 1 (.slice so X.length sc) X.length (X.map dactC)) (hm : X.length < 1000000) (hn : n < 1000000)
    (hown : w.ownsMap Tryz.prog 9 ptrR lb n LD) (hheld : ∀ x ∈ X, x.held w) (hfit : dfitAll LD X) (hbl : lb ≠ b) (hsl : (Value.slice so X.length sc).ownBlock ≠ some lb) (hsb : (Value.slice so X.length sc).ownBlock ≠ some b) (hcap : ∀ x ∈ X, x.c ≠ lb ∧ x.d ≠ lb) :
    Calls Tryz.prog 62 #[.pointer (some ⟨b, 3, none⟩), .int .i64 k] w fun e w' => e = .returned (.tuple #[]) ∧ w'.heap[b]? = some (.cells #[r, fu, dn, .map (some nb), .map (some lb), .slice none 0 0] 56 (0, 0)) ∧
      w'.ownsMap Tryz.prog 9 ptrR lb (n + X.length) (drunAll LD (X.take X.length)) ∧ Touch (fun j => j = b ∨ j = lb) w w' := by
  have HB := hide hbox
  have HS := hide hs
  have HO := hide hown
  have HH := hide hheld
  have HF := hide hfit
  have HN2 := hide hsl
  have HN3 := hide hsb
  have HN4 := hide hcap
  have c5 : w.cell? ⟨b, 5, none⟩ = some (.slice so X.length sc) := box_cell hbox 5 rfl
  have hkm : X.length ≤ X.length := by omega
  have hcap2 : (X.length : Int) ≤ (sc : Int) := by
    rcases hs.2 with ⟨h, h0⟩ | ⟨g, cap, cur, h, _, _, h4, _⟩
    · rw [h0]; omega
    · cases h; omega
  have hk0 : (0 : Int) ≤ ((X.length : Nat) : Int) := by omega
  clear hbox hs hown hheld hfit hsl hsb hcap
  rcases so with _ | ad
  · have hx0 : X.length = 0 := by
      rcases HS.out.2 with ⟨_, h⟩ | ⟨g, cap, cur, h, _⟩
      · exact h
      · cases h
    have hkz : X.length = 0 := by omega
    obtain rfl : sc = 0 := by
      rcases HS.out.2 with ⟨h, _⟩ | ⟨g, cap, cur, h, _⟩
      · simp at h; exact h.2
      · cases h
    have hX : X = [] := List.eq_nil_of_length_eq_zero hx0
    subst hX
    have f5 := box_free HB.out 5
    go_enter Tryz.func62, Tryz.ntmps62
    go_wp2
    go_loopw [21] (fun iv wv => iv = .int .i64 0 ∧ Hid (wv = w)) (fun _ _ => 0)
    case atStart => exact ⟨rfl, rfl⟩
    case round =>
      obtain ⟨rfl, HW⟩ := hrel
      cases HW.out
      go_wp2
      go_end0
      refine ⟨rfl, box_set HB.out 5 _, ?_, (Touch.refl _ w).setCell _ _ fun _ => .inl rfl⟩
      exact HO.out.setCell (a := ⟨b, 5, none⟩) hbl _
  · obtain ⟨g, rfl⟩ : ∃ g, ad = ⟨g, 0, none⟩ := by
      rcases HS.out.2 with ⟨h, _⟩ | ⟨g, cap, cur, h, _⟩
      · cases h
      · cases h; exact ⟨g, rfl⟩
    have hkc : ((X.length : Nat) : Int) ≤ (sc : Int) := by omega
    go_enter Tryz.func62, Tryz.ntmps62
    go_wp2
    go_loopw [21] (fun iv wv => ∃ i : Nat, iv = .int .i64 i ∧ i ≤ X.length ∧ Hid (DMid b lb n #[r, fu, dn, .map (some nb), .map (some lb), .slice (some ⟨g, 0, none⟩) X.length sc] LD X w wv i)) (fun iv _ => X.length - (intOf iv).toNat)
    case atStart => exact ⟨0, rfl, Nat.zero_le _, ⟨HB.out, by simpa [drunAll] using HO.out, Touch.refl _ _⟩⟩
    case round =>
      obtain ⟨i, rfl, hi, HM⟩ := hrel
      clear c5
      have k5 : wr.cell? ⟨b, 5, none⟩ = some (.slice (some ⟨g, 0, none⟩) X.length sc) := box_cell HM.out.box 5 rfl
      have kf := box_free HM.out.box 5
      by_cases hlt : i < X.length
      · have hlx : i < X.length := by omega
        have hmem := List.getElem_mem hlx
        have HST := hide (drun_step LD X i hlx)
        have hst : Hid (wr.ownsRow 0 93 1 (.slice (some ⟨g, 0, none⟩) X.length sc) X.length (X.map dactC)) := HM.out.touch.row HS.out fun j hj e => HN2.out (by rw [hj, e])
        have hat : (X.map dactC)[i]? = some (dactC X[i]) := by rw [List.getElem?_map, List.getElem?_eq_getElem hlx]; rfl
        have r0 : wr.cell? ⟨g, i, none⟩ = some (dactC X[i]) := by have h := hst.out.cells rfl _ _ hat; rw [Addr.add_lit] at h; simpa using h
        have hHe : Hid (X[i].held wr) := DA.held_of (HH.out _ hmem) (HM.out.touch.block _ (DA.held_lt (HH.out _ hmem)).1 (HN4.out _ hmem).1) (HM.out.touch.block _ (DA.held_lt (HH.out _ hmem)).2 (HN4.out _ hmem).2)
        have hwl : wr.heap.size ≠ lb := fun e => by have := HM.out.map.lt; omega
        have hbw : b ≠ wr.heap.size := Nat.ne_of_lt (heap_lt HM.out.box)
        have k4 : ∀ o, (wr.alloc o).cell? ⟨b, 4, none⟩ = some (.map (some lb)) := fun o => box_cell (HM.out.alloc o).box 4 rfl
        have hfit := hide (dfit_step LD X i hlx HF.out)
        have hfn := dfn_enters X[i]
        have hi0 : (0 : Int) ≤ (i : Int) := by omega
        have hi1 : (i : Int) < ((X.length : Nat) : Int) := by omega
        unfold dactC at r0
        clear k5 kf hat
        by_cases hkd : X[i].kind ≤ 1
        · have HD : Hid (∀ w1, Below wr.heap.size wr w1 → Calls Tryz.prog X[i].fn #[.map (some lb), .pointer (some ⟨X[i].c, 0, none⟩), .pointer (some ⟨X[i].d, 0, none⟩)] w1 fun e w2 => e = .returned (.tuple #[]) ∧ w2.ownsMap Tryz.prog 9 ptrR lb (n + (i + 1)) (X[i].run (drunAll LD (X.take i))) ∧ w1.grownBy w2 (some lb)) := fun w1 hb =>
            do_dir2 X[i] hkd lb (n + i) _ w1 (DA.held_of hHe.out (hb.block _ (DA.held_lt hHe.out).1) (hb.block _ (DA.held_lt hHe.out).2)) hfit.out (by unfold maxLen; omega) (HN4.out _ hmem).2 (below_map hb HM.out.map)
          rw [caps2 hkd] at r0
          obtain ⟨kk, hkk⟩ : ∃ kk, X[i].fn = kk := ⟨_, rfl⟩
          obtain ⟨cc, hcc⟩ : ∃ cc, X[i].c = cc := ⟨_, rfl⟩
          obtain ⟨dd, hdd⟩ : ∃ dd, X[i].d = dd := ⟨_, rfl⟩
          rw [hkk] at HD r0 hfn
          rw [hcc] at HD r0
          rw [hdd] at HD r0
          clear hkk hcc hdd hst hHe hfit hkd hmem
          go_wp2
          go_region_held3 (fun w' => w'.cell? ⟨wr.heap.size, 0, none⟩ = some (.func (.func kk) #[] #[.pointer (some ⟨cc, 0, none⟩), .pointer (some ⟨dd, 0, none⟩)]) ∧ w'.cell? ⟨b, 4, none⟩ = some (.map (some lb)))
            (go_keep)
            ((go_at_fn kk; refine (HD.out _ (((Below.refl _ wr).alloc (Nat.le_refl _) _).drew)).mono ?_; rintro e w2 ⟨rfl, hmap, hgrow⟩; have d0 : w2.cell? ⟨wr.heap.size, 0, none⟩ = some (.func (.func kk) #[] #[.pointer (some ⟨cc, 0, none⟩), .pointer (some ⟨dd, 0, none⟩)]) := hgrow.cell (w := (wr.alloc (.cells #[.func (.func kk) #[] #[.pointer (some ⟨cc, 0, none⟩), .pointer (some ⟨dd, 0, none⟩)]] 93)).drew) (box_cell (heap_alloc_new wr _) 0 rfl) (by simpa using hwl); have d1 : w2.cell? ⟨b, 4, none⟩ = some (.map (some lb)) := hgrow.cell (w := (wr.alloc (.cells #[.func (.func kk) #[] #[.pointer (some ⟨cc, 0, none⟩), .pointer (some ⟨dd, 0, none⟩)]] 93)).drew) (k4 _) (by simpa using hbl.symm)))
          clear d0 d1
          have HG := hide hgrow
          have HMM := hide hmap
          clear hgrow hmap
          go_wp2
          go_roundw
          case rel => exact ⟨i + 1, by go_num, by omega, ⟨grown_at HG.out (HM.out.alloc _).box (by simpa using fun e => hbl e), by rw [HST.out]; exact HMM.out, (HM.out.touch.alloc _).grown (w2 := w2) ⟨HG.out.os, HG.out.tape, HG.out.output, HG.out.size, HG.out.block⟩ fun j e _ => by injection e with e; exact e.symm⟩⟩
          case measure => simp [intOf]; omega
        · have HD : Hid (∀ w1, Below wr.heap.size wr w1 → Calls Tryz.prog X[i].fn #[.map (some lb), .pointer (some ⟨X[i].c, 0, none⟩)] w1 fun e w2 => e = .returned (.tuple #[]) ∧ w2.ownsMap Tryz.prog 9 ptrR lb (n + (i + 1)) (X[i].run (drunAll LD (X.take i))) ∧ w1.grownBy w2 (some lb)) := fun w1 hb =>
            do_dir1 X[i] hkd lb (n + i) _ w1 (DA.held_of hHe.out (hb.block _ (DA.held_lt hHe.out).1) (hb.block _ (DA.held_lt hHe.out).2)) (below_map hb HM.out.map)
          rw [caps1 hkd] at r0
          obtain ⟨kk, hkk⟩ : ∃ kk, X[i].fn = kk := ⟨_, rfl⟩
          obtain ⟨cc, hcc⟩ : ∃ cc, X[i].c = cc := ⟨_, rfl⟩
          rw [hkk] at HD r0 hfn
          rw [hcc] at HD r0
          clear hkk hcc hst hHe hfit hkd hmem
          go_wp2
          go_region_held3 (fun w' => w'.cell? ⟨wr.heap.size, 0, none⟩ = some (.func (.func kk) #[] #[.pointer (some ⟨cc, 0, none⟩)]) ∧ w'.cell? ⟨b, 4, none⟩ = some (.map (some lb)))
            (go_keep)
            ((go_at_fn kk; refine (HD.out _ (((Below.refl _ wr).alloc (Nat.le_refl _) _).drew)).mono ?_; rintro e w2 ⟨rfl, hmap, hgrow⟩; have d0 : w2.cell? ⟨wr.heap.size, 0, none⟩ = some (.func (.func kk) #[] #[.pointer (some ⟨cc, 0, none⟩)]) := hgrow.cell (w := (wr.alloc (.cells #[.func (.func kk) #[] #[.pointer (some ⟨cc, 0, none⟩)]] 93)).drew) (box_cell (heap_alloc_new wr _) 0 rfl) (by simpa using hwl); have d1 : w2.cell? ⟨b, 4, none⟩ = some (.map (some lb)) := hgrow.cell (w := (wr.alloc (.cells #[.func (.func kk) #[] #[.pointer (some ⟨cc, 0, none⟩)]] 93)).drew) (k4 _) (by simpa using hbl.symm)))
          clear d0 d1
          have HG := hide hgrow
          have HMM := hide hmap
          clear hgrow hmap
          go_wp2
          go_roundw
          case rel => exact ⟨i + 1, by go_num, by omega, ⟨grown_at HG.out (HM.out.alloc _).box (by simpa using fun e => hbl e), by rw [HST.out]; exact HMM.out, (HM.out.touch.alloc _).grown (w2 := w2) ⟨HG.out.os, HG.out.tape, HG.out.output, HG.out.size, HG.out.block⟩ fun j e _ => by injection e with e; exact e.symm⟩⟩
          case measure => simp [intOf]; omega
      · have hik : i = X.length := by omega
        have HIK := hide hik
        clear hik
        go_wp2
        go_end0
        have e := HIK.out
        have hM := HM.out
        rw [e] at hM
        exact ⟨rfl, box_set hM.box 5 _, (hM.map.mono (by omega)).setCell (a := ⟨b, 5, none⟩) hbl _, (hM.touch.mono fun j _ h => .inr h).setCell _ _ fun _ => .inl rfl⟩

end Go.Proofs.YtknldpaaikcedaaGreat
