/-
  begin, as it runs.
-/
import Derived.Test.YthgfijmpofbchaaZTV
import Derived.Test.YthgfijmpofbchaaZE2
import Derived.RegionTactic
namespace Go.Proofs.Ythgfijmpofbchaa
open Go.RowKit

theorem makeWays (w : World) : (Instr.makeSlice 54 (.int .i64 2) (.int .i64 2)).run Try.prog w = .ok (.slice (some ⟨w.heap.size, 0, none⟩) 2 2) (w.alloc (.cells #[.slice none 0 0, .slice none 0 0] 38)) := by kernel_rfl
theorem makeTexts (w : World) : (Instr.makeSlice 55 (.int .i64 2) (.int .i64 2)).run Try.prog w = .ok (.slice (some ⟨w.heap.size, 0, none⟩) 2 2) (w.alloc (.cells #[.slice none 0 0, .slice none 0 0] 40)) := by kernel_rfl
theorem pa_begin {w W : World} {B a b : Nat} (hA : PL W a (.slice none 0 0) (LK.new 3)) (hB : PL W b (.slice none 0 0) (LK.new 5)) (hab : a < b) (hBa : B ≤ a) {n pb lb wb sb tb : Nat} (hn : b < n)
    (box : W.heap[pb]? = some (.cells #[sl2 lb, sl2 wb, sl2 sb, sl2 tb] 57 (0, 0)))
    (lbox : W.heap[lb]? = some (.cells #[.pointer (some ⟨a, 0, none⟩), .pointer (some ⟨b, 0, none⟩)] 24 (0, 0)))
    (wbox : W.heap[wb]? = some (.cells #[.slice none 0 0, .slice none 0 0] 38 (0, 0)))
    (sbox : W.heap[sb]? = some (.cells #[.slice none 0 0, .slice none 0 0] 40 (0, 0)))
    (tbox : W.heap[tb]? = some (.cells #[.slice none 0 0, .slice none 0 0] 40 (0, 0)))
    (hst : sb ≠ tb) (h1 : n ≤ pb) (h2 : n ≤ lb) (h3 : n ≤ wb) (h4 : n ≤ sb) (h5 : n ≤ tb) (_hw : w = w) : ∃ G r, PA0 B W G r (@PR.begin Ep.a) ∧ G.pb = pb := by
  have ne : ∀ {i j : Nat} {c d : Array Value} {s t : TypeId}, W.heap[i]? = some (.cells c s (0, 0)) → W.heap[j]? = some (.cells d t (0, 0)) → s ≠ t → i ≠ j := fun {i j c d s t} x y z e => by
    subst e
    rw [x] at y
    simp only [Option.some.injEq, Obj.cells.injEq] at y
    exact z y.2.1
  have n1 := ne box lbox (by decide)
  have n2 := ne box wbox (by decide)
  have n3 := ne box sbox (by decide)
  have n4 := ne box tbox (by decide)
  have n5 := ne lbox wbox (by decide)
  have n6 := ne lbox sbox (by decide)
  have n7 := ne lbox tbox (by decide)
  have n8 := ne wbox sbox (by decide)
  have n9 := ne wbox tbox (by decide)
  refine ⟨⟨pb, lb, wb, sb, tb, fun x => if x then b else a, fun _ => .slice none 0 0, fun _ => .slice none 0 0, fun _ => .slice none 0 0, fun _ => .slice none 0 0⟩, fun j => if j = pb then 1 else if j = lb then 2 else if j = wb then 3 else if j = sb then 4 else if j = tb then 5 else if j = a then 6 else if j = b then 7 else 0, ⟨box, ?_, wbox, sbox, tbox, fun x => ?_, fun x => World.ownsRow_nil _ _ _ _, fun x => World.ownsRow_nil _ _ _ _, fun x => World.ownsRow_nil _ _ _ _, ?_, ?_, ?_, ?_, ?_, fun x => ?_, fun x j h => ?_, fun x j h => ?_, fun x j h => ?_, fun x j h => ?_, fun j h => ?_, ?_⟩, rfl⟩
  · exact lbox
  · cases x
    · exact hA
    · exact hB
  · simp
  · simp [n1.symm]
  · simp [n2.symm, n5.symm]
  · simp [n3.symm, n6.symm, n8.symm]
  · simp [n4.symm, n7.symm, n9.symm, hst.symm]
  · have := hab
    cases x
    · have e1 : a ≠ pb := by omega
      have e2 : a ≠ lb := by omega
      have e3 : a ≠ wb := by omega
      have e4 : a ≠ sb := by omega
      have e5 : a ≠ tb := by omega
      simp [ix, e1, e2, e3, e4, e5]
    · have e1 : b ≠ pb := by omega
      have e2 : b ≠ lb := by omega
      have e3 : b ≠ wb := by omega
      have e4 : b ≠ sb := by omega
      have e5 : b ≠ tb := by omega
      have e6 : b ≠ a := by omega
      simp [ix, e1, e2, e3, e4, e5, e6]
  · cases h
  · cases h
  · cases h
  · cases h
  · repeat' split at h
    all_goals omega
  · have := heap_lt hA.box
    omega
theorem heap5 (w : World) (o1 o2 o3 o4 o5 : Obj) : (((((w.alloc o1).alloc o2).alloc o3).alloc o4).alloc o5).drew.heap[w.heap.size]? = some o1 ∧ (((((w.alloc o1).alloc o2).alloc o3).alloc o4).alloc o5).drew.heap[w.heap.size + 1]? = some o2 ∧ (((((w.alloc o1).alloc o2).alloc o3).alloc o4).alloc o5).drew.heap[w.heap.size + 1 + 1]? = some o3 ∧ (((((w.alloc o1).alloc o2).alloc o3).alloc o4).alloc o5).drew.heap[w.heap.size + 1 + 1 + 1]? = some o4 ∧ (((((w.alloc o1).alloc o2).alloc o3).alloc o4).alloc o5).drew.heap[w.heap.size + 1 + 1 + 1 + 1]? = some o5 ∧ Below w.heap.size w (((((w.alloc o1).alloc o2).alloc o3).alloc o4).alloc o5).drew := by
  have s1 : (w.alloc o1).heap.size = w.heap.size + 1 := by simp
  have s2 : ((w.alloc o1).alloc o2).heap.size = w.heap.size + 1 + 1 := by simp
  have s3 : (((w.alloc o1).alloc o2).alloc o3).heap.size = w.heap.size + 1 + 1 + 1 := by simp
  have s4 : ((((w.alloc o1).alloc o2).alloc o3).alloc o4).heap.size = w.heap.size + 1 + 1 + 1 + 1 := by simp
  have a1 := heap_alloc_new w o1
  have a2 := heap_alloc_new (w.alloc o1) o2
  have a3 := heap_alloc_new ((w.alloc o1).alloc o2) o3
  have a4 := heap_alloc_new (((w.alloc o1).alloc o2).alloc o3) o4
  have a5 := heap_alloc_new ((((w.alloc o1).alloc o2).alloc o3).alloc o4) o5
  rw [s1] at a2
  rw [s2] at a3
  rw [s3] at a4
  rw [s4] at a5
  refine ⟨box_alloc (box_alloc (box_alloc (box_alloc a1 _) _) _) _, box_alloc (box_alloc (box_alloc a2 _) _) _, box_alloc (box_alloc a3 _) _, box_alloc a4 _, a5, ?_⟩
  exact (((((Below.refl _ w).alloc (Nat.le_refl _) o1).alloc (by rw [s1]; omega) o2).alloc (by rw [s2]; omega) o3).alloc (by rw [s3]; omega) o4).alloc (by rw [s4]; omega) o5 |>.drew
theorem begin_end {w w2 W : World} {bb : Nat} (P3 : Hid (PL w2 w.heap.size (.slice none 0 0) (LK.new 3))) (P2 : Hid (PL w2 bb (.slice none 0 0) (LK.new 5))) (B2 : Hid (Below w.heap.size w w2)) (L1 : Hid (w.heap.size < bb)) (L2 : Hid (bb < w2.heap.size)) {pb lb wb sb tb : Nat} (hb : Below w2.heap.size w2 W)
    (box : W.heap[pb]? = some (.cells #[sl2 lb, sl2 wb, sl2 sb, sl2 tb] 57 (0, 0)))
    (lbox : W.heap[lb]? = some (.cells #[.pointer (some ⟨w.heap.size, 0, none⟩), .pointer (some ⟨bb, 0, none⟩)] 24 (0, 0)))
    (wbox : W.heap[wb]? = some (.cells #[.slice none 0 0, .slice none 0 0] 38 (0, 0)))
    (sbox : W.heap[sb]? = some (.cells #[.slice none 0 0, .slice none 0 0] 40 (0, 0)))
    (tbox : W.heap[tb]? = some (.cells #[.slice none 0 0, .slice none 0 0] 40 (0, 0)))
    (hst : sb ≠ tb) (h1 : w2.heap.size ≤ pb) (h2 : w2.heap.size ≤ lb) (h3 : w2.heap.size ≤ wb) (h4 : w2.heap.size ≤ sb) (h5 : w2.heap.size ≤ tb) {a : Act} (h0 : a.tmps.getD 0 undef = .pointer (some ⟨pb, 0, none⟩)) (hd : a.defers = []) :
    bodyPost Try.prog Try.f21 (fun e w' => ∃ G r, e = .returned (.pointer (some ⟨G.pb, 0, none⟩)) ∧ PA ⟨w.heap.size, fun _ => none⟩ w' G r (@PR.begin Ep.a) ∧ Below w.heap.size w w') .ret a W := by
  obtain ⟨G, r, hp, he⟩ := pa_begin (w := w) (B := w.heap.size) (P3.out.below hb) (P2.out.below hb) L1.out (Nat.le_refl _) L2.out box lbox wbox sbox tbox hst h1 h2 h3 h4 h5 rfl
  have h5 : a.tmps[0]?.getD undef = .pointer (some ⟨pb, 0, none⟩) := by
    have := h0
    rw [Array.getD_eq_getD_getElem?] at this
    exact this
  refine bodyPost_ret (v := .pointer (some ⟨pb, 0, none⟩)) ?_ hd ⟨G, r, by rw [he], ⟨hp, fun _ _ e => by cases e⟩, B2.out.trans (hb.mono B2.out.size)⟩
  simp [results, Try.results21, go_sem, h5]
set_option maxHeartbeats 8000000 in
set_option maxRecDepth 100000 in
theorem begin_any (w : World) : Calls Try.prog 21 #[] w fun e w' => ∃ G r, e = .returned (.pointer (some ⟨G.pb, 0, none⟩)) ∧ PA ⟨w.heap.size, fun _ => none⟩ w' G r (@PR.begin Ep.a) ∧ Below w.heap.size w w' := by
  have hm1 := makeWays
  have hm2 := makeTexts
  go_enter Try.func21, Try.ntmps21
  go_wp2_with fail
  refine (pnew 3 (by omega) (by omega) _).mono ?_
  rintro e w1 ⟨rfl, p1, b1⟩
  have P1 := hide p1
  have B1 := hide b1
  clear p1 b1
  go_wp2_with fail
  refine (pnew 5 (by omega) (by omega) _).mono ?_
  rintro e w2 ⟨rfl, p2, b2⟩
  have P2 := hide p2
  have P3 := hide (P1.out.below b2)
  have B2 := hide (B1.out.trans (b2.mono B1.out.size))
  have L1 := hide (heap_lt P1.out.box)
  have L2 := hide (heap_lt P2.out.box)
  clear p2 b2 P1 B1
  generalize w1.heap.size = bb at *
  go_wp2_with fail
  go_region
  all_goals
    clear hm1 hm2
    go_wp2
    refine begin_end P3 P2 B2 L1 L2 (heap5 _ _ _ _ _ _).2.2.2.2.2 (heap5 _ _ _ _ _ _).2.2.2.2.1 ?_ ?_ ?_ ?_ ?_ ?_ ?_ ?_ ?_ ?_ rfl rfl
    iterate 4 first | exact (heap5 _ _ _ _ _ _).1 | exact (heap5 _ _ _ _ _ _).2.1 | exact (heap5 _ _ _ _ _ _).2.2.1 | exact (heap5 _ _ _ _ _ _).2.2.2.1
    iterate 6 omega
end Go.Proofs.Ythgfijmpofbchaa
