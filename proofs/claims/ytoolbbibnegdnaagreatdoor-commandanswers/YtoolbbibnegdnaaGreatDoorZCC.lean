/-
  onlyBody, Asked (mkcc.py)
-/
import Derived.Test.YtoolbbibnegdnaaGreatDoorZCA
namespace Go.Proofs.YtoolbbibnegdnaaGreatDoor
open Go.RowKit

attribute [local go_sem ↓] Go.wp_at_zero Go.wp_at_succ
set_option linter.unusedSimpArgs false
set_option linter.unusedVariables false
/-- The one body of a frame. -/
def onlyF (s : List UInt8) : List UInt8 × Int := if (takeF s).2.2 ≠ 0 then ([], (takeF s).2.2) else if (takeF s).2.1 ≠ s.length then ([], 10) else ((takeF s).1, 0)
theorem onlyF_small (s : List UInt8) : (onlyF s).1.length ≤ 400000 := by
  unfold onlyF
  split
  · simp
  · split
    · simp
    · exact takeF_small s
theorem onlyF_ok {s : List UInt8} (h : (onlyF s).2 = 0) : (takeF s).2.2 = 0 ∧ (takeF s).2.1 = s.length ∧ (onlyF s).1 = (takeF s).1 := by
  unfold onlyF at h ⊢
  by_cases h1 : (takeF s).2.2 = 0
  · rw [if_neg (fun e => e h1)] at h ⊢
    by_cases h2 : (takeF s).2.1 = s.length
    · rw [if_neg (fun e => e h2)]
      exact ⟨h1, h2, rfl⟩
    · rw [if_pos h2] at h; cases h
  · rw [if_pos h1] at h; exact absurd h h1
theorem onlyF_bad {s : List UInt8} (h : (onlyF s).2 ≠ 0) : ((takeF s).2.2 ≠ 0 ∧ (onlyF s).2 = (takeF s).2.2) ∨ ((takeF s).2.2 = 0 ∧ (takeF s).2.1 ≠ s.length ∧ (onlyF s).2 = 10) := by
  unfold onlyF at h ⊢
  by_cases h1 : (takeF s).2.2 = 0
  · rw [if_neg (fun e => e h1)] at h ⊢
    by_cases h2 : (takeF s).2.1 = s.length
    · rw [if_neg (fun e => e h2)] at h; exact absurd rfl h
    · rw [if_pos h2]
      exact .inr ⟨h1, h2, rfl⟩
  · rw [if_pos h1]
    exact .inl ⟨h1, rfl⟩
set_option maxHeartbeats 2000000 in
theorem ponly (s : ByteArray) (h63 : s.size ≤ 9223372036854775807) (w : World) (hT : Tab w) :
    Calls Tryz.prog 22 #[.string s] w fun e w' => e = .returned (.tuple #[.string ⟨(onlyF s.data.toList).1.toArray⟩, .int .i64 (onlyF s.data.toList).2]) ∧ Below w.heap.size w w' := by
  have HC := hide (take_any s w hT h63)
  have hsz : s.data.toList.length = s.size := by simp
  unfold onlyF
  rw [hsz]
  generalize takeF s.data.toList = T at *
  obtain ⟨b, n, er⟩ := T
  simp only at HC
  simp only
  clear hsz hT h63
  by_cases he : er = 0
  · subst he
    rw [if_neg (fun e => e rfl)]
    by_cases hn : n = s.size
    · rw [if_neg (fun e => e hn)]
      have hnm : ((n : Int) != (s.size : Int)) = false := by rw [bne_eq_false_iff_eq]; omega
      have hnm2 : (n != s.size) = false := by rw [bne_eq_false_iff_eq]; omega
      have HN := hide hn
      clear hn
      generalize b.toArray = ba at *
      go_enter Tryz.func22, Tryz.ntmps22
      go_wp2_with fail
      refine HC.out.mono ?_
      rintro e w1 ⟨rfl, b1⟩
      have B1 := hide b1
      clear b1 HC
      go_wp2
      go_ret2
      exact ⟨rfl, B1.out⟩
    · rw [if_pos hn]
      have hnm : ((n : Int) != (s.size : Int)) = true := by rw [bne_iff_ne]; omega
      have hnm2 : (n != s.size) = true := by rw [bne_iff_ne]; omega
      clear hn
      generalize b.toArray = ba at *
      go_enter Tryz.func22, Tryz.ntmps22
      go_wp2_with fail
      refine HC.out.mono ?_
      rintro e w1 ⟨rfl, b1⟩
      have B1 := hide b1
      clear b1 HC
      go_wp2
      go_ret2
      exact ⟨rfl, B1.out⟩
  · rw [if_pos he]
    have hne : (er != 0) = true := by rw [bne_iff_ne]; exact he
    generalize b.toArray = ba at *
    clear he
    go_enter Tryz.func22, Tryz.ntmps22
    go_wp2_with fail
    refine HC.out.mono ?_
    rintro e w1 ⟨rfl, b1⟩
    have B1 := hide b1
    clear b1 HC
    go_wp2
    go_ret2
    exact ⟨rfl, B1.out⟩
theorem askC_bad {s : List UInt8} (h : (onlyF s).2 ≠ 0) : askC s = (CM.zero, (onlyF s).2) := by
  unfold askC
  rcases onlyF_bad h with ⟨h1, h2⟩ | ⟨h1, h2, h3⟩
  · rw [if_pos h1, h2]
  · rw [if_neg (fun e => e h1), if_pos h2, h3]
theorem askC_ok {s : List UInt8} (h : (onlyF s).2 = 0) : askC s = if (decC (onlyF s).1).2 ≠ 0 then (CM.zero, 10) else if (decC (onlyF s).1).1.node ≠ 0 then (CM.zero, 10) else decC (onlyF s).1 := by
  obtain ⟨h1, h2, h3⟩ := onlyF_ok h
  unfold askC
  rw [if_neg (fun e => e h1), if_neg (fun e => e h2), h3]
set_option maxHeartbeats 4000000 in
set_option maxRecDepth 100000 in
theorem pasked (s : ByteArray) (h63 : s.size ≤ 9223372036854775807) (w : World) (hT : Tab w) :
    Calls Tryz.prog 8 #[.string s] w fun e w' => e = .returned (.tuple #[(askC s.data.toList).1.v, .int .i64 (askC s.data.toList).2]) ∧ Below w.heap.size w w' := by
  have HC := hide (fun W hW => ponly s h63 W hW)
  have hsm := onlyF_small s.data.toList
  have K0 := hide (CB.new w CM.zero)
  have HT := hide (hT.below ((Below.refl _ w).alloc (Nat.le_refl _) (.cells CM.zero.cells 23)))
  simp only [CM.zero, CM.cells] at K0 HT
  clear hT
  by_cases he : (onlyF s.data.toList).2 = 0
  · rw [askC_ok he]
    generalize onlyF s.data.toList = T at *
    obtain ⟨b, er⟩ := T
    simp only at *
    subst he
    have HD := hide (pdec ⟨b.toArray⟩ (by show b.toArray.size ≤ _; simp; omega))
    rw [show ((⟨b.toArray⟩ : ByteArray).data.toList) = b by simp] at HD
    generalize b.toArray = ba at *
    generalize decC b = D at *
    obtain ⟨x, fe⟩ := D
    simp only at *
    by_cases hfe : fe = 0
    · subst hfe
      rw [if_neg (fun e => e rfl)]
      obtain ⟨k, t, m, s', y, v, n, o, a⟩ := x
      simp only [CM.v, CM.cells] at HD
      simp only
      by_cases hno : o = 0
      · subst hno
        rw [if_neg (fun e => e rfl)]
        clear hsm h63
        go_enter Tryz.func8, Tryz.ntmps8
        go_wp2_with fail
        refine (HC.out _ HT.out).mono ?_
        rintro e w1 ⟨rfl, b1⟩
        have K1 := hide (K0.out.to b1)
        clear b1 HC K0
        go_wp2_with fail
        refine (HD.out _).mono ?_
        rintro e w2 ⟨rfl, b2⟩
        have K2 := hide (K1.out.to b2)
        have K3 := hide (K2.out.to ((Below.refl _ w2).alloc (Nat.le_refl _) (.cells (CM.mk k t m s' y v n 0 a).cells 23)))
        have X3 := hide (heap_alloc_new w2 (.cells (CM.mk k t m s' y v n 0 a).cells 23))
        have hlt := heap_lt K2.out.box
        have hne : w.heap.size ≠ w2.heap.size := Nat.ne_of_lt hlt
        simp only [CM.cells] at K3 X3
        clear b2 K1 HD K2
        go_upto_region 5 with fail
        generalize w2.alloc (.cells #[.int .i64 k, .string t, .string m, .int .i64 s', .string y, .string v, .int .i64 n, .int .i64 0, .int .i64 a] 23) = w3 at *
        obtain ⟨⟨c0, c1, c2, c3, c4, c5, c6, c7, c8⟩, ⟨f0, f1, f2, f3, f4, f5, f6, f7, f8⟩⟩ := box9 K3.out.box
        obtain ⟨⟨d0, d1, d2, d3, d4, d5, d6, d7, d8⟩, _⟩ := box9 (c := CM.mk k t m s' y v n 0 a) X3.out
        simp only at c0 c1 c2 c3 c4 c5 c6 c7 c8 d0 d1 d2 d3 d4 d5 d6 d7 d8
        go_wp2
        refine bodyPost_ret (v := .tuple #[(CM.mk k t m s' y v n 0 a).v, .int .i64 0]) (by simp [results, Tryz.results8, go_sem, CM.v, CM.cells, c0, c1, c2, c3, c4, c5, c6, c7, c8]) rfl ⟨rfl, ?_⟩
        exact set9_below (c := CM.mk k t m s' y v n 0 a) K3.out.below (Nat.le_refl _)
      · have hnb : (o != 0) = true := by rw [bne_iff_ne]; exact hno
        rw [if_pos hno]
        clear hsm h63 hno
        go_enter Tryz.func8, Tryz.ntmps8
        go_wp2_with fail
        refine (HC.out _ HT.out).mono ?_
        rintro e w1 ⟨rfl, b1⟩
        have K1 := hide (K0.out.to b1)
        clear b1 HC K0
        go_wp2_with fail
        refine (HD.out _).mono ?_
        rintro e w2 ⟨rfl, b2⟩
        have K2 := hide (K1.out.to b2)
        have K3 := hide (K2.out.to ((Below.refl _ w2).alloc (Nat.le_refl _) (.cells (CM.mk k t m s' y v n o a).cells 23)))
        have X3 := hide (heap_alloc_new w2 (.cells (CM.mk k t m s' y v n o a).cells 23))
        have hlt := heap_lt K2.out.box
        have hne : w.heap.size ≠ w2.heap.size := Nat.ne_of_lt hlt
        simp only [CM.cells] at K3 X3
        clear b2 K1 HD K2
        go_upto_region 5 with fail
        generalize w2.alloc (.cells #[.int .i64 k, .string t, .string m, .int .i64 s', .string y, .string v, .int .i64 n, .int .i64 o, .int .i64 a] 23) = w3 at *
        obtain ⟨⟨c0, c1, c2, c3, c4, c5, c6, c7, c8⟩, ⟨f0, f1, f2, f3, f4, f5, f6, f7, f8⟩⟩ := box9 K3.out.box
        obtain ⟨⟨d0, d1, d2, d3, d4, d5, d6, d7, d8⟩, _⟩ := box9 (c := CM.mk k t m s' y v n o a) X3.out
        simp only at c0 c1 c2 c3 c4 c5 c6 c7 c8 d0 d1 d2 d3 d4 d5 d6 d7 d8
        go_wp2
        refine bodyPost_ret (v := .tuple #[CM.zero.v, .int .i64 10]) (by simp [results, Tryz.results8, go_sem, CM.zero, CM.v, CM.cells, c0, c1, c2, c3, c4, c5, c6, c7, c8]) rfl ⟨rfl, ?_⟩
        exact set9_below (c := CM.zero) K3.out.below (Nat.le_refl _)
    · have hnb : (fe != 0) = true := by rw [bne_iff_ne]; exact hfe
      rw [if_pos hfe]
      obtain ⟨k, t, m, s', y, v, n, o, a⟩ := x
      simp only [CM.v, CM.cells] at HD
      clear hsm h63 hfe
      go_enter Tryz.func8, Tryz.ntmps8
      go_wp2_with fail
      refine (HC.out _ HT.out).mono ?_
      rintro e w1 ⟨rfl, b1⟩
      have K1 := hide (K0.out.to b1)
      clear b1 HC K0
      go_wp2_with fail
      refine (HD.out _).mono ?_
      rintro e w2 ⟨rfl, b2⟩
      have K2 := hide (K1.out.to b2)
      have K3 := hide (K2.out.to ((Below.refl _ w2).alloc (Nat.le_refl _) (.cells (CM.mk k t m s' y v n o a).cells 23)))
      have X3 := hide (heap_alloc_new w2 (.cells (CM.mk k t m s' y v n o a).cells 23))
      have hlt := heap_lt K2.out.box
      have hne : w.heap.size ≠ w2.heap.size := Nat.ne_of_lt hlt
      simp only [CM.cells] at K3 X3
      clear b2 K1 HD K2
      go_upto_region 5 with fail
      generalize w2.alloc (.cells #[.int .i64 k, .string t, .string m, .int .i64 s', .string y, .string v, .int .i64 n, .int .i64 o, .int .i64 a] 23) = w3 at *
      obtain ⟨⟨c0, c1, c2, c3, c4, c5, c6, c7, c8⟩, ⟨f0, f1, f2, f3, f4, f5, f6, f7, f8⟩⟩ := box9 K3.out.box
      obtain ⟨⟨d0, d1, d2, d3, d4, d5, d6, d7, d8⟩, _⟩ := box9 (c := CM.mk k t m s' y v n o a) X3.out
      simp only at c0 c1 c2 c3 c4 c5 c6 c7 c8 d0 d1 d2 d3 d4 d5 d6 d7 d8
      go_wp2
      refine bodyPost_ret (v := .tuple #[CM.zero.v, .int .i64 10]) (by simp [results, Tryz.results8, go_sem, CM.zero, CM.v, CM.cells, c0, c1, c2, c3, c4, c5, c6, c7, c8]) rfl ⟨rfl, ?_⟩
      exact set9_below (c := CM.zero) K3.out.below (Nat.le_refl _)
  · rw [askC_bad he]
    generalize onlyF s.data.toList = T at *
    obtain ⟨b, er⟩ := T
    simp only at *
    have hnb : (er != 0) = true := by rw [bne_iff_ne]; exact he
    generalize b.toArray = ba at *
    clear hsm h63 he
    go_enter Tryz.func8, Tryz.ntmps8
    go_wp2_with fail
    refine (HC.out _ HT.out).mono ?_
    rintro e w1 ⟨rfl, b1⟩
    have K1 := hide (K0.out.to b1)
    obtain ⟨⟨c0, c1, c2, c3, c4, c5, c6, c7, c8⟩, ⟨f0, f1, f2, f3, f4, f5, f6, f7, f8⟩⟩ := box9 K1.out.box
    simp only at c0 c1 c2 c3 c4 c5 c6 c7 c8
    clear b1 HC K0
    go_wp2
    refine bodyPost_ret (v := .tuple #[CM.zero.v, .int .i64 er]) (by simp [results, Tryz.results8, go_sem, CM.zero, CM.v, CM.cells, c0, c1, c2, c3, c4, c5, c6, c7, c8]) rfl ⟨rfl, ?_⟩
    exact set9_below (c := CM.zero) K1.out.below (Nat.le_refl _)
end Go.Proofs.YtoolbbibnegdnaaGreatDoor
