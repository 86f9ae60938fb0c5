/-
  The program's frameOf in plain words; Decode, as it runs.
-/
import Derived.Test.YtodfdblgkpjchaaDoorZB3
namespace Go.Proofs.YtodfdblgkpjchaaDoor
open Go.RowKit

theorem wrap64_fr {a b c d : Int} {s : ByteArray} (h : (⟨a, b, c, d, s⟩ : FR).rightP) : (⟨wrap64 a, wrap64 b, wrap64 c, wrap64 d, s⟩ : FR) = ⟨a, b, c, d, s⟩ := by
  obtain ⟨h1, h2, h3, h4, h5, h6, h7, h8, _⟩ := h
  simp only at h1 h2 h3 h4 h5 h6 h7 h8
  have e1 : wrap64 a = a := by unfold wrap64; omega
  have e2 : wrap64 b = b := by unfold wrap64; omega
  have e3 : wrap64 c = c := by unfold wrap64; omega
  have e4 : wrap64 d = d := by unfold wrap64; omega
  rw [e1, e2, e3, e4]
theorem wrap64_right {a b c d : Int} {s : ByteArray} (a1 : 0 ≤ a) (a2 : a < 18446744073709551616) (b1 : 0 ≤ b) (b2 : b < 18446744073709551616) (c1 : 0 ≤ c) (c2 : c < 18446744073709551616) (d1 : 0 ≤ d) (d2 : d < 18446744073709551616) (h : (⟨wrap64 a, wrap64 b, wrap64 c, wrap64 d, s⟩ : FR).rightP) : (⟨a, b, c, d, s⟩ : FR).rightP := by
  unfold FR.rightP at *
  simp only at *
  obtain ⟨h1, h2, h3, h4, h5, h6, h7, h8, h9, h10⟩ := h
  have e1 : wrap64 a = a := by unfold wrap64 at *; omega
  have e2 : wrap64 b = b := by unfold wrap64 at *; omega
  have e3 : wrap64 c = c := by unfold wrap64 at *; omega
  have e4 : wrap64 d = d := by unfold wrap64 at *; omega
  rw [e1] at h1 h2
  rw [e2] at h3 h4
  rw [e3] at h5 h6 h10
  rw [e4] at h7 h8
  exact ⟨h1, h2, h3, h4, h5, h6, h7, h8, h9, h10⟩
theorem frameOf_any (s : ByteArray) (h : s.size ≤ 400000) (w : World) :
    Calls Tryd.prog 23 #[.string s] w fun e w' => (∃ x : FR, e = .returned (.tuple #[x.v, .bool (readL s.data.toList).isSome]) ∧ ∀ r, readL s.data.toList = some r → x = r) ∧ Below w.heap.size w w' := by
  by_cases hd : (K.decF shapeL s.data.toList).2 = 0
  · obtain ⟨a, b, c, d, e, h5⟩ := dec_five _ hd
    obtain ⟨_, hok, _⟩ := K.again_pure shapeL s.data.toList hd
    rw [h5] at hok
    obtain ⟨_, _, a1, a2, _⟩ := hok a (by simp)
    obtain ⟨_, _, b1, b2, _⟩ := hok b (by simp)
    obtain ⟨_, _, c1, c2, _⟩ := hok c (by simp)
    obtain ⟨_, _, d1, d2, _⟩ := hok d (by simp)
    obtain ⟨_, _, _, _, es⟩ := hok e (by simp)
    have hes : e.s.size ≤ 9223372036854775807 := by
      have hh := dec_items _ hd
      rw [h5] at hh
      have h6 := (K.again_pure shapeL s.data.toList hd).1
      have h7 := congrArg (fun x => x.1.length) h6
      have h8 : (K.encF [a, b, c, d, e]).2 = 0 := by rw [← h5, h6]
      rw [h5] at h6
      have h9 := K.encF_len [a, b, c, d, e]
      have h10 := (K.firstFault_zero [a, b, c, d, e]).1 (by
        unfold K.encF at h8
        split at h8
        · cases h8
        · split at h8
          · assumption
          · exact absurd h8 (by assumption)) e (by simp)
      unfold K.faultF at h10
      split at h10
      · cases h10
      · split at h10
        · cases h10
        · split at h10
          · cases h10
          · split at h10
            · cases h10
            · omega
    have e5 : K.decF shapeL s.data.toList = ([a, b, c, d, e], 0) := Prod.ext h5 hd
    refine (frameOf_five s h w a b c d e e5 ⟨wrap64 a.n, wrap64 b.n, wrap64 c.n, wrap64 d.n, e.s⟩ rfl hes).mono ?_
    rintro e' w' ⟨rfl, hb⟩
    refine ⟨⟨⟨wrap64 a.n, wrap64 b.n, wrap64 c.n, wrap64 d.n, e.s⟩, ?_, ?_⟩, hb⟩
    · have : (readL s.data.toList).isSome = decide (⟨wrap64 a.n, wrap64 b.n, wrap64 c.n, wrap64 d.n, e.s⟩ : FR).rightP := by
        unfold readL
        rw [if_pos hd, h5]
        change (if (⟨a.n, b.n, c.n, d.n, e.s⟩ : FR).rightP then some (⟨a.n, b.n, c.n, d.n, e.s⟩ : FR) else none).isSome = _
        by_cases hr : (⟨a.n, b.n, c.n, d.n, e.s⟩ : FR).rightP
        · rw [if_pos hr, wrap64_fr hr, decide_eq_true hr]
          rfl
        · rw [if_neg hr, decide_eq_false fun x => hr (wrap64_right a1 a2 b1 b2 c1 c2 d1 d2 x)]
          rfl
      rw [this]
    · intro r hr
      unfold readL at hr
      rw [if_pos hd, h5] at hr
      change (if (⟨a.n, b.n, c.n, d.n, e.s⟩ : FR).rightP then some (⟨a.n, b.n, c.n, d.n, e.s⟩ : FR) else none) = _ at hr
      by_cases hx : (⟨a.n, b.n, c.n, d.n, e.s⟩ : FR).rightP
      · rw [if_pos hx] at hr
        injection hr with hr
        rw [← hr]
        exact wrap64_fr hx
      · rw [if_neg hx] at hr
        cases hr
  · refine (frameOf_bad s h w hd).mono ?_
    rintro e' w' ⟨rfl, hb⟩
    have : readL s.data.toList = none := by unfold readL; rw [if_neg hd]
    rw [this]
    exact ⟨⟨FR.zero, rfl, fun r hr => by cases hr⟩, hb⟩
theorem set5_new {W : World} {b : Nat} {t : TypeId} {v0 v1 v2 v3 v4 x0 x1 x2 x3 x4 : Value} (h : W.heap[b]? = some (.cells #[v0, v1, v2, v3, v4] t)) (o : Obj) :
    ((set5 W b x0 x1 x2 x3 x4).alloc o).cell? ⟨b, 0, none⟩ = some x0 ∧ ((set5 W b x0 x1 x2 x3 x4).alloc o).cell? ⟨b, 1, none⟩ = some x1 ∧ ((set5 W b x0 x1 x2 x3 x4).alloc o).cell? ⟨b, 2, none⟩ = some x2 ∧ ((set5 W b x0 x1 x2 x3 x4).alloc o).cell? ⟨b, 3, none⟩ = some x3 ∧ ((set5 W b x0 x1 x2 x3 x4).alloc o).cell? ⟨b, 4, none⟩ = some x4 := by
  have h1 := set5_box (x0 := x0) (x1 := x1) (x2 := x2) (x3 := x3) (x4 := x4) h
  have h2 := (heap_alloc_old _ o (Array.getElem?_eq_some_iff.1 h1).1).trans h1
  exact (box5 h2).1
theorem decL_fault {s : List UInt8} (h1 : (takeF s).2.2 ≠ 0) : decL s = (FR.zero, (takeF s).2.2) := by unfold decL; rw [if_pos h1]
theorem decL_left {s : List UInt8} (h1 : (takeF s).2.2 = 0) (h2 : (takeF s).2.1 ≠ s.length) : decL s = (FR.zero, 10) := by unfold decL; rw [if_neg (fun e => e h1), if_pos h2]
theorem decL_none {s : List UInt8} (h1 : (takeF s).2.2 = 0) (h2 : (takeF s).2.1 = s.length) (h3 : readL (takeF s).1 = none) : decL s = (FR.zero, 10) := by unfold decL; rw [if_neg (fun e => e h1), if_neg (fun e => e h2), h3]
theorem decL_some {s : List UInt8} {r : FR} (h1 : (takeF s).2.2 = 0) (h2 : (takeF s).2.1 = s.length) (h3 : readL (takeF s).1 = some r) : decL s = (r, 0) := by unfold decL; rw [if_neg (fun e => e h1), if_neg (fun e => e h2), h3]
set_option maxHeartbeats 2000000 in
theorem pdec_any (s : ByteArray) (h63 : s.size ≤ 9223372036854775807) (w : World) (hT : Tab w) :
    Calls Tryd.prog 8 #[.string s] w fun e w' => e = .returned (.tuple #[(decL s.data.toList).1.v, .int .i64 (decL s.data.toList).2]) ∧ Below w.heap.size w w' := by
  have HC := hide (take_any s (w.alloc (.cells #[.int .i64 0, .int .i64 0, .int .i64 0, .int .i64 0, .string ⟨#[]⟩] 23)) (hT.below ((Below.refl _ _).alloc (Nat.le_refl _) _)) h63)
  have hsm := takeF_small s.data.toList
  have hsz : s.data.toList.length = s.size := by simp
  have h1 := @decL_fault s.data.toList
  have h2 := @decL_left s.data.toList
  have h3 := @decL_none s.data.toList
  have h4 := @decL_some s.data.toList
  rw [hsz] at h2 h3 h4
  generalize decL s.data.toList = DD at *
  generalize takeF s.data.toList = T at *
  obtain ⟨b, n, er⟩ := T
  simp only at *
  clear hsz
  by_cases he : er = 0
  · subst he
    by_cases hn : n = s.size
    · have HR := hide (frameOf_any ⟨b.toArray⟩ (by show b.toArray.size ≤ _; simpa using hsm))
      rw [show ((⟨b.toArray⟩ : ByteArray).data.toList) = b by simp] at HR
      have hnn : ((n : Int) == (s.size : Int)) = true := by rw [beq_iff_eq]; omega
      have hnm : ((n : Int) != (s.size : Int)) = false := by rw [bne_eq_false_iff_eq]; omega
      generalize b.toArray = ba at *
      cases hr : readL b with
      | none =>
        have hD := h3 rfl hn hr
        subst hD
        rw [hr] at HR
        have HN := hide hn
        clear h1 h2 h3 h4 hr hsm hn
        go_enter Tryd.func8, Tryd.ntmps8
        go_wp2_with fail
        refine HC.out.mono ?_
        rintro e w1 ⟨rfl, b1⟩
        have x1 := (b1.block w.heap.size (by simp)).trans (heap_alloc_new _ _)
        have B1 : Hid (Below w.heap.size w w1) := ((Below.refl _ _).alloc (Nat.le_refl _) _).trans (b1.mono (by simp))
        clear b1 HC
        go_wp2_with fail
        refine (HR.out _).mono ?_
        rintro e w2 ⟨⟨x, rfl, _⟩, b2⟩
        have x2 := (b2.block w.heap.size (Array.getElem?_eq_some_iff.1 x1).1).trans x1
        have B2 : Hid (Below w.heap.size w w2) := B1.out.trans (b2.mono B1.out.size)
        obtain ⟨⟨c0, c1, c2, c3, c4⟩, f0, f1, f2, f3, f4⟩ := box5 x2
        have hlt : w.heap.size < w2.heap.size := (Array.getElem?_eq_some_iff.1 x2).1
        have hne : w.heap.size ≠ w2.heap.size := by omega
        obtain ⟨xe, xp, xs, xa, xb⟩ := x
        simp only [FR.v, Option.isSome]
        have X2 := hide x2
        clear b2 x1 x2 HR B1
        go_wp2
        refine bodyPost_ret (v := .tuple #[FR.zero.v, .int .i64 10]) ?res rfl ⟨rfl, (set5_below B2.out (Nat.le_refl _)).alloc (by simp [set5, World.setCell]; omega) _⟩
        case res =>
          obtain ⟨d0, d1, d2, d3, d4⟩ := set5_new (x0 := .int .i64 0) (x1 := .int .i64 0) (x2 := .int .i64 0) (x3 := .int .i64 0) (x4 := .string ⟨#[]⟩) X2.out (.cells #[.int .i64 xe, .int .i64 xp, .int .i64 xs, .int .i64 xa, .string xb] 23)
          simp only [set5] at d0 d1 d2 d3 d4
          simp [results, Tryd.results8, go_sem, FR.zero, FR.v, d0, d1, d2, d3, d4]
      | some r =>
        have hD := h4 (r := r) rfl hn hr
        subst hD
        rw [hr] at HR
        have HN := hide hn
        clear h1 h2 h3 h4 hsm hn
        go_enter Tryd.func8, Tryd.ntmps8
        go_wp2_with fail
        refine HC.out.mono ?_
        rintro e w1 ⟨rfl, b1⟩
        have x1 := (b1.block w.heap.size (by simp)).trans (heap_alloc_new _ _)
        have B1 : Hid (Below w.heap.size w w1) := ((Below.refl _ _).alloc (Nat.le_refl _) _).trans (b1.mono (by simp))
        clear b1 HC
        go_wp2_with fail
        refine (HR.out _).mono ?_
        rintro e w2 ⟨⟨x, rfl, hx⟩, b2⟩
        obtain rfl := hx r rfl
        have x2 := (b2.block w.heap.size (Array.getElem?_eq_some_iff.1 x1).1).trans x1
        have B2 : Hid (Below w.heap.size w w2) := B1.out.trans (b2.mono B1.out.size)
        obtain ⟨⟨c0, c1, c2, c3, c4⟩, f0, f1, f2, f3, f4⟩ := box5 x2
        have hlt : w.heap.size < w2.heap.size := (Array.getElem?_eq_some_iff.1 x2).1
        have hne : w.heap.size ≠ w2.heap.size := by omega
        obtain ⟨xe, xp, xs, xa, xb⟩ := x
        simp only [FR.v, Option.isSome]
        have X2 := hide x2
        clear b2 x1 x2 HR B1 hx hr
        go_wp2
        refine bodyPost_ret (v := .tuple #[.agg #[.int .i64 xe, .int .i64 xp, .int .i64 xs, .int .i64 xa, .string xb], .int .i64 0]) ?res rfl ⟨rfl, (set5_below B2.out (Nat.le_refl _)).alloc (by simp [set5, World.setCell]; omega) _⟩
        case res =>
          obtain ⟨d0, d1, d2, d3, d4⟩ := set5_new (x0 := .int .i64 xe) (x1 := .int .i64 xp) (x2 := .int .i64 xs) (x3 := .int .i64 xa) (x4 := .string xb) X2.out (.cells #[.int .i64 xe, .int .i64 xp, .int .i64 xs, .int .i64 xa, .string xb] 23)
          simp only [set5] at d0 d1 d2 d3 d4
          simp [results, Tryd.results8, go_sem, d0, d1, d2, d3, d4]
    · have hD := h2 rfl hn
      subst hD
      have hnn : ((n : Int) == (s.size : Int)) = false := by rw [beq_eq_false_iff_ne]; omega
      have hnm : ((n : Int) != (s.size : Int)) = true := by rw [bne_iff_ne]; omega
      have hnm2 : (n != s.size) = true := by rw [bne_iff_ne]; omega
      generalize b.toArray = ba at *
      clear h1 h2 h3 h4 hsm hn
      go_enter Tryd.func8, Tryd.ntmps8
      go_wp2_with fail
      refine HC.out.mono ?_
      rintro e w1 ⟨rfl, b1⟩
      have x1 := (b1.block w.heap.size (by simp)).trans (heap_alloc_new _ _)
      have B1 : Hid (Below w.heap.size w w1) := ((Below.refl _ _).alloc (Nat.le_refl _) _).trans (b1.mono (by simp))
      obtain ⟨⟨c0, c1, c2, c3, c4⟩, f0, f1, f2, f3, f4⟩ := box5 x1
      clear b1 HC x1
      go_wp2
      refine bodyPost_ret (v := .tuple #[FR.zero.v, .int .i64 10]) (by simp [results, Tryd.results8, go_sem, FR.zero, FR.v, c0, c1, c2, c3, c4]) rfl ⟨rfl, ?_⟩
      exact set5_below B1.out (Nat.le_refl _)
  · have hD := h1 he
    subst hD
    have hne : (er != 0) = true := by rw [bne_iff_ne]; exact he
    generalize b.toArray = ba at *
    clear h1 h2 h3 h4 hsm
    go_enter Tryd.func8, Tryd.ntmps8
    go_wp2_with fail
    refine HC.out.mono ?_
    rintro e w1 ⟨rfl, b1⟩
    have x1 := (b1.block w.heap.size (by simp)).trans (heap_alloc_new _ _)
    have B1 : Hid (Below w.heap.size w w1) := ((Below.refl _ _).alloc (Nat.le_refl _) _).trans (b1.mono (by simp))
    obtain ⟨⟨c0, c1, c2, c3, c4⟩, f0, f1, f2, f3, f4⟩ := box5 x1
    clear b1 HC x1
    go_wp2
    refine bodyPost_ret (v := .tuple #[FR.zero.v, .int .i64 er]) (by simp [results, Tryd.results8, go_sem, FR.zero, FR.v, c0, c1, c2, c3, c4]) rfl ⟨rfl, ?_⟩
    exact set5_below B1.out (Nat.le_refl _)
end Go.Proofs.YtodfdblgkpjchaaDoor
