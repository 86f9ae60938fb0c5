/-
  recordOf in plain words; first, as it runs.
-/
import Derived.Test.YtgnehnlmbodijaaDoorZS2
namespace Go.Proofs.YtgnehnlmbodijaaDoor
open Go.RowKit

theorem wrap64_rec {a c : Int} {p k v : ByteArray} (h : RightP ⟨a, p, c, k, v⟩) : (⟨wrap64 a, p, wrap64 c, k, v⟩ : Rec) = ⟨a, p, c, k, v⟩ := by
  obtain ⟨h1, h2, h3, h4, _⟩ := h
  simp only at h1 h2 h3 h4
  have e1 : wrap64 a = a := by unfold wrap64; omega
  have e2 : wrap64 c = c := by unfold wrap64; omega
  rw [e1, e2]
theorem wrap64_right {a c : Int} {p k v : ByteArray} (a1 : 0 ≤ a) (a2 : a < 18446744073709551616) (c1 : 0 ≤ c) (c2 : c < 18446744073709551616) (h : RightP ⟨wrap64 a, p, wrap64 c, k, v⟩) : RightP ⟨a, p, c, k, v⟩ := by
  unfold RightP wrap64 at *
  simp only at *
  omega
theorem set5_new {W : World} {b : Nat} {t : TypeId} {v0 v1 v2 v3 v4 x0 x1 x2 x3 x4 : Value} (h : W.heap[b]? = some (.cells #[v0, v1, v2, v3, v4] t)) (o : Obj) :
    ((set5 W b x0 x1 x2 x3 x4).alloc o).cell? ⟨b, 0, none⟩ = some x0 ∧ ((set5 W b x0 x1 x2 x3 x4).alloc o).cell? ⟨b, 1, none⟩ = some x1 ∧ ((set5 W b x0 x1 x2 x3 x4).alloc o).cell? ⟨b, 2, none⟩ = some x2 ∧ ((set5 W b x0 x1 x2 x3 x4).alloc o).cell? ⟨b, 3, none⟩ = some x3 ∧ ((set5 W b x0 x1 x2 x3 x4).alloc o).cell? ⟨b, 4, none⟩ = some x4 := by
  have h1 := set5_box (x0 := x0) (x1 := x1) (x2 := x2) (x3 := x3) (x4 := x4) h
  have h2 := (heap_alloc_old _ o (Array.getElem?_eq_some_iff.1 h1).1).trans h1
  exact (box5 h2).1
theorem recordOf_any (s : ByteArray) (h : s.size ≤ 400000) (w : World) :
    Calls Tryd.prog 62 #[.string s] w fun e w' => (∃ x : Rec, e = .returned (.tuple #[x.v, .bool (readR s.data.toList).isSome]) ∧ ∀ r, readR s.data.toList = some r → x = r) ∧ Below w.heap.size w w' := by
  by_cases hd : (K.decF shapeR s.data.toList).2 = 0
  · obtain ⟨a, b, c, d, e, h5⟩ := dec_five _ hd
    obtain ⟨_, hok, _⟩ := K.again_pure shapeR s.data.toList hd
    rw [h5] at hok
    obtain ⟨_, _, a1, a2, _⟩ := hok a (by simp)
    obtain ⟨_, _, c1, c2, _⟩ := hok c (by simp)
    obtain ⟨_, _, _, _, bs⟩ := hok b (by simp)
    obtain ⟨_, _, _, _, ds⟩ := hok d (by simp)
    obtain ⟨_, _, _, _, es⟩ := hok e (by simp)
    have e5 : K.decF shapeR s.data.toList = ([a, b, c, d, e], 0) := Prod.ext h5 hd
    refine (recordOf_five s h w a b c d e e5 ⟨wrap64 a.n, b.s, wrap64 c.n, d.s, e.s⟩ rfl ⟨by unfold wrap64; simp only; omega, by unfold wrap64; simp only; omega, by unfold wrap64; simp only; omega, by unfold wrap64; simp only; omega, bs, ds, es⟩).mono ?_
    rintro e' w' ⟨rfl, hb⟩
    refine ⟨⟨⟨wrap64 a.n, b.s, wrap64 c.n, d.s, e.s⟩, ?_, ?_⟩, hb⟩
    · have : (readR s.data.toList).isSome = decide (RightP ⟨wrap64 a.n, b.s, wrap64 c.n, d.s, e.s⟩) := by
        unfold readR
        rw [if_pos hd, h5]
        change (if RightP ⟨a.n, b.s, c.n, d.s, e.s⟩ then some (⟨a.n, b.s, c.n, d.s, e.s⟩ : Rec) else none).isSome = _
        by_cases hr : RightP ⟨a.n, b.s, c.n, d.s, e.s⟩
        · rw [if_pos hr, wrap64_rec hr, decide_eq_true hr]
          rfl
        · rw [if_neg hr, decide_eq_false fun x => hr (wrap64_right a1 a2 c1 c2 x)]
          rfl
      rw [this]
    · intro r hr
      unfold readR at hr
      rw [if_pos hd, h5] at hr
      change (if RightP ⟨a.n, b.s, c.n, d.s, e.s⟩ then some (⟨a.n, b.s, c.n, d.s, e.s⟩ : Rec) else none) = _ at hr
      by_cases hx : RightP ⟨a.n, b.s, c.n, d.s, e.s⟩
      · rw [if_pos hx] at hr
        injection hr with hr
        rw [← hr]
        exact wrap64_rec hx
      · rw [if_neg hx] at hr
        cases hr
  · refine (recordOf_bad s h w hd).mono ?_
    rintro e' w' ⟨rfl, hb⟩
    have : readR s.data.toList = none := by unfold readR; rw [if_neg hd]
    rw [this]
    exact ⟨⟨Rec.zero, rfl, fun r hr => by cases hr⟩, hb⟩

theorem headR_none {least : Int} {s : List UInt8} (h1 : (takeF s).2.2 = 0) (h2 : readR (takeF s).1 = none) : headR least s = (.zero, 0, 10) := by
  unfold headR
  rw [if_pos h1, h2]
theorem headR_some {least : Int} {s : List UInt8} {r : Rec} (h1 : (takeF s).2.2 = 0) (h2 : readR (takeF s).1 = some r) : headR least s = if r.off < least then (.zero, 0, 11) else (r, (takeF s).2.1, 0) := by
  unfold headR
  rw [if_pos h1, h2]
theorem headR_fault {least : Int} {s : List UInt8} (h1 : (takeF s).2.2 ≠ 0) : headR least s = (.zero, 0, (takeF s).2.2) := by
  unfold headR
  rw [if_neg h1]

set_option maxHeartbeats 2000000 in
theorem first_any (s : ByteArray) (least : Int) (h63 : s.size ≤ 9223372036854775807) (w : World) (hT : Tab w) :
    Calls Tryd.prog 47 #[.string s, .int .i64 least] w fun e w' => e = .returned (.tuple #[(headR least s.data.toList).1.v, .int .i64 (headR least s.data.toList).2.1, .int .i64 (headR least s.data.toList).2.2]) ∧ Below w.heap.size w w' := by
  have HC := hide (take_any s (w.alloc (.cells #[.int .i64 0, .string ⟨#[]⟩, .int .i64 0, .string ⟨#[]⟩, .string ⟨#[]⟩] 23)) (hT.below ((Below.refl _ _).alloc (Nat.le_refl _) _)) h63)
  have hsm := takeF_small s.data.toList
  have h1 := @headR_none least s.data.toList
  have h2 := @headR_some least s.data.toList
  have h3 := @headR_fault least s.data.toList
  generalize takeF s.data.toList = T at *
  obtain ⟨b, n, er⟩ := T
  simp only at *
  by_cases he : er = 0
  · subst he
    have HR := hide (recordOf_any ⟨b.toArray⟩ (by show b.toArray.size ≤ _; simpa using hsm))
    rw [show ((⟨b.toArray⟩ : ByteArray).data.toList) = b by simp] at HR
    generalize b.toArray = ba at *
    cases hr : readR b with
    | none =>
      rw [h1 rfl hr]
      rw [hr] at HR
      clear h1 h2 h3 hr hsm
      go_enter Tryd.func47, Tryd.ntmps47
      go_wp2_with fail
      refine HC.out.mono ?_
      rintro e w1 ⟨rfl, b1⟩
      have x1 := (b1.block w.heap.size (by simp)).trans (heap_alloc_new _ _)
      have B1 : Hid (Below w.heap.size w w1) := ((Below.refl _ _).alloc (Nat.le_refl _) _).trans (b1.mono (by simp))
      clear b1 HC
      go_wp2_with fail
      refine (HR.out _).mono ?_
      rintro e w2 ⟨⟨x, rfl, _⟩, b2⟩
      have x2 := (b2.block w.heap.size (Array.getElem?_eq_some_iff.1 x1).1).trans x1
      have B2 : Hid (Below w.heap.size w w2) := B1.out.trans (b2.mono B1.out.size)
      obtain ⟨⟨c0, c1, c2, c3, c4⟩, f0, f1, f2, f3, f4⟩ := box5 x2
      have hlt : w.heap.size < w2.heap.size := (Array.getElem?_eq_some_iff.1 x2).1
      have hne : w.heap.size ≠ w2.heap.size := by omega
      obtain ⟨xo, xp, xs, xk, xv⟩ := x
      simp only [Rec.v]
      have X2 := hide x2
      clear b2 x1 x2 HR B1
      go_wp2
      refine bodyPost_ret (v := .tuple #[Rec.zero.v, .int .i64 0, .int .i64 10]) ?res rfl ⟨rfl, (set5_below B2.out (Nat.le_refl _)).alloc (by simp [set5, World.setCell]; omega) _⟩
      case res =>
        obtain ⟨d0, d1, d2, d3, d4⟩ := set5_new (x0 := .int .i64 0) (x1 := .string ⟨#[]⟩) (x2 := .int .i64 0) (x3 := .string ⟨#[]⟩) (x4 := .string ⟨#[]⟩) X2.out (.cells #[.int .i64 xo, .string xp, .int .i64 xs, .string xk, .string xv] 23)
        simp only [set5] at d0 d1 d2 d3 d4
        simp [results, Tryd.results47, go_sem, Rec.zero, Rec.v, d0, d1, d2, d3, d4]
    | some r =>
      have h4 := h2 rfl hr
      rw [hr] at HR
      clear h1 h2 h3 hsm
      generalize headR least s.data.toList = HH at *
      go_enter Tryd.func47, Tryd.ntmps47
      go_wp2_with fail
      refine HC.out.mono ?_
      rintro e w1 ⟨rfl, b1⟩
      have x1 := (b1.block w.heap.size (by simp)).trans (heap_alloc_new _ _)
      have B1 : Hid (Below w.heap.size w w1) := ((Below.refl _ _).alloc (Nat.le_refl _) _).trans (b1.mono (by simp))
      clear b1 HC
      go_wp2_with fail
      refine (HR.out _).mono ?_
      rintro e w2 ⟨⟨x, rfl, hx⟩, b2⟩
      obtain rfl := hx r rfl
      have x2 := (b2.block w.heap.size (Array.getElem?_eq_some_iff.1 x1).1).trans x1
      have B2 : Hid (Below w.heap.size w w2) := B1.out.trans (b2.mono B1.out.size)
      obtain ⟨⟨c0, c1, c2, c3, c4⟩, f0, f1, f2, f3, f4⟩ := box5 x2
      have hlt : w.heap.size < w2.heap.size := (Array.getElem?_eq_some_iff.1 x2).1
      have hne : w.heap.size ≠ w2.heap.size := by omega
      obtain ⟨xo, xp, xs, xk, xv⟩ := x
      simp only [Rec.v, Option.isSome]
      have X2 := hide x2
      clear b2 x1 x2 HR B1 hx hr
      by_cases hlo : xo < least
      · rw [if_pos hlo] at h4
        subst h4
        go_wp2
        refine bodyPost_ret (v := .tuple #[Rec.zero.v, .int .i64 0, .int .i64 11]) ?res rfl ⟨rfl, (set5_below B2.out (Nat.le_refl _)).alloc (by simp [set5, World.setCell]; omega) _⟩
        case res =>
          obtain ⟨d0, d1, d2, d3, d4⟩ := set5_new (x0 := .int .i64 0) (x1 := .string ⟨#[]⟩) (x2 := .int .i64 0) (x3 := .string ⟨#[]⟩) (x4 := .string ⟨#[]⟩) X2.out (.cells #[.int .i64 xo, .string xp, .int .i64 xs, .string xk, .string xv] 23)
          simp only [set5] at d0 d1 d2 d3 d4
          simp [results, Tryd.results47, go_sem, Rec.zero, Rec.v, d0, d1, d2, d3, d4]
      · rw [if_neg hlo] at h4
        subst h4
        go_wp2
        refine bodyPost_ret (v := .tuple #[.agg #[.int .i64 xo, .string xp, .int .i64 xs, .string xk, .string xv], .int .i64 n, .int .i64 0]) ?res rfl ⟨rfl, (set5_below B2.out (Nat.le_refl _)).alloc (by simp [set5, World.setCell]; omega) _⟩
        case res =>
          obtain ⟨d0, d1, d2, d3, d4⟩ := set5_new (x0 := .int .i64 xo) (x1 := .string xp) (x2 := .int .i64 xs) (x3 := .string xk) (x4 := .string xv) X2.out (.cells #[.int .i64 xo, .string xp, .int .i64 xs, .string xk, .string xv] 23)
          simp only [set5] at d0 d1 d2 d3 d4
          simp [results, Tryd.results47, go_sem, d0, d1, d2, d3, d4]
  · rw [h3 he]
    have hne : (er != 0) = true := by rw [bne_iff_ne]; exact he
    generalize b.toArray = ba at *
    clear h1 h2 h3 hsm
    go_enter Tryd.func47, Tryd.ntmps47
    go_wp2_with fail
    refine HC.out.mono ?_
    rintro e w1 ⟨rfl, b1⟩
    have x1 := (b1.block w.heap.size (by simp)).trans (heap_alloc_new _ _)
    have B1 : Hid (Below w.heap.size w w1) := ((Below.refl _ _).alloc (Nat.le_refl _) _).trans (b1.mono (by simp))
    obtain ⟨⟨c0, c1, c2, c3, c4⟩, f0, f1, f2, f3, f4⟩ := box5 x1
    clear b1 HC x1
    go_wp2
    refine bodyPost_ret (v := .tuple #[Rec.zero.v, .int .i64 0, .int .i64 er]) (by simp [results, Tryd.results47, go_sem, Rec.zero, Rec.v, c0, c1, c2, c3, c4]) rfl ⟨rfl, ?_⟩
    exact set5_below B1.out (Nat.le_refl _)
end Go.Proofs.YtgnehnlmbodijaaDoor
