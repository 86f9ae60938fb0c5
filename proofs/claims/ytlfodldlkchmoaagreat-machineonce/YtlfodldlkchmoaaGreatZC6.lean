/-
  fitsKind and Right, whole (mkc6.py)
-/
import Derived.Test.YtlfodldlkchmoaaGreatZQ1
import Derived.Test.YtlfodldlkchmoaaGreatZC2
import Derived.Test.YtlfodldlkchmoaaGreatZC4
namespace Go.Proofs.YtlfodldlkchmoaaGreat.Y
open Go.RowKit Go.Maps
set_option maxHeartbeats 4000000
set_option maxRecDepth 100000
def Rises (l : List Rec) : Prop := l.Pairwise fun a b => a.off < b.off
def placeF (l : List Rec) (off : Int) : Nat := l.countP fun r => decide (r.off < off)
theorem placeF_le (l : List Rec) (off : Int) : placeF l off ≤ l.length := List.countP_le_length
theorem Rises.lt {l : List Rec} (h : Rises l) {i j : Nat} (hij : i < j) (hj : j < l.length) : (l[i]'(by omega)).off < l[j].off := List.pairwise_iff_getElem.1 h i j (by omega) hj hij
theorem place_boundary {off : Int} : ∀ (l : List Rec) (i : Nat), i ≤ l.length → (∀ t (h : t < l.length), t < i → l[t].off < off) → (∀ t (h : t < l.length), i ≤ t → ¬ l[t].off < off) → placeF l off = i
  | [], i, hi, _, _ => by simp at hi; subst hi; rfl
  | a :: r, 0, _, _, h2 => by
    unfold placeF
    rw [List.countP_eq_zero]
    intro x hx
    obtain ⟨t, ht, rfl⟩ := List.getElem_of_mem hx
    simpa using h2 t ht (Nat.zero_le _)
  | a :: r, i + 1, hi, h1, h2 => by
    have ha : a.off < off := h1 0 (by simp) (by omega)
    have ih := place_boundary (off := off) r i (by simpa using hi) (fun t ht hti => h1 (t + 1) (by simpa using ht) (by omega)) (fun t ht hti => h2 (t + 1) (by simpa using ht) (by omega))
    unfold placeF at ih ⊢
    rw [List.countP_cons_of_pos (by simpa using ha), ih]
theorem place_lt {l : List Rec} (hr : Rises l) {off : Int} : ∀ t (h : t < l.length), t < placeF l off ↔ l[t].off < off := by
  -- the boundary: the first that is not below
  have hex : ∃ i, i ≤ l.length ∧ (∀ t (h : t < l.length), t < i → l[t].off < off) ∧ (∀ t (h : t < l.length), i ≤ t → ¬ l[t].off < off) := by
    induction l with
    | nil => exact ⟨0, Nat.le_refl _, fun t h => by simp at h, fun t h => by simp at h⟩
    | cons a r ih =>
      obtain ⟨ha, hr2⟩ := List.pairwise_cons.1 hr
      by_cases h : a.off < off
      · obtain ⟨i, h1, h2, h3⟩ := ih hr2
        refine ⟨i + 1, by simpa using h1, fun t ht hti => ?_, fun t ht hti => ?_⟩
        · cases t with
          | zero => exact h
          | succ t => exact h2 t (by simpa using ht) (by omega)
        · cases t with
          | zero => omega
          | succ t => exact h3 t (by simpa using ht) (by omega)
      · refine ⟨0, Nat.zero_le _, fun t ht hti => by omega, fun t ht _ => ?_⟩
        cases t with
        | zero => exact h
        | succ t =>
          have := ha (r[t]'(by simpa using ht)) (List.getElem_mem _)
          simp only [List.getElem_cons_succ]
          omega
  obtain ⟨i, h1, h2, h3⟩ := hex
  have e := place_boundary l i h1 h2 h3
  intro t ht
  rw [e]
  constructor
  · exact h2 t ht
  · intro h
    apply Classical.byContradiction
    intro hn
    exact h3 t ht (by omega) h
def cmpI (a b : Int) : Int := if a < b then -1 else if b < a then 1 else 0
theorem cmpI_neg (a b : Int) : (cmpI a b < 0) ↔ a < b := by
  unfold cmpI
  by_cases h1 : a < b
  · simp [h1]
  · by_cases h2 : b < a
    · simp [h1, h2]
    · simp [h1, h2]
theorem nan_any (a : Int) (w : World) : Calls Tryz.prog 122 #[.int .i64 a] w fun e w' => e = .returned (.bool false) ∧ w' = w := by
  go_enter Tryz.func122, Tryz.ntmps122
  go_wp2
  go_ret
  exact ⟨rfl, rfl⟩
theorem cmp_any (a b : Int) (w : World) : Calls Tryz.prog 89 #[.int .i64 a, .int .i64 b] w fun e w' => e = .returned (.int .i64 (cmpI a b)) ∧ w' = w := by
  have HN := hide nan_any
  by_cases h1 : a < b
  · have h3 : cmpI a b = -1 := if_pos h1
    rw [h3]
    clear h3
    go_enter Tryz.func89, Tryz.ntmps89
    go_wp2_with (go_at_call 122; refine (HN.out _ _).mono ?_; rintro e w' ⟨rfl, rfl⟩)
    go_ret
    exact ⟨rfl, rfl⟩
  · by_cases h2 : b < a
    · have h3 : cmpI a b = 1 := by unfold cmpI; rw [if_neg h1, if_pos h2]
      rw [h3]
      clear h3
      go_enter Tryz.func89, Tryz.ntmps89
      go_wp2_with (go_at_call 122; refine (HN.out _ _).mono ?_; rintro e w' ⟨rfl, rfl⟩)
      go_ret
      exact ⟨rfl, rfl⟩
    · have h3 : cmpI a b = 0 := by unfold cmpI; rw [if_neg h1, if_neg h2]
      rw [h3]
      clear h3
      go_enter Tryz.func89, Tryz.ntmps89
      go_wp2_with (go_at_call 122; refine (HN.out _ _).mono ?_; rintro e w' ⟨rfl, rfl⟩)
      go_ret
      exact ⟨rfl, rfl⟩
theorem clo_any (r : Rec) (off : Int) (w : World) : Calls Tryz.prog 88 #[r.v, .int .i64 off] w fun e w' => e = .returned (.int .i64 (cmpI r.off off)) ∧ Below w.heap.size w w' := by
  obtain ⟨xo, xp, xs, xk, xv⟩ := r
  simp only [Rec.v]
  have HC := hide (cmp_any xo off)
  have HB := hide ((Below.refl w.heap.size w).alloc (Nat.le_refl _) (.cells #[.int .i64 xo, .string xp, .int .i64 xs, .string xk, .string xv] 42))
  generalize cmpI xo off = c at *
  go_enter Tryz.func88, Tryz.ntmps88
  go_wp2_with (go_at_call 89; refine (HC.out _).mono ?_; rintro e w' ⟨rfl, rfl⟩)
  go_ret
  exact ⟨rfl, HB.out⟩
theorem bsearch (l : List Rec) (hr : Rises l) (off : Int) (v : Value) (w : World) (hat : RecsAt w v l) (hl : l.length ≤ 1048576) :
    Calls Tryz.prog 87 #[v, .int .i64 off, .func (.func 88) #[] #[]] w fun e w' => ∃ b, e = .returned (.tuple #[.int .i64 (placeF l off), .bool b]) ∧ Below w.heap.size w w' := by
  obtain ⟨ao, ac, rfl, _, _⟩ := id hat
  have HA := hide hat
  have HR := hide hr
  clear hat hr
  generalize hp : placeF l off = pl
  have HP := hide hp
  clear hp
  go_enter Tryz.func87, Tryz.ntmps87
  go_wp2
  go_loopg [9, 10] l.length (fun kx s9 s10 wr => ∃ lo hi : Nat, s9 = .int .i64 lo ∧ s10 = .int .i64 hi ∧ lo ≤ hi ∧ hi ≤ l.length ∧ hi - lo ≤ kx ∧ Hid (Below w.heap.size w wr) ∧ Hid (lo ≤ placeF l off ∧ placeF l off ≤ hi))
  case atStart => exact ⟨0, l.length, rfl, rfl, Nat.zero_le _, Nat.le_refl _, by omega, Below.refl _ _, ⟨Nat.zero_le _, placeF_le _ _⟩⟩
  case round =>
    obtain ⟨lo, hi, rfl, rfl, hlh, hin, hg, BV, HI⟩ := hrel
    by_cases hlt : lo < hi
    · have hm : (lo + hi) / 2 < l.length := by omega
      have HPL := hide (place_lt HR.out (off := off) ((lo + hi) / 2) hm)
      obtain ⟨_, b, of, rfl, hb, a0, a1, a2, a3, a4⟩ := (HA.out.below BV.out).five ((lo + hi) / 2) hm
      have HC := hide (clo_any l[(lo + hi) / 2] off)
      have HS := hide (cmpI_neg l[(lo + hi) / 2].off off)
      generalize l[(lo + hi) / 2] = x at *
      obtain ⟨xo, xp, xs, xk, xv⟩ := x
      simp only [Rec.v] at a0 a1 a2 a3 a4 HPL HC HS
      generalize cmpI xo off = c at *
      by_cases hyx : c < 0
      · have h5 := HPL.out.2 (HS.out.1 hyx)
        have I2 : Hid ((lo + hi) / 2 + 1 ≤ placeF l off ∧ placeF l off ≤ hi) := ⟨h5, HI.out.2⟩
        clear h5
        go_wp2_with (go_at_call 88; refine (HC.out _).mono ?_; rintro e w' ⟨rfl, b2⟩)
        go_roundg (hi - ((lo + hi) / 2 + 1))
        case measure => omega
        case rel => exact ⟨(lo + hi) / 2 + 1, hi, by rw [show ((lo : Int) + (hi : Int)) / 2 + 1 = (((lo + hi) / 2 + 1 : Nat) : Int) by omega], rfl, by omega, hin, Nat.le_refl _, BV.out.trans (b2.mono BV.out.size), I2⟩
      · have h5 : ¬ (lo + hi) / 2 < placeF l off := fun h => hyx (HS.out.2 (HPL.out.1 h))
        have I2 : Hid (lo ≤ placeF l off ∧ placeF l off ≤ (lo + hi) / 2) := ⟨HI.out.1, by omega⟩
        clear h5
        go_wp2_with (go_at_call 88; refine (HC.out _).mono ?_; rintro e w' ⟨rfl, b2⟩)
        go_roundg ((lo + hi) / 2 - lo)
        case measure => omega
        case rel => exact ⟨lo, (lo + hi) / 2, rfl, by rw [show ((lo : Int) + (hi : Int)) / 2 = (((lo + hi) / 2 : Nat) : Int) by omega], by omega, by omega, Nat.le_refl _, BV.out.trans (b2.mono BV.out.size), I2⟩
    · obtain rfl : hi = lo := by omega
      have e : pl = hi := by have := HI.out; rw [HP.out] at this; omega
      subst e
      clear HI HP
      by_cases hn : pl < l.length
      · obtain ⟨_, b, of, rfl, hb, a0, a1, a2, a3, a4⟩ := (HA.out.below BV.out).five pl hn
        have HC := hide (clo_any l[pl] off)
        generalize l[pl] = x at *
        obtain ⟨xo, xp, xs, xk, xv⟩ := x
        simp only [Rec.v] at a0 a1 a2 a3 a4 HC
        generalize cmpI xo off = c at *
        go_wp2_with (go_at_call 88; refine (HC.out _).mono ?_; rintro e w' ⟨rfl, b2⟩)
        go_ret2
        exact ⟨_, rfl, BV.out.trans (b2.mono BV.out.size)⟩
      · go_wp2
        go_ret2
        exact ⟨_, rfl, BV.out⟩
end Go.Proofs.YtlfodldlkchmoaaGreat.Y
namespace Go.Proofs.YtlfodldlkchmoaaGreat.Y
open Go.RowKit Go.Maps
set_option maxHeartbeats 4000000
set_option maxRecDepth 100000
theorem town_any (r : Rec) (hr : r.ok) (w : World) :
    Calls Tryz.prog 44 #[r.v] w fun e w' => e = .returned r.v ∧ Below w.heap.size w w' := by
  have HC1 := hide (fun W => clone_any r.prod W hr.2.2.2.2.1)
  have HC3 := hide (fun W => clone_any r.key W hr.2.2.2.2.2.1)
  have HC4 := hide (fun W => clone_any r.val W hr.2.2.2.2.2.2)
  have K1 : Hid (Own w r ((w.alloc (.cells #[.int .i64 r.off, .string r.prod, .int .i64 r.seq, .string r.key, .string r.val] 42)).alloc (.cells #[.int .i64 0, .string ⟨#[]⟩, .int .i64 0, .string ⟨#[]⟩, .string ⟨#[]⟩] 42))) := by
    refine ⟨((Below.refl _ _).alloc (Nat.le_refl _) _).alloc (by simp) _, ?_, ?_⟩
    · exact box_alloc (heap_alloc_new w _) _
    · have := heap_alloc_new (w.alloc (.cells #[.int .i64 r.off, .string r.prod, .int .i64 r.seq, .string r.key, .string r.val] 42)) (.cells #[.int .i64 0, .string ⟨#[]⟩, .int .i64 0, .string ⟨#[]⟩, .string ⟨#[]⟩] 42)
      simpa using this
  obtain ⟨xo, xp, xs, xk, xv⟩ := r
  simp only [Rec.v] at *
  clear hr
  go_enter Tryz.func44, Tryz.ntmps44
  go_wp2_with fail
  generalize (w.alloc (.cells #[.int .i64 xo, .string xp, .int .i64 xs, .string xk, .string xv] 42)).alloc (.cells #[.int .i64 0, .string ⟨#[]⟩, .int .i64 0, .string ⟨#[]⟩, .string ⟨#[]⟩] 42) = w1 at *
  have HX : Hid (∀ {W : World}, Own w ⟨xo, xp, xs, xk, xv⟩ W → W.cell? ⟨w.heap.size, 1, none⟩ = some (.string xp) ∧ W.cell? ⟨w.heap.size, 3, none⟩ = some (.string xk) ∧ W.cell? ⟨w.heap.size, 4, none⟩ = some (.string xv) ∧ W.frozen? ⟨w.heap.size, 1, none⟩ = false ∧ W.frozen? ⟨w.heap.size, 3, none⟩ = false ∧ W.frozen? ⟨w.heap.size, 4, none⟩ = false) := fun h => ⟨h.cells.1, h.cells.2.1, h.cells.2.2, h.free 1, h.free 3, h.free 4⟩
  obtain ⟨c1, c3, c4, f1, f3, f4⟩ := HX.out K1.out
  go_region_held (fun w' => Own w ⟨xo, xp, xs, xk, xv⟩ w' ∧ w'.cell? ⟨w.heap.size, 1, none⟩ = some (.string xp) ∧ w'.cell? ⟨w.heap.size, 3, none⟩ = some (.string xk) ∧ w'.cell? ⟨w.heap.size, 4, none⟩ = some (.string xv))
    (first | exact ⟨K1.out.drew, K1.out.drew.cells⟩ | exact ⟨K2.out, K2.out.cells⟩ | exact ⟨K2.out.set1, K2.out.set1.cells⟩ | exact ⟨K2.out.set3, K2.out.set3.cells⟩ | exact ⟨K2.out.set4, K2.out.set4.cells⟩ | exact ⟨K2.out.set1.set3, K2.out.set1.set3.cells⟩ | exact ⟨K2.out.set1.set3.set4, K2.out.set1.set3.set4.cells⟩)
    ((go_at_call 42; first | refine (HC1.out _).mono ?_ | refine (HC3.out _).mono ?_ | refine (HC4.out _).mono ?_) <;> rintro e w2 ⟨rfl, hb⟩ <;> (have K2 := hide ((by first | exact K1.out.drew | exact K2.out | exact K2.out.set1 | exact K2.out.set1.set3 : Own w ⟨xo, xp, xs, xk, xv⟩ _).to hb)) <;> obtain ⟨c1, c3, c4, f1, f3, f4⟩ := HX.out K2.out <;> clear hb)
  all_goals
    rename_i hH
    have K3 := hide hH.1
    clear hH c1 c3 c4 f1 f3 f4 K2
    generalize ((w2.setCell _ _).setCell _ _).setCell _ _ = W at *
    obtain ⟨⟨c0, c1, c2, c3, c4⟩, _⟩ := box5 K3.out.one
    obtain ⟨⟨d0, d1, d2, d3, d4⟩, f0, f1, f2, f3, f4⟩ := box5 K3.out.two
    have x5 := set5_box (x0 := .int .i64 xo) (x1 := .string xp) (x2 := .int .i64 xs) (x3 := .string xk) (x4 := .string xv) K3.out.two
    have b5 := set5_below (b := w.heap.size + 1) (x0 := .int .i64 xo) (x1 := .string xp) (x2 := .int .i64 xs) (x3 := .string xk) (x4 := .string xv) K3.out.below (by omega)
    unfold set5 at x5 b5
    have X5 := hide x5
    have B5 := hide b5
    clear x5 b5
    go_wp2
    obtain ⟨⟨e0, e1, e2, e3, e4⟩, _⟩ := box5 X5.out
    refine bodyPost_ret (v := .agg #[.int .i64 xo, .string xp, .int .i64 xs, .string xk, .string xv]) (by simp [results, Tryz.results44, go_sem, e0, e1, e2, e3, e4]) rfl ⟨rfl, B5.out⟩
end Go.Proofs.YtlfodldlkchmoaaGreat.Y
namespace Go.Proofs.YtlfodldlkchmoaaGreat
open Go.RowKit
set_option maxHeartbeats 4000000
set_option maxRecDepth 100000
attribute [local go_sem ↓] Go.wp_at_zero Go.wp_at_succ
set_option linter.unusedSimpArgs false
set_option linter.unusedVariables false
theorem fk_ret {W : World} {a : Act} {v : Vfk} {b : Bool} {R : Ending → World → Prop} (hF : Ffk a v) (h2 : v.v2 = .bool b) (h : R (.returned (.bool b)) W) :
    bodyPost Tryz.prog Tryz.f101 R .ret a W := by
  have g2 := slot_get (hF.s2.trans h2)
  refine bodyPost_ret (v := .bool b) ?_ hF.defers h
  simp [results, Tryz.results101, go_sem, g2]
theorem fits_row (cm : CM) (w : World) (k1 : 1 ≤ cm.kind) (k2 : cm.kind ≤ 11) {f0 f1 f2 f3 f4 f5 : Nat} {p0 : Bool} {p1 : Bool} {p2 : Bool} {p3 : Bool} {p4 : Bool} {p5 : Bool} (hI : ∀ w, (Instr.index 184 (.agg needsA) (.int .i64 cm.kind)).run Tryz.prog w = .ok (.agg #[fnV f0, fnV f1, fnV f2, fnV f3, fnV f4, fnV f5]) w) (e0 : ∀ args w, (callFunc f0 args).run Tryz.prog w = .ok (.enter f0 args) w) (H0 : ∀ w, Calls Tryz.prog f0 #[.string cm.topic] w fun e w' => e = .returned (.bool p0) ∧ w' = w) (e1 : ∀ args w, (callFunc f1 args).run Tryz.prog w = .ok (.enter f1 args) w) (H1 : ∀ w, Calls Tryz.prog f1 #[.string cm.name] w fun e w' => e = .returned (.bool p1) ∧ w' = w) (e2 : ∀ args w, (callFunc f2 args).run Tryz.prog w = .ok (.enter f2 args) w) (H2 : ∀ w, Calls Tryz.prog f2 #[.int .i64 cm.seq] w fun e w' => e = .returned (.bool p2) ∧ w' = w) (e3 : ∀ args w, (callFunc f3 args).run Tryz.prog w = .ok (.enter f3 args) w) (H3 : ∀ w, Calls Tryz.prog f3 #[.string cm.key] w fun e w' => e = .returned (.bool p3) ∧ w' = w) (e4 : ∀ args w, (callFunc f4 args).run Tryz.prog w = .ok (.enter f4 args) w) (H4 : ∀ w, Calls Tryz.prog f4 #[.string cm.val] w fun e w' => e = .returned (.bool p4) ∧ w' = w) (e5 : ∀ args w, (callFunc f5 args).run Tryz.prog w = .ok (.enter f5 args) w) (H5 : ∀ w, Calls Tryz.prog f5 #[.int .i64 cm.n] w fun e w' => e = .returned (.bool p5) ∧ w' = w) :
    Calls Tryz.prog 101 #[cm.v] w fun e w' => e = .returned (.bool (p0 && (p1 && (p2 && (p3 && (p4 && p5)))))) ∧ Below w.heap.size w w' := by
  have HI := hide hI
  have G0 := hide (And.intro H0 e0)
  have G1 := hide (And.intro H1 e1)
  have G2 := hide (And.intro H2 e2)
  have G3 := hide (And.intro H3 e3)
  have G4 := hide (And.intro H4 e4)
  have G5 := hide (And.intro H5 e5)
  have HX := hide (heap_alloc_new w (.cells cm.cells 31))
  have HB := hide ((Below.refl w.heap.size w).alloc (Nat.le_refl _) (.cells cm.cells 31))
  have HC : Hid (∃ cm' : CM, cm' = cm) := ⟨cm, rfl⟩
  have n1 : ¬ cm.kind < 1 := by omega
  have n2 : ¬ cm.kind > 11 := by omega
  clear hI H0 H1 H2 H3 H4 H5 e0 e1 e2 e3 e4 e5 k1 k2
  simp only [CM.v, CM.cells] at *
  go_enter Tryz.func101, Tryz.ntmps101
  go_upto_region 3 with fail
  rename_i Ko hKo
  refine reg_mono (fk_r3 (cm := cm) (by kernel_rfl) _ (v := ⟨_, _, _⟩) ⟨rfl, rfl, rfl, rfl, rfl⟩ rfl HX.out HI.out fun a' w' b3 hF hB hW => hKo _ _ ?_)
  clear hKo
  refine wp_seq (reg_mono (fk_r4 (by kernel_rfl) _ hF rfl rfl ((hW.block _ (heap_lt HX.out)).trans HX.out) hB G0.out.2 G0.out.1 G1.out.2 G1.out.1 G2.out.2 G2.out.1 G3.out.2 G3.out.1 G4.out.2 G4.out.1 G5.out.2 G5.out.1 fun a2 hF2 => ?_))
  refine wp_ret ?_
  exact fk_ret hF2 rfl ⟨rfl, HB.out.trans (hW.mono HB.out.size)⟩
end Go.Proofs.YtlfodldlkchmoaaGreat
namespace Go.Proofs.YtlfodldlkchmoaaGreat
open Go.RowKit
set_option maxHeartbeats 2000000
set_option maxRecDepth 100000
attribute [local go_sem ↓] Go.wp_at_zero Go.wp_at_succ
set_option linter.unusedSimpArgs false
set_option linter.unusedVariables false
theorem index_1 (w : World) : (Instr.index 184 (.agg needsA) (.int .i64 1)).run Tryz.prog w = .ok (.agg #[fnV 129, fnV 158, fnV 159, fnV 158, fnV 158, fnV 159]) w := by kernel_rfl
theorem index_2 (w : World) : (Instr.index 184 (.agg needsA) (.int .i64 2)).run Tryz.prog w = .ok (.agg #[fnV 129, fnV 129, fnV 100, fnV 160, fnV 161, fnV 159]) w := by kernel_rfl
theorem index_3 (w : World) : (Instr.index 184 (.agg needsA) (.int .i64 3)).run Tryz.prog w = .ok (.agg #[fnV 129, fnV 129, fnV 159, fnV 158, fnV 158, fnV 162]) w := by kernel_rfl
theorem index_4 (w : World) : (Instr.index 184 (.agg needsA) (.int .i64 4)).run Tryz.prog w = .ok (.agg #[fnV 158, fnV 129, fnV 159, fnV 158, fnV 158, fnV 159]) w := by kernel_rfl
theorem index_5 (w : World) : (Instr.index 184 (.agg needsA) (.int .i64 5)).run Tryz.prog w = .ok (.agg #[fnV 158, fnV 129, fnV 159, fnV 158, fnV 158, fnV 163]) w := by kernel_rfl
theorem index_6 (w : World) : (Instr.index 184 (.agg needsA) (.int .i64 6)).run Tryz.prog w = .ok (.agg #[fnV 158, fnV 129, fnV 159, fnV 158, fnV 158, fnV 100]) w := by kernel_rfl
theorem index_7 (w : World) : (Instr.index 184 (.agg needsA) (.int .i64 7)).run Tryz.prog w = .ok (.agg #[fnV 158, fnV 129, fnV 159, fnV 158, fnV 158, fnV 100]) w := by kernel_rfl
theorem index_8 (w : World) : (Instr.index 184 (.agg needsA) (.int .i64 8)).run Tryz.prog w = .ok (.agg #[fnV 129, fnV 158, fnV 159, fnV 158, fnV 158, fnV 100]) w := by kernel_rfl
theorem index_9 (w : World) : (Instr.index 184 (.agg needsA) (.int .i64 9)).run Tryz.prog w = .ok (.agg #[fnV 129, fnV 158, fnV 159, fnV 158, fnV 158, fnV 100]) w := by kernel_rfl
theorem index_10 (w : World) : (Instr.index 184 (.agg needsA) (.int .i64 10)).run Tryz.prog w = .ok (.agg #[fnV 158, fnV 158, fnV 159, fnV 158, fnV 158, fnV 99]) w := by kernel_rfl
theorem index_11 (w : World) : (Instr.index 184 (.agg needsA) (.int .i64 11)).run Tryz.prog w = .ok (.agg #[fnV 158, fnV 158, fnV 159, fnV 158, fnV 158, fnV 99]) w := by kernel_rfl
theorem fits_any (c : CM) (hc : c.ok) (k1 : 1 ≤ c.kind) (k2 : c.kind ≤ 11) (w : World) :
    Calls Tryz.prog 101 #[c.v] w fun e w' => e = .returned (.bool (fitsB c)) ∧ Below w.heap.size w w' := by
  obtain ⟨k, t, m, s, y, v, n, o, a⟩ := c
  have h := hc
  simp only at k1 k2
  have hk : k = 1 ∨ k = 2 ∨ k = 3 ∨ k = 4 ∨ k = 5 ∨ k = 6 ∨ k = 7 ∨ k = 8 ∨ k = 9 ∨ k = 10 ∨ k = 11 := by omega
  rcases hk with rfl | rfl | rfl | rfl | rfl | rfl | rfl | rfl | rfl | rfl | rfl
  · refine (fits_row ⟨1, t, m, s, y, v, n, o, a⟩ w k1 k2 index_1 (enters_of Tryz.func129 (by kernel_rfl) rfl) (fun w => pword t h.t w) (enters_of Tryz.func158 (by kernel_rfl) rfl) (fun w => pnotext m w) (enters_of Tryz.func159 (by kernel_rfl) rfl) (fun w => pnonum s w) (enters_of Tryz.func158 (by kernel_rfl) rfl) (fun w => pnotext y w) (enters_of Tryz.func158 (by kernel_rfl) rfl) (fun w => pnotext v w) (enters_of Tryz.func159 (by kernel_rfl) rfl) (fun w => pnonum n w)).mono ?_
    rintro e w' ⟨rfl, hb⟩
    exact ⟨rfl, hb⟩
  · refine (fits_row ⟨2, t, m, s, y, v, n, o, a⟩ w k1 k2 index_2 (enters_of Tryz.func129 (by kernel_rfl) rfl) (fun w => pword t h.t w) (enters_of Tryz.func129 (by kernel_rfl) rfl) (fun w => pword m h.m w) (enters_of Tryz.func100 (by kernel_rfl) rfl) (fun w => pnumber s w) (enters_of Tryz.func160 (by kernel_rfl) rfl) (fun w => pkey y h.y w) (enters_of Tryz.func161 (by kernel_rfl) rfl) (fun w => pvalue v h.v w) (enters_of Tryz.func159 (by kernel_rfl) rfl) (fun w => pnonum n w)).mono ?_
    rintro e w' ⟨rfl, hb⟩
    exact ⟨rfl, hb⟩
  · refine (fits_row ⟨3, t, m, s, y, v, n, o, a⟩ w k1 k2 index_3 (enters_of Tryz.func129 (by kernel_rfl) rfl) (fun w => pword t h.t w) (enters_of Tryz.func129 (by kernel_rfl) rfl) (fun w => pword m h.m w) (enters_of Tryz.func159 (by kernel_rfl) rfl) (fun w => pnonum s w) (enters_of Tryz.func158 (by kernel_rfl) rfl) (fun w => pnotext y w) (enters_of Tryz.func158 (by kernel_rfl) rfl) (fun w => pnotext v w) (enters_of Tryz.func162 (by kernel_rfl) rfl) (fun w => pminus n w)).mono ?_
    rintro e w' ⟨rfl, hb⟩
    exact ⟨rfl, hb⟩
  · refine (fits_row ⟨4, t, m, s, y, v, n, o, a⟩ w k1 k2 index_4 (enters_of Tryz.func158 (by kernel_rfl) rfl) (fun w => pnotext t w) (enters_of Tryz.func129 (by kernel_rfl) rfl) (fun w => pword m h.m w) (enters_of Tryz.func159 (by kernel_rfl) rfl) (fun w => pnonum s w) (enters_of Tryz.func158 (by kernel_rfl) rfl) (fun w => pnotext y w) (enters_of Tryz.func158 (by kernel_rfl) rfl) (fun w => pnotext v w) (enters_of Tryz.func159 (by kernel_rfl) rfl) (fun w => pnonum n w)).mono ?_
    rintro e w' ⟨rfl, hb⟩
    exact ⟨rfl, hb⟩
  · refine (fits_row ⟨5, t, m, s, y, v, n, o, a⟩ w k1 k2 index_5 (enters_of Tryz.func158 (by kernel_rfl) rfl) (fun w => pnotext t w) (enters_of Tryz.func129 (by kernel_rfl) rfl) (fun w => pword m h.m w) (enters_of Tryz.func159 (by kernel_rfl) rfl) (fun w => pnonum s w) (enters_of Tryz.func158 (by kernel_rfl) rfl) (fun w => pnotext y w) (enters_of Tryz.func158 (by kernel_rfl) rfl) (fun w => pnotext v w) (enters_of Tryz.func163 (by kernel_rfl) rfl) (fun w => pmany n w)).mono ?_
    rintro e w' ⟨rfl, hb⟩
    exact ⟨rfl, hb⟩
  · refine (fits_row ⟨6, t, m, s, y, v, n, o, a⟩ w k1 k2 index_6 (enters_of Tryz.func158 (by kernel_rfl) rfl) (fun w => pnotext t w) (enters_of Tryz.func129 (by kernel_rfl) rfl) (fun w => pword m h.m w) (enters_of Tryz.func159 (by kernel_rfl) rfl) (fun w => pnonum s w) (enters_of Tryz.func158 (by kernel_rfl) rfl) (fun w => pnotext y w) (enters_of Tryz.func158 (by kernel_rfl) rfl) (fun w => pnotext v w) (enters_of Tryz.func100 (by kernel_rfl) rfl) (fun w => pnumber n w)).mono ?_
    rintro e w' ⟨rfl, hb⟩
    exact ⟨rfl, hb⟩
  · refine (fits_row ⟨7, t, m, s, y, v, n, o, a⟩ w k1 k2 index_7 (enters_of Tryz.func158 (by kernel_rfl) rfl) (fun w => pnotext t w) (enters_of Tryz.func129 (by kernel_rfl) rfl) (fun w => pword m h.m w) (enters_of Tryz.func159 (by kernel_rfl) rfl) (fun w => pnonum s w) (enters_of Tryz.func158 (by kernel_rfl) rfl) (fun w => pnotext y w) (enters_of Tryz.func158 (by kernel_rfl) rfl) (fun w => pnotext v w) (enters_of Tryz.func100 (by kernel_rfl) rfl) (fun w => pnumber n w)).mono ?_
    rintro e w' ⟨rfl, hb⟩
    exact ⟨rfl, hb⟩
  · refine (fits_row ⟨8, t, m, s, y, v, n, o, a⟩ w k1 k2 index_8 (enters_of Tryz.func129 (by kernel_rfl) rfl) (fun w => pword t h.t w) (enters_of Tryz.func158 (by kernel_rfl) rfl) (fun w => pnotext m w) (enters_of Tryz.func159 (by kernel_rfl) rfl) (fun w => pnonum s w) (enters_of Tryz.func158 (by kernel_rfl) rfl) (fun w => pnotext y w) (enters_of Tryz.func158 (by kernel_rfl) rfl) (fun w => pnotext v w) (enters_of Tryz.func100 (by kernel_rfl) rfl) (fun w => pnumber n w)).mono ?_
    rintro e w' ⟨rfl, hb⟩
    exact ⟨rfl, hb⟩
  · refine (fits_row ⟨9, t, m, s, y, v, n, o, a⟩ w k1 k2 index_9 (enters_of Tryz.func129 (by kernel_rfl) rfl) (fun w => pword t h.t w) (enters_of Tryz.func158 (by kernel_rfl) rfl) (fun w => pnotext m w) (enters_of Tryz.func159 (by kernel_rfl) rfl) (fun w => pnonum s w) (enters_of Tryz.func158 (by kernel_rfl) rfl) (fun w => pnotext y w) (enters_of Tryz.func158 (by kernel_rfl) rfl) (fun w => pnotext v w) (enters_of Tryz.func100 (by kernel_rfl) rfl) (fun w => pnumber n w)).mono ?_
    rintro e w' ⟨rfl, hb⟩
    exact ⟨rfl, hb⟩
  · refine (fits_row ⟨10, t, m, s, y, v, n, o, a⟩ w k1 k2 index_10 (enters_of Tryz.func158 (by kernel_rfl) rfl) (fun w => pnotext t w) (enters_of Tryz.func158 (by kernel_rfl) rfl) (fun w => pnotext m w) (enters_of Tryz.func159 (by kernel_rfl) rfl) (fun w => pnonum s w) (enters_of Tryz.func158 (by kernel_rfl) rfl) (fun w => pnotext y w) (enters_of Tryz.func158 (by kernel_rfl) rfl) (fun w => pnotext v w) (enters_of Tryz.func99 (by kernel_rfl) rfl) (fun w => pnode n w)).mono ?_
    rintro e w' ⟨rfl, hb⟩
    exact ⟨rfl, hb⟩
  · refine (fits_row ⟨11, t, m, s, y, v, n, o, a⟩ w k1 k2 index_11 (enters_of Tryz.func158 (by kernel_rfl) rfl) (fun w => pnotext t w) (enters_of Tryz.func158 (by kernel_rfl) rfl) (fun w => pnotext m w) (enters_of Tryz.func159 (by kernel_rfl) rfl) (fun w => pnonum s w) (enters_of Tryz.func158 (by kernel_rfl) rfl) (fun w => pnotext y w) (enters_of Tryz.func158 (by kernel_rfl) rfl) (fun w => pnotext v w) (enters_of Tryz.func99 (by kernel_rfl) rfl) (fun w => pnode n w)).mono ?_
    rintro e w' ⟨rfl, hb⟩
    exact ⟨rfl, hb⟩
theorem fits_no (c : CM) (hk : kindOk c.kind = false) (w : World) :
    Calls Tryz.prog 101 #[c.v] w fun e w' => e = .returned (.bool false) ∧ Below w.heap.size w w' := by
  obtain ⟨k, t, m, s, y, v, n, o, a⟩ := c
  simp only [CM.v, CM.cells, kindOk] at *
  by_cases h1 : k < 1
  · clear hk
    go_enter Tryz.func101, Tryz.ntmps101
    go_wp2
    go_ret
    exact ⟨rfl, (Below.refl _ _).alloc (Nat.le_refl _) _⟩
  · have h2 : k > 11 := by
      by_cases h3 : k ≤ 11
      · rw [decide_eq_true (show 1 ≤ k by omega), decide_eq_true h3] at hk
        cases hk
      · omega
    clear hk
    go_enter Tryz.func101, Tryz.ntmps101
    go_wp2
    go_ret
    exact ⟨rfl, (Below.refl _ _).alloc (Nat.le_refl _) _⟩
theorem pfits (c : CM) (hc : c.ok) (w : World) :
    Calls Tryz.prog 101 #[c.v] w fun e w' => e = .returned (.bool (kindOk c.kind && fitsB c)) ∧ Below w.heap.size w w' := by
  by_cases h : kindOk c.kind = true
  · have h' := h
    unfold kindOk at h'
    simp only [Bool.and_eq_true, decide_eq_true_eq] at h'
    rw [h]
    exact fits_any c hc h'.1 h'.2 w
  · rw [Bool.not_eq_true] at h
    rw [h]
    exact fits_no c h w
theorem pright (c : CM) (hc : c.ok) (w : World) :
    Calls Tryz.prog 56 #[c.v] w fun e w' => e = .returned (.bool c.right) ∧ Below w.heap.size w w' := by
  have HN := hide (fun w => pnode c.node w)
  have HA := hide (fun w => pnumber c.ask w)
  have HF := hide (pfits c hc)
  unfold CM.right
  generalize nodeB c.node = p1 at *
  generalize greatB c.ask = p2 at *
  generalize (kindOk c.kind && fitsB c) = p3 at *
  obtain ⟨k, t, m, s, y, v, n, o, a⟩ := c
  clear hc
  simp only [CM.v, CM.cells] at *
  cases p1
  · go_enter Tryz.func56, Tryz.ntmps56
    go_wp2_with fail
    refine (HN.out _).mono ?_
    rintro e w' ⟨rfl, rfl⟩
    go_wp2
    go_ret
    exact ⟨rfl, (Below.refl _ _).alloc (Nat.le_refl _) _⟩
  · cases p2
    · go_enter Tryz.func56, Tryz.ntmps56
      go_wp2_with fail
      refine (HN.out _).mono ?_
      rintro e w' ⟨rfl, rfl⟩
      go_wp2_with fail
      refine (HA.out _).mono ?_
      rintro e w' ⟨rfl, rfl⟩
      go_wp2
      go_ret
      exact ⟨rfl, (Below.refl _ _).alloc (Nat.le_refl _) _⟩
    · go_enter Tryz.func56, Tryz.ntmps56
      go_wp2_with fail
      refine (HN.out _).mono ?_
      rintro e w' ⟨rfl, rfl⟩
      go_wp2_with fail
      refine (HA.out _).mono ?_
      rintro e w' ⟨rfl, rfl⟩
      go_wp2_with fail
      refine (HF.out _).mono ?_
      rintro e w3 ⟨rfl, b3⟩
      have B3 : Hid (Below w.heap.size w w3) := ((Below.refl _ _).alloc (Nat.le_refl _) _).trans (b3.mono (by simp))
      clear b3
      cases p3
      · go_wp2
        go_ret
        exact ⟨rfl, B3.out⟩
      · go_wp2
        go_ret
        exact ⟨rfl, B3.out⟩
end Go.Proofs.YtlfodldlkchmoaaGreat
