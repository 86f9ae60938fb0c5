/-
  know, as it runs (mkug.py).
-/
import Derived.Test.YtfoomgdlbkjaeaaGreatZUGa
import Derived.Test.YtfoomgdlbkjaeaaGreatZUGb
namespace Go.Proofs.YtfoomgdlbkjaeaaGreat.Y
open Go.RowKit Go.Maps
set_option maxHeartbeats 8000000
set_option maxRecDepth 100000
attribute [local go_sem ↓] Go.wp_at_zero Go.wp_at_succ
set_option linter.unusedSimpArgs false
set_option linter.unusedVariables false
def prodCells (l : List PU) : List Value := l.flatMap fun p => [.string p.name, .int .i64 p.off, .int .i64 p.seq]
theorem prodCells_get (l : List PU) (i : Nat) (hi : i < l.length) : (prodCells l)[i * 3]? = some (.string l[i].name) ∧ (prodCells l)[i * 3 + 1]? = some (.int .i64 l[i].off) ∧ (prodCells l)[i * 3 + 2]? = some (.int .i64 l[i].seq) := by
  induction l generalizing i with
  | nil => simp at hi
  | cons p l ih =>
    cases i with
    | zero => simp [prodCells]
    | succ i =>
      have := ih i (by simp at hi; omega)
      simp only [prodCells, List.flatMap_cons, List.getElem_cons_succ] at this ⊢
      rw [show (i + 1) * 3 = i * 3 + 3 by omega, show i * 3 + 3 + 1 = (i * 3 + 1) + 3 by omega, show i * 3 + 3 + 2 = (i * 3 + 2) + 3 by omega]
      simpa using this
theorem prods_three {w : World} {ro : Option Addr} {rc : Nat} {l : List PU} (h : OwnsQ w 75 3 (.slice ro l.length rc) l.length (prodCells l)) (i : Nat) (hi : i < l.length) : ∃ g off, ro = some ⟨g, off, none⟩ ∧ g < w.heap.size ∧ w.cell? ⟨g, off + i * 3, none⟩ = some (.string l[i].name) ∧ w.cell? ⟨g, off + i * 3 + 1, none⟩ = some (.int .i64 l[i].off) ∧ w.cell? ⟨g, off + i * 3 + 2, none⟩ = some (.int .i64 l[i].seq) := by
  cases ro with
  | none =>
    exfalso
    rcases h.2 with ⟨h1, h2⟩ | ⟨g, off, cap, cur, hv, _⟩
    · omega
    · cases hv
  | some ad =>
    have hlt := h.lt (k := ad.block) rfl
    obtain ⟨off, e, hc, _⟩ := h.cell
    obtain ⟨d0, d1, d2⟩ := prodCells_get l i hi
    exact ⟨ad.block, off, by rw [← e], hlt, (hc _ (by omega)).trans d0, (hc (i * 3 + 1) (by omega)).trans d1, (hc (i * 3 + 2) (by omega)).trans d2⟩
def riseB : Option ByteArray → ByteArray → Bool
  | none, _ => true
  | some a, b => !(Op.bytesLess b.toList a.toList || b.toList == a.toList)
def prodB (fin : Int) (p : PU) : Bool := wordB p.name && decide (0 ≤ p.seq) && decide (p.seq ≤ 9007199254740991) && decide (0 ≤ p.off) && decide (p.off < fin)
def knowF (fin : Int) : Option ByteArray → List PU → Bool
  | _, [] => true
  | q, p :: l => prodB fin p && riseB q p.name && knowF fin (some p.name) l
theorem knowF_cons (fin : Int) (q : Option ByteArray) (p : PU) (l : List PU) : knowF fin q (p :: l) = (prodB fin p && riseB q p.name && knowF fin (some p.name) l) := rfl
def knowD (D : DataW Nat) (l : List PU) : DataW Nat := l.foldl (fun D p => pput D p.name.data.toList p.off p.seq) D
theorem knowD_snoc (D : DataW Nat) (l : List PU) (p : PU) : knowD D (l ++ [p]) = pput (knowD D l) p.name.data.toList p.off p.seq := by simp [knowD]
def PU.ok (p : PU) : Prop := p.name.size ≤ 281474976710656
theorem kn_ret {W : World} {a : Act} {v : Vkn} {b : Bool} {R : Ending → World → Prop} (hF : Fkn a v) (h4 : v.v4 = .bool b) (h : R (.returned (.bool b)) W) :
    bodyPost Tryz.prog Tryz.f44 R .ret a W := by
  have g4 := slot_get (hF.s4.trans h4)
  refine bodyPost_ret (v := .bool b) ?_ hF.defers h
  simp [results, Tryz.results44, go_sem, g4]
theorem drop_atK {α : Type} (l : List α) {i : Nat} (h : i < l.length) : l.drop i = l[i] :: l.drop (i + 1) := by simp
theorem q_apart {w : World} {e1 e2 : TypeId} {z1 z2 n1 n2 : Nat} {v1 v2 : Value} {xs1 xs2 : List Value} (h1 : OwnsQ w e1 z1 v1 n1 xs1) (h2 : OwnsQ w e2 z2 v2 n2 xs2) (hne : e1 ≠ e2) {j : Nat} (hj : v1.ownBlock = some j) : v2.ownBlock ≠ some j := by
  intro hj2
  rcases h2.2 with ⟨hv, _⟩ | ⟨g, off, cap, cur, hv, hg, _⟩
  · rw [hv] at hj2; cases hj2
  · rw [hv] at hj2
    obtain rfl : g = j := Option.some.inj hj2
    exact hne (h1.type hj hg)
theorem prods_apart {w : World} {L : LOC} {G : TG} {ro : Option Addr} {rc : Nat} {l : List PU} (h : TAt w L G) (hq : OwnsQ w 75 3 (.slice ro l.length rc) l.length (prodCells l)) (j : Nat) (hj : (Value.slice ro l.length rc).ownBlock = some j) : ¬ L.own j := by
  rintro (rfl | rfl | e)
  · exact absurd (hq.type hj h.box) (by decide)
  · obtain ⟨es, c, hb, _⟩ := h.map
    rcases hq.2 with ⟨hv, _⟩ | ⟨g, off, cap, cur, hv, hg, _⟩
    · rw [hv] at hj; cases hj
    · rw [hv] at hj
      obtain rfl : g = L.mb := Option.some.inj hj
      rw [hb] at hg
      cases hg
  · exact q_apart hq h.row (by decide) hj ((own_block _ _ _ _).trans e)
theorem tknow {w : World} {L : LOC} {G : TG} (h : TAt w L G) (l : List PU) (ro : Option Addr) (rc : Nat) (hq : OwnsQ w 75 3 (.slice ro l.length rc) l.length (prodCells l)) (hok : ∀ p ∈ l, p.ok) (hl : l.length ≤ 1000000) (hn : G.n ≤ 1000000) :
    Calls Tryz.prog 44 #[.pointer (some ⟨L.b, 0, none⟩), .slice ro l.length rc] w (fun e w' => e = .returned (.bool (knowF G.fin none l)) ∧ Touch L.own w w' ∧ (knowF G.fin none l = true → TAt w' L { G with D := knowD G.D l, n := G.n + l.length })) := by
  go_enter Tryz.func44, Tryz.ntmps44
  refine wp_seq (reg_mono (kn_r0 (by kernel_rfl) _ (v := ⟨_, _, _, _, _, _, _, _⟩) ⟨rfl, rfl, rfl, rfl, rfl, rfl, rfl, rfl, rfl, rfl⟩ ?_))
  intro a0 F0
  try dsimp only at F0
  refine wp_seq (wp_seq (reg_mono (kn_r1 (by kernel_rfl) _ F0 rfl ?_)))
  intro a2 F2
  try dsimp only at F2
  refine wp_block (wp_loop (fun a W => ∃ (i : Nat) (v : Vkn), i ≤ l.length ∧ Fkn a v ∧ v.v0 = .pointer (some ⟨L.b, 0, none⟩) ∧ v.v1 = .slice ro l.length rc ∧ v.v7 = .slice ro l.length rc ∧ v.v8 = .int .i64 (l.length : Int) ∧ v.v9 = .int .i64 (i : Int) ∧ knowF G.fin none l = knowF G.fin (if i = 0 then none else (l[i - 1]?).map PU.name) (l.drop i) ∧ TAt W L { G with D := knowD G.D (l.take i), n := G.n + i } ∧ Touch L.own w W) (fun a _ => l.length - (intOf (a.tmps.getD 9 undef)).toNat) ⟨0, _, Nat.zero_le _, F2, rfl, rfl, rfl, rfl, rfl, by simp, h, Touch.refl _ _⟩ ?_)
  clear F0 F2
  rintro a3 w3 ⟨i, v, hi, F3, q0, q1, q7, q8, q9, hv, T3, B3⟩
  have hmi : (intOf (a3.tmps.getD 9 undef)).toNat = i := by rw [F3.s9, q9]; simp [intOf]
  have Q3 := hq.keep B3 (prods_apart h hq)
  refine wp_seq (reg_mono (kn_r2 (by kernel_rfl) _ F3 q9 q8 ?_))
  intro a4 F4 g4
  by_cases hil : i < l.length
  case pos =>
    rw [decide_eq_true hil] at g4
    refine wp_seq (wp_cond_true g4 (wp_skip ?_))
    show Code.wp _ _ _ _ _
    obtain ⟨g, off, hro, hg, c0, c1, c2⟩ := prods_three Q3 i hil
    have q7' := q7
    have q1' := q1
    rw [hro] at q7' q1'
    have hoi := hok _ (List.getElem_mem hil)
    have htk : l.take (i + 1) = l.take i ++ [l[i]] := List.take_succ_eq_append_getElem hil
    have hpv : ((l[i + 1 - 1]?).map PU.name) = some l[i].name := by simp [hil]
    rw [drop_atK l hil, knowF_cons] at hv
    have hprev : ∀ j, j + 1 = i → ∃ q : PU, l[i - 1]? = some q ∧ w3.cell? ⟨g, off + j * 3, none⟩ = some (.string q.name) := by
      intro j hj
      have hjl : j < l.length := by omega
      obtain ⟨g', off', hro', _, d0, _, _⟩ := prods_three Q3 j hjl
      have e := Option.some.inj (hro'.symm.trans hro)
      injection e with e1 e2 _
      subst e1 e2
      exact ⟨l[j]'hjl, by rw [show i - 1 = j by omega, List.getElem?_eq_getElem hjl], d0⟩
    generalize l[i] = x at *
    obtain ⟨nz, pq, po⟩ := x
    dsimp only at c0 c1 c2 hv hpv
    have hC := fun W => pword nz (by have := hoi; simp only [PU.ok] at this; omega) W
    refine wp_seq (wp_block (wp_seq (reg_mono (kn_r3 (by kernel_rfl) _ F4 q7' q9 hil c0 c1 c2 ?_))))
    intro a5 F5
    try dsimp only at F5
    have bA := (Below.refl w3.heap.size w3).alloc (Nat.le_refl _) (.cells #[.string nz, .int .i64 po, .int .i64 pq] 75)
    have XA := heap_alloc_new w3 (.cells #[.string nz, .int .i64 po, .int .i64 pq] 75)
    generalize w3.alloc (.cells #[.string nz, .int .i64 po, .int .i64 pq] 75) = w4 at *
    have TA := T3.below bA
    have BA := B3.andThen (Touch.of_below (own := L.own) bA) (fun _ _ e => e)
    by_cases h1 : wordB nz = true
    case neg =>
      have h1 : wordB nz = false := by simpa using h1
      rw [h1] at hC
      refine wp_seq (wp_seq (reg_mono (kn_r4a (by kernel_rfl) _ F5 q0 rfl TA.box XA hC ?_)))
      intro a6 w6 F6 g6 b6
      have hv : knowF G.fin none l = false := by rw [hv]; simp [prodB, h1]
      refine wp_cond_true g6 (wp_seq (reg_mono (kn_r5 (by kernel_rfl) _ F6 ?_)))
      intro a7 F7
      try dsimp only at F7
      exact wp_ret (kn_ret (b := false) (R := fun e w' => e = .returned (.bool (knowF G.fin none l)) ∧ Touch L.own w w' ∧ (knowF G.fin none l = true → TAt w' L { G with D := knowD G.D l, n := G.n + l.length })) F7 rfl ⟨by rw [hv], BA.andThen (Touch.of_below (own := L.own) b6) (fun _ _ e => e), fun e => by rw [hv] at e; cases e⟩)
    rw [h1] at hC
    by_cases h2 : pq < 0
    case pos =>
      refine wp_seq (wp_seq (reg_mono (kn_r4b (by kernel_rfl) _ F5 q0 rfl TA.box XA hC h2 ?_)))
      intro a6 w6 F6 g6 b6
      have hv : knowF G.fin none l = false := by rw [hv]; simp only [prodB, decide_eq_false (by omega : ¬ 0 ≤ pq)]; simp
      refine wp_cond_true g6 (wp_seq (reg_mono (kn_r5 (by kernel_rfl) _ F6 ?_)))
      intro a7 F7
      try dsimp only at F7
      exact wp_ret (kn_ret (b := false) (R := fun e w' => e = .returned (.bool (knowF G.fin none l)) ∧ Touch L.own w w' ∧ (knowF G.fin none l = true → TAt w' L { G with D := knowD G.D l, n := G.n + l.length })) F7 rfl ⟨by rw [hv], BA.andThen (Touch.of_below (own := L.own) b6) (fun _ _ e => e), fun e => by rw [hv] at e; cases e⟩)
    by_cases h3 : pq > 9007199254740991
    case pos =>
      refine wp_seq (wp_seq (reg_mono (kn_r4c (by kernel_rfl) _ F5 q0 rfl TA.box XA hC h2 h3 ?_)))
      intro a6 w6 F6 g6 b6
      have hv : knowF G.fin none l = false := by rw [hv]; simp only [prodB, decide_eq_false (by omega : ¬ pq ≤ 9007199254740991)]; simp
      refine wp_cond_true g6 (wp_seq (reg_mono (kn_r5 (by kernel_rfl) _ F6 ?_)))
      intro a7 F7
      try dsimp only at F7
      exact wp_ret (kn_ret (b := false) (R := fun e w' => e = .returned (.bool (knowF G.fin none l)) ∧ Touch L.own w w' ∧ (knowF G.fin none l = true → TAt w' L { G with D := knowD G.D l, n := G.n + l.length })) F7 rfl ⟨by rw [hv], BA.andThen (Touch.of_below (own := L.own) b6) (fun _ _ e => e), fun e => by rw [hv] at e; cases e⟩)
    by_cases h4 : po < 0
    case pos =>
      refine wp_seq (wp_seq (reg_mono (kn_r4d (by kernel_rfl) _ F5 q0 rfl TA.box XA hC h2 h3 h4 ?_)))
      intro a6 w6 F6 g6 b6
      have hv : knowF G.fin none l = false := by rw [hv]; simp only [prodB, decide_eq_false (by omega : ¬ 0 ≤ po)]; simp
      refine wp_cond_true g6 (wp_seq (reg_mono (kn_r5 (by kernel_rfl) _ F6 ?_)))
      intro a7 F7
      try dsimp only at F7
      exact wp_ret (kn_ret (b := false) (R := fun e w' => e = .returned (.bool (knowF G.fin none l)) ∧ Touch L.own w w' ∧ (knowF G.fin none l = true → TAt w' L { G with D := knowD G.D l, n := G.n + l.length })) F7 rfl ⟨by rw [hv], BA.andThen (Touch.of_below (own := L.own) b6) (fun _ _ e => e), fun e => by rw [hv] at e; cases e⟩)
    by_cases h5 : po ≥ (G.fin : Int)
    case pos =>
      refine wp_seq (wp_seq (reg_mono (kn_r4e (by kernel_rfl) _ F5 q0 rfl TA.box XA hC h2 h3 h4 h5 ?_)))
      intro a6 w6 F6 g6 b6
      have hv : knowF G.fin none l = false := by rw [hv]; simp only [prodB, decide_eq_false (by omega : ¬ po < (G.fin : Int))]; simp
      refine wp_cond_true g6 (wp_seq (reg_mono (kn_r5 (by kernel_rfl) _ F6 ?_)))
      intro a7 F7
      try dsimp only at F7
      exact wp_ret (kn_ret (b := false) (R := fun e w' => e = .returned (.bool (knowF G.fin none l)) ∧ Touch L.own w w' ∧ (knowF G.fin none l = true → TAt w' L { G with D := knowD G.D l, n := G.n + l.length })) F7 rfl ⟨by rw [hv], BA.andThen (Touch.of_below (own := L.own) b6) (fun _ _ e => e), fun e => by rw [hv] at e; cases e⟩)
    have hpb : prodB G.fin ⟨nz, pq, po⟩ = true := by
      simp only [prodB, h1, decide_eq_true (by omega : 0 ≤ pq), decide_eq_true (by omega : pq ≤ 9007199254740991), decide_eq_true (by omega : 0 ≤ po), decide_eq_true (by omega : po < (G.fin : Int))]
      rfl
    rw [hpb] at hv
    refine wp_seq (wp_seq (reg_mono (kn_r4f (by kernel_rfl) _ F5 q0 rfl TA.box XA hC h2 h3 h4 h5 ?_)))
    intro a6 w6 F6 g6 b6
    refine wp_cond_false g6 (wp_skip ?_)
    show Code.wp _ _ _ _ _
    have X6 := (b6.block _ (heap_lt XA)).trans XA
    have T6 := TA.below b6
    have bb6 := bA.trans (b6.mono bA.size)
    have B6 := BA.andThen (Touch.of_below (own := L.own) b6) (fun _ _ e => e)
    by_cases hi0 : i = 0
    case pos =>
      rw [if_pos hi0] at hv
      refine wp_seq (wp_seq (reg_mono (kn_r6a (by kernel_rfl) _ F6 rfl (congrArg (Value.int .i64) (by omega)) X6 ?_)))
      intro a7 w7 F7 g7 b7
      have X8 := (b7.block _ (heap_lt X6)).trans X6
      have T8 := T6.below b7
      have B8 := B6.andThen (Touch.of_below (own := L.own) b7) (fun _ _ e => e)
      refine wp_cond_false g7 (wp_skip ?_)
      show Code.wp _ _ _ _ _
      refine reg_all (kn_r8 (R := fun W W2 => W2.ownsMap Tryz.prog 9 lastR L.mb (G.n + i + 1) (pput (knowD G.D (l.take i)) nz.data.toList po pq) ∧ Touch (fun j => j = L.mb) W W2) (by kernel_rfl) _ F7 q0 rfl T8.box X8 (fun W hb => ?_) ?_)
      · obtain ⟨w9, hrun, hown9, hturn⟩ := (T8.below hb).map.store keyedS Tryz.underlying50 (by unfold maxLen; dsimp only; omega) (Go.WideMaps.keyOf_string_mk (P := Tryz.prog) Tryz.underlying9 (s := nz) (by have := hoi; simp only [PU.ok] at this; unfold maxLen; omega)) (lastR_mk po pq)
        exact ⟨w9, hrun, hown9, (Touch.refl _ _).grown hturn.grown (fun k hk _ => (Option.some.inj hk).symm)⟩
      intro a9 w9 w10 F9 b9 ⟨M10, t10⟩
      try dsimp only at F9
      have T9 := T8.below b9
      have T10 : TAt w10 L { G with D := knowD G.D (l.take (i + 1)), n := G.n + (i + 1) } := by
        rw [htk, knowD_snoc]
        exact ⟨t10.at T9.box (fun e => T9.mb_ne e.symm), T9.row.keep t10 (fun j hj e => T9.row_mb (by rw [hj, e])), M10⟩
      have B10 := (B8.andThen (Touch.of_below (own := L.own) b9) (fun _ _ e => e)).andThen (t10.mono (fun j _ e => .inr (.inl e))) (fun _ _ e => e)
      show Code.wp _ _ _ _ _
      refine reg_mono (kn_r9 (by kernel_rfl) _ F9 q9 (by omega) ?_)
      intro a11 F11
      try dsimp only at F11
      refine ⟨⟨i + 1, _, by omega, F11, q0, q1, q7, q8, rfl, ?_, T10, B10⟩, ?_⟩
      · rw [if_neg (Nat.succ_ne_zero i), hpv, hv]
        simp [riseB]
      · rw [hmi, F11.s9]
        simp [intOf]
        omega
    rw [if_neg hi0] at hv
    obtain ⟨j, rfl⟩ : ∃ j, i = j + 1 := ⟨i - 1, by omega⟩
    obtain ⟨pv, hpe, cp⟩ := hprev j rfl
    rw [hpe] at hv
    simp only [Option.map_some] at hv
    have cq := (bb6.cell (p := ⟨g, off + j * 3, none⟩) hg).trans cp
    have hg6 : g < w6.heap.size := Nat.lt_of_lt_of_le hg bb6.size
    obtain ⟨sp, _, _⟩ := pv
    dsimp only at hv cq
    by_cases hz1 : Op.bytesLess nz.toList sp.toList = true
    case pos =>
      refine wp_seq (wp_seq (reg_mono (kn_r6b (by kernel_rfl) _ F6 rfl (congrArg (Value.int .i64) (by omega)) q1' X6 (by omega) hg6 cq (by omega) hz1 ?_)))
      intro a7 w7 F7 g7 b7
      have hv : knowF G.fin none l = false := by rw [hv]; simp [riseB, hz1]
      refine wp_cond_true g7 (wp_seq (reg_mono (kn_r7 (by kernel_rfl) _ F7 ?_)))
      intro a8 F8
      try dsimp only at F8
      exact wp_ret (kn_ret (b := false) (R := fun e w' => e = .returned (.bool (knowF G.fin none l)) ∧ Touch L.own w w' ∧ (knowF G.fin none l = true → TAt w' L { G with D := knowD G.D l, n := G.n + l.length })) F8 rfl ⟨by rw [hv], B6.andThen (Touch.of_below (own := L.own) b7) (fun _ _ e => e), fun e => by rw [hv] at e; cases e⟩)
    by_cases hz2 : nz = sp
    case pos =>
      subst hz2
      refine wp_seq (wp_seq (reg_mono (kn_r6c (by kernel_rfl) _ F6 rfl (congrArg (Value.int .i64) (by omega)) q1' X6 (by omega) hg6 cq (by omega) ?_)))
      intro a7 w7 F7 g7 b7
      have hv : knowF G.fin none l = false := by rw [hv]; simp [riseB]
      refine wp_cond_true g7 (wp_seq (reg_mono (kn_r7 (by kernel_rfl) _ F7 ?_)))
      intro a8 F8
      try dsimp only at F8
      exact wp_ret (kn_ret (b := false) (R := fun e w' => e = .returned (.bool (knowF G.fin none l)) ∧ Touch L.own w w' ∧ (knowF G.fin none l = true → TAt w' L { G with D := knowD G.D l, n := G.n + l.length })) F8 rfl ⟨by rw [hv], B6.andThen (Touch.of_below (own := L.own) b7) (fun _ _ e => e), fun e => by rw [hv] at e; cases e⟩)
    have hz1 : Op.bytesLess nz.toList sp.toList = false := by simpa using hz1
    have hz3 : (nz.toList == sp.toList) = false := by
      rw [beq_eq_false_iff_ne]
      intro e
      rw [ByteArray.toList_eq, ByteArray.toList_eq] at e
      exact hz2 (by
        obtain ⟨⟨a1⟩⟩ := nz
        obtain ⟨⟨a2⟩⟩ := sp
        simp at e
        rw [e])
    refine wp_seq (wp_seq (reg_mono (kn_r6d (by kernel_rfl) _ F6 rfl (congrArg (Value.int .i64) (by omega)) q1' X6 (by omega) hg6 cq (by omega) hz1 hz3 ?_)))
    intro a7 w7 F7 g7 b7
    have X8 := (b7.block _ (heap_lt X6)).trans X6
    have T8 := T6.below b7
    have B8 := B6.andThen (Touch.of_below (own := L.own) b7) (fun _ _ e => e)
    refine wp_cond_false g7 (wp_skip ?_)
    show Code.wp _ _ _ _ _
    refine reg_all (kn_r8 (R := fun W W2 => W2.ownsMap Tryz.prog 9 lastR L.mb (G.n + (j + 1) + 1) (pput (knowD G.D (l.take (j + 1))) nz.data.toList po pq) ∧ Touch (fun j => j = L.mb) W W2) (by kernel_rfl) _ F7 q0 rfl T8.box X8 (fun W hb => ?_) ?_)
    · obtain ⟨w9, hrun, hown9, hturn⟩ := (T8.below hb).map.store keyedS Tryz.underlying50 (by unfold maxLen; dsimp only; omega) (Go.WideMaps.keyOf_string_mk (P := Tryz.prog) Tryz.underlying9 (s := nz) (by have := hoi; simp only [PU.ok] at this; unfold maxLen; omega)) (lastR_mk po pq)
      exact ⟨w9, hrun, hown9, (Touch.refl _ _).grown hturn.grown (fun k hk _ => (Option.some.inj hk).symm)⟩
    intro a9 w9 w10 F9 b9 ⟨M10, t10⟩
    try dsimp only at F9
    have T9 := T8.below b9
    have T10 : TAt w10 L { G with D := knowD G.D (l.take (j + 1 + 1)), n := G.n + (j + 1 + 1) } := by
      rw [htk, knowD_snoc]
      exact ⟨t10.at T9.box (fun e => T9.mb_ne e.symm), T9.row.keep t10 (fun j hj e => T9.row_mb (by rw [hj, e])), M10⟩
    have B10 := (B8.andThen (Touch.of_below (own := L.own) b9) (fun _ _ e => e)).andThen (t10.mono (fun j _ e => .inr (.inl e))) (fun _ _ e => e)
    show Code.wp _ _ _ _ _
    refine reg_mono (kn_r9 (by kernel_rfl) _ F9 q9 (by omega) ?_)
    intro a11 F11
    try dsimp only at F11
    refine ⟨⟨j + 1 + 1, _, by omega, F11, q0, q1, q7, q8, rfl, ?_, T10, B10⟩, ?_⟩
    · rw [if_neg (Nat.succ_ne_zero (j + 1)), hpv, hv]
      simp [riseB, hz1, hz3]
    · rw [hmi, F11.s9]
      simp [intOf]
      omega
  rw [decide_eq_false hil] at g4
  refine wp_seq (wp_cond_false g4 (wp_exit ?_))
  show Code.wp _ _ _ _ _
  obtain rfl : i = l.length := by omega
  rw [List.drop_length] at hv
  have hv2 : knowF G.fin none l = true := hv
  rw [List.take_length] at T3
  refine wp_seq (reg_mono (kn_r10 (by kernel_rfl) _ F4 ?_))
  intro a6 F6
  try dsimp only at F6
  exact wp_ret (kn_ret (b := true) (R := fun e w' => e = .returned (.bool (knowF G.fin none l)) ∧ Touch L.own w w' ∧ (knowF G.fin none l = true → TAt w' L { G with D := knowD G.D l, n := G.n + l.length })) F6 rfl ⟨by rw [hv2], B3, fun _ => T3⟩)
end Go.Proofs.YtfoomgdlbkjaeaaGreat.Y
