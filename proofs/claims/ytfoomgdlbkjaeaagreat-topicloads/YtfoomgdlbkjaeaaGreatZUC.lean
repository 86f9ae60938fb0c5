/-
  Dump's regions (mkuc.py).
-/
import Derived.Test.YtfoomgdlbkjaeaaGreatZUB
import Derived.Test.YtfoomgdlbkjaeaaGreatZKW14
import Derived.Test.YtfoomgdlbkjaeaaGreatZKAppI
namespace Go.Proofs.YtfoomgdlbkjaeaaGreat.Y
open Go.RowKit
set_option maxHeartbeats 8000000
set_option maxRecDepth 100000
attribute [local go_sem ↓] Go.wp_at_zero Go.wp_at_succ
set_option linter.unusedSimpArgs false
set_option linter.unusedVariables false
theorem items_of_row {w : World} {B : Nat} {ao : Option Addr} {cp : Nat} {l : List K.It} (h : w.ownsRow B 83 3 (.slice ao l.length cp) l.length (K.itemCells l)) : K.ItemsAt w ao l := by
  obtain ⟨ao2, cp2, e, hat⟩ := K.items_of_own h
  injection e with e _ _
  subst e
  exact hat
theorem nil_row {w : World} {B : Nat} {ao : Option Addr} {cp : Nat} {l : List K.It} (h : w.ownsRow B 83 3 (.slice ao l.length cp) l.length (K.itemCells l)) (e : ao = none) : cp = 0 ∧ l = [] := by
  subst e
  rcases h.2 with ⟨h1, h2⟩ | ⟨g, cap, cur, h1, _⟩
  · injection h1 with _ _ h3
    exact ⟨h3, List.eq_nil_of_length_eq_zero h2⟩
  · cases h1
theorem row_other {w : World} {base e size n b : Nat} {v : Value} {xs : List Value} {c : Array Value} {t : TypeId} (h : w.ownsRow base e size v n xs) (hb : v.ownBlock = some b) (hw : w.heap[b]? = some (.cells c t (0, 0))) (hne : t ≠ e) : False := by
  rcases h.2 with ⟨rfl, _⟩ | ⟨g, cap, cur, rfl, _, hg, _⟩
  · cases hb
  · obtain rfl : g = b := by simpa [Value.ownBlock] using hb
    rw [hg] at hw
    injection hw with hw
    injection hw with _ h2 _
    exact hne h2.symm
theorem frame_du (t : Array Value) (h : t.size = 55) : ∃ u : Nat → Value, t = List.toArray (u 0 :: u 1 :: u 2 :: u 3 :: u 4 :: u 5 :: u 6 :: u 7 :: u 8 :: u 9 :: u 10 :: u 11 :: u 12 :: u 13 :: u 14 :: u 15 :: u 16 :: u 17 :: u 18 :: u 19 :: u 20 :: u 21 :: u 22 :: u 23 :: u 24 :: u 25 :: u 26 :: u 27 :: u 28 :: u 29 :: u 30 :: u 31 :: u 32 :: u 33 :: u 34 :: u 35 :: u 36 :: u 37 :: u 38 :: u 39 :: u 40 :: u 41 :: u 42 :: u 43 :: u 44 :: u 45 :: u 46 :: u 47 :: u 48 :: u 49 :: u 50 :: u 51 :: u 52 :: u 53 :: u 54 :: []) := by
  refine ⟨fun i => t.getD i undef, ?_⟩
  refine Eq.trans (b := ((List.range 55).map fun i => t.getD i undef).toArray) ?_ rfl
  apply Array.ext
  · simp [h]
  · intro k h1 h2
    simp [Array.getD, h1]
structure Vdu where
  v0 : Value
  v2 : Value
  v3 : Value
  v5 : Value
  v7 : Value
  v8 : Value
  v17 : Value
  v18 : Value
  v19 : Value
  v38 : Value
  v39 : Value
  v40 : Value
structure Fdu (a : Act) (v : Vdu) : Prop where
  size : a.tmps.size = 55
  defers : a.defers = []
  s0 : a.tmps.getD 0 undef = v.v0
  s2 : a.tmps.getD 2 undef = v.v2
  s3 : a.tmps.getD 3 undef = v.v3
  s5 : a.tmps.getD 5 undef = v.v5
  s7 : a.tmps.getD 7 undef = v.v7
  s8 : a.tmps.getD 8 undef = v.v8
  s17 : a.tmps.getD 17 undef = v.v17
  s18 : a.tmps.getD 18 undef = v.v18
  s19 : a.tmps.getD 19 undef = v.v19
  s38 : a.tmps.getD 38 undef = v.v38
  s39 : a.tmps.getD 39 undef = v.v39
  s40 : a.tmps.getD 40 undef = v.v40
theorem frx_du {a : Act} {v0 v2 v3 v5 v7 v8 v17 v18 v19 v38 v39 v40 : Value} (h : Fdu a ⟨v0, v2, v3, v5, v7, v8, v17, v18, v19, v38, v39, v40⟩) : ∃ u : Nat → Value, a = ⟨List.toArray (v0 :: u 1 :: v2 :: v3 :: u 4 :: v5 :: u 6 :: v7 :: v8 :: u 9 :: u 10 :: u 11 :: u 12 :: u 13 :: u 14 :: u 15 :: u 16 :: v17 :: v18 :: v19 :: u 20 :: u 21 :: u 22 :: u 23 :: u 24 :: u 25 :: u 26 :: u 27 :: u 28 :: u 29 :: u 30 :: u 31 :: u 32 :: u 33 :: u 34 :: u 35 :: u 36 :: u 37 :: v38 :: v39 :: v40 :: u 41 :: u 42 :: u 43 :: u 44 :: u 45 :: u 46 :: u 47 :: u 48 :: u 49 :: u 50 :: u 51 :: u 52 :: u 53 :: u 54 :: []), []⟩ := by
  obtain ⟨t', d'⟩ := a
  obtain ⟨hs, hd, q0, q2, q3, q5, q7, q8, q17, q18, q19, q38, q39, q40⟩ := h
  obtain ⟨u, hu⟩ := frame_du t' hs
  simp only at hd q0 q2 q3 q5 q7 q8 q17 q18 q19 q38 q39 q40
  subst hu hd
  have e0 : u 0 = v0 := q0
  have e2 : u 2 = v2 := q2
  have e3 : u 3 = v3 := q3
  have e5 : u 5 = v5 := q5
  have e7 : u 7 = v7 := q7
  have e8 : u 8 = v8 := q8
  have e17 : u 17 = v17 := q17
  have e18 : u 18 = v18 := q18
  have e19 : u 19 = v19 := q19
  have e38 : u 38 = v38 := q38
  have e39 : u 39 = v39 := q39
  have e40 : u 40 = v40 := q40
  refine ⟨u, ?_⟩
  rw [e0, e2, e3, e5, e7, e8, e17, e18, e19, e38, e39, e40]
theorem du_r0 {K : Act → World → Prop} {c : Code} (hc : regOf (Tryz.f19.body.getD .skip) 0 = some c) (a : Act) {v : Vdu} {wq : World}  (hF : Fdu a v) (hQ : ∀ a', Fdu a' { v with v2 := .string ⟨#[]⟩ } → K a' wq) :
    Code.wp Tryz.prog c (Exit.then K fun _ _ _ => False) a wq := by
  have HQ := hide hQ
  clear hQ
  obtain ⟨v0, v2, v3, v5, v7, v8, v17, v18, v19, v38, v39, v40⟩ := v
  obtain ⟨u, rfl⟩ := frx_du hF
  clear hF
  simp only [Tryz.f19, Option.getD_some, regOf] at hc
  injection hc with hc
  subst hc
  go_wp2
  exact HQ.out _ ⟨rfl, rfl, rfl, rfl, rfl, rfl, rfl, rfl, rfl, rfl, rfl, rfl, rfl, rfl⟩
theorem du_r1 {K : Act → World → Prop} {c : Code} (hc : regOf (Tryz.f19.body.getD .skip) 1 = some c) (a : Act) {v : Vdu} {wq : World} {tb n : Nat} {R : Option Addr → Nat → World → Prop} (hF : Fdu a v) (h0v : v.v0 = .pointer (some ⟨tb, 0, none⟩)) (hE : Calls Tryz.prog 36 #[.pointer (some ⟨tb, 0, none⟩)] wq fun e w' => ∃ ao cp, e = .returned (.slice ao n cp) ∧ R ao cp w')
    (hQ : ∀ a' w' ao cp, Fdu a' { v with v3 := .slice ao n cp } → R ao cp w' → K a' w') :
    Code.wp Tryz.prog c (Exit.then K fun _ _ _ => False) a wq := by
  have HQ := hide hQ
  clear hQ
  obtain ⟨v0, v2, v3, v5, v7, v8, v17, v18, v19, v38, v39, v40⟩ := v
  simp only at h0v HQ
  subst h0v
  obtain ⟨u, rfl⟩ := frx_du hF
  clear hF
  simp only [Tryz.f19, Option.getD_some, regOf] at hc
  injection hc with hc
  subst hc
  have HE := hide hE
  clear hE
  go_wp2_with fail
  refine HE.out.mono ?_
  rintro e w1 ⟨ao, cp, rfl, r1⟩
  have R1 := hide r1
  clear r1 HE
  go_wp2
  exact HQ.out _ _ ao cp ⟨rfl, rfl, rfl, rfl, rfl, rfl, rfl, rfl, rfl, rfl, rfl, rfl, rfl, rfl⟩ R1.out
theorem du_r2 {K : Act → World → Prop} {c : Code} (hc : regOf (Tryz.f19.body.getD .skip) 2 = some c) (a : Act) {v : Vdu} {wq : World} {tb mb rn rc : Nat} {ro : Option Addr} {nm : ByteArray} {lo fi : Int} {n : Nat} {W1 : World} {R : Option Addr → Nat → World → Prop} (hF : Fdu a v) (h0v : v.v0 = .pointer (some ⟨tb, 0, none⟩)) (hB : wq.heap[tb]? = some (.cells #[.string nm, .int .i64 lo, .int .i64 fi, .slice ro rn rc, .map (some mb)] 52 (0, 0))) (hK : Calls Tryz.prog 38 #[.map (some mb)] wq fun e w' => e = .returned (keysFn wq.heap.size) ∧ w' = W1) (hS : Calls Tryz.prog 37 #[keysFn wq.heap.size] W1 fun e w' => ∃ ao cp, e = .returned (.slice ao n cp) ∧ R ao cp w')
    (hQ : ∀ a' w' ao cp, Fdu a' { v with v17 := .slice ao n cp, v18 := .int .i64 (n : Int), v19 := .int .i64 ((0 : Nat) : Int) } → R ao cp w' → K a' w') :
    Code.wp Tryz.prog c (Exit.then K fun _ _ _ => False) a wq := by
  have HQ := hide hQ
  clear hQ
  obtain ⟨v0, v2, v3, v5, v7, v8, v17, v18, v19, v38, v39, v40⟩ := v
  simp only at h0v HQ
  subst h0v
  obtain ⟨u, rfl⟩ := frx_du hF
  clear hF
  simp only [Tryz.f19, Option.getD_some, regOf] at hc
  injection hc with hc
  subst hc
  have c4 := box_cell hB 4 rfl
  unfold keysFn at hK hS
  have HK := hide hK
  have HS := hide hS
  clear hK hS hB
  go_wp2_with (first | (go_at_call 38; refine HK.out.mono ?_; rintro e w' ⟨rfl, rfl⟩) | (go_at_call 37; refine HS.out.mono ?_; rintro e w2 ⟨ao, cp, rfl, r1⟩; have R1 := hide r1; clear r1))
  exact HQ.out _ _ ao cp ⟨rfl, rfl, rfl, rfl, rfl, rfl, rfl, rfl, rfl, rfl, rfl, rfl, rfl, rfl⟩ R1.out
theorem du_r3 {K : Act → World → Prop} {c : Code} (hc : regOf (Tryz.f19.body.getD .skip) 3 = some c) (a : Act) {v : Vdu} {wq : World} {i n : Nat} (hF : Fdu a v) (h19v : v.v19 = .int .i64 (i : Int)) (h18v : v.v18 = .int .i64 (n : Int)) (hQ : ∀ a', Fdu a' v → a'.tmps.getD 20 undef = .bool (decide (i < n)) → K a' wq) :
    Code.wp Tryz.prog c (Exit.then K fun _ _ _ => False) a wq := by
  have HQ := hide hQ
  clear hQ
  obtain ⟨v0, v2, v3, v5, v7, v8, v17, v18, v19, v38, v39, v40⟩ := v
  simp only at h19v h18v HQ
  subst h19v h18v
  obtain ⟨u, rfl⟩ := frx_du hF
  clear hF
  simp only [Tryz.f19, Option.getD_some, regOf] at hc
  injection hc with hc
  subst hc
  by_cases h1 : i < n
  · rw [decide_eq_true h1] at HQ
    have g : (i : Int) < (n : Int) := by omega
    go_wp2
    exact HQ.out _ ⟨rfl, rfl, rfl, rfl, rfl, rfl, rfl, rfl, rfl, rfl, rfl, rfl, rfl, rfl⟩ (by first | rfl | (simp; done) | (simp; omega))
  · rw [decide_eq_false h1] at HQ
    have g : ¬ (i : Int) < (n : Int) := by omega
    go_wp2
    exact HQ.out _ ⟨rfl, rfl, rfl, rfl, rfl, rfl, rfl, rfl, rfl, rfl, rfl, rfl, rfl, rfl⟩ (by first | rfl | (simp; done) | (simp; omega))
theorem du_r4 {K : Act → World → Prop} {c : Code} (hc : regOf (Tryz.f19.body.getD .skip) 4 = some c) (a : Act) {v : Vdu} {wq : World} {g off n cp i : Nat} {s : ByteArray} (hF : Fdu a v) (h17v : v.v17 = .slice (some ⟨g, off, none⟩) n cp) (h19v : v.v19 = .int .i64 (i : Int)) (hi : i < n) (c0 : wq.cell? ⟨g, off + i, none⟩ = some (.string s))
    (hQ : ∀ a', Fdu a' { v with v5 := .string s } → K a' wq) :
    Code.wp Tryz.prog c (Exit.then K fun _ _ _ => False) a wq := by
  have HQ := hide hQ
  clear hQ
  obtain ⟨v0, v2, v3, v5, v7, v8, v17, v18, v19, v38, v39, v40⟩ := v
  simp only at h17v h19v HQ
  subst h17v h19v
  obtain ⟨u, rfl⟩ := frx_du hF
  clear hF
  simp only [Tryz.f19, Option.getD_some, regOf] at hc
  injection hc with hc
  subst hc
  have hi0 : (0 : Int) ≤ (i : Int) := by omega
  have hi1 : (i : Int) < (n : Int) := by omega
  go_wp2
  exact HQ.out _ ⟨rfl, rfl, rfl, rfl, rfl, rfl, rfl, rfl, rfl, rfl, rfl, rfl, rfl, rfl⟩
theorem du_r5 {K : Act → World → Prop} {c : Code} (hc : regOf (Tryz.f19.body.getD .skip) 5 = some c) (a : Act) {v : Vdu} {wq : World} {tb mb rn rc : Nat} {ro : Option Addr} {nm : ByteArray} {lo fi : Int} {oo : Option Addr} {oc B : Nat} {LK its : List Go.Proofs.YtfoomgdlbkjaeaaGreat.K.It} {s : ByteArray} {po ps : Int} (hF : Fdu a v) (h0v : v.v0 = .pointer (some ⟨tb, 0, none⟩)) (h3v : v.v3 = .slice oo LK.length oc) (h5v : v.v5 = .string s) (hB : wq.heap[tb]? = some (.cells #[.string nm, .int .i64 lo, .int .i64 fi, .slice ro rn rc, .map (some mb)] 52 (0, 0))) (hLk : (Instr.lookup 50 (.map (some mb)) (.string s) false).run Tryz.prog wq = .ok (.agg #[.int .i64 po, .int .i64 ps]) wq) (hrow : wq.ownsRow B 83 3 (.slice oo LK.length oc) LK.length (Go.Proofs.YtfoomgdlbkjaeaaGreat.K.itemCells LK)) (hB0 : B ≤ wq.heap.size) (hl : LK.length + its.length ≤ 10000000) (hC : ∀ W, Below wq.heap.size wq W → Calls Tryz.prog 39 #[.agg #[.string s, .int .i64 po, .int .i64 ps]] W fun e w' => ∃ ao cp, e = .returned (.slice ao its.length cp) ∧ w'.ownsRow W.heap.size 83 3 (.slice ao its.length cp) its.length (Go.Proofs.YtfoomgdlbkjaeaaGreat.K.itemCells its) ∧ Below W.heap.size W w')
    (hQ : ∀ a' w' oo' oc', Fdu a' { v with v3 := .slice oo' (LK ++ its).length oc' } → w'.ownsRow B 83 3 (.slice oo' (LK ++ its).length oc') (LK ++ its).length (Go.Proofs.YtfoomgdlbkjaeaaGreat.K.itemCells (LK ++ its)) → Touch (fun j => (Value.slice oo LK.length oc).ownBlock = some j) wq w' → K a' w') :
    Code.wp Tryz.prog c (Exit.then K fun _ _ _ => False) a wq := by
  have HQ := hide hQ
  clear hQ
  obtain ⟨v0, v2, v3, v5, v7, v8, v17, v18, v19, v38, v39, v40⟩ := v
  simp only at h0v h3v h5v HQ
  subst h0v h3v h5v
  obtain ⟨u, rfl⟩ := frx_du hF
  clear hF
  simp only [Tryz.f19, Option.getD_some, regOf] at hc
  injection hc with hc
  subst hc
  have c4 := box_cell hB 4 rfl
  have HC := hide hC
  clear hC hB
  go_wp2_with (first | (go_at_call 39; refine (HC.out _ (Below.refl _ _)).mono ?_; rintro e w1 ⟨ao1, cp1, rfl, o1, b1⟩) | (at_builtin; refine Go.Proofs.YtfoomgdlbkjaeaaGreat.K.wpList_append_items rfl _ _ rfl B (.slice oo LK.length oc) LK rfl (below_row b1 hrow) ao1 cp1 its rfl (fun e => nil_row o1 e) (items_of_row o1) (by omega) (Nat.le_trans hB0 b1.size) ?_; intro v4 w4 hown hgrow; obtain ⟨oo4, oc4, rfl⟩ := row_slice hown; have T4 := hide (((Touch.of_below (own := fun j => (Value.slice oo LK.length oc).ownBlock = some j) b1)).grown hgrow (fun k hk _ => hk)); have O4 := hide hown; clear hown hgrow))
  exact HQ.out _ _ oo4 oc4 ⟨rfl, rfl, rfl, rfl, (by rw [List.length_append]; rfl), rfl, rfl, rfl, rfl, rfl, rfl, rfl, rfl, rfl⟩ O4.out T4.out
theorem du_r6 {K : Act → World → Prop} {c : Code} (hc : regOf (Tryz.f19.body.getD .skip) 6 = some c) (a : Act) {v : Vdu} {wq : World} {i : Nat} (hF : Fdu a v) (h19v : v.v19 = .int .i64 (i : Int)) (hk : i ≤ 1000000) (hQ : ∀ a', Fdu a' { v with v19 := .int .i64 ((i + 1 : Nat) : Int) } → K a' wq) :
    Code.wp Tryz.prog c (Exit.then K fun _ _ _ => False) a wq := by
  have HQ := hide hQ
  clear hQ
  obtain ⟨v0, v2, v3, v5, v7, v8, v17, v18, v19, v38, v39, v40⟩ := v
  simp only at h19v HQ
  subst h19v
  obtain ⟨u, rfl⟩ := frx_du hF
  clear hF
  simp only [Tryz.f19, Option.getD_some, regOf] at hc
  injection hc with hc
  subst hc
  have e1 : ((i + 1 : Nat) : Int) = (i : Int) + 1 := by omega
  rw [e1] at HQ
  go_wp2
  exact HQ.out _ ⟨rfl, rfl, rfl, rfl, rfl, rfl, rfl, rfl, rfl, rfl, rfl, rfl, rfl, rfl⟩
theorem du_r7 {K : Act → World → Prop} {c : Code} (hc : regOf (Tryz.f19.body.getD .skip) 7 = some c) (a : Act) {v : Vdu} {wq : World} {tb mb rn rc : Nat} {ro : Option Addr} {nm : ByteArray} {lo fi : Int} (hF : Fdu a v) (h0v : v.v0 = .pointer (some ⟨tb, 0, none⟩)) (hB : wq.heap[tb]? = some (.cells #[.string nm, .int .i64 lo, .int .i64 fi, .slice ro rn rc, .map (some mb)] 52 (0, 0)))
    (hQ : ∀ a', Fdu a' { v with v38 := .slice ro rn rc, v39 := .int .i64 (rn : Int), v40 := .int .i64 ((0 : Nat) : Int) } → K a' wq) :
    Code.wp Tryz.prog c (Exit.then K fun _ _ _ => False) a wq := by
  have HQ := hide hQ
  clear hQ
  obtain ⟨v0, v2, v3, v5, v7, v8, v17, v18, v19, v38, v39, v40⟩ := v
  simp only at h0v HQ
  subst h0v
  obtain ⟨u, rfl⟩ := frx_du hF
  clear hF
  simp only [Tryz.f19, Option.getD_some, regOf] at hc
  injection hc with hc
  subst hc
  have c3 := box_cell hB 3 rfl
  clear hB
  go_wp2
  exact HQ.out _ ⟨rfl, rfl, rfl, rfl, rfl, rfl, rfl, rfl, rfl, rfl, rfl, rfl, rfl, rfl⟩
theorem du_r8 {K : Act → World → Prop} {c : Code} (hc : regOf (Tryz.f19.body.getD .skip) 8 = some c) (a : Act) {v : Vdu} {wq : World} {i n : Nat} (hF : Fdu a v) (h40v : v.v40 = .int .i64 (i : Int)) (h39v : v.v39 = .int .i64 (n : Int)) (hQ : ∀ a', Fdu a' v → a'.tmps.getD 41 undef = .bool (decide (i < n)) → K a' wq) :
    Code.wp Tryz.prog c (Exit.then K fun _ _ _ => False) a wq := by
  have HQ := hide hQ
  clear hQ
  obtain ⟨v0, v2, v3, v5, v7, v8, v17, v18, v19, v38, v39, v40⟩ := v
  simp only at h40v h39v HQ
  subst h40v h39v
  obtain ⟨u, rfl⟩ := frx_du hF
  clear hF
  simp only [Tryz.f19, Option.getD_some, regOf] at hc
  injection hc with hc
  subst hc
  by_cases h1 : i < n
  · rw [decide_eq_true h1] at HQ
    have g : (i : Int) < (n : Int) := by omega
    go_wp2
    exact HQ.out _ ⟨rfl, rfl, rfl, rfl, rfl, rfl, rfl, rfl, rfl, rfl, rfl, rfl, rfl, rfl⟩ (by first | rfl | (simp; done) | (simp; omega))
  · rw [decide_eq_false h1] at HQ
    have g : ¬ (i : Int) < (n : Int) := by omega
    go_wp2
    exact HQ.out _ ⟨rfl, rfl, rfl, rfl, rfl, rfl, rfl, rfl, rfl, rfl, rfl, rfl, rfl, rfl⟩ (by first | rfl | (simp; done) | (simp; omega))
theorem du_r9 {K : Act → World → Prop} {c : Code} (hc : regOf (Tryz.f19.body.getD .skip) 9 = some c) (a : Act) {v : Vdu} {wq : World} {g off n cp i : Nat} {xo xs : Int} {xp xk xv : ByteArray} (hF : Fdu a v) (h38v : v.v38 = .slice (some ⟨g, off, none⟩) n cp) (h40v : v.v40 = .int .i64 (i : Int)) (hi : i < n) (c0 : wq.cell? ⟨g, off + i * 5, none⟩ = some (.int .i64 xo)) (c1 : wq.cell? ⟨g, off + i * 5 + 1, none⟩ = some (.string xp)) (c2 : wq.cell? ⟨g, off + i * 5 + 2, none⟩ = some (.int .i64 xs)) (c3 : wq.cell? ⟨g, off + i * 5 + 3, none⟩ = some (.string xk)) (c4 : wq.cell? ⟨g, off + i * 5 + 4, none⟩ = some (.string xv))
    (hQ : ∀ a', Fdu a' { v with v7 := .pointer (some ⟨wq.heap.size, 0, none⟩) } → K a' (wq.alloc (.cells #[.int .i64 xo, .string xp, .int .i64 xs, .string xk, .string xv] 39))) :
    Code.wp Tryz.prog c (Exit.then K fun _ _ _ => False) a wq := by
  have HQ := hide hQ
  clear hQ
  obtain ⟨v0, v2, v3, v5, v7, v8, v17, v18, v19, v38, v39, v40⟩ := v
  simp only at h38v h40v HQ
  subst h38v h40v
  obtain ⟨u, rfl⟩ := frx_du hF
  clear hF
  simp only [Tryz.f19, Option.getD_some, regOf] at hc
  injection hc with hc
  subst hc
  have hi0 : (0 : Int) ≤ (i : Int) := by omega
  have hi1 : (i : Int) < (n : Int) := by omega
  go_wp2
  exact HQ.out _ ⟨rfl, rfl, rfl, rfl, rfl, rfl, rfl, rfl, rfl, rfl, rfl, rfl, rfl, rfl⟩
theorem du_r10 {K : Act → World → Prop} {c : Code} (hc : regOf (Tryz.f19.body.getD .skip) 10 = some c) (a : Act) {v : Vdu} {wq : World} {rb : Nat} {oo : Option Addr} {oc B : Nat} {LK its : List Go.Proofs.YtfoomgdlbkjaeaaGreat.K.It} {xo xs : Int} {xp xk xv : ByteArray} (hF : Fdu a v) (h3v : v.v3 = .slice oo LK.length oc) (h7v : v.v7 = .pointer (some ⟨rb, 0, none⟩)) (hR : wq.heap[rb]? = some (.cells #[.int .i64 xo, .string xp, .int .i64 xs, .string xk, .string xv] 39 (0, 0))) (hrow : wq.ownsRow B 83 3 (.slice oo LK.length oc) LK.length (Go.Proofs.YtfoomgdlbkjaeaaGreat.K.itemCells LK)) (hB0 : B ≤ wq.heap.size) (hl : LK.length + its.length ≤ 10000000) (hC : ∀ W, Below wq.heap.size wq W → Calls Tryz.prog 40 #[.agg #[.int .i64 xo, .string xp, .int .i64 xs, .string xk, .string xv]] W fun e w' => ∃ ao cp, e = .returned (.slice ao its.length cp) ∧ w'.ownsRow W.heap.size 83 3 (.slice ao its.length cp) its.length (Go.Proofs.YtfoomgdlbkjaeaaGreat.K.itemCells its) ∧ Below W.heap.size W w')
    (hQ : ∀ a' w' oo' oc', Fdu a' { v with v3 := .slice oo' (LK ++ its).length oc' } → w'.ownsRow B 83 3 (.slice oo' (LK ++ its).length oc') (LK ++ its).length (Go.Proofs.YtfoomgdlbkjaeaaGreat.K.itemCells (LK ++ its)) → Touch (fun j => (Value.slice oo LK.length oc).ownBlock = some j) wq w' → K a' w') :
    Code.wp Tryz.prog c (Exit.then K fun _ _ _ => False) a wq := by
  have HQ := hide hQ
  clear hQ
  obtain ⟨v0, v2, v3, v5, v7, v8, v17, v18, v19, v38, v39, v40⟩ := v
  simp only at h3v h7v HQ
  subst h3v h7v
  obtain ⟨u, rfl⟩ := frx_du hF
  clear hF
  simp only [Tryz.f19, Option.getD_some, regOf] at hc
  injection hc with hc
  subst hc
  obtain ⟨c0, c1, c2, c3, c4⟩ := (box5 hR).1
  have HC := hide hC
  clear hC hR
  go_wp2_with (first | (go_at_call 40; refine (HC.out _ (Below.refl _ _)).mono ?_; rintro e w1 ⟨ao1, cp1, rfl, o1, b1⟩) | (at_builtin; refine Go.Proofs.YtfoomgdlbkjaeaaGreat.K.wpList_append_items rfl _ _ rfl B (.slice oo LK.length oc) LK rfl (below_row b1 hrow) ao1 cp1 its rfl (fun e => nil_row o1 e) (items_of_row o1) (by omega) (Nat.le_trans hB0 b1.size) ?_; intro v4 w4 hown hgrow; obtain ⟨oo4, oc4, rfl⟩ := row_slice hown; have T4 := hide (((Touch.of_below (own := fun j => (Value.slice oo LK.length oc).ownBlock = some j) b1)).grown hgrow (fun k hk _ => hk)); have O4 := hide hown; clear hown hgrow))
  exact HQ.out _ _ oo4 oc4 ⟨rfl, rfl, rfl, rfl, (by rw [List.length_append]; rfl), rfl, rfl, rfl, rfl, rfl, rfl, rfl, rfl, rfl⟩ O4.out T4.out
theorem du_r11 {K : Act → World → Prop} {c : Code} (hc : regOf (Tryz.f19.body.getD .skip) 11 = some c) (a : Act) {v : Vdu} {wq : World} {i : Nat} (hF : Fdu a v) (h40v : v.v40 = .int .i64 (i : Int)) (hk : i ≤ 1000000) (hQ : ∀ a', Fdu a' { v with v40 := .int .i64 ((i + 1 : Nat) : Int) } → K a' wq) :
    Code.wp Tryz.prog c (Exit.then K fun _ _ _ => False) a wq := by
  have HQ := hide hQ
  clear hQ
  obtain ⟨v0, v2, v3, v5, v7, v8, v17, v18, v19, v38, v39, v40⟩ := v
  simp only at h40v HQ
  subst h40v
  obtain ⟨u, rfl⟩ := frx_du hF
  clear hF
  simp only [Tryz.f19, Option.getD_some, regOf] at hc
  injection hc with hc
  subst hc
  have e1 : ((i + 1 : Nat) : Int) = (i : Int) + 1 := by omega
  rw [e1] at HQ
  go_wp2
  exact HQ.out _ ⟨rfl, rfl, rfl, rfl, rfl, rfl, rfl, rfl, rfl, rfl, rfl, rfl, rfl, rfl⟩
theorem du_r12 {K : Act → World → Prop} {c : Code} (hc : regOf (Tryz.f19.body.getD .skip) 12 = some c) (a : Act) {v : Vdu} {wq : World} {oo : Option Addr} {n oc : Nat} {T : ByteArray} {er : Int} (hF : Fdu a v) (h3v : v.v3 = .slice oo n oc) (hE : Calls Tryz.prog 41 #[.slice oo n oc] wq fun e w' => e = .returned (.tuple #[.string T, .int .i64 er]) ∧ Below wq.heap.size wq w')
    (hQ : ∀ a' w' , Fdu a' { v with v8 := .string T } → Below wq.heap.size wq w' → K a' w') :
    Code.wp Tryz.prog c (Exit.then K fun _ _ _ => False) a wq := by
  have HQ := hide hQ
  clear hQ
  obtain ⟨v0, v2, v3, v5, v7, v8, v17, v18, v19, v38, v39, v40⟩ := v
  simp only at h3v HQ
  subst h3v
  obtain ⟨u, rfl⟩ := frx_du hF
  clear hF
  simp only [Tryz.f19, Option.getD_some, regOf] at hc
  injection hc with hc
  subst hc
  have HE := hide hE
  clear hE
  go_wp2_with fail
  refine HE.out.mono ?_
  rintro e w1 ⟨rfl, r1⟩
  have R1 := hide r1
  clear r1 HE
  go_wp2
  exact HQ.out _ _ ⟨rfl, rfl, rfl, rfl, rfl, rfl, rfl, rfl, rfl, rfl, rfl, rfl, rfl, rfl⟩ R1.out
theorem du_r13 {K : Act → World → Prop} {c : Code} (hc : regOf (Tryz.f19.body.getD .skip) 13 = some c) (a : Act) {v : Vdu} {wq : World} {T : ByteArray} (hF : Fdu a v) (h8v : v.v8 = .string T) (hQ : ∀ a', Fdu a' { v with v2 := .string T } → K a' wq) :
    Code.wp Tryz.prog c (Exit.then K fun _ _ _ => False) a wq := by
  have HQ := hide hQ
  clear hQ
  obtain ⟨v0, v2, v3, v5, v7, v8, v17, v18, v19, v38, v39, v40⟩ := v
  simp only at h8v HQ
  subst h8v
  obtain ⟨u, rfl⟩ := frx_du hF
  clear hF
  simp only [Tryz.f19, Option.getD_some, regOf] at hc
  injection hc with hc
  subst hc
  go_wp2
  exact HQ.out _ ⟨rfl, rfl, rfl, rfl, rfl, rfl, rfl, rfl, rfl, rfl, rfl, rfl, rfl, rfl⟩
end Go.Proofs.YtfoomgdlbkjaeaaGreat.Y
