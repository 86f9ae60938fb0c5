/-
  ViewStays: its regions (mkls.py).
-/
import Derived.Test.YtbkglpbkbfopjaaZVL
import Derived.BigQuiet
namespace Go.Proofs.Ytbkglpbkbfopjaa
open Go.RowKit

attribute [local go_sem ↓] Go.wp_at_zero Go.wp_at_succ
set_option linter.unusedSimpArgs false
set_option linter.unusedVariables false
theorem infoI : (Try.prog.info? 3).map (fun i => (i.zero, i.size, i.bytes)) = some (some (.int .i64 0), 1, 8) := by kernel_rfl
def intCells (L : List Int) : List Value := L.map fun n => .int .i64 n
theorem ints_of_row {w : World} {B : Nat} {ao : Option Addr} {n cp : Nat} {L : List Int} (h : w.ownsRow B 3 1 (.slice ao n cp) n (intCells L)) (hn : L.length = n) : IntsAt w ao L := by
  subst hn
  intro i hi
  rcases h.2 with ⟨_, h2⟩ | ⟨g, cap, cur, hv, hg, hh, _⟩
  · omega
  · injection hv with h1 _ h3
    subst h1
    have hc := h.cells (g := g) rfl
    refine ⟨g, 0, rfl, heap_lt hh, ?_⟩
    have := hc i (.int .i64 L[i]) (by simp [intCells, List.getElem?_eq_getElem hi])
    rw [Addr.add_lit] at this
    simpa using this
theorem int_not {W : World} {B n : Nat} {v : Value} {xs : List Value} (h : W.ownsRow B 3 1 v n xs) {j k : Nat} (hj : v.ownBlock = some j) {cs : Array Value} (hk : W.heap[k]? = some (.cells cs tView (0, 0))) : j ≠ k := fun e => by
  subst e
  rcases h.2 with ⟨rfl, _⟩ | ⟨g, cap, cur, rfl, _, hh, _⟩
  · cases hj
  · obtain rfl : g = j := Option.some.inj hj
    rw [hk] at hh
    injection hh with hh
    injection hh with _ hh _
    exact absurd hh (by decide)
theorem ints_news {w : World} {ad : Addr} {L : List Int} (h : IntsAt w (some ad) L) : ∀ (j : Nat) (u : Value), (intCells L)[j]? = some u → w.cell? (ad.add j) = some u := by
  intro j u hj
  have hjl : j < L.length := by have := (List.getElem?_eq_some_iff.1 hj).1; simpa [intCells] using this
  obtain ⟨b, off, hb, _, c0⟩ := h j hjl
  injection hb with hb
  subst hb
  rw [Addr.add_lit]
  have : u = .int .i64 L[j] := by simpa [intCells, List.getElem?_eq_getElem hjl] using hj.symm
  rw [this]
  exact c0
theorem intCells_one (l : List Int) : ∀ u ∈ intCells l, u.oneCell' = true := by
  intro u hu
  obtain ⟨x, _, rfl⟩ := List.mem_map.1 hu
  rfl
set_option maxRecDepth 100000 in
theorem frame_ls (t : Array Value) (h : t.size = 78) : ∃ u : Nat → Value, t = List.toArray (u 0 :: u 1 :: u 2 :: u 3 :: u 4 :: u 5 :: u 6 :: u 7 :: u 8 :: u 9 :: u 10 :: u 11 :: u 12 :: u 13 :: u 14 :: u 15 :: u 16 :: u 17 :: u 18 :: u 19 :: u 20 :: u 21 :: u 22 :: u 23 :: u 24 :: u 25 :: u 26 :: u 27 :: u 28 :: u 29 :: u 30 :: u 31 :: u 32 :: u 33 :: u 34 :: u 35 :: u 36 :: u 37 :: u 38 :: u 39 :: u 40 :: u 41 :: u 42 :: u 43 :: u 44 :: u 45 :: u 46 :: u 47 :: u 48 :: u 49 :: u 50 :: u 51 :: u 52 :: u 53 :: u 54 :: u 55 :: u 56 :: u 57 :: u 58 :: u 59 :: u 60 :: u 61 :: u 62 :: u 63 :: u 64 :: u 65 :: u 66 :: u 67 :: u 68 :: u 69 :: u 70 :: u 71 :: u 72 :: u 73 :: u 74 :: u 75 :: u 76 :: u 77 :: []) := by
  refine ⟨fun i => t.getD i undef, ?_⟩
  have e : (List.toArray ((fun i => t.getD i undef) 0 :: (fun i => t.getD i undef) 1 :: (fun i => t.getD i undef) 2 :: (fun i => t.getD i undef) 3 :: (fun i => t.getD i undef) 4 :: (fun i => t.getD i undef) 5 :: (fun i => t.getD i undef) 6 :: (fun i => t.getD i undef) 7 :: (fun i => t.getD i undef) 8 :: (fun i => t.getD i undef) 9 :: (fun i => t.getD i undef) 10 :: (fun i => t.getD i undef) 11 :: (fun i => t.getD i undef) 12 :: (fun i => t.getD i undef) 13 :: (fun i => t.getD i undef) 14 :: (fun i => t.getD i undef) 15 :: (fun i => t.getD i undef) 16 :: (fun i => t.getD i undef) 17 :: (fun i => t.getD i undef) 18 :: (fun i => t.getD i undef) 19 :: (fun i => t.getD i undef) 20 :: (fun i => t.getD i undef) 21 :: (fun i => t.getD i undef) 22 :: (fun i => t.getD i undef) 23 :: (fun i => t.getD i undef) 24 :: (fun i => t.getD i undef) 25 :: (fun i => t.getD i undef) 26 :: (fun i => t.getD i undef) 27 :: (fun i => t.getD i undef) 28 :: (fun i => t.getD i undef) 29 :: (fun i => t.getD i undef) 30 :: (fun i => t.getD i undef) 31 :: (fun i => t.getD i undef) 32 :: (fun i => t.getD i undef) 33 :: (fun i => t.getD i undef) 34 :: (fun i => t.getD i undef) 35 :: (fun i => t.getD i undef) 36 :: (fun i => t.getD i undef) 37 :: (fun i => t.getD i undef) 38 :: (fun i => t.getD i undef) 39 :: (fun i => t.getD i undef) 40 :: (fun i => t.getD i undef) 41 :: (fun i => t.getD i undef) 42 :: (fun i => t.getD i undef) 43 :: (fun i => t.getD i undef) 44 :: (fun i => t.getD i undef) 45 :: (fun i => t.getD i undef) 46 :: (fun i => t.getD i undef) 47 :: (fun i => t.getD i undef) 48 :: (fun i => t.getD i undef) 49 :: (fun i => t.getD i undef) 50 :: (fun i => t.getD i undef) 51 :: (fun i => t.getD i undef) 52 :: (fun i => t.getD i undef) 53 :: (fun i => t.getD i undef) 54 :: (fun i => t.getD i undef) 55 :: (fun i => t.getD i undef) 56 :: (fun i => t.getD i undef) 57 :: (fun i => t.getD i undef) 58 :: (fun i => t.getD i undef) 59 :: (fun i => t.getD i undef) 60 :: (fun i => t.getD i undef) 61 :: (fun i => t.getD i undef) 62 :: (fun i => t.getD i undef) 63 :: (fun i => t.getD i undef) 64 :: (fun i => t.getD i undef) 65 :: (fun i => t.getD i undef) 66 :: (fun i => t.getD i undef) 67 :: (fun i => t.getD i undef) 68 :: (fun i => t.getD i undef) 69 :: (fun i => t.getD i undef) 70 :: (fun i => t.getD i undef) 71 :: (fun i => t.getD i undef) 72 :: (fun i => t.getD i undef) 73 :: (fun i => t.getD i undef) 74 :: (fun i => t.getD i undef) 75 :: (fun i => t.getD i undef) 76 :: (fun i => t.getD i undef) 77 :: []) : Array Value) = ((List.range 78).map fun i => t.getD i undef).toArray := rfl
  refine Eq.trans ?_ e.symm
  apply Array.ext
  · simp [h]
  · intro k h1 h2
    simp [Array.getD, h1]
/-- The slots that matter. -/
structure Vls where
  v1 : Value
  v2 : Value
  v4 : Value
  v5 : Value
  v6 : Value
  v7 : Value
  v8 : Value
  v9 : Value
  v10 : Value
structure Fls (a : Act) (v : Vls) : Prop where
  size : a.tmps.size = 78
  defers : a.defers = []
  s1 : a.tmps.getD 1 undef = v.v1
  s2 : a.tmps.getD 2 undef = v.v2
  s4 : a.tmps.getD 4 undef = v.v4
  s5 : a.tmps.getD 5 undef = v.v5
  s6 : a.tmps.getD 6 undef = v.v6
  s7 : a.tmps.getD 7 undef = v.v7
  s8 : a.tmps.getD 8 undef = v.v8
  s9 : a.tmps.getD 9 undef = v.v9
  s10 : a.tmps.getD 10 undef = v.v10
set_option maxHeartbeats 8000000 in
set_option maxRecDepth 100000 in
theorem ls_r1 {K : Act → World → Prop} {c : Code} (hc : regOf (Try.f6.body.getD .skip) 1 = some c) (a : Act) {v : Vls} {wq : World} {r : Bool} (hF : Fls a v) (hE : Calls Try.prog 7 #[] wq fun e w' => e = .returned (.bool r) ∧ Below wq.heap.size wq w')
    (hQ : ∀ a' w', Fls a' { v with v5 := .bool r } → Below wq.heap.size wq w' → K a' w') :
    Code.wp Try.prog c (Exit.then K fun _ _ _ => False) a wq := by
  have HQ := hide hQ
  clear hQ
  obtain ⟨t', d'⟩ := a
  obtain ⟨v1, v2, v4, v5, v6, v7, v8, v9, v10⟩ := v
  obtain ⟨hs1, hd1, q1, q2, q4, q5, q6, q7, q8, q9, q10⟩ := hF
  obtain ⟨u, hu⟩ := frame_ls t' hs1
  simp only at hd1 q1 q2 q4 q5 q6 q7 q8 q9 q10
  subst hu hd1
  have e1 : u 1 = v1 := q1
  have e2 : u 2 = v2 := q2
  have e4 : u 4 = v4 := q4
  have e5 : u 5 = v5 := q5
  have e6 : u 6 = v6 := q6
  have e7 : u 7 = v7 := q7
  have e8 : u 8 = v8 := q8
  have e9 : u 9 = v9 := q9
  have e10 : u 10 = v10 := q10
  rw [e1, e2, e4, e5, e6, e7, e8, e9, e10]
  clear q1 e1 q2 e2 q4 e4 q5 e5 q6 e6 q7 e7 q8 e8 q9 e9 q10 e10 hs1
  simp only [Try.f6, Option.getD_some, regOf] at hc
  injection hc with hc
  subst hc
  generalize u 0 = u0
  generalize u 3 = u3
  generalize u 11 = u11
  generalize u 12 = u12
  generalize u 13 = u13
  generalize u 14 = u14
  generalize u 15 = u15
  generalize u 16 = u16
  generalize u 17 = u17
  generalize u 18 = u18
  generalize u 19 = u19
  generalize u 20 = u20
  generalize u 21 = u21
  generalize u 22 = u22
  generalize u 23 = u23
  generalize u 24 = u24
  generalize u 25 = u25
  generalize u 26 = u26
  generalize u 27 = u27
  generalize u 28 = u28
  generalize u 29 = u29
  generalize u 30 = u30
  generalize u 31 = u31
  generalize u 32 = u32
  generalize u 33 = u33
  generalize u 34 = u34
  generalize u 35 = u35
  generalize u 36 = u36
  generalize u 37 = u37
  generalize u 38 = u38
  generalize u 39 = u39
  generalize u 40 = u40
  generalize u 41 = u41
  generalize u 42 = u42
  generalize u 43 = u43
  generalize u 44 = u44
  generalize u 45 = u45
  generalize u 46 = u46
  generalize u 47 = u47
  generalize u 48 = u48
  generalize u 49 = u49
  generalize u 50 = u50
  generalize u 51 = u51
  generalize u 52 = u52
  generalize u 53 = u53
  generalize u 54 = u54
  generalize u 55 = u55
  generalize u 56 = u56
  generalize u 57 = u57
  generalize u 58 = u58
  generalize u 59 = u59
  generalize u 60 = u60
  generalize u 61 = u61
  generalize u 62 = u62
  generalize u 63 = u63
  generalize u 64 = u64
  generalize u 65 = u65
  generalize u 66 = u66
  generalize u 67 = u67
  generalize u 68 = u68
  generalize u 69 = u69
  generalize u 70 = u70
  generalize u 71 = u71
  generalize u 72 = u72
  generalize u 73 = u73
  generalize u 74 = u74
  generalize u 75 = u75
  generalize u 76 = u76
  generalize u 77 = u77
  clear u
  have HE := hide hE
  clear hE
  go_wp2_with fail
  refine HE.out.mono ?_
  rintro e w1 ⟨rfl, b1⟩
  have B1 := hide b1
  clear b1 HE
  go_wp2
  exact HQ.out _ _ ⟨rfl, rfl, rfl, rfl, rfl, rfl, rfl, rfl, rfl, rfl, rfl⟩ B1.out
set_option maxHeartbeats 8000000 in
set_option maxRecDepth 100000 in
theorem ls_r2 {K : Act → World → Prop} {c : Code} (hc : regOf (Try.f6.body.getD .skip) 2 = some c) (a : Act) {v : Vls} {wq : World} {d k cp : Nat} {num : Int} {ao : Option Addr} {r : Bool} (hF : Fls a v) (h2v : v.v2 = .pointer (some ⟨d, 0, none⟩)) (hD : wq.heap[d]? = some (.cells #[.int .i64 num, .slice ao k cp] tView (0, 0))) (hE : Calls Try.prog 12 #[.agg #[.int .i64 num, .slice ao k cp]] wq fun e w' => e = .returned (.bool r) ∧ Below wq.heap.size wq w')
    (hQ : ∀ a' w', Fls a' v → a'.tmps.getD 19 undef = .bool (!r || decide (9007199254740991 ≤ num)) → Below wq.heap.size wq w' → K a' w') :
    Code.wp Try.prog c (Exit.then K fun _ _ _ => False) a wq := by
  have HQ := hide hQ
  clear hQ
  obtain ⟨t', d'⟩ := a
  obtain ⟨v1, v2, v4, v5, v6, v7, v8, v9, v10⟩ := v
  simp only at h2v HQ
  subst h2v
  obtain ⟨hs1, hd1, q1, q2, q4, q5, q6, q7, q8, q9, q10⟩ := hF
  obtain ⟨u, hu⟩ := frame_ls t' hs1
  simp only at hd1 q1 q2 q4 q5 q6 q7 q8 q9 q10
  subst hu hd1
  have e1 : u 1 = v1 := q1
  have e2 : u 2 = .pointer (some ⟨d, 0, none⟩) := q2
  have e4 : u 4 = v4 := q4
  have e5 : u 5 = v5 := q5
  have e6 : u 6 = v6 := q6
  have e7 : u 7 = v7 := q7
  have e8 : u 8 = v8 := q8
  have e9 : u 9 = v9 := q9
  have e10 : u 10 = v10 := q10
  rw [e1, e2, e4, e5, e6, e7, e8, e9, e10]
  clear q1 e1 q2 e2 q4 e4 q5 e5 q6 e6 q7 e7 q8 e8 q9 e9 q10 e10 hs1
  simp only [Try.f6, Option.getD_some, regOf] at hc
  injection hc with hc
  subst hc
  generalize u 0 = u0
  generalize u 3 = u3
  generalize u 11 = u11
  generalize u 12 = u12
  generalize u 13 = u13
  generalize u 14 = u14
  generalize u 15 = u15
  generalize u 16 = u16
  generalize u 17 = u17
  generalize u 18 = u18
  generalize u 19 = u19
  generalize u 20 = u20
  generalize u 21 = u21
  generalize u 22 = u22
  generalize u 23 = u23
  generalize u 24 = u24
  generalize u 25 = u25
  generalize u 26 = u26
  generalize u 27 = u27
  generalize u 28 = u28
  generalize u 29 = u29
  generalize u 30 = u30
  generalize u 31 = u31
  generalize u 32 = u32
  generalize u 33 = u33
  generalize u 34 = u34
  generalize u 35 = u35
  generalize u 36 = u36
  generalize u 37 = u37
  generalize u 38 = u38
  generalize u 39 = u39
  generalize u 40 = u40
  generalize u 41 = u41
  generalize u 42 = u42
  generalize u 43 = u43
  generalize u 44 = u44
  generalize u 45 = u45
  generalize u 46 = u46
  generalize u 47 = u47
  generalize u 48 = u48
  generalize u 49 = u49
  generalize u 50 = u50
  generalize u 51 = u51
  generalize u 52 = u52
  generalize u 53 = u53
  generalize u 54 = u54
  generalize u 55 = u55
  generalize u 56 = u56
  generalize u 57 = u57
  generalize u 58 = u58
  generalize u 59 = u59
  generalize u 60 = u60
  generalize u 61 = u61
  generalize u 62 = u62
  generalize u 63 = u63
  generalize u 64 = u64
  generalize u 65 = u65
  generalize u 66 = u66
  generalize u 67 = u67
  generalize u 68 = u68
  generalize u 69 = u69
  generalize u 70 = u70
  generalize u 71 = u71
  generalize u 72 = u72
  generalize u 73 = u73
  generalize u 74 = u74
  generalize u 75 = u75
  generalize u 76 = u76
  generalize u 77 = u77
  clear u
  have HE := hide hE
  have HD := hide hD
  have c0 := box_cell hD 0 rfl
  have c1 := box_cell hD 1 rfl
  clear hE hD
  go_wp2_with fail
  refine HE.out.mono ?_
  rintro e w1 ⟨rfl, b1⟩
  have B1 := hide b1
  have D1 := (B1.out.block _ (heap_lt HD.out)).trans HD.out
  have d0 := box_cell D1 0 rfl
  clear b1 HE D1 c0 c1
  cases r
  · go_wp2
    exact HQ.out _ _ ⟨rfl, rfl, rfl, rfl, rfl, rfl, rfl, rfl, rfl, rfl, rfl⟩ (by first | rfl | (simp; done) | (simp; omega)) B1.out
  · by_cases h : 9007199254740991 ≤ num
    · rw [decide_eq_true h] at HQ
      have g : num ≥ 9007199254740991 := h
      go_wp2
      exact HQ.out _ _ ⟨rfl, rfl, rfl, rfl, rfl, rfl, rfl, rfl, rfl, rfl, rfl⟩ (by first | rfl | (simp; done) | (simp; omega)) B1.out
    · rw [decide_eq_false h] at HQ
      have g : ¬ num ≥ 9007199254740991 := h
      go_wp2
      exact HQ.out _ _ ⟨rfl, rfl, rfl, rfl, rfl, rfl, rfl, rfl, rfl, rfl, rfl⟩ (by first | rfl | (simp; done) | (simp; omega)) B1.out
set_option maxHeartbeats 8000000 in
set_option maxRecDepth 100000 in
theorem ls_r3 {K : Act → World → Prop} {c : Code} (hc : regOf (Try.f6.body.getD .skip) 3 = some c) (a : Act) {v : Vls} {wq : World} {r : Bool} (hF : Fls a v) (h5v : v.v5 = .bool r) (hQ : ∀ a', Fls a' { v with v4 := .bool r } → K a' wq) :
    Code.wp Try.prog c (Exit.then K fun _ _ _ => False) a wq := by
  have HQ := hide hQ
  clear hQ
  obtain ⟨t', d'⟩ := a
  obtain ⟨v1, v2, v4, v5, v6, v7, v8, v9, v10⟩ := v
  simp only at h5v HQ
  subst h5v
  obtain ⟨hs1, hd1, q1, q2, q4, q5, q6, q7, q8, q9, q10⟩ := hF
  obtain ⟨u, hu⟩ := frame_ls t' hs1
  simp only at hd1 q1 q2 q4 q5 q6 q7 q8 q9 q10
  subst hu hd1
  have e1 : u 1 = v1 := q1
  have e2 : u 2 = v2 := q2
  have e4 : u 4 = v4 := q4
  have e5 : u 5 = .bool r := q5
  have e6 : u 6 = v6 := q6
  have e7 : u 7 = v7 := q7
  have e8 : u 8 = v8 := q8
  have e9 : u 9 = v9 := q9
  have e10 : u 10 = v10 := q10
  rw [e1, e2, e4, e5, e6, e7, e8, e9, e10]
  clear q1 e1 q2 e2 q4 e4 q5 e5 q6 e6 q7 e7 q8 e8 q9 e9 q10 e10 hs1
  simp only [Try.f6, Option.getD_some, regOf] at hc
  injection hc with hc
  subst hc
  generalize u 0 = u0
  generalize u 3 = u3
  generalize u 11 = u11
  generalize u 12 = u12
  generalize u 13 = u13
  generalize u 14 = u14
  generalize u 15 = u15
  generalize u 16 = u16
  generalize u 17 = u17
  generalize u 18 = u18
  generalize u 19 = u19
  generalize u 20 = u20
  generalize u 21 = u21
  generalize u 22 = u22
  generalize u 23 = u23
  generalize u 24 = u24
  generalize u 25 = u25
  generalize u 26 = u26
  generalize u 27 = u27
  generalize u 28 = u28
  generalize u 29 = u29
  generalize u 30 = u30
  generalize u 31 = u31
  generalize u 32 = u32
  generalize u 33 = u33
  generalize u 34 = u34
  generalize u 35 = u35
  generalize u 36 = u36
  generalize u 37 = u37
  generalize u 38 = u38
  generalize u 39 = u39
  generalize u 40 = u40
  generalize u 41 = u41
  generalize u 42 = u42
  generalize u 43 = u43
  generalize u 44 = u44
  generalize u 45 = u45
  generalize u 46 = u46
  generalize u 47 = u47
  generalize u 48 = u48
  generalize u 49 = u49
  generalize u 50 = u50
  generalize u 51 = u51
  generalize u 52 = u52
  generalize u 53 = u53
  generalize u 54 = u54
  generalize u 55 = u55
  generalize u 56 = u56
  generalize u 57 = u57
  generalize u 58 = u58
  generalize u 59 = u59
  generalize u 60 = u60
  generalize u 61 = u61
  generalize u 62 = u62
  generalize u 63 = u63
  generalize u 64 = u64
  generalize u 65 = u65
  generalize u 66 = u66
  generalize u 67 = u67
  generalize u 68 = u68
  generalize u 69 = u69
  generalize u 70 = u70
  generalize u 71 = u71
  generalize u 72 = u72
  generalize u 73 = u73
  generalize u 74 = u74
  generalize u 75 = u75
  generalize u 76 = u76
  generalize u 77 = u77
  clear u
  go_wp2
  exact HQ.out _ ⟨rfl, rfl, rfl, rfl, rfl, rfl, rfl, rfl, rfl, rfl, rfl⟩
set_option maxHeartbeats 8000000 in
set_option maxRecDepth 100000 in
theorem ls_r18 {K : Act → World → Prop} {c : Code} (hc : regOf (Try.f6.body.getD .skip) 18 = some c) (a : Act) {v : Vls} {wq : World} {r : Bool} (hF : Fls a v) (h5v : v.v5 = .bool r) (hQ : ∀ a', Fls a' { v with v4 := .bool r } → K a' wq) :
    Code.wp Try.prog c (Exit.then K fun _ _ _ => False) a wq := by
  have HQ := hide hQ
  clear hQ
  obtain ⟨t', d'⟩ := a
  obtain ⟨v1, v2, v4, v5, v6, v7, v8, v9, v10⟩ := v
  simp only at h5v HQ
  subst h5v
  obtain ⟨hs1, hd1, q1, q2, q4, q5, q6, q7, q8, q9, q10⟩ := hF
  obtain ⟨u, hu⟩ := frame_ls t' hs1
  simp only at hd1 q1 q2 q4 q5 q6 q7 q8 q9 q10
  subst hu hd1
  have e1 : u 1 = v1 := q1
  have e2 : u 2 = v2 := q2
  have e4 : u 4 = v4 := q4
  have e5 : u 5 = .bool r := q5
  have e6 : u 6 = v6 := q6
  have e7 : u 7 = v7 := q7
  have e8 : u 8 = v8 := q8
  have e9 : u 9 = v9 := q9
  have e10 : u 10 = v10 := q10
  rw [e1, e2, e4, e5, e6, e7, e8, e9, e10]
  clear q1 e1 q2 e2 q4 e4 q5 e5 q6 e6 q7 e7 q8 e8 q9 e9 q10 e10 hs1
  simp only [Try.f6, Option.getD_some, regOf] at hc
  injection hc with hc
  subst hc
  generalize u 0 = u0
  generalize u 3 = u3
  generalize u 11 = u11
  generalize u 12 = u12
  generalize u 13 = u13
  generalize u 14 = u14
  generalize u 15 = u15
  generalize u 16 = u16
  generalize u 17 = u17
  generalize u 18 = u18
  generalize u 19 = u19
  generalize u 20 = u20
  generalize u 21 = u21
  generalize u 22 = u22
  generalize u 23 = u23
  generalize u 24 = u24
  generalize u 25 = u25
  generalize u 26 = u26
  generalize u 27 = u27
  generalize u 28 = u28
  generalize u 29 = u29
  generalize u 30 = u30
  generalize u 31 = u31
  generalize u 32 = u32
  generalize u 33 = u33
  generalize u 34 = u34
  generalize u 35 = u35
  generalize u 36 = u36
  generalize u 37 = u37
  generalize u 38 = u38
  generalize u 39 = u39
  generalize u 40 = u40
  generalize u 41 = u41
  generalize u 42 = u42
  generalize u 43 = u43
  generalize u 44 = u44
  generalize u 45 = u45
  generalize u 46 = u46
  generalize u 47 = u47
  generalize u 48 = u48
  generalize u 49 = u49
  generalize u 50 = u50
  generalize u 51 = u51
  generalize u 52 = u52
  generalize u 53 = u53
  generalize u 54 = u54
  generalize u 55 = u55
  generalize u 56 = u56
  generalize u 57 = u57
  generalize u 58 = u58
  generalize u 59 = u59
  generalize u 60 = u60
  generalize u 61 = u61
  generalize u 62 = u62
  generalize u 63 = u63
  generalize u 64 = u64
  generalize u 65 = u65
  generalize u 66 = u66
  generalize u 67 = u67
  generalize u 68 = u68
  generalize u 69 = u69
  generalize u 70 = u70
  generalize u 71 = u71
  generalize u 72 = u72
  generalize u 73 = u73
  generalize u 74 = u74
  generalize u 75 = u75
  generalize u 76 = u76
  generalize u 77 = u77
  clear u
  go_wp2
  exact HQ.out _ ⟨rfl, rfl, rfl, rfl, rfl, rfl, rfl, rfl, rfl, rfl, rfl⟩
set_option maxHeartbeats 8000000 in
set_option maxRecDepth 100000 in
theorem ls_r4 {K : Act → World → Prop} {c : Code} (hc : regOf (Try.f6.body.getD .skip) 4 = some c) (a : Act) {v : Vls} {wq : World}  (hF : Fls a v) (hQ : ∀ a', Fls a' { v with v6 := .slice none 0 0 } → K a' wq) :
    Code.wp Try.prog c (Exit.then K fun _ _ _ => False) a wq := by
  have HQ := hide hQ
  clear hQ
  obtain ⟨t', d'⟩ := a
  obtain ⟨v1, v2, v4, v5, v6, v7, v8, v9, v10⟩ := v
  obtain ⟨hs1, hd1, q1, q2, q4, q5, q6, q7, q8, q9, q10⟩ := hF
  obtain ⟨u, hu⟩ := frame_ls t' hs1
  simp only at hd1 q1 q2 q4 q5 q6 q7 q8 q9 q10
  subst hu hd1
  have e1 : u 1 = v1 := q1
  have e2 : u 2 = v2 := q2
  have e4 : u 4 = v4 := q4
  have e5 : u 5 = v5 := q5
  have e6 : u 6 = v6 := q6
  have e7 : u 7 = v7 := q7
  have e8 : u 8 = v8 := q8
  have e9 : u 9 = v9 := q9
  have e10 : u 10 = v10 := q10
  rw [e1, e2, e4, e5, e6, e7, e8, e9, e10]
  clear q1 e1 q2 e2 q4 e4 q5 e5 q6 e6 q7 e7 q8 e8 q9 e9 q10 e10 hs1
  simp only [Try.f6, Option.getD_some, regOf] at hc
  injection hc with hc
  subst hc
  generalize u 0 = u0
  generalize u 3 = u3
  generalize u 11 = u11
  generalize u 12 = u12
  generalize u 13 = u13
  generalize u 14 = u14
  generalize u 15 = u15
  generalize u 16 = u16
  generalize u 17 = u17
  generalize u 18 = u18
  generalize u 19 = u19
  generalize u 20 = u20
  generalize u 21 = u21
  generalize u 22 = u22
  generalize u 23 = u23
  generalize u 24 = u24
  generalize u 25 = u25
  generalize u 26 = u26
  generalize u 27 = u27
  generalize u 28 = u28
  generalize u 29 = u29
  generalize u 30 = u30
  generalize u 31 = u31
  generalize u 32 = u32
  generalize u 33 = u33
  generalize u 34 = u34
  generalize u 35 = u35
  generalize u 36 = u36
  generalize u 37 = u37
  generalize u 38 = u38
  generalize u 39 = u39
  generalize u 40 = u40
  generalize u 41 = u41
  generalize u 42 = u42
  generalize u 43 = u43
  generalize u 44 = u44
  generalize u 45 = u45
  generalize u 46 = u46
  generalize u 47 = u47
  generalize u 48 = u48
  generalize u 49 = u49
  generalize u 50 = u50
  generalize u 51 = u51
  generalize u 52 = u52
  generalize u 53 = u53
  generalize u 54 = u54
  generalize u 55 = u55
  generalize u 56 = u56
  generalize u 57 = u57
  generalize u 58 = u58
  generalize u 59 = u59
  generalize u 60 = u60
  generalize u 61 = u61
  generalize u 62 = u62
  generalize u 63 = u63
  generalize u 64 = u64
  generalize u 65 = u65
  generalize u 66 = u66
  generalize u 67 = u67
  generalize u 68 = u68
  generalize u 69 = u69
  generalize u 70 = u70
  generalize u 71 = u71
  generalize u 72 = u72
  generalize u 73 = u73
  generalize u 74 = u74
  generalize u 75 = u75
  generalize u 76 = u76
  generalize u 77 = u77
  clear u
  go_wp2
  exact HQ.out _ ⟨rfl, rfl, rfl, rfl, rfl, rfl, rfl, rfl, rfl, rfl, rfl⟩
set_option maxHeartbeats 8000000 in
set_option maxRecDepth 100000 in
theorem ls_r6 {K : Act → World → Prop} {c : Code} (hc : regOf (Try.f6.body.getD .skip) 6 = some c) (a : Act) {v : Vls} {wq : World}  (hF : Fls a v) (hQ : ∀ a', Fls a' { v with v7 := .int .i64 ((0 : Nat) : Int) } → K a' wq) :
    Code.wp Try.prog c (Exit.then K fun _ _ _ => False) a wq := by
  have HQ := hide hQ
  clear hQ
  obtain ⟨t', d'⟩ := a
  obtain ⟨v1, v2, v4, v5, v6, v7, v8, v9, v10⟩ := v
  obtain ⟨hs1, hd1, q1, q2, q4, q5, q6, q7, q8, q9, q10⟩ := hF
  obtain ⟨u, hu⟩ := frame_ls t' hs1
  simp only at hd1 q1 q2 q4 q5 q6 q7 q8 q9 q10
  subst hu hd1
  have e1 : u 1 = v1 := q1
  have e2 : u 2 = v2 := q2
  have e4 : u 4 = v4 := q4
  have e5 : u 5 = v5 := q5
  have e6 : u 6 = v6 := q6
  have e7 : u 7 = v7 := q7
  have e8 : u 8 = v8 := q8
  have e9 : u 9 = v9 := q9
  have e10 : u 10 = v10 := q10
  rw [e1, e2, e4, e5, e6, e7, e8, e9, e10]
  clear q1 e1 q2 e2 q4 e4 q5 e5 q6 e6 q7 e7 q8 e8 q9 e9 q10 e10 hs1
  simp only [Try.f6, Option.getD_some, regOf] at hc
  injection hc with hc
  subst hc
  generalize u 0 = u0
  generalize u 3 = u3
  generalize u 11 = u11
  generalize u 12 = u12
  generalize u 13 = u13
  generalize u 14 = u14
  generalize u 15 = u15
  generalize u 16 = u16
  generalize u 17 = u17
  generalize u 18 = u18
  generalize u 19 = u19
  generalize u 20 = u20
  generalize u 21 = u21
  generalize u 22 = u22
  generalize u 23 = u23
  generalize u 24 = u24
  generalize u 25 = u25
  generalize u 26 = u26
  generalize u 27 = u27
  generalize u 28 = u28
  generalize u 29 = u29
  generalize u 30 = u30
  generalize u 31 = u31
  generalize u 32 = u32
  generalize u 33 = u33
  generalize u 34 = u34
  generalize u 35 = u35
  generalize u 36 = u36
  generalize u 37 = u37
  generalize u 38 = u38
  generalize u 39 = u39
  generalize u 40 = u40
  generalize u 41 = u41
  generalize u 42 = u42
  generalize u 43 = u43
  generalize u 44 = u44
  generalize u 45 = u45
  generalize u 46 = u46
  generalize u 47 = u47
  generalize u 48 = u48
  generalize u 49 = u49
  generalize u 50 = u50
  generalize u 51 = u51
  generalize u 52 = u52
  generalize u 53 = u53
  generalize u 54 = u54
  generalize u 55 = u55
  generalize u 56 = u56
  generalize u 57 = u57
  generalize u 58 = u58
  generalize u 59 = u59
  generalize u 60 = u60
  generalize u 61 = u61
  generalize u 62 = u62
  generalize u 63 = u63
  generalize u 64 = u64
  generalize u 65 = u65
  generalize u 66 = u66
  generalize u 67 = u67
  generalize u 68 = u68
  generalize u 69 = u69
  generalize u 70 = u70
  generalize u 71 = u71
  generalize u 72 = u72
  generalize u 73 = u73
  generalize u 74 = u74
  generalize u 75 = u75
  generalize u 76 = u76
  generalize u 77 = u77
  clear u
  go_wp2
  exact HQ.out _ ⟨rfl, rfl, rfl, rfl, rfl, rfl, rfl, rfl, rfl, rfl, rfl⟩
set_option maxHeartbeats 8000000 in
set_option maxRecDepth 100000 in
theorem ls_r13 {K : Act → World → Prop} {c : Code} (hc : regOf (Try.f6.body.getD .skip) 13 = some c) (a : Act) {v : Vls} {wq : World}  (hF : Fls a v) (hQ : ∀ a', Fls a' { v with v10 := .int .i64 ((0 : Nat) : Int) } → K a' wq) :
    Code.wp Try.prog c (Exit.then K fun _ _ _ => False) a wq := by
  have HQ := hide hQ
  clear hQ
  obtain ⟨t', d'⟩ := a
  obtain ⟨v1, v2, v4, v5, v6, v7, v8, v9, v10⟩ := v
  obtain ⟨hs1, hd1, q1, q2, q4, q5, q6, q7, q8, q9, q10⟩ := hF
  obtain ⟨u, hu⟩ := frame_ls t' hs1
  simp only at hd1 q1 q2 q4 q5 q6 q7 q8 q9 q10
  subst hu hd1
  have e1 : u 1 = v1 := q1
  have e2 : u 2 = v2 := q2
  have e4 : u 4 = v4 := q4
  have e5 : u 5 = v5 := q5
  have e6 : u 6 = v6 := q6
  have e7 : u 7 = v7 := q7
  have e8 : u 8 = v8 := q8
  have e9 : u 9 = v9 := q9
  have e10 : u 10 = v10 := q10
  rw [e1, e2, e4, e5, e6, e7, e8, e9, e10]
  clear q1 e1 q2 e2 q4 e4 q5 e5 q6 e6 q7 e7 q8 e8 q9 e9 q10 e10 hs1
  simp only [Try.f6, Option.getD_some, regOf] at hc
  injection hc with hc
  subst hc
  generalize u 0 = u0
  generalize u 3 = u3
  generalize u 11 = u11
  generalize u 12 = u12
  generalize u 13 = u13
  generalize u 14 = u14
  generalize u 15 = u15
  generalize u 16 = u16
  generalize u 17 = u17
  generalize u 18 = u18
  generalize u 19 = u19
  generalize u 20 = u20
  generalize u 21 = u21
  generalize u 22 = u22
  generalize u 23 = u23
  generalize u 24 = u24
  generalize u 25 = u25
  generalize u 26 = u26
  generalize u 27 = u27
  generalize u 28 = u28
  generalize u 29 = u29
  generalize u 30 = u30
  generalize u 31 = u31
  generalize u 32 = u32
  generalize u 33 = u33
  generalize u 34 = u34
  generalize u 35 = u35
  generalize u 36 = u36
  generalize u 37 = u37
  generalize u 38 = u38
  generalize u 39 = u39
  generalize u 40 = u40
  generalize u 41 = u41
  generalize u 42 = u42
  generalize u 43 = u43
  generalize u 44 = u44
  generalize u 45 = u45
  generalize u 46 = u46
  generalize u 47 = u47
  generalize u 48 = u48
  generalize u 49 = u49
  generalize u 50 = u50
  generalize u 51 = u51
  generalize u 52 = u52
  generalize u 53 = u53
  generalize u 54 = u54
  generalize u 55 = u55
  generalize u 56 = u56
  generalize u 57 = u57
  generalize u 58 = u58
  generalize u 59 = u59
  generalize u 60 = u60
  generalize u 61 = u61
  generalize u 62 = u62
  generalize u 63 = u63
  generalize u 64 = u64
  generalize u 65 = u65
  generalize u 66 = u66
  generalize u 67 = u67
  generalize u 68 = u68
  generalize u 69 = u69
  generalize u 70 = u70
  generalize u 71 = u71
  generalize u 72 = u72
  generalize u 73 = u73
  generalize u 74 = u74
  generalize u 75 = u75
  generalize u 76 = u76
  generalize u 77 = u77
  clear u
  go_wp2
  exact HQ.out _ ⟨rfl, rfl, rfl, rfl, rfl, rfl, rfl, rfl, rfl, rfl, rfl⟩
set_option maxHeartbeats 8000000 in
set_option maxRecDepth 100000 in
theorem ls_r8 {K : Act → World → Prop} {c : Code} (hc : regOf (Try.f6.body.getD .skip) 8 = some c) (a : Act) {v : Vls} {wq : World} {i : Nat} (hF : Fls a v) (h7v : v.v7 = .int .i64 (i : Int)) (hn : i ≤ 4611686018427387904) (hQ : ∀ a', Fls a' { v with v7 := .int .i64 ((i + 1 : Nat) : Int) } → K a' wq) :
    Code.wp Try.prog c (Exit.then K fun _ _ _ => False) a wq := by
  have HQ := hide hQ
  clear hQ
  obtain ⟨t', d'⟩ := a
  obtain ⟨v1, v2, v4, v5, v6, v7, v8, v9, v10⟩ := v
  simp only at h7v HQ
  subst h7v
  obtain ⟨hs1, hd1, q1, q2, q4, q5, q6, q7, q8, q9, q10⟩ := hF
  obtain ⟨u, hu⟩ := frame_ls t' hs1
  simp only at hd1 q1 q2 q4 q5 q6 q7 q8 q9 q10
  subst hu hd1
  have e1 : u 1 = v1 := q1
  have e2 : u 2 = v2 := q2
  have e4 : u 4 = v4 := q4
  have e5 : u 5 = v5 := q5
  have e6 : u 6 = v6 := q6
  have e7 : u 7 = .int .i64 (i : Int) := q7
  have e8 : u 8 = v8 := q8
  have e9 : u 9 = v9 := q9
  have e10 : u 10 = v10 := q10
  rw [e1, e2, e4, e5, e6, e7, e8, e9, e10]
  clear q1 e1 q2 e2 q4 e4 q5 e5 q6 e6 q7 e7 q8 e8 q9 e9 q10 e10 hs1
  simp only [Try.f6, Option.getD_some, regOf] at hc
  injection hc with hc
  subst hc
  generalize u 0 = u0
  generalize u 3 = u3
  generalize u 11 = u11
  generalize u 12 = u12
  generalize u 13 = u13
  generalize u 14 = u14
  generalize u 15 = u15
  generalize u 16 = u16
  generalize u 17 = u17
  generalize u 18 = u18
  generalize u 19 = u19
  generalize u 20 = u20
  generalize u 21 = u21
  generalize u 22 = u22
  generalize u 23 = u23
  generalize u 24 = u24
  generalize u 25 = u25
  generalize u 26 = u26
  generalize u 27 = u27
  generalize u 28 = u28
  generalize u 29 = u29
  generalize u 30 = u30
  generalize u 31 = u31
  generalize u 32 = u32
  generalize u 33 = u33
  generalize u 34 = u34
  generalize u 35 = u35
  generalize u 36 = u36
  generalize u 37 = u37
  generalize u 38 = u38
  generalize u 39 = u39
  generalize u 40 = u40
  generalize u 41 = u41
  generalize u 42 = u42
  generalize u 43 = u43
  generalize u 44 = u44
  generalize u 45 = u45
  generalize u 46 = u46
  generalize u 47 = u47
  generalize u 48 = u48
  generalize u 49 = u49
  generalize u 50 = u50
  generalize u 51 = u51
  generalize u 52 = u52
  generalize u 53 = u53
  generalize u 54 = u54
  generalize u 55 = u55
  generalize u 56 = u56
  generalize u 57 = u57
  generalize u 58 = u58
  generalize u 59 = u59
  generalize u 60 = u60
  generalize u 61 = u61
  generalize u 62 = u62
  generalize u 63 = u63
  generalize u 64 = u64
  generalize u 65 = u65
  generalize u 66 = u66
  generalize u 67 = u67
  generalize u 68 = u68
  generalize u 69 = u69
  generalize u 70 = u70
  generalize u 71 = u71
  generalize u 72 = u72
  generalize u 73 = u73
  generalize u 74 = u74
  generalize u 75 = u75
  generalize u 76 = u76
  generalize u 77 = u77
  clear u
  have hj1 : ((i + 1 : Nat) : Int) = (i : Int) + 1 := by omega
  rw [hj1] at HQ
  clear hj1
  go_wp2
  exact HQ.out _ ⟨rfl, rfl, rfl, rfl, rfl, rfl, rfl, rfl, rfl, rfl, rfl⟩
set_option maxHeartbeats 8000000 in
set_option maxRecDepth 100000 in
theorem ls_r15 {K : Act → World → Prop} {c : Code} (hc : regOf (Try.f6.body.getD .skip) 15 = some c) (a : Act) {v : Vls} {wq : World} {i : Nat} (hF : Fls a v) (h10v : v.v10 = .int .i64 (i : Int)) (hn : i ≤ 4611686018427387904) (hQ : ∀ a', Fls a' { v with v10 := .int .i64 ((i + 1 : Nat) : Int) } → K a' wq) :
    Code.wp Try.prog c (Exit.then K fun _ _ _ => False) a wq := by
  have HQ := hide hQ
  clear hQ
  obtain ⟨t', d'⟩ := a
  obtain ⟨v1, v2, v4, v5, v6, v7, v8, v9, v10⟩ := v
  simp only at h10v HQ
  subst h10v
  obtain ⟨hs1, hd1, q1, q2, q4, q5, q6, q7, q8, q9, q10⟩ := hF
  obtain ⟨u, hu⟩ := frame_ls t' hs1
  simp only at hd1 q1 q2 q4 q5 q6 q7 q8 q9 q10
  subst hu hd1
  have e1 : u 1 = v1 := q1
  have e2 : u 2 = v2 := q2
  have e4 : u 4 = v4 := q4
  have e5 : u 5 = v5 := q5
  have e6 : u 6 = v6 := q6
  have e7 : u 7 = v7 := q7
  have e8 : u 8 = v8 := q8
  have e9 : u 9 = v9 := q9
  have e10 : u 10 = .int .i64 (i : Int) := q10
  rw [e1, e2, e4, e5, e6, e7, e8, e9, e10]
  clear q1 e1 q2 e2 q4 e4 q5 e5 q6 e6 q7 e7 q8 e8 q9 e9 q10 e10 hs1
  simp only [Try.f6, Option.getD_some, regOf] at hc
  injection hc with hc
  subst hc
  generalize u 0 = u0
  generalize u 3 = u3
  generalize u 11 = u11
  generalize u 12 = u12
  generalize u 13 = u13
  generalize u 14 = u14
  generalize u 15 = u15
  generalize u 16 = u16
  generalize u 17 = u17
  generalize u 18 = u18
  generalize u 19 = u19
  generalize u 20 = u20
  generalize u 21 = u21
  generalize u 22 = u22
  generalize u 23 = u23
  generalize u 24 = u24
  generalize u 25 = u25
  generalize u 26 = u26
  generalize u 27 = u27
  generalize u 28 = u28
  generalize u 29 = u29
  generalize u 30 = u30
  generalize u 31 = u31
  generalize u 32 = u32
  generalize u 33 = u33
  generalize u 34 = u34
  generalize u 35 = u35
  generalize u 36 = u36
  generalize u 37 = u37
  generalize u 38 = u38
  generalize u 39 = u39
  generalize u 40 = u40
  generalize u 41 = u41
  generalize u 42 = u42
  generalize u 43 = u43
  generalize u 44 = u44
  generalize u 45 = u45
  generalize u 46 = u46
  generalize u 47 = u47
  generalize u 48 = u48
  generalize u 49 = u49
  generalize u 50 = u50
  generalize u 51 = u51
  generalize u 52 = u52
  generalize u 53 = u53
  generalize u 54 = u54
  generalize u 55 = u55
  generalize u 56 = u56
  generalize u 57 = u57
  generalize u 58 = u58
  generalize u 59 = u59
  generalize u 60 = u60
  generalize u 61 = u61
  generalize u 62 = u62
  generalize u 63 = u63
  generalize u 64 = u64
  generalize u 65 = u65
  generalize u 66 = u66
  generalize u 67 = u67
  generalize u 68 = u68
  generalize u 69 = u69
  generalize u 70 = u70
  generalize u 71 = u71
  generalize u 72 = u72
  generalize u 73 = u73
  generalize u 74 = u74
  generalize u 75 = u75
  generalize u 76 = u76
  generalize u 77 = u77
  clear u
  have hj1 : ((i + 1 : Nat) : Int) = (i : Int) + 1 := by omega
  rw [hj1] at HQ
  clear hj1
  go_wp2
  exact HQ.out _ ⟨rfl, rfl, rfl, rfl, rfl, rfl, rfl, rfl, rfl, rfl, rfl⟩
set_option maxHeartbeats 8000000 in
set_option maxRecDepth 100000 in
theorem ls_r7 {K : Act → World → Prop} {c : Code} (hc : regOf (Try.f6.body.getD .skip) 7 = some c) (a : Act) {v : Vls} {wq : World} {p n cp i : Nat} {num : Int} {ao : Option Addr} (hF : Fls a v) (h2v : v.v2 = .pointer (some ⟨p, 0, none⟩)) (h7v : v.v7 = .int .i64 (i : Int)) (hD : wq.heap[p]? = some (.cells #[.int .i64 num, .slice ao n cp] tView (0, 0)))
    (hQ : ∀ a', Fls a' v → a'.tmps.getD 28 undef = .bool (decide (i < n)) → K a' wq) :
    Code.wp Try.prog c (Exit.then K fun _ _ _ => False) a wq := by
  have HQ := hide hQ
  clear hQ
  obtain ⟨t', d'⟩ := a
  obtain ⟨v1, v2, v4, v5, v6, v7, v8, v9, v10⟩ := v
  simp only at h2v h7v HQ
  subst h2v h7v
  obtain ⟨hs1, hd1, q1, q2, q4, q5, q6, q7, q8, q9, q10⟩ := hF
  obtain ⟨u, hu⟩ := frame_ls t' hs1
  simp only at hd1 q1 q2 q4 q5 q6 q7 q8 q9 q10
  subst hu hd1
  have e1 : u 1 = v1 := q1
  have e2 : u 2 = .pointer (some ⟨p, 0, none⟩) := q2
  have e4 : u 4 = v4 := q4
  have e5 : u 5 = v5 := q5
  have e6 : u 6 = v6 := q6
  have e7 : u 7 = .int .i64 (i : Int) := q7
  have e8 : u 8 = v8 := q8
  have e9 : u 9 = v9 := q9
  have e10 : u 10 = v10 := q10
  rw [e1, e2, e4, e5, e6, e7, e8, e9, e10]
  clear q1 e1 q2 e2 q4 e4 q5 e5 q6 e6 q7 e7 q8 e8 q9 e9 q10 e10 hs1
  simp only [Try.f6, Option.getD_some, regOf] at hc
  injection hc with hc
  subst hc
  generalize u 0 = u0
  generalize u 3 = u3
  generalize u 11 = u11
  generalize u 12 = u12
  generalize u 13 = u13
  generalize u 14 = u14
  generalize u 15 = u15
  generalize u 16 = u16
  generalize u 17 = u17
  generalize u 18 = u18
  generalize u 19 = u19
  generalize u 20 = u20
  generalize u 21 = u21
  generalize u 22 = u22
  generalize u 23 = u23
  generalize u 24 = u24
  generalize u 25 = u25
  generalize u 26 = u26
  generalize u 27 = u27
  generalize u 28 = u28
  generalize u 29 = u29
  generalize u 30 = u30
  generalize u 31 = u31
  generalize u 32 = u32
  generalize u 33 = u33
  generalize u 34 = u34
  generalize u 35 = u35
  generalize u 36 = u36
  generalize u 37 = u37
  generalize u 38 = u38
  generalize u 39 = u39
  generalize u 40 = u40
  generalize u 41 = u41
  generalize u 42 = u42
  generalize u 43 = u43
  generalize u 44 = u44
  generalize u 45 = u45
  generalize u 46 = u46
  generalize u 47 = u47
  generalize u 48 = u48
  generalize u 49 = u49
  generalize u 50 = u50
  generalize u 51 = u51
  generalize u 52 = u52
  generalize u 53 = u53
  generalize u 54 = u54
  generalize u 55 = u55
  generalize u 56 = u56
  generalize u 57 = u57
  generalize u 58 = u58
  generalize u 59 = u59
  generalize u 60 = u60
  generalize u 61 = u61
  generalize u 62 = u62
  generalize u 63 = u63
  generalize u 64 = u64
  generalize u 65 = u65
  generalize u 66 = u66
  generalize u 67 = u67
  generalize u 68 = u68
  generalize u 69 = u69
  generalize u 70 = u70
  generalize u 71 = u71
  generalize u 72 = u72
  generalize u 73 = u73
  generalize u 74 = u74
  generalize u 75 = u75
  generalize u 76 = u76
  generalize u 77 = u77
  clear u
  have c1 := box_cell hD 1 rfl
  clear hD
  by_cases h1 : i < n
  · rw [decide_eq_true h1] at HQ
    have g : (i : Int) < (n : Int) := by omega
    go_wp2
    exact HQ.out _ ⟨rfl, rfl, rfl, rfl, rfl, rfl, rfl, rfl, rfl, rfl, rfl⟩ rfl
  · rw [decide_eq_false h1] at HQ
    have g : ¬ (i : Int) < (n : Int) := by omega
    go_wp2
    exact HQ.out _ ⟨rfl, rfl, rfl, rfl, rfl, rfl, rfl, rfl, rfl, rfl, rfl⟩ rfl
set_option maxHeartbeats 8000000 in
set_option maxRecDepth 100000 in
theorem ls_r14 {K : Act → World → Prop} {c : Code} (hc : regOf (Try.f6.body.getD .skip) 14 = some c) (a : Act) {v : Vls} {wq : World} {p n cp i : Nat} {num : Int} {ao : Option Addr} (hF : Fls a v) (h8v : v.v8 = .pointer (some ⟨p, 0, none⟩)) (h10v : v.v10 = .int .i64 (i : Int)) (hD : wq.heap[p]? = some (.cells #[.int .i64 num, .slice ao n cp] tView (0, 0)))
    (hQ : ∀ a', Fls a' v → a'.tmps.getD 63 undef = .bool (decide (i < n)) → K a' wq) :
    Code.wp Try.prog c (Exit.then K fun _ _ _ => False) a wq := by
  have HQ := hide hQ
  clear hQ
  obtain ⟨t', d'⟩ := a
  obtain ⟨v1, v2, v4, v5, v6, v7, v8, v9, v10⟩ := v
  simp only at h8v h10v HQ
  subst h8v h10v
  obtain ⟨hs1, hd1, q1, q2, q4, q5, q6, q7, q8, q9, q10⟩ := hF
  obtain ⟨u, hu⟩ := frame_ls t' hs1
  simp only at hd1 q1 q2 q4 q5 q6 q7 q8 q9 q10
  subst hu hd1
  have e1 : u 1 = v1 := q1
  have e2 : u 2 = v2 := q2
  have e4 : u 4 = v4 := q4
  have e5 : u 5 = v5 := q5
  have e6 : u 6 = v6 := q6
  have e7 : u 7 = v7 := q7
  have e8 : u 8 = .pointer (some ⟨p, 0, none⟩) := q8
  have e9 : u 9 = v9 := q9
  have e10 : u 10 = .int .i64 (i : Int) := q10
  rw [e1, e2, e4, e5, e6, e7, e8, e9, e10]
  clear q1 e1 q2 e2 q4 e4 q5 e5 q6 e6 q7 e7 q8 e8 q9 e9 q10 e10 hs1
  simp only [Try.f6, Option.getD_some, regOf] at hc
  injection hc with hc
  subst hc
  generalize u 0 = u0
  generalize u 3 = u3
  generalize u 11 = u11
  generalize u 12 = u12
  generalize u 13 = u13
  generalize u 14 = u14
  generalize u 15 = u15
  generalize u 16 = u16
  generalize u 17 = u17
  generalize u 18 = u18
  generalize u 19 = u19
  generalize u 20 = u20
  generalize u 21 = u21
  generalize u 22 = u22
  generalize u 23 = u23
  generalize u 24 = u24
  generalize u 25 = u25
  generalize u 26 = u26
  generalize u 27 = u27
  generalize u 28 = u28
  generalize u 29 = u29
  generalize u 30 = u30
  generalize u 31 = u31
  generalize u 32 = u32
  generalize u 33 = u33
  generalize u 34 = u34
  generalize u 35 = u35
  generalize u 36 = u36
  generalize u 37 = u37
  generalize u 38 = u38
  generalize u 39 = u39
  generalize u 40 = u40
  generalize u 41 = u41
  generalize u 42 = u42
  generalize u 43 = u43
  generalize u 44 = u44
  generalize u 45 = u45
  generalize u 46 = u46
  generalize u 47 = u47
  generalize u 48 = u48
  generalize u 49 = u49
  generalize u 50 = u50
  generalize u 51 = u51
  generalize u 52 = u52
  generalize u 53 = u53
  generalize u 54 = u54
  generalize u 55 = u55
  generalize u 56 = u56
  generalize u 57 = u57
  generalize u 58 = u58
  generalize u 59 = u59
  generalize u 60 = u60
  generalize u 61 = u61
  generalize u 62 = u62
  generalize u 63 = u63
  generalize u 64 = u64
  generalize u 65 = u65
  generalize u 66 = u66
  generalize u 67 = u67
  generalize u 68 = u68
  generalize u 69 = u69
  generalize u 70 = u70
  generalize u 71 = u71
  generalize u 72 = u72
  generalize u 73 = u73
  generalize u 74 = u74
  generalize u 75 = u75
  generalize u 76 = u76
  generalize u 77 = u77
  clear u
  have c1 := box_cell hD 1 rfl
  clear hD
  by_cases h1 : i < n
  · rw [decide_eq_true h1] at HQ
    have g : (i : Int) < (n : Int) := by omega
    go_wp2
    exact HQ.out _ ⟨rfl, rfl, rfl, rfl, rfl, rfl, rfl, rfl, rfl, rfl, rfl⟩ rfl
  · rw [decide_eq_false h1] at HQ
    have g : ¬ (i : Int) < (n : Int) := by omega
    go_wp2
    exact HQ.out _ ⟨rfl, rfl, rfl, rfl, rfl, rfl, rfl, rfl, rfl, rfl, rfl⟩ rfl
set_option maxHeartbeats 8000000 in
set_option maxRecDepth 100000 in
theorem ls_r5 {K : Act → World → Prop} {c : Code} (hc : regOf (Try.f6.body.getD .skip) 5 = some c) (a : Act) {v : Vls} {wq : World} {cw : Nat} {aw : Addr} {L : List Int} (hF : Fls a v) (h1v : v.v1 = .slice (some aw) L.length cw) (h6v : v.v6 = .slice none 0 0) (hL : IntsAt wq (some aw) L) (hl : L.length ≤ 17592186043904)
    (hQ : ∀ a' w' oo oc, Fls a' { v with v6 := .slice oo L.length oc } → Touch (fun _ => False) wq w' → w'.ownsRow wq.heap.size 3 1 (.slice oo L.length oc) L.length (intCells L) → K a' w') :
    Code.wp Try.prog c (Exit.then K fun _ _ _ => False) a wq := by
  have HQ := hide hQ
  clear hQ
  obtain ⟨t', d'⟩ := a
  obtain ⟨v1, v2, v4, v5, v6, v7, v8, v9, v10⟩ := v
  simp only at h1v h6v HQ
  subst h1v h6v
  obtain ⟨hs1, hd1, q1, q2, q4, q5, q6, q7, q8, q9, q10⟩ := hF
  obtain ⟨u, hu⟩ := frame_ls t' hs1
  simp only at hd1 q1 q2 q4 q5 q6 q7 q8 q9 q10
  subst hu hd1
  have e1 : u 1 = .slice (some aw) L.length cw := q1
  have e2 : u 2 = v2 := q2
  have e4 : u 4 = v4 := q4
  have e5 : u 5 = v5 := q5
  have e6 : u 6 = .slice none 0 0 := q6
  have e7 : u 7 = v7 := q7
  have e8 : u 8 = v8 := q8
  have e9 : u 9 = v9 := q9
  have e10 : u 10 = v10 := q10
  rw [e1, e2, e4, e5, e6, e7, e8, e9, e10]
  clear q1 e1 q2 e2 q4 e4 q5 e5 q6 e6 q7 e7 q8 e8 q9 e9 q10 e10 hs1
  simp only [Try.f6, Option.getD_some, regOf] at hc
  injection hc with hc
  subst hc
  generalize u 0 = u0
  generalize u 3 = u3
  generalize u 11 = u11
  generalize u 12 = u12
  generalize u 13 = u13
  generalize u 14 = u14
  generalize u 15 = u15
  generalize u 16 = u16
  generalize u 17 = u17
  generalize u 18 = u18
  generalize u 19 = u19
  generalize u 20 = u20
  generalize u 21 = u21
  generalize u 22 = u22
  generalize u 23 = u23
  generalize u 24 = u24
  generalize u 25 = u25
  generalize u 26 = u26
  generalize u 27 = u27
  generalize u 28 = u28
  generalize u 29 = u29
  generalize u 30 = u30
  generalize u 31 = u31
  generalize u 32 = u32
  generalize u 33 = u33
  generalize u 34 = u34
  generalize u 35 = u35
  generalize u 36 = u36
  generalize u 37 = u37
  generalize u 38 = u38
  generalize u 39 = u39
  generalize u 40 = u40
  generalize u 41 = u41
  generalize u 42 = u42
  generalize u 43 = u43
  generalize u 44 = u44
  generalize u 45 = u45
  generalize u 46 = u46
  generalize u 47 = u47
  generalize u 48 = u48
  generalize u 49 = u49
  generalize u 50 = u50
  generalize u 51 = u51
  generalize u 52 = u52
  generalize u 53 = u53
  generalize u 54 = u54
  generalize u 55 = u55
  generalize u 56 = u56
  generalize u 57 = u57
  generalize u 58 = u58
  generalize u 59 = u59
  generalize u 60 = u60
  generalize u 61 = u61
  generalize u 62 = u62
  generalize u 63 = u63
  generalize u 64 = u64
  generalize u 65 = u65
  generalize u 66 = u66
  generalize u 67 = u67
  generalize u 68 = u68
  generalize u 69 = u69
  generalize u 70 = u70
  generalize u 71 = u71
  generalize u 72 = u72
  generalize u 73 = u73
  generalize u 74 = u74
  generalize u 75 = u75
  generalize u 76 = u76
  generalize u 77 = u77
  clear u
  obtain ⟨i0, hi0, hz0, hz1, hz2⟩ := info_parts infoI
  have HN := hide (ints_news hL)
  have hcl : (intCells L).length = L.length * 1 := by simp [intCells]
  have HC := hide hcl
  clear hL hcl
  generalize hc : intCells L = xs at *
  have h1 : ∀ u ∈ xs, u.oneCell' = true := by rw [← hc]; exact intCells_one L
  have H1 := hide h1
  clear hc h1
  generalize L.length = n at *
  have e0 : 0 + n = n := by omega
  go_wp2_with (first | (at_builtin; refine wpList_append_own_at _ rfl _ _ 37 rfl wq.heap.size 3 i0 _ 1 8 Try.underlying37 hi0 hz0 hz1 hz2 rfl (by omega) (.slice none 0 0) 0 [] rfl (World.ownsRow_nil _ _ _ _) aw n cw xs rfl HC.out HN.out H1.out (by unfold maxLen; omega) (by omega) (Nat.le_refl _) ?_; intro v4 w4 hown4 hgrow4 hnil4 hloc4; rw [e0] at hown4; obtain ⟨a4, c4, rfl⟩ := row_slice hown4; rw [List.nil_append] at hown4) | go_in)
  exact HQ.out _ _ a4 c4 ⟨rfl, rfl, rfl, rfl, rfl, rfl, rfl, rfl, rfl, rfl, rfl⟩ ((Touch.refl _ wq).grown hgrow4 fun j e _ => by cases e) hown4
set_option maxHeartbeats 8000000 in
set_option maxRecDepth 100000 in
theorem ls_r5n {K : Act → World → Prop} {c : Code} (hc : regOf (Try.f6.body.getD .skip) 5 = some c) (a : Act) {v : Vls} {wq : World}  (hF : Fls a v) (h1v : v.v1 = .slice none 0 0) (h6v : v.v6 = .slice none 0 0) (hQ : ∀ a', Fls a' { v with v6 := .slice none 0 0 } → K a' wq) :
    Code.wp Try.prog c (Exit.then K fun _ _ _ => False) a wq := by
  have HQ := hide hQ
  clear hQ
  obtain ⟨t', d'⟩ := a
  obtain ⟨v1, v2, v4, v5, v6, v7, v8, v9, v10⟩ := v
  simp only at h1v h6v HQ
  subst h1v h6v
  obtain ⟨hs1, hd1, q1, q2, q4, q5, q6, q7, q8, q9, q10⟩ := hF
  obtain ⟨u, hu⟩ := frame_ls t' hs1
  simp only at hd1 q1 q2 q4 q5 q6 q7 q8 q9 q10
  subst hu hd1
  have e1 : u 1 = .slice none 0 0 := q1
  have e2 : u 2 = v2 := q2
  have e4 : u 4 = v4 := q4
  have e5 : u 5 = v5 := q5
  have e6 : u 6 = .slice none 0 0 := q6
  have e7 : u 7 = v7 := q7
  have e8 : u 8 = v8 := q8
  have e9 : u 9 = v9 := q9
  have e10 : u 10 = v10 := q10
  rw [e1, e2, e4, e5, e6, e7, e8, e9, e10]
  clear q1 e1 q2 e2 q4 e4 q5 e5 q6 e6 q7 e7 q8 e8 q9 e9 q10 e10 hs1
  simp only [Try.f6, Option.getD_some, regOf] at hc
  injection hc with hc
  subst hc
  generalize u 0 = u0
  generalize u 3 = u3
  generalize u 11 = u11
  generalize u 12 = u12
  generalize u 13 = u13
  generalize u 14 = u14
  generalize u 15 = u15
  generalize u 16 = u16
  generalize u 17 = u17
  generalize u 18 = u18
  generalize u 19 = u19
  generalize u 20 = u20
  generalize u 21 = u21
  generalize u 22 = u22
  generalize u 23 = u23
  generalize u 24 = u24
  generalize u 25 = u25
  generalize u 26 = u26
  generalize u 27 = u27
  generalize u 28 = u28
  generalize u 29 = u29
  generalize u 30 = u30
  generalize u 31 = u31
  generalize u 32 = u32
  generalize u 33 = u33
  generalize u 34 = u34
  generalize u 35 = u35
  generalize u 36 = u36
  generalize u 37 = u37
  generalize u 38 = u38
  generalize u 39 = u39
  generalize u 40 = u40
  generalize u 41 = u41
  generalize u 42 = u42
  generalize u 43 = u43
  generalize u 44 = u44
  generalize u 45 = u45
  generalize u 46 = u46
  generalize u 47 = u47
  generalize u 48 = u48
  generalize u 49 = u49
  generalize u 50 = u50
  generalize u 51 = u51
  generalize u 52 = u52
  generalize u 53 = u53
  generalize u 54 = u54
  generalize u 55 = u55
  generalize u 56 = u56
  generalize u 57 = u57
  generalize u 58 = u58
  generalize u 59 = u59
  generalize u 60 = u60
  generalize u 61 = u61
  generalize u 62 = u62
  generalize u 63 = u63
  generalize u 64 = u64
  generalize u 65 = u65
  generalize u 66 = u66
  generalize u 67 = u67
  generalize u 68 = u68
  generalize u 69 = u69
  generalize u 70 = u70
  generalize u 71 = u71
  generalize u 72 = u72
  generalize u 73 = u73
  generalize u 74 = u74
  generalize u 75 = u75
  generalize u 76 = u76
  generalize u 77 = u77
  clear u
  obtain ⟨i0, hi0, hz0, hz1, hz2⟩ := info_parts infoI
  go_wp2_with (first | (at_builtin; refine wpList_append_own_none rfl _ _ 37 rfl wq.heap.size 3 i0 1 Try.underlying37 hi0 (.slice none 0 0) 0 [] rfl (World.ownsRow_nil _ _ _ _) rfl ?_) | go_in)
  exact HQ.out _ ⟨rfl, rfl, rfl, rfl, rfl, rfl, rfl, rfl, rfl, rfl, rfl⟩
set_option maxHeartbeats 8000000 in
set_option maxRecDepth 100000 in
theorem ls_r9 {K : Act → World → Prop} {c : Code} (hc : regOf (Try.f6.body.getD .skip) 9 = some c) (a : Act) {v : Vls} {wq : World} {d n cp i k oc b off B : Nat} {num mn : Int} {oo : Option Addr} {L : List Int} (hF : Fls a v) (h2v : v.v2 = .pointer (some ⟨d, 0, none⟩)) (h6v : v.v6 = .slice oo k oc) (h7v : v.v7 = .int .i64 (i : Int)) (hi : i < n) (hD : wq.heap[d]? = some (.cells #[.int .i64 num, .slice (some ⟨b, off, none⟩) n cp] tView (0, 0))) (y0 : wq.cell? ⟨b, off + i * 2, none⟩ = some (.int .i64 mn)) (hR : wq.ownsRow B 3 1 (.slice oo k oc) k (intCells L)) (hl : k ≤ 17592186044000) (hB : B ≤ wq.heap.size)
    (hQ : ∀ a' w' oo' oc', Fls a' { v with v6 := .slice oo' (k + 1) oc' } → Touch (fun j => (Value.slice oo k oc).ownBlock = some j) wq w' → w'.ownsRow B 3 1 (.slice oo' (k + 1) oc') (k + 1) (intCells (L ++ [mn])) → K a' w') :
    Code.wp Try.prog c (Exit.then K fun _ _ _ => False) a wq := by
  have HQ := hide hQ
  clear hQ
  obtain ⟨t', d'⟩ := a
  obtain ⟨v1, v2, v4, v5, v6, v7, v8, v9, v10⟩ := v
  simp only at h2v h6v h7v HQ
  subst h2v h6v h7v
  obtain ⟨hs1, hd1, q1, q2, q4, q5, q6, q7, q8, q9, q10⟩ := hF
  obtain ⟨u, hu⟩ := frame_ls t' hs1
  simp only at hd1 q1 q2 q4 q5 q6 q7 q8 q9 q10
  subst hu hd1
  have e1 : u 1 = v1 := q1
  have e2 : u 2 = .pointer (some ⟨d, 0, none⟩) := q2
  have e4 : u 4 = v4 := q4
  have e5 : u 5 = v5 := q5
  have e6 : u 6 = .slice oo k oc := q6
  have e7 : u 7 = .int .i64 (i : Int) := q7
  have e8 : u 8 = v8 := q8
  have e9 : u 9 = v9 := q9
  have e10 : u 10 = v10 := q10
  rw [e1, e2, e4, e5, e6, e7, e8, e9, e10]
  clear q1 e1 q2 e2 q4 e4 q5 e5 q6 e6 q7 e7 q8 e8 q9 e9 q10 e10 hs1
  simp only [Try.f6, Option.getD_some, regOf] at hc
  injection hc with hc
  subst hc
  generalize u 0 = u0
  generalize u 3 = u3
  generalize u 11 = u11
  generalize u 12 = u12
  generalize u 13 = u13
  generalize u 14 = u14
  generalize u 15 = u15
  generalize u 16 = u16
  generalize u 17 = u17
  generalize u 18 = u18
  generalize u 19 = u19
  generalize u 20 = u20
  generalize u 21 = u21
  generalize u 22 = u22
  generalize u 23 = u23
  generalize u 24 = u24
  generalize u 25 = u25
  generalize u 26 = u26
  generalize u 27 = u27
  generalize u 28 = u28
  generalize u 29 = u29
  generalize u 30 = u30
  generalize u 31 = u31
  generalize u 32 = u32
  generalize u 33 = u33
  generalize u 34 = u34
  generalize u 35 = u35
  generalize u 36 = u36
  generalize u 37 = u37
  generalize u 38 = u38
  generalize u 39 = u39
  generalize u 40 = u40
  generalize u 41 = u41
  generalize u 42 = u42
  generalize u 43 = u43
  generalize u 44 = u44
  generalize u 45 = u45
  generalize u 46 = u46
  generalize u 47 = u47
  generalize u 48 = u48
  generalize u 49 = u49
  generalize u 50 = u50
  generalize u 51 = u51
  generalize u 52 = u52
  generalize u 53 = u53
  generalize u 54 = u54
  generalize u 55 = u55
  generalize u 56 = u56
  generalize u 57 = u57
  generalize u 58 = u58
  generalize u 59 = u59
  generalize u 60 = u60
  generalize u 61 = u61
  generalize u 62 = u62
  generalize u 63 = u63
  generalize u 64 = u64
  generalize u 65 = u65
  generalize u 66 = u66
  generalize u 67 = u67
  generalize u 68 = u68
  generalize u 69 = u69
  generalize u 70 = u70
  generalize u 71 = u71
  generalize u 72 = u72
  generalize u 73 = u73
  generalize u 74 = u74
  generalize u 75 = u75
  generalize u 76 = u76
  generalize u 77 = u77
  clear u
  obtain ⟨i0, hi0, hz0, hz1, hz2⟩ := info_parts infoI
  have c1 := box_cell hD 1 rfl
  have RO := hide hR
  clear hD hR
  have hi0' : (0 : Int) ≤ (i : Int) := by omega
  have hi1 : (i : Int) < (n : Int) := by omega
  go_wp2_with (first | (at_builtin; refine wpList_append_own_at _ rfl _ _ 37 rfl B 3 i0 _ 1 8 Try.underlying37 hi0 hz0 hz1 hz2 rfl (by omega) (.slice oo k oc) k (intCells L) rfl (RO.out.alloc _) ⟨wq.heap.size, 0, none⟩ 1 1 [.int .i64 mn] rfl rfl (World.news_of_block (cs := #[.int .i64 mn]) (t := 3) (fr := (0, 0)) (heap_alloc_new wq _)) (by simp [Value.oneCell']) (by unfold maxLen; omega) (by omega) (by simp; omega) ?_; intro v4 w4 hown4 hgrow4 hnil4 hloc4; obtain ⟨a4, c4, rfl⟩ := row_slice hown4) | go_in)
  exact HQ.out _ _ a4 c4 ⟨rfl, rfl, rfl, rfl, rfl, rfl, rfl, rfl, rfl, rfl, rfl⟩ (((Touch.refl _ wq).alloc _).grown hgrow4 fun j e _ => e) (by unfold intCells at hown4 ⊢; rw [List.map_append]; exact hown4)
set_option maxHeartbeats 8000000 in
set_option maxRecDepth 100000 in
theorem ls_r10 {K : Act → World → Prop} {c : Code} (hc : regOf (Try.f6.body.getD .skip) 10 = some c) (a : Act) {v : Vls} {wq : World} {d nw cw k cp : Nat} {aw ao : Option Addr} {num : Int} {r : VW × Int} (hF : Fls a v) (h2v : v.v2 = .pointer (some ⟨d, 0, none⟩)) (h6v : v.v6 = .slice aw nw cw) (hD : wq.heap[d]? = some (.cells #[.int .i64 num, .slice ao k cp] tView (0, 0))) (hE : Calls Try.prog 20 #[.agg #[.int .i64 num, .slice ao k cp], .slice ao k cp, .slice aw nw cw] wq fun e w' => NextGave wq w' e r)
    (hQ : ∀ a' w1 ro rc, Fls a' { v with v8 := .pointer (some ⟨w1.heap.size, 0, none⟩), v9 := .int .i64 r.2 } → w1.ownsRow wq.heap.size tMember 2 (.slice ro r.1.mem.length rc) r.1.mem.length (mbCells r.1.mem) → Below wq.heap.size wq w1 → K a' (w1.alloc (.cells #[.int .i64 r.1.num, .slice ro r.1.mem.length rc] tView))) :
    Code.wp Try.prog c (Exit.then K fun _ _ _ => False) a wq := by
  have HQ := hide hQ
  clear hQ
  obtain ⟨t', d'⟩ := a
  obtain ⟨v1, v2, v4, v5, v6, v7, v8, v9, v10⟩ := v
  simp only at h2v h6v HQ
  subst h2v h6v
  obtain ⟨hs1, hd1, q1, q2, q4, q5, q6, q7, q8, q9, q10⟩ := hF
  obtain ⟨u, hu⟩ := frame_ls t' hs1
  simp only at hd1 q1 q2 q4 q5 q6 q7 q8 q9 q10
  subst hu hd1
  have e1 : u 1 = v1 := q1
  have e2 : u 2 = .pointer (some ⟨d, 0, none⟩) := q2
  have e4 : u 4 = v4 := q4
  have e5 : u 5 = v5 := q5
  have e6 : u 6 = .slice aw nw cw := q6
  have e7 : u 7 = v7 := q7
  have e8 : u 8 = v8 := q8
  have e9 : u 9 = v9 := q9
  have e10 : u 10 = v10 := q10
  rw [e1, e2, e4, e5, e6, e7, e8, e9, e10]
  clear q1 e1 q2 e2 q4 e4 q5 e5 q6 e6 q7 e7 q8 e8 q9 e9 q10 e10 hs1
  simp only [Try.f6, Option.getD_some, regOf] at hc
  injection hc with hc
  subst hc
  generalize u 0 = u0
  generalize u 3 = u3
  generalize u 11 = u11
  generalize u 12 = u12
  generalize u 13 = u13
  generalize u 14 = u14
  generalize u 15 = u15
  generalize u 16 = u16
  generalize u 17 = u17
  generalize u 18 = u18
  generalize u 19 = u19
  generalize u 20 = u20
  generalize u 21 = u21
  generalize u 22 = u22
  generalize u 23 = u23
  generalize u 24 = u24
  generalize u 25 = u25
  generalize u 26 = u26
  generalize u 27 = u27
  generalize u 28 = u28
  generalize u 29 = u29
  generalize u 30 = u30
  generalize u 31 = u31
  generalize u 32 = u32
  generalize u 33 = u33
  generalize u 34 = u34
  generalize u 35 = u35
  generalize u 36 = u36
  generalize u 37 = u37
  generalize u 38 = u38
  generalize u 39 = u39
  generalize u 40 = u40
  generalize u 41 = u41
  generalize u 42 = u42
  generalize u 43 = u43
  generalize u 44 = u44
  generalize u 45 = u45
  generalize u 46 = u46
  generalize u 47 = u47
  generalize u 48 = u48
  generalize u 49 = u49
  generalize u 50 = u50
  generalize u 51 = u51
  generalize u 52 = u52
  generalize u 53 = u53
  generalize u 54 = u54
  generalize u 55 = u55
  generalize u 56 = u56
  generalize u 57 = u57
  generalize u 58 = u58
  generalize u 59 = u59
  generalize u 60 = u60
  generalize u 61 = u61
  generalize u 62 = u62
  generalize u 63 = u63
  generalize u 64 = u64
  generalize u 65 = u65
  generalize u 66 = u66
  generalize u 67 = u67
  generalize u 68 = u68
  generalize u 69 = u69
  generalize u 70 = u70
  generalize u 71 = u71
  generalize u 72 = u72
  generalize u 73 = u73
  generalize u 74 = u74
  generalize u 75 = u75
  generalize u 76 = u76
  generalize u 77 = u77
  clear u
  have HE := hide hE
  have c0 := box_cell hD 0 rfl
  have c1 := box_cell hD 1 rfl
  clear hE hD
  go_wp2_with fail
  refine HE.out.mono ?_
  rintro e w1 ⟨⟨ro, rc, rfl, r1⟩, b1⟩
  have B1 := hide b1
  have R1 := hide r1
  clear b1 r1 HE c0 c1
  have HQ2 := hide (HQ.out · w1 ro rc · R1.out B1.out)
  clear HQ
  simp only [VW.v]
  generalize r.1.mem.length = n at *
  generalize r.1.num = num2 at *
  generalize r.2 = z at *
  go_wp2
  exact HQ2.out _ ⟨rfl, rfl, rfl, rfl, rfl, rfl, rfl, rfl, rfl, rfl, rfl⟩
set_option maxHeartbeats 8000000 in
set_option maxRecDepth 100000 in
theorem ls_r11 {K : Act → World → Prop} {c : Code} (hc : regOf (Try.f6.body.getD .skip) 11 = some c) (a : Act) {v : Vls} {wq : World} {d p n cp oc : Nat} {num num2 : Int} {ao oo : Option Addr} (hF : Fls a v) (h2v : v.v2 = .pointer (some ⟨d, 0, none⟩)) (h8v : v.v8 = .pointer (some ⟨p, 0, none⟩)) (h9v : v.v9 = .int .i64 0) (hD : wq.heap[d]? = some (.cells #[.int .i64 num, .slice ao n cp] tView (0, 0))) (hP : wq.heap[p]? = some (.cells #[.int .i64 num2, .slice oo n oc] tView (0, 0)))
    (hQ : ∀ a', Fls a' v → a'.tmps.getD 58 undef = .bool false → K a' wq) :
    Code.wp Try.prog c (Exit.then K fun _ _ _ => False) a wq := by
  have HQ := hide hQ
  clear hQ
  obtain ⟨t', d'⟩ := a
  obtain ⟨v1, v2, v4, v5, v6, v7, v8, v9, v10⟩ := v
  simp only at h2v h8v h9v HQ
  subst h2v h8v h9v
  obtain ⟨hs1, hd1, q1, q2, q4, q5, q6, q7, q8, q9, q10⟩ := hF
  obtain ⟨u, hu⟩ := frame_ls t' hs1
  simp only at hd1 q1 q2 q4 q5 q6 q7 q8 q9 q10
  subst hu hd1
  have e1 : u 1 = v1 := q1
  have e2 : u 2 = .pointer (some ⟨d, 0, none⟩) := q2
  have e4 : u 4 = v4 := q4
  have e5 : u 5 = v5 := q5
  have e6 : u 6 = v6 := q6
  have e7 : u 7 = v7 := q7
  have e8 : u 8 = .pointer (some ⟨p, 0, none⟩) := q8
  have e9 : u 9 = .int .i64 0 := q9
  have e10 : u 10 = v10 := q10
  rw [e1, e2, e4, e5, e6, e7, e8, e9, e10]
  clear q1 e1 q2 e2 q4 e4 q5 e5 q6 e6 q7 e7 q8 e8 q9 e9 q10 e10 hs1
  simp only [Try.f6, Option.getD_some, regOf] at hc
  injection hc with hc
  subst hc
  generalize u 0 = u0
  generalize u 3 = u3
  generalize u 11 = u11
  generalize u 12 = u12
  generalize u 13 = u13
  generalize u 14 = u14
  generalize u 15 = u15
  generalize u 16 = u16
  generalize u 17 = u17
  generalize u 18 = u18
  generalize u 19 = u19
  generalize u 20 = u20
  generalize u 21 = u21
  generalize u 22 = u22
  generalize u 23 = u23
  generalize u 24 = u24
  generalize u 25 = u25
  generalize u 26 = u26
  generalize u 27 = u27
  generalize u 28 = u28
  generalize u 29 = u29
  generalize u 30 = u30
  generalize u 31 = u31
  generalize u 32 = u32
  generalize u 33 = u33
  generalize u 34 = u34
  generalize u 35 = u35
  generalize u 36 = u36
  generalize u 37 = u37
  generalize u 38 = u38
  generalize u 39 = u39
  generalize u 40 = u40
  generalize u 41 = u41
  generalize u 42 = u42
  generalize u 43 = u43
  generalize u 44 = u44
  generalize u 45 = u45
  generalize u 46 = u46
  generalize u 47 = u47
  generalize u 48 = u48
  generalize u 49 = u49
  generalize u 50 = u50
  generalize u 51 = u51
  generalize u 52 = u52
  generalize u 53 = u53
  generalize u 54 = u54
  generalize u 55 = u55
  generalize u 56 = u56
  generalize u 57 = u57
  generalize u 58 = u58
  generalize u 59 = u59
  generalize u 60 = u60
  generalize u 61 = u61
  generalize u 62 = u62
  generalize u 63 = u63
  generalize u 64 = u64
  generalize u 65 = u65
  generalize u 66 = u66
  generalize u 67 = u67
  generalize u 68 = u68
  generalize u 69 = u69
  generalize u 70 = u70
  generalize u 71 = u71
  generalize u 72 = u72
  generalize u 73 = u73
  generalize u 74 = u74
  generalize u 75 = u75
  generalize u 76 = u76
  generalize u 77 = u77
  clear u
  have c1 := box_cell hD 1 rfl
  have d1 := box_cell hP 1 rfl
  clear hD hP
  go_wp2
  exact HQ.out _ ⟨rfl, rfl, rfl, rfl, rfl, rfl, rfl, rfl, rfl, rfl, rfl⟩ (by simp)
set_option maxHeartbeats 8000000 in
set_option maxRecDepth 100000 in
theorem ls_r16 {K : Act → World → Prop} {c : Code} (hc : regOf (Try.f6.body.getD .skip) 16 = some c) (a : Act) {v : Vls} {wq : World} {d p n cp oc i b off b2 off2 : Nat} {num num2 mn ml : Int} (hF : Fls a v) (h2v : v.v2 = .pointer (some ⟨d, 0, none⟩)) (h8v : v.v8 = .pointer (some ⟨p, 0, none⟩)) (h10v : v.v10 = .int .i64 (i : Int)) (hi : i < n) (hD : wq.heap[d]? = some (.cells #[.int .i64 num, .slice (some ⟨b, off, none⟩) n cp] tView (0, 0))) (hP : wq.heap[p]? = some (.cells #[.int .i64 num2, .slice (some ⟨b2, off2, none⟩) n oc] tView (0, 0))) (y0 : wq.cell? ⟨b, off + i * 2, none⟩ = some (.int .i64 mn)) (y1 : wq.cell? ⟨b, off + i * 2 + 1, none⟩ = some (.int .i64 ml)) (z0 : wq.cell? ⟨b2, off2 + i * 2, none⟩ = some (.int .i64 mn)) (z1 : wq.cell? ⟨b2, off2 + i * 2 + 1, none⟩ = some (.int .i64 ml))
    (hQ : ∀ a' w', Fls a' v → a'.tmps.getD 76 undef = .bool false → Touch (fun _ => False) wq w' → K a' w') :
    Code.wp Try.prog c (Exit.then K fun _ _ _ => False) a wq := by
  have HQ := hide hQ
  clear hQ
  obtain ⟨t', d'⟩ := a
  obtain ⟨v1, v2, v4, v5, v6, v7, v8, v9, v10⟩ := v
  simp only at h2v h8v h10v HQ
  subst h2v h8v h10v
  obtain ⟨hs1, hd1, q1, q2, q4, q5, q6, q7, q8, q9, q10⟩ := hF
  obtain ⟨u, hu⟩ := frame_ls t' hs1
  simp only at hd1 q1 q2 q4 q5 q6 q7 q8 q9 q10
  subst hu hd1
  have e1 : u 1 = v1 := q1
  have e2 : u 2 = .pointer (some ⟨d, 0, none⟩) := q2
  have e4 : u 4 = v4 := q4
  have e5 : u 5 = v5 := q5
  have e6 : u 6 = v6 := q6
  have e7 : u 7 = v7 := q7
  have e8 : u 8 = .pointer (some ⟨p, 0, none⟩) := q8
  have e9 : u 9 = v9 := q9
  have e10 : u 10 = .int .i64 (i : Int) := q10
  rw [e1, e2, e4, e5, e6, e7, e8, e9, e10]
  clear q1 e1 q2 e2 q4 e4 q5 e5 q6 e6 q7 e7 q8 e8 q9 e9 q10 e10 hs1
  simp only [Try.f6, Option.getD_some, regOf] at hc
  injection hc with hc
  subst hc
  generalize u 0 = u0
  generalize u 3 = u3
  generalize u 11 = u11
  generalize u 12 = u12
  generalize u 13 = u13
  generalize u 14 = u14
  generalize u 15 = u15
  generalize u 16 = u16
  generalize u 17 = u17
  generalize u 18 = u18
  generalize u 19 = u19
  generalize u 20 = u20
  generalize u 21 = u21
  generalize u 22 = u22
  generalize u 23 = u23
  generalize u 24 = u24
  generalize u 25 = u25
  generalize u 26 = u26
  generalize u 27 = u27
  generalize u 28 = u28
  generalize u 29 = u29
  generalize u 30 = u30
  generalize u 31 = u31
  generalize u 32 = u32
  generalize u 33 = u33
  generalize u 34 = u34
  generalize u 35 = u35
  generalize u 36 = u36
  generalize u 37 = u37
  generalize u 38 = u38
  generalize u 39 = u39
  generalize u 40 = u40
  generalize u 41 = u41
  generalize u 42 = u42
  generalize u 43 = u43
  generalize u 44 = u44
  generalize u 45 = u45
  generalize u 46 = u46
  generalize u 47 = u47
  generalize u 48 = u48
  generalize u 49 = u49
  generalize u 50 = u50
  generalize u 51 = u51
  generalize u 52 = u52
  generalize u 53 = u53
  generalize u 54 = u54
  generalize u 55 = u55
  generalize u 56 = u56
  generalize u 57 = u57
  generalize u 58 = u58
  generalize u 59 = u59
  generalize u 60 = u60
  generalize u 61 = u61
  generalize u 62 = u62
  generalize u 63 = u63
  generalize u 64 = u64
  generalize u 65 = u65
  generalize u 66 = u66
  generalize u 67 = u67
  generalize u 68 = u68
  generalize u 69 = u69
  generalize u 70 = u70
  generalize u 71 = u71
  generalize u 72 = u72
  generalize u 73 = u73
  generalize u 74 = u74
  generalize u 75 = u75
  generalize u 76 = u76
  generalize u 77 = u77
  clear u
  have c1 := box_cell hD 1 rfl
  have d1 := box_cell hP 1 rfl
  clear hD hP
  have hi0 : (0 : Int) ≤ (i : Int) := by omega
  have hi1 : (i : Int) < (n : Int) := by omega
  go_quiet (fail)
  go_wp2
  exact HQ.out _ _ ⟨rfl, rfl, rfl, rfl, rfl, rfl, rfl, rfl, rfl, rfl, rfl⟩ (by simp) (Touch.of_below (below_drewN (Below.refl _ _) _))
end Go.Proofs.Ytbkglpbkbfopjaa
