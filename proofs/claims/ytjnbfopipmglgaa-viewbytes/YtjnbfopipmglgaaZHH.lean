/-
  carillonref12's Encode: its regions (mkve.py).
-/
import Derived.Test.YtjnbfopipmglgaaZV3
import Derived.Test.YtjnbfopipmglgaaZHC
namespace Go.Proofs.Ytjnbfopipmglgaa
open Go.RowKit

attribute [local go_sem ↓] Go.wp_at_zero Go.wp_at_succ
set_option linter.unusedSimpArgs false
set_option linter.unusedVariables false
abbrev IT := K.It
abbrev tItem : TypeId := 53
theorem infoIt : (Try.prog.info? tItem).map (fun i => (i.zero, i.size, i.bytes)) = some (some (.agg #[.int .i64 0, .int .u64 0, .string ⟨#[]⟩]), 3, 32) := by kernel_rfl
theorem u64_wrap {n : Int} (h0 : 0 ≤ n) (h1 : n < 18446744073709551616) : IntKind.u64.wrap n = n := by
  simp only [IntKind.wrap, IntKind.bits, IntKind.signed]
  simp
  omega
def itCells (l : List K.It) : List Value := l.flatMap fun x => [.int .i64 x.k, .int .u64 x.n, .string x.s]
theorem itCells_append (a b : List K.It) : itCells (a ++ b) = itCells a ++ itCells b := by simp [itCells]
theorem itCells_get (L : List K.It) (i j : Nat) (hi : i < L.length) (hj : j < 3) : (itCells L)[i * 3 + j]? = [Value.int .i64 L[i].k, .int .u64 L[i].n, .string L[i].s][j]? := by
  induction L generalizing i with
  | nil => cases hi
  | cons a L ih =>
    have e : itCells (a :: L) = [Value.int .i64 a.k, .int .u64 a.n, .string a.s] ++ itCells L := rfl
    rw [e]
    cases i with
    | zero => rw [List.getElem?_append_left (by simp; omega)]; simp
    | succ i =>
      rw [List.getElem?_append_right (by simp; omega)]
      have := ih i (by simpa using hi)
      simp only [List.getElem_cons_succ]
      rw [← this]
      congr 1
      simp
      omega
/-- Items wherever they lie. -/
def ItsAt (w : World) (ao : Option Addr) (l : List K.It) : Prop :=
  ∀ i (h : i < l.length), ∃ b off, ao = some ⟨b, off, none⟩ ∧ b < w.heap.size ∧ w.cell? ⟨b, off + i * 3, none⟩ = some (.int .i64 l[i].k) ∧ w.cell? ⟨b, off + i * 3 + 1, none⟩ = some (.int .u64 l[i].n) ∧ w.cell? ⟨b, off + i * 3 + 2, none⟩ = some (.string l[i].s)
theorem its_of_row {w : World} {B : Nat} {ao : Option Addr} {n cp : Nat} {L : List K.It} (h : w.ownsRow B tItem 3 (.slice ao n cp) n (itCells L)) (hn : L.length = n) : ItsAt w ao L := by
  subst hn
  intro i hi
  rcases h.2 with ⟨_, h2⟩ | ⟨g, cap, cur, hv, hg, hh, _⟩
  · omega
  · injection hv with h1 _ h3
    subst h1
    have hc := h.cells (g := g) rfl
    refine ⟨g, 0, rfl, heap_lt hh, ?_, ?_, ?_⟩
    · have := hc (i * 3) (.int .i64 L[i].k) (by rw [show i * 3 = i * 3 + 0 by omega, itCells_get L i 0 hi (by omega)]; rfl)
      rw [Addr.add_lit] at this
      simpa using this
    · have := hc (i * 3 + 1) (.int .u64 L[i].n) (by rw [itCells_get L i 1 hi (by omega)]; rfl)
      rw [Addr.add_lit] at this
      simpa using this
    · have := hc (i * 3 + 2) (.string L[i].s) (by rw [itCells_get L i 2 hi (by omega)]; rfl)
      rw [Addr.add_lit] at this
      simpa using this
theorem it_not {W : World} {B n : Nat} {v : Value} {xs : List Value} (h : W.ownsRow B tItem 3 v n xs) {j k : Nat} (hj : v.ownBlock = some j) {cs : Array Value} (hk : W.heap[k]? = some (.cells cs tView (0, 0))) : j ≠ k := fun e => by
  subst e
  rcases h.2 with ⟨rfl, _⟩ | ⟨g, cap, cur, rfl, _, hh, _⟩
  · cases hj
  · obtain rfl : g = j := Option.some.inj hj
    rw [hk] at hh
    injection hh with hh
    injection hh with _ hh _
    exact absurd hh (by decide)
set_option maxRecDepth 100000 in
theorem frame_ve (t : Array Value) (h : t.size = 50) : ∃ u : Nat → Value, t = List.toArray (u 0 :: u 1 :: u 2 :: u 3 :: u 4 :: u 5 :: u 6 :: u 7 :: u 8 :: u 9 :: u 10 :: u 11 :: u 12 :: u 13 :: u 14 :: u 15 :: u 16 :: u 17 :: u 18 :: u 19 :: u 20 :: u 21 :: u 22 :: u 23 :: u 24 :: u 25 :: u 26 :: u 27 :: u 28 :: u 29 :: u 30 :: u 31 :: u 32 :: u 33 :: u 34 :: u 35 :: u 36 :: u 37 :: u 38 :: u 39 :: u 40 :: u 41 :: u 42 :: u 43 :: u 44 :: u 45 :: u 46 :: u 47 :: u 48 :: u 49 :: []) := by
  refine ⟨fun i => t.getD i undef, ?_⟩
  have e : (List.toArray ((fun i => t.getD i undef) 0 :: (fun i => t.getD i undef) 1 :: (fun i => t.getD i undef) 2 :: (fun i => t.getD i undef) 3 :: (fun i => t.getD i undef) 4 :: (fun i => t.getD i undef) 5 :: (fun i => t.getD i undef) 6 :: (fun i => t.getD i undef) 7 :: (fun i => t.getD i undef) 8 :: (fun i => t.getD i undef) 9 :: (fun i => t.getD i undef) 10 :: (fun i => t.getD i undef) 11 :: (fun i => t.getD i undef) 12 :: (fun i => t.getD i undef) 13 :: (fun i => t.getD i undef) 14 :: (fun i => t.getD i undef) 15 :: (fun i => t.getD i undef) 16 :: (fun i => t.getD i undef) 17 :: (fun i => t.getD i undef) 18 :: (fun i => t.getD i undef) 19 :: (fun i => t.getD i undef) 20 :: (fun i => t.getD i undef) 21 :: (fun i => t.getD i undef) 22 :: (fun i => t.getD i undef) 23 :: (fun i => t.getD i undef) 24 :: (fun i => t.getD i undef) 25 :: (fun i => t.getD i undef) 26 :: (fun i => t.getD i undef) 27 :: (fun i => t.getD i undef) 28 :: (fun i => t.getD i undef) 29 :: (fun i => t.getD i undef) 30 :: (fun i => t.getD i undef) 31 :: (fun i => t.getD i undef) 32 :: (fun i => t.getD i undef) 33 :: (fun i => t.getD i undef) 34 :: (fun i => t.getD i undef) 35 :: (fun i => t.getD i undef) 36 :: (fun i => t.getD i undef) 37 :: (fun i => t.getD i undef) 38 :: (fun i => t.getD i undef) 39 :: (fun i => t.getD i undef) 40 :: (fun i => t.getD i undef) 41 :: (fun i => t.getD i undef) 42 :: (fun i => t.getD i undef) 43 :: (fun i => t.getD i undef) 44 :: (fun i => t.getD i undef) 45 :: (fun i => t.getD i undef) 46 :: (fun i => t.getD i undef) 47 :: (fun i => t.getD i undef) 48 :: (fun i => t.getD i undef) 49 :: []) : Array Value) = ((List.range 50).map fun i => t.getD i undef).toArray := rfl
  refine Eq.trans ?_ e.symm
  apply Array.ext
  · simp [h]
  · intro k h1 h2
    simp [Array.getD, h1]
/-- The slots that matter. -/
structure Vve where
  v1 : Value
  v2 : Value
  v3 : Value
  v4 : Value
  v5 : Value
  v6 : Value
  v7 : Value
structure Fve (a : Act) (v : Vve) : Prop where
  size : a.tmps.size = 50
  defers : a.defers = []
  s1 : a.tmps.getD 1 undef = v.v1
  s2 : a.tmps.getD 2 undef = v.v2
  s3 : a.tmps.getD 3 undef = v.v3
  s4 : a.tmps.getD 4 undef = v.v4
  s5 : a.tmps.getD 5 undef = v.v5
  s6 : a.tmps.getD 6 undef = v.v6
  s7 : a.tmps.getD 7 undef = v.v7
set_option maxHeartbeats 8000000 in
set_option maxRecDepth 100000 in
theorem ve_r1 {K : Act → World → Prop} {c : Code} (hc : regOf (Try.f7.body.getD .skip) 1 = some c) (a : Act) {v : Vve} {wq : World} {d cp : Nat} {x : VW} {ao : Option Addr} (hF : Fve a v) (h1v : v.v1 = .pointer (some ⟨d, 0, none⟩)) (hD : wq.heap[d]? = some (.cells #[.int .i64 x.num, .slice ao x.mem.length cp] tView (0, 0))) (hM : MemsAt wq ao x.mem)
    (hQ : ∀ a' w', Fve a' { v with v4 := .bool (decide x.right) } → Below wq.heap.size wq w' → K a' w') :
    Code.wp Try.prog c (Exit.then K fun _ _ _ => False) a wq := by
  have HQ := hide hQ
  clear hQ
  obtain ⟨t', d'⟩ := a
  obtain ⟨v1, v2, v3, v4, v5, v6, v7⟩ := v
  simp only at h1v HQ
  subst h1v
  obtain ⟨hs1, hd1, q1, q2, q3, q4, q5, q6, q7⟩ := hF
  obtain ⟨u, hu⟩ := frame_ve t' hs1
  simp only at hd1 q1 q2 q3 q4 q5 q6 q7
  subst hu hd1
  have e1 : u 1 = .pointer (some ⟨d, 0, none⟩) := q1
  have e2 : u 2 = v2 := q2
  have e3 : u 3 = v3 := q3
  have e4 : u 4 = v4 := q4
  have e5 : u 5 = v5 := q5
  have e6 : u 6 = v6 := q6
  have e7 : u 7 = v7 := q7
  rw [e1, e2, e3, e4, e5, e6, e7]
  clear q1 e1 q2 e2 q3 e3 q4 e4 q5 e5 q6 e6 q7 e7 hs1
  simp only [Try.f7, Option.getD_some, regOf] at hc
  injection hc with hc
  subst hc
  generalize u 0 = u0
  generalize u 8 = u8
  generalize u 9 = u9
  generalize u 10 = u10
  generalize u 11 = u11
  generalize u 12 = u12
  generalize u 13 = u13
  generalize u 14 = u14
  generalize u 15 = u15
  generalize u 16 = u16
  generalize u 17 = u17
  generalize u 18 = u18
  generalize u 19 = u19
  generalize u 20 = u20
  generalize u 21 = u21
  generalize u 22 = u22
  generalize u 23 = u23
  generalize u 24 = u24
  generalize u 25 = u25
  generalize u 26 = u26
  generalize u 27 = u27
  generalize u 28 = u28
  generalize u 29 = u29
  generalize u 30 = u30
  generalize u 31 = u31
  generalize u 32 = u32
  generalize u 33 = u33
  generalize u 34 = u34
  generalize u 35 = u35
  generalize u 36 = u36
  generalize u 37 = u37
  generalize u 38 = u38
  generalize u 39 = u39
  generalize u 40 = u40
  generalize u 41 = u41
  generalize u 42 = u42
  generalize u 43 = u43
  generalize u 44 = u44
  generalize u 45 = u45
  generalize u 46 = u46
  generalize u 47 = u47
  generalize u 48 = u48
  generalize u 49 = u49
  clear u
  have c0 := box_cell hD 0 rfl
  have c1 := box_cell hD 1 rfl
  have HR := hide (rright x ao cp wq hM)
  clear hD hM
  simp only [VW.v] at HR
  generalize decide x.right = r at *
  generalize x.mem.length = n at *
  generalize x.num = k at *
  go_wp2_with fail
  refine HR.out.mono ?_
  rintro e w1 ⟨rfl, b1⟩
  have B1 := hide b1
  clear b1 HR
  go_wp2
  exact HQ.out _ _ ⟨rfl, rfl, rfl, rfl, rfl, rfl, rfl, rfl, rfl⟩ B1.out
set_option maxHeartbeats 8000000 in
set_option maxRecDepth 100000 in
theorem ve_r2 {K : Act → World → Prop} {c : Code} (hc : regOf (Try.f7.body.getD .skip) 2 = some c) (a : Act) {v : Vve} {wq : World} {r : Bool} (hF : Fve a v) (h4v : v.v4 = .bool r) (hQ : ∀ a', Fve a' v → a'.tmps.getD 12 undef = .bool (!r) → K a' wq) :
    Code.wp Try.prog c (Exit.then K fun _ _ _ => False) a wq := by
  have HQ := hide hQ
  clear hQ
  obtain ⟨t', d'⟩ := a
  obtain ⟨v1, v2, v3, v4, v5, v6, v7⟩ := v
  simp only at h4v HQ
  subst h4v
  obtain ⟨hs1, hd1, q1, q2, q3, q4, q5, q6, q7⟩ := hF
  obtain ⟨u, hu⟩ := frame_ve t' hs1
  simp only at hd1 q1 q2 q3 q4 q5 q6 q7
  subst hu hd1
  have e1 : u 1 = v1 := q1
  have e2 : u 2 = v2 := q2
  have e3 : u 3 = v3 := q3
  have e4 : u 4 = .bool r := q4
  have e5 : u 5 = v5 := q5
  have e6 : u 6 = v6 := q6
  have e7 : u 7 = v7 := q7
  rw [e1, e2, e3, e4, e5, e6, e7]
  clear q1 e1 q2 e2 q3 e3 q4 e4 q5 e5 q6 e6 q7 e7 hs1
  simp only [Try.f7, Option.getD_some, regOf] at hc
  injection hc with hc
  subst hc
  generalize u 0 = u0
  generalize u 8 = u8
  generalize u 9 = u9
  generalize u 10 = u10
  generalize u 11 = u11
  generalize u 12 = u12
  generalize u 13 = u13
  generalize u 14 = u14
  generalize u 15 = u15
  generalize u 16 = u16
  generalize u 17 = u17
  generalize u 18 = u18
  generalize u 19 = u19
  generalize u 20 = u20
  generalize u 21 = u21
  generalize u 22 = u22
  generalize u 23 = u23
  generalize u 24 = u24
  generalize u 25 = u25
  generalize u 26 = u26
  generalize u 27 = u27
  generalize u 28 = u28
  generalize u 29 = u29
  generalize u 30 = u30
  generalize u 31 = u31
  generalize u 32 = u32
  generalize u 33 = u33
  generalize u 34 = u34
  generalize u 35 = u35
  generalize u 36 = u36
  generalize u 37 = u37
  generalize u 38 = u38
  generalize u 39 = u39
  generalize u 40 = u40
  generalize u 41 = u41
  generalize u 42 = u42
  generalize u 43 = u43
  generalize u 44 = u44
  generalize u 45 = u45
  generalize u 46 = u46
  generalize u 47 = u47
  generalize u 48 = u48
  generalize u 49 = u49
  clear u
  go_wp2
  exact HQ.out _ ⟨rfl, rfl, rfl, rfl, rfl, rfl, rfl, rfl, rfl⟩ rfl
set_option maxHeartbeats 8000000 in
set_option maxRecDepth 100000 in
theorem ve_r3 {K : Act → World → Prop} {c : Code} (hc : regOf (Try.f7.body.getD .skip) 3 = some c) (a : Act) {v : Vve} {wq : World}  (hF : Fve a v) (hQ : ∀ a', Fve a' { v with v2 := .string ⟨#[]⟩, v3 := .bool false } → K a' wq) :
    Code.wp Try.prog c (Exit.then K fun _ _ _ => False) a wq := by
  have HQ := hide hQ
  clear hQ
  obtain ⟨t', d'⟩ := a
  obtain ⟨v1, v2, v3, v4, v5, v6, v7⟩ := v
  obtain ⟨hs1, hd1, q1, q2, q3, q4, q5, q6, q7⟩ := hF
  obtain ⟨u, hu⟩ := frame_ve t' hs1
  simp only at hd1 q1 q2 q3 q4 q5 q6 q7
  subst hu hd1
  have e1 : u 1 = v1 := q1
  have e2 : u 2 = v2 := q2
  have e3 : u 3 = v3 := q3
  have e4 : u 4 = v4 := q4
  have e5 : u 5 = v5 := q5
  have e6 : u 6 = v6 := q6
  have e7 : u 7 = v7 := q7
  rw [e1, e2, e3, e4, e5, e6, e7]
  clear q1 e1 q2 e2 q3 e3 q4 e4 q5 e5 q6 e6 q7 e7 hs1
  simp only [Try.f7, Option.getD_some, regOf] at hc
  injection hc with hc
  subst hc
  generalize u 0 = u0
  generalize u 8 = u8
  generalize u 9 = u9
  generalize u 10 = u10
  generalize u 11 = u11
  generalize u 12 = u12
  generalize u 13 = u13
  generalize u 14 = u14
  generalize u 15 = u15
  generalize u 16 = u16
  generalize u 17 = u17
  generalize u 18 = u18
  generalize u 19 = u19
  generalize u 20 = u20
  generalize u 21 = u21
  generalize u 22 = u22
  generalize u 23 = u23
  generalize u 24 = u24
  generalize u 25 = u25
  generalize u 26 = u26
  generalize u 27 = u27
  generalize u 28 = u28
  generalize u 29 = u29
  generalize u 30 = u30
  generalize u 31 = u31
  generalize u 32 = u32
  generalize u 33 = u33
  generalize u 34 = u34
  generalize u 35 = u35
  generalize u 36 = u36
  generalize u 37 = u37
  generalize u 38 = u38
  generalize u 39 = u39
  generalize u 40 = u40
  generalize u 41 = u41
  generalize u 42 = u42
  generalize u 43 = u43
  generalize u 44 = u44
  generalize u 45 = u45
  generalize u 46 = u46
  generalize u 47 = u47
  generalize u 48 = u48
  generalize u 49 = u49
  clear u
  go_wp2
  exact HQ.out _ ⟨rfl, rfl, rfl, rfl, rfl, rfl, rfl, rfl, rfl⟩
set_option maxHeartbeats 8000000 in
set_option maxRecDepth 100000 in
theorem ve_r4 {K : Act → World → Prop} {c : Code} (hc : regOf (Try.f7.body.getD .skip) 4 = some c) (a : Act) {v : Vve} {wq : World} {d n cp : Nat} {num : Int} {ao : Option Addr} (hF : Fve a v) (h1v : v.v1 = .pointer (some ⟨d, 0, none⟩)) (hD : wq.heap[d]? = some (.cells #[.int .i64 num, .slice ao n cp] tView (0, 0))) (hn : 1 ≤ num ∧ num ≤ 9007199254740991)
    (hQ : ∀ a', Fve a' { v with v5 := .slice (some ⟨wq.heap.size, 0, none⟩) 1 1 } → K a' (wq.alloc (.cells #[.int .i64 3, .int .u64 num, .string ⟨#[]⟩] tItem))) :
    Code.wp Try.prog c (Exit.then K fun _ _ _ => False) a wq := by
  have HQ := hide hQ
  clear hQ
  obtain ⟨t', d'⟩ := a
  obtain ⟨v1, v2, v3, v4, v5, v6, v7⟩ := v
  simp only at h1v HQ
  subst h1v
  obtain ⟨hs1, hd1, q1, q2, q3, q4, q5, q6, q7⟩ := hF
  obtain ⟨u, hu⟩ := frame_ve t' hs1
  simp only at hd1 q1 q2 q3 q4 q5 q6 q7
  subst hu hd1
  have e1 : u 1 = .pointer (some ⟨d, 0, none⟩) := q1
  have e2 : u 2 = v2 := q2
  have e3 : u 3 = v3 := q3
  have e4 : u 4 = v4 := q4
  have e5 : u 5 = v5 := q5
  have e6 : u 6 = v6 := q6
  have e7 : u 7 = v7 := q7
  rw [e1, e2, e3, e4, e5, e6, e7]
  clear q1 e1 q2 e2 q3 e3 q4 e4 q5 e5 q6 e6 q7 e7 hs1
  simp only [Try.f7, Option.getD_some, regOf] at hc
  injection hc with hc
  subst hc
  generalize u 0 = u0
  generalize u 8 = u8
  generalize u 9 = u9
  generalize u 10 = u10
  generalize u 11 = u11
  generalize u 12 = u12
  generalize u 13 = u13
  generalize u 14 = u14
  generalize u 15 = u15
  generalize u 16 = u16
  generalize u 17 = u17
  generalize u 18 = u18
  generalize u 19 = u19
  generalize u 20 = u20
  generalize u 21 = u21
  generalize u 22 = u22
  generalize u 23 = u23
  generalize u 24 = u24
  generalize u 25 = u25
  generalize u 26 = u26
  generalize u 27 = u27
  generalize u 28 = u28
  generalize u 29 = u29
  generalize u 30 = u30
  generalize u 31 = u31
  generalize u 32 = u32
  generalize u 33 = u33
  generalize u 34 = u34
  generalize u 35 = u35
  generalize u 36 = u36
  generalize u 37 = u37
  generalize u 38 = u38
  generalize u 39 = u39
  generalize u 40 = u40
  generalize u 41 = u41
  generalize u 42 = u42
  generalize u 43 = u43
  generalize u 44 = u44
  generalize u 45 = u45
  generalize u 46 = u46
  generalize u 47 = u47
  generalize u 48 = u48
  generalize u 49 = u49
  clear u
  have c0 := box_cell hD 0 rfl
  clear hD
  obtain ⟨hn1, hn2⟩ := hn
  have hn0 : 0 ≤ num := by omega
  go_wp2
  exact HQ.out _ ⟨rfl, rfl, rfl, rfl, rfl, rfl, rfl, rfl, rfl⟩
set_option maxHeartbeats 8000000 in
set_option maxRecDepth 100000 in
theorem ve_r5 {K : Act → World → Prop} {c : Code} (hc : regOf (Try.f7.body.getD .skip) 5 = some c) (a : Act) {v : Vve} {wq : World}  (hF : Fve a v) (hQ : ∀ a', Fve a' { v with v6 := .int .i64 ((0 : Nat) : Int) } → K a' wq) :
    Code.wp Try.prog c (Exit.then K fun _ _ _ => False) a wq := by
  have HQ := hide hQ
  clear hQ
  obtain ⟨t', d'⟩ := a
  obtain ⟨v1, v2, v3, v4, v5, v6, v7⟩ := v
  obtain ⟨hs1, hd1, q1, q2, q3, q4, q5, q6, q7⟩ := hF
  obtain ⟨u, hu⟩ := frame_ve t' hs1
  simp only at hd1 q1 q2 q3 q4 q5 q6 q7
  subst hu hd1
  have e1 : u 1 = v1 := q1
  have e2 : u 2 = v2 := q2
  have e3 : u 3 = v3 := q3
  have e4 : u 4 = v4 := q4
  have e5 : u 5 = v5 := q5
  have e6 : u 6 = v6 := q6
  have e7 : u 7 = v7 := q7
  rw [e1, e2, e3, e4, e5, e6, e7]
  clear q1 e1 q2 e2 q3 e3 q4 e4 q5 e5 q6 e6 q7 e7 hs1
  simp only [Try.f7, Option.getD_some, regOf] at hc
  injection hc with hc
  subst hc
  generalize u 0 = u0
  generalize u 8 = u8
  generalize u 9 = u9
  generalize u 10 = u10
  generalize u 11 = u11
  generalize u 12 = u12
  generalize u 13 = u13
  generalize u 14 = u14
  generalize u 15 = u15
  generalize u 16 = u16
  generalize u 17 = u17
  generalize u 18 = u18
  generalize u 19 = u19
  generalize u 20 = u20
  generalize u 21 = u21
  generalize u 22 = u22
  generalize u 23 = u23
  generalize u 24 = u24
  generalize u 25 = u25
  generalize u 26 = u26
  generalize u 27 = u27
  generalize u 28 = u28
  generalize u 29 = u29
  generalize u 30 = u30
  generalize u 31 = u31
  generalize u 32 = u32
  generalize u 33 = u33
  generalize u 34 = u34
  generalize u 35 = u35
  generalize u 36 = u36
  generalize u 37 = u37
  generalize u 38 = u38
  generalize u 39 = u39
  generalize u 40 = u40
  generalize u 41 = u41
  generalize u 42 = u42
  generalize u 43 = u43
  generalize u 44 = u44
  generalize u 45 = u45
  generalize u 46 = u46
  generalize u 47 = u47
  generalize u 48 = u48
  generalize u 49 = u49
  clear u
  go_wp2
  exact HQ.out _ ⟨rfl, rfl, rfl, rfl, rfl, rfl, rfl, rfl, rfl⟩
set_option maxHeartbeats 8000000 in
set_option maxRecDepth 100000 in
theorem ve_r6 {K : Act → World → Prop} {c : Code} (hc : regOf (Try.f7.body.getD .skip) 6 = some c) (a : Act) {v : Vve} {wq : World} {d n cp i : Nat} {num : Int} {ao : Option Addr} (hF : Fve a v) (h1v : v.v1 = .pointer (some ⟨d, 0, none⟩)) (h6v : v.v6 = .int .i64 (i : Int)) (hD : wq.heap[d]? = some (.cells #[.int .i64 num, .slice ao n cp] tView (0, 0)))
    (hQ : ∀ a', Fve a' v → a'.tmps.getD 22 undef = .bool (decide (i < n)) → K a' wq) :
    Code.wp Try.prog c (Exit.then K fun _ _ _ => False) a wq := by
  have HQ := hide hQ
  clear hQ
  obtain ⟨t', d'⟩ := a
  obtain ⟨v1, v2, v3, v4, v5, v6, v7⟩ := v
  simp only at h1v h6v HQ
  subst h1v h6v
  obtain ⟨hs1, hd1, q1, q2, q3, q4, q5, q6, q7⟩ := hF
  obtain ⟨u, hu⟩ := frame_ve t' hs1
  simp only at hd1 q1 q2 q3 q4 q5 q6 q7
  subst hu hd1
  have e1 : u 1 = .pointer (some ⟨d, 0, none⟩) := q1
  have e2 : u 2 = v2 := q2
  have e3 : u 3 = v3 := q3
  have e4 : u 4 = v4 := q4
  have e5 : u 5 = v5 := q5
  have e6 : u 6 = .int .i64 (i : Int) := q6
  have e7 : u 7 = v7 := q7
  rw [e1, e2, e3, e4, e5, e6, e7]
  clear q1 e1 q2 e2 q3 e3 q4 e4 q5 e5 q6 e6 q7 e7 hs1
  simp only [Try.f7, Option.getD_some, regOf] at hc
  injection hc with hc
  subst hc
  generalize u 0 = u0
  generalize u 8 = u8
  generalize u 9 = u9
  generalize u 10 = u10
  generalize u 11 = u11
  generalize u 12 = u12
  generalize u 13 = u13
  generalize u 14 = u14
  generalize u 15 = u15
  generalize u 16 = u16
  generalize u 17 = u17
  generalize u 18 = u18
  generalize u 19 = u19
  generalize u 20 = u20
  generalize u 21 = u21
  generalize u 22 = u22
  generalize u 23 = u23
  generalize u 24 = u24
  generalize u 25 = u25
  generalize u 26 = u26
  generalize u 27 = u27
  generalize u 28 = u28
  generalize u 29 = u29
  generalize u 30 = u30
  generalize u 31 = u31
  generalize u 32 = u32
  generalize u 33 = u33
  generalize u 34 = u34
  generalize u 35 = u35
  generalize u 36 = u36
  generalize u 37 = u37
  generalize u 38 = u38
  generalize u 39 = u39
  generalize u 40 = u40
  generalize u 41 = u41
  generalize u 42 = u42
  generalize u 43 = u43
  generalize u 44 = u44
  generalize u 45 = u45
  generalize u 46 = u46
  generalize u 47 = u47
  generalize u 48 = u48
  generalize u 49 = u49
  clear u
  have c1 := box_cell hD 1 rfl
  clear hD
  by_cases h1 : i < n
  · rw [decide_eq_true h1] at HQ
    have g : (i : Int) < (n : Int) := by omega
    go_wp2
    exact HQ.out _ ⟨rfl, rfl, rfl, rfl, rfl, rfl, rfl, rfl, rfl⟩ rfl
  · rw [decide_eq_false h1] at HQ
    have g : ¬ (i : Int) < (n : Int) := by omega
    go_wp2
    exact HQ.out _ ⟨rfl, rfl, rfl, rfl, rfl, rfl, rfl, rfl, rfl⟩ rfl
set_option maxHeartbeats 8000000 in
set_option maxRecDepth 100000 in
theorem ve_r7 {K : Act → World → Prop} {c : Code} (hc : regOf (Try.f7.body.getD .skip) 7 = some c) (a : Act) {v : Vve} {wq : World} {i : Nat} (hF : Fve a v) (h6v : v.v6 = .int .i64 (i : Int)) (hn : i ≤ 4611686018427387904) (hQ : ∀ a', Fve a' { v with v6 := .int .i64 ((i + 1 : Nat) : Int) } → K a' wq) :
    Code.wp Try.prog c (Exit.then K fun _ _ _ => False) a wq := by
  have HQ := hide hQ
  clear hQ
  obtain ⟨t', d'⟩ := a
  obtain ⟨v1, v2, v3, v4, v5, v6, v7⟩ := v
  simp only at h6v HQ
  subst h6v
  obtain ⟨hs1, hd1, q1, q2, q3, q4, q5, q6, q7⟩ := hF
  obtain ⟨u, hu⟩ := frame_ve t' hs1
  simp only at hd1 q1 q2 q3 q4 q5 q6 q7
  subst hu hd1
  have e1 : u 1 = v1 := q1
  have e2 : u 2 = v2 := q2
  have e3 : u 3 = v3 := q3
  have e4 : u 4 = v4 := q4
  have e5 : u 5 = v5 := q5
  have e6 : u 6 = .int .i64 (i : Int) := q6
  have e7 : u 7 = v7 := q7
  rw [e1, e2, e3, e4, e5, e6, e7]
  clear q1 e1 q2 e2 q3 e3 q4 e4 q5 e5 q6 e6 q7 e7 hs1
  simp only [Try.f7, Option.getD_some, regOf] at hc
  injection hc with hc
  subst hc
  generalize u 0 = u0
  generalize u 8 = u8
  generalize u 9 = u9
  generalize u 10 = u10
  generalize u 11 = u11
  generalize u 12 = u12
  generalize u 13 = u13
  generalize u 14 = u14
  generalize u 15 = u15
  generalize u 16 = u16
  generalize u 17 = u17
  generalize u 18 = u18
  generalize u 19 = u19
  generalize u 20 = u20
  generalize u 21 = u21
  generalize u 22 = u22
  generalize u 23 = u23
  generalize u 24 = u24
  generalize u 25 = u25
  generalize u 26 = u26
  generalize u 27 = u27
  generalize u 28 = u28
  generalize u 29 = u29
  generalize u 30 = u30
  generalize u 31 = u31
  generalize u 32 = u32
  generalize u 33 = u33
  generalize u 34 = u34
  generalize u 35 = u35
  generalize u 36 = u36
  generalize u 37 = u37
  generalize u 38 = u38
  generalize u 39 = u39
  generalize u 40 = u40
  generalize u 41 = u41
  generalize u 42 = u42
  generalize u 43 = u43
  generalize u 44 = u44
  generalize u 45 = u45
  generalize u 46 = u46
  generalize u 47 = u47
  generalize u 48 = u48
  generalize u 49 = u49
  clear u
  have hj1 : ((i + 1 : Nat) : Int) = (i : Int) + 1 := by omega
  rw [hj1] at HQ
  clear hj1
  go_wp2
  exact HQ.out _ ⟨rfl, rfl, rfl, rfl, rfl, rfl, rfl, rfl, rfl⟩
set_option maxHeartbeats 8000000 in
set_option maxRecDepth 100000 in
theorem ve_r8 {K : Act → World → Prop} {c : Code} (hc : regOf (Try.f7.body.getD .skip) 8 = some c) (a : Act) {v : Vve} {wq : World} {d n cp i k B oc b off : Nat} {mn ml : Int} {oo : Option Addr} {l : List IT} (hF : Fve a v) (h1v : v.v1 = .pointer (some ⟨d, 0, none⟩)) (h5v : v.v5 = .slice oo k oc) (h6v : v.v6 = .int .i64 (i : Int)) (hi : i < n) (hm : 0 ≤ mn ∧ mn < 7 ∧ 1 ≤ ml ∧ ml ≤ 9007199254740991) (hR : wq.ownsRow B tItem 3 (.slice oo k oc) k (itCells l)) (hk : k ≤ 1000) (hB : B ≤ wq.heap.size)
    (hS : ∀ W, Touch (fun j => (Value.slice oo k oc).ownBlock = some j) wq W → (fun w' => w'.cell? ⟨d, 1, none⟩ = some (.slice (some ⟨b, off, none⟩) n cp) ∧ w'.cell? ⟨b, off + i * 2, none⟩ = some (.int .i64 mn) ∧ w'.cell? ⟨b, off + i * 2 + 1, none⟩ = some (.int .i64 ml)) W)
    (hQ : ∀ a' w' oo' oc', Fve a' { v with v5 := .slice oo' (k + 2) oc' } → Touch (fun j => (Value.slice oo k oc).ownBlock = some j) wq w' → w'.ownsRow B tItem 3 (.slice oo' (k + 2) oc') (k + 2) (itCells (l ++ memItems ⟨mn, ml⟩)) → K a' w') :
    Code.wp Try.prog c (Exit.then K fun _ _ _ => False) a wq := by
  have HQ := hide hQ
  clear hQ
  obtain ⟨t', d'⟩ := a
  obtain ⟨v1, v2, v3, v4, v5, v6, v7⟩ := v
  simp only at h1v h5v h6v HQ
  subst h1v h5v h6v
  obtain ⟨hs1, hd1, q1, q2, q3, q4, q5, q6, q7⟩ := hF
  obtain ⟨u, hu⟩ := frame_ve t' hs1
  simp only at hd1 q1 q2 q3 q4 q5 q6 q7
  subst hu hd1
  have e1 : u 1 = .pointer (some ⟨d, 0, none⟩) := q1
  have e2 : u 2 = v2 := q2
  have e3 : u 3 = v3 := q3
  have e4 : u 4 = v4 := q4
  have e5 : u 5 = .slice oo k oc := q5
  have e6 : u 6 = .int .i64 (i : Int) := q6
  have e7 : u 7 = v7 := q7
  rw [e1, e2, e3, e4, e5, e6, e7]
  clear q1 e1 q2 e2 q3 e3 q4 e4 q5 e5 q6 e6 q7 e7 hs1
  simp only [Try.f7, Option.getD_some, regOf] at hc
  injection hc with hc
  subst hc
  generalize u 0 = u0
  generalize u 8 = u8
  generalize u 9 = u9
  generalize u 10 = u10
  generalize u 11 = u11
  generalize u 12 = u12
  generalize u 13 = u13
  generalize u 14 = u14
  generalize u 15 = u15
  generalize u 16 = u16
  generalize u 17 = u17
  generalize u 18 = u18
  generalize u 19 = u19
  generalize u 20 = u20
  generalize u 21 = u21
  generalize u 22 = u22
  generalize u 23 = u23
  generalize u 24 = u24
  generalize u 25 = u25
  generalize u 26 = u26
  generalize u 27 = u27
  generalize u 28 = u28
  generalize u 29 = u29
  generalize u 30 = u30
  generalize u 31 = u31
  generalize u 32 = u32
  generalize u 33 = u33
  generalize u 34 = u34
  generalize u 35 = u35
  generalize u 36 = u36
  generalize u 37 = u37
  generalize u 38 = u38
  generalize u 39 = u39
  generalize u 40 = u40
  generalize u 41 = u41
  generalize u 42 = u42
  generalize u 43 = u43
  generalize u 44 = u44
  generalize u 45 = u45
  generalize u 46 = u46
  generalize u 47 = u47
  generalize u 48 = u48
  generalize u 49 = u49
  clear u
  obtain ⟨i0, hi0, hz0, hz1, hz2⟩ := info_parts infoIt
  have RO := hide hR
  have HS := hide hS
  have hst := hS wq (Touch.refl _ wq)
  obtain ⟨c1, y0, y1⟩ := hst
  obtain ⟨m1, m2, m3, m4⟩ := hm
  have hi0' : (0 : Int) ≤ (i : Int) := by omega
  have hi1 : (i : Int) < (n : Int) := by omega
  have q1 : IntKind.u64.wrap mn = mn := u64_wrap (by omega) (by omega)
  have q2 : IntKind.u64.wrap ml = ml := u64_wrap (by omega) (by omega)
  have Q1 := hide q1
  have Q2 := hide q2
  clear hR hS q1 q2
  go_region_held_law (fun w' => w'.cell? ⟨d, 1, none⟩ = some (.slice (some ⟨b, off, none⟩) n cp) ∧ w'.cell? ⟨b, off + i * 2, none⟩ = some (.int .i64 mn) ∧ w'.cell? ⟨b, off + i * 2 + 1, none⟩ = some (.int .i64 ml)) (first | go_keep | exact KS.out | exact ⟨c1, y0, y1⟩) ((first | (refine step_append_d (by rfl) 43 (by rfl) _ _ 49 (by rfl) B tItem i0 _ 3 32 Try.underlying49 hi0 hz0 hz1 hz2 rfl (by omega) (.slice oo k oc) k (itCells l) (by rfl) (RO.out.drew.alloc _) ⟨wq.heap.size, 0, none⟩ 2 2 [.int .i64 1, .int .u64 (IntKind.u64.wrap mn), .string ⟨#[]⟩, .int .i64 3, .int .u64 (IntKind.u64.wrap ml), .string ⟨#[]⟩] (by rfl) (by rfl) (World.news_of_block (cs := #[.int .i64 1, .int .u64 (IntKind.u64.wrap mn), .string ⟨#[]⟩, .int .i64 3, .int .u64 (IntKind.u64.wrap ml), .string ⟨#[]⟩]) (t := tItem) (fr := (0, 0)) (heap_alloc_new wq.drew _)) (by simp [Value.oneCell']) (by unfold maxLen; omega) (by omega) (by simp; omega) ?_; intro a4 c4 w4 hown4 hgrow4 hloc4; have T4 : Hid (Touch (fun j => (Value.slice oo k oc).ownBlock = some j) wq w4) := (((Touch.refl _ wq).alloc _).drew).grown hgrow4 (fun j e _ => e); have KS : Hid ((fun w' => w'.cell? ⟨d, 1, none⟩ = some (.slice (some ⟨b, off, none⟩) n cp) ∧ w'.cell? ⟨b, off + i * 2, none⟩ = some (.int .i64 mn) ∧ w'.cell? ⟨b, off + i * 2 + 1, none⟩ = some (.int .i64 ml)) w4) := HS.out w4 T4.out)))
  all_goals exact HQ.out _ _ a4 c4 ⟨rfl, rfl, rfl, rfl, rfl, rfl, rfl, rfl, rfl⟩ T4.out (by rw [Q1.out, Q2.out] at hown4; rw [itCells_append]; exact hown4)
set_option maxHeartbeats 8000000 in
set_option maxRecDepth 100000 in
theorem ve_r9 {K : Act → World → Prop} {c : Code} (hc : regOf (Try.f7.body.getD .skip) 9 = some c) (a : Act) {v : Vve} {wq : World} {k oc : Nat} {oo : Option Addr} {cd : ByteArray} {z : Int} (hF : Fve a v) (h5v : v.v5 = .slice oo k oc) (hE : Calls Try.prog 21 #[.slice oo k oc] wq fun e w' => e = .returned (.tuple #[.string cd, .int .i64 z]) ∧ Below wq.heap.size wq w')
    (hQ : ∀ a' w', Fve a' { v with v7 := .string cd } → Below wq.heap.size wq w' → K a' w') :
    Code.wp Try.prog c (Exit.then K fun _ _ _ => False) a wq := by
  have HQ := hide hQ
  clear hQ
  obtain ⟨t', d'⟩ := a
  obtain ⟨v1, v2, v3, v4, v5, v6, v7⟩ := v
  simp only at h5v HQ
  subst h5v
  obtain ⟨hs1, hd1, q1, q2, q3, q4, q5, q6, q7⟩ := hF
  obtain ⟨u, hu⟩ := frame_ve t' hs1
  simp only at hd1 q1 q2 q3 q4 q5 q6 q7
  subst hu hd1
  have e1 : u 1 = v1 := q1
  have e2 : u 2 = v2 := q2
  have e3 : u 3 = v3 := q3
  have e4 : u 4 = v4 := q4
  have e5 : u 5 = .slice oo k oc := q5
  have e6 : u 6 = v6 := q6
  have e7 : u 7 = v7 := q7
  rw [e1, e2, e3, e4, e5, e6, e7]
  clear q1 e1 q2 e2 q3 e3 q4 e4 q5 e5 q6 e6 q7 e7 hs1
  simp only [Try.f7, Option.getD_some, regOf] at hc
  injection hc with hc
  subst hc
  generalize u 0 = u0
  generalize u 8 = u8
  generalize u 9 = u9
  generalize u 10 = u10
  generalize u 11 = u11
  generalize u 12 = u12
  generalize u 13 = u13
  generalize u 14 = u14
  generalize u 15 = u15
  generalize u 16 = u16
  generalize u 17 = u17
  generalize u 18 = u18
  generalize u 19 = u19
  generalize u 20 = u20
  generalize u 21 = u21
  generalize u 22 = u22
  generalize u 23 = u23
  generalize u 24 = u24
  generalize u 25 = u25
  generalize u 26 = u26
  generalize u 27 = u27
  generalize u 28 = u28
  generalize u 29 = u29
  generalize u 30 = u30
  generalize u 31 = u31
  generalize u 32 = u32
  generalize u 33 = u33
  generalize u 34 = u34
  generalize u 35 = u35
  generalize u 36 = u36
  generalize u 37 = u37
  generalize u 38 = u38
  generalize u 39 = u39
  generalize u 40 = u40
  generalize u 41 = u41
  generalize u 42 = u42
  generalize u 43 = u43
  generalize u 44 = u44
  generalize u 45 = u45
  generalize u 46 = u46
  generalize u 47 = u47
  generalize u 48 = u48
  generalize u 49 = u49
  clear u
  have HE := hide hE
  clear hE
  go_wp2_with fail
  refine HE.out.mono ?_
  rintro e w1 ⟨rfl, b1⟩
  have B1 := hide b1
  clear b1 HE
  go_wp2
  exact HQ.out _ _ ⟨rfl, rfl, rfl, rfl, rfl, rfl, rfl, rfl, rfl⟩ B1.out
set_option maxHeartbeats 8000000 in
set_option maxRecDepth 100000 in
theorem ve_r10 {K : Act → World → Prop} {c : Code} (hc : regOf (Try.f7.body.getD .skip) 10 = some c) (a : Act) {v : Vve} {wq : World} {cd : ByteArray} (hF : Fve a v) (h7v : v.v7 = .string cd) (hQ : ∀ a', Fve a' { v with v2 := .string cd, v3 := .bool true } → K a' wq) :
    Code.wp Try.prog c (Exit.then K fun _ _ _ => False) a wq := by
  have HQ := hide hQ
  clear hQ
  obtain ⟨t', d'⟩ := a
  obtain ⟨v1, v2, v3, v4, v5, v6, v7⟩ := v
  simp only at h7v HQ
  subst h7v
  obtain ⟨hs1, hd1, q1, q2, q3, q4, q5, q6, q7⟩ := hF
  obtain ⟨u, hu⟩ := frame_ve t' hs1
  simp only at hd1 q1 q2 q3 q4 q5 q6 q7
  subst hu hd1
  have e1 : u 1 = v1 := q1
  have e2 : u 2 = v2 := q2
  have e3 : u 3 = v3 := q3
  have e4 : u 4 = v4 := q4
  have e5 : u 5 = v5 := q5
  have e6 : u 6 = v6 := q6
  have e7 : u 7 = .string cd := q7
  rw [e1, e2, e3, e4, e5, e6, e7]
  clear q1 e1 q2 e2 q3 e3 q4 e4 q5 e5 q6 e6 q7 e7 hs1
  simp only [Try.f7, Option.getD_some, regOf] at hc
  injection hc with hc
  subst hc
  generalize u 0 = u0
  generalize u 8 = u8
  generalize u 9 = u9
  generalize u 10 = u10
  generalize u 11 = u11
  generalize u 12 = u12
  generalize u 13 = u13
  generalize u 14 = u14
  generalize u 15 = u15
  generalize u 16 = u16
  generalize u 17 = u17
  generalize u 18 = u18
  generalize u 19 = u19
  generalize u 20 = u20
  generalize u 21 = u21
  generalize u 22 = u22
  generalize u 23 = u23
  generalize u 24 = u24
  generalize u 25 = u25
  generalize u 26 = u26
  generalize u 27 = u27
  generalize u 28 = u28
  generalize u 29 = u29
  generalize u 30 = u30
  generalize u 31 = u31
  generalize u 32 = u32
  generalize u 33 = u33
  generalize u 34 = u34
  generalize u 35 = u35
  generalize u 36 = u36
  generalize u 37 = u37
  generalize u 38 = u38
  generalize u 39 = u39
  generalize u 40 = u40
  generalize u 41 = u41
  generalize u 42 = u42
  generalize u 43 = u43
  generalize u 44 = u44
  generalize u 45 = u45
  generalize u 46 = u46
  generalize u 47 = u47
  generalize u 48 = u48
  generalize u 49 = u49
  clear u
  go_wp2
  exact HQ.out _ ⟨rfl, rfl, rfl, rfl, rfl, rfl, rfl, rfl, rfl⟩
end Go.Proofs.Ytjnbfopipmglgaa
/-
  carillonref12's Encode, as it runs (mkve.py).
-/
namespace Go.Proofs.Ytjnbfopipmglgaa
open Go.RowKit

attribute [local go_sem ↓] Go.wp_at_zero Go.wp_at_succ
set_option linter.unusedSimpArgs false
set_option linter.unusedVariables false
attribute [local go_sem ↓] Go.wp_at_zero Go.wp_at_succ
theorem ve_ret {w W : World} {a : Act} {v : Vve} {cd : ByteArray} {r : Bool} (hF : Fve a v) (h2 : v.v2 = .string cd) (h3 : v.v3 = .bool r) (hB : Below w.heap.size w W) {cd' : ByteArray} {r' : Bool} (h : cd = cd') (h' : r = r') :
    bodyPost Try.prog Try.f7 (fun e w' => e = .returned (.tuple #[.string cd', .bool r']) ∧ Below w.heap.size w w') .ret a W := by
  subst h h'
  have g2 := slot_get (hF.s2.trans h2)
  have g3 := slot_get (hF.s3.trans h3)
  refine bodyPost_ret (v := .tuple #[.string cd, .bool r]) ?_ hF.defers ⟨rfl, hB⟩
  simp [results, Try.results7, go_sem, g2, g3]
/-- What the document's codec answers. -/
abbrev EncSays : Prop := ∀ (ao : Option Addr) (cap : Nat) (l : List IT) (w : World), ItsAt w ao l → (∀ x ∈ l, x.ok) → l.length ≤ maxLen → Calls Try.prog 21 #[.slice ao l.length cap] w fun e w' => e = .returned (.tuple #[.string ⟨(K.encF l).1.toArray⟩, .int .i64 (K.encF l).2]) ∧ Below w.heap.size w w'
theorem itemsV_ok {v : VW} (h : v.right) : ∀ x ∈ itemsV v, x.ok := by
  have hbig : big = 9007199254740991 := rfl
  intro x hx
  rcases List.mem_cons.1 hx with rfl | hx
  · have h1 := h.1
    have h2 := h.2.1
    exact ⟨by show (-9223372036854775808 : Int) ≤ 3; omega, by show (3 : Int) ≤ _; omega, by show 0 ≤ v.num; omega, by show v.num < _; omega, by show (0 : Nat) ≤ _; omega⟩
  · obtain ⟨m, hm, hx⟩ := List.mem_flatMap.1 hx
    obtain ⟨r1, r2, r3, r4⟩ := mem_right h m hm
    simp only [memItems, List.mem_cons, List.not_mem_nil, or_false] at hx
    rcases hx with rfl | rfl
    · exact ⟨by show (-9223372036854775808 : Int) ≤ 1; omega, by show (1 : Int) ≤ _; omega, r1, by show m.node < _; omega, by show (0 : Nat) ≤ _; omega⟩
    · exact ⟨by show (-9223372036854775808 : Int) ≤ 3; omega, by show (3 : Int) ≤ _; omega, by show 0 ≤ m.life; omega, by show m.life < _; omega, by show (0 : Nat) ≤ _; omega⟩
def itemsUp (v : VW) (i : Nat) : List IT := ⟨3, v.num, ⟨#[]⟩⟩ :: (v.mem.take i).flatMap memItems
theorem itemsUp_succ (v : VW) (i : Nat) (hi : i < v.mem.length) : itemsUp v (i + 1) = itemsUp v i ++ memItems v.mem[i] := by
  unfold itemsUp
  rw [List.take_add_one, List.getElem?_eq_getElem hi, List.flatMap_append]
  simp
theorem itemsUp_all (v : VW) : itemsUp v v.mem.length = itemsV v := by
  unfold itemsUp itemsV
  rw [List.take_length]
set_option maxHeartbeats 16000000 in
set_option maxRecDepth 100000 in
theorem rencV (HE : EncSays) (x : VW) (ao : Option Addr) (cp : Nat) (w : World) (hM : MemsAt w ao x.mem) :
    Calls Try.prog 7 #[x.v ao cp] w fun e w' => e = .returned (.tuple #[.string ⟨(if x.right then codeV x else []).toArray⟩, .bool (decide x.right)]) ∧ Below w.heap.size w w' := by
  have HM := hide hM
  have HEE := hide HE
  obtain ⟨T, hT⟩ : ∃ T : ByteArray, ⟨(if x.right then codeV x else []).toArray⟩ = T := ⟨_, rfl⟩
  rw [hT]
  have HT := hide hT
  obtain ⟨rr, hr⟩ : ∃ r, decide x.right = r := ⟨_, rfl⟩
  rw [hr]
  have HR := hide hr
  have X0 := hide (heap_alloc_new w (.cells #[.int .i64 x.num, .slice ao x.mem.length cp] tView))
  have HB := hide ((Below.refl w.heap.size w).alloc (Nat.le_refl _) (.cells #[.int .i64 x.num, .slice ao x.mem.length cp] tView))
  clear hM hT hr HE
  simp only [VW.v]
  go_enter Try.func7, Try.ntmps7
  go_upto_region 1 with fail
  rename_i Ko hKo
  generalize w.alloc (.cells #[.int .i64 x.num, .slice ao x.mem.length cp] tView) = w1 at *
  refine reg_mono (ve_r1 (x := x) (by kernel_rfl) _ (v := ⟨_, _, _, _, _, _, _⟩) ⟨rfl, rfl, rfl, rfl, rfl, rfl, rfl, rfl, rfl⟩ rfl X0.out (HM.out.below HB.out) ?_)
  intro a2 w2 F2 b2
  refine hKo _ _ ?_
  have D2 := (b2.block _ (heap_lt X0.out)).trans X0.out
  have B2 := HB.out.trans (b2.mono HB.out.size)
  refine wp_seq (wp_seq (reg_mono (ve_r2 (by kernel_rfl) _ F2 rfl ?_)))
  intro a3 F3 h12
  by_cases c1 : x.right
  · rw [decide_eq_true c1] at h12
    refine wp_cond_false h12 (wp_skip ?_)
    show Code.wp _ _ _ _ _
    have hnum : 1 ≤ x.num ∧ x.num ≤ 9007199254740991 := ⟨c1.1, c1.2.1⟩
    have hlen : x.mem.length ≤ 7 := c1.2.2.2.1
    refine wp_seq (reg_mono (ve_r4 (by kernel_rfl) _ F3 rfl D2 hnum ?_))
    intro a4 F4
    have R4 : (w2.alloc (.cells #[.int .i64 3, .int .u64 x.num, .string ⟨#[]⟩] tItem)).ownsRow w.heap.size tItem 3 (.slice (some ⟨w2.heap.size, 0, none⟩) (1 + 2 * 0) 1) (1 + 2 * 0) (itCells (itemsUp x 0)) :=
      ⟨rfl, .inr ⟨w2.heap.size, 1, _, rfl, B2.size, heap_alloc_new w2 _, by omega, by unfold maxLen; omega, rfl, rfl⟩⟩
    have D4 := box_alloc D2 (.cells #[.int .i64 3, .int .u64 x.num, .string ⟨#[]⟩] tItem)
    have B4 := B2.alloc B2.size (.cells #[.int .i64 3, .int .u64 x.num, .string ⟨#[]⟩] tItem)
    generalize w2.alloc (.cells #[.int .i64 3, .int .u64 x.num, .string ⟨#[]⟩] tItem) = w4 at *
    refine wp_seq (wp_seq (reg_mono (ve_r5 (by kernel_rfl) _ F4 ?_)))
    intro a5 F5
    refine wp_block (wp_loop (fun a W => ∃ i v oo oc, i ≤ x.mem.length ∧ Fve a v ∧ v.v1 = .pointer (some ⟨w.heap.size, 0, none⟩) ∧ v.v5 = .slice oo (1 + 2 * i) oc ∧ v.v6 = .int .i64 (i : Int) ∧ W.heap[w.heap.size]? = some (.cells #[.int .i64 x.num, .slice ao x.mem.length cp] tView (0, 0)) ∧ W.ownsRow w.heap.size tItem 3 (.slice oo (1 + 2 * i) oc) (1 + 2 * i) (itCells (itemsUp x i)) ∧ Below w.heap.size w W) (fun a _ => x.mem.length - (intOf (a.tmps.getD 6 undef)).toNat) ⟨0, _, _, _, Nat.zero_le _, F5, rfl, rfl, rfl, D4, R4, B4⟩ ?_)
    clear F2 F3 F4 F5 h12
    rintro a6 w6 ⟨i, v6, oo, oc, hi, F6, g1, g5, g6, D6, R6, B6⟩
    have hm6 : (intOf (a6.tmps.getD 6 undef)).toNat = i := by rw [F6.s6, g6]; simp [intOf]
    refine wp_seq (wp_seq (reg_mono (ve_r6 (by kernel_rfl) _ F6 g1 g6 D6 ?_)))
    intro a7 F7 h22
    by_cases hlt : i < x.mem.length
    · rw [decide_eq_true hlt] at h22
      refine wp_cond_true h22 (wp_skip ?_)
      show Code.wp _ _ _ _ _
      obtain ⟨b, off, hao, hb, y0, y1⟩ := HM.out i hlt
      refine wp_seq (wp_block (reg_all (ve_r8 (mn := x.mem[i].node) (ml := x.mem[i].life) (b := b) (off := off) (n := x.mem.length) (cp := cp) (by kernel_rfl) _ F7 g1 g5 g6 hlt (mem_right c1 _ (List.getElem_mem hlt)) R6 (by omega) B6.size ?_ ?_)))
      · intro W t
        have tb : Below w.heap.size w6 W := t.toBelow B6.size fun k hk e => by have := (R6.lt k e).1; omega
        have Bw := B6.trans tb
        have DW := t.at D6 fun e => it_not R6 e D6 rfl
        refine ⟨?_, (Bw.cell (p := ⟨b, _, none⟩) hb).trans y0, (Bw.cell (p := ⟨b, _, none⟩) hb).trans y1⟩
        rw [← hao]
        exact box_cell DW 1 rfl
      · intro a8 w8 oo8 oc8 F8 t8 R8
        show Code.wp _ _ _ _ _
        have tb : Below w.heap.size w6 w8 := t8.toBelow B6.size fun k hk e => by have := (R6.lt k e).1; omega
        refine reg_all (ve_r7 (by kernel_rfl) _ F8 g6 (by omega) ?_)
        intro a9 F9
        refine ⟨⟨i + 1, _, oo8, oc8, by omega, F9, g1, ?_, rfl, t8.at D6 fun e => it_not R6 e D6 rfl, ?_, B6.trans tb⟩, ?_⟩
        · show Value.slice oo8 (1 + 2 * i + 2) oc8 = _
          rw [show 1 + 2 * (i + 1) = 1 + 2 * i + 2 by omega]
        · rw [itemsUp_succ x i hlt, show 1 + 2 * (i + 1) = 1 + 2 * i + 2 by omega]
          exact R8
        · have hm9 : (intOf (a9.tmps.getD 6 undef)).toNat = i + 1 := by rw [F9.s6]; simp only [intOf]; omega
          rw [hm9, hm6]
          omega
    rw [decide_eq_false hlt] at h22
    refine wp_cond_false h22 (wp_exit ?_)
    show Code.wp _ _ _ _ _
    obtain rfl : i = x.mem.length := by omega
    rw [itemsUp_all] at R6
    have hle : (itemsV x).length = 1 + 2 * x.mem.length := itemsV_len x
    have hE := HEE.out oo oc (itemsV x) w6 (its_of_row R6 hle) (itemsV_ok c1) (by rw [hle]; unfold maxLen; omega)
    rw [encV c1, hle] at hE
    refine wp_seq (reg_mono (ve_r9 (by kernel_rfl) _ F7 g5 hE ?_))
    intro a8 w8 F8 b8
    refine wp_seq (reg_mono (ve_r10 (by kernel_rfl) _ F8 rfl ?_))
    intro a9 F9
    refine wp_ret ?_
    exact ve_ret F9 rfl rfl (B6.trans (b8.mono B6.size)) (by rw [← HT.out, if_pos c1]) (by rw [← HR.out, decide_eq_true c1])
  · rw [decide_eq_false c1] at h12
    refine wp_cond_true h12 (wp_seq (reg_mono (ve_r3 (by kernel_rfl) _ F3 ?_)))
    intro a4 F4
    refine wp_ret ?_
    exact ve_ret F4 rfl rfl B2 (by rw [← HT.out, if_neg c1]) (by rw [← HR.out, decide_eq_false c1])
end Go.Proofs.Ytjnbfopipmglgaa
