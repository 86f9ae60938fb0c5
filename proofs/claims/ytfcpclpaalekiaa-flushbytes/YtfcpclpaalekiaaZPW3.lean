/-
  The program's RightMember, Majority, Common, allRight (mkpw.py)
-/
import Derived.Test.YtfcpclpaalekiaaZV3
import Derived.Test.YtfcpclpaalekiaaZVR1b
import Derived.RangeFuncNested
import Derived.RangeFuncBound
import Derived.RangeFuncCalls
import Derived.RangeFuncLeaves
import Derived.Shelf.Abstract
import Derived.Shelf.RegionOpen
import Derived.WalkKit
import Derived.OwnWalkIn
import Derived.TacticsInMore
import Derived.LoopNIn
import Derived.LoopIn
import Derived.Test.YtfcpclpaalekiaaZVM
import Derived.Test.YtfcpclpaalekiaaProg
import Derived.Laws.StructEq
import Derived.LoopTactic
import Derived.KernelRfl
namespace Go.Proofs.Ytfcpclpaalekiaa
open Go.RowKit
set_option maxHeartbeats 8000000
set_option maxRecDepth 100000
attribute [local go_sem ↓] Go.wp_at_zero Go.wp_at_succ
set_option linter.unusedSimpArgs false
set_option linter.unusedVariables false
abbrev IT := K.It
abbrev tItem : TypeId := 66
theorem infoIt : (Try.prog.info? tItem).map (fun i => (i.zero, i.size, i.bytes)) = some (some (.agg #[.int .i64 0, .int .u64 0, .string ⟨#[]⟩]), 3, 32) := by kernel_rfl
theorem u64_wrap {n : Int} (h0 : 0 ≤ n) (h1 : n < 18446744073709551616) : IntKind.u64.wrap n = n := by
  simp only [IntKind.wrap, IntKind.bits, IntKind.signed]
  simp
  omega
def itCells (l : List K.It) : List Value := l.flatMap fun x => [.int .i64 x.k, .int .u64 x.n, .string x.s]
theorem itCells_append (a b : List K.It) : itCells (a ++ b) = itCells a ++ itCells b := by simp [itCells]
theorem itCells_get (L : List K.It) (i j : Nat) (hi : i < L.length) (hj : j < 3) : (itCells L)[i * 3 + j]? = [Value.int .i64 L[i].k, .int .u64 L[i].n, .string L[i].s][j]? := by
  induction L generalizing i with
  | nil => cases hi
  | cons a L ih =>
    have e : itCells (a :: L) = [Value.int .i64 a.k, .int .u64 a.n, .string a.s] ++ itCells L := rfl
    rw [e]
    cases i with
    | zero => rw [List.getElem?_append_left (by simp; omega)]; simp
    | succ i =>
      rw [List.getElem?_append_right (by simp; omega)]
      have := ih i (by simpa using hi)
      simp only [List.getElem_cons_succ]
      rw [← this]
      congr 1
      simp
      omega
def ItsAt (w : World) (ao : Option Addr) (l : List K.It) : Prop :=
  ∀ i (h : i < l.length), ∃ b off, ao = some ⟨b, off, none⟩ ∧ b < w.heap.size ∧ w.cell? ⟨b, off + i * 3, none⟩ = some (.int .i64 l[i].k) ∧ w.cell? ⟨b, off + i * 3 + 1, none⟩ = some (.int .u64 l[i].n) ∧ w.cell? ⟨b, off + i * 3 + 2, none⟩ = some (.string l[i].s)
theorem its_of_row {w : World} {B : Nat} {ao : Option Addr} {n cp : Nat} {L : List K.It} (h : w.ownsRow B tItem 3 (.slice ao n cp) n (itCells L)) (hn : L.length = n) : ItsAt w ao L := by
  subst hn
  intro i hi
  rcases h.2 with ⟨_, h2⟩ | ⟨g, cap, cur, hv, hg, hh, _⟩
  · omega
  · injection hv with h1 _ h3
    subst h1
    have hc := h.cells (g := g) rfl
    refine ⟨g, 0, rfl, heap_lt hh, ?_, ?_, ?_⟩
    · have := hc (i * 3) (.int .i64 L[i].k) (by rw [show i * 3 = i * 3 + 0 by omega, itCells_get L i 0 hi (by omega)]; rfl)
      rw [Addr.add_lit] at this
      simpa using this
    · have := hc (i * 3 + 1) (.int .u64 L[i].n) (by rw [itCells_get L i 1 hi (by omega)]; rfl)
      rw [Addr.add_lit] at this
      simpa using this
    · have := hc (i * 3 + 2) (.string L[i].s) (by rw [itCells_get L i 2 hi (by omega)]; rfl)
      rw [Addr.add_lit] at this
      simpa using this
theorem it_not {W : World} {B n : Nat} {v : Value} {xs : List Value} (h : W.ownsRow B tItem 3 v n xs) {j k : Nat} (hj : v.ownBlock = some j) {cs : Array Value} (hk : W.heap[k]? = some (.cells cs tView (0, 0))) : j ≠ k := fun e => by
  subst e
  rcases h.2 with ⟨rfl, _⟩ | ⟨g, cap, cur, rfl, _, hh, _⟩
  · cases hj
  · obtain rfl : g = j := Option.some.inj hj
    rw [hk] at hh
    injection hh with hh
    injection hh with _ hh _
    exact absurd hh (by decide)
theorem frame_ve (t : Array Value) (h : t.size = 50) : ∃ u : Nat → Value, t = List.toArray (u 0 :: u 1 :: u 2 :: u 3 :: u 4 :: u 5 :: u 6 :: u 7 :: u 8 :: u 9 :: u 10 :: u 11 :: u 12 :: u 13 :: u 14 :: u 15 :: u 16 :: u 17 :: u 18 :: u 19 :: u 20 :: u 21 :: u 22 :: u 23 :: u 24 :: u 25 :: u 26 :: u 27 :: u 28 :: u 29 :: u 30 :: u 31 :: u 32 :: u 33 :: u 34 :: u 35 :: u 36 :: u 37 :: u 38 :: u 39 :: u 40 :: u 41 :: u 42 :: u 43 :: u 44 :: u 45 :: u 46 :: u 47 :: u 48 :: u 49 :: []) := by
  refine ⟨fun i => t.getD i undef, ?_⟩
  refine Eq.trans (b := ((List.range 50).map fun i => t.getD i undef).toArray) ?_ rfl
  apply Array.ext
  · simp [h]
  · intro k h1 h2
    simp [Array.getD, h1]
structure Vve where
  v1 : Value
  v2 : Value
  v3 : Value
  v4 : Value
  v5 : Value
  v6 : Value
  v7 : Value
structure Fve (a : Act) (v : Vve) : Prop where
  size : a.tmps.size = 50
  defers : a.defers = []
  s1 : a.tmps.getD 1 undef = v.v1
  s2 : a.tmps.getD 2 undef = v.v2
  s3 : a.tmps.getD 3 undef = v.v3
  s4 : a.tmps.getD 4 undef = v.v4
  s5 : a.tmps.getD 5 undef = v.v5
  s6 : a.tmps.getD 6 undef = v.v6
  s7 : a.tmps.getD 7 undef = v.v7
theorem frx_ve {a : Act} {v1 v2 v3 v4 v5 v6 v7 : Value} (h : Fve a ⟨v1, v2, v3, v4, v5, v6, v7⟩) : ∃ u : Nat → Value, a = ⟨List.toArray (u 0 :: v1 :: v2 :: v3 :: v4 :: v5 :: v6 :: v7 :: u 8 :: u 9 :: u 10 :: u 11 :: u 12 :: u 13 :: u 14 :: u 15 :: u 16 :: u 17 :: u 18 :: u 19 :: u 20 :: u 21 :: u 22 :: u 23 :: u 24 :: u 25 :: u 26 :: u 27 :: u 28 :: u 29 :: u 30 :: u 31 :: u 32 :: u 33 :: u 34 :: u 35 :: u 36 :: u 37 :: u 38 :: u 39 :: u 40 :: u 41 :: u 42 :: u 43 :: u 44 :: u 45 :: u 46 :: u 47 :: u 48 :: u 49 :: []), []⟩ := by
  obtain ⟨t', d'⟩ := a
  obtain ⟨hs, hd, q1, q2, q3, q4, q5, q6, q7⟩ := h
  obtain ⟨u, hu⟩ := frame_ve t' hs
  simp only at hd q1 q2 q3 q4 q5 q6 q7
  subst hu hd
  have e1 : u 1 = v1 := q1
  have e2 : u 2 = v2 := q2
  have e3 : u 3 = v3 := q3
  have e4 : u 4 = v4 := q4
  have e5 : u 5 = v5 := q5
  have e6 : u 6 = v6 := q6
  have e7 : u 7 = v7 := q7
  refine ⟨u, ?_⟩
  rw [e1, e2, e3, e4, e5, e6, e7]
theorem ve_r1 {K : Act → World → Prop} {c : Code} (hc : regOf (Try.f31.body.getD .skip) 1 = some c) (a : Act) {v : Vve} {wq : World} {d cp : Nat} {x : VW} {ao : Option Addr} (hF : Fve a v) (h1v : v.v1 = .pointer (some ⟨d, 0, none⟩)) (hD : wq.heap[d]? = some (.cells #[.int .i64 x.num, .slice ao x.mem.length cp] tView (0, 0))) (hM : MemsAt wq ao x.mem)
    (hQ : ∀ a' w', Fve a' { v with v4 := .bool (decide x.right) } → Below wq.heap.size wq w' → K a' w') :
    Code.wp Try.prog c (Exit.then K fun _ _ _ => False) a wq := by
  have HQ := hide hQ
  clear hQ
  obtain ⟨v1, v2, v3, v4, v5, v6, v7⟩ := v
  simp only at h1v HQ
  subst h1v
  obtain ⟨u, rfl⟩ := frx_ve hF
  clear hF
  simp only [Try.f31, Option.getD_some, regOf] at hc
  injection hc with hc
  subst hc
  have c0 := box_cell hD 0 rfl
  have c1 := box_cell hD 1 rfl
  have HR := hide (rright x ao cp wq hM)
  clear hD hM
  simp only [VW.v] at HR
  generalize decide x.right = r at *
  generalize x.mem.length = n at *
  generalize x.num = k at *
  go_wp2_with fail
  refine HR.out.mono ?_
  rintro e w1 ⟨rfl, b1⟩
  have B1 := hide b1
  clear b1 HR
  go_wp2
  exact HQ.out _ _ ⟨rfl, rfl, rfl, rfl, rfl, rfl, rfl, rfl, rfl⟩ B1.out
theorem ve_r2 {K : Act → World → Prop} {c : Code} (hc : regOf (Try.f31.body.getD .skip) 2 = some c) (a : Act) {v : Vve} {wq : World} {r : Bool} (hF : Fve a v) (h4v : v.v4 = .bool r) (hQ : ∀ a', Fve a' v → a'.tmps.getD 12 undef = .bool (!r) → K a' wq) :
    Code.wp Try.prog c (Exit.then K fun _ _ _ => False) a wq := by
  have HQ := hide hQ
  clear hQ
  obtain ⟨v1, v2, v3, v4, v5, v6, v7⟩ := v
  simp only at h4v HQ
  subst h4v
  obtain ⟨u, rfl⟩ := frx_ve hF
  clear hF
  simp only [Try.f31, Option.getD_some, regOf] at hc
  injection hc with hc
  subst hc
  go_wp2
  exact HQ.out _ ⟨rfl, rfl, rfl, rfl, rfl, rfl, rfl, rfl, rfl⟩ rfl
theorem ve_r3 {K : Act → World → Prop} {c : Code} (hc : regOf (Try.f31.body.getD .skip) 3 = some c) (a : Act) {v : Vve} {wq : World}  (hF : Fve a v) (hQ : ∀ a', Fve a' { v with v2 := .string ⟨#[]⟩, v3 := .bool false } → K a' wq) :
    Code.wp Try.prog c (Exit.then K fun _ _ _ => False) a wq := by
  have HQ := hide hQ
  clear hQ
  obtain ⟨v1, v2, v3, v4, v5, v6, v7⟩ := v
  obtain ⟨u, rfl⟩ := frx_ve hF
  clear hF
  simp only [Try.f31, Option.getD_some, regOf] at hc
  injection hc with hc
  subst hc
  go_wp2
  exact HQ.out _ ⟨rfl, rfl, rfl, rfl, rfl, rfl, rfl, rfl, rfl⟩
theorem ve_r4 {K : Act → World → Prop} {c : Code} (hc : regOf (Try.f31.body.getD .skip) 4 = some c) (a : Act) {v : Vve} {wq : World} {d n cp : Nat} {num : Int} {ao : Option Addr} (hF : Fve a v) (h1v : v.v1 = .pointer (some ⟨d, 0, none⟩)) (hD : wq.heap[d]? = some (.cells #[.int .i64 num, .slice ao n cp] tView (0, 0))) (hn : 1 ≤ num ∧ num ≤ 9007199254740991)
    (hQ : ∀ a', Fve a' { v with v5 := .slice (some ⟨wq.heap.size, 0, none⟩) 1 1 } → K a' (wq.alloc (.cells #[.int .i64 3, .int .u64 num, .string ⟨#[]⟩] tItem))) :
    Code.wp Try.prog c (Exit.then K fun _ _ _ => False) a wq := by
  have HQ := hide hQ
  clear hQ
  obtain ⟨v1, v2, v3, v4, v5, v6, v7⟩ := v
  simp only at h1v HQ
  subst h1v
  obtain ⟨u, rfl⟩ := frx_ve hF
  clear hF
  simp only [Try.f31, Option.getD_some, regOf] at hc
  injection hc with hc
  subst hc
  generalize u 0 = u0
  generalize u 8 = u8
  generalize u 9 = u9
  generalize u 10 = u10
  generalize u 11 = u11
  generalize u 12 = u12
  generalize u 13 = u13
  generalize u 14 = u14
  generalize u 15 = u15
  generalize u 16 = u16
  generalize u 17 = u17
  generalize u 18 = u18
  generalize u 19 = u19
  generalize u 20 = u20
  generalize u 21 = u21
  generalize u 22 = u22
  generalize u 23 = u23
  generalize u 24 = u24
  generalize u 25 = u25
  generalize u 26 = u26
  generalize u 27 = u27
  generalize u 28 = u28
  generalize u 29 = u29
  generalize u 30 = u30
  generalize u 31 = u31
  generalize u 32 = u32
  generalize u 33 = u33
  generalize u 34 = u34
  generalize u 35 = u35
  generalize u 36 = u36
  generalize u 37 = u37
  generalize u 38 = u38
  generalize u 39 = u39
  generalize u 40 = u40
  generalize u 41 = u41
  generalize u 42 = u42
  generalize u 43 = u43
  generalize u 44 = u44
  generalize u 45 = u45
  generalize u 46 = u46
  generalize u 47 = u47
  generalize u 48 = u48
  generalize u 49 = u49
  clear u
  have c0 := box_cell hD 0 rfl
  clear hD
  obtain ⟨hn1, hn2⟩ := hn
  have hn0 : 0 ≤ num := by omega
  go_wp2
  exact HQ.out _ ⟨rfl, rfl, rfl, rfl, rfl, rfl, rfl, rfl, rfl⟩
theorem ve_r5 {K : Act → World → Prop} {c : Code} (hc : regOf (Try.f31.body.getD .skip) 5 = some c) (a : Act) {v : Vve} {wq : World}  (hF : Fve a v) (hQ : ∀ a', Fve a' { v with v6 := .int .i64 ((0 : Nat) : Int) } → K a' wq) :
    Code.wp Try.prog c (Exit.then K fun _ _ _ => False) a wq := by
  have HQ := hide hQ
  clear hQ
  obtain ⟨v1, v2, v3, v4, v5, v6, v7⟩ := v
  obtain ⟨u, rfl⟩ := frx_ve hF
  clear hF
  simp only [Try.f31, Option.getD_some, regOf] at hc
  injection hc with hc
  subst hc
  go_wp2
  exact HQ.out _ ⟨rfl, rfl, rfl, rfl, rfl, rfl, rfl, rfl, rfl⟩
theorem ve_r6 {K : Act → World → Prop} {c : Code} (hc : regOf (Try.f31.body.getD .skip) 6 = some c) (a : Act) {v : Vve} {wq : World} {d n cp i : Nat} {num : Int} {ao : Option Addr} (hF : Fve a v) (h1v : v.v1 = .pointer (some ⟨d, 0, none⟩)) (h6v : v.v6 = .int .i64 (i : Int)) (hD : wq.heap[d]? = some (.cells #[.int .i64 num, .slice ao n cp] tView (0, 0)))
    (hQ : ∀ a', Fve a' v → a'.tmps.getD 22 undef = .bool (decide (i < n)) → K a' wq) :
    Code.wp Try.prog c (Exit.then K fun _ _ _ => False) a wq := by
  have HQ := hide hQ
  clear hQ
  obtain ⟨v1, v2, v3, v4, v5, v6, v7⟩ := v
  simp only at h1v h6v HQ
  subst h1v h6v
  obtain ⟨u, rfl⟩ := frx_ve hF
  clear hF
  simp only [Try.f31, Option.getD_some, regOf] at hc
  injection hc with hc
  subst hc
  have c1 := box_cell hD 1 rfl
  clear hD
  by_cases h1 : i < n
  · rw [decide_eq_true h1] at HQ
    have g : (i : Int) < (n : Int) := by omega
    go_wp2
    exact HQ.out _ ⟨rfl, rfl, rfl, rfl, rfl, rfl, rfl, rfl, rfl⟩ rfl
  · rw [decide_eq_false h1] at HQ
    have g : ¬ (i : Int) < (n : Int) := by omega
    go_wp2
    exact HQ.out _ ⟨rfl, rfl, rfl, rfl, rfl, rfl, rfl, rfl, rfl⟩ rfl
theorem ve_r7 {K : Act → World → Prop} {c : Code} (hc : regOf (Try.f31.body.getD .skip) 7 = some c) (a : Act) {v : Vve} {wq : World} {i : Nat} (hF : Fve a v) (h6v : v.v6 = .int .i64 (i : Int)) (hn : i ≤ 4611686018427387904) (hQ : ∀ a', Fve a' { v with v6 := .int .i64 ((i + 1 : Nat) : Int) } → K a' wq) :
    Code.wp Try.prog c (Exit.then K fun _ _ _ => False) a wq := by
  have HQ := hide hQ
  clear hQ
  obtain ⟨v1, v2, v3, v4, v5, v6, v7⟩ := v
  simp only at h6v HQ
  subst h6v
  obtain ⟨u, rfl⟩ := frx_ve hF
  clear hF
  simp only [Try.f31, Option.getD_some, regOf] at hc
  injection hc with hc
  subst hc
  have hj1 : ((i + 1 : Nat) : Int) = (i : Int) + 1 := by omega
  rw [hj1] at HQ
  clear hj1
  go_wp2
  exact HQ.out _ ⟨rfl, rfl, rfl, rfl, rfl, rfl, rfl, rfl, rfl⟩
theorem ve_r8 {K : Act → World → Prop} {c : Code} (hc : regOf (Try.f31.body.getD .skip) 8 = some c) (a : Act) {v : Vve} {wq : World} {d n cp i k B oc b off : Nat} {mn ml : Int} {oo : Option Addr} {l : List IT} (hF : Fve a v) (h1v : v.v1 = .pointer (some ⟨d, 0, none⟩)) (h5v : v.v5 = .slice oo k oc) (h6v : v.v6 = .int .i64 (i : Int)) (hi : i < n) (hm : 0 ≤ mn ∧ mn < 7 ∧ 1 ≤ ml ∧ ml ≤ 9007199254740991) (hR : wq.ownsRow B tItem 3 (.slice oo k oc) k (itCells l)) (hk : k ≤ 1000) (hB : B ≤ wq.heap.size)
    (hS : ∀ W, Touch (fun j => (Value.slice oo k oc).ownBlock = some j) wq W → (fun w' => w'.cell? ⟨d, 1, none⟩ = some (.slice (some ⟨b, off, none⟩) n cp) ∧ w'.cell? ⟨b, off + i * 2, none⟩ = some (.int .i64 mn) ∧ w'.cell? ⟨b, off + i * 2 + 1, none⟩ = some (.int .i64 ml)) W)
    (hQ : ∀ a' w' oo' oc', Fve a' { v with v5 := .slice oo' (k + 2) oc' } → Touch (fun j => (Value.slice oo k oc).ownBlock = some j) wq w' → w'.ownsRow B tItem 3 (.slice oo' (k + 2) oc') (k + 2) (itCells (l ++ memItems ⟨mn, ml⟩)) → K a' w') :
    Code.wp Try.prog c (Exit.then K fun _ _ _ => False) a wq := by
  have HQ := hide hQ
  clear hQ
  obtain ⟨v1, v2, v3, v4, v5, v6, v7⟩ := v
  simp only at h1v h5v h6v HQ
  subst h1v h5v h6v
  obtain ⟨u, rfl⟩ := frx_ve hF
  clear hF
  simp only [Try.f31, Option.getD_some, regOf] at hc
  injection hc with hc
  subst hc
  generalize u 0 = u0
  generalize u 8 = u8
  generalize u 9 = u9
  generalize u 10 = u10
  generalize u 11 = u11
  generalize u 12 = u12
  generalize u 13 = u13
  generalize u 14 = u14
  generalize u 15 = u15
  generalize u 16 = u16
  generalize u 17 = u17
  generalize u 18 = u18
  generalize u 19 = u19
  generalize u 20 = u20
  generalize u 21 = u21
  generalize u 22 = u22
  generalize u 23 = u23
  generalize u 24 = u24
  generalize u 25 = u25
  generalize u 26 = u26
  generalize u 27 = u27
  generalize u 28 = u28
  generalize u 29 = u29
  generalize u 30 = u30
  generalize u 31 = u31
  generalize u 32 = u32
  generalize u 33 = u33
  generalize u 34 = u34
  generalize u 35 = u35
  generalize u 36 = u36
  generalize u 37 = u37
  generalize u 38 = u38
  generalize u 39 = u39
  generalize u 40 = u40
  generalize u 41 = u41
  generalize u 42 = u42
  generalize u 43 = u43
  generalize u 44 = u44
  generalize u 45 = u45
  generalize u 46 = u46
  generalize u 47 = u47
  generalize u 48 = u48
  generalize u 49 = u49
  clear u
  obtain ⟨i0, hi0, hz0, hz1, hz2⟩ := info_parts infoIt
  have RO := hide hR
  have HS := hide hS
  have hst := hS wq (Touch.refl _ wq)
  obtain ⟨c1, y0, y1⟩ := hst
  obtain ⟨m1, m2, m3, m4⟩ := hm
  have hi0' : (0 : Int) ≤ (i : Int) := by omega
  have hi1 : (i : Int) < (n : Int) := by omega
  have q1 : IntKind.u64.wrap mn = mn := u64_wrap (by omega) (by omega)
  have q2 : IntKind.u64.wrap ml = ml := u64_wrap (by omega) (by omega)
  have Q1 := hide q1
  have Q2 := hide q2
  clear hR hS q1 q2
  go_region_held_law (fun w' => w'.cell? ⟨d, 1, none⟩ = some (.slice (some ⟨b, off, none⟩) n cp) ∧ w'.cell? ⟨b, off + i * 2, none⟩ = some (.int .i64 mn) ∧ w'.cell? ⟨b, off + i * 2 + 1, none⟩ = some (.int .i64 ml)) (first | go_keep | exact KS.out | exact ⟨c1, y0, y1⟩) ((first | (refine step_append_d (by rfl) 43 (by rfl) _ _ 60 (by rfl) B tItem i0 _ 3 32 Try.underlying60 hi0 hz0 hz1 hz2 rfl (by omega) (.slice oo k oc) k (itCells l) (by rfl) (RO.out.drew.alloc _) ⟨wq.heap.size, 0, none⟩ 2 2 [.int .i64 1, .int .u64 (IntKind.u64.wrap mn), .string ⟨#[]⟩, .int .i64 3, .int .u64 (IntKind.u64.wrap ml), .string ⟨#[]⟩] (by rfl) (by rfl) (World.news_of_block (cs := #[.int .i64 1, .int .u64 (IntKind.u64.wrap mn), .string ⟨#[]⟩, .int .i64 3, .int .u64 (IntKind.u64.wrap ml), .string ⟨#[]⟩]) (t := tItem) (fr := (0, 0)) (heap_alloc_new wq.drew _)) (by simp [Value.oneCell']) (by unfold maxLen; omega) (by omega) (by simp; omega) ?_; intro a4 c4 w4 hown4 hgrow4 hloc4; have T4 : Hid (Touch (fun j => (Value.slice oo k oc).ownBlock = some j) wq w4) := (((Touch.refl _ wq).alloc _).drew).grown hgrow4 (fun j e _ => e); have KS : Hid ((fun w' => w'.cell? ⟨d, 1, none⟩ = some (.slice (some ⟨b, off, none⟩) n cp) ∧ w'.cell? ⟨b, off + i * 2, none⟩ = some (.int .i64 mn) ∧ w'.cell? ⟨b, off + i * 2 + 1, none⟩ = some (.int .i64 ml)) w4) := HS.out w4 T4.out)))
  all_goals exact HQ.out _ _ a4 c4 ⟨rfl, rfl, rfl, rfl, rfl, rfl, rfl, rfl, rfl⟩ T4.out (by rw [Q1.out, Q2.out] at hown4; rw [itCells_append]; exact hown4)
theorem ve_r9 {K : Act → World → Prop} {c : Code} (hc : regOf (Try.f31.body.getD .skip) 9 = some c) (a : Act) {v : Vve} {wq : World} {k oc : Nat} {oo : Option Addr} {cd : ByteArray} {z : Int} (hF : Fve a v) (h5v : v.v5 = .slice oo k oc) (hE : Calls Try.prog 32 #[.slice oo k oc] wq fun e w' => e = .returned (.tuple #[.string cd, .int .i64 z]) ∧ Below wq.heap.size wq w')
    (hQ : ∀ a' w', Fve a' { v with v7 := .string cd } → Below wq.heap.size wq w' → K a' w') :
    Code.wp Try.prog c (Exit.then K fun _ _ _ => False) a wq := by
  have HQ := hide hQ
  clear hQ
  obtain ⟨v1, v2, v3, v4, v5, v6, v7⟩ := v
  simp only at h5v HQ
  subst h5v
  obtain ⟨u, rfl⟩ := frx_ve hF
  clear hF
  simp only [Try.f31, Option.getD_some, regOf] at hc
  injection hc with hc
  subst hc
  have HE := hide hE
  clear hE
  go_wp2_with fail
  refine HE.out.mono ?_
  rintro e w1 ⟨rfl, b1⟩
  have B1 := hide b1
  clear b1 HE
  go_wp2
  exact HQ.out _ _ ⟨rfl, rfl, rfl, rfl, rfl, rfl, rfl, rfl, rfl⟩ B1.out
theorem ve_r10 {K : Act → World → Prop} {c : Code} (hc : regOf (Try.f31.body.getD .skip) 10 = some c) (a : Act) {v : Vve} {wq : World} {cd : ByteArray} (hF : Fve a v) (h7v : v.v7 = .string cd) (hQ : ∀ a', Fve a' { v with v2 := .string cd, v3 := .bool true } → K a' wq) :
    Code.wp Try.prog c (Exit.then K fun _ _ _ => False) a wq := by
  have HQ := hide hQ
  clear hQ
  obtain ⟨v1, v2, v3, v4, v5, v6, v7⟩ := v
  simp only at h7v HQ
  subst h7v
  obtain ⟨u, rfl⟩ := frx_ve hF
  clear hF
  simp only [Try.f31, Option.getD_some, regOf] at hc
  injection hc with hc
  subst hc
  go_wp2
  exact HQ.out _ ⟨rfl, rfl, rfl, rfl, rfl, rfl, rfl, rfl, rfl⟩
end Go.Proofs.Ytfcpclpaalekiaa
namespace Go.Proofs.Ytfcpclpaalekiaa
open Go.RowKit Go.Shelf
set_option maxHeartbeats 4000000
set_option maxRecDepth 100000
attribute [local go_sem] Oper.semAt_some
set_option linter.unusedSimpArgs false
set_option linter.unusedVariables false
theorem take_next {α : Type} (zs : List α) (k : Nat) (hk : k < zs.length) : zs.take (k + 1) = zs.take k ++ [zs[k]] := by
  rw [List.take_succ_eq_append_getElem hk]
theorem each1_in {α : Type} (f : α → MB) (n l Bs n₀ b off cap : Nat) (zs : List α) (hreach : zs.length ≤ 4611686018427387903) (J Jx : List α → World → Prop)
    (hY : ∀ pre x W, J pre W → pre.length < zs.length → YieldAt Fence.wide (n - 1) Try.prog l #[(f x).v] W fun e W' =>
      (e = .returned (.bool true) ∧ J (pre ++ [x]) W' ∧ Below n₀ W W') ∨ (e = .returned (.bool false) ∧ Jx (pre ++ [x]) W'))
    (W : World) (hJ : ∀ pre W (o : Obj), J pre W → J pre (W.alloc o)) (hn0 : n₀ ≤ W.heap.size) (ao : Option Addr) (hBs : W.cell? ⟨Bs, 0, none⟩ = some (.slice ao zs.length cap)) (hc : ∀ W', Below n₀ W W' → MemsAt W' ao (zs.map f)) (h0 : J [] W) :
    CallsIn Fence.wide n Try.prog 73 #[.func (.yield l) #[] #[], .pointer (some ⟨Bs, 0, none⟩)] W fun e W' => (∃ v, e = .returned v) ∧
      ((∃ ys, ys = zs ∧ J ys W') ∨ (∃ pre, pre <+: zs ∧ Jx pre W')) := by
  refine callsIn_of_wp Try.func73 rfl trivial ?_ rfl
  simp only [Try.ntmps73, List.size_toArray, List.length_cons, List.length_nil, Nat.reduceAdd, Nat.reduceSub, Array.replicate_succ, Array.replicate_zero, List.push_toArray, List.append_toArray, List.nil_append, List.cons_append]
  gi_wp2
  gi_loopw [7] (fun i wr => ∃ k : Nat, k ≤ zs.length ∧ i = .int .i64 k ∧ J (zs.take k) wr ∧ Below n₀ W wr)
    (fun i _ => zs.length - (intOf i).toNat)
  case atStart => exact ⟨0, Nat.zero_le _, rfl, h0, Below.refl _ _⟩
  case round =>
    obtain ⟨k, hk, rfl, hJs, hnx⟩ := hrel
    by_cases hlt : k < zs.length
    · have hM := hc _ hnx k (by simpa using hlt)
      obtain ⟨b, off, rfl, hb, y0, y1⟩ := hM
      simp only [List.getElem_map] at y0 y1
      obtain ⟨x, hx⟩ : ∃ x, zs[k] = x := ⟨_, rfl⟩
      rw [hx] at y0 y1
      obtain ⟨fn, tmps, assign, body, hy, hR⟩ := hY _ x (wr.alloc (.cells #[.int .i64 (f x).node, .int .i64 (f x).life] 53)) (hJ _ _ _ hJs) (by rw [List.length_take]; omega)
      simp only [MB.v] at hy
      gi_wp2
      refine ⟨fun h => (by cases h), hR.mono ?_⟩
      rintro e W3 (⟨rfl, hJ3, hk3⟩ | ⟨rfl, hJx3⟩)
      · gi_wp2
        go_roundw
        case rel => exact ⟨k + 1, by omega, by simp, by rw [take_next _ _ hlt, hx]; exact hJ3, (hnx.alloc (Nat.le_trans hn0 hnx.size) _).trans hk3⟩
        case measure => simp [intOf]; omega
      · gi_wp2
        refine bodyPost_ret (results_none rfl _ _ _) rfl ?_
        exact ⟨⟨_, rfl⟩, .inr ⟨_, by rw [← hx, ← take_next _ _ hlt]; exact List.take_prefix _ _, hJx3⟩⟩
    · obtain rfl : k = zs.length := by omega
      gi_wp2
      go_end0
      exact ⟨⟨_, rfl⟩, .inl ⟨_, List.take_length, hJs⟩⟩
theorem each_in (n : Nat) (a : Option Addr) (len cap : Nat) (w : World) :
    CallsIn Fence.wide n Try.prog 55 #[.slice a len cap] w fun e w' => e = .returned (.func (.func 73) #[] #[.pointer (some ⟨w.heap.size, 0, none⟩)]) ∧ w' = w.alloc (.cells #[.slice a len cap] 33) := by
  refine callsIn_of_wp Try.func55 rfl trivial ?_ rfl
  simp only [Try.ntmps55, List.size_toArray, List.length_cons, List.length_nil, Nat.reduceAdd, Nat.reduceSub, Array.replicate_succ, Array.replicate_zero, List.push_toArray, List.append_toArray, List.nil_append, List.cons_append]
  gi_wp2
  go_ret
  exact ⟨rfl, rfl⟩
theorem each_stops {α : Type} (f : α → MB) (n Bs cap : Nat) (ao : Option Addr) (zs : List α) (hreach : zs.length ≤ 4611686018427387903) (w0 w : World) (hBs : Bs < w.heap.size) (hb : Below w0.heap.size w0 w)
    (hc : w.cell? ⟨Bs, 0, none⟩ = some (.slice ao zs.length cap)) (hM : MemsAt w0 ao (zs.map f)) :
    SeqStopsK Fence.wide n Try.prog 73 #[.pointer (some ⟨Bs, 0, none⟩)] (fun x : α => #[(f x).v]) (Below w0.heap.size) (fun ys => ys = zs) (fun pre => pre <+: zs) zs.length w := fun l J Jx W hW hJ _ hY h0 => by
  have hc' := (hW.cell (p := ⟨Bs, 0, none⟩) hBs).trans hc
  have hb' : Below w0.heap.size w0 W := hb.trans (hW.mono hb.size)
  exact each1_in f n l Bs w0.heap.size 0 0 cap zs hreach J Jx hY W (fun pre X o h => hJ pre X _ none h (World.grownBy_alloc X o none) (fun r e => by cases e)) hb'.size ao hc' (fun X hX => hM.below (hb'.trans hX)) h0
def Box2 (W : World) (B : Nat) (m : MB) : Prop := W.heap[B]? = some (.cells #[.int .i64 m.node, .int .i64 m.life] 53 (0, 0))
theorem Box2.own {β : Type} (B : Nat) (f : β → MB) : Own (fun s W => Box2 W B (f s)) := fun s X Y row hs hg hrow => by
  refine (hg.block B (heap_lt hs) (fun e' => ?_)).trans hs
  obtain ⟨o, ho, hc⟩ := hrow B e'.symm
  rw [show X.heap[B]? = _ from hs] at ho
  cases ho
  cases hc
theorem Box2.cells {W : World} {B : Nat} {m : MB} (h : Box2 W B m) : W.cell? ⟨B, 0, none⟩ = some (.int .i64 m.node) ∧ W.cell? ⟨B, 1, none⟩ = some (.int .i64 m.life) := by
  unfold Box2 at h
  constructor <;> simp [World.cell?, h]
theorem Box2.new (W : World) (m : MB) : Box2 (W.alloc (.cells #[.int .i64 m.node, .int .i64 m.life] 53)) W.heap.size m := World.alloc_heap_new W _
theorem box_own {β : Type} (B : Nat) (f : β → Obj) (hf : ∀ s, (f s).isCells = true) : Own (fun s W => W.heap[B]? = some (f s)) := fun s X Y row hs hg hrow => by
  refine (hg.block B (heap_lt hs) (fun e' => ?_)).trans hs
  obtain ⟨o, ho, hc⟩ := hrow B e'.symm
  rw [show X.heap[B]? = _ from hs] at ho
  cases ho
  rw [hf] at hc
  cases hc
theorem Own.and {β : Type} {I I' : β → World → Prop} (h : Own I) (h' : Own I') : Own (fun s W => I s W ∧ I' s W) := fun s X Y row hs hg hr => ⟨h s X Y row hs.1 hg hr, h' s X Y row hs.2 hg hr⟩
theorem own_pure {β : Type} (p : β → Prop) : Own (fun s (_ : World) => p s) := fun _ _ _ _ hs _ _ => hs
theorem box1_cell {W : World} {B : Nat} {v : Value} {t : TypeId} (h : W.heap[B]? = some (.cells #[v] t (0, 0))) : W.cell? ⟨B, 0, none⟩ = some v := by simp [World.cell?, h]
theorem box1_frozen {W : World} {B : Nat} {v : Value} {t : TypeId} (h : W.heap[B]? = some (.cells #[v] t (0, 0))) : W.frozen? ⟨B, 0, none⟩ = false := by simp [World.frozen?, h]
theorem box1_set {W : World} {B : Nat} {v : Value} {t : TypeId} (v' : Value) (h : W.heap[B]? = some (.cells #[v] t (0, 0))) : (W.setCell ⟨B, 0, none⟩ v').heap[B]? = some (.cells #[v'] t (0, 0)) := by
  obtain ⟨hlt, hk⟩ := Array.getElem?_eq_some_iff.1 h
  show (W.heap.modify B _)[B]? = _
  rw [Array.getElem?_eq_getElem (by rw [Array.size_modify]; exact hlt), Array.getElem_modify_self, hk]
  rfl
theorem heap_up {w : World} {b : Nat} {o o' : Obj} (h : w.heap[b]? = some o) : (w.alloc o').heap[b]? = some o := (Below.heap_alloc w o' b (Array.getElem?_eq_some_iff.1 h).1).trans h
theorem heap_set_ne {W : World} {B k : Nat} {o : Obj} (v : Value) (h : W.heap[k]? = some o) (hne : k ≠ B) : (W.setCell ⟨B, 0, none⟩ v).heap[k]? = some o := (Below.heap_setCell W ⟨B, 0, none⟩ v k hne).trans h
theorem put_keeps {W : World} {D k : Nat} {o o2 : Obj} (hK : W.heap[D]? = some (.deferred (some []))) (h : W.heap[k]? = some o) (hc : o.isCells = true) : (W.putObj D o2).heap[k]? = some o := by
  refine (World.putObj_heap_other ?_).trans h
  intro e
  subst e
  rw [h] at hK
  cases hK
  cases hc
theorem below_put {w W : World} {D B : Nat} {o2 : Obj} (hB : Below B w W) (hD : B ≤ D) (hK : W.heap[D]? = some (.deferred (some []))) : Below B w (W.putObj D o2) :=
  hB.grown (grownBy_putObj' W D o2) (Nat.le_trans hD (Nat.le_of_lt (heap_lt hK))) (fun k e => by cases e; exact hD)
end Go.Proofs.Ytfcpclpaalekiaa
namespace Go.Proofs.Ytfcpclpaalekiaa
open Go.RowKit
set_option linter.unusedSimpArgs false
set_option linter.unusedVariables false
end Go.Proofs.Ytfcpclpaalekiaa
namespace Go.Proofs.Ytfcpclpaalekiaa
open Go.RowKit
attribute [local go_sem ↓] Go.wp_at_zero Go.wp_at_succ
set_option linter.unusedSimpArgs false
set_option linter.unusedVariables false
theorem infoMB : (Try.prog.info? tMember).map (fun i => (i.zero, i.size, i.bytes)) = some (some (.agg #[.int .i64 0, .int .i64 0]), 2, 16) := by kernel_rfl
structure NextGave (w w' : World) (e : Ending) (r : VW × Int) : Prop where
  res : ∃ ro rc, e = .returned (.tuple #[r.1.v ro rc, .int .i64 r.2]) ∧ w'.ownsRow w.heap.size tMember 2 (.slice ro r.1.mem.length rc) r.1.mem.length (mbCells r.1.mem)
  below : Below w.heap.size w w'
theorem row_not {W : World} {B n : Nat} {v : Value} {xs : List Value} (h : W.ownsRow B tMember 2 v n xs) {j k : Nat} (hj : v.ownBlock = some j) {cs : Array Value} (hk : W.heap[k]? = some (.cells cs tView (0, 0))) : j ≠ k := fun e => by
  subst e
  rcases h.2 with ⟨rfl, _⟩ | ⟨g, cap, cur, rfl, _, hh, _⟩
  · cases hj
  · obtain rfl : g = j := Option.some.inj hj
    rw [hk] at hh
    injection hh with hh
    injection hh with _ hh _
    exact absurd hh (by decide)
end Go.Proofs.Ytfcpclpaalekiaa
namespace Go.Proofs.Ytfcpclpaalekiaa
open Go.RowKit
set_option linter.unusedSimpArgs false
set_option linter.unusedVariables false
end Go.Proofs.Ytfcpclpaalekiaa
namespace Go.Proofs.Ytfcpclpaalekiaa
open Go.RowKit
attribute [local go_sem ↓] Go.wp_at_zero Go.wp_at_succ
set_option linter.unusedSimpArgs false
set_option linter.unusedVariables false
abbrev RightSays : Prop := ∀ (x : VW) (ao : Option Addr) (cp : Nat) (w : World), MemsAt w ao x.mem → x.mem.length ≤ 4611686018427387903 → Calls Try.prog 39 #[x.v ao cp] w fun e w' => e = .returned (.bool (decide x.right)) ∧ Below w.heap.size w w'
abbrev MemberSays : Prop := ∀ (m : MB) (w : World), Calls Try.prog 56 #[m.v] w fun e w' => e = .returned (.bool (decide m.right)) ∧ Below w.heap.size w w'
theorem mem_view {W : World} {g k : Nat} {cur cs : Array Value} (h : W.heap[g]? = some (.cells cur tMember (0, 0))) (hk : W.heap[k]? = some (.cells cs tView (0, 0))) : g ≠ k := fun e => by
  subst e
  rw [hk] at h
  injection h with h
  injection h with _ h _
  exact absurd h (by decide)
end Go.Proofs.Ytfcpclpaalekiaa
namespace Go.Proofs.Ytfcpclpaalekiaa
open Go.RowKit Go.Shelf
attribute [local go_sem] Oper.semAt_some
set_option linter.unusedSimpArgs false
set_option linter.unusedVariables false
end Go.Proofs.Ytfcpclpaalekiaa
namespace Go.Proofs.Ytfcpclpaalekiaa
open Go.RowKit Go.Shelf
set_option maxHeartbeats 4000000
attribute [local go_sem] Oper.semAt_some
set_option linter.unusedSimpArgs false
set_option linter.unusedVariables false
theorem pmember_any (m : MB) (w : World) : Calls Try.prog 56 #[m.v] w fun e w' => e = .returned (.bool (decide m.right)) ∧ Below w.heap.size w w' := by
  obtain ⟨n, l⟩ := m
  simp only [MB.v]
  have B0 := hide ((Below.refl w.heap.size w).alloc (Nat.le_refl _) (.cells #[.int .i64 n, .int .i64 l] tMember))
  by_cases h : (MB.mk n l).right
  · rw [decide_eq_true h]
    obtain ⟨h1, h2, h3, h4⟩ := h
    simp only at h1 h2 h3 h4
    go_enter Try.func56, Try.ntmps56
    go_wp2
    go_ret
    exact ⟨rfl, B0.out⟩
  · rw [decide_eq_false h]
    by_cases h1 : 0 ≤ n
    · by_cases h2 : n < 7
      · by_cases h3 : 1 ≤ l
        · have h4 : ¬ l ≤ 9007199254740991 := fun e => h ⟨h1, h2, h3, e⟩
          clear h
          go_enter Try.func56, Try.ntmps56
          go_wp2
          go_ret
          exact ⟨rfl, B0.out⟩
        · clear h
          go_enter Try.func56, Try.ntmps56
          go_wp2
          go_ret
          exact ⟨rfl, B0.out⟩
      · clear h
        go_enter Try.func56, Try.ntmps56
        go_wp2
        go_ret
        exact ⟨rfl, B0.out⟩
    · clear h
      go_enter Try.func56, Try.ntmps56
      go_wp2
      go_ret
      exact ⟨rfl, B0.out⟩
theorem pmember : MemberSays := pmember_any
theorem keeps_of_below {B : Nat} {W W' : World} (h : Below W.heap.size W W') : KeepsFrom B W W' := ⟨h.size, fun k o _ hk _ => (h.block k (heap_lt hk)).trans hk⟩
end Go.Proofs.Ytfcpclpaalekiaa
