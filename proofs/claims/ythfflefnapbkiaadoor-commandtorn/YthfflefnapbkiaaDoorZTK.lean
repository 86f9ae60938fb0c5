/-
  CommandTorn: its regions (mktorn.py)
-/
import Derived.Test.YthfflefnapbkiaaDoorZHC
import Derived.Laws.IdiomStrings
import Derived.BigRegion
import Derived.RegionTactic
namespace Go.Proofs.YthfflefnapbkiaaDoor
open Go.RowKit

attribute [local go_sem ↓] Go.wp_at_zero Go.wp_at_succ
set_option linter.unusedSimpArgs false
set_option linter.unusedVariables false
/-- A row of bytes of the call's own. -/
structure BytesAt (w0 w : World) (g : Nat) (l : List UInt8) : Prop where
  below : Below w0.heap.size w0 w
  new : w0.heap.size ≤ g
  lt : g < w.heap.size
  cells : ∀ j (h : j < l.length), w.cell? ⟨g, j, none⟩ = some (.int .u8 (l[j].toNat : Int))
  free : ∀ j, j < l.length → w.frozen? ⟨g, j, none⟩ = false

theorem bytes_conv (w : World) (s : ByteArray) : ∃ W cap, (convert 9 45 (.string s)).run Tryd.prog w = .ok (.slice (some ⟨w.heap.size, 0, none⟩) s.size cap) W ∧ BytesAt w W w.heap.size s.data.toList := by
  refine ⟨_, _, run_bytes_of_string w 9 45 5 s Tryd.underlying9 Tryd.underlying45 Tryd.underlying5, ?_, Nat.le_refl _, ?_, ?_, ?_⟩
  · exact ((Below.refl _ _).drew).alloc (Nat.le_refl _) _
  · simp
  · intro j h
    have e := World.cell?_alloc_mark w.drew (bytesRow s (grownCap w s.size 0 5)) 5 ((bytesRow s (grownCap w s.size 0 5)).size, (bytesRow s (grownCap w s.size 0 5)).size + 1) j
    have hj : j < s.data.size := by simpa using h
    rw [bytesRow_at s _ j hj] at e
    simpa using e
  · intro j h
    have e := World.frozen?_alloc_mark w.drew (bytesRow s (grownCap w s.size 0 5)) 5 (bytesRow s (grownCap w s.size 0 5)).size ((bytesRow s (grownCap w s.size 0 5)).size + 1) j
    have hj : j < s.data.size := by simpa using h
    have hb : j < (bytesRow s (grownCap w s.size 0 5)).size := by
      have := bytesRow_at s (grownCap w s.size 0 5) j hj
      exact (Array.getElem?_eq_some_iff.1 this).1
    have hd : decide ((bytesRow s (grownCap w s.size 0 5)).size ≤ j) = false := by rw [decide_eq_false_iff_not]; omega
    rw [hd, Bool.false_and] at e
    exact e

theorem BytesAt.set {w0 w : World} {g : Nat} {l : List UInt8} (h : BytesAt w0 w g l) (i : Nat) (hi : i < l.length) (c : UInt8) (y : Int) (hy : y = (c.toNat : Int)) : BytesAt w0 (w.setCell ⟨g, i, none⟩ (.int .u8 y)).drew g (l.set i c) := by
  obtain ⟨v0, hv0⟩ : ∃ v, w.cell? ⟨g, i, none⟩ = some v := ⟨_, h.cells i hi⟩
  have hsz : (w.setCell ⟨g, i, none⟩ (.int .u8 y)).drew.heap.size = w.heap.size := by
    show (w.setCell ⟨g, i, none⟩ (.int .u8 y)).heap.size = _
    exact World.size_setCell _ _ _
  refine ⟨(h.below.setCell (p := ⟨g, i, none⟩) h.new _).drew, h.new, by rw [hsz]; exact h.lt, ?_, ?_⟩
  · intro j hj
    rw [List.length_set] at hj
    show (w.setCell ⟨g, i, none⟩ (.int .u8 y)).cell? ⟨g, j, none⟩ = _
    by_cases hji : j = i
    · subst hji
      rw [World.cell?_setCell_same _ _ _ hv0, hy]
      simp
    · rw [World.cell?_setCell_other _ _ _ _ (fun e => hji (congrArg Addr.off e).symm), h.cells j hj]
      simp [Ne.symm hji]
  · intro j hj
    rw [List.length_set] at hj
    show (w.setCell ⟨g, i, none⟩ (.int .u8 y)).frozen? ⟨g, j, none⟩ = _
    rw [World.frozen?_setCell]
    exact h.free j hj
theorem BytesAt.back {w0 w : World} {g : Nat} {l : List UInt8} (h : BytesAt w0 w g l) (n cap : Nat) (hn : l.length = n) : (convert 45 9 (.slice (some ⟨g, 0, none⟩) n cap)).run Tryd.prog w = .ok (.string ⟨l.toArray⟩) w := by
  subst hn
  refine run_convert_bytes_back w 45 9 5 ⟨g, 0, none⟩ cap l Tryd.underlying45 Tryd.underlying5 Tryd.underlying9 fun j hj => ?_
  rw [addr_add, Nat.zero_add]
  exact h.cells j hj
theorem flip_set (l : List UInt8) (q i r : Nat) (hi : q / 8 = i) (hr : q % 8 = r) (h : i < l.length) : flipF l q = l.set i (UInt8.ofNat (l[i].toNat ^^^ 2 ^ r)) := by
  subst hi hr
  unfold flipF
  apply List.ext_getElem (by simp)
  intro j h1 h2
  rw [List.getElem_modify, List.getElem_set]
  by_cases hj : q / 8 = j
  · subst hj
    simp
  · simp [hj]
theorem flip_val (x : UInt8) (r : Nat) (hr : r < 8) : bits .xor .u8 (x.toNat : Int) (2 ^ r % 256) = ((UInt8.ofNat (x.toNat ^^^ 2 ^ r)).toNat : Int) := by
  have hp : 2 ^ r < 2 ^ 8 := Nat.pow_lt_pow_right (by omega) hr
  have e : ((2 : Int) ^ r % 256) = ((2 ^ r : Nat) : Int) := by
    have e1 : ((2 : Int) ^ r) = ((2 ^ r : Nat) : Int) := by rw [Int.natCast_pow]; rfl
    rw [e1]
    clear e1
    generalize (2 ^ r : Nat) = p at hp ⊢
    omega
  rw [e, flip_byte x r hr]
  exact u8_xor_nat x.toNat (2 ^ r) x.toNat_lt hp

set_option maxRecDepth 100000 in
theorem frame_tk (t : Array Value) (h : t.size = 91) : ∃ u : Nat → Value, t = List.toArray (u 0 :: u 1 :: u 2 :: u 3 :: u 4 :: u 5 :: u 6 :: u 7 :: u 8 :: u 9 :: u 10 :: u 11 :: u 12 :: u 13 :: u 14 :: u 15 :: u 16 :: u 17 :: u 18 :: u 19 :: u 20 :: u 21 :: u 22 :: u 23 :: u 24 :: u 25 :: u 26 :: u 27 :: u 28 :: u 29 :: u 30 :: u 31 :: u 32 :: u 33 :: u 34 :: u 35 :: u 36 :: u 37 :: u 38 :: u 39 :: u 40 :: u 41 :: u 42 :: u 43 :: u 44 :: u 45 :: u 46 :: u 47 :: u 48 :: u 49 :: u 50 :: u 51 :: u 52 :: u 53 :: u 54 :: u 55 :: u 56 :: u 57 :: u 58 :: u 59 :: u 60 :: u 61 :: u 62 :: u 63 :: u 64 :: u 65 :: u 66 :: u 67 :: u 68 :: u 69 :: u 70 :: u 71 :: u 72 :: u 73 :: u 74 :: u 75 :: u 76 :: u 77 :: u 78 :: u 79 :: u 80 :: u 81 :: u 82 :: u 83 :: u 84 :: u 85 :: u 86 :: u 87 :: u 88 :: u 89 :: u 90 :: []) := by
  refine ⟨fun i => t.getD i undef, ?_⟩
  have e : (List.toArray ((fun i => t.getD i undef) 0 :: (fun i => t.getD i undef) 1 :: (fun i => t.getD i undef) 2 :: (fun i => t.getD i undef) 3 :: (fun i => t.getD i undef) 4 :: (fun i => t.getD i undef) 5 :: (fun i => t.getD i undef) 6 :: (fun i => t.getD i undef) 7 :: (fun i => t.getD i undef) 8 :: (fun i => t.getD i undef) 9 :: (fun i => t.getD i undef) 10 :: (fun i => t.getD i undef) 11 :: (fun i => t.getD i undef) 12 :: (fun i => t.getD i undef) 13 :: (fun i => t.getD i undef) 14 :: (fun i => t.getD i undef) 15 :: (fun i => t.getD i undef) 16 :: (fun i => t.getD i undef) 17 :: (fun i => t.getD i undef) 18 :: (fun i => t.getD i undef) 19 :: (fun i => t.getD i undef) 20 :: (fun i => t.getD i undef) 21 :: (fun i => t.getD i undef) 22 :: (fun i => t.getD i undef) 23 :: (fun i => t.getD i undef) 24 :: (fun i => t.getD i undef) 25 :: (fun i => t.getD i undef) 26 :: (fun i => t.getD i undef) 27 :: (fun i => t.getD i undef) 28 :: (fun i => t.getD i undef) 29 :: (fun i => t.getD i undef) 30 :: (fun i => t.getD i undef) 31 :: (fun i => t.getD i undef) 32 :: (fun i => t.getD i undef) 33 :: (fun i => t.getD i undef) 34 :: (fun i => t.getD i undef) 35 :: (fun i => t.getD i undef) 36 :: (fun i => t.getD i undef) 37 :: (fun i => t.getD i undef) 38 :: (fun i => t.getD i undef) 39 :: (fun i => t.getD i undef) 40 :: (fun i => t.getD i undef) 41 :: (fun i => t.getD i undef) 42 :: (fun i => t.getD i undef) 43 :: (fun i => t.getD i undef) 44 :: (fun i => t.getD i undef) 45 :: (fun i => t.getD i undef) 46 :: (fun i => t.getD i undef) 47 :: (fun i => t.getD i undef) 48 :: (fun i => t.getD i undef) 49 :: (fun i => t.getD i undef) 50 :: (fun i => t.getD i undef) 51 :: (fun i => t.getD i undef) 52 :: (fun i => t.getD i undef) 53 :: (fun i => t.getD i undef) 54 :: (fun i => t.getD i undef) 55 :: (fun i => t.getD i undef) 56 :: (fun i => t.getD i undef) 57 :: (fun i => t.getD i undef) 58 :: (fun i => t.getD i undef) 59 :: (fun i => t.getD i undef) 60 :: (fun i => t.getD i undef) 61 :: (fun i => t.getD i undef) 62 :: (fun i => t.getD i undef) 63 :: (fun i => t.getD i undef) 64 :: (fun i => t.getD i undef) 65 :: (fun i => t.getD i undef) 66 :: (fun i => t.getD i undef) 67 :: (fun i => t.getD i undef) 68 :: (fun i => t.getD i undef) 69 :: (fun i => t.getD i undef) 70 :: (fun i => t.getD i undef) 71 :: (fun i => t.getD i undef) 72 :: (fun i => t.getD i undef) 73 :: (fun i => t.getD i undef) 74 :: (fun i => t.getD i undef) 75 :: (fun i => t.getD i undef) 76 :: (fun i => t.getD i undef) 77 :: (fun i => t.getD i undef) 78 :: (fun i => t.getD i undef) 79 :: (fun i => t.getD i undef) 80 :: (fun i => t.getD i undef) 81 :: (fun i => t.getD i undef) 82 :: (fun i => t.getD i undef) 83 :: (fun i => t.getD i undef) 84 :: (fun i => t.getD i undef) 85 :: (fun i => t.getD i undef) 86 :: (fun i => t.getD i undef) 87 :: (fun i => t.getD i undef) 88 :: (fun i => t.getD i undef) 89 :: (fun i => t.getD i undef) 90 :: []) : Array Value) = ((List.range 91).map fun i => t.getD i undef).toArray := rfl
  refine Eq.trans ?_ e.symm
  apply Array.ext
  · simp [h]
  · intro k h1 h2
    simp [Array.getD, h1]
/-- The slots that matter. -/
structure Vtk where
  v0 : Value
  v1 : Value
  v2 : Value
  v3 : Value
  v6 : Value
  v7 : Value
  v8 : Value
  v9 : Value
  v11 : Value
  v12 : Value
  v14 : Value
  v28 : Value
  v35 : Value
  v40 : Value
structure Ftk (a : Act) (v : Vtk) : Prop where
  size : a.tmps.size = 91
  defers : a.defers = []
  s0 : a.tmps.getD 0 undef = v.v0
  s1 : a.tmps.getD 1 undef = v.v1
  s2 : a.tmps.getD 2 undef = v.v2
  s3 : a.tmps.getD 3 undef = v.v3
  s6 : a.tmps.getD 6 undef = v.v6
  s7 : a.tmps.getD 7 undef = v.v7
  s8 : a.tmps.getD 8 undef = v.v8
  s9 : a.tmps.getD 9 undef = v.v9
  s11 : a.tmps.getD 11 undef = v.v11
  s12 : a.tmps.getD 12 undef = v.v12
  s14 : a.tmps.getD 14 undef = v.v14
  s28 : a.tmps.getD 28 undef = v.v28
  s35 : a.tmps.getD 35 undef = v.v35
  s40 : a.tmps.getD 40 undef = v.v40
set_option maxHeartbeats 8000000 in
set_option maxRecDepth 100000 in
theorem tk_r0 {K : Act → World → Prop} {c : Code} (hc : regOf (Tryd.f6.body.getD .skip) 0 = some c) (a : Act) {v : Vtk} {wq : World} {x : CM} (hF : Ftk a v) (h0v : v.v0 = x.v) (hQ : ∀ a' w' b, Ftk a' { v with v3 := .pointer (some ⟨b, 0, none⟩), v6 := .bool false } → wq.heap.size ≤ b → w'.heap[b]? = some (.cells x.cells 23 (0, 0)) → Below wq.heap.size wq w' → K a' w') :
    Code.wp Tryd.prog c (Exit.then K fun _ _ _ => False) a wq := by
  have HQ := hide hQ
  clear hQ
  obtain ⟨t', d'⟩ := a
  obtain ⟨v0, v1, v2, v3, v6, v7, v8, v9, v11, v12, v14, v28, v35, v40⟩ := v
  simp only at h0v HQ
  subst h0v
  obtain ⟨hs1, hd1, q0, q1, q2, q3, q6, q7, q8, q9, q11, q12, q14, q28, q35, q40⟩ := hF
  obtain ⟨u, hu⟩ := frame_tk t' hs1
  simp only at hd1 q0 q1 q2 q3 q6 q7 q8 q9 q11 q12 q14 q28 q35 q40
  subst hu hd1
  have e0 : u 0 = x.v := q0
  have e1 : u 1 = v1 := q1
  have e2 : u 2 = v2 := q2
  have e3 : u 3 = v3 := q3
  have e6 : u 6 = v6 := q6
  have e7 : u 7 = v7 := q7
  have e8 : u 8 = v8 := q8
  have e9 : u 9 = v9 := q9
  have e11 : u 11 = v11 := q11
  have e12 : u 12 = v12 := q12
  have e14 : u 14 = v14 := q14
  have e28 : u 28 = v28 := q28
  have e35 : u 35 = v35 := q35
  have e40 : u 40 = v40 := q40
  rw [e0, e1, e2, e3, e6, e7, e8, e9, e11, e12, e14, e28, e35, e40]
  clear q0 e0 q1 e1 q2 e2 q3 e3 q6 e6 q7 e7 q8 e8 q9 e9 q11 e11 q12 e12 q14 e14 q28 e28 q35 e35 q40 e40 hs1
  simp only [Tryd.f6, Option.getD_some, regOf] at hc
  injection hc with hc
  subst hc
  generalize u 4 = u4
  generalize u 5 = u5
  generalize u 10 = u10
  generalize u 13 = u13
  generalize u 15 = u15
  generalize u 16 = u16
  generalize u 17 = u17
  generalize u 18 = u18
  generalize u 19 = u19
  generalize u 20 = u20
  generalize u 21 = u21
  generalize u 22 = u22
  generalize u 23 = u23
  generalize u 24 = u24
  generalize u 25 = u25
  generalize u 26 = u26
  generalize u 27 = u27
  generalize u 29 = u29
  generalize u 30 = u30
  generalize u 31 = u31
  generalize u 32 = u32
  generalize u 33 = u33
  generalize u 34 = u34
  generalize u 36 = u36
  generalize u 37 = u37
  generalize u 38 = u38
  generalize u 39 = u39
  generalize u 41 = u41
  generalize u 42 = u42
  generalize u 43 = u43
  generalize u 44 = u44
  generalize u 45 = u45
  generalize u 46 = u46
  generalize u 47 = u47
  generalize u 48 = u48
  generalize u 49 = u49
  generalize u 50 = u50
  generalize u 51 = u51
  generalize u 52 = u52
  generalize u 53 = u53
  generalize u 54 = u54
  generalize u 55 = u55
  generalize u 56 = u56
  generalize u 57 = u57
  generalize u 58 = u58
  generalize u 59 = u59
  generalize u 60 = u60
  generalize u 61 = u61
  generalize u 62 = u62
  generalize u 63 = u63
  generalize u 64 = u64
  generalize u 65 = u65
  generalize u 66 = u66
  generalize u 67 = u67
  generalize u 68 = u68
  generalize u 69 = u69
  generalize u 70 = u70
  generalize u 71 = u71
  generalize u 72 = u72
  generalize u 73 = u73
  generalize u 74 = u74
  generalize u 75 = u75
  generalize u 76 = u76
  generalize u 77 = u77
  generalize u 78 = u78
  generalize u 79 = u79
  generalize u 80 = u80
  generalize u 81 = u81
  generalize u 82 = u82
  generalize u 83 = u83
  generalize u 84 = u84
  generalize u 85 = u85
  generalize u 86 = u86
  generalize u 87 = u87
  generalize u 88 = u88
  generalize u 89 = u89
  generalize u 90 = u90
  clear u
  simp only [CM.v, CM.cells] at *
  go_wp2
  exact HQ.out _ _ wq.heap.size ⟨rfl, rfl, rfl, rfl, rfl, rfl, rfl, rfl, rfl, rfl, rfl, rfl, rfl, rfl, rfl, rfl⟩ (Nat.le_refl _) (heap_alloc_new _ _) ((Below.refl _ _).alloc (Nat.le_refl _) _)
set_option maxHeartbeats 8000000 in
set_option maxRecDepth 100000 in
theorem tk_r1 {K : Act → World → Prop} {c : Code} (hc : regOf (Tryd.f6.body.getD .skip) 1 = some c) (a : Act) {v : Vtk} {wq : World}  (hF : Ftk a v) (hC : ∀ W, Below wq.heap.size wq W → Calls Tryd.prog 7 #[] W fun e w' => e = .returned (.bool true) ∧ Below W.heap.size W w')
    (hQ : ∀ a' w', Ftk a' { v with v7 := .bool true } → Below wq.heap.size wq w' → K a' w') :
    Code.wp Tryd.prog c (Exit.then K fun _ _ _ => False) a wq := by
  have HQ := hide hQ
  clear hQ
  obtain ⟨t', d'⟩ := a
  obtain ⟨v0, v1, v2, v3, v6, v7, v8, v9, v11, v12, v14, v28, v35, v40⟩ := v
  obtain ⟨hs1, hd1, q0, q1, q2, q3, q6, q7, q8, q9, q11, q12, q14, q28, q35, q40⟩ := hF
  obtain ⟨u, hu⟩ := frame_tk t' hs1
  simp only at hd1 q0 q1 q2 q3 q6 q7 q8 q9 q11 q12 q14 q28 q35 q40
  subst hu hd1
  have e0 : u 0 = v0 := q0
  have e1 : u 1 = v1 := q1
  have e2 : u 2 = v2 := q2
  have e3 : u 3 = v3 := q3
  have e6 : u 6 = v6 := q6
  have e7 : u 7 = v7 := q7
  have e8 : u 8 = v8 := q8
  have e9 : u 9 = v9 := q9
  have e11 : u 11 = v11 := q11
  have e12 : u 12 = v12 := q12
  have e14 : u 14 = v14 := q14
  have e28 : u 28 = v28 := q28
  have e35 : u 35 = v35 := q35
  have e40 : u 40 = v40 := q40
  rw [e0, e1, e2, e3, e6, e7, e8, e9, e11, e12, e14, e28, e35, e40]
  clear q0 e0 q1 e1 q2 e2 q3 e3 q6 e6 q7 e7 q8 e8 q9 e9 q11 e11 q12 e12 q14 e14 q28 e28 q35 e35 q40 e40 hs1
  simp only [Tryd.f6, Option.getD_some, regOf] at hc
  injection hc with hc
  subst hc
  generalize u 4 = u4
  generalize u 5 = u5
  generalize u 10 = u10
  generalize u 13 = u13
  generalize u 15 = u15
  generalize u 16 = u16
  generalize u 17 = u17
  generalize u 18 = u18
  generalize u 19 = u19
  generalize u 20 = u20
  generalize u 21 = u21
  generalize u 22 = u22
  generalize u 23 = u23
  generalize u 24 = u24
  generalize u 25 = u25
  generalize u 26 = u26
  generalize u 27 = u27
  generalize u 29 = u29
  generalize u 30 = u30
  generalize u 31 = u31
  generalize u 32 = u32
  generalize u 33 = u33
  generalize u 34 = u34
  generalize u 36 = u36
  generalize u 37 = u37
  generalize u 38 = u38
  generalize u 39 = u39
  generalize u 41 = u41
  generalize u 42 = u42
  generalize u 43 = u43
  generalize u 44 = u44
  generalize u 45 = u45
  generalize u 46 = u46
  generalize u 47 = u47
  generalize u 48 = u48
  generalize u 49 = u49
  generalize u 50 = u50
  generalize u 51 = u51
  generalize u 52 = u52
  generalize u 53 = u53
  generalize u 54 = u54
  generalize u 55 = u55
  generalize u 56 = u56
  generalize u 57 = u57
  generalize u 58 = u58
  generalize u 59 = u59
  generalize u 60 = u60
  generalize u 61 = u61
  generalize u 62 = u62
  generalize u 63 = u63
  generalize u 64 = u64
  generalize u 65 = u65
  generalize u 66 = u66
  generalize u 67 = u67
  generalize u 68 = u68
  generalize u 69 = u69
  generalize u 70 = u70
  generalize u 71 = u71
  generalize u 72 = u72
  generalize u 73 = u73
  generalize u 74 = u74
  generalize u 75 = u75
  generalize u 76 = u76
  generalize u 77 = u77
  generalize u 78 = u78
  generalize u 79 = u79
  generalize u 80 = u80
  generalize u 81 = u81
  generalize u 82 = u82
  generalize u 83 = u83
  generalize u 84 = u84
  generalize u 85 = u85
  generalize u 86 = u86
  generalize u 87 = u87
  generalize u 88 = u88
  generalize u 89 = u89
  generalize u 90 = u90
  clear u
  have HC := hide hC
  clear hC
  go_wp2_with (go_at_call 7; refine (HC.out _ (Below.refl _ _)).mono ?_; rintro e w1 ⟨rfl, b1⟩)
  exact HQ.out _ _ ⟨rfl, rfl, rfl, rfl, rfl, rfl, rfl, rfl, rfl, rfl, rfl, rfl, rfl, rfl, rfl, rfl⟩ b1
set_option maxHeartbeats 8000000 in
set_option maxRecDepth 100000 in
theorem tk_r2 {K : Act → World → Prop} {c : Code} (hc : regOf (Tryd.f6.body.getD .skip) 2 = some c) (a : Act) {v : Vtk} {wq : World} {d : Nat} {x : CM} (hF : Ftk a v) (h3v : v.v3 = .pointer (some ⟨d, 0, none⟩)) (hB : wq.heap[d]? = some (.cells x.cells 23 (0, 0)))
    (hQ : ∀ a' w', Ftk a' v → w'.heap[d]? = some (.cells { x with node := 0 }.cells 23 (0, 0)) → Touch (fun i => i = d) wq w' → K a' w') :
    Code.wp Tryd.prog c (Exit.then K fun _ _ _ => False) a wq := by
  have HQ := hide hQ
  clear hQ
  obtain ⟨t', d'⟩ := a
  obtain ⟨v0, v1, v2, v3, v6, v7, v8, v9, v11, v12, v14, v28, v35, v40⟩ := v
  simp only at h3v HQ
  subst h3v
  obtain ⟨hs1, hd1, q0, q1, q2, q3, q6, q7, q8, q9, q11, q12, q14, q28, q35, q40⟩ := hF
  obtain ⟨u, hu⟩ := frame_tk t' hs1
  simp only at hd1 q0 q1 q2 q3 q6 q7 q8 q9 q11 q12 q14 q28 q35 q40
  subst hu hd1
  have e0 : u 0 = v0 := q0
  have e1 : u 1 = v1 := q1
  have e2 : u 2 = v2 := q2
  have e3 : u 3 = .pointer (some ⟨d, 0, none⟩) := q3
  have e6 : u 6 = v6 := q6
  have e7 : u 7 = v7 := q7
  have e8 : u 8 = v8 := q8
  have e9 : u 9 = v9 := q9
  have e11 : u 11 = v11 := q11
  have e12 : u 12 = v12 := q12
  have e14 : u 14 = v14 := q14
  have e28 : u 28 = v28 := q28
  have e35 : u 35 = v35 := q35
  have e40 : u 40 = v40 := q40
  rw [e0, e1, e2, e3, e6, e7, e8, e9, e11, e12, e14, e28, e35, e40]
  clear q0 e0 q1 e1 q2 e2 q3 e3 q6 e6 q7 e7 q8 e8 q9 e9 q11 e11 q12 e12 q14 e14 q28 e28 q35 e35 q40 e40 hs1
  simp only [Tryd.f6, Option.getD_some, regOf] at hc
  injection hc with hc
  subst hc
  generalize u 4 = u4
  generalize u 5 = u5
  generalize u 10 = u10
  generalize u 13 = u13
  generalize u 15 = u15
  generalize u 16 = u16
  generalize u 17 = u17
  generalize u 18 = u18
  generalize u 19 = u19
  generalize u 20 = u20
  generalize u 21 = u21
  generalize u 22 = u22
  generalize u 23 = u23
  generalize u 24 = u24
  generalize u 25 = u25
  generalize u 26 = u26
  generalize u 27 = u27
  generalize u 29 = u29
  generalize u 30 = u30
  generalize u 31 = u31
  generalize u 32 = u32
  generalize u 33 = u33
  generalize u 34 = u34
  generalize u 36 = u36
  generalize u 37 = u37
  generalize u 38 = u38
  generalize u 39 = u39
  generalize u 41 = u41
  generalize u 42 = u42
  generalize u 43 = u43
  generalize u 44 = u44
  generalize u 45 = u45
  generalize u 46 = u46
  generalize u 47 = u47
  generalize u 48 = u48
  generalize u 49 = u49
  generalize u 50 = u50
  generalize u 51 = u51
  generalize u 52 = u52
  generalize u 53 = u53
  generalize u 54 = u54
  generalize u 55 = u55
  generalize u 56 = u56
  generalize u 57 = u57
  generalize u 58 = u58
  generalize u 59 = u59
  generalize u 60 = u60
  generalize u 61 = u61
  generalize u 62 = u62
  generalize u 63 = u63
  generalize u 64 = u64
  generalize u 65 = u65
  generalize u 66 = u66
  generalize u 67 = u67
  generalize u 68 = u68
  generalize u 69 = u69
  generalize u 70 = u70
  generalize u 71 = u71
  generalize u 72 = u72
  generalize u 73 = u73
  generalize u 74 = u74
  generalize u 75 = u75
  generalize u 76 = u76
  generalize u 77 = u77
  generalize u 78 = u78
  generalize u 79 = u79
  generalize u 80 = u80
  generalize u 81 = u81
  generalize u 82 = u82
  generalize u 83 = u83
  generalize u 84 = u84
  generalize u 85 = u85
  generalize u 86 = u86
  generalize u 87 = u87
  generalize u 88 = u88
  generalize u 89 = u89
  generalize u 90 = u90
  clear u
  have h9 := box_set hB 7 (.int .i64 0)
  have f0 := box_free hB 7
  have c0 := box_cell hB 7 rfl
  go_wp2
  exact HQ.out _ _ ⟨rfl, rfl, rfl, rfl, rfl, rfl, rfl, rfl, rfl, rfl, rfl, rfl, rfl, rfl, rfl, rfl⟩ (by simpa [CM.cells] using h9) ((Touch.refl _ _).setCell ⟨d, 7, none⟩ _ (fun _ => rfl))
set_option maxHeartbeats 8000000 in
set_option maxRecDepth 100000 in
theorem tk_r3 {K : Act → World → Prop} {c : Code} (hc : regOf (Tryd.f6.body.getD .skip) 3 = some c) (a : Act) {v : Vtk} {wq : World} {b : Nat} {x : CM} {T : ByteArray} {er : Int} (hF : Ftk a v) (h3v : v.v3 = .pointer (some ⟨b, 0, none⟩)) (hB : wq.heap[b]? = some (.cells x.cells 23 (0, 0))) (hC : ∀ W, Below wq.heap.size wq W → Calls Tryd.prog 16 #[x.v] W fun e w' => e = .returned (.tuple #[.string T, .int .i64 er]) ∧ Below W.heap.size W w')
    (hQ : ∀ a' w', Ftk a' { v with v8 := .string T, v9 := .int .i64 er } → Below wq.heap.size wq w' → K a' w') :
    Code.wp Tryd.prog c (Exit.then K fun _ _ _ => False) a wq := by
  have HQ := hide hQ
  clear hQ
  obtain ⟨t', d'⟩ := a
  obtain ⟨v0, v1, v2, v3, v6, v7, v8, v9, v11, v12, v14, v28, v35, v40⟩ := v
  simp only at h3v HQ
  subst h3v
  obtain ⟨hs1, hd1, q0, q1, q2, q3, q6, q7, q8, q9, q11, q12, q14, q28, q35, q40⟩ := hF
  obtain ⟨u, hu⟩ := frame_tk t' hs1
  simp only at hd1 q0 q1 q2 q3 q6 q7 q8 q9 q11 q12 q14 q28 q35 q40
  subst hu hd1
  have e0 : u 0 = v0 := q0
  have e1 : u 1 = v1 := q1
  have e2 : u 2 = v2 := q2
  have e3 : u 3 = .pointer (some ⟨b, 0, none⟩) := q3
  have e6 : u 6 = v6 := q6
  have e7 : u 7 = v7 := q7
  have e8 : u 8 = v8 := q8
  have e9 : u 9 = v9 := q9
  have e11 : u 11 = v11 := q11
  have e12 : u 12 = v12 := q12
  have e14 : u 14 = v14 := q14
  have e28 : u 28 = v28 := q28
  have e35 : u 35 = v35 := q35
  have e40 : u 40 = v40 := q40
  rw [e0, e1, e2, e3, e6, e7, e8, e9, e11, e12, e14, e28, e35, e40]
  clear q0 e0 q1 e1 q2 e2 q3 e3 q6 e6 q7 e7 q8 e8 q9 e9 q11 e11 q12 e12 q14 e14 q28 e28 q35 e35 q40 e40 hs1
  simp only [Tryd.f6, Option.getD_some, regOf] at hc
  injection hc with hc
  subst hc
  generalize u 4 = u4
  generalize u 5 = u5
  generalize u 10 = u10
  generalize u 13 = u13
  generalize u 15 = u15
  generalize u 16 = u16
  generalize u 17 = u17
  generalize u 18 = u18
  generalize u 19 = u19
  generalize u 20 = u20
  generalize u 21 = u21
  generalize u 22 = u22
  generalize u 23 = u23
  generalize u 24 = u24
  generalize u 25 = u25
  generalize u 26 = u26
  generalize u 27 = u27
  generalize u 29 = u29
  generalize u 30 = u30
  generalize u 31 = u31
  generalize u 32 = u32
  generalize u 33 = u33
  generalize u 34 = u34
  generalize u 36 = u36
  generalize u 37 = u37
  generalize u 38 = u38
  generalize u 39 = u39
  generalize u 41 = u41
  generalize u 42 = u42
  generalize u 43 = u43
  generalize u 44 = u44
  generalize u 45 = u45
  generalize u 46 = u46
  generalize u 47 = u47
  generalize u 48 = u48
  generalize u 49 = u49
  generalize u 50 = u50
  generalize u 51 = u51
  generalize u 52 = u52
  generalize u 53 = u53
  generalize u 54 = u54
  generalize u 55 = u55
  generalize u 56 = u56
  generalize u 57 = u57
  generalize u 58 = u58
  generalize u 59 = u59
  generalize u 60 = u60
  generalize u 61 = u61
  generalize u 62 = u62
  generalize u 63 = u63
  generalize u 64 = u64
  generalize u 65 = u65
  generalize u 66 = u66
  generalize u 67 = u67
  generalize u 68 = u68
  generalize u 69 = u69
  generalize u 70 = u70
  generalize u 71 = u71
  generalize u 72 = u72
  generalize u 73 = u73
  generalize u 74 = u74
  generalize u 75 = u75
  generalize u 76 = u76
  generalize u 77 = u77
  generalize u 78 = u78
  generalize u 79 = u79
  generalize u 80 = u80
  generalize u 81 = u81
  generalize u 82 = u82
  generalize u 83 = u83
  generalize u 84 = u84
  generalize u 85 = u85
  generalize u 86 = u86
  generalize u 87 = u87
  generalize u 88 = u88
  generalize u 89 = u89
  generalize u 90 = u90
  clear u
  have HC := hide hC
  have c0 := box_cell hB 0 rfl
  have c1 := box_cell hB 1 rfl
  have c2 := box_cell hB 2 rfl
  have c3 := box_cell hB 3 rfl
  have c4 := box_cell hB 4 rfl
  have c5 := box_cell hB 5 rfl
  have c6 := box_cell hB 6 rfl
  have c7 := box_cell hB 7 rfl
  have c8 := box_cell hB 8 rfl
  clear hC hB
  simp only [CM.v, CM.cells] at *
  go_wp2_with (go_at_call 16; refine (HC.out _ (Below.refl _ _)).mono ?_; rintro e w1 ⟨rfl, b1⟩)
  exact HQ.out _ _ ⟨rfl, rfl, rfl, rfl, rfl, rfl, rfl, rfl, rfl, rfl, rfl, rfl, rfl, rfl, rfl, rfl⟩ b1
set_option maxHeartbeats 8000000 in
set_option maxRecDepth 100000 in
theorem tk_r4a {K : Act → World → Prop} {c : Code} (hc : regOf (Tryd.f6.body.getD .skip) 4 = some c) (a : Act) {v : Vtk} {wq : World}  (hF : Ftk a v) (h9v : v.v9 = .int .i64 1) (hQ : ∀ a', Ftk a' { v with v28 := .bool true } → K a' wq) :
    Code.wp Tryd.prog c (Exit.then K fun _ _ _ => False) a wq := by
  have HQ := hide hQ
  clear hQ
  obtain ⟨t', d'⟩ := a
  obtain ⟨v0, v1, v2, v3, v6, v7, v8, v9, v11, v12, v14, v28, v35, v40⟩ := v
  simp only at h9v HQ
  subst h9v
  obtain ⟨hs1, hd1, q0, q1, q2, q3, q6, q7, q8, q9, q11, q12, q14, q28, q35, q40⟩ := hF
  obtain ⟨u, hu⟩ := frame_tk t' hs1
  simp only at hd1 q0 q1 q2 q3 q6 q7 q8 q9 q11 q12 q14 q28 q35 q40
  subst hu hd1
  have e0 : u 0 = v0 := q0
  have e1 : u 1 = v1 := q1
  have e2 : u 2 = v2 := q2
  have e3 : u 3 = v3 := q3
  have e6 : u 6 = v6 := q6
  have e7 : u 7 = v7 := q7
  have e8 : u 8 = v8 := q8
  have e9 : u 9 = .int .i64 1 := q9
  have e11 : u 11 = v11 := q11
  have e12 : u 12 = v12 := q12
  have e14 : u 14 = v14 := q14
  have e28 : u 28 = v28 := q28
  have e35 : u 35 = v35 := q35
  have e40 : u 40 = v40 := q40
  rw [e0, e1, e2, e3, e6, e7, e8, e9, e11, e12, e14, e28, e35, e40]
  clear q0 e0 q1 e1 q2 e2 q3 e3 q6 e6 q7 e7 q8 e8 q9 e9 q11 e11 q12 e12 q14 e14 q28 e28 q35 e35 q40 e40 hs1
  simp only [Tryd.f6, Option.getD_some, regOf] at hc
  injection hc with hc
  subst hc
  generalize u 4 = u4
  generalize u 5 = u5
  generalize u 10 = u10
  generalize u 13 = u13
  generalize u 15 = u15
  generalize u 16 = u16
  generalize u 17 = u17
  generalize u 18 = u18
  generalize u 19 = u19
  generalize u 20 = u20
  generalize u 21 = u21
  generalize u 22 = u22
  generalize u 23 = u23
  generalize u 24 = u24
  generalize u 25 = u25
  generalize u 26 = u26
  generalize u 27 = u27
  generalize u 29 = u29
  generalize u 30 = u30
  generalize u 31 = u31
  generalize u 32 = u32
  generalize u 33 = u33
  generalize u 34 = u34
  generalize u 36 = u36
  generalize u 37 = u37
  generalize u 38 = u38
  generalize u 39 = u39
  generalize u 41 = u41
  generalize u 42 = u42
  generalize u 43 = u43
  generalize u 44 = u44
  generalize u 45 = u45
  generalize u 46 = u46
  generalize u 47 = u47
  generalize u 48 = u48
  generalize u 49 = u49
  generalize u 50 = u50
  generalize u 51 = u51
  generalize u 52 = u52
  generalize u 53 = u53
  generalize u 54 = u54
  generalize u 55 = u55
  generalize u 56 = u56
  generalize u 57 = u57
  generalize u 58 = u58
  generalize u 59 = u59
  generalize u 60 = u60
  generalize u 61 = u61
  generalize u 62 = u62
  generalize u 63 = u63
  generalize u 64 = u64
  generalize u 65 = u65
  generalize u 66 = u66
  generalize u 67 = u67
  generalize u 68 = u68
  generalize u 69 = u69
  generalize u 70 = u70
  generalize u 71 = u71
  generalize u 72 = u72
  generalize u 73 = u73
  generalize u 74 = u74
  generalize u 75 = u75
  generalize u 76 = u76
  generalize u 77 = u77
  generalize u 78 = u78
  generalize u 79 = u79
  generalize u 80 = u80
  generalize u 81 = u81
  generalize u 82 = u82
  generalize u 83 = u83
  generalize u 84 = u84
  generalize u 85 = u85
  generalize u 86 = u86
  generalize u 87 = u87
  generalize u 88 = u88
  generalize u 89 = u89
  generalize u 90 = u90
  clear u
  go_wp2
  exact HQ.out _ ⟨rfl, rfl, rfl, rfl, rfl, rfl, rfl, rfl, rfl, rfl, rfl, rfl, rfl, rfl, rfl, rfl⟩
set_option maxHeartbeats 8000000 in
set_option maxRecDepth 100000 in
theorem tk_r4b {K : Act → World → Prop} {c : Code} (hc : regOf (Tryd.f6.body.getD .skip) 4 = some c) (a : Act) {v : Vtk} {wq : World} {F : ByteArray} (hF : Ftk a v) (h8v : v.v8 = .string F) (h9v : v.v9 = .int .i64 0) (h8 : 8 ≤ F.size) (h6 : F.size ≤ 9223372036854775807)
    (hQ : ∀ a', Ftk a' { v with v28 := .bool false } → K a' wq) :
    Code.wp Tryd.prog c (Exit.then K fun _ _ _ => False) a wq := by
  have HQ := hide hQ
  clear hQ
  obtain ⟨t', d'⟩ := a
  obtain ⟨v0, v1, v2, v3, v6, v7, v8, v9, v11, v12, v14, v28, v35, v40⟩ := v
  simp only at h8v h9v HQ
  subst h8v h9v
  obtain ⟨hs1, hd1, q0, q1, q2, q3, q6, q7, q8, q9, q11, q12, q14, q28, q35, q40⟩ := hF
  obtain ⟨u, hu⟩ := frame_tk t' hs1
  simp only at hd1 q0 q1 q2 q3 q6 q7 q8 q9 q11 q12 q14 q28 q35 q40
  subst hu hd1
  have e0 : u 0 = v0 := q0
  have e1 : u 1 = v1 := q1
  have e2 : u 2 = v2 := q2
  have e3 : u 3 = v3 := q3
  have e6 : u 6 = v6 := q6
  have e7 : u 7 = v7 := q7
  have e8 : u 8 = .string F := q8
  have e9 : u 9 = .int .i64 0 := q9
  have e11 : u 11 = v11 := q11
  have e12 : u 12 = v12 := q12
  have e14 : u 14 = v14 := q14
  have e28 : u 28 = v28 := q28
  have e35 : u 35 = v35 := q35
  have e40 : u 40 = v40 := q40
  rw [e0, e1, e2, e3, e6, e7, e8, e9, e11, e12, e14, e28, e35, e40]
  clear q0 e0 q1 e1 q2 e2 q3 e3 q6 e6 q7 e7 q8 e8 q9 e9 q11 e11 q12 e12 q14 e14 q28 e28 q35 e35 q40 e40 hs1
  simp only [Tryd.f6, Option.getD_some, regOf] at hc
  injection hc with hc
  subst hc
  generalize u 4 = u4
  generalize u 5 = u5
  generalize u 10 = u10
  generalize u 13 = u13
  generalize u 15 = u15
  generalize u 16 = u16
  generalize u 17 = u17
  generalize u 18 = u18
  generalize u 19 = u19
  generalize u 20 = u20
  generalize u 21 = u21
  generalize u 22 = u22
  generalize u 23 = u23
  generalize u 24 = u24
  generalize u 25 = u25
  generalize u 26 = u26
  generalize u 27 = u27
  generalize u 29 = u29
  generalize u 30 = u30
  generalize u 31 = u31
  generalize u 32 = u32
  generalize u 33 = u33
  generalize u 34 = u34
  generalize u 36 = u36
  generalize u 37 = u37
  generalize u 38 = u38
  generalize u 39 = u39
  generalize u 41 = u41
  generalize u 42 = u42
  generalize u 43 = u43
  generalize u 44 = u44
  generalize u 45 = u45
  generalize u 46 = u46
  generalize u 47 = u47
  generalize u 48 = u48
  generalize u 49 = u49
  generalize u 50 = u50
  generalize u 51 = u51
  generalize u 52 = u52
  generalize u 53 = u53
  generalize u 54 = u54
  generalize u 55 = u55
  generalize u 56 = u56
  generalize u 57 = u57
  generalize u 58 = u58
  generalize u 59 = u59
  generalize u 60 = u60
  generalize u 61 = u61
  generalize u 62 = u62
  generalize u 63 = u63
  generalize u 64 = u64
  generalize u 65 = u65
  generalize u 66 = u66
  generalize u 67 = u67
  generalize u 68 = u68
  generalize u 69 = u69
  generalize u 70 = u70
  generalize u 71 = u71
  generalize u 72 = u72
  generalize u 73 = u73
  generalize u 74 = u74
  generalize u 75 = u75
  generalize u 76 = u76
  generalize u 77 = u77
  generalize u 78 = u78
  generalize u 79 = u79
  generalize u 80 = u80
  generalize u 81 = u81
  generalize u 82 = u82
  generalize u 83 = u83
  generalize u 84 = u84
  generalize u 85 = u85
  generalize u 86 = u86
  generalize u 87 = u87
  generalize u 88 = u88
  generalize u 89 = u89
  generalize u 90 = u90
  clear u
  have e1 : ¬ (F.size : Int) < 8 := by omega
  go_wp2
  exact HQ.out _ ⟨rfl, rfl, rfl, rfl, rfl, rfl, rfl, rfl, rfl, rfl, rfl, rfl, rfl, rfl, rfl, rfl⟩
set_option maxHeartbeats 8000000 in
set_option maxRecDepth 100000 in
theorem tk_r5 {K : Act → World → Prop} {c : Code} (hc : regOf (Tryd.f6.body.getD .skip) 5 = some c) (a : Act) {v : Vtk} {wq : World}  (hF : Ftk a v) (h7v : v.v7 = .bool true) (h9v : v.v9 = .int .i64 1) (hQ : ∀ a', Ftk a' { v with v6 := .bool true } → K a' wq) :
    Code.wp Tryd.prog c (Exit.then K fun _ _ _ => False) a wq := by
  have HQ := hide hQ
  clear hQ
  obtain ⟨t', d'⟩ := a
  obtain ⟨v0, v1, v2, v3, v6, v7, v8, v9, v11, v12, v14, v28, v35, v40⟩ := v
  simp only at h7v h9v HQ
  subst h7v h9v
  obtain ⟨hs1, hd1, q0, q1, q2, q3, q6, q7, q8, q9, q11, q12, q14, q28, q35, q40⟩ := hF
  obtain ⟨u, hu⟩ := frame_tk t' hs1
  simp only at hd1 q0 q1 q2 q3 q6 q7 q8 q9 q11 q12 q14 q28 q35 q40
  subst hu hd1
  have e0 : u 0 = v0 := q0
  have e1 : u 1 = v1 := q1
  have e2 : u 2 = v2 := q2
  have e3 : u 3 = v3 := q3
  have e6 : u 6 = v6 := q6
  have e7 : u 7 = .bool true := q7
  have e8 : u 8 = v8 := q8
  have e9 : u 9 = .int .i64 1 := q9
  have e11 : u 11 = v11 := q11
  have e12 : u 12 = v12 := q12
  have e14 : u 14 = v14 := q14
  have e28 : u 28 = v28 := q28
  have e35 : u 35 = v35 := q35
  have e40 : u 40 = v40 := q40
  rw [e0, e1, e2, e3, e6, e7, e8, e9, e11, e12, e14, e28, e35, e40]
  clear q0 e0 q1 e1 q2 e2 q3 e3 q6 e6 q7 e7 q8 e8 q9 e9 q11 e11 q12 e12 q14 e14 q28 e28 q35 e35 q40 e40 hs1
  simp only [Tryd.f6, Option.getD_some, regOf] at hc
  injection hc with hc
  subst hc
  generalize u 4 = u4
  generalize u 5 = u5
  generalize u 10 = u10
  generalize u 13 = u13
  generalize u 15 = u15
  generalize u 16 = u16
  generalize u 17 = u17
  generalize u 18 = u18
  generalize u 19 = u19
  generalize u 20 = u20
  generalize u 21 = u21
  generalize u 22 = u22
  generalize u 23 = u23
  generalize u 24 = u24
  generalize u 25 = u25
  generalize u 26 = u26
  generalize u 27 = u27
  generalize u 29 = u29
  generalize u 30 = u30
  generalize u 31 = u31
  generalize u 32 = u32
  generalize u 33 = u33
  generalize u 34 = u34
  generalize u 36 = u36
  generalize u 37 = u37
  generalize u 38 = u38
  generalize u 39 = u39
  generalize u 41 = u41
  generalize u 42 = u42
  generalize u 43 = u43
  generalize u 44 = u44
  generalize u 45 = u45
  generalize u 46 = u46
  generalize u 47 = u47
  generalize u 48 = u48
  generalize u 49 = u49
  generalize u 50 = u50
  generalize u 51 = u51
  generalize u 52 = u52
  generalize u 53 = u53
  generalize u 54 = u54
  generalize u 55 = u55
  generalize u 56 = u56
  generalize u 57 = u57
  generalize u 58 = u58
  generalize u 59 = u59
  generalize u 60 = u60
  generalize u 61 = u61
  generalize u 62 = u62
  generalize u 63 = u63
  generalize u 64 = u64
  generalize u 65 = u65
  generalize u 66 = u66
  generalize u 67 = u67
  generalize u 68 = u68
  generalize u 69 = u69
  generalize u 70 = u70
  generalize u 71 = u71
  generalize u 72 = u72
  generalize u 73 = u73
  generalize u 74 = u74
  generalize u 75 = u75
  generalize u 76 = u76
  generalize u 77 = u77
  generalize u 78 = u78
  generalize u 79 = u79
  generalize u 80 = u80
  generalize u 81 = u81
  generalize u 82 = u82
  generalize u 83 = u83
  generalize u 84 = u84
  generalize u 85 = u85
  generalize u 86 = u86
  generalize u 87 = u87
  generalize u 88 = u88
  generalize u 89 = u89
  generalize u 90 = u90
  clear u
  go_wp2
  exact HQ.out _ ⟨rfl, rfl, rfl, rfl, rfl, rfl, rfl, rfl, rfl, rfl, rfl, rfl, rfl, rfl, rfl, rfl⟩
set_option maxHeartbeats 8000000 in
set_option maxRecDepth 100000 in
theorem tk_r6 {K : Act → World → Prop} {c : Code} (hc : regOf (Tryd.f6.body.getD .skip) 6 = some c) (a : Act) {v : Vtk} {wq : World} {k : Int} {bb : Bool} (hF : Ftk a v) (h1v : v.v1 = .int .i64 k) (hz : decide (k < 0) = bb)
    (hQ : ∀ a', Ftk a' { v with v35 := .bool bb } → K a' wq) :
    Code.wp Tryd.prog c (Exit.then K fun _ _ _ => False) a wq := by
  have HQ := hide hQ
  clear hQ
  obtain ⟨t', d'⟩ := a
  obtain ⟨v0, v1, v2, v3, v6, v7, v8, v9, v11, v12, v14, v28, v35, v40⟩ := v
  simp only at h1v HQ
  subst h1v
  obtain ⟨hs1, hd1, q0, q1, q2, q3, q6, q7, q8, q9, q11, q12, q14, q28, q35, q40⟩ := hF
  obtain ⟨u, hu⟩ := frame_tk t' hs1
  simp only at hd1 q0 q1 q2 q3 q6 q7 q8 q9 q11 q12 q14 q28 q35 q40
  subst hu hd1
  have e0 : u 0 = v0 := q0
  have e1 : u 1 = .int .i64 k := q1
  have e2 : u 2 = v2 := q2
  have e3 : u 3 = v3 := q3
  have e6 : u 6 = v6 := q6
  have e7 : u 7 = v7 := q7
  have e8 : u 8 = v8 := q8
  have e9 : u 9 = v9 := q9
  have e11 : u 11 = v11 := q11
  have e12 : u 12 = v12 := q12
  have e14 : u 14 = v14 := q14
  have e28 : u 28 = v28 := q28
  have e35 : u 35 = v35 := q35
  have e40 : u 40 = v40 := q40
  rw [e0, e1, e2, e3, e6, e7, e8, e9, e11, e12, e14, e28, e35, e40]
  clear q0 e0 q1 e1 q2 e2 q3 e3 q6 e6 q7 e7 q8 e8 q9 e9 q11 e11 q12 e12 q14 e14 q28 e28 q35 e35 q40 e40 hs1
  simp only [Tryd.f6, Option.getD_some, regOf] at hc
  injection hc with hc
  subst hc
  generalize u 4 = u4
  generalize u 5 = u5
  generalize u 10 = u10
  generalize u 13 = u13
  generalize u 15 = u15
  generalize u 16 = u16
  generalize u 17 = u17
  generalize u 18 = u18
  generalize u 19 = u19
  generalize u 20 = u20
  generalize u 21 = u21
  generalize u 22 = u22
  generalize u 23 = u23
  generalize u 24 = u24
  generalize u 25 = u25
  generalize u 26 = u26
  generalize u 27 = u27
  generalize u 29 = u29
  generalize u 30 = u30
  generalize u 31 = u31
  generalize u 32 = u32
  generalize u 33 = u33
  generalize u 34 = u34
  generalize u 36 = u36
  generalize u 37 = u37
  generalize u 38 = u38
  generalize u 39 = u39
  generalize u 41 = u41
  generalize u 42 = u42
  generalize u 43 = u43
  generalize u 44 = u44
  generalize u 45 = u45
  generalize u 46 = u46
  generalize u 47 = u47
  generalize u 48 = u48
  generalize u 49 = u49
  generalize u 50 = u50
  generalize u 51 = u51
  generalize u 52 = u52
  generalize u 53 = u53
  generalize u 54 = u54
  generalize u 55 = u55
  generalize u 56 = u56
  generalize u 57 = u57
  generalize u 58 = u58
  generalize u 59 = u59
  generalize u 60 = u60
  generalize u 61 = u61
  generalize u 62 = u62
  generalize u 63 = u63
  generalize u 64 = u64
  generalize u 65 = u65
  generalize u 66 = u66
  generalize u 67 = u67
  generalize u 68 = u68
  generalize u 69 = u69
  generalize u 70 = u70
  generalize u 71 = u71
  generalize u 72 = u72
  generalize u 73 = u73
  generalize u 74 = u74
  generalize u 75 = u75
  generalize u 76 = u76
  generalize u 77 = u77
  generalize u 78 = u78
  generalize u 79 = u79
  generalize u 80 = u80
  generalize u 81 = u81
  generalize u 82 = u82
  generalize u 83 = u83
  generalize u 84 = u84
  generalize u 85 = u85
  generalize u 86 = u86
  generalize u 87 = u87
  generalize u 88 = u88
  generalize u 89 = u89
  generalize u 90 = u90
  clear u
  cases bb
  · have h : ¬ k < 0 := of_decide_eq_false hz
    clear hz
    go_wp2
    exact HQ.out _ ⟨rfl, rfl, rfl, rfl, rfl, rfl, rfl, rfl, rfl, rfl, rfl, rfl, rfl, rfl, rfl, rfl⟩
  · have h : k < 0 := of_decide_eq_true hz
    clear hz
    go_wp2
    exact HQ.out _ ⟨rfl, rfl, rfl, rfl, rfl, rfl, rfl, rfl, rfl, rfl, rfl, rfl, rfl, rfl, rfl, rfl⟩
set_option maxHeartbeats 8000000 in
set_option maxRecDepth 100000 in
theorem tk_r7 {K : Act → World → Prop} {c : Code} (hc : regOf (Tryd.f6.body.getD .skip) 7 = some c) (a : Act) {v : Vtk} {wq : World} {cn : Nat} (hF : Ftk a v) (h1v : v.v1 = .int .i64 (-(cn : Int) - 1)) (hcn : cn ≤ 9223372036854775807)
    (hQ : ∀ a', Ftk a' { v with v1 := .int .i64 (cn : Int) } → K a' wq) :
    Code.wp Tryd.prog c (Exit.then K fun _ _ _ => False) a wq := by
  have HQ := hide hQ
  clear hQ
  obtain ⟨t', d'⟩ := a
  obtain ⟨v0, v1, v2, v3, v6, v7, v8, v9, v11, v12, v14, v28, v35, v40⟩ := v
  simp only at h1v HQ
  subst h1v
  obtain ⟨hs1, hd1, q0, q1, q2, q3, q6, q7, q8, q9, q11, q12, q14, q28, q35, q40⟩ := hF
  obtain ⟨u, hu⟩ := frame_tk t' hs1
  simp only at hd1 q0 q1 q2 q3 q6 q7 q8 q9 q11 q12 q14 q28 q35 q40
  subst hu hd1
  have e0 : u 0 = v0 := q0
  have e1 : u 1 = .int .i64 (-(cn : Int) - 1) := q1
  have e2 : u 2 = v2 := q2
  have e3 : u 3 = v3 := q3
  have e6 : u 6 = v6 := q6
  have e7 : u 7 = v7 := q7
  have e8 : u 8 = v8 := q8
  have e9 : u 9 = v9 := q9
  have e11 : u 11 = v11 := q11
  have e12 : u 12 = v12 := q12
  have e14 : u 14 = v14 := q14
  have e28 : u 28 = v28 := q28
  have e35 : u 35 = v35 := q35
  have e40 : u 40 = v40 := q40
  rw [e0, e1, e2, e3, e6, e7, e8, e9, e11, e12, e14, e28, e35, e40]
  clear q0 e0 q1 e1 q2 e2 q3 e3 q6 e6 q7 e7 q8 e8 q9 e9 q11 e11 q12 e12 q14 e14 q28 e28 q35 e35 q40 e40 hs1
  simp only [Tryd.f6, Option.getD_some, regOf] at hc
  injection hc with hc
  subst hc
  generalize u 4 = u4
  generalize u 5 = u5
  generalize u 10 = u10
  generalize u 13 = u13
  generalize u 15 = u15
  generalize u 16 = u16
  generalize u 17 = u17
  generalize u 18 = u18
  generalize u 19 = u19
  generalize u 20 = u20
  generalize u 21 = u21
  generalize u 22 = u22
  generalize u 23 = u23
  generalize u 24 = u24
  generalize u 25 = u25
  generalize u 26 = u26
  generalize u 27 = u27
  generalize u 29 = u29
  generalize u 30 = u30
  generalize u 31 = u31
  generalize u 32 = u32
  generalize u 33 = u33
  generalize u 34 = u34
  generalize u 36 = u36
  generalize u 37 = u37
  generalize u 38 = u38
  generalize u 39 = u39
  generalize u 41 = u41
  generalize u 42 = u42
  generalize u 43 = u43
  generalize u 44 = u44
  generalize u 45 = u45
  generalize u 46 = u46
  generalize u 47 = u47
  generalize u 48 = u48
  generalize u 49 = u49
  generalize u 50 = u50
  generalize u 51 = u51
  generalize u 52 = u52
  generalize u 53 = u53
  generalize u 54 = u54
  generalize u 55 = u55
  generalize u 56 = u56
  generalize u 57 = u57
  generalize u 58 = u58
  generalize u 59 = u59
  generalize u 60 = u60
  generalize u 61 = u61
  generalize u 62 = u62
  generalize u 63 = u63
  generalize u 64 = u64
  generalize u 65 = u65
  generalize u 66 = u66
  generalize u 67 = u67
  generalize u 68 = u68
  generalize u 69 = u69
  generalize u 70 = u70
  generalize u 71 = u71
  generalize u 72 = u72
  generalize u 73 = u73
  generalize u 74 = u74
  generalize u 75 = u75
  generalize u 76 = u76
  generalize u 77 = u77
  generalize u 78 = u78
  generalize u 79 = u79
  generalize u 80 = u80
  generalize u 81 = u81
  generalize u 82 = u82
  generalize u 83 = u83
  generalize u 84 = u84
  generalize u 85 = u85
  generalize u 86 = u86
  generalize u 87 = u87
  generalize u 88 = u88
  generalize u 89 = u89
  generalize u 90 = u90
  clear u
  have e1 : wrap64 (-(cn : Int) - 1 + 1) = -(cn : Int) := by unfold wrap64; omega
  have e2 : wrap64 (- -(cn : Int)) = (cn : Int) := by unfold wrap64; omega
  have e3 : wrap64 (-(cn : Int)) = -(cn : Int) := by unfold wrap64; omega
  go_wp2
  first
    | exact HQ.out _ ⟨rfl, rfl, rfl, rfl, rfl, rfl, rfl, rfl, rfl, rfl, rfl, rfl, rfl, rfl, rfl, rfl⟩
    | exact HQ.out _ ⟨rfl, rfl, rfl, (by simp [Array.getD, e1, e2, e3]), rfl, rfl, rfl, rfl, rfl, rfl, rfl, rfl, rfl, rfl, rfl, rfl⟩
set_option maxHeartbeats 8000000 in
set_option maxRecDepth 100000 in
theorem tk_r8 {K : Act → World → Prop} {c : Code} (hc : regOf (Tryd.f6.body.getD .skip) 8 = some c) (a : Act) {v : Vtk} {wq : World} {k : Int} {bb : Bool} (hF : Ftk a v) (h2v : v.v2 = .int .i64 k) (hz : decide (k < 0) = bb)
    (hQ : ∀ a', Ftk a' { v with v40 := .bool bb } → K a' wq) :
    Code.wp Tryd.prog c (Exit.then K fun _ _ _ => False) a wq := by
  have HQ := hide hQ
  clear hQ
  obtain ⟨t', d'⟩ := a
  obtain ⟨v0, v1, v2, v3, v6, v7, v8, v9, v11, v12, v14, v28, v35, v40⟩ := v
  simp only at h2v HQ
  subst h2v
  obtain ⟨hs1, hd1, q0, q1, q2, q3, q6, q7, q8, q9, q11, q12, q14, q28, q35, q40⟩ := hF
  obtain ⟨u, hu⟩ := frame_tk t' hs1
  simp only at hd1 q0 q1 q2 q3 q6 q7 q8 q9 q11 q12 q14 q28 q35 q40
  subst hu hd1
  have e0 : u 0 = v0 := q0
  have e1 : u 1 = v1 := q1
  have e2 : u 2 = .int .i64 k := q2
  have e3 : u 3 = v3 := q3
  have e6 : u 6 = v6 := q6
  have e7 : u 7 = v7 := q7
  have e8 : u 8 = v8 := q8
  have e9 : u 9 = v9 := q9
  have e11 : u 11 = v11 := q11
  have e12 : u 12 = v12 := q12
  have e14 : u 14 = v14 := q14
  have e28 : u 28 = v28 := q28
  have e35 : u 35 = v35 := q35
  have e40 : u 40 = v40 := q40
  rw [e0, e1, e2, e3, e6, e7, e8, e9, e11, e12, e14, e28, e35, e40]
  clear q0 e0 q1 e1 q2 e2 q3 e3 q6 e6 q7 e7 q8 e8 q9 e9 q11 e11 q12 e12 q14 e14 q28 e28 q35 e35 q40 e40 hs1
  simp only [Tryd.f6, Option.getD_some, regOf] at hc
  injection hc with hc
  subst hc
  generalize u 4 = u4
  generalize u 5 = u5
  generalize u 10 = u10
  generalize u 13 = u13
  generalize u 15 = u15
  generalize u 16 = u16
  generalize u 17 = u17
  generalize u 18 = u18
  generalize u 19 = u19
  generalize u 20 = u20
  generalize u 21 = u21
  generalize u 22 = u22
  generalize u 23 = u23
  generalize u 24 = u24
  generalize u 25 = u25
  generalize u 26 = u26
  generalize u 27 = u27
  generalize u 29 = u29
  generalize u 30 = u30
  generalize u 31 = u31
  generalize u 32 = u32
  generalize u 33 = u33
  generalize u 34 = u34
  generalize u 36 = u36
  generalize u 37 = u37
  generalize u 38 = u38
  generalize u 39 = u39
  generalize u 41 = u41
  generalize u 42 = u42
  generalize u 43 = u43
  generalize u 44 = u44
  generalize u 45 = u45
  generalize u 46 = u46
  generalize u 47 = u47
  generalize u 48 = u48
  generalize u 49 = u49
  generalize u 50 = u50
  generalize u 51 = u51
  generalize u 52 = u52
  generalize u 53 = u53
  generalize u 54 = u54
  generalize u 55 = u55
  generalize u 56 = u56
  generalize u 57 = u57
  generalize u 58 = u58
  generalize u 59 = u59
  generalize u 60 = u60
  generalize u 61 = u61
  generalize u 62 = u62
  generalize u 63 = u63
  generalize u 64 = u64
  generalize u 65 = u65
  generalize u 66 = u66
  generalize u 67 = u67
  generalize u 68 = u68
  generalize u 69 = u69
  generalize u 70 = u70
  generalize u 71 = u71
  generalize u 72 = u72
  generalize u 73 = u73
  generalize u 74 = u74
  generalize u 75 = u75
  generalize u 76 = u76
  generalize u 77 = u77
  generalize u 78 = u78
  generalize u 79 = u79
  generalize u 80 = u80
  generalize u 81 = u81
  generalize u 82 = u82
  generalize u 83 = u83
  generalize u 84 = u84
  generalize u 85 = u85
  generalize u 86 = u86
  generalize u 87 = u87
  generalize u 88 = u88
  generalize u 89 = u89
  generalize u 90 = u90
  clear u
  cases bb
  · have h : ¬ k < 0 := of_decide_eq_false hz
    clear hz
    go_wp2
    exact HQ.out _ ⟨rfl, rfl, rfl, rfl, rfl, rfl, rfl, rfl, rfl, rfl, rfl, rfl, rfl, rfl, rfl, rfl⟩
  · have h : k < 0 := of_decide_eq_true hz
    clear hz
    go_wp2
    exact HQ.out _ ⟨rfl, rfl, rfl, rfl, rfl, rfl, rfl, rfl, rfl, rfl, rfl, rfl, rfl, rfl, rfl, rfl⟩
set_option maxHeartbeats 8000000 in
set_option maxRecDepth 100000 in
theorem tk_r9 {K : Act → World → Prop} {c : Code} (hc : regOf (Tryd.f6.body.getD .skip) 9 = some c) (a : Act) {v : Vtk} {wq : World} {cn : Nat} (hF : Ftk a v) (h2v : v.v2 = .int .i64 (-(cn : Int) - 1)) (hcn : cn ≤ 9223372036854775807)
    (hQ : ∀ a', Ftk a' { v with v2 := .int .i64 (cn : Int) } → K a' wq) :
    Code.wp Tryd.prog c (Exit.then K fun _ _ _ => False) a wq := by
  have HQ := hide hQ
  clear hQ
  obtain ⟨t', d'⟩ := a
  obtain ⟨v0, v1, v2, v3, v6, v7, v8, v9, v11, v12, v14, v28, v35, v40⟩ := v
  simp only at h2v HQ
  subst h2v
  obtain ⟨hs1, hd1, q0, q1, q2, q3, q6, q7, q8, q9, q11, q12, q14, q28, q35, q40⟩ := hF
  obtain ⟨u, hu⟩ := frame_tk t' hs1
  simp only at hd1 q0 q1 q2 q3 q6 q7 q8 q9 q11 q12 q14 q28 q35 q40
  subst hu hd1
  have e0 : u 0 = v0 := q0
  have e1 : u 1 = v1 := q1
  have e2 : u 2 = .int .i64 (-(cn : Int) - 1) := q2
  have e3 : u 3 = v3 := q3
  have e6 : u 6 = v6 := q6
  have e7 : u 7 = v7 := q7
  have e8 : u 8 = v8 := q8
  have e9 : u 9 = v9 := q9
  have e11 : u 11 = v11 := q11
  have e12 : u 12 = v12 := q12
  have e14 : u 14 = v14 := q14
  have e28 : u 28 = v28 := q28
  have e35 : u 35 = v35 := q35
  have e40 : u 40 = v40 := q40
  rw [e0, e1, e2, e3, e6, e7, e8, e9, e11, e12, e14, e28, e35, e40]
  clear q0 e0 q1 e1 q2 e2 q3 e3 q6 e6 q7 e7 q8 e8 q9 e9 q11 e11 q12 e12 q14 e14 q28 e28 q35 e35 q40 e40 hs1
  simp only [Tryd.f6, Option.getD_some, regOf] at hc
  injection hc with hc
  subst hc
  generalize u 4 = u4
  generalize u 5 = u5
  generalize u 10 = u10
  generalize u 13 = u13
  generalize u 15 = u15
  generalize u 16 = u16
  generalize u 17 = u17
  generalize u 18 = u18
  generalize u 19 = u19
  generalize u 20 = u20
  generalize u 21 = u21
  generalize u 22 = u22
  generalize u 23 = u23
  generalize u 24 = u24
  generalize u 25 = u25
  generalize u 26 = u26
  generalize u 27 = u27
  generalize u 29 = u29
  generalize u 30 = u30
  generalize u 31 = u31
  generalize u 32 = u32
  generalize u 33 = u33
  generalize u 34 = u34
  generalize u 36 = u36
  generalize u 37 = u37
  generalize u 38 = u38
  generalize u 39 = u39
  generalize u 41 = u41
  generalize u 42 = u42
  generalize u 43 = u43
  generalize u 44 = u44
  generalize u 45 = u45
  generalize u 46 = u46
  generalize u 47 = u47
  generalize u 48 = u48
  generalize u 49 = u49
  generalize u 50 = u50
  generalize u 51 = u51
  generalize u 52 = u52
  generalize u 53 = u53
  generalize u 54 = u54
  generalize u 55 = u55
  generalize u 56 = u56
  generalize u 57 = u57
  generalize u 58 = u58
  generalize u 59 = u59
  generalize u 60 = u60
  generalize u 61 = u61
  generalize u 62 = u62
  generalize u 63 = u63
  generalize u 64 = u64
  generalize u 65 = u65
  generalize u 66 = u66
  generalize u 67 = u67
  generalize u 68 = u68
  generalize u 69 = u69
  generalize u 70 = u70
  generalize u 71 = u71
  generalize u 72 = u72
  generalize u 73 = u73
  generalize u 74 = u74
  generalize u 75 = u75
  generalize u 76 = u76
  generalize u 77 = u77
  generalize u 78 = u78
  generalize u 79 = u79
  generalize u 80 = u80
  generalize u 81 = u81
  generalize u 82 = u82
  generalize u 83 = u83
  generalize u 84 = u84
  generalize u 85 = u85
  generalize u 86 = u86
  generalize u 87 = u87
  generalize u 88 = u88
  generalize u 89 = u89
  generalize u 90 = u90
  clear u
  have e1 : wrap64 (-(cn : Int) - 1 + 1) = -(cn : Int) := by unfold wrap64; omega
  have e2 : wrap64 (- -(cn : Int)) = (cn : Int) := by unfold wrap64; omega
  have e3 : wrap64 (-(cn : Int)) = -(cn : Int) := by unfold wrap64; omega
  go_wp2
  first
    | exact HQ.out _ ⟨rfl, rfl, rfl, rfl, rfl, rfl, rfl, rfl, rfl, rfl, rfl, rfl, rfl, rfl, rfl, rfl⟩
    | exact HQ.out _ ⟨rfl, rfl, rfl, rfl, (by simp [Array.getD, e1, e2, e3]), rfl, rfl, rfl, rfl, rfl, rfl, rfl, rfl, rfl, rfl, rfl⟩
set_option maxHeartbeats 8000000 in
set_option maxRecDepth 100000 in
theorem tk_r10 {K : Act → World → Prop} {c : Code} (hc : regOf (Tryd.f6.body.getD .skip) 10 = some c) (a : Act) {v : Vtk} {wq : World} {F : ByteArray} {cn j : Nat} {x : CM} {er : Int} (hF : Ftk a v) (h8v : v.v8 = .string F) (h1v : v.v1 = .int .i64 (cn : Int)) (h8 : 8 ≤ F.size) (h6 : F.size ≤ 9223372036854775807) (hj : (cn : Int) % (F.size : Int) = (j : Int)) (hjl : j < F.size) (hC : ∀ W, Below wq.heap.size wq W → Calls Tryd.prog 17 #[.string (F.extract 0 j)] W fun e w' => e = .returned (.tuple #[x.v, .int .i64 er]) ∧ Below W.heap.size W w')
    (hQ : ∀ a' w', Ftk a' { v with v11 := .int .i64 er } → Below wq.heap.size wq w' → K a' w') :
    Code.wp Tryd.prog c (Exit.then K fun _ _ _ => False) a wq := by
  have HQ := hide hQ
  clear hQ
  obtain ⟨t', d'⟩ := a
  obtain ⟨v0, v1, v2, v3, v6, v7, v8, v9, v11, v12, v14, v28, v35, v40⟩ := v
  simp only at h8v h1v HQ
  subst h8v h1v
  obtain ⟨hs1, hd1, q0, q1, q2, q3, q6, q7, q8, q9, q11, q12, q14, q28, q35, q40⟩ := hF
  obtain ⟨u, hu⟩ := frame_tk t' hs1
  simp only at hd1 q0 q1 q2 q3 q6 q7 q8 q9 q11 q12 q14 q28 q35 q40
  subst hu hd1
  have e0 : u 0 = v0 := q0
  have e1 : u 1 = .int .i64 (cn : Int) := q1
  have e2 : u 2 = v2 := q2
  have e3 : u 3 = v3 := q3
  have e6 : u 6 = v6 := q6
  have e7 : u 7 = v7 := q7
  have e8 : u 8 = .string F := q8
  have e9 : u 9 = v9 := q9
  have e11 : u 11 = v11 := q11
  have e12 : u 12 = v12 := q12
  have e14 : u 14 = v14 := q14
  have e28 : u 28 = v28 := q28
  have e35 : u 35 = v35 := q35
  have e40 : u 40 = v40 := q40
  rw [e0, e1, e2, e3, e6, e7, e8, e9, e11, e12, e14, e28, e35, e40]
  clear q0 e0 q1 e1 q2 e2 q3 e3 q6 e6 q7 e7 q8 e8 q9 e9 q11 e11 q12 e12 q14 e14 q28 e28 q35 e35 q40 e40 hs1
  simp only [Tryd.f6, Option.getD_some, regOf] at hc
  injection hc with hc
  subst hc
  generalize u 4 = u4
  generalize u 5 = u5
  generalize u 10 = u10
  generalize u 13 = u13
  generalize u 15 = u15
  generalize u 16 = u16
  generalize u 17 = u17
  generalize u 18 = u18
  generalize u 19 = u19
  generalize u 20 = u20
  generalize u 21 = u21
  generalize u 22 = u22
  generalize u 23 = u23
  generalize u 24 = u24
  generalize u 25 = u25
  generalize u 26 = u26
  generalize u 27 = u27
  generalize u 29 = u29
  generalize u 30 = u30
  generalize u 31 = u31
  generalize u 32 = u32
  generalize u 33 = u33
  generalize u 34 = u34
  generalize u 36 = u36
  generalize u 37 = u37
  generalize u 38 = u38
  generalize u 39 = u39
  generalize u 41 = u41
  generalize u 42 = u42
  generalize u 43 = u43
  generalize u 44 = u44
  generalize u 45 = u45
  generalize u 46 = u46
  generalize u 47 = u47
  generalize u 48 = u48
  generalize u 49 = u49
  generalize u 50 = u50
  generalize u 51 = u51
  generalize u 52 = u52
  generalize u 53 = u53
  generalize u 54 = u54
  generalize u 55 = u55
  generalize u 56 = u56
  generalize u 57 = u57
  generalize u 58 = u58
  generalize u 59 = u59
  generalize u 60 = u60
  generalize u 61 = u61
  generalize u 62 = u62
  generalize u 63 = u63
  generalize u 64 = u64
  generalize u 65 = u65
  generalize u 66 = u66
  generalize u 67 = u67
  generalize u 68 = u68
  generalize u 69 = u69
  generalize u 70 = u70
  generalize u 71 = u71
  generalize u 72 = u72
  generalize u 73 = u73
  generalize u 74 = u74
  generalize u 75 = u75
  generalize u 76 = u76
  generalize u 77 = u77
  generalize u 78 = u78
  generalize u 79 = u79
  generalize u 80 = u80
  generalize u 81 = u81
  generalize u 82 = u82
  generalize u 83 = u83
  generalize u 84 = u84
  generalize u 85 = u85
  generalize u 86 = u86
  generalize u 87 = u87
  generalize u 88 = u88
  generalize u 89 = u89
  generalize u 90 = u90
  clear u
  have HC := hide hC
  have e1 : (F.size : Int) ≠ 0 := by omega
  have e2 : ((F.size : Int) == 0) = false := by rw [beq_eq_false_iff_ne]; exact e1
  have e3 : (j : Int) ≤ (F.size : Int) := by omega
  have e4 : (0 : Int) < (F.size : Int) := by omega
  have e5 : j ≤ F.size := by omega
  clear hC
  simp only [CM.v, CM.cells] at *
  go_wp2_with (go_at_call 17; refine (HC.out _ (Below.refl _ _)).mono ?_; rintro e w1 ⟨rfl, b1⟩)
  exact HQ.out _ _ ⟨rfl, rfl, rfl, rfl, rfl, rfl, rfl, rfl, rfl, rfl, rfl, rfl, rfl, rfl, rfl, rfl⟩ (b1.alloc b1.size _)
set_option maxHeartbeats 8000000 in
set_option maxRecDepth 100000 in
theorem tk_r11 {K : Act → World → Prop} {c : Code} (hc : regOf (Tryd.f6.body.getD .skip) 11 = some c) (a : Act) {v : Vtk} {wq : World} {F : ByteArray} {cn q : Nat} (hF : Ftk a v) (h8v : v.v8 = .string F) (h2v : v.v2 = .int .i64 (cn : Int)) (h8 : 8 ≤ F.size) (h6 : F.size ≤ 4008) (hcn : cn ≤ 9223372036854775807) (hq : wrap64 (32 + (cn : Int) % (8 * (F.size : Int) - 32)) = (q : Int))
    (hQ : ∀ a', Ftk a' { v with v2 := .int .i64 (q : Int) } → K a' wq) :
    Code.wp Tryd.prog c (Exit.then K fun _ _ _ => False) a wq := by
  have HQ := hide hQ
  clear hQ
  obtain ⟨t', d'⟩ := a
  obtain ⟨v0, v1, v2, v3, v6, v7, v8, v9, v11, v12, v14, v28, v35, v40⟩ := v
  simp only at h8v h2v HQ
  subst h8v h2v
  obtain ⟨hs1, hd1, q0, q1, q2, q3, q6, q7, q8, q9, q11, q12, q14, q28, q35, q40⟩ := hF
  obtain ⟨u, hu⟩ := frame_tk t' hs1
  simp only at hd1 q0 q1 q2 q3 q6 q7 q8 q9 q11 q12 q14 q28 q35 q40
  subst hu hd1
  have e0 : u 0 = v0 := q0
  have e1 : u 1 = v1 := q1
  have e2 : u 2 = .int .i64 (cn : Int) := q2
  have e3 : u 3 = v3 := q3
  have e6 : u 6 = v6 := q6
  have e7 : u 7 = v7 := q7
  have e8 : u 8 = .string F := q8
  have e9 : u 9 = v9 := q9
  have e11 : u 11 = v11 := q11
  have e12 : u 12 = v12 := q12
  have e14 : u 14 = v14 := q14
  have e28 : u 28 = v28 := q28
  have e35 : u 35 = v35 := q35
  have e40 : u 40 = v40 := q40
  rw [e0, e1, e2, e3, e6, e7, e8, e9, e11, e12, e14, e28, e35, e40]
  clear q0 e0 q1 e1 q2 e2 q3 e3 q6 e6 q7 e7 q8 e8 q9 e9 q11 e11 q12 e12 q14 e14 q28 e28 q35 e35 q40 e40 hs1
  simp only [Tryd.f6, Option.getD_some, regOf] at hc
  injection hc with hc
  subst hc
  generalize u 4 = u4
  generalize u 5 = u5
  generalize u 10 = u10
  generalize u 13 = u13
  generalize u 15 = u15
  generalize u 16 = u16
  generalize u 17 = u17
  generalize u 18 = u18
  generalize u 19 = u19
  generalize u 20 = u20
  generalize u 21 = u21
  generalize u 22 = u22
  generalize u 23 = u23
  generalize u 24 = u24
  generalize u 25 = u25
  generalize u 26 = u26
  generalize u 27 = u27
  generalize u 29 = u29
  generalize u 30 = u30
  generalize u 31 = u31
  generalize u 32 = u32
  generalize u 33 = u33
  generalize u 34 = u34
  generalize u 36 = u36
  generalize u 37 = u37
  generalize u 38 = u38
  generalize u 39 = u39
  generalize u 41 = u41
  generalize u 42 = u42
  generalize u 43 = u43
  generalize u 44 = u44
  generalize u 45 = u45
  generalize u 46 = u46
  generalize u 47 = u47
  generalize u 48 = u48
  generalize u 49 = u49
  generalize u 50 = u50
  generalize u 51 = u51
  generalize u 52 = u52
  generalize u 53 = u53
  generalize u 54 = u54
  generalize u 55 = u55
  generalize u 56 = u56
  generalize u 57 = u57
  generalize u 58 = u58
  generalize u 59 = u59
  generalize u 60 = u60
  generalize u 61 = u61
  generalize u 62 = u62
  generalize u 63 = u63
  generalize u 64 = u64
  generalize u 65 = u65
  generalize u 66 = u66
  generalize u 67 = u67
  generalize u 68 = u68
  generalize u 69 = u69
  generalize u 70 = u70
  generalize u 71 = u71
  generalize u 72 = u72
  generalize u 73 = u73
  generalize u 74 = u74
  generalize u 75 = u75
  generalize u 76 = u76
  generalize u 77 = u77
  generalize u 78 = u78
  generalize u 79 = u79
  generalize u 80 = u80
  generalize u 81 = u81
  generalize u 82 = u82
  generalize u 83 = u83
  generalize u 84 = u84
  generalize u 85 = u85
  generalize u 86 = u86
  generalize u 87 = u87
  generalize u 88 = u88
  generalize u 89 = u89
  generalize u 90 = u90
  clear u
  go_wp2
  first
    | exact HQ.out _ ⟨rfl, rfl, rfl, rfl, rfl, rfl, rfl, rfl, rfl, rfl, rfl, rfl, rfl, rfl, rfl, rfl⟩
    | (rw [hq]; exact HQ.out _ ⟨rfl, rfl, rfl, rfl, rfl, rfl, rfl, rfl, rfl, rfl, rfl, rfl, rfl, rfl, rfl, rfl⟩)
set_option maxHeartbeats 8000000 in
set_option maxRecDepth 100000 in
theorem tk_r12 {K : Act → World → Prop} {c : Code} (hc : regOf (Tryd.f6.body.getD .skip) 12 = some c) (a : Act) {v : Vtk} {wq : World} {F : ByteArray} (hF : Ftk a v) (h8v : v.v8 = .string F) (hQ : ∀ a' w' cap, Ftk a' { v with v12 := .slice (some ⟨wq.heap.size, 0, none⟩) F.size cap } → BytesAt wq w' wq.heap.size F.data.toList → K a' w') :
    Code.wp Tryd.prog c (Exit.then K fun _ _ _ => False) a wq := by
  have HQ := hide hQ
  clear hQ
  obtain ⟨t', d'⟩ := a
  obtain ⟨v0, v1, v2, v3, v6, v7, v8, v9, v11, v12, v14, v28, v35, v40⟩ := v
  simp only at h8v HQ
  subst h8v
  obtain ⟨hs1, hd1, q0, q1, q2, q3, q6, q7, q8, q9, q11, q12, q14, q28, q35, q40⟩ := hF
  obtain ⟨u, hu⟩ := frame_tk t' hs1
  simp only at hd1 q0 q1 q2 q3 q6 q7 q8 q9 q11 q12 q14 q28 q35 q40
  subst hu hd1
  have e0 : u 0 = v0 := q0
  have e1 : u 1 = v1 := q1
  have e2 : u 2 = v2 := q2
  have e3 : u 3 = v3 := q3
  have e6 : u 6 = v6 := q6
  have e7 : u 7 = v7 := q7
  have e8 : u 8 = .string F := q8
  have e9 : u 9 = v9 := q9
  have e11 : u 11 = v11 := q11
  have e12 : u 12 = v12 := q12
  have e14 : u 14 = v14 := q14
  have e28 : u 28 = v28 := q28
  have e35 : u 35 = v35 := q35
  have e40 : u 40 = v40 := q40
  rw [e0, e1, e2, e3, e6, e7, e8, e9, e11, e12, e14, e28, e35, e40]
  clear q0 e0 q1 e1 q2 e2 q3 e3 q6 e6 q7 e7 q8 e8 q9 e9 q11 e11 q12 e12 q14 e14 q28 e28 q35 e35 q40 e40 hs1
  simp only [Tryd.f6, Option.getD_some, regOf] at hc
  injection hc with hc
  subst hc
  generalize u 4 = u4
  generalize u 5 = u5
  generalize u 10 = u10
  generalize u 13 = u13
  generalize u 15 = u15
  generalize u 16 = u16
  generalize u 17 = u17
  generalize u 18 = u18
  generalize u 19 = u19
  generalize u 20 = u20
  generalize u 21 = u21
  generalize u 22 = u22
  generalize u 23 = u23
  generalize u 24 = u24
  generalize u 25 = u25
  generalize u 26 = u26
  generalize u 27 = u27
  generalize u 29 = u29
  generalize u 30 = u30
  generalize u 31 = u31
  generalize u 32 = u32
  generalize u 33 = u33
  generalize u 34 = u34
  generalize u 36 = u36
  generalize u 37 = u37
  generalize u 38 = u38
  generalize u 39 = u39
  generalize u 41 = u41
  generalize u 42 = u42
  generalize u 43 = u43
  generalize u 44 = u44
  generalize u 45 = u45
  generalize u 46 = u46
  generalize u 47 = u47
  generalize u 48 = u48
  generalize u 49 = u49
  generalize u 50 = u50
  generalize u 51 = u51
  generalize u 52 = u52
  generalize u 53 = u53
  generalize u 54 = u54
  generalize u 55 = u55
  generalize u 56 = u56
  generalize u 57 = u57
  generalize u 58 = u58
  generalize u 59 = u59
  generalize u 60 = u60
  generalize u 61 = u61
  generalize u 62 = u62
  generalize u 63 = u63
  generalize u 64 = u64
  generalize u 65 = u65
  generalize u 66 = u66
  generalize u 67 = u67
  generalize u 68 = u68
  generalize u 69 = u69
  generalize u 70 = u70
  generalize u 71 = u71
  generalize u 72 = u72
  generalize u 73 = u73
  generalize u 74 = u74
  generalize u 75 = u75
  generalize u 76 = u76
  generalize u 77 = u77
  generalize u 78 = u78
  generalize u 79 = u79
  generalize u 80 = u80
  generalize u 81 = u81
  generalize u 82 = u82
  generalize u 83 = u83
  generalize u 84 = u84
  generalize u 85 = u85
  generalize u 86 = u86
  generalize u 87 = u87
  generalize u 88 = u88
  generalize u 89 = u89
  generalize u 90 = u90
  clear u
  obtain ⟨W, cap, hcv, hat⟩ := bytes_conv wq F
  have HAT := hide hat
  clear hat
  go_wp2
  exact HQ.out _ _ cap ⟨rfl, rfl, rfl, rfl, rfl, rfl, rfl, rfl, rfl, rfl, rfl, rfl, rfl, rfl, rfl, rfl⟩ HAT.out
set_option maxHeartbeats 8000000 in
set_option maxRecDepth 100000 in
theorem tk_r13 {K : Act → World → Prop} {c : Code} (hc : regOf (Tryd.f6.body.getD .skip) 13 = some c) (a : Act) {v : Vtk} {wq : World} {w2 : World} {F : ByteArray} {g q cap : Nat} (hF : Ftk a v) (h12v : v.v12 = .slice (some ⟨g, 0, none⟩) F.size cap) (h2v : v.v2 = .int .i64 (q : Int)) (hAT : BytesAt w2 wq g F.data.toList) (hq1 : 32 ≤ q) (hq2 : q < 8 * F.size) (h6 : F.size ≤ 4008)
    (hQ : ∀ a' w', Ftk a' v → BytesAt w2 w' g (flipF F.data.toList q) → K a' w') :
    Code.wp Tryd.prog c (Exit.then K fun _ _ _ => False) a wq := by
  have HQ := hide hQ
  clear hQ
  obtain ⟨t', d'⟩ := a
  obtain ⟨v0, v1, v2, v3, v6, v7, v8, v9, v11, v12, v14, v28, v35, v40⟩ := v
  simp only at h12v h2v HQ
  subst h12v h2v
  obtain ⟨hs1, hd1, q0, q1, q2, q3, q6, q7, q8, q9, q11, q12, q14, q28, q35, q40⟩ := hF
  obtain ⟨u, hu⟩ := frame_tk t' hs1
  simp only at hd1 q0 q1 q2 q3 q6 q7 q8 q9 q11 q12 q14 q28 q35 q40
  subst hu hd1
  have e0 : u 0 = v0 := q0
  have e1 : u 1 = v1 := q1
  have e2 : u 2 = .int .i64 (q : Int) := q2
  have e3 : u 3 = v3 := q3
  have e6 : u 6 = v6 := q6
  have e7 : u 7 = v7 := q7
  have e8 : u 8 = v8 := q8
  have e9 : u 9 = v9 := q9
  have e11 : u 11 = v11 := q11
  have e12 : u 12 = .slice (some ⟨g, 0, none⟩) F.size cap := q12
  have e14 : u 14 = v14 := q14
  have e28 : u 28 = v28 := q28
  have e35 : u 35 = v35 := q35
  have e40 : u 40 = v40 := q40
  rw [e0, e1, e2, e3, e6, e7, e8, e9, e11, e12, e14, e28, e35, e40]
  clear q0 e0 q1 e1 q2 e2 q3 e3 q6 e6 q7 e7 q8 e8 q9 e9 q11 e11 q12 e12 q14 e14 q28 e28 q35 e35 q40 e40 hs1
  simp only [Tryd.f6, Option.getD_some, regOf] at hc
  injection hc with hc
  subst hc
  generalize u 4 = u4
  generalize u 5 = u5
  generalize u 10 = u10
  generalize u 13 = u13
  generalize u 15 = u15
  generalize u 16 = u16
  generalize u 17 = u17
  generalize u 18 = u18
  generalize u 19 = u19
  generalize u 20 = u20
  generalize u 21 = u21
  generalize u 22 = u22
  generalize u 23 = u23
  generalize u 24 = u24
  generalize u 25 = u25
  generalize u 26 = u26
  generalize u 27 = u27
  generalize u 29 = u29
  generalize u 30 = u30
  generalize u 31 = u31
  generalize u 32 = u32
  generalize u 33 = u33
  generalize u 34 = u34
  generalize u 36 = u36
  generalize u 37 = u37
  generalize u 38 = u38
  generalize u 39 = u39
  generalize u 41 = u41
  generalize u 42 = u42
  generalize u 43 = u43
  generalize u 44 = u44
  generalize u 45 = u45
  generalize u 46 = u46
  generalize u 47 = u47
  generalize u 48 = u48
  generalize u 49 = u49
  generalize u 50 = u50
  generalize u 51 = u51
  generalize u 52 = u52
  generalize u 53 = u53
  generalize u 54 = u54
  generalize u 55 = u55
  generalize u 56 = u56
  generalize u 57 = u57
  generalize u 58 = u58
  generalize u 59 = u59
  generalize u 60 = u60
  generalize u 61 = u61
  generalize u 62 = u62
  generalize u 63 = u63
  generalize u 64 = u64
  generalize u 65 = u65
  generalize u 66 = u66
  generalize u 67 = u67
  generalize u 68 = u68
  generalize u 69 = u69
  generalize u 70 = u70
  generalize u 71 = u71
  generalize u 72 = u72
  generalize u 73 = u73
  generalize u 74 = u74
  generalize u 75 = u75
  generalize u 76 = u76
  generalize u 77 = u77
  generalize u 78 = u78
  generalize u 79 = u79
  generalize u 80 = u80
  generalize u 81 = u81
  generalize u 82 = u82
  generalize u 83 = u83
  generalize u 84 = u84
  generalize u 85 = u85
  generalize u 86 = u86
  generalize u 87 = u87
  generalize u 88 = u88
  generalize u 89 = u89
  generalize u 90 = u90
  clear u
  obtain ⟨i, hi⟩ : ∃ i : Nat, (q : Int) / 8 = (i : Int) := ⟨q / 8, by omega⟩
  obtain ⟨r, hr⟩ : ∃ r : Nat, (q : Int) % 8 = (r : Int) := ⟨q % 8, by omega⟩
  have hiF : i < F.size := by omega
  have hr8 : r < 8 := by omega
  have hiI : (i : Int) < F.size := by omega
  have hi2 : i < F.data.toList.length := by rw [size_listC]; exact hiF
  obtain ⟨x, hx⟩ : ∃ x, F.data.toList[i] = x := ⟨_, rfl⟩
  have c1 := hAT.cells i hi2
  rw [hx] at c1
  have f1 := hAT.free i hi2
  have hlt := hAT.lt
  have HAT3 : Hid (∀ y, y = ((UInt8.ofNat (x.toNat ^^^ 2 ^ r)).toNat : Int) → BytesAt w2 (wq.setCell ⟨g, i, none⟩ (.int .u8 y)).drew g (flipF F.data.toList q)) := by
    intro y hy
    rw [flip_set F.data.toList q i r (by omega) (by omega) hi2, hx]
    exact hAT.set i hi2 _ y hy
  have HY := hide (flip_val x r hr8)
  clear hAT hq1 hq2 hx
  go_region
  exact HQ.out _ _ ⟨rfl, rfl, rfl, rfl, rfl, rfl, rfl, rfl, rfl, rfl, rfl, rfl, rfl, rfl, rfl, rfl⟩ (HAT3.out _ HY.out)
set_option maxHeartbeats 8000000 in
set_option maxRecDepth 100000 in
theorem tk_r14 {K : Act → World → Prop} {c : Code} (hc : regOf (Tryd.f6.body.getD .skip) 14 = some c) (a : Act) {v : Vtk} {wq : World} {w2 : World} {l : List UInt8} {g n cap : Nat} {x : CM} {er : Int} (hF : Ftk a v) (h12v : v.v12 = .slice (some ⟨g, 0, none⟩) n cap) (hAT : BytesAt w2 wq g l) (hn : l.length = n) (hC : ∀ W, Below wq.heap.size wq W → Calls Tryd.prog 17 #[.string ⟨l.toArray⟩] W fun e w' => e = .returned (.tuple #[x.v, .int .i64 er]) ∧ Below W.heap.size W w')
    (hQ : ∀ a' w', Ftk a' { v with v14 := .int .i64 er } → Below wq.heap.size wq w' → K a' w') :
    Code.wp Tryd.prog c (Exit.then K fun _ _ _ => False) a wq := by
  have HQ := hide hQ
  clear hQ
  obtain ⟨t', d'⟩ := a
  obtain ⟨v0, v1, v2, v3, v6, v7, v8, v9, v11, v12, v14, v28, v35, v40⟩ := v
  simp only at h12v HQ
  subst h12v
  obtain ⟨hs1, hd1, q0, q1, q2, q3, q6, q7, q8, q9, q11, q12, q14, q28, q35, q40⟩ := hF
  obtain ⟨u, hu⟩ := frame_tk t' hs1
  simp only at hd1 q0 q1 q2 q3 q6 q7 q8 q9 q11 q12 q14 q28 q35 q40
  subst hu hd1
  have e0 : u 0 = v0 := q0
  have e1 : u 1 = v1 := q1
  have e2 : u 2 = v2 := q2
  have e3 : u 3 = v3 := q3
  have e6 : u 6 = v6 := q6
  have e7 : u 7 = v7 := q7
  have e8 : u 8 = v8 := q8
  have e9 : u 9 = v9 := q9
  have e11 : u 11 = v11 := q11
  have e12 : u 12 = .slice (some ⟨g, 0, none⟩) n cap := q12
  have e14 : u 14 = v14 := q14
  have e28 : u 28 = v28 := q28
  have e35 : u 35 = v35 := q35
  have e40 : u 40 = v40 := q40
  rw [e0, e1, e2, e3, e6, e7, e8, e9, e11, e12, e14, e28, e35, e40]
  clear q0 e0 q1 e1 q2 e2 q3 e3 q6 e6 q7 e7 q8 e8 q9 e9 q11 e11 q12 e12 q14 e14 q28 e28 q35 e35 q40 e40 hs1
  simp only [Tryd.f6, Option.getD_some, regOf] at hc
  injection hc with hc
  subst hc
  generalize u 4 = u4
  generalize u 5 = u5
  generalize u 10 = u10
  generalize u 13 = u13
  generalize u 15 = u15
  generalize u 16 = u16
  generalize u 17 = u17
  generalize u 18 = u18
  generalize u 19 = u19
  generalize u 20 = u20
  generalize u 21 = u21
  generalize u 22 = u22
  generalize u 23 = u23
  generalize u 24 = u24
  generalize u 25 = u25
  generalize u 26 = u26
  generalize u 27 = u27
  generalize u 29 = u29
  generalize u 30 = u30
  generalize u 31 = u31
  generalize u 32 = u32
  generalize u 33 = u33
  generalize u 34 = u34
  generalize u 36 = u36
  generalize u 37 = u37
  generalize u 38 = u38
  generalize u 39 = u39
  generalize u 41 = u41
  generalize u 42 = u42
  generalize u 43 = u43
  generalize u 44 = u44
  generalize u 45 = u45
  generalize u 46 = u46
  generalize u 47 = u47
  generalize u 48 = u48
  generalize u 49 = u49
  generalize u 50 = u50
  generalize u 51 = u51
  generalize u 52 = u52
  generalize u 53 = u53
  generalize u 54 = u54
  generalize u 55 = u55
  generalize u 56 = u56
  generalize u 57 = u57
  generalize u 58 = u58
  generalize u 59 = u59
  generalize u 60 = u60
  generalize u 61 = u61
  generalize u 62 = u62
  generalize u 63 = u63
  generalize u 64 = u64
  generalize u 65 = u65
  generalize u 66 = u66
  generalize u 67 = u67
  generalize u 68 = u68
  generalize u 69 = u69
  generalize u 70 = u70
  generalize u 71 = u71
  generalize u 72 = u72
  generalize u 73 = u73
  generalize u 74 = u74
  generalize u 75 = u75
  generalize u 76 = u76
  generalize u 77 = u77
  generalize u 78 = u78
  generalize u 79 = u79
  generalize u 80 = u80
  generalize u 81 = u81
  generalize u 82 = u82
  generalize u 83 = u83
  generalize u 84 = u84
  generalize u 85 = u85
  generalize u 86 = u86
  generalize u 87 = u87
  generalize u 88 = u88
  generalize u 89 = u89
  generalize u 90 = u90
  clear u
  have HC := hide hC
  have hback := hAT.back n cap hn
  clear hC hAT hn
  simp only [CM.v, CM.cells] at *
  generalize (⟨l.toArray⟩ : ByteArray) = TT at *
  go_wp2_with (go_at_call 17; refine (HC.out _ (Below.refl _ _)).mono ?_; rintro e w1 ⟨rfl, b1⟩)
  exact HQ.out _ _ ⟨rfl, rfl, rfl, rfl, rfl, rfl, rfl, rfl, rfl, rfl, rfl, rfl, rfl, rfl, rfl, rfl⟩ (b1.alloc b1.size _)
set_option maxHeartbeats 8000000 in
set_option maxRecDepth 100000 in
theorem tk_r15 {K : Act → World → Prop} {c : Code} (hc : regOf (Tryd.f6.body.getD .skip) 15 = some c) (a : Act) {v : Vtk} {wq : World}  (hF : Ftk a v) (h7v : v.v7 = .bool true) (h11v : v.v11 = .int .i64 2) (h14v : v.v14 = .int .i64 4) (hQ : ∀ a', Ftk a' { v with v6 := .bool true } → K a' wq) :
    Code.wp Tryd.prog c (Exit.then K fun _ _ _ => False) a wq := by
  have HQ := hide hQ
  clear hQ
  obtain ⟨t', d'⟩ := a
  obtain ⟨v0, v1, v2, v3, v6, v7, v8, v9, v11, v12, v14, v28, v35, v40⟩ := v
  simp only at h7v h11v h14v HQ
  subst h7v h11v h14v
  obtain ⟨hs1, hd1, q0, q1, q2, q3, q6, q7, q8, q9, q11, q12, q14, q28, q35, q40⟩ := hF
  obtain ⟨u, hu⟩ := frame_tk t' hs1
  simp only at hd1 q0 q1 q2 q3 q6 q7 q8 q9 q11 q12 q14 q28 q35 q40
  subst hu hd1
  have e0 : u 0 = v0 := q0
  have e1 : u 1 = v1 := q1
  have e2 : u 2 = v2 := q2
  have e3 : u 3 = v3 := q3
  have e6 : u 6 = v6 := q6
  have e7 : u 7 = .bool true := q7
  have e8 : u 8 = v8 := q8
  have e9 : u 9 = v9 := q9
  have e11 : u 11 = .int .i64 2 := q11
  have e12 : u 12 = v12 := q12
  have e14 : u 14 = .int .i64 4 := q14
  have e28 : u 28 = v28 := q28
  have e35 : u 35 = v35 := q35
  have e40 : u 40 = v40 := q40
  rw [e0, e1, e2, e3, e6, e7, e8, e9, e11, e12, e14, e28, e35, e40]
  clear q0 e0 q1 e1 q2 e2 q3 e3 q6 e6 q7 e7 q8 e8 q9 e9 q11 e11 q12 e12 q14 e14 q28 e28 q35 e35 q40 e40 hs1
  simp only [Tryd.f6, Option.getD_some, regOf] at hc
  injection hc with hc
  subst hc
  generalize u 4 = u4
  generalize u 5 = u5
  generalize u 10 = u10
  generalize u 13 = u13
  generalize u 15 = u15
  generalize u 16 = u16
  generalize u 17 = u17
  generalize u 18 = u18
  generalize u 19 = u19
  generalize u 20 = u20
  generalize u 21 = u21
  generalize u 22 = u22
  generalize u 23 = u23
  generalize u 24 = u24
  generalize u 25 = u25
  generalize u 26 = u26
  generalize u 27 = u27
  generalize u 29 = u29
  generalize u 30 = u30
  generalize u 31 = u31
  generalize u 32 = u32
  generalize u 33 = u33
  generalize u 34 = u34
  generalize u 36 = u36
  generalize u 37 = u37
  generalize u 38 = u38
  generalize u 39 = u39
  generalize u 41 = u41
  generalize u 42 = u42
  generalize u 43 = u43
  generalize u 44 = u44
  generalize u 45 = u45
  generalize u 46 = u46
  generalize u 47 = u47
  generalize u 48 = u48
  generalize u 49 = u49
  generalize u 50 = u50
  generalize u 51 = u51
  generalize u 52 = u52
  generalize u 53 = u53
  generalize u 54 = u54
  generalize u 55 = u55
  generalize u 56 = u56
  generalize u 57 = u57
  generalize u 58 = u58
  generalize u 59 = u59
  generalize u 60 = u60
  generalize u 61 = u61
  generalize u 62 = u62
  generalize u 63 = u63
  generalize u 64 = u64
  generalize u 65 = u65
  generalize u 66 = u66
  generalize u 67 = u67
  generalize u 68 = u68
  generalize u 69 = u69
  generalize u 70 = u70
  generalize u 71 = u71
  generalize u 72 = u72
  generalize u 73 = u73
  generalize u 74 = u74
  generalize u 75 = u75
  generalize u 76 = u76
  generalize u 77 = u77
  generalize u 78 = u78
  generalize u 79 = u79
  generalize u 80 = u80
  generalize u 81 = u81
  generalize u 82 = u82
  generalize u 83 = u83
  generalize u 84 = u84
  generalize u 85 = u85
  generalize u 86 = u86
  generalize u 87 = u87
  generalize u 88 = u88
  generalize u 89 = u89
  generalize u 90 = u90
  clear u
  go_wp2
  exact HQ.out _ ⟨rfl, rfl, rfl, rfl, rfl, rfl, rfl, rfl, rfl, rfl, rfl, rfl, rfl, rfl, rfl, rfl⟩
theorem tk_ret {W : World} {a : Act} {v : Vtk} {b : Bool} {R : Ending → World → Prop} (hF : Ftk a v) (h0 : v.v6 = .bool b) (h : R (.returned (.bool b)) W) :
    bodyPost Tryd.prog Tryd.f6 R .ret a W := by
  have g0 := slot_get (hF.s6.trans h0)
  refine bodyPost_ret (v := .bool b) ?_ hF.defers h
  simp [results, Tryd.results6, go_sem, g0]
end Go.Proofs.YthfflefnapbkiaaDoor
