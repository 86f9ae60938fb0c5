/-
  replies, Digest, as they run (mkj23.py).
-/
import Derived.Test.YtlfodldlkchmoaaGreatZJ10
import Derived.Test.YtlfodldlkchmoaaGreatZSh
import Derived.Sort.OwnSorted
import Derived.Laws.StructEq
import Derived.Deep.QuietTactic
namespace Go.Proofs.YtlfodldlkchmoaaGreat.Y
open Go.RowKit
set_option maxHeartbeats 8000000
set_option maxRecDepth 100000
attribute [local go_sem ↓] Go.wp_at_zero Go.wp_at_succ
set_option linter.unusedSimpArgs false
set_option linter.unusedVariables false
open Go.Maps Go.Sort Go.Shelf
def tnames (D : DataW Nat) : List (List UInt8) := (strKeys D).mergeSort leB
theorem tnames_length {w : World} {b n : Nat} {D : DataW Nat} (h : w.ownsMap Tryz.prog 9 ptrR b n D) : (tnames D).length = Maps.size D := by
  unfold tnames
  rw [List.length_mergeSort]
  obtain ⟨es, e⟩ := h.isMap
  rw [e]
  simp [strKeys, Maps.size]
theorem tmem_keys {w : World} {b n : Nat} {D : DataW Nat} (hown : w.ownsMap Tryz.prog 9 ptrR b n D) (x : List UInt8) : x ∈ strKeys D ↔ Maps.has D (.string x) = true := by
  obtain ⟨es, hD, hko⟩ := hown.keysOf
  subst hD
  rw [has_eq, List.any_eq_true]
  show x ∈ es.map (fun p => strOf p.1) ↔ _
  rw [List.mem_map]
  constructor
  · rintro ⟨p, hp, rfl⟩
    obtain ⟨v, hv⟩ := hko p hp
    obtain ⟨a, _, ha, _⟩ := Maps.keyOf_str Tryz.underlying9 hv
    exact ⟨p, hp, by rw [ha]; simp [Lit.sameKey, strOf]⟩
  · rintro ⟨p, hp, hs⟩
    obtain ⟨v, hv⟩ := hko p hp
    obtain ⟨a, _, ha, _⟩ := Maps.keyOf_str Tryz.underlying9 hv
    rw [ha] at hs
    exact ⟨p, hp, by rw [ha]; simpa [Lit.sameKey, strOf] using hs⟩
theorem trow_store {w : World} {base : Nat} {e : TypeId} {g cap n : Nat} {xs : List Value} (h : w.ownsRow base e 1 (.slice (some ⟨g, 0, none⟩) n cap) n xs) (i : Nat) (v : Value) (hv : xs[i]? = some v) : (w.setCell ⟨g, i, none⟩ v).ownsRow base e 1 (.slice (some ⟨g, 0, none⟩) n cap) n xs := by
  have hl := h.1
  rcases h.2 with ⟨h0, _⟩ | ⟨g', cap', cur, h1, h2, h3, h4, h5, h6, h7⟩
  · cases h0
  · cases h1
    refine ⟨hl, .inr ⟨g, cap, cur.setIfInBounds i v, rfl, h2, wset h3, h4, h5, by simpa using h6, ?_⟩⟩
    have e2 : xs.set i v = xs := by
      obtain ⟨hi, rfl⟩ := List.getElem?_eq_some_iff.1 hv
      exact List.set_getElem_self hi
    rw [Array.toList_setIfInBounds, List.take_set, h7, e2]
theorem trow_cell {w : World} {base : Nat} {e : TypeId} {g cap n : Nat} {xs : List Value} (h : w.ownsRow base e 1 (.slice (some ⟨g, 0, none⟩) n cap) n xs) (i : Nat) (v : Value) (hv : xs[i]? = some v) : w.cell? ⟨g, i, none⟩ = some v ∧ w.frozen? ⟨g, i, none⟩ = false := by
  have h1 := h.cells rfl i v hv
  rw [Addr.add_lit] at h1
  rcases h.2 with ⟨h0, _⟩ | ⟨g', cap', cur, h1', _, h3, _⟩
  · cases h0
  · cases h1'
    exact ⟨by simpa using h1, box_free h3 i⟩
theorem pkeys (tb : Nat) (w : World) : Calls Tryz.prog 41 #[.map (some tb)] w fun e w' => e = .returned (.func (.func 85) #[] #[.pointer (some ⟨w.heap.size, 0, none⟩)]) ∧ w' = w.alloc (.cells #[.map (some tb)] 63) :=
  (callsIn_wide (n := 5)).1 (AnyZ.keys_in Tryz.shKeys Fence.wide 5 trivial rfl (some tb) w)
theorem psorted {w : World} {tb n : Nat} {D : DataW Nat} (hown : w.ownsMap Tryz.prog 9 ptrR tb n D) (hn : n < 1000000000) :
    Calls Tryz.prog 40 #[.func (.func 85) #[] #[.pointer (some ⟨w.heap.size, 0, none⟩)]] (w.alloc (.cells #[.map (some tb)] 63)) fun e w' => ∃ ao cp, e = .returned (.slice ao (tnames D).length cp) ∧ w'.ownsRow w.heap.size 9 1 (.slice ao (tnames D).length cp) (tnames D).length ((tnames D).map encStr) ∧ Below w.heap.size w w' := by
  have hsz := hown.size_le
  have hmax : Maps.size D ≤ maxLen := by unfold maxLen; omega
  have hseq : SeqGives Fence.wide 2 Tryz.prog 85 #[.pointer (some ⟨w.heap.size, 0, none⟩)] encStr (fun ss => ss.Perm (strKeys D)) (Maps.size D) (w.alloc (.cells #[.map (some tb)] 63)) :=
    AnyZ.keys_gives (ρ := Tryz.shKeys_ren) { Tryz.shKeys with } Fence.wide _ trivial rfl (by omega) w.heap.size tb n D _ (by simp) (by simp) (hown.alloc _)
  have hsorts : AnyZ.SortsIn Tryz.prog Tryz.shSorted_ren Fence.wide 4 :=
    ⟨fun blk off cap ss W hH hblk hsz => callsIn_wide.2 (AnyM.slices_Sort_string Tryz.shSort blk off cap ss W hH hblk hsz), fun p cap W => callsIn_wide.2 (AnyM.slices_Sort_string_none Tryz.shSort p cap W)⟩
  have hS := AnyZ.sorted_in Tryz.shSorted Fence.wide 5 trivial trivial trivial trivial rfl (by omega) hsorts (enters_of Tryz.func84 (by kernel_rfl) rfl) 85 #[.pointer (some ⟨w.heap.size, 0, none⟩)] trivial (enters_of Tryz.func85 (by kernel_rfl) rfl) _ _ hmax (by omega) _ hseq
  refine ((callsIn_wide (n := 5)).1 hS).mono ?_
  rintro e w' ⟨v, ss, rfl, hP, hrow, hnil, hb⟩
  have e1 : ss.mergeSort (fun x y => decide (x ≤ y)) = tnames D := mergeSort_of_perm hP
  have e2 : ss.length = (tnames D).length := by rw [← e1, List.length_mergeSort]
  rw [e1, e2] at hrow
  obtain ⟨ao, cp, rfl⟩ := row_slice hrow
  exact ⟨ao, cp, rfl, ownsRow_base_a hrow (by simp), ((Below.refl _ w).alloc (Nat.le_refl _) _).trans (hb.mono (by simp))⟩
theorem frame_mv (t : Array Value) (h : t.size = 26) : ∃ u : Nat → Value, t = List.toArray (u 0 :: u 1 :: u 2 :: u 3 :: u 4 :: u 5 :: u 6 :: u 7 :: u 8 :: u 9 :: u 10 :: u 11 :: u 12 :: u 13 :: u 14 :: u 15 :: u 16 :: u 17 :: u 18 :: u 19 :: u 20 :: u 21 :: u 22 :: u 23 :: u 24 :: u 25 :: []) := by
  refine ⟨fun i => t.getD i undef, ?_⟩
  refine Eq.trans (b := ((List.range 26).map fun i => t.getD i undef).toArray) ?_ rfl
  apply Array.ext
  · simp [h]
  · intro k h1 h2
    simp [Array.getD, h1]
structure Vmv where
  v0 : Value
  v2 : Value
  v3 : Value
  v4 : Value
  v5 : Value
  v12 : Value
  v13 : Value
  v14 : Value
structure Fmv (a : Act) (v : Vmv) : Prop where
  size : a.tmps.size = 26
  defers : a.defers = []
  s0 : a.tmps.getD 0 undef = v.v0
  s2 : a.tmps.getD 2 undef = v.v2
  s3 : a.tmps.getD 3 undef = v.v3
  s4 : a.tmps.getD 4 undef = v.v4
  s5 : a.tmps.getD 5 undef = v.v5
  s12 : a.tmps.getD 12 undef = v.v12
  s13 : a.tmps.getD 13 undef = v.v13
  s14 : a.tmps.getD 14 undef = v.v14
theorem frx_mv {a : Act} {v0 v2 v3 v4 v5 v12 v13 v14 : Value} (h : Fmv a ⟨v0, v2, v3, v4, v5, v12, v13, v14⟩) : ∃ u : Nat → Value, a = ⟨List.toArray (v0 :: u 1 :: v2 :: v3 :: v4 :: v5 :: u 6 :: u 7 :: u 8 :: u 9 :: u 10 :: u 11 :: v12 :: v13 :: v14 :: u 15 :: u 16 :: u 17 :: u 18 :: u 19 :: u 20 :: u 21 :: u 22 :: u 23 :: u 24 :: u 25 :: []), []⟩ := by
  obtain ⟨t', d'⟩ := a
  obtain ⟨hs, hd, q0, q2, q3, q4, q5, q12, q13, q14⟩ := h
  obtain ⟨u, hu⟩ := frame_mv t' hs
  simp only at hd q0 q2 q3 q4 q5 q12 q13 q14
  subst hu hd
  have e0 : u 0 = v0 := q0
  have e2 : u 2 = v2 := q2
  have e3 : u 3 = v3 := q3
  have e4 : u 4 = v4 := q4
  have e5 : u 5 = v5 := q5
  have e12 : u 12 = v12 := q12
  have e13 : u 13 = v13 := q13
  have e14 : u 14 = v14 := q14
  refine ⟨u, ?_⟩
  rw [e0, e2, e3, e4, e5, e12, e13, e14]
theorem mv_r0 {K : Act → World → Prop} {c : Code} (hc : regOf (Tryz.f18.body.getD .skip) 0 = some c) (a : Act) {v : Vmv} {wq : World}  (hF : Fmv a v) (hQ : ∀ a', Fmv a' { v with v2 := .slice none 0 0 } → K a' wq) :
    Code.wp Tryz.prog c (Exit.then K fun _ _ _ => False) a wq := by
  have HQ := hide hQ
  clear hQ
  obtain ⟨v0, v2, v3, v4, v5, v12, v13, v14⟩ := v
  obtain ⟨u, rfl⟩ := frx_mv hF
  clear hF
  simp only [Tryz.f18, Option.getD_some, regOf] at hc
  injection hc with hc
  subst hc
  go_wp2
  exact HQ.out _ ⟨rfl, rfl, rfl, rfl, rfl, rfl, rfl, rfl, rfl, rfl⟩
theorem mv_r1 {K : Act → World → Prop} {c : Code} (hc : regOf (Tryz.f18.body.getD .skip) 1 = some c) (a : Act) {v : Vmv} {wq : World} {mb zb n : Nat} {R : Option Addr → Nat → World → Prop} (hF : Fmv a v) (h0v : v.v0 = .pointer (some ⟨mb, 0, none⟩)) (hm : wq.cell? ⟨mb, 10, none⟩ = some (.map (some zb))) (hS : Calls Tryz.prog 40 #[.func (.func 85) #[] #[.pointer (some ⟨wq.heap.size, 0, none⟩)]] (wq.alloc (.cells #[.map (some zb)] 63)) fun e w' => ∃ ao cp, e = .returned (.slice ao n cp) ∧ R ao cp w')
    (hQ : ∀ a' w1 ao cp, Fmv a' { v with v3 := .slice ao n cp } → R ao cp w1 → K a' w1) :
    Code.wp Tryz.prog c (Exit.then K fun _ _ _ => False) a wq := by
  have HQ := hide hQ
  clear hQ
  obtain ⟨v0, v2, v3, v4, v5, v12, v13, v14⟩ := v
  simp only at h0v HQ
  subst h0v
  obtain ⟨u, rfl⟩ := frx_mv hF
  clear hF
  simp only [Tryz.f18, Option.getD_some, regOf] at hc
  injection hc with hc
  subst hc
  have HS := hide hS
  have HK := hide (pkeys zb wq)
  clear hS
  go_wp2_with (first | (go_at_call 41; refine HK.out.mono ?_; rintro e w1 ⟨rfl, rfl⟩) | (go_at_call 40; refine HS.out.mono ?_; rintro e w1 ⟨ao, cp, rfl, r1⟩; have R1 := hide r1; clear r1))
  exact HQ.out _ _ _ _ ⟨rfl, rfl, rfl, rfl, rfl, rfl, rfl, rfl, rfl, rfl⟩ R1.out
theorem mv_r2 {K : Act → World → Prop} {c : Code} (hc : regOf (Tryz.f18.body.getD .skip) 2 = some c) (a : Act) {v : Vmv} {wq : World} {ao : Option Addr} {n cp : Nat} (hF : Fmv a v) (h3v : v.v3 = .slice ao n cp) (hQ : ∀ a', Fmv a' { v with v12 := .slice ao n cp, v13 := .int .i64 (n : Int), v14 := .int .i64 ((0 : Nat) : Int) } → K a' wq) :
    Code.wp Tryz.prog c (Exit.then K fun _ _ _ => False) a wq := by
  have HQ := hide hQ
  clear hQ
  obtain ⟨v0, v2, v3, v4, v5, v12, v13, v14⟩ := v
  simp only at h3v HQ
  subst h3v
  obtain ⟨u, rfl⟩ := frx_mv hF
  clear hF
  simp only [Tryz.f18, Option.getD_some, regOf] at hc
  injection hc with hc
  subst hc
  go_wp2
  exact HQ.out _ ⟨rfl, rfl, rfl, rfl, rfl, rfl, rfl, rfl, rfl, rfl⟩
theorem mv_r3 {K : Act → World → Prop} {c : Code} (hc : regOf (Tryz.f18.body.getD .skip) 3 = some c) (a : Act) {v : Vmv} {wq : World} {k n : Nat} (hF : Fmv a v) (h13v : v.v13 = .int .i64 (n : Int)) (h14v : v.v14 = .int .i64 (k : Int)) (hQ : ∀ a', Fmv a' v → a'.tmps.getD 15 undef = .bool (decide ((k : Int) < (n : Int))) → K a' wq) :
    Code.wp Tryz.prog c (Exit.then K fun _ _ _ => False) a wq := by
  have HQ := hide hQ
  clear hQ
  obtain ⟨v0, v2, v3, v4, v5, v12, v13, v14⟩ := v
  simp only at h13v h14v HQ
  subst h13v h14v
  obtain ⟨u, rfl⟩ := frx_mv hF
  clear hF
  simp only [Tryz.f18, Option.getD_some, regOf] at hc
  injection hc with hc
  subst hc
  go_wp2
  exact HQ.out _ ⟨rfl, rfl, rfl, rfl, rfl, rfl, rfl, rfl, rfl, rfl⟩ (by first | rfl | (simp; done))
theorem mv_r4 {K : Act → World → Prop} {c : Code} (hc : regOf (Tryz.f18.body.getD .skip) 4 = some c) (a : Act) {v : Vmv} {wq : World} {gq n cp k : Nat} {sx : ByteArray} (hF : Fmv a v) (h12v : v.v12 = .slice (some ⟨gq, 0, none⟩) n cp) (h14v : v.v14 = .int .i64 (k : Int)) (hk : k < n) (hy : wq.cell? ⟨gq, k, none⟩ = some (.string sx))
    (hQ : ∀ a', Fmv a' { v with v4 := .int .i64 (k : Int), v5 := .string sx } → K a' wq) :
    Code.wp Tryz.prog c (Exit.then K fun _ _ _ => False) a wq := by
  have HQ := hide hQ
  clear hQ
  obtain ⟨v0, v2, v3, v4, v5, v12, v13, v14⟩ := v
  simp only at h12v h14v HQ
  subst h12v h14v
  obtain ⟨u, rfl⟩ := frx_mv hF
  clear hF
  simp only [Tryz.f18, Option.getD_some, regOf] at hc
  injection hc with hc
  subst hc
  have i0 : (0 : Int) ≤ (k : Int) := by omega
  have i1 : (k : Int) < (n : Int) := by omega
  go_wp2
  exact HQ.out _ ⟨rfl, rfl, rfl, rfl, rfl, rfl, rfl, rfl, rfl, rfl⟩
theorem mv_r5 {K : Act → World → Prop} {c : Code} (hc : regOf (Tryz.f18.body.getD .skip) 5 = some c) (a : Act) {v : Vmv} {wq : World} {gq n cp k : Nat} {sx : ByteArray} (hF : Fmv a v) (h3v : v.v3 = .slice (some ⟨gq, 0, none⟩) n cp) (h4v : v.v4 = .int .i64 (k : Int)) (h5v : v.v5 = .string sx) (hk : k < n) (hl : sx.size ≤ 281474976710656) (hg : gq < wq.heap.size) (hy : wq.cell? ⟨gq, k, none⟩ = some (.string sx)) (hf : wq.frozen? ⟨gq, k, none⟩ = false)
    (hQ : ∀ a' w1, Fmv a' v → Below wq.heap.size wq w1 → K a' (w1.setCell ⟨gq, k, none⟩ (.string sx))) :
    Code.wp Tryz.prog c (Exit.then K fun _ _ _ => False) a wq := by
  have HQ := hide hQ
  clear hQ
  obtain ⟨v0, v2, v3, v4, v5, v12, v13, v14⟩ := v
  simp only at h3v h4v h5v HQ
  subst h3v h4v h5v
  obtain ⟨u, rfl⟩ := frx_mv hF
  clear hF
  simp only [Tryz.f18, Option.getD_some, regOf] at hc
  injection hc with hc
  subst hc
  have HC := hide (clone_any sx wq hl)
  have HG := hide hg
  have HY := hide (And.intro hy hf)
  have i0 : (0 : Int) ≤ (k : Int) := by omega
  have i1 : (k : Int) < (n : Int) := by omega
  clear hg hy hf hl
  go_wp2_with (go_at_call 42; refine HC.out.mono ?_; rintro e w1 ⟨rfl, b1⟩; have B1 := hide b1; have y1 := (b1.cell (p := ⟨gq, k, none⟩) HG.out).trans HY.out.1; have y2 := (b1.frozen (p := ⟨gq, k, none⟩) HG.out).trans HY.out.2; clear b1)
  exact HQ.out _ _ ⟨rfl, rfl, rfl, rfl, rfl, rfl, rfl, rfl, rfl, rfl⟩ B1.out
theorem mv_r6 {K : Act → World → Prop} {c : Code} (hc : regOf (Tryz.f18.body.getD .skip) 6 = some c) (a : Act) {v : Vmv} {wq : World} {i : Nat} (hF : Fmv a v) (h14v : v.v14 = .int .i64 (i : Int)) (hi : i ≤ 1000000)
    (hQ : ∀ a', Fmv a' { v with v14 := .int .i64 ((i + 1 : Nat) : Int) } → K a' wq) :
    Code.wp Tryz.prog c (Exit.then K fun _ _ _ => False) a wq := by
  have HQ := hide hQ
  clear hQ
  obtain ⟨v0, v2, v3, v4, v5, v12, v13, v14⟩ := v
  simp only at h14v HQ
  subst h14v
  obtain ⟨u, rfl⟩ := frx_mv hF
  clear hF
  simp only [Tryz.f18, Option.getD_some, regOf] at hc
  injection hc with hc
  subst hc
  go_wp2
  exact HQ.out _ ⟨rfl, rfl, rfl, rfl, rfl, rfl, rfl, rfl, rfl, (by first | rfl | (simp; done) | (go_num; done))⟩
theorem mv_r7 {K : Act → World → Prop} {c : Code} (hc : regOf (Tryz.f18.body.getD .skip) 7 = some c) (a : Act) {v : Vmv} {wq : World} {ao : Option Addr} {n cp : Nat} (hF : Fmv a v) (h3v : v.v3 = .slice ao n cp) (hQ : ∀ a', Fmv a' { v with v2 := .slice ao n cp } → K a' wq) :
    Code.wp Tryz.prog c (Exit.then K fun _ _ _ => False) a wq := by
  have HQ := hide hQ
  clear hQ
  obtain ⟨v0, v2, v3, v4, v5, v12, v13, v14⟩ := v
  simp only at h3v HQ
  subst h3v
  obtain ⟨u, rfl⟩ := frx_mv hF
  clear hF
  simp only [Tryz.f18, Option.getD_some, regOf] at hc
  injection hc with hc
  subst hc
  go_wp2
  exact HQ.out _ ⟨rfl, rfl, rfl, rfl, rfl, rfl, rfl, rfl, rfl, rfl⟩
theorem mv_ret {W : World} {a : Act} {v : Vmv} {x : Value} {R : Ending → World → Prop} (hF : Fmv a v) (h2 : v.v2 = x) (h : R (.returned x) W) : bodyPost Tryz.prog Tryz.f18 R .ret a W := by
  have g0 := slot_get (hF.s2.trans h2)
  refine bodyPost_ret (v := x) ?_ hF.defers h
  simp [results, Tryz.results18, go_sem, g0]
theorem pmtopics {w : World} {L : LM} {X : MS} {c : Nat} (h : MAt w L X) (hk : X.Ok c) : Calls Tryz.prog 18 #[.pointer (some ⟨L.b, 0, none⟩)] w fun e w' =>
    ∃ ao cp, e = .returned (.slice ao X.tn cp) ∧ (tnames L.tD).length = X.tn ∧ w'.ownsRow w.heap.size 9 1 (.slice ao X.tn cp) X.tn ((tnames L.tD).map encStr) ∧ Below w.heap.size w w' := by
  have htn := hk.tn
  have PS := psorted h.tmap (by omega)
  have el : (tnames L.tD).length = X.tn := by rw [tnames_length h.tmap, h.tsize]
  have hsh : ∀ x ∈ tnames L.tD, x.length ≤ 20 := by
    intro x hx
    unfold tnames at hx
    rw [List.mem_mergeSort, tmem_keys h.tmap] at hx
    have e := h.tfull x hx
    rw [h.tget x] at e
    cases hX : X.T x with
    | none => rw [hX] at e; exact absurd rfl e
    | some H =>
      obtain ⟨o1, o2⟩ := hk.tops x H hX
      have := (wordL_out o1.word).2.1
      rw [o2] at this
      exact this
  rw [el] at PS
  generalize tnames L.tD = ss at *
  have cm := h.cells.2.2.2.1
  go_enter Tryz.func18, Tryz.ntmps18
  refine wp_seq (reg_mono (mv_r0 (by kernel_rfl) _ (v := ⟨_, _, _, _, _, _, _, _⟩) ⟨rfl, rfl, rfl, rfl, rfl, rfl, rfl, rfl, rfl, rfl⟩ ?_))
  intro a0 F0
  try dsimp only at F0
  refine wp_seq (reg_mono (mv_r1 (R := fun ao cp W => W.ownsRow w.heap.size 9 1 (.slice ao X.tn cp) X.tn (ss.map encStr) ∧ Below w.heap.size w W) (by kernel_rfl) _ F0 rfl cm PS ?_))
  rintro a1 w1 ao cp F1 ⟨o1, b1⟩
  try dsimp only at F1
  refine wp_seq (wp_seq (reg_mono (mv_r2 (by kernel_rfl) _ F1 rfl ?_)))
  intro a2 F2
  try dsimp only at F2
  refine wp_block (wp_loop (fun a W => ∃ (k : Nat) (v : Vmv), k ≤ X.tn ∧ Fmv a v ∧ v.v3 = .slice ao X.tn cp ∧ v.v12 = .slice ao X.tn cp ∧ v.v13 = .int .i64 (X.tn : Int) ∧ v.v14 = .int .i64 (k : Int) ∧ W.ownsRow w.heap.size 9 1 (.slice ao X.tn cp) X.tn (ss.map encStr) ∧ Below w.heap.size w W) (fun a _ => X.tn - (intOf (a.tmps.getD 14 undef)).toNat) ⟨0, _, Nat.zero_le _, F2, rfl, rfl, rfl, rfl, o1, b1⟩ ?_)
  clear F0 F1 F2 o1 b1
  rintro a W ⟨k, v, hkk, F, q3, q12, q13, q14, own, bW⟩
  have hmk : (intOf (a.tmps.getD 14 undef)).toNat = k := by rw [F.s14, q14]; simp [intOf]
  obtain ⟨v0, v2, v3, v4, v5, v12, v13, v14⟩ := v
  simp only at q3 q12 q13 q14
  subst q3 q12 q13 q14
  refine wp_seq (reg_mono (mv_r3 (by kernel_rfl) _ F rfl rfl ?_))
  intro a3 F3 g3
  by_cases hlt : k < X.tn
  case pos =>
    rw [decide_eq_true (show (k : Int) < (X.tn : Int) by omega)] at g3
    refine wp_seq (wp_cond_true g3 (wp_skip ?_))
    show Code.wp _ _ _ _ _
    obtain ⟨gq, cap, hform, hgb, hgl⟩ := own.form (by omega)
    obtain ⟨rfl, rfl⟩ : ao = some ⟨gq, 0, none⟩ ∧ cp = cap := by cases hform; exact ⟨rfl, rfl⟩
    clear hform
    have hks : k < ss.length := by omega
    have hat : (ss.map encStr)[k]? = some (.string ⟨ss[k].toArray⟩) := by rw [List.getElem?_map, List.getElem?_eq_getElem hks]; rfl
    obtain ⟨y0, f0⟩ := trow_cell own k _ hat
    have hz : (⟨ss[k].toArray⟩ : ByteArray).size ≤ 281474976710656 := by
      have := hsh ss[k] (List.getElem_mem hks)
      show ss[k].toArray.size ≤ _
      rw [List.size_toArray]
      omega
    generalize (⟨ss[k].toArray⟩ : ByteArray) = sx at *
    refine wp_seq (wp_block ?_)
    refine wp_seq (reg_mono (mv_r4 (by kernel_rfl) _ F3 rfl rfl hlt y0 ?_))
    intro a4 F4
    try dsimp only at F4
    refine reg_all (mv_r5 (by kernel_rfl) _ F4 rfl rfl rfl hlt hz hgl y0 f0 ?_)
    intro a5 w5 F5 b5
    try dsimp only at F5
    show Code.wp _ _ _ _ _
    refine reg_mono (mv_r6 (by kernel_rfl) _ F5 rfl (by omega) ?_)
    intro a6 F6
    try dsimp only at F6
    refine ⟨⟨k + 1, _, hlt, F6, rfl, rfl, rfl, rfl, trow_store (own_below own b5) k _ hat, (bW.trans (b5.mono bW.size)).setCell (p := ⟨gq, k, none⟩) hgb _⟩, ?_⟩
    rw [hmk, F6.s14]
    simp [intOf]
    omega
  obtain rfl : k = X.tn := by omega
  rw [decide_eq_false (show ¬ (X.tn : Int) < (X.tn : Int) by omega)] at g3
  refine wp_seq (wp_cond_false g3 (wp_exit ?_))
  show Code.wp _ _ _ _ _
  refine wp_seq (reg_mono (mv_r7 (by kernel_rfl) _ F3 rfl ?_))
  intro a7 F7
  refine wp_ret ?_
  exact mv_ret F7 rfl ⟨ao, cp, rfl, el, own, bW⟩
end Go.Proofs.YtlfodldlkchmoaaGreat.Y
namespace Go.Proofs.YtlfodldlkchmoaaGreat.Y
open Go.RowKit
set_option maxHeartbeats 8000000
set_option maxRecDepth 100000
attribute [local go_sem ↓] Go.wp_at_zero Go.wp_at_succ
set_option linter.unusedSimpArgs false
set_option linter.unusedVariables false
open Go.Maps
theorem frame_mr (t : Array Value) (h : t.size = 45) : ∃ u : Nat → Value, t = List.toArray (u 0 :: u 1 :: u 2 :: u 3 :: u 4 :: u 5 :: u 6 :: u 7 :: u 8 :: u 9 :: u 10 :: u 11 :: u 12 :: u 13 :: u 14 :: u 15 :: u 16 :: u 17 :: u 18 :: u 19 :: u 20 :: u 21 :: u 22 :: u 23 :: u 24 :: u 25 :: u 26 :: u 27 :: u 28 :: u 29 :: u 30 :: u 31 :: u 32 :: u 33 :: u 34 :: u 35 :: u 36 :: u 37 :: u 38 :: u 39 :: u 40 :: u 41 :: u 42 :: u 43 :: u 44 :: []) := by
  refine ⟨fun i => t.getD i undef, ?_⟩
  refine Eq.trans (b := ((List.range 45).map fun i => t.getD i undef).toArray) ?_ rfl
  apply Array.ext
  · simp [h]
  · intro k h1 h2
    simp [Array.getD, h1]
structure Vmr where
  v0 : Value
  v1 : Value
  v2 : Value
  v3 : Value
  v4 : Value
  v5 : Value
structure Fmr (a : Act) (v : Vmr) : Prop where
  size : a.tmps.size = 45
  defers : a.defers = []
  s0 : a.tmps.getD 0 undef = v.v0
  s1 : a.tmps.getD 1 undef = v.v1
  s2 : a.tmps.getD 2 undef = v.v2
  s3 : a.tmps.getD 3 undef = v.v3
  s4 : a.tmps.getD 4 undef = v.v4
  s5 : a.tmps.getD 5 undef = v.v5
theorem frx_mr {a : Act} {v0 v1 v2 v3 v4 v5 : Value} (h : Fmr a ⟨v0, v1, v2, v3, v4, v5⟩) : ∃ u : Nat → Value, a = ⟨List.toArray (v0 :: v1 :: v2 :: v3 :: v4 :: v5 :: u 6 :: u 7 :: u 8 :: u 9 :: u 10 :: u 11 :: u 12 :: u 13 :: u 14 :: u 15 :: u 16 :: u 17 :: u 18 :: u 19 :: u 20 :: u 21 :: u 22 :: u 23 :: u 24 :: u 25 :: u 26 :: u 27 :: u 28 :: u 29 :: u 30 :: u 31 :: u 32 :: u 33 :: u 34 :: u 35 :: u 36 :: u 37 :: u 38 :: u 39 :: u 40 :: u 41 :: u 42 :: u 43 :: u 44 :: []), []⟩ := by
  obtain ⟨t', d'⟩ := a
  obtain ⟨hs, hd, q0, q1, q2, q3, q4, q5⟩ := h
  obtain ⟨u, hu⟩ := frame_mr t' hs
  simp only at hd q0 q1 q2 q3 q4 q5
  subst hu hd
  have e0 : u 0 = v0 := q0
  have e1 : u 1 = v1 := q1
  have e2 : u 2 = v2 := q2
  have e3 : u 3 = v3 := q3
  have e4 : u 4 = v4 := q4
  have e5 : u 5 = v5 := q5
  refine ⟨u, ?_⟩
  rw [e0, e1, e2, e3, e4, e5]
theorem mr_r0 {K : Act → World → Prop} {c : Code} (hc : regOf (Tryz.f14.body.getD .skip) 0 = some c) (a : Act) {v : Vmr} {wq : World} {n pc qc : Nat} {po qo : Option Addr} {x y : Int} (hF : Fmr a v) (h0v : v.v0 = .agg #[.int .i64 x, .int .i64 y, .slice po n pc]) (h1v : v.v1 = .agg #[.int .i64 x, .int .i64 y, .slice qo n qc]) (hQ : ∀ a', Fmr a' { v with v2 := .pointer (some ⟨wq.heap.size, 0, none⟩), v3 := .pointer (some ⟨wq.heap.size + 1, 0, none⟩), v4 := .bool false } → K a' ((wq.alloc (.cells #[.int .i64 x, .int .i64 y, .slice po n pc] 37)).alloc (.cells #[.int .i64 x, .int .i64 y, .slice qo n qc] 37))) :
    Code.wp Tryz.prog c (Exit.then K fun _ _ _ => False) a wq := by
  have HQ := hide hQ
  clear hQ
  obtain ⟨v0, v1, v2, v3, v4, v5⟩ := v
  simp only at h0v h1v HQ
  subst h0v h1v
  obtain ⟨u, rfl⟩ := frx_mr hF
  clear hF
  simp only [Tryz.f14, Option.getD_some, regOf] at hc
  injection hc with hc
  subst hc
  go_wp2
  exact HQ.out _ ⟨rfl, rfl, rfl, rfl, rfl, rfl, rfl, rfl⟩
theorem mr_r1 {K : Act → World → Prop} {c : Code} (hc : regOf (Tryz.f14.body.getD .skip) 1 = some c) (a : Act) {v : Vmr} {wq : World} {b1 b2 n pc qc : Nat} {po qo : Option Addr} {x y : Int} (hF : Fmr a v) (h2v : v.v2 = .pointer (some ⟨b1, 0, none⟩)) (h3v : v.v3 = .pointer (some ⟨b2, 0, none⟩)) (h1 : wq.heap[b1]? = some (.cells #[.int .i64 x, .int .i64 y, .slice po n pc] 37 (0, 0))) (h2 : wq.heap[b2]? = some (.cells #[.int .i64 x, .int .i64 y, .slice qo n qc] 37 (0, 0)))
    (hQ : ∀ a', Fmr a' v → a'.tmps.getD 26 undef = .bool false → K a' wq) :
    Code.wp Tryz.prog c (Exit.then K fun _ _ _ => False) a wq := by
  have HQ := hide hQ
  clear hQ
  obtain ⟨v0, v1, v2, v3, v4, v5⟩ := v
  simp only at h2v h3v HQ
  subst h2v h3v
  obtain ⟨u, rfl⟩ := frx_mr hF
  clear hF
  simp only [Tryz.f14, Option.getD_some, regOf] at hc
  injection hc with hc
  subst hc
  have u0 := box_cell h1 0 rfl
  have t0 := box_cell h2 0 rfl
  have u1 := box_cell h1 1 rfl
  have t1 := box_cell h2 1 rfl
  have u2 := box_cell h1 2 rfl
  have t2 := box_cell h2 2 rfl
  clear h1 h2
  go_wp2
  exact HQ.out _ ⟨rfl, rfl, rfl, rfl, rfl, rfl, rfl, rfl⟩ (by first | rfl | (simp; done))
theorem mr_r3 {K : Act → World → Prop} {c : Code} (hc : regOf (Tryz.f14.body.getD .skip) 3 = some c) (a : Act) {v : Vmr} {wq : World}  (hF : Fmr a v) (hQ : ∀ a', Fmr a' { v with v5 := .int .i64 ((0 : Nat) : Int) } → K a' wq) :
    Code.wp Tryz.prog c (Exit.then K fun _ _ _ => False) a wq := by
  have HQ := hide hQ
  clear hQ
  obtain ⟨v0, v1, v2, v3, v4, v5⟩ := v
  obtain ⟨u, rfl⟩ := frx_mr hF
  clear hF
  simp only [Tryz.f14, Option.getD_some, regOf] at hc
  injection hc with hc
  subst hc
  go_wp2
  exact HQ.out _ ⟨rfl, rfl, rfl, rfl, rfl, rfl, rfl, rfl⟩
theorem mr_r4 {K : Act → World → Prop} {c : Code} (hc : regOf (Tryz.f14.body.getD .skip) 4 = some c) (a : Act) {v : Vmr} {wq : World} {b1 b2 n pc qc : Nat} {po qo : Option Addr} {x y : Int} {k : Nat} (hF : Fmr a v) (h2v : v.v2 = .pointer (some ⟨b1, 0, none⟩)) (h3v : v.v3 = .pointer (some ⟨b2, 0, none⟩)) (h5v : v.v5 = .int .i64 (k : Int)) (h1 : wq.heap[b1]? = some (.cells #[.int .i64 x, .int .i64 y, .slice po n pc] 37 (0, 0))) (h2 : wq.heap[b2]? = some (.cells #[.int .i64 x, .int .i64 y, .slice qo n qc] 37 (0, 0)))
    (hQ : ∀ a', Fmr a' v → a'.tmps.getD 31 undef = .bool (decide ((k : Int) < (n : Int))) → K a' wq) :
    Code.wp Tryz.prog c (Exit.then K fun _ _ _ => False) a wq := by
  have HQ := hide hQ
  clear hQ
  obtain ⟨v0, v1, v2, v3, v4, v5⟩ := v
  simp only at h2v h3v h5v HQ
  subst h2v h3v h5v
  obtain ⟨u, rfl⟩ := frx_mr hF
  clear hF
  simp only [Tryz.f14, Option.getD_some, regOf] at hc
  injection hc with hc
  subst hc
  have u0 := box_cell h1 0 rfl
  have t0 := box_cell h2 0 rfl
  have u1 := box_cell h1 1 rfl
  have t1 := box_cell h2 1 rfl
  have u2 := box_cell h1 2 rfl
  have t2 := box_cell h2 2 rfl
  clear h1 h2
  go_wp2
  exact HQ.out _ ⟨rfl, rfl, rfl, rfl, rfl, rfl, rfl, rfl⟩ (by first | rfl | (simp; done))
theorem mr_r6 {K : Act → World → Prop} {c : Code} (hc : regOf (Tryz.f14.body.getD .skip) 6 = some c) (a : Act) {v : Vmr} {wq : World} {b1 b2 n pc qc k pb pf qb qf : Nat} {x y : Int} {r : Rec} (hF : Fmr a v) (h2v : v.v2 = .pointer (some ⟨b1, 0, none⟩)) (h3v : v.v3 = .pointer (some ⟨b2, 0, none⟩)) (h5v : v.v5 = .int .i64 (k : Int)) (h1 : wq.heap[b1]? = some (.cells #[.int .i64 x, .int .i64 y, .slice (some ⟨pb, pf, none⟩) n pc] 37 (0, 0))) (h2 : wq.heap[b2]? = some (.cells #[.int .i64 x, .int .i64 y, .slice (some ⟨qb, qf, none⟩) n qc] 37 (0, 0))) (hk : k < n) (p0 : wq.cell? ⟨pb, pf + k * 5, none⟩ = some (.int .i64 r.off)) (p1 : wq.cell? ⟨pb, pf + k * 5 + 1, none⟩ = some (.string r.prod)) (p2 : wq.cell? ⟨pb, pf + k * 5 + 2, none⟩ = some (.int .i64 r.seq)) (p3 : wq.cell? ⟨pb, pf + k * 5 + 3, none⟩ = some (.string r.key)) (p4 : wq.cell? ⟨pb, pf + k * 5 + 4, none⟩ = some (.string r.val)) (q0 : wq.cell? ⟨qb, qf + k * 5, none⟩ = some (.int .i64 r.off)) (q1 : wq.cell? ⟨qb, qf + k * 5 + 1, none⟩ = some (.string r.prod)) (q2 : wq.cell? ⟨qb, qf + k * 5 + 2, none⟩ = some (.int .i64 r.seq)) (q3 : wq.cell? ⟨qb, qf + k * 5 + 3, none⟩ = some (.string r.key)) (q4 : wq.cell? ⟨qb, qf + k * 5 + 4, none⟩ = some (.string r.val))
    (hQ : ∀ a' nn, Fmr a' v → a'.tmps.getD 44 undef = .bool false → K a' (wq.drewN nn)) :
    Code.wp Tryz.prog c (Exit.then K fun _ _ _ => False) a wq := by
  have HQ := hide hQ
  clear hQ
  obtain ⟨v0, v1, v2, v3, v4, v5⟩ := v
  simp only at h2v h3v h5v HQ
  subst h2v h3v h5v
  obtain ⟨u, rfl⟩ := frx_mr hF
  clear hF
  simp only [Tryz.f14, Option.getD_some, regOf] at hc
  injection hc with hc
  subst hc
  have u0 := box_cell h1 0 rfl
  have t0 := box_cell h2 0 rfl
  have u1 := box_cell h1 1 rfl
  have t1 := box_cell h2 1 rfl
  have u2 := box_cell h1 2 rfl
  have t2 := box_cell h2 2 rfl
  clear h1 h2
  have i0 : (0 : Int) ≤ (k : Int) := by omega
  have i1 : (k : Int) < (n : Int) := by omega
  obtain ⟨xo, xp, xs, xk, xv⟩ := r
  simp only at p0 p1 p2 p3 p4 q0 q1 q2 q3 q4
  go_wp2
  go_quiet (fail)
  go_wp2
  exact HQ.out _ _ ⟨rfl, rfl, rfl, rfl, rfl, rfl, rfl, rfl⟩ (by first | rfl | (simp; done))
theorem mr_r5 {K : Act → World → Prop} {c : Code} (hc : regOf (Tryz.f14.body.getD .skip) 5 = some c) (a : Act) {v : Vmr} {wq : World} {i : Nat} (hF : Fmr a v) (h5v : v.v5 = .int .i64 (i : Int)) (hi : i ≤ 1000000)
    (hQ : ∀ a', Fmr a' { v with v5 := .int .i64 ((i + 1 : Nat) : Int) } → K a' wq) :
    Code.wp Tryz.prog c (Exit.then K fun _ _ _ => False) a wq := by
  have HQ := hide hQ
  clear hQ
  obtain ⟨v0, v1, v2, v3, v4, v5⟩ := v
  simp only at h5v HQ
  subst h5v
  obtain ⟨u, rfl⟩ := frx_mr hF
  clear hF
  simp only [Tryz.f14, Option.getD_some, regOf] at hc
  injection hc with hc
  subst hc
  go_wp2
  exact HQ.out _ ⟨rfl, rfl, rfl, rfl, rfl, rfl, rfl, (by first | rfl | (simp; done) | (go_num; done))⟩
theorem mr_r8 {K : Act → World → Prop} {c : Code} (hc : regOf (Tryz.f14.body.getD .skip) 8 = some c) (a : Act) {v : Vmr} {wq : World}  (hF : Fmr a v) (hQ : ∀ a', Fmr a' { v with v4 := .bool true } → K a' wq) :
    Code.wp Tryz.prog c (Exit.then K fun _ _ _ => False) a wq := by
  have HQ := hide hQ
  clear hQ
  obtain ⟨v0, v1, v2, v3, v4, v5⟩ := v
  obtain ⟨u, rfl⟩ := frx_mr hF
  clear hF
  simp only [Tryz.f14, Option.getD_some, regOf] at hc
  injection hc with hc
  subst hc
  go_wp2
  exact HQ.out _ ⟨rfl, rfl, rfl, rfl, rfl, rfl, rfl, rfl⟩
theorem mr_ret {W : World} {a : Act} {v : Vmr} {x : Value} {R : Ending → World → Prop} (hF : Fmr a v) (h2 : v.v4 = x) (h : R (.returned x) W) : bodyPost Tryz.prog Tryz.f14 R .ret a W := by
  have g0 := slot_get (hF.s4.trans h2)
  refine bodyPost_ret (v := x) ?_ hF.defers h
  simp [results, Tryz.results14, go_sem, g0]
theorem preplies {w : World} (l : List Rec) (hl : l.length ≤ 100000) (x y : Int) (po qo : Option Addr) (pc qc : Nat) (hp : RecsAt w (.slice po l.length pc) l) (hq : RecsAt w (.slice qo l.length qc) l) :
    Calls Tryz.prog 14 #[.agg #[.int .i64 x, .int .i64 y, .slice po l.length pc], .agg #[.int .i64 x, .int .i64 y, .slice qo l.length qc]] w fun e w' => e = .returned (.bool true) ∧ Below w.heap.size w w' := by
  have b1 : Below w.heap.size w ((w.alloc (.cells #[.int .i64 x, .int .i64 y, .slice po l.length pc] 37)).alloc (.cells #[.int .i64 x, .int .i64 y, .slice qo l.length qc] 37)) := ((Below.refl w.heap.size w).alloc (Nat.le_refl _) _).alloc (by simp) _
  have c1 : ((w.alloc (.cells #[.int .i64 x, .int .i64 y, .slice po l.length pc] 37)).alloc (.cells #[.int .i64 x, .int .i64 y, .slice qo l.length qc] 37)).heap[w.heap.size]? = some (.cells #[.int .i64 x, .int .i64 y, .slice po l.length pc] 37 (0, 0)) := Below.at ((Below.refl _ _).alloc (Nat.le_refl _) _) (heap_alloc_new w _)
  have c2 : ((w.alloc (.cells #[.int .i64 x, .int .i64 y, .slice po l.length pc] 37)).alloc (.cells #[.int .i64 x, .int .i64 y, .slice qo l.length qc] 37)).heap[w.heap.size + 1]? = some (.cells #[.int .i64 x, .int .i64 y, .slice qo l.length qc] 37 (0, 0)) := by
    have := heap_alloc_new (w.alloc (.cells #[.int .i64 x, .int .i64 y, .slice po l.length pc] 37)) (.cells #[.int .i64 x, .int .i64 y, .slice qo l.length qc] 37)
    simpa using this
  generalize hn : l.length = n at *
  go_enter Tryz.func14, Tryz.ntmps14
  refine wp_seq (reg_mono (mr_r0 (by kernel_rfl) _ (v := ⟨_, _, _, _, _, _⟩) ⟨rfl, rfl, rfl, rfl, rfl, rfl, rfl, rfl⟩ rfl rfl ?_))
  intro a0 F0
  try dsimp only at F0
  generalize (w.alloc _).alloc _ = w1 at *
  have p1 := hp.below b1
  have q1 := hq.below b1
  refine wp_seq (wp_seq (reg_mono (mr_r1 (by kernel_rfl) _ F0 rfl rfl c1 c2 ?_)))
  intro a1 F1 g1
  refine wp_cond_false g1 (wp_skip ?_)
  show Code.wp _ _ _ _ _
  refine wp_seq (wp_seq (reg_mono (mr_r3 (by kernel_rfl) _ F1 ?_)))
  intro a3 F3
  try dsimp only at F3
  refine wp_block (wp_loop (fun a W => ∃ (k nn : Nat) (v : Vmr), k ≤ n ∧ Fmr a v ∧ v.v2 = .pointer (some ⟨w.heap.size, 0, none⟩) ∧ v.v3 = .pointer (some ⟨w.heap.size + 1, 0, none⟩) ∧ v.v5 = .int .i64 (k : Int) ∧ Below w1.heap.size w1 W) (fun a _ => n - (intOf (a.tmps.getD 5 undef)).toNat) ⟨0, 0, _, Nat.zero_le _, F3, rfl, rfl, rfl, Below.refl _ _⟩ ?_)
  clear F0 F1 F3 g1
  rintro a W ⟨k, _, v, hk, F, q2, q3, q5, bW⟩
  have hmk : (intOf (a.tmps.getD 5 undef)).toNat = k := by rw [F.s5, q5]; simp [intOf]
  obtain ⟨v0, v1, v2, v3, v4, v5⟩ := v
  simp only at q2 q3 q5
  subst q2 q3 q5
  have cW := Below.at bW c1
  have dW := Below.at bW c2
  refine wp_seq (wp_seq (reg_mono (mr_r4 (by kernel_rfl) _ F rfl rfl rfl cW dW ?_)))
  intro a4 F4 g4
  by_cases hlt : k < n
  case pos =>
    rw [decide_eq_true (show (k : Int) < (n : Int) by omega)] at g4
    refine wp_cond_true g4 (wp_skip ?_)
    show Code.wp _ _ _ _ _
    have hkl : k < l.length := by omega
    obtain ⟨_, pb, pf, rfl, _, x0, x1, x2, x3, x4⟩ := (p1.below bW).five k hkl
    obtain ⟨_, qb, qf, rfl, _, z0, z1, z2, z3, z4⟩ := (q1.below bW).five k hkl
    refine wp_seq (wp_block ?_)
    refine wp_seq (reg_mono (mr_r6 (r := l[k]) (by kernel_rfl) _ F4 rfl rfl rfl cW dW hlt x0 x1 x2 x3 x4 z0 z1 z2 z3 z4 ?_))
    intro a6 nn F6 g6
    refine wp_cond_false g6 (wp_skip ?_)
    show Code.wp _ _ _ _ _
    refine reg_mono (mr_r5 (by kernel_rfl) _ F6 rfl (by omega) ?_)
    intro a5 F5
    try dsimp only at F5
    refine ⟨⟨k + 1, 0, _, hlt, F5, rfl, rfl, rfl, below_drewN bW nn⟩, ?_⟩
    rw [hmk, F5.s5]
    simp [intOf]
    omega
  rw [decide_eq_false (show ¬ (k : Int) < (n : Int) by omega)] at g4
  refine wp_cond_false g4 (wp_exit ?_)
  show Code.wp _ _ _ _ _
  refine wp_seq (reg_mono (mr_r8 (by kernel_rfl) _ F4 ?_))
  intro a8 F8
  try dsimp only at F8
  refine wp_ret ?_
  exact mr_ret F8 rfl ⟨rfl, b1.trans (bW.mono b1.size)⟩
theorem pmdigest {w : World} {L : LM} {X : MS} (h : MAt w L X) : Calls Tryz.prog 16 #[.pointer (some ⟨L.b, 0, none⟩)] w fun e w' => e = .returned (.agg #[.int .i64 X.dig.re, .int .i64 X.dig.im]) ∧ Below w.heap.size w w' := by
  obtain ⟨c0, c1, c2, c3, c4⟩ := h.cells
  have lb := h.lt.1
  have b1 := (Below.refl w.heap.size w).alloc (Nat.le_refl _) (.cells #[.int .i64 0, .int .i64 0] 45)
  have e1 := (b1.cell (p := ⟨L.b, 1, none⟩) lb).trans c1
  have e2 := (b1.cell (p := ⟨L.b, 2, none⟩) lb).trans c2
  clear b1
  go_enter Tryz.func16, Tryz.ntmps16
  go_wp2
  refine bodyPost_ret (v := .agg #[.int .i64 X.dig.re, .int .i64 X.dig.im]) (by simp [results, Tryz.results16, go_sem]) rfl ⟨rfl, ?_⟩
  exact (Below.refl w.heap.size w).alloc (Nat.le_refl _) _
end Go.Proofs.YtlfodldlkchmoaaGreat.Y
