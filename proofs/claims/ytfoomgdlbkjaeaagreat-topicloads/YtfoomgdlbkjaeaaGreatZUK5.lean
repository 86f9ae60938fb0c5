/-
  slices.Chunk of items, five at a time (mkuk.py, out of wip/command)
-/
import Derived.RangeFuncNested
import Derived.RangeFuncBound
import Derived.RangeFuncCalls
import Derived.RangeFuncLeaves
import Derived.Shelf.Abstract
import Derived.Shelf.RegionOpen
import Derived.WalkKit
import Derived.OwnWalkIn
import Derived.TacticsInMore
import Derived.LoopNIn
import Derived.LoopIn
import Derived.BigQuiet
import Derived.Deep.QuietTactic
import Derived.Test.YtfoomgdlbkjaeaaGreatZPhiIn
import Derived.Test.YtfoomgdlbkjaeaaGreatZAF
import Derived.Test.YtfoomgdlbkjaeaaGreatProg
namespace Go.Proofs.YtfoomgdlbkjaeaaGreat.Y.P3
open Go.RowKit Go.Shelf
set_option maxHeartbeats 8000000
set_option maxRecDepth 100000
attribute [local go_sem] Oper.semAt_some
set_option linter.unusedSimpArgs false
set_option linter.unusedVariables false
theorem take_next {α : Type} (zs : List α) (k : Nat) (hk : k < zs.length) : zs.take (k + 1) = zs.take k ++ [zs[k]] := by
  rw [List.take_succ_eq_append_getElem hk]
theorem box1_cell {W : World} {B : Nat} {v : Value} {t : TypeId} (h : W.heap[B]? = some (.cells #[v] t (0, 0))) : W.cell? ⟨B, 0, none⟩ = some v := by simp [World.cell?, h]
theorem heap_up {w : World} {b : Nat} {o o' : Obj} (h : w.heap[b]? = some o) : (w.alloc o').heap[b]? = some o := (Below.heap_alloc w o' b (Array.getElem?_eq_some_iff.1 h).1).trans h
theorem below_put {w W : World} {D B : Nat} {o2 : Obj} (hB : Below B w W) (hD : B ≤ D) (hK : W.heap[D]? = some (.deferred (some []))) : Below B w (W.putObj D o2) :=
  hB.grown (grownBy_putObj' W D o2) (Nat.le_trans hD (Nat.le_of_lt (heap_lt hK))) (fun k e => by cases e; exact hD)
def ChunkAt (Bs Bn : Nat) (ao : Option Addr) (q cap : Nat) (W : World) : Prop := W.heap[Bs]? = some (.cells #[.slice ao (3 * q) cap] 66 (0, 0)) ∧ W.heap[Bn]? = some (.cells #[.int .i64 3] 3 (0, 0))
theorem chunk1_in (q n l Bs Bn b off cap : Nat) (hq : q ≤ 10000000) (hcap : 3 * q ≤ cap) (ao : Option Addr) (hao : 0 < q → ao = some ⟨b, off, none⟩) (J Jx : List (Fin q) → World → Prop)
    (hY : ∀ pre x W, J pre W → pre.length < q → YieldAt Fence.wide (n - 1) Tryz.prog l #[.slice (some ⟨b, off + x.val * 9, none⟩) 3 3] W fun e W' =>
      (e = .returned (.bool true) ∧ J (pre ++ [x]) W' ∧ (ChunkAt Bs Bn ao q cap W → ChunkAt Bs Bn ao q cap W')) ∨ (e = .returned (.bool false) ∧ Jx (pre ++ [x]) W'))
    (W : World) (hC : ChunkAt Bs Bn ao q cap W) (hJd : ∀ pre W W', J pre W → Below W.heap.size W W' → J pre W') (h0 : J [] W) :
    CallsIn Fence.wide n Tryz.prog 100 #[.func (.yield l) #[] #[], .pointer (some ⟨Bs, 0, none⟩), .pointer (some ⟨Bn, 0, none⟩)] W fun e W' => (∃ v, e = .returned v) ∧
      ((∃ ys, ys = List.finRange q ∧ J ys W') ∨ (∃ pre, pre <+: List.finRange q ∧ Jx pre W')) := by
  refine callsIn_of_wp Tryz.func100 rfl trivial ?_ rfl
  simp only [Tryz.ntmps100, List.size_toArray, List.length_cons, List.length_nil, Nat.reduceAdd, Nat.reduceSub, Array.replicate_succ, Array.replicate_zero, List.push_toArray, List.append_toArray, List.nil_append, List.cons_append]
  gi_wp2
  gi_loopw [4] (fun i wr => ∃ k : Nat, k ≤ q ∧ i = .int .i64 ((3 * k : Nat) : Int) ∧ J ((List.finRange q).take k) wr ∧ ChunkAt Bs Bn ao q cap wr)
    (fun i _ => 3 * q - (intOf i).toNat)
  case atStart => exact ⟨0, Nat.zero_le _, rfl, h0, hC⟩
  case round =>
    obtain ⟨k, hk, rfl, hJs, hnx⟩ := hrel
    have hs := box1_cell hnx.1
    have hn2 := box1_cell hnx.2
    by_cases hlt : k < q
    · obtain rfl := hao (by omega)
      have g1 : ((3 * k : Nat) : Int) < ((3 * q : Nat) : Int) := by omega
      generalize hkk : 3 * k = kk at *
      generalize hqq : 3 * q = qq at *
      gi_wp2
      refine wpIn_wide.2 ?_
      have g2 : kk ≤ qq := by omega
      have g3 : (kk : Int) ≤ (qq : Int) := by omega
      have g4 : (0 : Int) ≤ (kk : Int) := by omega
      have g5 : kk ≤ cap := by omega
      go_quiet (fail)
      have bd : Below wr.heap.size wr (wr.drewN nq) := below_drewN (Below.refl _ _) _
      have hJ2 := hJd _ _ _ hJs bd
      have hnx2 : ChunkAt Bs Bn (some ⟨b, off, none⟩) q cap (wr.drewN nq) := ⟨(bd.block _ (heap_lt hnx.1)).trans hnx.1, (bd.block _ (heap_lt hnx.2)).trans hnx.2⟩
      have hs2 := box1_cell hnx2.1
      rw [hqq] at hs2
      have hn3 := box1_cell hnx2.2
      obtain ⟨fn, tmps, assign, body, hy, hR⟩ := hY _ ⟨k, hlt⟩ (wr.drewN nq) hJ2 (by simp; omega)
      have e6 : off + k * 9 = off + kk * 3 := by omega
      simp only [e6] at hy
      have g6 : (kk : Int) + 3 ≤ (cap : Int) := by omega
      have g7 : -9223372036854775808 ≤ (kk : Int) + 3 := by omega
      have g8 : (kk : Int) + 3 ≤ 9223372036854775807 := by omega
      generalize wr.drewN nq = w9 at *
      gi_wp2
      refine ⟨fun h => (by cases h), hR.mono ?_⟩
      rintro e W3 (⟨rfl, hJ3, hk3⟩ | ⟨rfl, hJx3⟩)
      · have hnx3 := hk3 hnx2
        have hn4 := box1_cell hnx3.2
        gi_wp2
        go_roundw
        case rel => exact ⟨k + 1, by omega, by rw [show 3 * (k + 1) = kk + 3 by omega]; simp, by rw [take_next _ _ (by simpa using hlt), List.getElem_finRange]; exact hJ3, hnx3⟩
        case measure => simp [intOf]; omega
      · gi_wp2
        refine bodyPost_ret (results_none rfl _ _ _) rfl ?_
        refine ⟨⟨_, rfl⟩, .inr ⟨_, ?_, hJx3⟩⟩
        have e9 : (List.finRange q).take k ++ [(⟨k, hlt⟩ : Fin q)] = (List.finRange q).take (k + 1) := by rw [take_next _ _ (by simpa using hlt), List.getElem_finRange]; rfl
        rw [e9]
        exact List.take_prefix _ _
    · obtain rfl : k = q := by omega
      gi_wp2
      go_end0
      exact ⟨⟨_, rfl⟩, .inl ⟨_, List.take_of_length_le (by simp), hJs⟩⟩
theorem chunk_in (n : Nat) (a : Option Addr) (len cap : Nat) (w : World) :
    CallsIn Fence.wide n Tryz.prog 77 #[.slice a len cap, .int .i64 3] w fun e w' => e = .returned (.func (.func 100) #[] #[.pointer (some ⟨w.heap.size, 0, none⟩), .pointer (some ⟨w.heap.size + 1, 0, none⟩)]) ∧ w' = (w.alloc (.cells #[.slice a len cap] 66)).alloc (.cells #[.int .i64 3] 3) := by
  refine callsIn_of_wp Tryz.func77 rfl trivial ?_ rfl
  simp only [Tryz.ntmps77, List.size_toArray, List.length_cons, List.length_nil, Nat.reduceAdd, Nat.reduceSub, Array.replicate_succ, Array.replicate_zero, List.push_toArray, List.append_toArray, List.nil_append, List.cons_append]
  gi_wp2
  go_ret
  exact ⟨rfl, rfl⟩
theorem chunk_stops (q n Bs Bn b off cap : Nat) (hq : q ≤ 10000000) (hcap : 3 * q ≤ cap) (ao : Option Addr) (hao : 0 < q → ao = some ⟨b, off, none⟩) (w : World) (hC : ChunkAt Bs Bn ao q cap w) :
    SeqStopsK Fence.wide n Tryz.prog 100 #[.pointer (some ⟨Bs, 0, none⟩), .pointer (some ⟨Bn, 0, none⟩)] (fun x : Fin q => #[.slice (some ⟨b, off + x.val * 9, none⟩) 3 3]) (fun X Y => ChunkAt Bs Bn ao q cap X → ChunkAt Bs Bn ao q cap Y) (fun ys => ys = List.finRange q) (fun pre => pre <+: List.finRange q) q w := fun l J Jx W hW hJ _ hY h0 =>
  chunk1_in q n l Bs Bn b off cap hq hcap ao hao J Jx hY W ⟨(hW.block _ (heap_lt hC.1)).trans hC.1, (hW.block _ (heap_lt hC.2)).trans hC.2⟩ (fun pre X X' h hb => hJ pre X X' none h ⟨hb.os, hb.tape, hb.output, hb.size, fun k hk _ => hb.block k hk⟩ (fun r e => by cases e)) h0
theorem chunk_put {Bs Bn q cap : Nat} {ao : Option Addr} (W : World) (l : Nat) (o o' : Obj) (h : W.heap[l]? = some o) (hc : o.isCells = false) : ChunkAt Bs Bn ao q cap W → ChunkAt Bs Bn ao q cap (W.putObj l o') := fun hC => by
  have out : ∀ (k : Nat) (o2 : Obj), W.heap[k]? = some o2 → o2.isCells = true → (W.putObj l o').heap[k]? = some o2 := fun k o2 hk h2 => (World.putObj_heap_other (fun e => by subst e; rw [h] at hk; cases hk; rw [hc] at h2; cases h2)).trans hk
  exact ⟨out _ _ hC.1 rfl, out _ _ hC.2 rfl⟩
end Go.Proofs.YtfoomgdlbkjaeaaGreat.Y.P3
namespace Go.Proofs.YtfoomgdlbkjaeaaGreat.Y.P5
open Go.RowKit Go.Shelf
set_option maxHeartbeats 8000000
set_option maxRecDepth 100000
attribute [local go_sem] Oper.semAt_some
set_option linter.unusedSimpArgs false
set_option linter.unusedVariables false
theorem take_next {α : Type} (zs : List α) (k : Nat) (hk : k < zs.length) : zs.take (k + 1) = zs.take k ++ [zs[k]] := by
  rw [List.take_succ_eq_append_getElem hk]
theorem box1_cell {W : World} {B : Nat} {v : Value} {t : TypeId} (h : W.heap[B]? = some (.cells #[v] t (0, 0))) : W.cell? ⟨B, 0, none⟩ = some v := by simp [World.cell?, h]
theorem heap_up {w : World} {b : Nat} {o o' : Obj} (h : w.heap[b]? = some o) : (w.alloc o').heap[b]? = some o := (Below.heap_alloc w o' b (Array.getElem?_eq_some_iff.1 h).1).trans h
theorem below_put {w W : World} {D B : Nat} {o2 : Obj} (hB : Below B w W) (hD : B ≤ D) (hK : W.heap[D]? = some (.deferred (some []))) : Below B w (W.putObj D o2) :=
  hB.grown (grownBy_putObj' W D o2) (Nat.le_trans hD (Nat.le_of_lt (heap_lt hK))) (fun k e => by cases e; exact hD)
def ChunkAt (Bs Bn : Nat) (ao : Option Addr) (q cap : Nat) (W : World) : Prop := W.heap[Bs]? = some (.cells #[.slice ao (5 * q) cap] 66 (0, 0)) ∧ W.heap[Bn]? = some (.cells #[.int .i64 5] 3 (0, 0))
theorem chunk1_in (q n l Bs Bn b off cap : Nat) (hq : q ≤ 10000000) (hcap : 5 * q ≤ cap) (ao : Option Addr) (hao : 0 < q → ao = some ⟨b, off, none⟩) (J Jx : List (Fin q) → World → Prop)
    (hY : ∀ pre x W, J pre W → pre.length < q → YieldAt Fence.wide (n - 1) Tryz.prog l #[.slice (some ⟨b, off + x.val * 15, none⟩) 5 5] W fun e W' =>
      (e = .returned (.bool true) ∧ J (pre ++ [x]) W' ∧ (ChunkAt Bs Bn ao q cap W → ChunkAt Bs Bn ao q cap W')) ∨ (e = .returned (.bool false) ∧ Jx (pre ++ [x]) W'))
    (W : World) (hC : ChunkAt Bs Bn ao q cap W) (hJd : ∀ pre W W', J pre W → Below W.heap.size W W' → J pre W') (h0 : J [] W) :
    CallsIn Fence.wide n Tryz.prog 100 #[.func (.yield l) #[] #[], .pointer (some ⟨Bs, 0, none⟩), .pointer (some ⟨Bn, 0, none⟩)] W fun e W' => (∃ v, e = .returned v) ∧
      ((∃ ys, ys = List.finRange q ∧ J ys W') ∨ (∃ pre, pre <+: List.finRange q ∧ Jx pre W')) := by
  refine callsIn_of_wp Tryz.func100 rfl trivial ?_ rfl
  simp only [Tryz.ntmps100, List.size_toArray, List.length_cons, List.length_nil, Nat.reduceAdd, Nat.reduceSub, Array.replicate_succ, Array.replicate_zero, List.push_toArray, List.append_toArray, List.nil_append, List.cons_append]
  gi_wp2
  gi_loopw [4] (fun i wr => ∃ k : Nat, k ≤ q ∧ i = .int .i64 ((5 * k : Nat) : Int) ∧ J ((List.finRange q).take k) wr ∧ ChunkAt Bs Bn ao q cap wr)
    (fun i _ => 5 * q - (intOf i).toNat)
  case atStart => exact ⟨0, Nat.zero_le _, rfl, h0, hC⟩
  case round =>
    obtain ⟨k, hk, rfl, hJs, hnx⟩ := hrel
    have hs := box1_cell hnx.1
    have hn2 := box1_cell hnx.2
    by_cases hlt : k < q
    · obtain rfl := hao (by omega)
      have g1 : ((5 * k : Nat) : Int) < ((5 * q : Nat) : Int) := by omega
      generalize hkk : 5 * k = kk at *
      generalize hqq : 5 * q = qq at *
      gi_wp2
      refine wpIn_wide.2 ?_
      have g2 : kk ≤ qq := by omega
      have g3 : (kk : Int) ≤ (qq : Int) := by omega
      have g4 : (0 : Int) ≤ (kk : Int) := by omega
      have g5 : kk ≤ cap := by omega
      go_quiet (fail)
      have bd : Below wr.heap.size wr (wr.drewN nq) := below_drewN (Below.refl _ _) _
      have hJ2 := hJd _ _ _ hJs bd
      have hnx2 : ChunkAt Bs Bn (some ⟨b, off, none⟩) q cap (wr.drewN nq) := ⟨(bd.block _ (heap_lt hnx.1)).trans hnx.1, (bd.block _ (heap_lt hnx.2)).trans hnx.2⟩
      have hs2 := box1_cell hnx2.1
      rw [hqq] at hs2
      have hn3 := box1_cell hnx2.2
      obtain ⟨fn, tmps, assign, body, hy, hR⟩ := hY _ ⟨k, hlt⟩ (wr.drewN nq) hJ2 (by simp; omega)
      have e6 : off + k * 15 = off + kk * 3 := by omega
      simp only [e6] at hy
      have g6 : (kk : Int) + 5 ≤ (cap : Int) := by omega
      have g7 : -9223372036854775808 ≤ (kk : Int) + 5 := by omega
      have g8 : (kk : Int) + 5 ≤ 9223372036854775807 := by omega
      generalize wr.drewN nq = w9 at *
      gi_wp2
      refine ⟨fun h => (by cases h), hR.mono ?_⟩
      rintro e W3 (⟨rfl, hJ3, hk3⟩ | ⟨rfl, hJx3⟩)
      · have hnx3 := hk3 hnx2
        have hn4 := box1_cell hnx3.2
        gi_wp2
        go_roundw
        case rel => exact ⟨k + 1, by omega, by rw [show 5 * (k + 1) = kk + 5 by omega]; simp, by rw [take_next _ _ (by simpa using hlt), List.getElem_finRange]; exact hJ3, hnx3⟩
        case measure => simp [intOf]; omega
      · gi_wp2
        refine bodyPost_ret (results_none rfl _ _ _) rfl ?_
        refine ⟨⟨_, rfl⟩, .inr ⟨_, ?_, hJx3⟩⟩
        have e9 : (List.finRange q).take k ++ [(⟨k, hlt⟩ : Fin q)] = (List.finRange q).take (k + 1) := by rw [take_next _ _ (by simpa using hlt), List.getElem_finRange]; rfl
        rw [e9]
        exact List.take_prefix _ _
    · obtain rfl : k = q := by omega
      gi_wp2
      go_end0
      exact ⟨⟨_, rfl⟩, .inl ⟨_, List.take_of_length_le (by simp), hJs⟩⟩
theorem chunk_in (n : Nat) (a : Option Addr) (len cap : Nat) (w : World) :
    CallsIn Fence.wide n Tryz.prog 77 #[.slice a len cap, .int .i64 5] w fun e w' => e = .returned (.func (.func 100) #[] #[.pointer (some ⟨w.heap.size, 0, none⟩), .pointer (some ⟨w.heap.size + 1, 0, none⟩)]) ∧ w' = (w.alloc (.cells #[.slice a len cap] 66)).alloc (.cells #[.int .i64 5] 3) := by
  refine callsIn_of_wp Tryz.func77 rfl trivial ?_ rfl
  simp only [Tryz.ntmps77, List.size_toArray, List.length_cons, List.length_nil, Nat.reduceAdd, Nat.reduceSub, Array.replicate_succ, Array.replicate_zero, List.push_toArray, List.append_toArray, List.nil_append, List.cons_append]
  gi_wp2
  go_ret
  exact ⟨rfl, rfl⟩
theorem chunk_stops (q n Bs Bn b off cap : Nat) (hq : q ≤ 10000000) (hcap : 5 * q ≤ cap) (ao : Option Addr) (hao : 0 < q → ao = some ⟨b, off, none⟩) (w : World) (hC : ChunkAt Bs Bn ao q cap w) :
    SeqStopsK Fence.wide n Tryz.prog 100 #[.pointer (some ⟨Bs, 0, none⟩), .pointer (some ⟨Bn, 0, none⟩)] (fun x : Fin q => #[.slice (some ⟨b, off + x.val * 15, none⟩) 5 5]) (fun X Y => ChunkAt Bs Bn ao q cap X → ChunkAt Bs Bn ao q cap Y) (fun ys => ys = List.finRange q) (fun pre => pre <+: List.finRange q) q w := fun l J Jx W hW hJ _ hY h0 =>
  chunk1_in q n l Bs Bn b off cap hq hcap ao hao J Jx hY W ⟨(hW.block _ (heap_lt hC.1)).trans hC.1, (hW.block _ (heap_lt hC.2)).trans hC.2⟩ (fun pre X X' h hb => hJ pre X X' none h ⟨hb.os, hb.tape, hb.output, hb.size, fun k hk _ => hb.block k hk⟩ (fun r e => by cases e)) h0
theorem chunk_put {Bs Bn q cap : Nat} {ao : Option Addr} (W : World) (l : Nat) (o o' : Obj) (h : W.heap[l]? = some o) (hc : o.isCells = false) : ChunkAt Bs Bn ao q cap W → ChunkAt Bs Bn ao q cap (W.putObj l o') := fun hC => by
  have out : ∀ (k : Nat) (o2 : Obj), W.heap[k]? = some o2 → o2.isCells = true → (W.putObj l o').heap[k]? = some o2 := fun k o2 hk h2 => (World.putObj_heap_other (fun e => by subst e; rw [h] at hk; cases hk; rw [hc] at h2; cases h2)).trans hk
  exact ⟨out _ _ hC.1 rfl, out _ _ hC.2 rfl⟩
end Go.Proofs.YtfoomgdlbkjaeaaGreat.Y.P5
