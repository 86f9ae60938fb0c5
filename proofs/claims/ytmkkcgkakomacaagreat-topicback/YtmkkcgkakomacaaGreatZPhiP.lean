/-
  A region that draws its order, by what each of its operations leaves behind, with one operation that turns what is known of the world (mkphip.py); nothing of the program is in this text.
-/
import Derived.OrdersIn
import Derived.RangeFuncCalls
import Derived.TacticsIn
import Derived.Test.YtmkkcgkakomacaaGreatZC4
import Derived.Test.YtmkkcgkakomacaaGreatZPhiG
import Derived.RangeFuncSeq
import Derived.RangeFuncNested
import Derived.RangeFuncBound
import Derived.RangeFuncLeaves
import Derived.Shelf.Abstract
import Derived.Shelf.RegionOpen
import Derived.WalkKit
import Derived.OwnWalkIn
import Derived.TacticsInMore
import Derived.LoopNIn
import Derived.LoopIn
import Derived.BigQuiet
import Derived.Deep.QuietTactic
import Derived.Test.YtmkkcgkakomacaaGreatZC2
import Derived.Test.YtmkkcgkakomacaaGreatProg
namespace Go.Proofs.YtmkkcgkakomacaaGreat
open Go
variable {P : Program} {ops : Array Oper} {Q : Exit → Act → World → Prop} {n l : Nat}
theorem oper_inRound {o : Oper} {a : Act} {w : World} {K : Act → World → Prop} (hd : ∀ c, o.op ≠ .defer c) (h : o.wp P a w K Q) : o.wpIn (Fence.wide.inRound l) n P a w K Q := by
  refine ⟨fun _ _ => trivial, ?_⟩
  rw [Oper.semAt_eq _ _ _ hd]
  unfold Oper.wp at h
  generalize (execOp a.eval o).run P w = r at *
  cases r with
  | ok x w' =>
    cases x <;> simp only [Oper.upon, Oper.uponIn] at h ⊢ <;>
      first
        | exact h
        | exact h.elim
        | exact ⟨fun e => (by cases e), CallsIn.inRound l (callsIn_wide.2 h)⟩
        | exact ⟨fun e => (by cases e), fun c cs _ => let ⟨v, w'', r, s⟩ := h c cs; ⟨v, w'', r, (stepsIn_wide (P := P)).2 s⟩⟩
  | halt x w' => cases x <;> simp only [Oper.upon, Oper.uponIn] at h ⊢ <;> exact h
def noDefer (ops : Array Oper) : Bool := ops.toList.all fun o => match o.op with
  | .defer _ => false
  | _ => true
theorem noDefer_spec (h : noDefer ops = true) (i : Nat) (o : Oper) (ho : ops[i]? = some o) (c) : o.op ≠ .defer c := by
  intro e
  have h1 := List.all_eq_true.1 h o (by rw [Array.mem_toList_iff]; exact Array.mem_of_getElem? ho)
  rw [e] at h1
  cases h1
theorem wpOp_inRound {i : Nat} {a : Act} {w : World} {K : Act → World → Prop} (hd : noDefer ops = true) (hQ : ¬ LetsOut Q) (h : wpOp P ops Q i K a w) : wpOpIn (Fence.wide.inRound l) n P ops Q i K a w := by
  unfold wpOp at h
  unfold wpOpIn
  cases ho : ops[i]? with
  | none => rw [ho] at h; exact h
  | some o =>
    rw [ho] at h
    simp only at h ⊢
    by_cases hw : Region.wanted o (yielded ops a.tmps) = true
    · simp only [hw, if_true] at h ⊢
      rcases h with h | ⟨_, h⟩
      · exact oper_inRound (noDefer_spec hd i o ho) h
      · exact absurd h hQ
    · simp only [hw] at h ⊢
      exact ⟨fun _ _ => trivial, h⟩
theorem wpAny_inRound {md : Region.Mode} (hd : noDefer ops = true) (hQ : ¬ LetsOut Q) : ∀ (fuel : Nat) (listed : Array Bool) (a : Act) (w : World), wpAny P md ops Q fuel listed a w → wpAnyIn (Fence.wide.inRound l) n P md ops Q fuel listed a w
  | 0, _, _, _, h => h
  | fuel + 1, _, _, _, h => ⟨h.1, fun i hi => wpOpIn_mono (fun a' w' h' => wpAny_inRound hd hQ fuel _ a' w' h') (wpOp_inRound hd hQ (h.2 i hi))⟩
theorem wpIn_region_last {id : Nat} {a : Act} {w : World} (m : Nat) {o : Oper} (hx : ops.toList[m]? = some o) (hl : lastOk ops m = true) (hdst : o.dst = none) (hg : o.guard = none) (hm : P.follows .mixedOrders = true) (hd : noDefer ops = true) (hQ : ¬ LetsOut Q)
    (h : ∀ ops', ops' = ops.setIfInBounds m (idle o) → wpAny P .any ops' (Behind P o Q) ops'.size (Array.replicate ops'.size false) a w.drew) : (Code.region id ops true).wpIn (Fence.wide.inRound l) n P Q a w := by
  have ho : ops[m]? = some o := by rw [← Array.getElem?_toList]; exact hx
  refine wpIn_region_any hm (wpAny_inRound hd hQ _ _ _ _ ?_)
  have h1 := h _ rfl
  rw [Array.size_setIfInBounds] at h1
  have hn := (Array.getElem?_eq_some_iff.1 ho).1
  refine wpAny_last ho hl hdst hg _ _ a _ (by simp) ?_ ?_ h1
  · rw [Array.getElem?_replicate, if_pos hn]
  · intro k ok _ hk
    rw [Array.getElem?_replicate] at hk
    split at hk <;> cases hk
end Go.Proofs.YtmkkcgkakomacaaGreat
namespace Go.Proofs.YtmkkcgkakomacaaGreat
open Go Go.RowKit
set_option linter.unusedSimpArgs false
section
variable {P : Program} {ops : Array Oper} {Q : Exit → Act → World → Prop} {F : Fence} {n : Nat}
end
end Go.Proofs.YtmkkcgkakomacaaGreat
namespace Go.Proofs.YtmkkcgkakomacaaGreat.Y.P3
open Go.RowKit Go.Shelf
set_option maxHeartbeats 8000000
set_option maxRecDepth 100000
attribute [local go_sem] Oper.semAt_some
set_option linter.unusedSimpArgs false
set_option linter.unusedVariables false
theorem take_next {α : Type} (zs : List α) (k : Nat) (hk : k < zs.length) : zs.take (k + 1) = zs.take k ++ [zs[k]] := by
  rw [List.take_succ_eq_append_getElem hk]
theorem box1_cell {W : World} {B : Nat} {v : Value} {t : TypeId} (h : W.heap[B]? = some (.cells #[v] t (0, 0))) : W.cell? ⟨B, 0, none⟩ = some v := by simp [World.cell?, h]
theorem heap_up {w : World} {b : Nat} {o o' : Obj} (h : w.heap[b]? = some o) : (w.alloc o').heap[b]? = some o := (Below.heap_alloc w o' b (Array.getElem?_eq_some_iff.1 h).1).trans h
theorem below_put {w W : World} {D B : Nat} {o2 : Obj} (hB : Below B w W) (hD : B ≤ D) (hK : W.heap[D]? = some (.deferred (some []))) : Below B w (W.putObj D o2) :=
  hB.grown (grownBy_putObj' W D o2) (Nat.le_trans hD (Nat.le_of_lt (heap_lt hK))) (fun k e => by cases e; exact hD)
def ChunkAt (Bs Bn : Nat) (ao : Option Addr) (q cap : Nat) (W : World) : Prop := W.heap[Bs]? = some (.cells #[.slice ao (3 * q) cap] 66 (0, 0)) ∧ W.heap[Bn]? = some (.cells #[.int .i64 3] 3 (0, 0))
theorem chunk1_in (q n l Bs Bn b off cap : Nat) (hq : q ≤ 10000000) (hcap : 3 * q ≤ cap) (ao : Option Addr) (hao : 0 < q → ao = some ⟨b, off, none⟩) (J Jx : List (Fin q) → World → Prop)
    (hY : ∀ pre x W, J pre W → pre.length < q → YieldAt Fence.wide (n - 1) Tryz.prog l #[.slice (some ⟨b, off + x.val * 9, none⟩) 3 3] W fun e W' =>
      (e = .returned (.bool true) ∧ J (pre ++ [x]) W' ∧ (ChunkAt Bs Bn ao q cap W → ChunkAt Bs Bn ao q cap W')) ∨ (e = .returned (.bool false) ∧ Jx (pre ++ [x]) W'))
    (W : World) (hC : ChunkAt Bs Bn ao q cap W) (hJd : ∀ pre W W', J pre W → Below W.heap.size W W' → J pre W') (h0 : J [] W) :
    CallsIn Fence.wide n Tryz.prog 100 #[.func (.yield l) #[] #[], .pointer (some ⟨Bs, 0, none⟩), .pointer (some ⟨Bn, 0, none⟩)] W fun e W' => (∃ v, e = .returned v) ∧
      ((∃ ys, ys = List.finRange q ∧ J ys W') ∨ (∃ pre, pre <+: List.finRange q ∧ Jx pre W')) := by
  refine callsIn_of_wp Tryz.func100 rfl trivial ?_ rfl
  simp only [Tryz.ntmps100, List.size_toArray, List.length_cons, List.length_nil, Nat.reduceAdd, Nat.reduceSub, Array.replicate_succ, Array.replicate_zero, List.push_toArray, List.append_toArray, List.nil_append, List.cons_append]
  gi_wp2
  gi_loopw [4] (fun i wr => ∃ k : Nat, k ≤ q ∧ i = .int .i64 ((3 * k : Nat) : Int) ∧ J ((List.finRange q).take k) wr ∧ ChunkAt Bs Bn ao q cap wr)
    (fun i _ => 3 * q - (intOf i).toNat)
  case atStart => exact ⟨0, Nat.zero_le _, rfl, h0, hC⟩
  case round =>
    obtain ⟨k, hk, rfl, hJs, hnx⟩ := hrel
    have hs := box1_cell hnx.1
    have hn2 := box1_cell hnx.2
    by_cases hlt : k < q
    · obtain rfl := hao (by omega)
      have g1 : ((3 * k : Nat) : Int) < ((3 * q : Nat) : Int) := by omega
      generalize hkk : 3 * k = kk at *
      generalize hqq : 3 * q = qq at *
      gi_wp2
      refine wpIn_wide.2 ?_
      have g2 : kk ≤ qq := by omega
      have g3 : (kk : Int) ≤ (qq : Int) := by omega
      have g4 : (0 : Int) ≤ (kk : Int) := by omega
      have g5 : kk ≤ cap := by omega
      go_quiet (fail)
      have bd : Below wr.heap.size wr (wr.drewN nq) := below_drewN (Below.refl _ _) _
      have hJ2 := hJd _ _ _ hJs bd
      have hnx2 : ChunkAt Bs Bn (some ⟨b, off, none⟩) q cap (wr.drewN nq) := ⟨(bd.block _ (heap_lt hnx.1)).trans hnx.1, (bd.block _ (heap_lt hnx.2)).trans hnx.2⟩
      have hs2 := box1_cell hnx2.1
      rw [hqq] at hs2
      have hn3 := box1_cell hnx2.2
      obtain ⟨fn, tmps, assign, body, hy, hR⟩ := hY _ ⟨k, hlt⟩ (wr.drewN nq) hJ2 (by simp; omega)
      have e6 : off + k * 9 = off + kk * 3 := by omega
      simp only [e6] at hy
      have g6 : (kk : Int) + 3 ≤ (cap : Int) := by omega
      have g7 : -9223372036854775808 ≤ (kk : Int) + 3 := by omega
      have g8 : (kk : Int) + 3 ≤ 9223372036854775807 := by omega
      generalize wr.drewN nq = w9 at *
      gi_wp2
      refine ⟨fun h => (by cases h), hR.mono ?_⟩
      rintro e W3 (⟨rfl, hJ3, hk3⟩ | ⟨rfl, hJx3⟩)
      · have hnx3 := hk3 hnx2
        have hn4 := box1_cell hnx3.2
        gi_wp2
        go_roundw
        case rel => exact ⟨k + 1, by omega, by rw [show 3 * (k + 1) = kk + 3 by omega]; simp, by rw [take_next _ _ (by simpa using hlt), List.getElem_finRange]; exact hJ3, hnx3⟩
        case measure => simp [intOf]; omega
      · gi_wp2
        refine bodyPost_ret (results_none rfl _ _ _) rfl ?_
        refine ⟨⟨_, rfl⟩, .inr ⟨_, ?_, hJx3⟩⟩
        have e9 : (List.finRange q).take k ++ [(⟨k, hlt⟩ : Fin q)] = (List.finRange q).take (k + 1) := by rw [take_next _ _ (by simpa using hlt), List.getElem_finRange]; rfl
        rw [e9]
        exact List.take_prefix _ _
    · obtain rfl : k = q := by omega
      gi_wp2
      go_end0
      exact ⟨⟨_, rfl⟩, .inl ⟨_, List.take_of_length_le (by simp), hJs⟩⟩
theorem chunk_in (n : Nat) (a : Option Addr) (len cap : Nat) (w : World) :
    CallsIn Fence.wide n Tryz.prog 77 #[.slice a len cap, .int .i64 3] w fun e w' => e = .returned (.func (.func 100) #[] #[.pointer (some ⟨w.heap.size, 0, none⟩), .pointer (some ⟨w.heap.size + 1, 0, none⟩)]) ∧ w' = (w.alloc (.cells #[.slice a len cap] 66)).alloc (.cells #[.int .i64 3] 3) := by
  refine callsIn_of_wp Tryz.func77 rfl trivial ?_ rfl
  simp only [Tryz.ntmps77, List.size_toArray, List.length_cons, List.length_nil, Nat.reduceAdd, Nat.reduceSub, Array.replicate_succ, Array.replicate_zero, List.push_toArray, List.append_toArray, List.nil_append, List.cons_append]
  gi_wp2
  go_ret
  exact ⟨rfl, rfl⟩
theorem chunk_stops (q n Bs Bn b off cap : Nat) (hq : q ≤ 10000000) (hcap : 3 * q ≤ cap) (ao : Option Addr) (hao : 0 < q → ao = some ⟨b, off, none⟩) (w : World) (hC : ChunkAt Bs Bn ao q cap w) :
    SeqStopsK Fence.wide n Tryz.prog 100 #[.pointer (some ⟨Bs, 0, none⟩), .pointer (some ⟨Bn, 0, none⟩)] (fun x : Fin q => #[.slice (some ⟨b, off + x.val * 9, none⟩) 3 3]) (fun X Y => ChunkAt Bs Bn ao q cap X → ChunkAt Bs Bn ao q cap Y) (fun ys => ys = List.finRange q) (fun pre => pre <+: List.finRange q) q w := fun l J Jx W hW hJ _ hY h0 =>
  chunk1_in q n l Bs Bn b off cap hq hcap ao hao J Jx hY W ⟨(hW.block _ (heap_lt hC.1)).trans hC.1, (hW.block _ (heap_lt hC.2)).trans hC.2⟩ (fun pre X X' h hb => hJ pre X X' none h ⟨hb.os, hb.tape, hb.output, hb.size, fun k hk _ => hb.block k hk⟩ (fun r e => by cases e)) h0
theorem chunk_put {Bs Bn q cap : Nat} {ao : Option Addr} (W : World) (l : Nat) (o o' : Obj) (h : W.heap[l]? = some o) (hc : o.isCells = false) : ChunkAt Bs Bn ao q cap W → ChunkAt Bs Bn ao q cap (W.putObj l o') := fun hC => by
  have out : ∀ (k : Nat) (o2 : Obj), W.heap[k]? = some o2 → o2.isCells = true → (W.putObj l o').heap[k]? = some o2 := fun k o2 hk h2 => (World.putObj_heap_other (fun e => by subst e; rw [h] at hk; cases hk; rw [hc] at h2; cases h2)).trans hk
  exact ⟨out _ _ hC.1 rfl, out _ _ hC.2 rfl⟩
end Go.Proofs.YtmkkcgkakomacaaGreat.Y.P3
namespace Go.Proofs.YtmkkcgkakomacaaGreat.Y.P5
open Go.RowKit Go.Shelf
set_option maxHeartbeats 8000000
set_option maxRecDepth 100000
attribute [local go_sem] Oper.semAt_some
set_option linter.unusedSimpArgs false
set_option linter.unusedVariables false
theorem take_next {α : Type} (zs : List α) (k : Nat) (hk : k < zs.length) : zs.take (k + 1) = zs.take k ++ [zs[k]] := by
  rw [List.take_succ_eq_append_getElem hk]
theorem box1_cell {W : World} {B : Nat} {v : Value} {t : TypeId} (h : W.heap[B]? = some (.cells #[v] t (0, 0))) : W.cell? ⟨B, 0, none⟩ = some v := by simp [World.cell?, h]
theorem heap_up {w : World} {b : Nat} {o o' : Obj} (h : w.heap[b]? = some o) : (w.alloc o').heap[b]? = some o := (Below.heap_alloc w o' b (Array.getElem?_eq_some_iff.1 h).1).trans h
theorem below_put {w W : World} {D B : Nat} {o2 : Obj} (hB : Below B w W) (hD : B ≤ D) (hK : W.heap[D]? = some (.deferred (some []))) : Below B w (W.putObj D o2) :=
  hB.grown (grownBy_putObj' W D o2) (Nat.le_trans hD (Nat.le_of_lt (heap_lt hK))) (fun k e => by cases e; exact hD)
def ChunkAt (Bs Bn : Nat) (ao : Option Addr) (q cap : Nat) (W : World) : Prop := W.heap[Bs]? = some (.cells #[.slice ao (5 * q) cap] 66 (0, 0)) ∧ W.heap[Bn]? = some (.cells #[.int .i64 5] 3 (0, 0))
theorem chunk1_in (q n l Bs Bn b off cap : Nat) (hq : q ≤ 10000000) (hcap : 5 * q ≤ cap) (ao : Option Addr) (hao : 0 < q → ao = some ⟨b, off, none⟩) (J Jx : List (Fin q) → World → Prop)
    (hY : ∀ pre x W, J pre W → pre.length < q → YieldAt Fence.wide (n - 1) Tryz.prog l #[.slice (some ⟨b, off + x.val * 15, none⟩) 5 5] W fun e W' =>
      (e = .returned (.bool true) ∧ J (pre ++ [x]) W' ∧ (ChunkAt Bs Bn ao q cap W → ChunkAt Bs Bn ao q cap W')) ∨ (e = .returned (.bool false) ∧ Jx (pre ++ [x]) W'))
    (W : World) (hC : ChunkAt Bs Bn ao q cap W) (hJd : ∀ pre W W', J pre W → Below W.heap.size W W' → J pre W') (h0 : J [] W) :
    CallsIn Fence.wide n Tryz.prog 100 #[.func (.yield l) #[] #[], .pointer (some ⟨Bs, 0, none⟩), .pointer (some ⟨Bn, 0, none⟩)] W fun e W' => (∃ v, e = .returned v) ∧
      ((∃ ys, ys = List.finRange q ∧ J ys W') ∨ (∃ pre, pre <+: List.finRange q ∧ Jx pre W')) := by
  refine callsIn_of_wp Tryz.func100 rfl trivial ?_ rfl
  simp only [Tryz.ntmps100, List.size_toArray, List.length_cons, List.length_nil, Nat.reduceAdd, Nat.reduceSub, Array.replicate_succ, Array.replicate_zero, List.push_toArray, List.append_toArray, List.nil_append, List.cons_append]
  gi_wp2
  gi_loopw [4] (fun i wr => ∃ k : Nat, k ≤ q ∧ i = .int .i64 ((5 * k : Nat) : Int) ∧ J ((List.finRange q).take k) wr ∧ ChunkAt Bs Bn ao q cap wr)
    (fun i _ => 5 * q - (intOf i).toNat)
  case atStart => exact ⟨0, Nat.zero_le _, rfl, h0, hC⟩
  case round =>
    obtain ⟨k, hk, rfl, hJs, hnx⟩ := hrel
    have hs := box1_cell hnx.1
    have hn2 := box1_cell hnx.2
    by_cases hlt : k < q
    · obtain rfl := hao (by omega)
      have g1 : ((5 * k : Nat) : Int) < ((5 * q : Nat) : Int) := by omega
      generalize hkk : 5 * k = kk at *
      generalize hqq : 5 * q = qq at *
      gi_wp2
      refine wpIn_wide.2 ?_
      have g2 : kk ≤ qq := by omega
      have g3 : (kk : Int) ≤ (qq : Int) := by omega
      have g4 : (0 : Int) ≤ (kk : Int) := by omega
      have g5 : kk ≤ cap := by omega
      go_quiet (fail)
      have bd : Below wr.heap.size wr (wr.drewN nq) := below_drewN (Below.refl _ _) _
      have hJ2 := hJd _ _ _ hJs bd
      have hnx2 : ChunkAt Bs Bn (some ⟨b, off, none⟩) q cap (wr.drewN nq) := ⟨(bd.block _ (heap_lt hnx.1)).trans hnx.1, (bd.block _ (heap_lt hnx.2)).trans hnx.2⟩
      have hs2 := box1_cell hnx2.1
      rw [hqq] at hs2
      have hn3 := box1_cell hnx2.2
      obtain ⟨fn, tmps, assign, body, hy, hR⟩ := hY _ ⟨k, hlt⟩ (wr.drewN nq) hJ2 (by simp; omega)
      have e6 : off + k * 15 = off + kk * 3 := by omega
      simp only [e6] at hy
      have g6 : (kk : Int) + 5 ≤ (cap : Int) := by omega
      have g7 : -9223372036854775808 ≤ (kk : Int) + 5 := by omega
      have g8 : (kk : Int) + 5 ≤ 9223372036854775807 := by omega
      generalize wr.drewN nq = w9 at *
      gi_wp2
      refine ⟨fun h => (by cases h), hR.mono ?_⟩
      rintro e W3 (⟨rfl, hJ3, hk3⟩ | ⟨rfl, hJx3⟩)
      · have hnx3 := hk3 hnx2
        have hn4 := box1_cell hnx3.2
        gi_wp2
        go_roundw
        case rel => exact ⟨k + 1, by omega, by rw [show 5 * (k + 1) = kk + 5 by omega]; simp, by rw [take_next _ _ (by simpa using hlt), List.getElem_finRange]; exact hJ3, hnx3⟩
        case measure => simp [intOf]; omega
      · gi_wp2
        refine bodyPost_ret (results_none rfl _ _ _) rfl ?_
        refine ⟨⟨_, rfl⟩, .inr ⟨_, ?_, hJx3⟩⟩
        have e9 : (List.finRange q).take k ++ [(⟨k, hlt⟩ : Fin q)] = (List.finRange q).take (k + 1) := by rw [take_next _ _ (by simpa using hlt), List.getElem_finRange]; rfl
        rw [e9]
        exact List.take_prefix _ _
    · obtain rfl : k = q := by omega
      gi_wp2
      go_end0
      exact ⟨⟨_, rfl⟩, .inl ⟨_, List.take_of_length_le (by simp), hJs⟩⟩
theorem chunk_in (n : Nat) (a : Option Addr) (len cap : Nat) (w : World) :
    CallsIn Fence.wide n Tryz.prog 77 #[.slice a len cap, .int .i64 5] w fun e w' => e = .returned (.func (.func 100) #[] #[.pointer (some ⟨w.heap.size, 0, none⟩), .pointer (some ⟨w.heap.size + 1, 0, none⟩)]) ∧ w' = (w.alloc (.cells #[.slice a len cap] 66)).alloc (.cells #[.int .i64 5] 3) := by
  refine callsIn_of_wp Tryz.func77 rfl trivial ?_ rfl
  simp only [Tryz.ntmps77, List.size_toArray, List.length_cons, List.length_nil, Nat.reduceAdd, Nat.reduceSub, Array.replicate_succ, Array.replicate_zero, List.push_toArray, List.append_toArray, List.nil_append, List.cons_append]
  gi_wp2
  go_ret
  exact ⟨rfl, rfl⟩
theorem chunk_stops (q n Bs Bn b off cap : Nat) (hq : q ≤ 10000000) (hcap : 5 * q ≤ cap) (ao : Option Addr) (hao : 0 < q → ao = some ⟨b, off, none⟩) (w : World) (hC : ChunkAt Bs Bn ao q cap w) :
    SeqStopsK Fence.wide n Tryz.prog 100 #[.pointer (some ⟨Bs, 0, none⟩), .pointer (some ⟨Bn, 0, none⟩)] (fun x : Fin q => #[.slice (some ⟨b, off + x.val * 15, none⟩) 5 5]) (fun X Y => ChunkAt Bs Bn ao q cap X → ChunkAt Bs Bn ao q cap Y) (fun ys => ys = List.finRange q) (fun pre => pre <+: List.finRange q) q w := fun l J Jx W hW hJ _ hY h0 =>
  chunk1_in q n l Bs Bn b off cap hq hcap ao hao J Jx hY W ⟨(hW.block _ (heap_lt hC.1)).trans hC.1, (hW.block _ (heap_lt hC.2)).trans hC.2⟩ (fun pre X X' h hb => hJ pre X X' none h ⟨hb.os, hb.tape, hb.output, hb.size, fun k hk _ => hb.block k hk⟩ (fun r e => by cases e)) h0
theorem chunk_put {Bs Bn q cap : Nat} {ao : Option Addr} (W : World) (l : Nat) (o o' : Obj) (h : W.heap[l]? = some o) (hc : o.isCells = false) : ChunkAt Bs Bn ao q cap W → ChunkAt Bs Bn ao q cap (W.putObj l o') := fun hC => by
  have out : ∀ (k : Nat) (o2 : Obj), W.heap[k]? = some o2 → o2.isCells = true → (W.putObj l o').heap[k]? = some o2 := fun k o2 hk h2 => (World.putObj_heap_other (fun e => by subst e; rw [h] at hk; cases hk; rw [hc] at h2; cases h2)).trans hk
  exact ⟨out _ _ hC.1 rfl, out _ _ hC.2 rfl⟩
end Go.Proofs.YtmkkcgkakomacaaGreat.Y.P5
namespace Go.Proofs.YtmkkcgkakomacaaGreat
open Go Go.RowKit
set_option linter.unusedSimpArgs false
section
variable {P : Program} {ops : Array Oper} {Q : Exit → Act → World → Prop}
theorem wpAny_pivot {ns : Nat} {uses : Nat → List Nat} {a : Act} {w : World} (hok : phiOk ops ns = true) (hu : usesOk ops uses = true) (Rel : Nat → World → World → Prop) (st : Nat) (hst0 : st < ops.size) (BW : Bool → World → Prop) (hBW : ∀ j b w w', j ≠ st → BW b w → Rel j w w' → BW b w') (hst : ∀ w w', BW false w → Rel st w w' → BW true w') (h0 : BW false w)
    (H : Nat → (Nat → Value) → World → Prop) (hC : ∀ i s s' w, (∀ d ∈ uses i, s d = s' d) → H i s w → H i s' w) (hH : ∀ i j s w w', i ≠ j → H i s w → Rel j w w' → H i s w')
    (step : ∀ i o, ops.toList[i]? = some o → ∀ a' w' b, (i = st → b = false) → Same ops a a' → BW b w' → (∀ k, (o.after.toList.any fun e => Region.binds .any e && e.on == k) = true → H k (slots a') w') → wpOp P ops Q i (fun a'' w'' => ∃ v, a'' = a'.put o.dst v ∧ H i (slots a'') w'' ∧ Rel i w' w'') a' w')
    (done : ∀ a' w', Same ops a a' → BW true w' → (∀ i, i < ops.size → H i (slots a') w') → Q .normal a' w') : wpAny P .any ops Q ops.size (Array.replicate ops.size false) a w := by
  refine wpAny_inv (fun listed a' w' => listed.size = ops.size ∧ Same ops a a' ∧ BW (listed.getD st false) w' ∧ (∀ i o, ops[i]? = some o → listed.getD i false = true → ∀ e ∈ o.after, Region.binds .any e = true → listed.getD e.on false = true) ∧ ∀ i o, ops[i]? = some o → listed.getD i false = true → H i (slots a') w') ?_ ?_ _ _ _ _ (Nat.le_trans List.countP_le_length (by simp)) ⟨by simp, Same.refl _ _, by rw [show (Array.replicate ops.size false).getD st false = false by simp [Array.getD_eq_getD_getElem?, hst0]]; exact h0, fun i o ho hl => ?_, fun i o ho hl => ?_⟩
  · rintro listed a' w' i hi ⟨hz, hsa, hb, hcl, hh⟩
    obtain ⟨h1, o, ho, hdep⟩ := mem_ready.1 hi
    refine wpOp_mono ?_ (step i o (by rw [Array.getElem?_toList]; exact ho) a' w' _ ?_ hsa hb fun k hk => ?_)
    · rintro a'' w'' ⟨v, rfl, hv, hr⟩
      have hlt9 := (Array.getElem?_eq_some_iff.1 ho).1
      refine ⟨by rw [Array.size_setIfInBounds]; exact hz, hsa.put ho, ?_, fun j oj hoj hl e he hbn => ?_, fun j oj hoj hl => ?_⟩
      · by_cases x : i = st
        · subst x
          have e1 : listed.getD i false = false := by simpa [Array.getD_eq_getD_getElem?, show i < listed.size by omega] using h1
          have e2 : (listed.setIfInBounds i true).getD i false = true := by simp [Array.getD_eq_getD_getElem?, show i < listed.size by omega]
          rw [e1] at hb
          rw [e2]
          exact hst _ _ hb hr
        · rw [getD_set_ne false x]
          exact hBW _ _ _ _ x hb hr
      · by_cases x : i = j
        · subst x
          rw [ho] at hoj
          obtain rfl := Option.some.inj hoj
          exact getD_set_true (hdep e he hbn)
        · rw [getD_set_ne false x] at hl
          exact getD_set_true (hcl j oj hoj hl e he hbn)
      · by_cases x : i = j
        · subst x
          exact hv
        · rw [getD_set_ne false x] at hl
          refine hH j i _ w' w'' (fun y => x y.symm) (hC j (slots a') _ w' (fun d hd => ?_) (hh j oj hoj hl)) hr
          cases hod : o.dst with
          | none => rfl
          | some d' =>
            by_cases y : d' = d
            · subst y
              exfalso
              rcases usesOk_spec hu hoj ho hd hod with z | ⟨e, he, hbn, hon⟩
              · exact x z
              · have h5 := hcl j oj hoj hl e he hbn
                rw [hon] at h5
                rcases Nat.lt_or_ge i listed.size with h | h
                · simp [Array.getD_eq_getD_getElem?, h] at h1 h5
                  rw [h1] at h5
                  cases h5
                · simp [Array.getD_eq_getD_getElem?, Array.getElem?_eq_none h] at h5
            · unfold slots
              simp [Act.put, Array.getD_eq_getD_getElem?, Array.getElem?_setIfInBounds_ne y]
    · intro x
      subst x
      have hlt9 := (Array.getElem?_eq_some_iff.1 ho).1
      simpa [Array.getD_eq_getD_getElem?, show i < listed.size by omega] using h1
    · obtain ⟨e, he, hx⟩ := List.any_eq_true.1 hk
      simp only [Bool.and_eq_true, beq_iff_eq] at hx
      obtain ⟨hbn, rfl⟩ := hx
      have he' : e ∈ o.after := by rw [← Array.mem_toList_iff]; exact he
      have hlt := (phiOk_spec hok).2.2 i o ho e he' hbn
      have hi := (Array.getElem?_eq_some_iff.1 ho).1
      exact hh e.on _ (Array.getElem?_eq_getElem (show e.on < ops.size by omega)) (hdep e he' hbn)
  · rintro listed a' w' hr ⟨hz, hsa, hb, hcl, hh⟩
    have all : ∀ i o, ops[i]? = some o → listed.getD i false = true := by
      intro i
      induction i using Nat.strongRecOn with
      | _ i ih =>
        intro o ho
        cases hl : listed.getD i true with
        | false =>
          exfalso
          have : i ∈ Region.ready .any ops listed := mem_ready.2 ⟨hl, o, ho, fun e he hbn => by
            have hlt := (phiOk_spec hok).2.2 i o ho e he hbn
            have hi := (Array.getElem?_eq_some_iff.1 ho).1
            exact ih e.on hlt _ (Array.getElem?_eq_getElem (show e.on < ops.size by omega))⟩
          rw [hr] at this
          cases this
        | true =>
          rcases Nat.lt_or_ge i listed.size with h | h
          · simpa [Array.getD_eq_getD_getElem?, h] using hl
          · have hi := (Array.getElem?_eq_some_iff.1 ho).1
            omega
    have ht := all st _ (Array.getElem?_eq_getElem hst0)
    rw [ht] at hb
    exact done a' w' hsa hb fun i hi => hh i _ (Array.getElem?_eq_getElem hi) (all i _ (Array.getElem?_eq_getElem hi))
  all_goals
    have hi := (Array.getElem?_eq_some_iff.1 ho).1
    simp [Array.getD_eq_getD_getElem?, hi] at hl
end
end Go.Proofs.YtmkkcgkakomacaaGreat
