/-
  The program's Right (mkpw.py)
-/
import Derived.Test.YtfcpclpaalekiaaZVM
import Derived.Test.YtfcpclpaalekiaaProg
import Derived.Test.YtfcpclpaalekiaaZV3
import Derived.RangeFuncNested
import Derived.RangeFuncBound
import Derived.RangeFuncCalls
import Derived.RangeFuncLeaves
import Derived.Shelf.Abstract
import Derived.Shelf.RegionOpen
import Derived.WalkKit
import Derived.OwnWalkIn
import Derived.TacticsInMore
import Derived.LoopNIn
import Derived.LoopIn
import Derived.Laws.StructEq
import Derived.LoopTactic
import Derived.KernelRfl
namespace Go.Proofs.Ytfcpclpaalekiaa
open Go.RowKit
attribute [local go_sem ↓] Go.wp_at_zero Go.wp_at_succ
set_option linter.unusedSimpArgs false
set_option linter.unusedVariables false
end Go.Proofs.Ytfcpclpaalekiaa
namespace Go.Proofs.Ytfcpclpaalekiaa
open Go.RowKit
attribute [local go_sem ↓] Go.wp_at_zero Go.wp_at_succ
set_option linter.unusedSimpArgs false
set_option linter.unusedVariables false
structure Vvr where
  v1 : Value
  v2 : Value
  v3 : Value
  v4 : Value
structure Fvr (a : Act) (v : Vvr) : Prop where
  size : a.tmps.size = 60
  defers : a.defers = []
  s1 : a.tmps.getD 1 undef = v.v1
  s2 : a.tmps.getD 2 undef = v.v2
  s3 : a.tmps.getD 3 undef = v.v3
  s4 : a.tmps.getD 4 undef = v.v4
end Go.Proofs.Ytfcpclpaalekiaa
namespace Go.Proofs.Ytfcpclpaalekiaa
open Go.RowKit
attribute [local go_sem ↓] Go.wp_at_zero Go.wp_at_succ
set_option linter.unusedSimpArgs false
set_option linter.unusedVariables false
end Go.Proofs.Ytfcpclpaalekiaa
namespace Go.Proofs.Ytfcpclpaalekiaa
open Go.RowKit
attribute [local go_sem ↓] Go.wp_at_zero Go.wp_at_succ
set_option linter.unusedSimpArgs false
set_option linter.unusedVariables false
attribute [local go_sem ↓] Go.wp_at_zero Go.wp_at_succ
end Go.Proofs.Ytfcpclpaalekiaa
namespace Go.Proofs.Ytfcpclpaalekiaa
open Go.RowKit
attribute [local go_sem ↓] Go.wp_at_zero Go.wp_at_succ
set_option linter.unusedSimpArgs false
set_option linter.unusedVariables false
abbrev IT := K.It
abbrev tItem : TypeId := 66
theorem infoIt : (Try.prog.info? tItem).map (fun i => (i.zero, i.size, i.bytes)) = some (some (.agg #[.int .i64 0, .int .u64 0, .string ⟨#[]⟩]), 3, 32) := by kernel_rfl
theorem u64_wrap {n : Int} (h0 : 0 ≤ n) (h1 : n < 18446744073709551616) : IntKind.u64.wrap n = n := by
  simp only [IntKind.wrap, IntKind.bits, IntKind.signed]
  simp
  omega
def itCells (l : List K.It) : List Value := l.flatMap fun x => [.int .i64 x.k, .int .u64 x.n, .string x.s]
theorem itCells_append (a b : List K.It) : itCells (a ++ b) = itCells a ++ itCells b := by simp [itCells]
theorem itCells_get (L : List K.It) (i j : Nat) (hi : i < L.length) (hj : j < 3) : (itCells L)[i * 3 + j]? = [Value.int .i64 L[i].k, .int .u64 L[i].n, .string L[i].s][j]? := by
  induction L generalizing i with
  | nil => cases hi
  | cons a L ih =>
    have e : itCells (a :: L) = [Value.int .i64 a.k, .int .u64 a.n, .string a.s] ++ itCells L := rfl
    rw [e]
    cases i with
    | zero => rw [List.getElem?_append_left (by simp; omega)]; simp
    | succ i =>
      rw [List.getElem?_append_right (by simp; omega)]
      have := ih i (by simpa using hi)
      simp only [List.getElem_cons_succ]
      rw [← this]
      congr 1
      simp
      omega
def ItsAt (w : World) (ao : Option Addr) (l : List K.It) : Prop :=
  ∀ i (h : i < l.length), ∃ b off, ao = some ⟨b, off, none⟩ ∧ b < w.heap.size ∧ w.cell? ⟨b, off + i * 3, none⟩ = some (.int .i64 l[i].k) ∧ w.cell? ⟨b, off + i * 3 + 1, none⟩ = some (.int .u64 l[i].n) ∧ w.cell? ⟨b, off + i * 3 + 2, none⟩ = some (.string l[i].s)
theorem its_of_row {w : World} {B : Nat} {ao : Option Addr} {n cp : Nat} {L : List K.It} (h : w.ownsRow B tItem 3 (.slice ao n cp) n (itCells L)) (hn : L.length = n) : ItsAt w ao L := by
  subst hn
  intro i hi
  rcases h.2 with ⟨_, h2⟩ | ⟨g, cap, cur, hv, hg, hh, _⟩
  · omega
  · injection hv with h1 _ h3
    subst h1
    have hc := h.cells (g := g) rfl
    refine ⟨g, 0, rfl, heap_lt hh, ?_, ?_, ?_⟩
    · have := hc (i * 3) (.int .i64 L[i].k) (by rw [show i * 3 = i * 3 + 0 by omega, itCells_get L i 0 hi (by omega)]; rfl)
      rw [Addr.add_lit] at this
      simpa using this
    · have := hc (i * 3 + 1) (.int .u64 L[i].n) (by rw [itCells_get L i 1 hi (by omega)]; rfl)
      rw [Addr.add_lit] at this
      simpa using this
    · have := hc (i * 3 + 2) (.string L[i].s) (by rw [itCells_get L i 2 hi (by omega)]; rfl)
      rw [Addr.add_lit] at this
      simpa using this
structure Vve where
  v1 : Value
  v2 : Value
  v3 : Value
  v4 : Value
  v5 : Value
  v6 : Value
  v7 : Value
structure Fve (a : Act) (v : Vve) : Prop where
  size : a.tmps.size = 50
  defers : a.defers = []
  s1 : a.tmps.getD 1 undef = v.v1
  s2 : a.tmps.getD 2 undef = v.v2
  s3 : a.tmps.getD 3 undef = v.v3
  s4 : a.tmps.getD 4 undef = v.v4
  s5 : a.tmps.getD 5 undef = v.v5
  s6 : a.tmps.getD 6 undef = v.v6
  s7 : a.tmps.getD 7 undef = v.v7
end Go.Proofs.Ytfcpclpaalekiaa
namespace Go.Proofs.Ytfcpclpaalekiaa
open Go.RowKit Go.Shelf
set_option maxHeartbeats 4000000
set_option maxRecDepth 100000
attribute [local go_sem] Oper.semAt_some
set_option linter.unusedSimpArgs false
set_option linter.unusedVariables false
theorem take_next {α : Type} (zs : List α) (k : Nat) (hk : k < zs.length) : zs.take (k + 1) = zs.take k ++ [zs[k]] := by
  rw [List.take_succ_eq_append_getElem hk]
theorem each1_in {α : Type} (f : α → MB) (n l Bs n₀ b off cap : Nat) (zs : List α) (hreach : zs.length ≤ 4611686018427387903) (J Jx : List α → World → Prop)
    (hY : ∀ pre x W, J pre W → pre.length < zs.length → YieldAt Fence.wide (n - 1) Try.prog l #[(f x).v] W fun e W' =>
      (e = .returned (.bool true) ∧ J (pre ++ [x]) W' ∧ Below n₀ W W') ∨ (e = .returned (.bool false) ∧ Jx (pre ++ [x]) W'))
    (W : World) (hJ : ∀ pre W (o : Obj), J pre W → J pre (W.alloc o)) (hn0 : n₀ ≤ W.heap.size) (ao : Option Addr) (hBs : W.cell? ⟨Bs, 0, none⟩ = some (.slice ao zs.length cap)) (hc : ∀ W', Below n₀ W W' → MemsAt W' ao (zs.map f)) (h0 : J [] W) :
    CallsIn Fence.wide n Try.prog 73 #[.func (.yield l) #[] #[], .pointer (some ⟨Bs, 0, none⟩)] W fun e W' => (∃ v, e = .returned v) ∧
      ((∃ ys, ys = zs ∧ J ys W') ∨ (∃ pre, pre <+: zs ∧ Jx pre W')) := by
  refine callsIn_of_wp Try.func73 rfl trivial ?_ rfl
  simp only [Try.ntmps73, List.size_toArray, List.length_cons, List.length_nil, Nat.reduceAdd, Nat.reduceSub, Array.replicate_succ, Array.replicate_zero, List.push_toArray, List.append_toArray, List.nil_append, List.cons_append]
  gi_wp2
  gi_loopw [7] (fun i wr => ∃ k : Nat, k ≤ zs.length ∧ i = .int .i64 k ∧ J (zs.take k) wr ∧ Below n₀ W wr)
    (fun i _ => zs.length - (intOf i).toNat)
  case atStart => exact ⟨0, Nat.zero_le _, rfl, h0, Below.refl _ _⟩
  case round =>
    obtain ⟨k, hk, rfl, hJs, hnx⟩ := hrel
    by_cases hlt : k < zs.length
    · have hM := hc _ hnx k (by simpa using hlt)
      obtain ⟨b, off, rfl, hb, y0, y1⟩ := hM
      simp only [List.getElem_map] at y0 y1
      obtain ⟨x, hx⟩ : ∃ x, zs[k] = x := ⟨_, rfl⟩
      rw [hx] at y0 y1
      obtain ⟨fn, tmps, assign, body, hy, hR⟩ := hY _ x (wr.alloc (.cells #[.int .i64 (f x).node, .int .i64 (f x).life] 53)) (hJ _ _ _ hJs) (by rw [List.length_take]; omega)
      simp only [MB.v] at hy
      gi_wp2
      refine ⟨fun h => (by cases h), hR.mono ?_⟩
      rintro e W3 (⟨rfl, hJ3, hk3⟩ | ⟨rfl, hJx3⟩)
      · gi_wp2
        go_roundw
        case rel => exact ⟨k + 1, by omega, by simp, by rw [take_next _ _ hlt, hx]; exact hJ3, (hnx.alloc (Nat.le_trans hn0 hnx.size) _).trans hk3⟩
        case measure => simp [intOf]; omega
      · gi_wp2
        refine bodyPost_ret (results_none rfl _ _ _) rfl ?_
        exact ⟨⟨_, rfl⟩, .inr ⟨_, by rw [← hx, ← take_next _ _ hlt]; exact List.take_prefix _ _, hJx3⟩⟩
    · obtain rfl : k = zs.length := by omega
      gi_wp2
      go_end0
      exact ⟨⟨_, rfl⟩, .inl ⟨_, List.take_length, hJs⟩⟩
theorem each_in (n : Nat) (a : Option Addr) (len cap : Nat) (w : World) :
    CallsIn Fence.wide n Try.prog 55 #[.slice a len cap] w fun e w' => e = .returned (.func (.func 73) #[] #[.pointer (some ⟨w.heap.size, 0, none⟩)]) ∧ w' = w.alloc (.cells #[.slice a len cap] 33) := by
  refine callsIn_of_wp Try.func55 rfl trivial ?_ rfl
  simp only [Try.ntmps55, List.size_toArray, List.length_cons, List.length_nil, Nat.reduceAdd, Nat.reduceSub, Array.replicate_succ, Array.replicate_zero, List.push_toArray, List.append_toArray, List.nil_append, List.cons_append]
  gi_wp2
  go_ret
  exact ⟨rfl, rfl⟩
theorem each_stops {α : Type} (f : α → MB) (n Bs cap : Nat) (ao : Option Addr) (zs : List α) (hreach : zs.length ≤ 4611686018427387903) (w0 w : World) (hBs : Bs < w.heap.size) (hb : Below w0.heap.size w0 w)
    (hc : w.cell? ⟨Bs, 0, none⟩ = some (.slice ao zs.length cap)) (hM : MemsAt w0 ao (zs.map f)) :
    SeqStopsK Fence.wide n Try.prog 73 #[.pointer (some ⟨Bs, 0, none⟩)] (fun x : α => #[(f x).v]) (Below w0.heap.size) (fun ys => ys = zs) (fun pre => pre <+: zs) zs.length w := fun l J Jx W hW hJ _ hY h0 => by
  have hc' := (hW.cell (p := ⟨Bs, 0, none⟩) hBs).trans hc
  have hb' : Below w0.heap.size w0 W := hb.trans (hW.mono hb.size)
  exact each1_in f n l Bs w0.heap.size 0 0 cap zs hreach J Jx hY W (fun pre X o h => hJ pre X _ none h (World.grownBy_alloc X o none) (fun r e => by cases e)) hb'.size ao hc' (fun X hX => hM.below (hb'.trans hX)) h0
def Box2 (W : World) (B : Nat) (m : MB) : Prop := W.heap[B]? = some (.cells #[.int .i64 m.node, .int .i64 m.life] 53 (0, 0))
theorem Box2.own {β : Type} (B : Nat) (f : β → MB) : Own (fun s W => Box2 W B (f s)) := fun s X Y row hs hg hrow => by
  refine (hg.block B (heap_lt hs) (fun e' => ?_)).trans hs
  obtain ⟨o, ho, hc⟩ := hrow B e'.symm
  rw [show X.heap[B]? = _ from hs] at ho
  cases ho
  cases hc
theorem Box2.cells {W : World} {B : Nat} {m : MB} (h : Box2 W B m) : W.cell? ⟨B, 0, none⟩ = some (.int .i64 m.node) ∧ W.cell? ⟨B, 1, none⟩ = some (.int .i64 m.life) := by
  unfold Box2 at h
  constructor <;> simp [World.cell?, h]
theorem Box2.new (W : World) (m : MB) : Box2 (W.alloc (.cells #[.int .i64 m.node, .int .i64 m.life] 53)) W.heap.size m := World.alloc_heap_new W _
theorem box_own {β : Type} (B : Nat) (f : β → Obj) (hf : ∀ s, (f s).isCells = true) : Own (fun s W => W.heap[B]? = some (f s)) := fun s X Y row hs hg hrow => by
  refine (hg.block B (heap_lt hs) (fun e' => ?_)).trans hs
  obtain ⟨o, ho, hc⟩ := hrow B e'.symm
  rw [show X.heap[B]? = _ from hs] at ho
  cases ho
  rw [hf] at hc
  cases hc
theorem Own.and {β : Type} {I I' : β → World → Prop} (h : Own I) (h' : Own I') : Own (fun s W => I s W ∧ I' s W) := fun s X Y row hs hg hr => ⟨h s X Y row hs.1 hg hr, h' s X Y row hs.2 hg hr⟩
theorem own_pure {β : Type} (p : β → Prop) : Own (fun s (_ : World) => p s) := fun _ _ _ _ hs _ _ => hs
theorem box1_cell {W : World} {B : Nat} {v : Value} {t : TypeId} (h : W.heap[B]? = some (.cells #[v] t (0, 0))) : W.cell? ⟨B, 0, none⟩ = some v := by simp [World.cell?, h]
theorem box1_frozen {W : World} {B : Nat} {v : Value} {t : TypeId} (h : W.heap[B]? = some (.cells #[v] t (0, 0))) : W.frozen? ⟨B, 0, none⟩ = false := by simp [World.frozen?, h]
theorem box1_set {W : World} {B : Nat} {v : Value} {t : TypeId} (v' : Value) (h : W.heap[B]? = some (.cells #[v] t (0, 0))) : (W.setCell ⟨B, 0, none⟩ v').heap[B]? = some (.cells #[v'] t (0, 0)) := by
  obtain ⟨hlt, hk⟩ := Array.getElem?_eq_some_iff.1 h
  show (W.heap.modify B _)[B]? = _
  rw [Array.getElem?_eq_getElem (by rw [Array.size_modify]; exact hlt), Array.getElem_modify_self, hk]
  rfl
theorem heap_up {w : World} {b : Nat} {o o' : Obj} (h : w.heap[b]? = some o) : (w.alloc o').heap[b]? = some o := (Below.heap_alloc w o' b (Array.getElem?_eq_some_iff.1 h).1).trans h
theorem heap_set_ne {W : World} {B k : Nat} {o : Obj} (v : Value) (h : W.heap[k]? = some o) (hne : k ≠ B) : (W.setCell ⟨B, 0, none⟩ v).heap[k]? = some o := (Below.heap_setCell W ⟨B, 0, none⟩ v k hne).trans h
theorem put_keeps {W : World} {D k : Nat} {o o2 : Obj} (hK : W.heap[D]? = some (.deferred (some []))) (h : W.heap[k]? = some o) (hc : o.isCells = true) : (W.putObj D o2).heap[k]? = some o := by
  refine (World.putObj_heap_other ?_).trans h
  intro e
  subst e
  rw [h] at hK
  cases hK
  cases hc
theorem below_put {w W : World} {D B : Nat} {o2 : Obj} (hB : Below B w W) (hD : B ≤ D) (hK : W.heap[D]? = some (.deferred (some []))) : Below B w (W.putObj D o2) :=
  hB.grown (grownBy_putObj' W D o2) (Nat.le_trans hD (Nat.le_of_lt (heap_lt hK))) (fun k e => by cases e; exact hD)
end Go.Proofs.Ytfcpclpaalekiaa
namespace Go.Proofs.Ytfcpclpaalekiaa
open Go.RowKit
set_option linter.unusedSimpArgs false
set_option linter.unusedVariables false
end Go.Proofs.Ytfcpclpaalekiaa
namespace Go.Proofs.Ytfcpclpaalekiaa
open Go.RowKit
attribute [local go_sem ↓] Go.wp_at_zero Go.wp_at_succ
set_option linter.unusedSimpArgs false
set_option linter.unusedVariables false
structure NextGave (w w' : World) (e : Ending) (r : VW × Int) : Prop where
  res : ∃ ro rc, e = .returned (.tuple #[r.1.v ro rc, .int .i64 r.2]) ∧ w'.ownsRow w.heap.size tMember 2 (.slice ro r.1.mem.length rc) r.1.mem.length (mbCells r.1.mem)
  below : Below w.heap.size w w'
end Go.Proofs.Ytfcpclpaalekiaa
namespace Go.Proofs.Ytfcpclpaalekiaa
open Go.RowKit
set_option linter.unusedSimpArgs false
set_option linter.unusedVariables false
end Go.Proofs.Ytfcpclpaalekiaa
namespace Go.Proofs.Ytfcpclpaalekiaa
open Go.RowKit
attribute [local go_sem ↓] Go.wp_at_zero Go.wp_at_succ
set_option linter.unusedSimpArgs false
set_option linter.unusedVariables false
abbrev RightSays : Prop := ∀ (x : VW) (ao : Option Addr) (cp : Nat) (w : World), MemsAt w ao x.mem → x.mem.length ≤ 4611686018427387903 → Calls Try.prog 39 #[x.v ao cp] w fun e w' => e = .returned (.bool (decide x.right)) ∧ Below w.heap.size w w'
abbrev MemberSays : Prop := ∀ (m : MB) (w : World), Calls Try.prog 56 #[m.v] w fun e w' => e = .returned (.bool (decide m.right)) ∧ Below w.heap.size w w'
theorem mem_view {W : World} {g k : Nat} {cur cs : Array Value} (h : W.heap[g]? = some (.cells cur tMember (0, 0))) (hk : W.heap[k]? = some (.cells cs tView (0, 0))) : g ≠ k := fun e => by
  subst e
  rw [hk] at h
  injection h with h
  injection h with _ h _
  exact absurd h (by decide)
end Go.Proofs.Ytfcpclpaalekiaa
namespace Go.Proofs.Ytfcpclpaalekiaa
open Go.RowKit Go.Shelf
attribute [local go_sem] Oper.semAt_some
set_option linter.unusedSimpArgs false
set_option linter.unusedVariables false
end Go.Proofs.Ytfcpclpaalekiaa
namespace Go.Proofs.Ytfcpclpaalekiaa
open Go.RowKit Go.Shelf
set_option maxHeartbeats 4000000
attribute [local go_sem] Oper.semAt_some
set_option linter.unusedSimpArgs false
set_option linter.unusedVariables false
theorem pmember_any (m : MB) (w : World) : Calls Try.prog 56 #[m.v] w fun e w' => e = .returned (.bool (decide m.right)) ∧ Below w.heap.size w w' := by
  obtain ⟨n, l⟩ := m
  simp only [MB.v]
  have B0 := hide ((Below.refl w.heap.size w).alloc (Nat.le_refl _) (.cells #[.int .i64 n, .int .i64 l] tMember))
  by_cases h : (MB.mk n l).right
  · rw [decide_eq_true h]
    obtain ⟨h1, h2, h3, h4⟩ := h
    simp only at h1 h2 h3 h4
    go_enter Try.func56, Try.ntmps56
    go_wp2
    go_ret
    exact ⟨rfl, B0.out⟩
  · rw [decide_eq_false h]
    by_cases h1 : 0 ≤ n
    · by_cases h2 : n < 7
      · by_cases h3 : 1 ≤ l
        · have h4 : ¬ l ≤ 9007199254740991 := fun e => h ⟨h1, h2, h3, e⟩
          clear h
          go_enter Try.func56, Try.ntmps56
          go_wp2
          go_ret
          exact ⟨rfl, B0.out⟩
        · clear h
          go_enter Try.func56, Try.ntmps56
          go_wp2
          go_ret
          exact ⟨rfl, B0.out⟩
      · clear h
        go_enter Try.func56, Try.ntmps56
        go_wp2
        go_ret
        exact ⟨rfl, B0.out⟩
    · clear h
      go_enter Try.func56, Try.ntmps56
      go_wp2
      go_ret
      exact ⟨rfl, B0.out⟩
theorem pmember : MemberSays := pmember_any
theorem keeps_of_below {B : Nat} {W W' : World} (h : Below W.heap.size W W') : KeepsFrom B W W' := ⟨h.size, fun k o _ hk _ => (h.block k (heap_lt hk)).trans hk⟩
end Go.Proofs.Ytfcpclpaalekiaa
namespace Go.Proofs.Ytfcpclpaalekiaa
open Go.RowKit Go.Shelf
set_option maxHeartbeats 8000000
set_option maxRecDepth 100000
attribute [local go_sem] Oper.semAt_some
set_option linter.unusedSimpArgs false
set_option linter.unusedVariables false
def lastN (pre : List MB) : Int := match pre.getLast? with
  | none => -1
  | some m => m.node
theorem lastN_snoc (pre : List MB) (x : MB) : lastN (pre ++ [x]) = x.node := by simp [lastN]
theorem okAt_left {pre suf : List MB} {i : Nat} (hi : i < pre.length) : okAt (pre ++ suf) i ↔ okAt pre i := by
  unfold okAt
  rw [List.getElem?_append_left hi, List.getElem?_append_left (show i - 1 < pre.length by omega)]
theorem ok_prefix {pre L : List MB} (hp : pre <+: L) (h : ∀ i, i < L.length → okAt L i) : ∀ i, i < pre.length → okAt pre i := by
  obtain ⟨suf, rfl⟩ := hp
  exact fun i hi => (okAt_left hi).1 (h i (by rw [List.length_append]; omega))
theorem okAt_end (pre : List MB) (x : MB) : okAt (pre ++ [x]) pre.length ↔ x.right ∧ lastN pre < x.node := by
  unfold okAt
  rw [List.getElem?_append_right (Nat.le_refl _), Nat.sub_self]
  constructor
  · intro h
    obtain ⟨h1, h2⟩ := h x rfl
    refine ⟨h1, ?_⟩
    unfold lastN
    cases hl : pre.getLast? with
    | none =>
      have := h1.1
      show (-1 : Int) < _
      omega
    | some m =>
      have hne : pre ≠ [] := fun e => by rw [e] at hl; cases hl
      have hpos : 0 < pre.length := List.length_pos_iff.2 hne
      refine h2 m hpos ?_
      rw [List.getElem?_append_left (by omega), ← List.getLast?_eq_getElem?]
      exact hl
  · rintro ⟨h1, h2⟩ m hm
    obtain rfl : x = m := by simpa using hm
    refine ⟨h1, fun k hk hkm => ?_⟩
    rw [List.getElem?_append_left (by omega), ← List.getLast?_eq_getElem?] at hkm
    unfold lastN at h2
    rw [hkm] at h2
    exact h2
theorem ok_snoc {pre : List MB} (x : MB) (h : ∀ i, i < pre.length → okAt pre i) : (∀ i, i < (pre ++ [x]).length → okAt (pre ++ [x]) i) ↔ x.right ∧ lastN pre < x.node := by
  rw [← okAt_end]
  constructor
  · exact fun h2 => h2 _ (by simp)
  · intro h2 i hi
    by_cases c : i < pre.length
    · exact (okAt_left c).2 (h i c)
    · obtain rfl : i = pre.length := by simp at hi; omega
      exact h2
theorem pright : RightSays := by
  intro x ao cp w hM hl
  obtain ⟨num, L⟩ := x
  simp only [VW.v] at *
  have B2 := hide (((Below.refl w.heap.size w).alloc (Nat.le_refl _) (.cells #[.int .i64 num, .slice ao L.length cp] tView)).alloc (by simp) (.cells #[.bool false] 4))
  have hc5 : ((w.alloc (.cells #[.int .i64 num, .slice ao L.length cp] tView)).alloc (.cells #[.bool false] 4)).cell? ⟨w.heap.size + 1, 0, none⟩ = some (.bool false) := box1_cell (by rw [show w.heap.size + 1 = (w.alloc (.cells #[.int .i64 num, .slice ao L.length cp] tView)).heap.size by simp]; exact World.alloc_heap_new _ _)
  have HC5 := hide hc5
  clear hc5
  refine (callsIn_wide (n := 9)).1 ?_
  refine callsIn_of_wp_marks Try.func39 rfl trivial ?_ rfl
  simp only [Try.ntmps39, List.size_toArray, List.length_cons, List.length_nil, Nat.reduceAdd, Nat.reduceSub, Array.replicate_succ, Array.replicate_zero, List.push_toArray, List.append_toArray, List.nil_append, List.cons_append]
  by_cases k1 : num < 1
  · have hno : Hid (¬ (VW.mk num L).right) := fun h => by have := h.1; simp only at this; omega
    skip
    gi_wp2
    have hc5 := HC5.out
    refine ⟨.bool false, ?_, by rw [decide_eq_false hno.out], B2.out⟩
    simp [results, Try.f39, go_sem, hc5]
  by_cases k2 : num > 9007199254740991
  · have hno : Hid (¬ (VW.mk num L).right) := fun h => by have := h.2.1; have hbig : big = 9007199254740991 := rfl; simp only at this; omega
    skip
    gi_wp2
    have hc5 := HC5.out
    refine ⟨.bool false, ?_, by rw [decide_eq_false hno.out], B2.out⟩
    simp [results, Try.f39, go_sem, hc5]
  by_cases k3 : (L.length : Int) < 1
  · have hno : Hid (¬ (VW.mk num L).right) := fun h => by have := h.2.2.1; have hbig : big = 9007199254740991 := rfl; simp only at this; omega
    skip
    gi_wp2
    have hc5 := HC5.out
    refine ⟨.bool false, ?_, by rw [decide_eq_false hno.out], B2.out⟩
    simp [results, Try.f39, go_sem, hc5]
  by_cases k4 : (L.length : Int) > 7
  · have hno : Hid (¬ (VW.mk num L).right) := fun h => by have := h.2.2.2.1; have hbig : big = 9007199254740991 := rfl; simp only at this; omega
    skip
    gi_wp2
    have hc5 := HC5.out
    refine ⟨.bool false, ?_, by rw [decide_eq_false hno.out], B2.out⟩
    simp [results, Try.f39, go_sem, hc5]
  gi_wp2_with (refine ⟨trivial, ?_⟩; gi_at_call 55; refine (each_in _ _ _ _ _).mono ?_; rintro e w' ⟨rfl, rfl⟩)
  obtain ⟨w1, e1⟩ : ∃ wn : World, w.alloc (.cells #[.int .i64 num, .slice ao L.length cp] tView) = wn := ⟨_, rfl⟩
  obtain ⟨w2, e2⟩ : ∃ wn : World, w1.alloc (.cells #[.bool false] 4) = wn := ⟨_, rfl⟩
  obtain ⟨w3, e3⟩ : ∃ wn : World, w2.alloc (.cells #[.int .i64 (-1)] 3) = wn := ⟨_, rfl⟩
  obtain ⟨wz, e4⟩ : ∃ wn : World, w3.alloc (.cells #[.slice ao L.length cp] 33) = wn := ⟨_, rfl⟩
  have s1 : w1.heap.size = w.heap.size + 1 := by rw [← e1]; simp
  have s2 : w2.heap.size = w.heap.size + 2 := by rw [← e2]; simp [s1]
  have s3 : w3.heap.size = w.heap.size + 3 := by rw [← e3]; simp [s2]
  have s4 : wz.heap.size = w.heap.size + 4 := by rw [← e4]; simp [s3]
  have b1 : Below w.heap.size w wz := by
    rw [← e4, ← e3, ← e2, ← e1]
    exact ((((Below.refl _ w).alloc (Nat.le_refl _) _).alloc (by simp) _).alloc (by simp; omega) _).alloc (by simp; omega) _
  have X0 : wz.heap[w.heap.size]? = some (.cells #[.int .i64 num, .slice ao L.length cp] tView (0, 0)) := by rw [← e4, ← e3, ← e2]; refine heap_up (heap_up (heap_up ?_)); rw [← e1, show w.heap.size = w.heap.size by omega]; exact World.alloc_heap_new _ _
  have X1 : wz.heap[w.heap.size + 1]? = some (.cells #[.bool false] 4 (0, 0)) := by rw [← e4, ← e3]; refine heap_up (heap_up ?_); rw [← e2, show w.heap.size + 1 = w1.heap.size by omega]; exact World.alloc_heap_new _ _
  have X2 : wz.heap[w.heap.size + 1 + 1]? = some (.cells #[.int .i64 (-1)] 3 (0, 0)) := by rw [← e4]; refine heap_up ?_; rw [← e3, show w.heap.size + 1 + 1 = w2.heap.size by omega]; exact World.alloc_heap_new _ _
  have X3 : wz.heap[w.heap.size + 1 + 1 + 1]? = some (.cells #[.slice ao L.length cp] 33 (0, 0)) := by rw [← e4, show w.heap.size + 1 + 1 + 1 = w3.heap.size by omega]; exact World.alloc_heap_new _ _
  rw [e1, e2, e3, e4]
  clear e1 e2 e3 e4 s1 s2 s3 w1 w2 w3
  refine wpIn_rangeFunc_ownH rfl (by omega) (gf := 73) (lb := #[.pointer (some ⟨w.heap.size + 1 + 1 + 1, 0, none⟩)]) rfl trivial (enters_of Try.func73 (by kernel_rfl) rfl)
    (each_stops (id : MB → MB) _ (w.heap.size + 1 + 1 + 1) cp ao L hl w wz (by omega) b1 (box1_cell X3) (by rw [List.map_id]; exact hM)) belowK_t (belowK_b (by omega)) (Below.refl _ _) (fun _ => rfl)
    (fun pre W => ((∀ i, i < pre.length → okAt pre i) ∧ W.heap[w.heap.size + 1]? = some (.cells #[.bool false] 4 (0, 0)) ∧ W.heap[w.heap.size + 1 + 1]? = some (.cells #[.int .i64 (lastN pre)] 3 (0, 0))) ∧ Below w.heap.size w W)
    (fun c pre W => (c = .ret ∧ (¬ ∀ i, i < pre.length → okAt pre i) ∧ W.heap[w.heap.size + 1]? = some (.cells #[.bool false] 4 (0, 0))) ∧ Below w.heap.size w W)
    (OwnFrom.and (Own.from (Own.and (own_pure _) (Own.and (box_own _ _ fun _ => rfl) (box_own _ (fun pre => .cells #[.int .i64 (lastN pre)] 3 (0, 0)) fun _ => rfl))) _) (ownFrom_below (Nat.le_refl _) (by omega)))
    (fun c => OwnFrom.and (Own.from (Own.and (own_pure _) (Own.and (own_pure _) (box_own _ _ fun _ => rfl))) _) (ownFrom_below (Nat.le_refl _) (by omega)))
    ⟨⟨fun i h => absurd h (Nat.not_lt_zero _), X1, X2⟩, b1⟩
    (fun x a' W => ∃ Bx, Box2 W Bx x ∧ a' = { tmps := #[.agg #[.int .i64 num, .slice ao L.length cp], .pointer (some ⟨w.heap.size, 0, none⟩), .pointer (some ⟨w.heap.size + 1, 0, none⟩), .pointer (some ⟨w.heap.size + 1 + 1, 0, none⟩), .pointer (some ⟨Bx, 0, none⟩), .pointer (some ⟨w.heap.size, 0, none⟩), .int .i64 num, .bool false, .bool false, .pointer (some ⟨w.heap.size, 0, none⟩), .int .i64 num, .bool false, .bool false, .bool false, .pointer (some ⟨w.heap.size, 1, none⟩), .slice ao L.length cp, .int .i64 L.length, .bool false, .bool false, .bool false, .pointer (some ⟨w.heap.size, 1, none⟩), .slice ao L.length cp, .int .i64 L.length, .bool false, .bool false, .pointer (some ⟨w.heap.size, 1, none⟩), .slice ao L.length cp, .func (.func 73) #[] #[.pointer (some ⟨w.heap.size + 1 + 1 + 1, 0, none⟩)], x.v, undef, undef, undef, undef, undef, undef, undef, undef, undef, undef, undef], defers := [] })
    (fun x a' s X Y row hs hg hr => by obtain ⟨Bx, h1, h2⟩ := hs; exact ⟨Bx, Own.from (Box2.own (β := Unit) Bx fun _ => x) _ () X Y row h1 hg hr, h2⟩) ?assign ?body ?done ?stop
  case assign =>
    rintro l pre x W K ⟨⟨h1, h2, h3⟩, hB⟩ hK
    simp only [id, MB.v]
    gi_wp2
    exact hK _ _ ((KeepsOthers.alloc _ _).from _) ((Below.refl _ W).alloc hB.size _) ⟨⟨h1, heap_up h2, heap_up h3⟩, hB.alloc hB.size _⟩ ⟨W.heap.size, Box2.new W x, rfl⟩
  case body =>
    rintro l pre x a' W _ _ ⟨⟨h1, h2, h3⟩, hB⟩ ⟨Bx, hx, rfl⟩ hlt
    have HZ := hide (pmember x W)
    have OS := hide (ok_snoc x h1)
    have HL := hide (lastN_snoc pre x)
    obtain ⟨c0, c1⟩ := hx.cells
    simp only [MB.v] at HZ
    obtain ⟨r, hr⟩ : ∃ r, decide x.right = r := ⟨_, rfl⟩
    rw [hr] at HZ
    generalize lastN pre = q at *
    cases r
    · have OB : Hid (¬ ∀ i, i < (pre ++ [x]).length → okAt (pre ++ [x]) i) := fun h => of_decide_eq_false hr (OS.out.1 h).1
      gi_wp2_with (refine ⟨trivial, ?_⟩; gi_at_call 56; refine (CallsIn.inRound l (callsIn_wide.2 HZ.out)).mono ?_; rintro e w2 ⟨rfl, hb2⟩; have h22 := (hb2.block _ (heap_lt h2)).trans h2; have c2 := box1_cell h22; have f2 := box1_frozen h22)
      exact ⟨(keeps_of_below hb2).trans ((KeepsOthers.setCell _ _ _).from _), ⟨rfl, OB.out, box1_set _ h22⟩, (hB.trans (hb2.mono hB.size)).setCell (p := ⟨w.heap.size + 1, 0, none⟩) (by show _ ≤ w.heap.size + 1; omega) _⟩
    · by_cases hq : x.node ≤ q
      · have OB : Hid (¬ ∀ i, i < (pre ++ [x]).length → okAt (pre ++ [x]) i) := fun h => by have := (OS.out.1 h).2; omega
        gi_wp2_with (refine ⟨trivial, ?_⟩; gi_at_call 56; refine (CallsIn.inRound l (callsIn_wide.2 HZ.out)).mono ?_; rintro e w2 ⟨rfl, hb2⟩; have h22 := (hb2.block _ (heap_lt h2)).trans h2; have c2 := box1_cell h22; have f2 := box1_frozen h22; have c3 := box1_cell ((hb2.block _ (heap_lt h3)).trans h3); have c4 := (hb2.cell (p := ⟨Bx, 0, none⟩) (heap_lt hx)).trans c0)
        exact ⟨(keeps_of_below hb2).trans ((KeepsOthers.setCell _ _ _).from _), ⟨rfl, OB.out, box1_set _ h22⟩, (hB.trans (hb2.mono hB.size)).setCell (p := ⟨w.heap.size + 1, 0, none⟩) (by show _ ≤ w.heap.size + 1; omega) _⟩
      · have OB : Hid (∀ i, i < (pre ++ [x]).length → okAt (pre ++ [x]) i) := OS.out.2 ⟨of_decide_eq_true hr, by omega⟩
        gi_wp2_with (refine ⟨trivial, ?_⟩; gi_at_call 56; refine (CallsIn.inRound l (callsIn_wide.2 HZ.out)).mono ?_; rintro e w2 ⟨rfl, hb2⟩; have h33 := (hb2.block _ (heap_lt h3)).trans h3; have c3 := box1_cell h33; have f3 := box1_frozen h33; have c4 := (hb2.cell (p := ⟨Bx, 0, none⟩) (heap_lt hx)).trans c0)
        refine ⟨(keeps_of_below hb2).trans ((KeepsOthers.setCell _ _ _).from _), (hb2.mono hB.size).setCell (p := ⟨w.heap.size + 1 + 1, 0, none⟩) (by show _ ≤ w.heap.size + 1 + 1; omega) _, ⟨OB.out, heap_set_ne _ ((hb2.block _ (heap_lt h2)).trans h2) (by omega), ?_⟩, (hB.trans (hb2.mono hB.size)).setCell (p := ⟨w.heap.size + 1 + 1, 0, none⟩) (by show _ ≤ w.heap.size + 1 + 1; omega) _⟩
        rw [HL.out]
        exact box1_set _ h33
  case done =>
    rintro D ys W hD rfl ⟨⟨h1, h2, h3⟩, hB⟩ hK
    have hbig : big = 9007199254740991 := rfl
    have hyes : Hid ((VW.mk num ys).right) := ⟨by simp only; omega, by simp only; omega, by simp only; omega, by simp only; omega, h1⟩
    have f3 := box1_frozen h2
    have c3 := box1_cell h2
    gi_wp2
    have hK' : (W.setCell ⟨w.heap.size + 1, 0, none⟩ (.bool true)).heap[D]? = some (.deferred (some [])) := heap_set_ne _ hK (by omega)
    refine ⟨by simp, .inl ⟨_, _, rfl, run_takeDeferred hK', ?_⟩⟩
    have hc5 := box1_cell (put_keeps (o2 := .deferred none) hK' (box1_set (.bool true) h2) rfl)
    refine ⟨.bool true, ?_, by rw [decide_eq_true hyes.out], below_put (hB.setCell (p := ⟨w.heap.size + 1, 0, none⟩) (by show _ ≤ w.heap.size + 1; omega) _) (by omega) hK'⟩
    simp [results, Try.f39, go_sem, hc5]
  case stop =>
    rintro D c pre W hD hpre ⟨⟨rfl, hy, h2⟩, hB⟩ hK
    have hno : Hid (¬ (VW.mk num L).right) := fun h => hy (ok_prefix hpre h.2.2.2.2)
    gi_wp2
    refine ⟨by simp, .inl ⟨_, _, rfl, run_takeDeferred hK, ?_⟩⟩
    have hc5 := box1_cell (put_keeps (o2 := .deferred none) hK h2 rfl)
    refine ⟨.bool false, ?_, by rw [decide_eq_false hno.out], below_put hB (by omega) hK⟩
    simp [results, Try.f39, go_sem, hc5]
end Go.Proofs.Ytfcpclpaalekiaa
