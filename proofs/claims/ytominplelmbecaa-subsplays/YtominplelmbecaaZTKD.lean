/-
  What came in: numbers, and deeds (mkse.py).
-/
import Derived.Test.YtominplelmbecaaRows
import Derived.Test.YtominplelmbecaaZM0
import Derived.ProofKit
import Derived.OpenShut
import Derived.ShutString
import Derived.ChangeOld
import Derived.SizedLaws
import Derived.Deep.Slices
import Derived.Deep.Strs
namespace Go.Proofs.Ytominplelmbecaa
open Go.ChangeShapes Go.WideShapes Go.ChangeAt Go.RowKit Go.Deep Go.Maps

theorem laidOut : laidOutB Try.prog = true := by kernel_rfl
theorem own : ownKnob Try.prog.godebug = none := by kernel_rfl
set_option linter.unusedVariables false
theorem wf_in64 {a : Int} (h : (Lit.int .i64 a).wf = true) : -9223372036854775808 ≤ a ∧ a ≤ 9223372036854775807 := by
  simp [Lit.wf, IntKind.min, IntKind.max, IntKind.bits, IntKind.signed] at h
  omega
theorem cellsInt : Try.prog.cellsOf 3 = 1 := by kernel_rfl
/-- A deed. -/
structure DE where
  kind : Int
  n : Int
def i64Ok (a : Int) : Prop := -9223372036854775808 ≤ a ∧ a ≤ 9223372036854775807
def DE.ok (o : DE) : Prop := i64Ok o.kind ∧ i64Ok o.n
theorem cellsDE : Try.prog.cellsOf 42 = 2 := by kernel_rfl
theorem bytesDE : Try.prog.bytesOf 42 = 16 := by kernel_rfl
structure DEAt (w : World) (b off : Nat) (o : DE) : Prop where
  c0 : w.cell? ⟨b, off, none⟩ = some (.int .i64 o.kind)
  c1 : w.cell? ⟨b, off + 1, none⟩ = some (.int .i64 o.n)
def DEsAt (w : World) (ao : Option Addr) (l : List DE) : Prop := ∀ i (hi : i < l.length), ∃ b off, ao = some ⟨b, off, none⟩ ∧ b < w.heap.size ∧ DEAt w b (off + i * 2) l[i]
structure DEs (w : World) (ao : Option Addr) (l : List DE) : Prop where
  all : DEsAt w ao l
  ok : ∀ o ∈ l, o.ok
  len : l.length ≤ 4611686018427387904
theorem DEsAt.below {w w1 : World} {ao : Option Addr} {l : List DE} (h : DEsAt w ao l) (hb : RowKit.Below w.heap.size w w1) : DEsAt w1 ao l := fun i hi => by
  obtain ⟨b, off, h1, h2, h3⟩ := h i hi
  exact ⟨b, off, h1, Nat.lt_of_lt_of_le h2 hb.size, (hb.cell (p := ⟨b, _, none⟩) h2).trans h3.c0, (hb.cell (p := ⟨b, _, none⟩) h2).trans h3.c1⟩
theorem of2 {α : Type} (l : List α) (h : l.length = 2) : ∃ y0 y1, l = [y0, y1] := by
  match l, h with
  | [y0, y1], _ => exact ⟨y0, y1, rfl⟩
theorem addr_add (b off n : Nat) : (⟨b, off, none⟩ : Addr).add n = ⟨b, off + n, none⟩ := by
  unfold Addr.add
  split
  · rename_i h; subst h; rfl
  · rfl
theorem weightsAll_in {H : Type} {P : Program} {e : TypeId} : ∀ {l : List (DataW H)} {d : DataW H}, d ∈ l → ∀ n ∈ d.weights P e, n ∈ DataW.weightsAll P e l
  | x :: r, d, hd, n, hn => by
    unfold DataW.weightsAll
    rcases List.mem_cons.1 hd with rfl | hd
    · exact List.mem_append_left _ hn
    · exact List.mem_append_right _ (weightsAll_in hd n hn)
theorem de_open {H : Type} {enc : TypeId × Value → H} {W : World} {n : Nat} {cs : List Value} {x : DataW H × List MemPlace} (h : DataW.trod enc Try.prog W 0 (fun _ => true) true n 42 cs = some x) (hw : ∀ k ∈ x.1.weights Try.prog 42, k ≤ reachBytes) :
    ∃ o : DE, o.ok ∧ cs = [.int .i64 o.kind, .int .i64 o.n] := by
  obtain ⟨xs, m, _, hx, hl, hlen, hf⟩ := DataW.trod_struct Try.underlying42 h
  rw [cellsDE] at hl
  obtain ⟨v0, v1, rfl⟩ := of2 cs hl
  obtain ⟨x0, x1, rfl⟩ := of2 xs hlen
  have h0 : DataW.trod enc Try.prog W 0 (fun _ => true) true m 3 [v0] = some x0 := by
    have h : DataW.trod enc Try.prog W 0 (fun _ => true) true m 3 (([v0, v1].drop 0).take (Try.prog.cellsOf 3)) = some x0 := hf 0 _ rfl
    rw [show Try.prog.cellsOf 3 = 1 by kernel_rfl] at h
    exact h
  obtain ⟨a0, e0, _, w0⟩ := DataW.trod_int Try.underlying3 h0
  have h1 : DataW.trod enc Try.prog W 0 (fun _ => true) true m 3 [v1] = some x1 := by
    have h : DataW.trod enc Try.prog W 0 (fun _ => true) true m 3 (([v0, v1].drop 1).take (Try.prog.cellsOf 3)) = some x1 := hf 1 _ rfl
    rw [show Try.prog.cellsOf 3 = 1 by kernel_rfl] at h
    exact h
  obtain ⟨a1, e1, _, w1⟩ := DataW.trod_int Try.underlying3 h1
  cases e0
  cases e1
  exact ⟨⟨a0, a1⟩, ⟨wf_in64 w0, wf_in64 w1⟩, rfl⟩
theorem des_open {H : Type} {enc : TypeId × Value → H} {W : World} {a0 : Option Addr} {len cap : Nat} {d : DataW H} {p : List MemPlace} (h : DataW.Trod enc Try.prog W 0 (fun _ => true) true 24 (.slice a0 len cap) d p) {ts : List TypeId} {ds : List (DataW H)} {j : Nat} (hsz : (DataW.weightsEach Try.prog ts ds).all (· ≤ reachBytes) = true) (ht : ts[j]? = some 24) (hd : ds[j]? = some d) :
    ∃ us : List DE, len = us.length ∧ DEs W a0 us := by
  obtain ⟨fuel, hf⟩ := h
  rcases open_slice Try.underlying24 hf with ⟨hcs, hx⟩ | ⟨a, l', c', m, n, D, Pl, hcs, _, hl, hm, hmm, hx, hel⟩
  · simp [Value.cells] at hcs
    obtain ⟨rfl, rfl, rfl⟩ := hcs
    exact ⟨[], rfl, fun i hi => by simp at hi, fun u hu => by simp at hu, Nat.zero_le _⟩
  · simp [Value.cells] at hcs
    obtain ⟨rfl, rfl, rfl⟩ := hcs
    simp only [if_true] at hmm
    subst hmm
    rw [cellsDE] at hel
    have hdd : d = .slice ((List.range len).map D) ((List.range (m - len)).map fun j => D (len + j)) := congrArg Prod.fst hx
    subst hdd
    have hsl := sized_slice hsz ht hd Try.underlying24
    rw [bytesDE, List.length_map, List.length_range] at hsl
    simp only [reachBytes] at hsl
    have hwt : ∀ i, i < len → ∀ k ∈ (D i).weights Try.prog 42, k ≤ reachBytes := by
      intro i hi k hk
      have h1 := DataW.weights_mem_each (P := Try.prog) ht hd k (by
        unfold DataW.weights
        rw [Try.underlying24]
        exact List.mem_cons_of_mem _ (List.mem_append_left _ (weightsAll_in (List.mem_map.2 ⟨i, List.mem_range.2 hi, rfl⟩) k hk)))
      exact of_decide_eq_true (List.all_eq_true.1 hsz k h1)
    have hch : ∀ i, i < len → ∃ y : DE, y.ok ∧ W.cells? 0 (a.add (i * 2)) 2 = some [.int .i64 y.kind, .int .i64 y.n] := by
      intro i hi
      obtain ⟨cs', h1, h2⟩ := hel i (by omega)
      obtain ⟨o, ho, rfl⟩ := de_open h2 (hwt i hi)
      exact ⟨o, ho, h1⟩
    obtain ⟨f, hfy⟩ := @choose_lt DE ⟨⟨0, 0⟩⟩ len (fun i y => y.ok ∧ W.cells? 0 (a.add (i * 2)) 2 = some [.int .i64 y.kind, .int .i64 y.n]) hch
    refine ⟨(List.range len).map f, by simp, ?_, ?_, ?_⟩
    · intro i hi
      have hi' : i < len := by simpa using hi
      obtain ⟨_, h1⟩ := hfy i hi'
      have hb := World.cells?_block h1 (by omega)
      obtain ⟨b, off, spot⟩ := a
      have hb' : b < W.heap.size := by
        have e : ((⟨b, off, spot⟩ : Addr).add (i * 2)).block = b := by unfold Addr.add; split <;> rfl
        rw [e] at hb; exact hb
      have hspot : spot = none := by
        obtain ⟨_, h0⟩ := hfy 0 (by omega)
        have h2 := (World.cells?_some h0).2.2 0 (by omega)
        have h3 : W.cell? (⟨b, off, spot⟩ : Addr) = some (.int .i64 (f 0).kind) := h2
        exact World.cell?_spot h3
      subst hspot
      have h2 := (World.cells?_some h1).2.2
      rw [addr_add] at h2
      have g0 := h2 0 (by omega)
      have g1 := h2 1 (by omega)
      rw [addr_add] at g0 g1
      have e : ((List.range len).map f)[i] = f i := by simp
      refine ⟨b, off, rfl, hb', ?_⟩
      rw [e]
      exact ⟨by simpa using g0, by simpa using g1⟩
    · intro x hx
      obtain ⟨i, hi, rfl⟩ := List.mem_map.1 hx
      exact (hfy i (List.mem_range.1 hi)).1
    · rw [List.length_map, List.length_range]
      omega
end Go.Proofs.Ytominplelmbecaa
