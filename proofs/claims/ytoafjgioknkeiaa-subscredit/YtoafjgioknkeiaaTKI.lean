/-
  What came in: numbers, and rows of them (mklaw.py).
-/
import Derived.Test.YtoafjgioknkeiaaRows
import Derived.Test.YtoafjgioknkeiaaM0
import Derived.ProofKit
import Derived.OpenShut
import Derived.ShutString
import Derived.ChangeOld
import Derived.SizedLaws
import Derived.Deep.Slices
import Derived.Deep.Strs
namespace Go.Proofs.Ytoafjgioknkeiaa
open Go.ChangeShapes Go.WideShapes Go.ChangeAt Go.RowKit Go.Deep Go.Maps

theorem laidOut : laidOutB Try.prog = true := by kernel_rfl
theorem own : ownKnob Try.prog.godebug = none := by kernel_rfl
theorem wf_in64 {a : Int} (h : (Lit.int .i64 a).wf = true) : -9223372036854775808 ≤ a ∧ a ≤ 9223372036854775807 := by
  simp [Lit.wf, IntKind.min, IntKind.max, IntKind.bits, IntKind.signed] at h
  omega
theorem cellsInt : Try.prog.cellsOf 3 = 1 := by kernel_rfl
theorem addr_add (b off n : Nat) : (⟨b, off, none⟩ : Addr).add n = ⟨b, off + n, none⟩ := by
  unfold Addr.add
  split
  · rename_i h; subst h; rfl
  · rfl
def IntsAt (w : World) (ao : Option Addr) (L : List Int) : Prop := ∀ i (hi : i < L.length), ∃ b off, ao = some ⟨b, off, none⟩ ∧ b < w.heap.size ∧ w.cell? ⟨b, off + i, none⟩ = some (.int .i64 L[i])
def In64 (a : Int) : Prop := -9223372036854775808 ≤ a ∧ a ≤ 9223372036854775807
theorem bytesInt : Try.prog.bytesOf 3 = 8 := by kernel_rfl
/-- A row of numbers, read. -/
theorem ints_open {H : Type} {enc : TypeId × Value → H} {W : World} {n : Nat} {cs : List Value} {x : DataW H × List MemPlace} (h : DataW.trod enc Try.prog W 0 (fun _ => true) true n 52 cs = some x) (hw : ∀ k ∈ x.1.weights Try.prog 52, k ≤ reachBytes) :
    ∃ ao L cap, cs = [.slice ao (L : List Int).length cap] ∧ IntsAt W ao L ∧ (∀ m ∈ L, In64 m) ∧ L.length ≤ 17592186043904 ∧ (ao = none → cap = 0) := by
  rcases open_slice1 Try.underlying52 cellsInt h with ⟨hcs, hx⟩ | ⟨a, len, c', m, n, V, D, Pl, hcs, _, hl, hm, hmm, hx, hel⟩
  · exact ⟨none, [], 0, hcs, fun i hi => by simp at hi, fun u hu => by simp at hu, Nat.zero_le _, fun _ => rfl⟩
  · simp only [if_true] at hmm
    subst hmm
    have hsl := hw (((List.range len).map D).length + ((List.range (m - len)).map fun j => D (len + j)).length |> (· * 8)) (by
      rw [hx]
      unfold DataW.weights
      rw [Try.underlying52]
      show _ ∈ _ * Try.prog.bytesOf 3 :: _
      rw [bytesInt]
      exact List.mem_cons_self)
    simp only [List.length_map, List.length_range, reachBytes] at hsl
    have hch : ∀ i, i < len → ∃ y : Int, In64 y ∧ W.cell? (a.add i) = some (.int .i64 y) := by
      intro i hi
      obtain ⟨h1, h2⟩ := hel i (by omega)
      obtain ⟨y, e, _, wy⟩ := DataW.trod_int Try.underlying3 h2
      have he : V i = .int .i64 y := by simpa using e
      exact ⟨y, wf_in64 wy, by rw [← he]; exact h1⟩
    obtain ⟨f, hfy⟩ := @choose_lt Int ⟨0⟩ len (fun i y => In64 y ∧ W.cell? (a.add i) = some (.int .i64 y)) hch
    refine ⟨some a, (List.range len).map f, m, by simpa using hcs, ?_, ?_, ?_, fun e => by cases e⟩
    · intro i hi
      have hi' : i < len := by simpa using hi
      obtain ⟨_, h1⟩ := hfy i hi'
      obtain ⟨b, off, spot⟩ := a
      have hspot : spot = none := by
        obtain ⟨_, h0⟩ := hfy 0 (by omega)
        have h3 : W.cell? (⟨b, off, spot⟩ : Addr) = some (.int .i64 (f 0)) := h0
        exact World.cell?_spot h3
      subst hspot
      rw [addr_add] at h1
      have e : ((List.range len).map f)[i] = f i := by simp
      refine ⟨b, off, rfl, ?_, ?_⟩
      · have h2 : W.cells? 0 (⟨b, off + i, none⟩ : Addr) 1 = some [.int .i64 (f i)] := cells?_one (Nat.zero_le _) h1
        exact World.cells?_block h2 (by omega)
      · rw [e]; exact h1
    · intro x hx
      obtain ⟨i, hi, rfl⟩ := List.mem_map.1 hx
      exact (hfy i (List.mem_range.1 hi)).1
    · rw [List.length_map, List.length_range]
      omega
theorem weights_of {H : Type} {d : DataW H} {t : TypeId} {ts : List TypeId} {ds : List (DataW H)} {j : Nat} (hsz : (DataW.weightsEach Try.prog ts ds).all (· ≤ reachBytes) = true) (ht : ts[j]? = some t) (hd : ds[j]? = some d) : ∀ k ∈ d.weights Try.prog t, k ≤ reachBytes :=
  fun k hk => of_decide_eq_true (List.all_eq_true.1 hsz k (DataW.weights_mem_each (P := Try.prog) ht hd k hk))
set_option maxRecDepth 100000 in
theorem ints_param {H : Type} {enc : TypeId × Value → H} {W : World} {r : Reach} {b0 : Nat} {v : Value} {d : DataW H} {p : List MemPlace} (hv : Value.okWide Try.prog W r b0 52 v) (h : DataW.Trod enc Try.prog W 0 (fun _ => true) true 52 v d p) {ts : List TypeId} {ds : List (DataW H)} {j : Nat} (hsz : (DataW.weightsEach Try.prog ts ds).all (· ≤ reachBytes) = true) (ht : ts[j]? = some 52) (hd : ds[j]? = some d) :
    ∃ ao cap, ∃ L : List Int, v = .slice ao L.length cap ∧ IntsAt W ao L ∧ (∀ m ∈ L, In64 m) ∧ L.length ≤ 17592186043904 ∧ (ao = none → cap = 0) := by
  obtain ⟨a, l, c, rfl⟩ := okWide_slice Try.underlying52 hv
  obtain ⟨fuel, hf⟩ := h
  obtain ⟨ao, L, cap, e, hx⟩ := ints_open hf (weights_of hsz ht hd)
  simp only [Value.cells, List.cons.injEq, and_true] at e
  exact ⟨ao, cap, L, e, hx⟩
end Go.Proofs.Ytoafjgioknkeiaa
