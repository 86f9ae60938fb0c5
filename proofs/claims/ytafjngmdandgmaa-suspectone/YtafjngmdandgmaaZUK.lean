/-
  What came in: members, rows of numbers, rows of deeds (mkuk.py, out of wip/view/VK).
-/
import Derived.Test.YtafjngmdandgmaaZU2
import Derived.Test.YtafjngmdandgmaaProg
import Derived.ProofKit
import Derived.OpenShut
import Derived.ShutString
import Derived.ChangeOld
import Derived.SizedLaws
import Derived.Deep.Slices
import Derived.Deep.Strs
namespace Go.Proofs.Ytafjngmdandgmaa
open Go.ChangeShapes Go.WideShapes Go.ChangeAt Go.RowKit Go.Deep

theorem own : ownKnob Try.prog.godebug = none := by kernel_rfl
theorem laidOut : laidOutB Try.prog = true := by kernel_rfl
theorem cellsInt : Try.prog.cellsOf 3 = 1 := by kernel_rfl
theorem cellsMember : Try.prog.cellsOf 23 = 2 := by kernel_rfl
theorem cellsBool : Try.prog.cellsOf 4 = 1 := by kernel_rfl
theorem cellsDeed : Try.prog.cellsOf 33 = 3 := by kernel_rfl
theorem bytesDeed : Try.prog.bytesOf 33 = 24 := by kernel_rfl
theorem bytesInt : Try.prog.bytesOf 3 = 8 := by kernel_rfl
def In64 (a : Int) : Prop := -9223372036854775808 ≤ a ∧ a ≤ 9223372036854775807
theorem wf_in64 {a : Int} (h : (Lit.int .i64 a).wf = true) : In64 a := by
  simp [Lit.wf, IntKind.min, IntKind.max, IntKind.bits, IntKind.signed] at h
  unfold In64
  omega
def MB.ok (m : MB) : Prop := In64 m.node ∧ In64 m.life
theorem two_of {α : Type} (l : List α) (h : l.length = 2) : ∃ a b, l = [a, b] := by
  match l, h with
  | [a, b], _ => exact ⟨a, b, rfl⟩
theorem one_of {α : Type} (l : List α) (h : l.length = 1) : ∃ a, l = [a] := by
  match l, h with
  | [a], _ => exact ⟨a, rfl⟩
theorem addr_add (b off n : Nat) : (⟨b, off, none⟩ : Addr).add n = ⟨b, off + n, none⟩ := by
  unfold Addr.add
  split
  · rename_i h; subst h; rfl
  · rfl
/-- A member, read. -/
theorem mb_open {H : Type} {enc : TypeId × Value → H} {W : World} {n : Nat} {cs : List Value} {x : DataW H × List MemPlace} (h : DataW.trod enc Try.prog W 0 (fun _ => true) true n 23 cs = some x) :
    ∃ o : MB, o.ok ∧ cs = o.cells := by
  obtain ⟨xs, m, _, _, hl, hlen, hf⟩ := DataW.trod_struct Try.underlying23 h
  rw [cellsMember] at hl
  obtain ⟨v0, v1, rfl⟩ := two_of cs hl
  obtain ⟨x0, x1, rfl⟩ := two_of xs hlen
  have h0 : DataW.trod enc Try.prog W 0 (fun _ => true) true m 3 [v0] = some x0 := by
    have h : DataW.trod enc Try.prog W 0 (fun _ => true) true m 3 (([v0, v1].drop 0).take (Try.prog.cellsOf 3)) = some x0 := hf 0 _ rfl
    rw [cellsInt] at h
    exact h
  have h1 : DataW.trod enc Try.prog W 0 (fun _ => true) true m 3 [v1] = some x1 := by
    have h : DataW.trod enc Try.prog W 0 (fun _ => true) true m 3 (([v0, v1].drop 1).take (Try.prog.cellsOf 3)) = some x1 := hf 1 _ rfl
    rw [cellsInt] at h
    exact h
  obtain ⟨a0, e0, _, w0⟩ := DataW.trod_int Try.underlying3 h0
  obtain ⟨a1, e1, _, w1⟩ := DataW.trod_int Try.underlying3 h1
  cases e0
  cases e1
  exact ⟨⟨a0, a1⟩, ⟨wf_in64 w0, wf_in64 w1⟩, rfl⟩
def deedCells (y : Bool × MB) : List Value := [.bool y.1, .int .i64 y.2.node, .int .i64 y.2.life]
theorem three_of {α : Type} (l : List α) (h : l.length = 3) : ∃ a b c, l = [a, b, c] := by
  match l, h with
  | [a, b, c], _ => exact ⟨a, b, c, rfl⟩
/-- A deed, read. -/
theorem deed_open {H : Type} {enc : TypeId × Value → H} {W : World} {n : Nat} {cs : List Value} {x : DataW H × List MemPlace} (h : DataW.trod enc Try.prog W 0 (fun _ => true) true n 33 cs = some x) :
    ∃ o : Bool × MB, o.2.ok ∧ cs = deedCells o := by
  obtain ⟨xs, m, _, _, hl, hlen, hf⟩ := DataW.trod_struct Try.underlying33 h
  rw [cellsDeed] at hl
  obtain ⟨v0, v1, v2, rfl⟩ := three_of cs hl
  obtain ⟨x0, x1, rfl⟩ := two_of xs hlen
  have h0 : DataW.trod enc Try.prog W 0 (fun _ => true) true m 4 [v0] = some x0 := by
    have h : DataW.trod enc Try.prog W 0 (fun _ => true) true m 4 (([v0, v1, v2].drop 0).take (Try.prog.cellsOf 4)) = some x0 := hf 0 _ rfl
    rw [cellsBool] at h
    exact h
  have h1 : DataW.trod enc Try.prog W 0 (fun _ => true) true m 23 [v1, v2] = some x1 := by
    have h : DataW.trod enc Try.prog W 0 (fun _ => true) true m 23 (([v0, v1, v2].drop 1).take (Try.prog.cellsOf 23)) = some x1 := hf 1 _ rfl
    rw [cellsMember] at h
    exact h
  obtain ⟨t, e0, _⟩ := DataW.trod_bool Try.underlying4 h0
  obtain ⟨o, ho, e1⟩ := mb_open h1
  cases e0
  simp only [MB.cells, List.cons.injEq, and_true] at e1
  obtain ⟨rfl, rfl⟩ := e1
  exact ⟨(t, o), ho, rfl⟩
/-- A row of deeds, read. -/
theorem deeds_open {H : Type} {enc : TypeId × Value → H} {W : World} {n : Nat} {cs : List Value} {x : DataW H × List MemPlace} (h : DataW.trod enc Try.prog W 0 (fun _ => true) true n 24 cs = some x) (hw : ∀ k ∈ x.1.weights Try.prog 24, k ≤ reachBytes) :
    ∃ ao L cap, cs = [.slice ao (L : List (Bool × MB)).length cap] ∧ DeedsAt W ao L ∧ (∀ m ∈ L, m.2.ok) ∧ L.length ≤ 140737488351232 := by
  rcases open_slice Try.underlying24 h with ⟨hcs, hx⟩ | ⟨a, len, c', m, n, D, Pl, hcs, _, hl, hm, hmm, hx, hel⟩
  · exact ⟨none, [], 0, hcs, fun i hi => by simp at hi, fun u hu => by simp at hu, Nat.zero_le _⟩
  · simp only [if_true] at hmm
    subst hmm
    rw [cellsDeed] at hel
    have hsl := hw (((List.range len).map D).length + ((List.range (m - len)).map fun j => D (len + j)).length |> (· * 24)) (by
      rw [hx]
      unfold DataW.weights
      rw [Try.underlying24]
      show _ ∈ _ * Try.prog.bytesOf 33 :: _
      rw [bytesDeed]
      exact List.mem_cons_self)
    simp only [List.length_map, List.length_range, reachBytes] at hsl
    have hch : ∀ i, i < len → ∃ y : Bool × MB, y.2.ok ∧ W.cells? 0 (a.add (i * 3)) 3 = some (deedCells y) := by
      intro i hi
      obtain ⟨cs', h1, h2⟩ := hel i (by omega)
      obtain ⟨o, ho, rfl⟩ := deed_open h2
      exact ⟨o, ho, h1⟩
    obtain ⟨f, hfy⟩ := @choose_lt (Bool × MB) ⟨(false, ⟨0, 0⟩)⟩ len (fun i y => y.2.ok ∧ W.cells? 0 (a.add (i * 3)) 3 = some (deedCells y)) hch
    refine ⟨some a, (List.range len).map f, m, by simpa using hcs, ?_, ?_, ?_⟩
    · intro i hi
      have hi' : i < len := by simpa using hi
      obtain ⟨_, h1⟩ := hfy i hi'
      have hb := World.cells?_block h1 (by omega)
      obtain ⟨b, off, spot⟩ := a
      have hb' : b < W.heap.size := by
        have e : ((⟨b, off, spot⟩ : Addr).add (i * 3)).block = b := by unfold Addr.add; split <;> rfl
        rw [e] at hb; exact hb
      have hspot : spot = none := by
        obtain ⟨_, h0⟩ := hfy 0 (by omega)
        have h2 := (World.cells?_some h0).2.2 0 (by omega)
        have h3 : W.cell? (⟨b, off, spot⟩ : Addr) = some (.bool (f 0).1) := h2
        exact World.cell?_spot h3
      subst hspot
      have h2 := (World.cells?_some h1).2.2
      rw [addr_add] at h2
      have e : ((List.range len).map f)[i] = f i := by simp
      have g0 := h2 0 (by omega)
      have g1 := h2 1 (by omega)
      have g2 := h2 2 (by omega)
      rw [addr_add] at g0 g1 g2
      refine ⟨b, off, rfl, hb', ?_, ?_, ?_⟩
      · rw [e]; simpa [deedCells] using g0
      · rw [e]; simpa [deedCells] using g1
      · rw [e]; simpa [deedCells] using g2
    · intro x hx
      obtain ⟨i, hi, rfl⟩ := List.mem_map.1 hx
      exact (hfy i (List.mem_range.1 hi)).1
    · rw [List.length_map, List.length_range]
      omega
/-- A row of numbers, read. -/
theorem ints_open {H : Type} {enc : TypeId × Value → H} {W : World} {n : Nat} {cs : List Value} {x : DataW H × List MemPlace} (h : DataW.trod enc Try.prog W 0 (fun _ => true) true n 38 cs = some x) (hw : ∀ k ∈ x.1.weights Try.prog 38, k ≤ reachBytes) :
    ∃ ao L cap, cs = [.slice ao (L : List Int).length cap] ∧ IntsAt W ao L ∧ (∀ m ∈ L, In64 m) ∧ L.length ≤ 17592186043904 ∧ (ao = none → cap = 0) := by
  rcases open_slice1 Try.underlying38 cellsInt h with ⟨hcs, hx⟩ | ⟨a, len, c', m, n, V, D, Pl, hcs, _, hl, hm, hmm, hx, hel⟩
  · exact ⟨none, [], 0, hcs, fun i hi => by simp at hi, fun u hu => by simp at hu, Nat.zero_le _, fun _ => rfl⟩
  · simp only [if_true] at hmm
    subst hmm
    have hsl := hw (((List.range len).map D).length + ((List.range (m - len)).map fun j => D (len + j)).length |> (· * 8)) (by
      rw [hx]
      unfold DataW.weights
      rw [Try.underlying38]
      show _ ∈ _ * Try.prog.bytesOf 3 :: _
      rw [bytesInt]
      exact List.mem_cons_self)
    simp only [List.length_map, List.length_range, reachBytes] at hsl
    have hch : ∀ i, i < len → ∃ y : Int, In64 y ∧ W.cell? (a.add i) = some (.int .i64 y) := by
      intro i hi
      obtain ⟨h1, h2⟩ := hel i (by omega)
      obtain ⟨y, e, _, wy⟩ := DataW.trod_int Try.underlying3 h2
      have he : V i = .int .i64 y := by simpa using e
      exact ⟨y, wf_in64 wy, by rw [← he]; exact h1⟩
    obtain ⟨f, hfy⟩ := @choose_lt Int ⟨0⟩ len (fun i y => In64 y ∧ W.cell? (a.add i) = some (.int .i64 y)) hch
    refine ⟨some a, (List.range len).map f, m, by simpa using hcs, ?_, ?_, ?_, fun e => by cases e⟩
    · intro i hi
      have hi' : i < len := by simpa using hi
      obtain ⟨_, h1⟩ := hfy i hi'
      obtain ⟨b, off, spot⟩ := a
      have hspot : spot = none := by
        obtain ⟨_, h0⟩ := hfy 0 (by omega)
        have h3 : W.cell? (⟨b, off, spot⟩ : Addr) = some (.int .i64 (f 0)) := h0
        exact World.cell?_spot h3
      subst hspot
      rw [addr_add] at h1
      have e : ((List.range len).map f)[i] = f i := by simp
      refine ⟨b, off, rfl, ?_, ?_⟩
      · have h2 : W.cells? 0 (⟨b, off + i, none⟩ : Addr) 1 = some [.int .i64 (f i)] := cells?_one (Nat.zero_le _) h1
        exact World.cells?_block h2 (by omega)
      · rw [e]; exact h1
    · intro x hx
      obtain ⟨i, hi, rfl⟩ := List.mem_map.1 hx
      exact (hfy i (List.mem_range.1 hi)).1
    · rw [List.length_map, List.length_range]
      omega
theorem weights_of {H : Type} {d : DataW H} {t : TypeId} {ts : List TypeId} {ds : List (DataW H)} {j : Nat} (hsz : (DataW.weightsEach Try.prog ts ds).all (· ≤ reachBytes) = true) (ht : ts[j]? = some t) (hd : ds[j]? = some d) : ∀ k ∈ d.weights Try.prog t, k ≤ reachBytes :=
  fun k hk => of_decide_eq_true (List.all_eq_true.1 hsz k (DataW.weights_mem_each (P := Try.prog) ht hd k hk))
set_option maxRecDepth 100000 in
theorem mb_param {H : Type} {enc : TypeId × Value → H} {W : World} {r : Reach} {b0 : Nat} {v : Value} {d : DataW H} {p : List MemPlace} (hv : Value.okWide Try.prog W r b0 23 v) (h : DataW.Trod enc Try.prog W 0 (fun _ => true) true 23 v d p) :
    ∃ x : MB, v = x.v ∧ x.ok := by
  obtain ⟨cs, rfl, _⟩ := okWide_struct Try.underlying23 hv
  obtain ⟨fuel, hf⟩ := h
  obtain ⟨x, hx, e⟩ := mb_open hf
  refine ⟨x, ?_, hx⟩
  simp only [Value.cells] at e
  exact congrArg Value.agg (by cases cs; simp only [MB.cells] at e; simp_all)
set_option maxRecDepth 100000 in
theorem deeds_param {H : Type} {enc : TypeId × Value → H} {W : World} {r : Reach} {b0 : Nat} {v : Value} {d : DataW H} {p : List MemPlace} (hv : Value.okWide Try.prog W r b0 24 v) (h : DataW.Trod enc Try.prog W 0 (fun _ => true) true 24 v d p) {ts : List TypeId} {ds : List (DataW H)} {j : Nat} (hsz : (DataW.weightsEach Try.prog ts ds).all (· ≤ reachBytes) = true) (ht : ts[j]? = some 24) (hd : ds[j]? = some d) :
    ∃ ao cap, ∃ L : List (Bool × MB), v = .slice ao L.length cap ∧ DeedsAt W ao L ∧ (∀ m ∈ L, m.2.ok) ∧ L.length ≤ 140737488351232 := by
  obtain ⟨a, l, c, rfl⟩ := okWide_slice Try.underlying24 hv
  obtain ⟨fuel, hf⟩ := h
  obtain ⟨ao, L, cap, e, hx⟩ := deeds_open hf (weights_of hsz ht hd)
  simp only [Value.cells, List.cons.injEq, and_true] at e
  exact ⟨ao, cap, L, e, hx⟩
set_option maxRecDepth 100000 in
theorem ints_param {H : Type} {enc : TypeId × Value → H} {W : World} {r : Reach} {b0 : Nat} {v : Value} {d : DataW H} {p : List MemPlace} (hv : Value.okWide Try.prog W r b0 38 v) (h : DataW.Trod enc Try.prog W 0 (fun _ => true) true 38 v d p) {ts : List TypeId} {ds : List (DataW H)} {j : Nat} (hsz : (DataW.weightsEach Try.prog ts ds).all (· ≤ reachBytes) = true) (ht : ts[j]? = some 38) (hd : ds[j]? = some d) :
    ∃ ao cap, ∃ L : List Int, v = .slice ao L.length cap ∧ IntsAt W ao L ∧ (∀ m ∈ L, In64 m) ∧ L.length ≤ 17592186043904 ∧ (ao = none → cap = 0) := by
  obtain ⟨a, l, c, rfl⟩ := okWide_slice Try.underlying38 hv
  obtain ⟨fuel, hf⟩ := h
  obtain ⟨ao, L, cap, e, hx⟩ := ints_open hf (weights_of hsz ht hd)
  simp only [Value.cells, List.cons.injEq, and_true] at e
  exact ⟨ao, cap, L, e, hx⟩
end Go.Proofs.Ytafjngmdandgmaa
