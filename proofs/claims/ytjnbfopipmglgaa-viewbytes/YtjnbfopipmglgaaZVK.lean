/-
  What came in: members, rows of members, rows of numbers, views.
-/
import Derived.Test.YtjnbfopipmglgaaZVM
import Derived.Test.YtjnbfopipmglgaaProg
import Derived.ProofKit
import Derived.OpenShut
import Derived.ShutString
import Derived.ChangeOld
import Derived.SizedLaws
import Derived.Deep.Slices
import Derived.Deep.Strs
namespace Go.Proofs.Ytjnbfopipmglgaa
open Go.ChangeShapes Go.WideShapes Go.ChangeAt Go.RowKit Go.Deep

theorem own : ownKnob Try.prog.godebug = none := by kernel_rfl
theorem laidOut : laidOutB Try.prog = true := by kernel_rfl
theorem cellsInt : Try.prog.cellsOf 3 = 1 := by kernel_rfl
theorem cellsMember : Try.prog.cellsOf 38 = 2 := by kernel_rfl
theorem cellsMembers : Try.prog.cellsOf 22 = 1 := by kernel_rfl
theorem cellsView : Try.prog.cellsOf 24 = 2 := by kernel_rfl
theorem bytesMember : Try.prog.bytesOf 38 = 16 := by kernel_rfl
theorem bytesInt : Try.prog.bytesOf 3 = 8 := by kernel_rfl
def In64 (a : Int) : Prop := -9223372036854775808 ≤ a ∧ a ≤ 9223372036854775807
theorem wf_in64 {a : Int} (h : (Lit.int .i64 a).wf = true) : In64 a := by
  simp [Lit.wf, IntKind.min, IntKind.max, IntKind.bits, IntKind.signed] at h
  unfold In64
  omega
def MB.ok (m : MB) : Prop := In64 m.node ∧ In64 m.life
theorem two_of {α : Type} (l : List α) (h : l.length = 2) : ∃ a b, l = [a, b] := by
  match l, h with
  | [a, b], _ => exact ⟨a, b, rfl⟩
theorem one_of {α : Type} (l : List α) (h : l.length = 1) : ∃ a, l = [a] := by
  match l, h with
  | [a], _ => exact ⟨a, rfl⟩
theorem addr_add (b off n : Nat) : (⟨b, off, none⟩ : Addr).add n = ⟨b, off + n, none⟩ := by
  unfold Addr.add
  split
  · rename_i h; subst h; rfl
  · rfl
/-- A member, read. -/
theorem mb_open {H : Type} {enc : TypeId × Value → H} {W : World} {n : Nat} {cs : List Value} {x : DataW H × List MemPlace} (h : DataW.trod enc Try.prog W 0 (fun _ => true) true n 38 cs = some x) :
    ∃ o : MB, o.ok ∧ cs = o.cells := by
  obtain ⟨xs, m, _, _, hl, hlen, hf⟩ := DataW.trod_struct Try.underlying38 h
  rw [cellsMember] at hl
  obtain ⟨v0, v1, rfl⟩ := two_of cs hl
  obtain ⟨x0, x1, rfl⟩ := two_of xs hlen
  have h0 : DataW.trod enc Try.prog W 0 (fun _ => true) true m 3 [v0] = some x0 := by
    have h : DataW.trod enc Try.prog W 0 (fun _ => true) true m 3 (([v0, v1].drop 0).take (Try.prog.cellsOf 3)) = some x0 := hf 0 _ rfl
    rw [cellsInt] at h
    exact h
  have h1 : DataW.trod enc Try.prog W 0 (fun _ => true) true m 3 [v1] = some x1 := by
    have h : DataW.trod enc Try.prog W 0 (fun _ => true) true m 3 (([v0, v1].drop 1).take (Try.prog.cellsOf 3)) = some x1 := hf 1 _ rfl
    rw [cellsInt] at h
    exact h
  obtain ⟨a0, e0, _, w0⟩ := DataW.trod_int Try.underlying3 h0
  obtain ⟨a1, e1, _, w1⟩ := DataW.trod_int Try.underlying3 h1
  cases e0
  cases e1
  exact ⟨⟨a0, a1⟩, ⟨wf_in64 w0, wf_in64 w1⟩, rfl⟩
/-- A row of members, read. -/
theorem mems_open {H : Type} {enc : TypeId × Value → H} {W : World} {n : Nat} {cs : List Value} {x : DataW H × List MemPlace} (h : DataW.trod enc Try.prog W 0 (fun _ => true) true n 22 cs = some x) (hw : ∀ k ∈ x.1.weights Try.prog 22, k ≤ reachBytes) :
    ∃ ao L cap, cs = [.slice ao (L : List MB).length cap] ∧ MemsAt W ao L ∧ (∀ m ∈ L, m.ok) ∧ L.length ≤ 140737488351232 := by
  rcases open_slice Try.underlying22 h with ⟨hcs, hx⟩ | ⟨a, len, c', m, n, D, Pl, hcs, _, hl, hm, hmm, hx, hel⟩
  · exact ⟨none, [], 0, hcs, fun i hi => by simp at hi, fun u hu => by simp at hu, Nat.zero_le _⟩
  · simp only [if_true] at hmm
    subst hmm
    rw [cellsMember] at hel
    have hsl := hw (((List.range len).map D).length + ((List.range (m - len)).map fun j => D (len + j)).length |> (· * 16)) (by
      rw [hx]
      unfold DataW.weights
      rw [Try.underlying22]
      show _ ∈ _ * Try.prog.bytesOf 38 :: _
      rw [bytesMember]
      exact List.mem_cons_self)
    simp only [List.length_map, List.length_range, reachBytes] at hsl
    have hch : ∀ i, i < len → ∃ y : MB, y.ok ∧ W.cells? 0 (a.add (i * 2)) 2 = some y.cells := by
      intro i hi
      obtain ⟨cs', h1, h2⟩ := hel i (by omega)
      obtain ⟨o, ho, rfl⟩ := mb_open h2
      exact ⟨o, ho, h1⟩
    obtain ⟨f, hfy⟩ := @choose_lt MB ⟨⟨0, 0⟩⟩ len (fun i y => y.ok ∧ W.cells? 0 (a.add (i * 2)) 2 = some y.cells) hch
    refine ⟨some a, (List.range len).map f, m, by simpa using hcs, ?_, ?_, ?_⟩
    · intro i hi
      have hi' : i < len := by simpa using hi
      obtain ⟨_, h1⟩ := hfy i hi'
      have hb := World.cells?_block h1 (by omega)
      obtain ⟨b, off, spot⟩ := a
      have hb' : b < W.heap.size := by
        have e : ((⟨b, off, spot⟩ : Addr).add (i * 2)).block = b := by unfold Addr.add; split <;> rfl
        rw [e] at hb; exact hb
      have hspot : spot = none := by
        obtain ⟨_, h0⟩ := hfy 0 (by omega)
        have h2 := (World.cells?_some h0).2.2 0 (by omega)
        have h3 : W.cell? (⟨b, off, spot⟩ : Addr) = some (.int .i64 (f 0).node) := h2
        exact World.cell?_spot h3
      subst hspot
      have h2 := (World.cells?_some h1).2.2
      rw [addr_add] at h2
      have e : ((List.range len).map f)[i] = f i := by simp
      have g0 := h2 0 (by omega)
      have g1 := h2 1 (by omega)
      rw [addr_add] at g0 g1
      refine ⟨b, off, rfl, hb', ?_, ?_⟩
      · rw [e]; simpa [MB.cells] using g0
      · rw [e]; simpa [MB.cells] using g1
    · intro x hx
      obtain ⟨i, hi, rfl⟩ := List.mem_map.1 hx
      exact (hfy i (List.mem_range.1 hi)).1
    · rw [List.length_map, List.length_range]
      omega
/-- A row of numbers, read. -/
theorem ints_open {H : Type} {enc : TypeId × Value → H} {W : World} {n : Nat} {cs : List Value} {x : DataW H × List MemPlace} (h : DataW.trod enc Try.prog W 0 (fun _ => true) true n 41 cs = some x) (hw : ∀ k ∈ x.1.weights Try.prog 41, k ≤ reachBytes) :
    ∃ ao L cap, cs = [.slice ao (L : List Int).length cap] ∧ IntsAt W ao L ∧ (∀ m ∈ L, In64 m) ∧ L.length ≤ 17592186043904 ∧ (ao = none → cap = 0) := by
  rcases open_slice1 Try.underlying41 cellsInt h with ⟨hcs, hx⟩ | ⟨a, len, c', m, n, V, D, Pl, hcs, _, hl, hm, hmm, hx, hel⟩
  · exact ⟨none, [], 0, hcs, fun i hi => by simp at hi, fun u hu => by simp at hu, Nat.zero_le _, fun _ => rfl⟩
  · simp only [if_true] at hmm
    subst hmm
    have hsl := hw (((List.range len).map D).length + ((List.range (m - len)).map fun j => D (len + j)).length |> (· * 8)) (by
      rw [hx]
      unfold DataW.weights
      rw [Try.underlying41]
      show _ ∈ _ * Try.prog.bytesOf 3 :: _
      rw [bytesInt]
      exact List.mem_cons_self)
    simp only [List.length_map, List.length_range, reachBytes] at hsl
    have hch : ∀ i, i < len → ∃ y : Int, In64 y ∧ W.cell? (a.add i) = some (.int .i64 y) := by
      intro i hi
      obtain ⟨h1, h2⟩ := hel i (by omega)
      obtain ⟨y, e, _, wy⟩ := DataW.trod_int Try.underlying3 h2
      have he : V i = .int .i64 y := by simpa using e
      exact ⟨y, wf_in64 wy, by rw [← he]; exact h1⟩
    obtain ⟨f, hfy⟩ := @choose_lt Int ⟨0⟩ len (fun i y => In64 y ∧ W.cell? (a.add i) = some (.int .i64 y)) hch
    refine ⟨some a, (List.range len).map f, m, by simpa using hcs, ?_, ?_, ?_, fun e => by cases e⟩
    · intro i hi
      have hi' : i < len := by simpa using hi
      obtain ⟨_, h1⟩ := hfy i hi'
      obtain ⟨b, off, spot⟩ := a
      have hspot : spot = none := by
        obtain ⟨_, h0⟩ := hfy 0 (by omega)
        have h3 : W.cell? (⟨b, off, spot⟩ : Addr) = some (.int .i64 (f 0)) := h0
        exact World.cell?_spot h3
      subst hspot
      rw [addr_add] at h1
      have e : ((List.range len).map f)[i] = f i := by simp
      refine ⟨b, off, rfl, ?_, ?_⟩
      · have h2 : W.cells? 0 (⟨b, off + i, none⟩ : Addr) 1 = some [.int .i64 (f i)] := cells?_one (Nat.zero_le _) h1
        exact World.cells?_block h2 (by omega)
      · rw [e]; exact h1
    · intro x hx
      obtain ⟨i, hi, rfl⟩ := List.mem_map.1 hx
      exact (hfy i (List.mem_range.1 hi)).1
    · rw [List.length_map, List.length_range]
      omega
/-- A view, read. -/
theorem view_open {H : Type} {enc : TypeId × Value → H} {W : World} {n : Nat} {cs : List Value} {x : DataW H × List MemPlace} (h : DataW.trod enc Try.prog W 0 (fun _ => true) true n 24 cs = some x) (hw : ∀ k ∈ x.1.weights Try.prog 24, k ≤ reachBytes) :
    ∃ ao cap, ∃ o : VW, cs = [.int .i64 o.num, .slice ao o.mem.length cap] ∧ In64 o.num ∧ MemsAt W ao o.mem ∧ (∀ m ∈ o.mem, m.ok) ∧ o.mem.length ≤ 140737488351232 := by
  obtain ⟨xs, m, _, hx, hl, hlen, hf⟩ := DataW.trod_struct Try.underlying24 h
  rw [cellsView] at hl
  obtain ⟨v0, v1, rfl⟩ := two_of cs hl
  obtain ⟨x0, x1, rfl⟩ := two_of xs hlen
  have h0 : DataW.trod enc Try.prog W 0 (fun _ => true) true m 3 [v0] = some x0 := by
    have h : DataW.trod enc Try.prog W 0 (fun _ => true) true m 3 (([v0, v1].drop 0).take (Try.prog.cellsOf 3)) = some x0 := hf 0 _ rfl
    rw [cellsInt] at h
    exact h
  have h1 : DataW.trod enc Try.prog W 0 (fun _ => true) true m 22 [v1] = some x1 := by
    have h : DataW.trod enc Try.prog W 0 (fun _ => true) true m 22 (([v0, v1].drop 1).take (Try.prog.cellsOf 22)) = some x1 := hf 1 _ rfl
    rw [cellsMembers] at h
    exact h
  obtain ⟨a0, e0, _, w0⟩ := DataW.trod_int Try.underlying3 h0
  obtain ⟨ao, L, cap, e1, hM, hok, hL⟩ := mems_open h1 (fun k hk => hw k (by
    rw [hx]
    show _ ∈ DataW.weights Try.prog 24 (.agg [x0.1, x1.1])
    unfold DataW.weights
    rw [Try.underlying24]
    exact DataW.weights_mem_each (j := 1) (t := 22) (d := x1.1) rfl rfl k hk))
  cases e0
  cases e1
  exact ⟨ao, cap, ⟨a0, L⟩, rfl, wf_in64 w0, hM, hok, hL⟩
theorem weights_of {H : Type} {d : DataW H} {t : TypeId} {ts : List TypeId} {ds : List (DataW H)} {j : Nat} (hsz : (DataW.weightsEach Try.prog ts ds).all (· ≤ reachBytes) = true) (ht : ts[j]? = some t) (hd : ds[j]? = some d) : ∀ k ∈ d.weights Try.prog t, k ≤ reachBytes :=
  fun k hk => of_decide_eq_true (List.all_eq_true.1 hsz k (DataW.weights_mem_each (P := Try.prog) ht hd k hk))
set_option maxRecDepth 100000 in
theorem mb_param {H : Type} {enc : TypeId × Value → H} {W : World} {r : Reach} {b0 : Nat} {v : Value} {d : DataW H} {p : List MemPlace} (hv : Value.okWide Try.prog W r b0 38 v) (h : DataW.Trod enc Try.prog W 0 (fun _ => true) true 38 v d p) :
    ∃ x : MB, v = x.v ∧ x.ok := by
  obtain ⟨cs, rfl, _⟩ := okWide_struct Try.underlying38 hv
  obtain ⟨fuel, hf⟩ := h
  obtain ⟨x, hx, e⟩ := mb_open hf
  refine ⟨x, ?_, hx⟩
  simp only [Value.cells] at e
  exact congrArg Value.agg (by cases cs; simp only [MB.cells] at e; simp_all)
set_option maxRecDepth 100000 in
theorem view_param {H : Type} {enc : TypeId × Value → H} {W : World} {r : Reach} {b0 : Nat} {v : Value} {d : DataW H} {p : List MemPlace} (hv : Value.okWide Try.prog W r b0 24 v) (h : DataW.Trod enc Try.prog W 0 (fun _ => true) true 24 v d p) {ts : List TypeId} {ds : List (DataW H)} {j : Nat} (hsz : (DataW.weightsEach Try.prog ts ds).all (· ≤ reachBytes) = true) (ht : ts[j]? = some 24) (hd : ds[j]? = some d) :
    ∃ ao cap, ∃ x : VW, v = x.v ao cap ∧ In64 x.num ∧ MemsAt W ao x.mem ∧ (∀ m ∈ x.mem, m.ok) ∧ x.mem.length ≤ 140737488351232 := by
  obtain ⟨cs, rfl, _⟩ := okWide_struct Try.underlying24 hv
  obtain ⟨fuel, hf⟩ := h
  obtain ⟨ao, cap, x, e, hx⟩ := view_open hf (weights_of hsz ht hd)
  refine ⟨ao, cap, x, ?_, hx⟩
  simp only [Value.cells] at e
  exact congrArg Value.agg (by cases cs; simp_all)
set_option maxRecDepth 100000 in
theorem mems_param {H : Type} {enc : TypeId × Value → H} {W : World} {r : Reach} {b0 : Nat} {v : Value} {d : DataW H} {p : List MemPlace} (hv : Value.okWide Try.prog W r b0 22 v) (h : DataW.Trod enc Try.prog W 0 (fun _ => true) true 22 v d p) {ts : List TypeId} {ds : List (DataW H)} {j : Nat} (hsz : (DataW.weightsEach Try.prog ts ds).all (· ≤ reachBytes) = true) (ht : ts[j]? = some 22) (hd : ds[j]? = some d) :
    ∃ ao cap, ∃ L : List MB, v = .slice ao L.length cap ∧ MemsAt W ao L ∧ (∀ m ∈ L, m.ok) ∧ L.length ≤ 140737488351232 := by
  obtain ⟨a, l, c, rfl⟩ := okWide_slice Try.underlying22 hv
  obtain ⟨fuel, hf⟩ := h
  obtain ⟨ao, L, cap, e, hx⟩ := mems_open hf (weights_of hsz ht hd)
  simp only [Value.cells, List.cons.injEq, and_true] at e
  exact ⟨ao, cap, L, e, hx⟩
set_option maxRecDepth 100000 in
theorem ints_param {H : Type} {enc : TypeId × Value → H} {W : World} {r : Reach} {b0 : Nat} {v : Value} {d : DataW H} {p : List MemPlace} (hv : Value.okWide Try.prog W r b0 41 v) (h : DataW.Trod enc Try.prog W 0 (fun _ => true) true 41 v d p) {ts : List TypeId} {ds : List (DataW H)} {j : Nat} (hsz : (DataW.weightsEach Try.prog ts ds).all (· ≤ reachBytes) = true) (ht : ts[j]? = some 41) (hd : ds[j]? = some d) :
    ∃ ao cap, ∃ L : List Int, v = .slice ao L.length cap ∧ IntsAt W ao L ∧ (∀ m ∈ L, In64 m) ∧ L.length ≤ 17592186043904 ∧ (ao = none → cap = 0) := by
  obtain ⟨a, l, c, rfl⟩ := okWide_slice Try.underlying41 hv
  obtain ⟨fuel, hf⟩ := h
  obtain ⟨ao, L, cap, e, hx⟩ := ints_open hf (weights_of hsz ht hd)
  simp only [Value.cells, List.cons.injEq, and_true] at e
  exact ⟨ao, cap, L, e, hx⟩
end Go.Proofs.Ytjnbfopipmglgaa
