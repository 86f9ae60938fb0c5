/-
  Asks that came in (mkak.py).
-/
import Derived.Test.YtpopamechapmmaaZKit
namespace Go.Proofs.Ytpopamechapmmaa
open Go.ChangeShapes Go.WideShapes Go.ChangeAt Go.RowKit Go.Deep

structure AK where
  b : BL
  take : Bool
  val : ByteArray
def AK.ok (o : AK) : Prop := o.val.size ≤ 140737488351232
theorem cellsAK : Try.prog.cellsOf 39 = 4 := by kernel_rfl
theorem bytesAK : Try.prog.bytesOf 39 = 40 := by kernel_rfl
structure AKAt (w : World) (b off : Nat) (o : AK) : Prop where
  c0 : w.cell? ⟨b, off, none⟩ = some (.int .i64 o.b.r)
  c1 : w.cell? ⟨b, off + 1, none⟩ = some (.int .i64 o.b.n)
  c2 : w.cell? ⟨b, off + 2, none⟩ = some (.bool o.take)
  c3 : w.cell? ⟨b, off + 3, none⟩ = some (.string o.val)
def AKsAt (w : World) (ao : Option Addr) (l : List AK) : Prop := ∀ i (hi : i < l.length), ∃ b off, ao = some ⟨b, off, none⟩ ∧ b < w.heap.size ∧ AKAt w b (off + i * 4) l[i]
structure AKs (w : World) (ao : Option Addr) (l : List AK) : Prop where
  all : AKsAt w ao l
  ok : ∀ o ∈ l, o.ok
  len : l.length ≤ 4611686018427387904
theorem AKsAt.below {w w1 : World} {ao : Option Addr} {l : List AK} (h : AKsAt w ao l) (hb : RowKit.Below w.heap.size w w1) : AKsAt w1 ao l := fun i hi => by
  obtain ⟨b, off, h1, h2, h3⟩ := h i hi
  exact ⟨b, off, h1, Nat.lt_of_lt_of_le h2 hb.size, (hb.cell (p := ⟨b, _, none⟩) h2).trans h3.c0, (hb.cell (p := ⟨b, _, none⟩) h2).trans h3.c1, (hb.cell (p := ⟨b, _, none⟩) h2).trans h3.c2, (hb.cell (p := ⟨b, _, none⟩) h2).trans h3.c3⟩
theorem of4 {α : Type} (l : List α) (h : l.length = 4) : ∃ y0 y1 y2 y3, l = [y0, y1, y2, y3] := by
  match l, h with
  | [y0, y1, y2, y3], _ => exact ⟨y0, y1, y2, y3, rfl⟩
theorem of3 {α : Type} (l : List α) (h : l.length = 3) : ∃ y0 y1 y2, l = [y0, y1, y2] := by
  match l, h with
  | [y0, y1, y2], _ => exact ⟨y0, y1, y2, rfl⟩
theorem addr_add (b off n : Nat) : (⟨b, off, none⟩ : Addr).add n = ⟨b, off + n, none⟩ := by
  unfold Addr.add
  split
  · rename_i h; subst h; rfl
  · rfl
theorem weightsAll_in {H : Type} {P : Program} {e : TypeId} : ∀ {l : List (DataW H)} {d : DataW H}, d ∈ l → ∀ n ∈ d.weights P e, n ∈ DataW.weightsAll P e l
  | x :: r, d, hd, n, hn => by
    unfold DataW.weightsAll
    rcases List.mem_cons.1 hd with rfl | hd
    · exact List.mem_append_left _ hn
    · exact List.mem_append_right _ (weightsAll_in hd n hn)
theorem ak_open {H : Type} {enc : TypeId × Value → H} {W : World} {n : Nat} {cs : List Value} {x : DataW H × List MemPlace} (h : DataW.trod enc Try.prog W 0 (fun _ => true) true n 39 cs = some x) (hw : ∀ k ∈ x.1.weights Try.prog 39, k ≤ reachBytes) :
    ∃ o : AK, o.ok ∧ cs = [.int .i64 o.b.r, .int .i64 o.b.n, .bool o.take, .string o.val] := by
  obtain ⟨xs, m, _, hx, hl, hlen, hf⟩ := DataW.trod_struct Try.underlying39 h
  rw [cellsAK] at hl
  obtain ⟨v0, v1, v2, v3, rfl⟩ := of4 cs hl
  obtain ⟨x0, x1, x2, rfl⟩ := of3 xs hlen
  have h0 : DataW.trod enc Try.prog W 0 (fun _ => true) true m 23 [v0, v1] = some x0 := by
    have h : DataW.trod enc Try.prog W 0 (fun _ => true) true m 23 (([v0, v1, v2, v3].drop 0).take (Try.prog.cellsOf 23)) = some x0 := hf 0 _ rfl
    rw [show Try.prog.cellsOf 23 = 2 by kernel_rfl] at h
    exact h
  obtain ⟨a0, e0⟩ := bal_open h0
  have h1 : DataW.trod enc Try.prog W 0 (fun _ => true) true m 4 [v2] = some x1 := by
    have h : DataW.trod enc Try.prog W 0 (fun _ => true) true m 4 (([v0, v1, v2, v3].drop 2).take (Try.prog.cellsOf 4)) = some x1 := hf 1 _ rfl
    rw [show Try.prog.cellsOf 4 = 1 by kernel_rfl] at h
    exact h
  obtain ⟨a1, e1, _⟩ := DataW.trod_bool Try.underlying4 h1
  have h2 : DataW.trod enc Try.prog W 0 (fun _ => true) true m 9 [v3] = some x2 := by
    have h : DataW.trod enc Try.prog W 0 (fun _ => true) true m 9 (([v0, v1, v2, v3].drop 3).take (Try.prog.cellsOf 9)) = some x2 := hf 2 _ rfl
    rw [show Try.prog.cellsOf 9 = 1 by kernel_rfl] at h
    exact h
  obtain ⟨a2, e2, d2, _⟩ := DataW.trod_string Try.underlying9 h2
  have z2 : a2.size ≤ 140737488351232 := by
    have hk := hw a2.data.toList.length (by
      rw [hx]
      show _ ∈ DataW.weights Try.prog 39 (.agg [x0.1, x1.1, x2.1])
      unfold DataW.weights
      rw [Try.underlying39]
      refine DataW.weights_mem_each (j := 2) (t := 9) (d := x2.1) rfl rfl _ ?_
      rw [d2]
      simp [DataW.weights])
    rw [show a2.data.toList.length = a2.size by simp] at hk
    simp only [reachBytes] at hk
    omega
  cases e0
  cases e1
  cases e2
  exact ⟨⟨a0, a1, a2⟩, z2, rfl⟩
theorem aks_open {H : Type} {enc : TypeId × Value → H} {W : World} {a0 : Option Addr} {len cap : Nat} {d : DataW H} {p : List MemPlace} (h : DataW.Trod enc Try.prog W 0 (fun _ => true) true 37 (.slice a0 len cap) d p) {ts : List TypeId} {ds : List (DataW H)} {j : Nat} (hsz : (DataW.weightsEach Try.prog ts ds).all (· ≤ reachBytes) = true) (ht : ts[j]? = some 37) (hd : ds[j]? = some d) :
    ∃ us : List AK, len = us.length ∧ AKs W a0 us := by
  obtain ⟨fuel, hf⟩ := h
  rcases open_slice Try.underlying37 hf with ⟨hcs, hx⟩ | ⟨a, l', c', m, n, D, Pl, hcs, _, hl, hm, hmm, hx, hel⟩
  · simp [Value.cells] at hcs
    obtain ⟨rfl, rfl, rfl⟩ := hcs
    exact ⟨[], rfl, fun i hi => by simp at hi, fun u hu => by simp at hu, Nat.zero_le _⟩
  · simp [Value.cells] at hcs
    obtain ⟨rfl, rfl, rfl⟩ := hcs
    simp only [if_true] at hmm
    subst hmm
    rw [cellsAK] at hel
    have hdd : d = .slice ((List.range len).map D) ((List.range (m - len)).map fun j => D (len + j)) := congrArg Prod.fst hx
    subst hdd
    have hsl := sized_slice hsz ht hd Try.underlying37
    rw [bytesAK, List.length_map, List.length_range] at hsl
    simp only [reachBytes] at hsl
    have hwt : ∀ i, i < len → ∀ k ∈ (D i).weights Try.prog 39, k ≤ reachBytes := by
      intro i hi k hk
      have h1 := DataW.weights_mem_each (P := Try.prog) ht hd k (by
        unfold DataW.weights
        rw [Try.underlying37]
        exact List.mem_cons_of_mem _ (List.mem_append_left _ (weightsAll_in (List.mem_map.2 ⟨i, List.mem_range.2 hi, rfl⟩) k hk)))
      exact of_decide_eq_true (List.all_eq_true.1 hsz k h1)
    have hch : ∀ i, i < len → ∃ y : AK, y.ok ∧ W.cells? 0 (a.add (i * 4)) 4 = some [.int .i64 y.b.r, .int .i64 y.b.n, .bool y.take, .string y.val] := by
      intro i hi
      obtain ⟨cs', h1, h2⟩ := hel i (by omega)
      obtain ⟨o, ho, rfl⟩ := ak_open h2 (hwt i hi)
      exact ⟨o, ho, h1⟩
    obtain ⟨f, hfy⟩ := @choose_lt AK ⟨⟨⟨0, 0⟩, false, .empty⟩⟩ len (fun i y => y.ok ∧ W.cells? 0 (a.add (i * 4)) 4 = some [.int .i64 y.b.r, .int .i64 y.b.n, .bool y.take, .string y.val]) hch
    refine ⟨(List.range len).map f, by simp, ?_, ?_, ?_⟩
    · intro i hi
      have hi' : i < len := by simpa using hi
      obtain ⟨_, h1⟩ := hfy i hi'
      have hb := World.cells?_block h1 (by omega)
      obtain ⟨b, off, spot⟩ := a
      have hb' : b < W.heap.size := by
        have e : ((⟨b, off, spot⟩ : Addr).add (i * 4)).block = b := by unfold Addr.add; split <;> rfl
        rw [e] at hb; exact hb
      have hspot : spot = none := by
        obtain ⟨_, h0⟩ := hfy 0 (by omega)
        have h2 := (World.cells?_some h0).2.2 0 (by omega)
        have h3 : W.cell? (⟨b, off, spot⟩ : Addr) = some (.int .i64 (f 0).b.r) := h2
        exact World.cell?_spot h3
      subst hspot
      have h2 := (World.cells?_some h1).2.2
      rw [addr_add] at h2
      have g0 := h2 0 (by omega)
      have g1 := h2 1 (by omega)
      have g2 := h2 2 (by omega)
      have g3 := h2 3 (by omega)
      rw [addr_add] at g0 g1 g2 g3
      have e : ((List.range len).map f)[i] = f i := by simp
      refine ⟨b, off, rfl, hb', ?_⟩
      rw [e]
      exact ⟨by simpa using g0, by simpa using g1, by simpa using g2, by simpa using g3⟩
    · intro x hx
      obtain ⟨i, hi, rfl⟩ := List.mem_map.1 hx
      exact (hfy i (List.mem_range.1 hi)).1
    · rw [List.length_map, List.length_range]
      omega
end Go.Proofs.Ytpopamechapmmaa
