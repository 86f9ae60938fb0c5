/-
  Deeds and rows of numbers that came in (mktk.py).
-/
import Derived.Test.YtmkkcgkakomacaaGreatRows
import Derived.Test.YtmkkcgkakomacaaGreatZM0
import Derived.ProofKit
import Derived.OpenShut
import Derived.ShutString
import Derived.ChangeOld
import Derived.SizedLaws
import Derived.Deep.Slices
import Derived.Deep.Strs
namespace Go.Proofs.YtmkkcgkakomacaaGreat
open Go.ChangeShapes Go.WideShapes Go.ChangeAt Go.RowKit Go.Deep Go.Maps
theorem wf_in64 {a : Int} (h : (Lit.int .i64 a).wf = true) : -9223372036854775808 ≤ a ∧ a ≤ 9223372036854775807 := by
  simp [Lit.wf, IntKind.min, IntKind.max, IntKind.bits, IntKind.signed] at h
  omega
theorem laidOut : laidOutB Tryz.prog = true := by kernel_rfl
theorem own : ownKnob Tryz.prog.godebug = none := by kernel_rfl
structure DE where
  kind : Int
  prod : ByteArray
  seq : Int
  key : ByteArray
  val : ByteArray
  n : Int
  most : Int
def i64Ok (a : Int) : Prop := -9223372036854775808 ≤ a ∧ a ≤ 9223372036854775807
def DE.ok (o : DE) : Prop := i64Ok o.kind ∧ o.prod.size ≤ 140737488351232 ∧ i64Ok o.seq ∧ o.key.size ≤ 140737488351232 ∧ o.val.size ≤ 140737488351232 ∧ i64Ok o.n ∧ i64Ok o.most
theorem cellsDE : Tryz.prog.cellsOf 31 = 7 := by kernel_rfl
theorem bytesDE : Tryz.prog.bytesOf 31 = 80 := by kernel_rfl
structure DEAt (w : World) (b off : Nat) (o : DE) : Prop where
  c0 : w.cell? ⟨b, off, none⟩ = some (.int .i64 o.kind)
  c1 : w.cell? ⟨b, off + 1, none⟩ = some (.string o.prod)
  c2 : w.cell? ⟨b, off + 2, none⟩ = some (.int .i64 o.seq)
  c3 : w.cell? ⟨b, off + 3, none⟩ = some (.string o.key)
  c4 : w.cell? ⟨b, off + 4, none⟩ = some (.string o.val)
  c5 : w.cell? ⟨b, off + 5, none⟩ = some (.int .i64 o.n)
  c6 : w.cell? ⟨b, off + 6, none⟩ = some (.int .i64 o.most)
def DEsAt (w : World) (ao : Option Addr) (l : List DE) : Prop := ∀ i (hi : i < l.length), ∃ b off, ao = some ⟨b, off, none⟩ ∧ b < w.heap.size ∧ DEAt w b (off + i * 7) l[i]
structure DEs (w : World) (ao : Option Addr) (l : List DE) : Prop where
  all : DEsAt w ao l
  ok : ∀ o ∈ l, o.ok
  len : l.length ≤ 4611686018427387904
theorem DEsAt.below {w w1 : World} {ao : Option Addr} {l : List DE} (h : DEsAt w ao l) (hb : RowKit.Below w.heap.size w w1) : DEsAt w1 ao l := fun i hi => by
  obtain ⟨b, off, h1, h2, h3⟩ := h i hi
  exact ⟨b, off, h1, Nat.lt_of_lt_of_le h2 hb.size, (hb.cell (p := ⟨b, _, none⟩) h2).trans h3.c0, (hb.cell (p := ⟨b, _, none⟩) h2).trans h3.c1, (hb.cell (p := ⟨b, _, none⟩) h2).trans h3.c2, (hb.cell (p := ⟨b, _, none⟩) h2).trans h3.c3, (hb.cell (p := ⟨b, _, none⟩) h2).trans h3.c4, (hb.cell (p := ⟨b, _, none⟩) h2).trans h3.c5, (hb.cell (p := ⟨b, _, none⟩) h2).trans h3.c6⟩
theorem of7 {α : Type} (l : List α) (h : l.length = 7) : ∃ y0 y1 y2 y3 y4 y5 y6, l = [y0, y1, y2, y3, y4, y5, y6] := by
  match l, h with
  | [y0, y1, y2, y3, y4, y5, y6], _ => exact ⟨y0, y1, y2, y3, y4, y5, y6, rfl⟩
theorem addr_add (b off n : Nat) : (⟨b, off, none⟩ : Addr).add n = ⟨b, off + n, none⟩ := by
  unfold Addr.add
  split
  · rename_i h; subst h; rfl
  · rfl
theorem weightsAll_in {H : Type} {P : Program} {e : TypeId} : ∀ {l : List (DataW H)} {d : DataW H}, d ∈ l → ∀ n ∈ d.weights P e, n ∈ DataW.weightsAll P e l
  | x :: r, d, hd, n, hn => by
    unfold DataW.weightsAll
    rcases List.mem_cons.1 hd with rfl | hd
    · exact List.mem_append_left _ hn
    · exact List.mem_append_right _ (weightsAll_in hd n hn)
theorem de_open {H : Type} {enc : TypeId × Value → H} {W : World} {n : Nat} {cs : List Value} {x : DataW H × List MemPlace} (h : DataW.trod enc Tryz.prog W 0 (fun _ => true) true n 31 cs = some x) (hw : ∀ k ∈ x.1.weights Tryz.prog 31, k ≤ reachBytes) :
    ∃ o : DE, o.ok ∧ cs = [.int .i64 o.kind, .string o.prod, .int .i64 o.seq, .string o.key, .string o.val, .int .i64 o.n, .int .i64 o.most] := by
  obtain ⟨xs, m, _, hx, hl, hlen, hf⟩ := DataW.trod_struct Tryz.underlying31 h
  rw [cellsDE] at hl
  obtain ⟨v0, v1, v2, v3, v4, v5, v6, rfl⟩ := of7 cs hl
  obtain ⟨x0, x1, x2, x3, x4, x5, x6, rfl⟩ := of7 xs hlen
  have h0 : DataW.trod enc Tryz.prog W 0 (fun _ => true) true m 3 [v0] = some x0 := by
    have h : DataW.trod enc Tryz.prog W 0 (fun _ => true) true m 3 (([v0, v1, v2, v3, v4, v5, v6].drop 0).take (Tryz.prog.cellsOf 3)) = some x0 := hf 0 _ rfl
    rw [show Tryz.prog.cellsOf 3 = 1 by kernel_rfl] at h
    exact h
  obtain ⟨a0, e0, _, w0⟩ := DataW.trod_int Tryz.underlying3 h0
  have h1 : DataW.trod enc Tryz.prog W 0 (fun _ => true) true m 9 [v1] = some x1 := by
    have h : DataW.trod enc Tryz.prog W 0 (fun _ => true) true m 9 (([v0, v1, v2, v3, v4, v5, v6].drop 1).take (Tryz.prog.cellsOf 9)) = some x1 := hf 1 _ rfl
    rw [show Tryz.prog.cellsOf 9 = 1 by kernel_rfl] at h
    exact h
  obtain ⟨a1, e1, d1, _⟩ := DataW.trod_string Tryz.underlying9 h1
  have z1 : a1.size ≤ 140737488351232 := by
    have hk := hw a1.data.toList.length (by
      rw [hx]
      show _ ∈ DataW.weights Tryz.prog 31 (.agg [x0.1, x1.1, x2.1, x3.1, x4.1, x5.1, x6.1])
      unfold DataW.weights
      rw [Tryz.underlying31]
      refine DataW.weights_mem_each (j := 1) (t := 9) (d := x1.1) rfl rfl _ ?_
      rw [d1]
      simp [DataW.weights])
    rw [show a1.data.toList.length = a1.size by simp] at hk
    simp only [reachBytes] at hk
    omega
  have h2 : DataW.trod enc Tryz.prog W 0 (fun _ => true) true m 3 [v2] = some x2 := by
    have h : DataW.trod enc Tryz.prog W 0 (fun _ => true) true m 3 (([v0, v1, v2, v3, v4, v5, v6].drop 2).take (Tryz.prog.cellsOf 3)) = some x2 := hf 2 _ rfl
    rw [show Tryz.prog.cellsOf 3 = 1 by kernel_rfl] at h
    exact h
  obtain ⟨a2, e2, _, w2⟩ := DataW.trod_int Tryz.underlying3 h2
  have h3 : DataW.trod enc Tryz.prog W 0 (fun _ => true) true m 9 [v3] = some x3 := by
    have h : DataW.trod enc Tryz.prog W 0 (fun _ => true) true m 9 (([v0, v1, v2, v3, v4, v5, v6].drop 3).take (Tryz.prog.cellsOf 9)) = some x3 := hf 3 _ rfl
    rw [show Tryz.prog.cellsOf 9 = 1 by kernel_rfl] at h
    exact h
  obtain ⟨a3, e3, d3, _⟩ := DataW.trod_string Tryz.underlying9 h3
  have z3 : a3.size ≤ 140737488351232 := by
    have hk := hw a3.data.toList.length (by
      rw [hx]
      show _ ∈ DataW.weights Tryz.prog 31 (.agg [x0.1, x1.1, x2.1, x3.1, x4.1, x5.1, x6.1])
      unfold DataW.weights
      rw [Tryz.underlying31]
      refine DataW.weights_mem_each (j := 3) (t := 9) (d := x3.1) rfl rfl _ ?_
      rw [d3]
      simp [DataW.weights])
    rw [show a3.data.toList.length = a3.size by simp] at hk
    simp only [reachBytes] at hk
    omega
  have h4 : DataW.trod enc Tryz.prog W 0 (fun _ => true) true m 9 [v4] = some x4 := by
    have h : DataW.trod enc Tryz.prog W 0 (fun _ => true) true m 9 (([v0, v1, v2, v3, v4, v5, v6].drop 4).take (Tryz.prog.cellsOf 9)) = some x4 := hf 4 _ rfl
    rw [show Tryz.prog.cellsOf 9 = 1 by kernel_rfl] at h
    exact h
  obtain ⟨a4, e4, d4, _⟩ := DataW.trod_string Tryz.underlying9 h4
  have z4 : a4.size ≤ 140737488351232 := by
    have hk := hw a4.data.toList.length (by
      rw [hx]
      show _ ∈ DataW.weights Tryz.prog 31 (.agg [x0.1, x1.1, x2.1, x3.1, x4.1, x5.1, x6.1])
      unfold DataW.weights
      rw [Tryz.underlying31]
      refine DataW.weights_mem_each (j := 4) (t := 9) (d := x4.1) rfl rfl _ ?_
      rw [d4]
      simp [DataW.weights])
    rw [show a4.data.toList.length = a4.size by simp] at hk
    simp only [reachBytes] at hk
    omega
  have h5 : DataW.trod enc Tryz.prog W 0 (fun _ => true) true m 3 [v5] = some x5 := by
    have h : DataW.trod enc Tryz.prog W 0 (fun _ => true) true m 3 (([v0, v1, v2, v3, v4, v5, v6].drop 5).take (Tryz.prog.cellsOf 3)) = some x5 := hf 5 _ rfl
    rw [show Tryz.prog.cellsOf 3 = 1 by kernel_rfl] at h
    exact h
  obtain ⟨a5, e5, _, w5⟩ := DataW.trod_int Tryz.underlying3 h5
  have h6 : DataW.trod enc Tryz.prog W 0 (fun _ => true) true m 3 [v6] = some x6 := by
    have h : DataW.trod enc Tryz.prog W 0 (fun _ => true) true m 3 (([v0, v1, v2, v3, v4, v5, v6].drop 6).take (Tryz.prog.cellsOf 3)) = some x6 := hf 6 _ rfl
    rw [show Tryz.prog.cellsOf 3 = 1 by kernel_rfl] at h
    exact h
  obtain ⟨a6, e6, _, w6⟩ := DataW.trod_int Tryz.underlying3 h6
  cases e0
  cases e1
  cases e2
  cases e3
  cases e4
  cases e5
  cases e6
  exact ⟨⟨a0, a1, a2, a3, a4, a5, a6⟩, ⟨wf_in64 w0, z1, wf_in64 w2, z3, z4, wf_in64 w5, wf_in64 w6⟩, rfl⟩
theorem des_open {H : Type} {enc : TypeId × Value → H} {W : World} {a0 : Option Addr} {len cap : Nat} {d : DataW H} {p : List MemPlace} (h : DataW.Trod enc Tryz.prog W 0 (fun _ => true) true 22 (.slice a0 len cap) d p) {ts : List TypeId} {ds : List (DataW H)} {j : Nat} (hsz : (DataW.weightsEach Tryz.prog ts ds).all (· ≤ reachBytes) = true) (ht : ts[j]? = some 22) (hd : ds[j]? = some d) :
    ∃ us : List DE, len = us.length ∧ DEs W a0 us := by
  obtain ⟨fuel, hf⟩ := h
  rcases open_slice Tryz.underlying22 hf with ⟨hcs, hx⟩ | ⟨a, l', c', m, n, D, Pl, hcs, _, hl, hm, hmm, hx, hel⟩
  · simp [Value.cells] at hcs
    obtain ⟨rfl, rfl, rfl⟩ := hcs
    exact ⟨[], rfl, fun i hi => by simp at hi, fun u hu => by simp at hu, Nat.zero_le _⟩
  · simp [Value.cells] at hcs
    obtain ⟨rfl, rfl, rfl⟩ := hcs
    simp only [if_true] at hmm
    subst hmm
    rw [cellsDE] at hel
    have hdd : d = .slice ((List.range len).map D) ((List.range (m - len)).map fun j => D (len + j)) := congrArg Prod.fst hx
    subst hdd
    have hsl := sized_slice hsz ht hd Tryz.underlying22
    rw [bytesDE, List.length_map, List.length_range] at hsl
    simp only [reachBytes] at hsl
    have hwt : ∀ i, i < len → ∀ k ∈ (D i).weights Tryz.prog 31, k ≤ reachBytes := by
      intro i hi k hk
      have h1 := DataW.weights_mem_each (P := Tryz.prog) ht hd k (by
        unfold DataW.weights
        rw [Tryz.underlying22]
        exact List.mem_cons_of_mem _ (List.mem_append_left _ (weightsAll_in (List.mem_map.2 ⟨i, List.mem_range.2 hi, rfl⟩) k hk)))
      exact of_decide_eq_true (List.all_eq_true.1 hsz k h1)
    have hch : ∀ i, i < len → ∃ y : DE, y.ok ∧ W.cells? 0 (a.add (i * 7)) 7 = some [.int .i64 y.kind, .string y.prod, .int .i64 y.seq, .string y.key, .string y.val, .int .i64 y.n, .int .i64 y.most] := by
      intro i hi
      obtain ⟨cs', h1, h2⟩ := hel i (by omega)
      obtain ⟨o, ho, rfl⟩ := de_open h2 (hwt i hi)
      exact ⟨o, ho, h1⟩
    obtain ⟨f, hfy⟩ := @choose_lt DE ⟨⟨0, .empty, 0, .empty, .empty, 0, 0⟩⟩ len (fun i y => y.ok ∧ W.cells? 0 (a.add (i * 7)) 7 = some [.int .i64 y.kind, .string y.prod, .int .i64 y.seq, .string y.key, .string y.val, .int .i64 y.n, .int .i64 y.most]) hch
    refine ⟨(List.range len).map f, by simp, ?_, ?_, ?_⟩
    · intro i hi
      have hi' : i < len := by simpa using hi
      obtain ⟨_, h1⟩ := hfy i hi'
      have hb := World.cells?_block h1 (by omega)
      obtain ⟨b, off, spot⟩ := a
      have hb' : b < W.heap.size := by
        have e : ((⟨b, off, spot⟩ : Addr).add (i * 7)).block = b := by unfold Addr.add; split <;> rfl
        rw [e] at hb; exact hb
      have hspot : spot = none := by
        obtain ⟨_, h0⟩ := hfy 0 (by omega)
        have h2 := (World.cells?_some h0).2.2 0 (by omega)
        have h3 : W.cell? (⟨b, off, spot⟩ : Addr) = some (.int .i64 (f 0).kind) := h2
        exact World.cell?_spot h3
      subst hspot
      have h2 := (World.cells?_some h1).2.2
      rw [addr_add] at h2
      have g0 := h2 0 (by omega)
      have g1 := h2 1 (by omega)
      have g2 := h2 2 (by omega)
      have g3 := h2 3 (by omega)
      have g4 := h2 4 (by omega)
      have g5 := h2 5 (by omega)
      have g6 := h2 6 (by omega)
      rw [addr_add] at g0 g1 g2 g3 g4 g5 g6
      have e : ((List.range len).map f)[i] = f i := by simp
      refine ⟨b, off, rfl, hb', ?_⟩
      rw [e]
      exact ⟨by simpa using g0, by simpa using g1, by simpa using g2, by simpa using g3, by simpa using g4, by simpa using g5, by simpa using g6⟩
    · intro x hx
      obtain ⟨i, hi, rfl⟩ := List.mem_map.1 hx
      exact (hfy i (List.mem_range.1 hi)).1
    · rw [List.length_map, List.length_range]
      omega
end Go.Proofs.YtmkkcgkakomacaaGreat
