/-
  Deeds that came in, with the numbers that they hold.
-/
import Derived.Test.YtknldpaaikcedaaGreatRows
import Derived.Test.YtknldpaaikcedaaGreatZGF
import Derived.ProofKit
import Derived.OpenShut
import Derived.ShutString
import Derived.ChangeOld
import Derived.SizedLaws
import Derived.Deep.Slices
import Derived.Deep.Strs
namespace Go.Proofs.YtknldpaaikcedaaGreat
open Go.ChangeShapes Go.WideShapes Go.ChangeAt Go.RowKit Go.Deep

theorem own : ownKnob Tryz.prog.godebug = none := by kernel_rfl
theorem laidOut : laidOutB Tryz.prog = true := by kernel_rfl
theorem vbytesInt : Tryz.prog.bytesOf 3 = 8 := by kernel_rfl
theorem vcellsInt : Tryz.prog.cellsOf 3 = 1 := by kernel_rfl
theorem vcellsDeed : Tryz.prog.cellsOf 32 = 5 := by kernel_rfl
theorem vbytesDeed : Tryz.prog.bytesOf 32 = 72 := by kernel_rfl
theorem vcellsString : Tryz.prog.cellsOf 9 = 1 := by kernel_rfl
theorem vcellsInts : Tryz.prog.cellsOf 30 = 1 := by kernel_rfl
theorem vfive_of {α : Type} (l : List α) (h : l.length = 5) : ∃ a b c d e, l = [a, b, c, d, e] := by
  match l, h with
  | [a, b, c, d, e], _ => exact ⟨a, b, c, d, e, rfl⟩
theorem vaddr_add (b off n : Nat) : (⟨b, off, none⟩ : Addr).add n = ⟨b, off + n, none⟩ := by
  unfold Addr.add
  split
  · rename_i h; subst h; rfl
  · rfl
/-- A deed, and the numbers that it holds. -/
structure Zd where
  kind : Int
  a : ByteArray
  b : ByteArray
  n : Int
  ko : Option Addr
  us : List Int
  kc : Nat
def Zd.cells (o : Zd) : List Value := [.int .i64 o.kind, .string o.a, .string o.b, .int .i64 o.n, .slice o.ko o.us.length o.kc]
structure Zd.ok (W : World) (o : Zd) : Prop where
  kind : -9223372036854775808 ≤ o.kind ∧ o.kind ≤ 9223372036854775807
  a : o.a.size ≤ 1125899906842624
  b : o.b.size ≤ 1125899906842624
  n : -9223372036854775808 ≤ o.n ∧ o.n ≤ 9223372036854775807
  nums : NumsAt W o.ko o.us
  old : o.us ≠ [] → ∀ kb off, o.ko = some ⟨kb, off, none⟩ → kb < W.heap.size
  ints : ∀ u ∈ o.us, -9223372036854775808 ≤ u ∧ u ≤ 9223372036854775807
  len : o.us.length ≤ 17592186044416
  nil : o.ko = none → o.kc = 0 ∧ o.us = []
def ZdsAt (w : World) (ao : Option Addr) (l : List Zd) : Prop := ∀ i (hi : i < l.length), ∃ b off, ao = some ⟨b, off, none⟩ ∧ b < w.heap.size ∧ ∀ j, j < 5 → w.cell? ⟨b, off + i * 5 + j, none⟩ = l[i].cells[j]?
structure Zds (w : World) (ao : Option Addr) (l : List Zd) : Prop where
  all : ZdsAt w ao l
  ok : ∀ o ∈ l, o.ok w
  len : l.length ≤ 4611686018427387904
/-- One deed, read. -/
theorem zdeed_open {H : Type} {enc : TypeId × Value → H} {W : World} {n : Nat} {cs : List Value} {x : DataW H × List MemPlace} (h : DataW.trod enc Tryz.prog W 0 (fun _ => true) true n 32 cs = some x) (hw : ∀ k ∈ x.1.weights Tryz.prog 32, k ≤ reachBytes) :
    ∃ o : Zd, o.ok W ∧ cs = o.cells := by
  obtain ⟨xs, m, _, hx, hl, hlen, hf⟩ := DataW.trod_struct Tryz.underlying32 h
  rw [vcellsDeed] at hl
  obtain ⟨v0, v1, v2, v3, v4, rfl⟩ := vfive_of cs hl
  obtain ⟨x0, x1, x2, x3, x4, rfl⟩ := vfive_of xs hlen
  have h0 : DataW.trod enc Tryz.prog W 0 (fun _ => true) true m 3 [v0] = some x0 := by
    have h : DataW.trod enc Tryz.prog W 0 (fun _ => true) true m 3 (([v0, v1, v2, v3, v4].drop 0).take (Tryz.prog.cellsOf 3)) = some x0 := hf 0 _ rfl
    rw [vcellsInt] at h
    exact h
  have h1 : DataW.trod enc Tryz.prog W 0 (fun _ => true) true m 9 [v1] = some x1 := by
    have h : DataW.trod enc Tryz.prog W 0 (fun _ => true) true m 9 (([v0, v1, v2, v3, v4].drop 1).take (Tryz.prog.cellsOf 9)) = some x1 := hf 1 _ rfl
    rw [vcellsString] at h
    exact h
  have h2 : DataW.trod enc Tryz.prog W 0 (fun _ => true) true m 9 [v2] = some x2 := by
    have h : DataW.trod enc Tryz.prog W 0 (fun _ => true) true m 9 (([v0, v1, v2, v3, v4].drop 2).take (Tryz.prog.cellsOf 9)) = some x2 := hf 2 _ rfl
    rw [vcellsString] at h
    exact h
  have h3 : DataW.trod enc Tryz.prog W 0 (fun _ => true) true m 3 [v3] = some x3 := by
    have h : DataW.trod enc Tryz.prog W 0 (fun _ => true) true m 3 (([v0, v1, v2, v3, v4].drop 3).take (Tryz.prog.cellsOf 3)) = some x3 := hf 3 _ rfl
    rw [vcellsInt] at h
    exact h
  have h4 : DataW.trod enc Tryz.prog W 0 (fun _ => true) true m 30 [v4] = some x4 := by
    have h : DataW.trod enc Tryz.prog W 0 (fun _ => true) true m 30 (([v0, v1, v2, v3, v4].drop 4).take (Tryz.prog.cellsOf 30)) = some x4 := hf 4 _ rfl
    rw [vcellsInts] at h
    exact h
  have hsz : (DataW.weightsEach Tryz.prog [3, 9, 9, 3, 30] [x0.1, x1.1, x2.1, x3.1, x4.1]).all (· ≤ reachBytes) = true := by
    rw [List.all_eq_true]
    intro k hk
    refine decide_eq_true (hw k ?_)
    rw [hx]
    show _ ∈ DataW.weights Tryz.prog 32 (.agg [x0.1, x1.1, x2.1, x3.1, x4.1])
    unfold DataW.weights
    rw [Tryz.underlying32]
    exact hk
  obtain ⟨k, e0, _, w0⟩ := DataW.trod_int Tryz.underlying3 h0
  obtain ⟨a, e1, d1, _⟩ := DataW.trod_string Tryz.underlying9 h1
  obtain ⟨c, e2, d2, _⟩ := DataW.trod_string Tryz.underlying9 h2
  obtain ⟨m', e3, _, w3⟩ := DataW.trod_int Tryz.underlying3 h3
  have sa : a.size ≤ 1125899906842624 := by
    have h := sized_string hsz (j := 1) (bytes := a.data.toList) rfl (by rw [d1]; rfl)
    rw [show a.data.toList.length = a.size by simp] at h
    simp only [reachBytes] at h
    omega
  have sb : c.size ≤ 1125899906842624 := by
    have h := sized_string hsz (j := 2) (bytes := c.data.toList) rfl (by rw [d2]; rfl)
    rw [show c.data.toList.length = c.size by simp] at h
    simp only [reachBytes] at h
    omega
  cases e0
  cases e1
  cases e2
  cases e3
  rcases open_ints Tryz.underlying30 Tryz.underlying3 vcellsInt h4 with ⟨hcs, hx4⟩ | ⟨aa, l, cc, zs, hcs, _, hlc, hcm, hz, hx4, hcell, hwf⟩
  · cases hcs
    exact ⟨⟨k, a, c, m', none, [], 0⟩, ⟨bounds_i64 w0, sa, sb, bounds_i64 w3, fun i hi => (by cases hi), fun e => absurd rfl e, fun u hu => (by cases hu), Nat.zero_le _, fun _ => ⟨rfl, rfl⟩⟩, rfl⟩
  · cases hcs
    simp only [if_true] at hz
    have hdd : x4.1 = .slice (lits .i64 (zs.take l)) (lits .i64 (zs.drop l)) := congrArg Prod.fst hx4
    have hl2 := sized_slice hsz (j := 4) (t := 30) (elems := lits .i64 (zs.take l)) (spare := lits .i64 (zs.drop l)) rfl (by rw [hdd]; rfl) Tryz.underlying30
    rw [show (lits (H := H) IntKind.i64 (zs.take l)).length = (zs.take l).length by simp [lits], vbytesInt, List.length_take] at hl2
    simp only [reachBytes] at hl2
    have hlen2 : (zs.take l).length = l := by rw [List.length_take]; omega
    refine ⟨⟨k, a, c, m', some aa, zs.take l, cc⟩, ⟨bounds_i64 w0, sa, sb, bounds_i64 w3, ?_, ?_, ?_, ?_, fun e => (by cases e)⟩, ?_⟩
    · intro i hi
      have hi' : i < zs.length := by simp only [List.length_take] at hi; omega
      obtain ⟨b, off, rfl, h2⟩ := ints_at hcell (by omega)
      have h3 := h2 i hi'
      refine ⟨b, off, rfl, World.block_lt_of_cell? W _ h3, ?_⟩
      rw [h3, List.getElem_take]
      simp [List.getD, hi']
    · intro hne kb off e
      have hpos : 0 < zs.length := by
        rcases Nat.eq_zero_or_pos zs.length with h0 | h0
        · have : zs = [] := List.eq_nil_of_length_eq_zero h0
          simp only [this, List.take_nil] at hne
          exact absurd rfl hne
        · exact h0
      obtain ⟨b, off', rfl, h2⟩ := ints_at hcell hpos
      have h3 := h2 0 hpos
      cases e
      exact World.block_lt_of_cell? W _ h3
    · intro u hu
      exact bounds_i64 (hwf u (List.mem_of_mem_take hu))
    · simp only [hlen2]
      omega
    · simp only [Zd.cells, hlen2]
theorem vweightsAll_in {H : Type} {P : Program} {e : TypeId} : ∀ {l : List (DataW H)} {d : DataW H}, d ∈ l → ∀ n ∈ d.weights P e, n ∈ DataW.weightsAll P e l
  | x :: r, d, hd, n, hn => by
    unfold DataW.weightsAll
    rcases List.mem_cons.1 hd with rfl | hd
    · exact List.mem_append_left _ hn
    · exact List.mem_append_right _ (vweightsAll_in hd n hn)
theorem zdeeds_open {H : Type} {enc : TypeId × Value → H} {W : World} {a0 : Option Addr} {len cap : Nat} {d : DataW H} {p : List MemPlace} (h : DataW.Trod enc Tryz.prog W 0 (fun _ => true) true 22 (.slice a0 len cap) d p) {ts : List TypeId} {ds : List (DataW H)} {j : Nat} (hsz : (DataW.weightsEach Tryz.prog ts ds).all (· ≤ reachBytes) = true) (ht : ts[j]? = some 22) (hd : ds[j]? = some d) :
    ∃ us : List Zd, len = us.length ∧ Zds W a0 us := by
  obtain ⟨fuel, hf⟩ := h
  rcases open_slice Tryz.underlying22 hf with ⟨hcs, hx⟩ | ⟨a, l', c', m, n, D, Pl, hcs, _, hl, hm, hmm, hx, hel⟩
  · simp [Value.cells] at hcs
    obtain ⟨rfl, rfl, rfl⟩ := hcs
    exact ⟨[], rfl, fun i hi => by simp at hi, fun u hu => by simp at hu, Nat.zero_le _⟩
  · simp [Value.cells] at hcs
    obtain ⟨rfl, rfl, rfl⟩ := hcs
    simp only [if_true] at hmm
    subst hmm
    rw [vcellsDeed] at hel
    have hdd : d = .slice ((List.range len).map D) ((List.range (m - len)).map fun j => D (len + j)) := congrArg Prod.fst hx
    subst hdd
    have hsl := sized_slice hsz ht hd Tryz.underlying22
    rw [vbytesDeed, List.length_map, List.length_range] at hsl
    simp only [reachBytes] at hsl
    have hwt : ∀ i, i < len → ∀ k ∈ (D i).weights Tryz.prog 32, k ≤ reachBytes := by
      intro i hi k hk
      have h1 := DataW.weights_mem_each (P := Tryz.prog) ht hd k (by
        unfold DataW.weights
        rw [Tryz.underlying22]
        exact List.mem_cons_of_mem _ (List.mem_append_left _ (vweightsAll_in (List.mem_map.2 ⟨i, List.mem_range.2 hi, rfl⟩) k hk)))
      exact of_decide_eq_true (List.all_eq_true.1 hsz k h1)
    have hch : ∀ i, i < len → ∃ y : Zd, y.ok W ∧ W.cells? 0 (a.add (i * 5)) 5 = some y.cells := by
      intro i hi
      obtain ⟨cs', h1, h2⟩ := hel i (by omega)
      obtain ⟨o, ho, rfl⟩ := zdeed_open h2 (hwt i hi)
      exact ⟨o, ho, h1⟩
    obtain ⟨f, hfy⟩ := @choose_lt Zd ⟨⟨0, ⟨#[]⟩, ⟨#[]⟩, 0, none, [], 0⟩⟩ len (fun i y => y.ok W ∧ W.cells? 0 (a.add (i * 5)) 5 = some y.cells) hch
    refine ⟨(List.range len).map f, by simp, ?_, ?_, ?_⟩
    · intro i hi
      have hi' : i < len := by simpa using hi
      obtain ⟨_, h1⟩ := hfy i hi'
      have hb := World.cells?_block h1 (by omega)
      obtain ⟨b, off, spot⟩ := a
      have hb' : b < W.heap.size := by
        have e : ((⟨b, off, spot⟩ : Addr).add (i * 5)).block = b := by unfold Addr.add; split <;> rfl
        rw [e] at hb; exact hb
      have hspot : spot = none := by
        obtain ⟨_, h0⟩ := hfy 0 (by omega)
        have h2 := (World.cells?_some h0).2.2 0 (by omega)
        have h3 : W.cell? (⟨b, off, spot⟩ : Addr) = some (.int .i64 (f 0).kind) := h2
        exact World.cell?_spot h3
      subst hspot
      have h2 := (World.cells?_some h1).2.2
      rw [vaddr_add] at h2
      have e : ((List.range len).map f)[i] = f i := by simp
      refine ⟨b, off, rfl, hb', ?_⟩
      rw [e]
      intro j hj
      have g := h2 j hj
      rw [vaddr_add] at g
      exact g
    · intro x hx
      obtain ⟨i, hi, rfl⟩ := List.mem_map.1 hx
      exact (hfy i (List.mem_range.1 hi)).1
    · rw [List.length_map, List.length_range]
      omega
end Go.Proofs.YtknldpaaikcedaaGreat
