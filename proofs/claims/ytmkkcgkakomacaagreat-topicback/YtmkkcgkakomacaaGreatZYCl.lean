/-
  The contract of strings.Clone at this dump, by the library's theorems.
-/
import Derived.Test.YtmkkcgkakomacaaGreatRows
import Derived.Test.YtmkkcgkakomacaaGreatZM0
import Derived.ProofKit
import Derived.OpenShut
import Derived.ShutString
import Derived.ChangeOld
import Derived.SizedLaws
import Derived.Deep.Slices
import Derived.Deep.Strs
import Derived.Maps.OwnOps
import Derived.Maps.Ext
import Derived.WalkSmall
import Derived.Laws.StructEq
import Derived.Lib.QuietBelow
import Derived.BigQuiet
import Derived.Shelf.LaysM
import Derived.Shelf.Strconv.Clone
namespace Go.Proofs.YtmkkcgkakomacaaGreat
open Go.ChangeShapes Go.WideShapes Go.ChangeAt Go.RowKit Go.Deep Go.Maps
theorem wf_in64 {a : Int} (h : (Lit.int .i64 a).wf = true) : -9223372036854775808 ≤ a ∧ a ≤ 9223372036854775807 := by
  simp [Lit.wf, IntKind.min, IntKind.max, IntKind.bits, IntKind.signed] at h
  omega
theorem laidOut : laidOutB Tryz.prog = true := by kernel_rfl
theorem own : ownKnob Tryz.prog.godebug = none := by kernel_rfl
structure DE where
  kind : Int
  prod : ByteArray
  seq : Int
  key : ByteArray
  val : ByteArray
  n : Int
  most : Int
def i64Ok (a : Int) : Prop := -9223372036854775808 ≤ a ∧ a ≤ 9223372036854775807
def DE.ok (o : DE) : Prop := i64Ok o.kind ∧ o.prod.size ≤ 140737488351232 ∧ i64Ok o.seq ∧ o.key.size ≤ 140737488351232 ∧ o.val.size ≤ 140737488351232 ∧ i64Ok o.n ∧ i64Ok o.most
theorem cellsDE : Tryz.prog.cellsOf 31 = 7 := by kernel_rfl
theorem bytesDE : Tryz.prog.bytesOf 31 = 80 := by kernel_rfl
structure DEAt (w : World) (b off : Nat) (o : DE) : Prop where
  c0 : w.cell? ⟨b, off, none⟩ = some (.int .i64 o.kind)
  c1 : w.cell? ⟨b, off + 1, none⟩ = some (.string o.prod)
  c2 : w.cell? ⟨b, off + 2, none⟩ = some (.int .i64 o.seq)
  c3 : w.cell? ⟨b, off + 3, none⟩ = some (.string o.key)
  c4 : w.cell? ⟨b, off + 4, none⟩ = some (.string o.val)
  c5 : w.cell? ⟨b, off + 5, none⟩ = some (.int .i64 o.n)
  c6 : w.cell? ⟨b, off + 6, none⟩ = some (.int .i64 o.most)
def DEsAt (w : World) (ao : Option Addr) (l : List DE) : Prop := ∀ i (hi : i < l.length), ∃ b off, ao = some ⟨b, off, none⟩ ∧ b < w.heap.size ∧ DEAt w b (off + i * 7) l[i]
structure DEs (w : World) (ao : Option Addr) (l : List DE) : Prop where
  all : DEsAt w ao l
  ok : ∀ o ∈ l, o.ok
  len : l.length ≤ 4611686018427387904
theorem DEsAt.below {w w1 : World} {ao : Option Addr} {l : List DE} (h : DEsAt w ao l) (hb : RowKit.Below w.heap.size w w1) : DEsAt w1 ao l := fun i hi => by
  obtain ⟨b, off, h1, h2, h3⟩ := h i hi
  exact ⟨b, off, h1, Nat.lt_of_lt_of_le h2 hb.size, (hb.cell (p := ⟨b, _, none⟩) h2).trans h3.c0, (hb.cell (p := ⟨b, _, none⟩) h2).trans h3.c1, (hb.cell (p := ⟨b, _, none⟩) h2).trans h3.c2, (hb.cell (p := ⟨b, _, none⟩) h2).trans h3.c3, (hb.cell (p := ⟨b, _, none⟩) h2).trans h3.c4, (hb.cell (p := ⟨b, _, none⟩) h2).trans h3.c5, (hb.cell (p := ⟨b, _, none⟩) h2).trans h3.c6⟩
theorem of7 {α : Type} (l : List α) (h : l.length = 7) : ∃ y0 y1 y2 y3 y4 y5 y6, l = [y0, y1, y2, y3, y4, y5, y6] := by
  match l, h with
  | [y0, y1, y2, y3, y4, y5, y6], _ => exact ⟨y0, y1, y2, y3, y4, y5, y6, rfl⟩
theorem addr_add (b off n : Nat) : (⟨b, off, none⟩ : Addr).add n = ⟨b, off + n, none⟩ := by
  unfold Addr.add
  split
  · rename_i h; subst h; rfl
  · rfl
theorem weightsAll_in {H : Type} {P : Program} {e : TypeId} : ∀ {l : List (DataW H)} {d : DataW H}, d ∈ l → ∀ n ∈ d.weights P e, n ∈ DataW.weightsAll P e l
  | x :: r, d, hd, n, hn => by
    unfold DataW.weightsAll
    rcases List.mem_cons.1 hd with rfl | hd
    · exact List.mem_append_left _ hn
    · exact List.mem_append_right _ (weightsAll_in hd n hn)
theorem de_open {H : Type} {enc : TypeId × Value → H} {W : World} {n : Nat} {cs : List Value} {x : DataW H × List MemPlace} (h : DataW.trod enc Tryz.prog W 0 (fun _ => true) true n 31 cs = some x) (hw : ∀ k ∈ x.1.weights Tryz.prog 31, k ≤ reachBytes) :
    ∃ o : DE, o.ok ∧ cs = [.int .i64 o.kind, .string o.prod, .int .i64 o.seq, .string o.key, .string o.val, .int .i64 o.n, .int .i64 o.most] := by
  obtain ⟨xs, m, _, hx, hl, hlen, hf⟩ := DataW.trod_struct Tryz.underlying31 h
  rw [cellsDE] at hl
  obtain ⟨v0, v1, v2, v3, v4, v5, v6, rfl⟩ := of7 cs hl
  obtain ⟨x0, x1, x2, x3, x4, x5, x6, rfl⟩ := of7 xs hlen
  have h0 : DataW.trod enc Tryz.prog W 0 (fun _ => true) true m 3 [v0] = some x0 := by
    have h : DataW.trod enc Tryz.prog W 0 (fun _ => true) true m 3 (([v0, v1, v2, v3, v4, v5, v6].drop 0).take (Tryz.prog.cellsOf 3)) = some x0 := hf 0 _ rfl
    rw [show Tryz.prog.cellsOf 3 = 1 by kernel_rfl] at h
    exact h
  obtain ⟨a0, e0, _, w0⟩ := DataW.trod_int Tryz.underlying3 h0
  have h1 : DataW.trod enc Tryz.prog W 0 (fun _ => true) true m 9 [v1] = some x1 := by
    have h : DataW.trod enc Tryz.prog W 0 (fun _ => true) true m 9 (([v0, v1, v2, v3, v4, v5, v6].drop 1).take (Tryz.prog.cellsOf 9)) = some x1 := hf 1 _ rfl
    rw [show Tryz.prog.cellsOf 9 = 1 by kernel_rfl] at h
    exact h
  obtain ⟨a1, e1, d1, _⟩ := DataW.trod_string Tryz.underlying9 h1
  have z1 : a1.size ≤ 140737488351232 := by
    have hk := hw a1.data.toList.length (by
      rw [hx]
      show _ ∈ DataW.weights Tryz.prog 31 (.agg [x0.1, x1.1, x2.1, x3.1, x4.1, x5.1, x6.1])
      unfold DataW.weights
      rw [Tryz.underlying31]
      refine DataW.weights_mem_each (j := 1) (t := 9) (d := x1.1) rfl rfl _ ?_
      rw [d1]
      simp [DataW.weights])
    rw [show a1.data.toList.length = a1.size by simp] at hk
    simp only [reachBytes] at hk
    omega
  have h2 : DataW.trod enc Tryz.prog W 0 (fun _ => true) true m 3 [v2] = some x2 := by
    have h : DataW.trod enc Tryz.prog W 0 (fun _ => true) true m 3 (([v0, v1, v2, v3, v4, v5, v6].drop 2).take (Tryz.prog.cellsOf 3)) = some x2 := hf 2 _ rfl
    rw [show Tryz.prog.cellsOf 3 = 1 by kernel_rfl] at h
    exact h
  obtain ⟨a2, e2, _, w2⟩ := DataW.trod_int Tryz.underlying3 h2
  have h3 : DataW.trod enc Tryz.prog W 0 (fun _ => true) true m 9 [v3] = some x3 := by
    have h : DataW.trod enc Tryz.prog W 0 (fun _ => true) true m 9 (([v0, v1, v2, v3, v4, v5, v6].drop 3).take (Tryz.prog.cellsOf 9)) = some x3 := hf 3 _ rfl
    rw [show Tryz.prog.cellsOf 9 = 1 by kernel_rfl] at h
    exact h
  obtain ⟨a3, e3, d3, _⟩ := DataW.trod_string Tryz.underlying9 h3
  have z3 : a3.size ≤ 140737488351232 := by
    have hk := hw a3.data.toList.length (by
      rw [hx]
      show _ ∈ DataW.weights Tryz.prog 31 (.agg [x0.1, x1.1, x2.1, x3.1, x4.1, x5.1, x6.1])
      unfold DataW.weights
      rw [Tryz.underlying31]
      refine DataW.weights_mem_each (j := 3) (t := 9) (d := x3.1) rfl rfl _ ?_
      rw [d3]
      simp [DataW.weights])
    rw [show a3.data.toList.length = a3.size by simp] at hk
    simp only [reachBytes] at hk
    omega
  have h4 : DataW.trod enc Tryz.prog W 0 (fun _ => true) true m 9 [v4] = some x4 := by
    have h : DataW.trod enc Tryz.prog W 0 (fun _ => true) true m 9 (([v0, v1, v2, v3, v4, v5, v6].drop 4).take (Tryz.prog.cellsOf 9)) = some x4 := hf 4 _ rfl
    rw [show Tryz.prog.cellsOf 9 = 1 by kernel_rfl] at h
    exact h
  obtain ⟨a4, e4, d4, _⟩ := DataW.trod_string Tryz.underlying9 h4
  have z4 : a4.size ≤ 140737488351232 := by
    have hk := hw a4.data.toList.length (by
      rw [hx]
      show _ ∈ DataW.weights Tryz.prog 31 (.agg [x0.1, x1.1, x2.1, x3.1, x4.1, x5.1, x6.1])
      unfold DataW.weights
      rw [Tryz.underlying31]
      refine DataW.weights_mem_each (j := 4) (t := 9) (d := x4.1) rfl rfl _ ?_
      rw [d4]
      simp [DataW.weights])
    rw [show a4.data.toList.length = a4.size by simp] at hk
    simp only [reachBytes] at hk
    omega
  have h5 : DataW.trod enc Tryz.prog W 0 (fun _ => true) true m 3 [v5] = some x5 := by
    have h : DataW.trod enc Tryz.prog W 0 (fun _ => true) true m 3 (([v0, v1, v2, v3, v4, v5, v6].drop 5).take (Tryz.prog.cellsOf 3)) = some x5 := hf 5 _ rfl
    rw [show Tryz.prog.cellsOf 3 = 1 by kernel_rfl] at h
    exact h
  obtain ⟨a5, e5, _, w5⟩ := DataW.trod_int Tryz.underlying3 h5
  have h6 : DataW.trod enc Tryz.prog W 0 (fun _ => true) true m 3 [v6] = some x6 := by
    have h : DataW.trod enc Tryz.prog W 0 (fun _ => true) true m 3 (([v0, v1, v2, v3, v4, v5, v6].drop 6).take (Tryz.prog.cellsOf 3)) = some x6 := hf 6 _ rfl
    rw [show Tryz.prog.cellsOf 3 = 1 by kernel_rfl] at h
    exact h
  obtain ⟨a6, e6, _, w6⟩ := DataW.trod_int Tryz.underlying3 h6
  cases e0
  cases e1
  cases e2
  cases e3
  cases e4
  cases e5
  cases e6
  exact ⟨⟨a0, a1, a2, a3, a4, a5, a6⟩, ⟨wf_in64 w0, z1, wf_in64 w2, z3, z4, wf_in64 w5, wf_in64 w6⟩, rfl⟩
theorem des_open {H : Type} {enc : TypeId × Value → H} {W : World} {a0 : Option Addr} {len cap : Nat} {d : DataW H} {p : List MemPlace} (h : DataW.Trod enc Tryz.prog W 0 (fun _ => true) true 22 (.slice a0 len cap) d p) {ts : List TypeId} {ds : List (DataW H)} {j : Nat} (hsz : (DataW.weightsEach Tryz.prog ts ds).all (· ≤ reachBytes) = true) (ht : ts[j]? = some 22) (hd : ds[j]? = some d) :
    ∃ us : List DE, len = us.length ∧ DEs W a0 us := by
  obtain ⟨fuel, hf⟩ := h
  rcases open_slice Tryz.underlying22 hf with ⟨hcs, hx⟩ | ⟨a, l', c', m, n, D, Pl, hcs, _, hl, hm, hmm, hx, hel⟩
  · simp [Value.cells] at hcs
    obtain ⟨rfl, rfl, rfl⟩ := hcs
    exact ⟨[], rfl, fun i hi => by simp at hi, fun u hu => by simp at hu, Nat.zero_le _⟩
  · simp [Value.cells] at hcs
    obtain ⟨rfl, rfl, rfl⟩ := hcs
    simp only [if_true] at hmm
    subst hmm
    rw [cellsDE] at hel
    have hdd : d = .slice ((List.range len).map D) ((List.range (m - len)).map fun j => D (len + j)) := congrArg Prod.fst hx
    subst hdd
    have hsl := sized_slice hsz ht hd Tryz.underlying22
    rw [bytesDE, List.length_map, List.length_range] at hsl
    simp only [reachBytes] at hsl
    have hwt : ∀ i, i < len → ∀ k ∈ (D i).weights Tryz.prog 31, k ≤ reachBytes := by
      intro i hi k hk
      have h1 := DataW.weights_mem_each (P := Tryz.prog) ht hd k (by
        unfold DataW.weights
        rw [Tryz.underlying22]
        exact List.mem_cons_of_mem _ (List.mem_append_left _ (weightsAll_in (List.mem_map.2 ⟨i, List.mem_range.2 hi, rfl⟩) k hk)))
      exact of_decide_eq_true (List.all_eq_true.1 hsz k h1)
    have hch : ∀ i, i < len → ∃ y : DE, y.ok ∧ W.cells? 0 (a.add (i * 7)) 7 = some [.int .i64 y.kind, .string y.prod, .int .i64 y.seq, .string y.key, .string y.val, .int .i64 y.n, .int .i64 y.most] := by
      intro i hi
      obtain ⟨cs', h1, h2⟩ := hel i (by omega)
      obtain ⟨o, ho, rfl⟩ := de_open h2 (hwt i hi)
      exact ⟨o, ho, h1⟩
    obtain ⟨f, hfy⟩ := @choose_lt DE ⟨⟨0, .empty, 0, .empty, .empty, 0, 0⟩⟩ len (fun i y => y.ok ∧ W.cells? 0 (a.add (i * 7)) 7 = some [.int .i64 y.kind, .string y.prod, .int .i64 y.seq, .string y.key, .string y.val, .int .i64 y.n, .int .i64 y.most]) hch
    refine ⟨(List.range len).map f, by simp, ?_, ?_, ?_⟩
    · intro i hi
      have hi' : i < len := by simpa using hi
      obtain ⟨_, h1⟩ := hfy i hi'
      have hb := World.cells?_block h1 (by omega)
      obtain ⟨b, off, spot⟩ := a
      have hb' : b < W.heap.size := by
        have e : ((⟨b, off, spot⟩ : Addr).add (i * 7)).block = b := by unfold Addr.add; split <;> rfl
        rw [e] at hb; exact hb
      have hspot : spot = none := by
        obtain ⟨_, h0⟩ := hfy 0 (by omega)
        have h2 := (World.cells?_some h0).2.2 0 (by omega)
        have h3 : W.cell? (⟨b, off, spot⟩ : Addr) = some (.int .i64 (f 0).kind) := h2
        exact World.cell?_spot h3
      subst hspot
      have h2 := (World.cells?_some h1).2.2
      rw [addr_add] at h2
      have g0 := h2 0 (by omega)
      have g1 := h2 1 (by omega)
      have g2 := h2 2 (by omega)
      have g3 := h2 3 (by omega)
      have g4 := h2 4 (by omega)
      have g5 := h2 5 (by omega)
      have g6 := h2 6 (by omega)
      rw [addr_add] at g0 g1 g2 g3 g4 g5 g6
      have e : ((List.range len).map f)[i] = f i := by simp
      refine ⟨b, off, rfl, hb', ?_⟩
      rw [e]
      exact ⟨by simpa using g0, by simpa using g1, by simpa using g2, by simpa using g3, by simpa using g4, by simpa using g5, by simpa using g6⟩
    · intro x hx
      obtain ⟨i, hi, rfl⟩ := List.mem_map.1 hx
      exact (hfy i (List.mem_range.1 hi)).1
    · rw [List.length_map, List.length_range]
      omega
end Go.Proofs.YtmkkcgkakomacaaGreat
namespace Go.Proofs.YtmkkcgkakomacaaGreat.Y
open Go.RowKit
structure Rec where
  off : Int
  prod : ByteArray
  seq : Int
  key : ByteArray
  val : ByteArray
def Rec.kl (r : Rec) : List UInt8 := r.key.data.toList
def laterF (k : List UInt8) (t : List Rec) : Bool := t.any fun x => x.kl == k
def goesF (upto : Int) (r : Rec) (t : List Rec) : Bool := (!r.kl.isEmpty && laterF r.kl t) && decide (r.off < upto)
def keepF (upto : Int) : List Rec → List Rec
  | [] => []
  | r :: t => if goesF upto r t = true then keepF upto t else r :: keepF upto t
theorem drop_at {α : Type} (l : List α) (i : Nat) (h : i < l.length) : l.drop i = l[i] :: l.drop (i + 1) := List.drop_eq_getElem_cons h
theorem keepF_go {upto : Int} {l : List Rec} {i : Nat} (h : i < l.length) (hg : goesF upto l[i] (l.drop (i + 1)) = true) : keepF upto (l.drop i) = keepF upto (l.drop (i + 1)) := by
  rw [drop_at l i h, keepF, if_pos hg]
theorem keepF_stay {upto : Int} {l : List Rec} {i : Nat} (h : i < l.length) (hg : goesF upto l[i] (l.drop (i + 1)) = false) : keepF upto (l.drop i) = l[i] :: keepF upto (l.drop (i + 1)) := by
  rw [drop_at l i h, keepF, if_neg (by rw [hg]; decide)]
theorem keepF_length (upto : Int) (l : List Rec) : (keepF upto l).length ≤ l.length := by
  induction l with
  | nil => exact Nat.le_refl _
  | cons r t ih =>
    rw [keepF]
    split
    · exact Nat.le_trans ih (Nat.le_succ _)
    · exact Nat.succ_le_succ ih
def lastIx (l : List Rec) (k : List UInt8) : Nat → Nat
  | 0 => 0
  | i + 1 => if (l[i]?).map Rec.kl = some k then i else lastIx l k i
theorem lastIx_gt (l : List Rec) (k : List UInt8) (i n : Nat) : i < lastIx l k n ↔ ∃ j, i < j ∧ j < n ∧ (l[j]?).map Rec.kl = some k := by
  induction n with
  | zero => simp [lastIx]
  | succ n ih =>
    rw [lastIx]
    split
    · rename_i h
      constructor
      · intro hi; exact ⟨n, hi, by omega, h⟩
      · rintro ⟨j, h1, h2, _⟩; omega
    · rename_i h
      rw [ih]
      constructor
      · rintro ⟨j, h1, h2, h3⟩; exact ⟨j, h1, by omega, h3⟩
      · rintro ⟨j, h1, h2, h3⟩
        by_cases e : j = n
        · subst e; exact absurd h3 h
        · exact ⟨j, h1, by omega, h3⟩
theorem lastIx_le (l : List Rec) (k : List UInt8) (n : Nat) : lastIx l k n ≤ n := by
  induction n with
  | zero => exact Nat.le_refl _
  | succ n ih => rw [lastIx]; split <;> omega
theorem laterF_iff (k : List UInt8) (l : List Rec) (i : Nat) : laterF k (l.drop i) = true ↔ ∃ j, i ≤ j ∧ j < l.length ∧ (l[j]?).map Rec.kl = some k := by
  unfold laterF
  rw [List.any_eq_true]
  constructor
  · rintro ⟨x, hx, hk⟩
    obtain ⟨j, hj, rfl⟩ := List.getElem_of_mem hx
    rw [List.length_drop] at hj
    refine ⟨i + j, by omega, by omega, ?_⟩
    rw [List.getElem_drop] at hk
    rw [List.getElem?_eq_getElem (by omega)]
    simpa using hk
  · rintro ⟨j, h1, h2, h3⟩
    rw [List.getElem?_eq_getElem h2] at h3
    refine ⟨l[j], ?_, by simpa using h3⟩
    rw [List.mem_iff_getElem]
    exact ⟨j - i, by rw [List.length_drop]; omega, by rw [List.getElem_drop]; congr 1; omega⟩
theorem laterF_last (l : List Rec) (k : List UInt8) (i : Nat) : laterF k (l.drop (i + 1)) = decide (i < lastIx l k l.length) := by
  rw [Bool.eq_iff_iff, decide_eq_true_iff, laterF_iff, lastIx_gt]
  rfl
end Go.Proofs.YtmkkcgkakomacaaGreat.Y
namespace Go.Proofs.YtmkkcgkakomacaaGreat.Y
open Go.RowKit Go.Maps
set_option maxHeartbeats 2000000
set_option maxRecDepth 100000
def Rec.v (r : Rec) : Value := .agg #[.int .i64 r.off, .string r.prod, .int .i64 r.seq, .string r.key, .string r.val]
def Rec.cells (r : Rec) : List Value := [.int .i64 r.off, .string r.prod, .int .i64 r.seq, .string r.key, .string r.val]
def Rec.ok (r : Rec) : Prop := -9223372036854775808 ≤ r.off ∧ r.off ≤ 9223372036854775807 ∧ -9223372036854775808 ≤ r.seq ∧ r.seq ≤ 9223372036854775807 ∧ r.prod.size ≤ 281474976710656 ∧ r.key.size ≤ 281474976710656 ∧ r.val.size ≤ 281474976710656
def recCells (l : List Rec) : List Value := l.flatMap Rec.cells
theorem recCells_snoc (l : List Rec) (r : Rec) : recCells (l ++ [r]) = recCells l ++ [.int .i64 r.off, .string r.prod, .int .i64 r.seq, .string r.key, .string r.val] := by simp [recCells, Rec.cells]
theorem recCells_get (l : List Rec) (i j : Nat) (hi : i < l.length) (hj : j < 5) : (recCells l)[i * 5 + j]? = (l[i].cells)[j]? := by
  induction l generalizing i with
  | nil => simp at hi
  | cons x l ih =>
    have e : recCells (x :: l) = x.cells ++ recCells l := by simp [recCells]
    have h3 : x.cells.length = 5 := rfl
    rw [e]
    cases i with
    | zero => rw [List.getElem?_append_left (by omega)]; simp
    | succ i =>
      rw [List.getElem?_append_right (by omega), h3]
      have := ih i (by simpa using hi)
      rw [show (i + 1) * 5 + j - 5 = i * 5 + j by omega, this]
      simp
def RecsAt (w : World) (v : Value) (l : List Rec) : Prop := ∃ ao cap, v = .slice ao l.length cap ∧ (cap : Int) ≤ 9223372036854775807 ∧ ∀ i (h : i < l.length), ∃ b off, ao = some ⟨b, off, none⟩ ∧ b < w.heap.size ∧ ∀ j, j < 5 → w.cell? ⟨b, off + i * 5 + j, none⟩ = l[i].cells[j]?
theorem recs_of_own {w : World} {B : Nat} {v : Value} {l : List Rec} (h : w.ownsRow B 39 5 v l.length (recCells l)) : RecsAt w v l := by
  rcases h.2 with ⟨h1, h2⟩ | ⟨g, cap, cur, hv, hg, hh, hn, hc, hs, ht⟩
  · exact ⟨none, 0, by rw [h1, h2], by omega, fun i hi => by omega⟩
  · refine ⟨some ⟨g, 0, none⟩, cap, hv, ?_, fun i hi => ⟨g, 0, rfl, (Array.getElem?_eq_some_iff.1 hh).1, ?_⟩⟩
    · unfold maxLen at hc
      omega
    · intro j hj
      rw [Lib.cell_of_heap hh, ← recCells_get l i j hi hj, ← ht, List.getElem?_take, if_pos (by omega)]
      simp
theorem RecsAt.below {w w' : World} {v : Value} {l : List Rec} (h : RecsAt w v l) (hb : Below w.heap.size w w') : RecsAt w' v l := by
  obtain ⟨ao, cap, hv, hc, ha⟩ := h
  refine ⟨ao, cap, hv, hc, fun i hi => ?_⟩
  obtain ⟨b, off, h1, h2, h3⟩ := ha i hi
  exact ⟨b, off, h1, by have := hb.size; omega, fun j hj => (hb.cell (p := ⟨b, off + i * 5 + j, none⟩) h2).trans (h3 j hj)⟩
theorem RecsAt.five {w : World} {ao : Option Addr} {n cap : Nat} {l : List Rec} (h : RecsAt w (.slice ao n cap) l) (i : Nat) (hi : i < l.length) : n = l.length ∧ ∃ b off, ao = some ⟨b, off, none⟩ ∧ b < w.heap.size ∧ w.cell? ⟨b, off + i * 5, none⟩ = some (.int .i64 l[i].off) ∧ w.cell? ⟨b, off + i * 5 + 1, none⟩ = some (.string l[i].prod) ∧ w.cell? ⟨b, off + i * 5 + 2, none⟩ = some (.int .i64 l[i].seq) ∧ w.cell? ⟨b, off + i * 5 + 3, none⟩ = some (.string l[i].key) ∧ w.cell? ⟨b, off + i * 5 + 4, none⟩ = some (.string l[i].val) := by
  obtain ⟨a, c, hv, _, ha⟩ := h
  injection hv with h1 h2 h3
  subst h1
  obtain ⟨b, off, e, hb, hc⟩ := ha i hi
  exact ⟨h2, b, off, e, hb, hc 0 (by omega), hc 1 (by omega), hc 2 (by omega), hc 3 (by omega), hc 4 (by omega)⟩
theorem keyedS : Keyed Tryz.prog 9 := string_keyed Tryz.underlying9
theorem zeroInt (w : World) : (zeroValue 3).run Tryz.prog w = .ok (.int .i64 0) w := by kernel_rfl
def Lasts (l : List Rec) (n : Nat) (D : DataW Nat) : Prop := IsMap D ∧ ∀ k, D.atKey (.string k) (.lit (.int .i64 0)) = .lit (.int .i64 (lastIx l k n))
theorem keyLit (k : List UInt8) : WideAt.IsKeyLit (.string k) := by simp [WideAt.IsKeyLit]
theorem Lasts.zero (l : List Rec) : Lasts l 0 (.map []) := ⟨by simp [IsMap], fun k => rfl⟩
theorem Lasts.step {l : List Rec} {n : Nat} {D : DataW Nat} (h : Lasts l n D) (hn : n < l.length) : Lasts l (n + 1) (D.put (.string l[n].key.data.toList) (.lit (.int .i64 n))) := by
  refine ⟨h.1.put _ _, fun k => ?_⟩
  rw [lastIx, List.getElem?_eq_getElem hn]
  by_cases e : l[n].kl = k
  · subst e
    rw [if_pos (by simp)]
    exact atKey_put_same h.1 (keyLit _) _ _
  · rw [if_neg (by simpa using e), atKey_put_other (fun x => e (by injection x with x; exact x.symm))]
    exact h.2 k
theorem lastPlaces_any (l : List Rec) (v : Value) (w : World) (hat : RecsAt w v l) (hok : ∀ r ∈ l, r.ok) (hl : l.length ≤ 1048576) :
    Calls Tryz.prog 62 #[v] w fun e w' => ∃ mb n D, e = .returned (.map (some mb)) ∧ w.heap.size ≤ mb ∧ w'.ownsMap Tryz.prog 9 (plainElem Tryz.prog 3) mb n D ∧ Lasts l l.length D ∧ Below w.heap.size w w' := by
  obtain ⟨ao, ac, rfl, _, _⟩ := id hat
  have HA := hide hat
  have HOK := hide hok
  clear hat hok
  have hmm := @run_makeMap Tryz.prog
  go_enter Tryz.func62, Tryz.ntmps62
  go_wp2
  go_loopw [9] (fun iv wv => ∃ (k : Nat) (D : DataW Nat), k ≤ l.length ∧ iv = .int .i64 k ∧ Hid (wv.ownsMap Tryz.prog 9 (plainElem Tryz.prog 3) w.heap.size k D) ∧ Hid (Lasts l k D) ∧ Hid (Below w.heap.size w wv)) (fun iv _ => l.length - (intOf iv).toNat)
  case atStart => exact ⟨0, .map [], Nat.zero_le _, rfl, World.ownsMap_made _ _ _ _, Lasts.zero l, (Below.refl _ _).alloc (Nat.le_refl _) _⟩
  case round =>
    obtain ⟨k, D, hk, rfl, OM, LS, BV⟩ := hrel
    by_cases hlt : k < l.length
    · obtain ⟨_, b, off, rfl, hb, a0, a1, a2, a3, a4⟩ := (HA.out.below BV.out).five k hlt
      have hok := HOK.out _ (List.getElem_mem hlt)
      have HS := hide (LS.out.step hlt)
      have hi0 : (0 : Int) ≤ (k : Int) := by omega
      have hi1 : (k : Int) < (l.length : Int) := by omega
      generalize l[k] = x at *
      obtain ⟨xo, xp, xs, xk, xv⟩ := x
      simp only at a0 a1 a2 a3 a4
      have HK := hide (Go.WideMaps.keyOf_string_mk Tryz.underlying9 (s := xk) (by obtain ⟨_, _, _, _, _, h, _⟩ := hok; simp only at h; unfold maxLen; omega))
      have HV := hide (plainElem_int (H := Nat) (P := Tryz.prog) (e := 3) (q := .i64) Tryz.underlying3 (a := (k : Int)) (by simp [Lit.wf, IntKind.min, IntKind.max, IntKind.bits, IntKind.signed]; omega))
      have OM2 := hide (OM.out.alloc (.cells #[.int .i64 xo, .string xp, .int .i64 xs, .string xk, .string xv] 39))
      have BV2 := hide (BV.out.alloc BV.out.size (.cells #[.int .i64 xo, .string xp, .int .i64 xs, .string xk, .string xv] 39))
      go_wp2_with (at_mapUpdate; refine wpList_mapUpdate_own _ rfl _ _ _ 104 rfl 9 3 keyedS Tryz.underlying104 _ w.heap.size k D rfl OM2.out (by unfold maxLen; omega) _ _ _ rfl rfl HK.out _ [] HV.out ?_; intro w1 h1 h2)
      refine ⟨⟨k + 1, _, by omega, by go_num, h1, HS.out, ?_⟩, by simp [intOf]; omega⟩
      exact BV2.out.grown h2 BV2.out.size (fun j hj => by injection hj with hj; omega)
    · have hi1 : ¬ (k : Int) < (l.length : Int) := by omega
      have e : k = l.length := by omega
      have LS2 := hide (e ▸ LS.out)
      clear e
      go_wp2
      go_ret
      exact ⟨_, rfl, Nat.le_refl _, _, D, OM.out, LS2.out, BV.out⟩
end Go.Proofs.YtmkkcgkakomacaaGreat.Y
namespace Go.Proofs.YtmkkcgkakomacaaGreat.Y
open Go.RowKit Go.Maps
set_option maxHeartbeats 2000000
set_option maxRecDepth 100000
theorem key_empty (r : Rec) (h : r.key.data.toList = []) : r.key = ⟨#[]⟩ := by
  obtain ⟨o, p, s, ⟨⟨k⟩⟩, v⟩ := r
  simp only at h
  subst h
  rfl
theorem goes_any (upto : Int) (l : List Rec) (i : Nat) (hi : i < l.length) (hok : l[i].ok) (mb n : Nat) (D : DataW Nat) (hD : Lasts l l.length D) (w : World) (hown : w.ownsMap Tryz.prog 9 (plainElem Tryz.prog 3) mb n D) :
    Calls Tryz.prog 63 #[l[i].v, .int .i64 i, .map (some mb), .int .i64 upto] w fun e w' => e = .returned (.bool (goesF upto l[i] (l.drop (i + 1)))) ∧ Below w.heap.size w w' := by
  have hlast := laterF_last l l[i].kl i
  have hat := hD.2 l[i].kl
  have hli := lastIx_le l l[i].kl l.length
  unfold goesF
  rw [hlast]
  generalize lastIx l l[i].kl l.length = c at *
  clear hlast hD
  generalize l[i] = x at *
  have HO := hide (hown.alloc (.cells #[.int .i64 x.off, .string x.prod, .int .i64 x.seq, .string x.key, .string x.val] 39))
  have HB := hide ((Below.refl w.heap.size w).alloc (Nat.le_refl _) (.cells #[.int .i64 x.off, .string x.prod, .int .i64 x.seq, .string x.key, .string x.val] 39))
  obtain ⟨xo, xp, xs, xk, xv⟩ := x
  simp only [Rec.v, Rec.kl] at *
  clear hown
  by_cases hk : xk.data.toList = []
  · have hk2 := key_empty ⟨xo, xp, xs, xk, xv⟩ hk
    simp only at hk2
    subst hk2
    simp
    go_enter Tryz.func63, Tryz.ntmps63
    go_wp2
    go_ret
    exact ⟨rfl, HB.out⟩
  · have hke : xk.toList.isEmpty = false := by rw [ByteArray.toList_eq]; simpa using hk
    obtain ⟨c', hlk, hc', _⟩ := HO.out.lookup_int keyedS Tryz.underlying104 Tryz.underlying3 (zeroInt _) (Go.WideMaps.keyOf_string_mk Tryz.underlying9 (s := xk) (by obtain ⟨_, _, _, _, _, h, _⟩ := hok; simp only at h; unfold maxLen; omega))
    have e : (c : Int) = c' := by rw [hat] at hc'; injection hc' with hc'; injection hc'
    subst e
    have e1 : xk.data.toList.isEmpty = false := by simpa using hk
    rw [e1]
    simp only [Bool.not_false, Bool.true_and]
    clear hc' hat e1 hk
    by_cases h1 : i < c
    · have h1' : (i : Int) < (c : Int) := by omega
      have e2 : decide (i < c) = true := decide_eq_true h1
      rw [e2]
      simp only [Bool.true_and]
      clear e2 h1
      by_cases h2 : xo < upto
      · have e3 : decide (xo < upto) = true := decide_eq_true h2
        rw [e3]
        go_enter Tryz.func63, Tryz.ntmps63
        go_wp2
        go_ret
        exact ⟨rfl, HB.out⟩
      · have e3 : decide (xo < upto) = false := decide_eq_false h2
        rw [e3]
        go_enter Tryz.func63, Tryz.ntmps63
        go_wp2
        go_ret
        exact ⟨rfl, HB.out⟩
    · have h1' : ¬ (i : Int) < (c : Int) := by omega
      have e2 : decide (i < c) = false := decide_eq_false h1
      rw [e2]
      simp only [Bool.false_and]
      clear e2 h1
      go_enter Tryz.func63, Tryz.ntmps63
      go_wp2
      go_ret
      exact ⟨rfl, HB.out⟩
end Go.Proofs.YtmkkcgkakomacaaGreat.Y
namespace Go.Proofs.YtmkkcgkakomacaaGreat.Y
open Go.RowKit Go.Maps
set_option maxRecDepth 100000
end Go.Proofs.YtmkkcgkakomacaaGreat.Y
namespace Go.Proofs.YtmkkcgkakomacaaGreat.Y
open Go.RowKit Go.Maps
set_option maxRecDepth 100000
theorem Tryz.infoRec : Tryz.prog.info? 39 = some Tryz.t39 := by kernel_rfl
theorem Tryz.zeroRec : Tryz.t39.zero = some (.agg #[.int .i64 0, .string ⟨#[]⟩, .int .i64 0, .string ⟨#[]⟩, .string ⟨#[]⟩]) := by kernel_rfl
theorem Tryz.sizeRec : Tryz.t39.size = 5 := by kernel_rfl
theorem Tryz.bytesRec : Tryz.t39.bytes = 64 := by kernel_rfl
theorem rec_ones (a c : Int) (b d e : ByteArray) : ∀ u ∈ [Value.int .i64 a, .string b, .int .i64 c, .string d, .string e], u.oneCell' = true := by
  intro u hu
  simp at hu
  rcases hu with rfl | rfl | rfl | rfl | rfl <;> rfl
theorem nil_own (w : World) (B : Nat) (e : TypeId) (z : Nat) : w.ownsRow B e z (.slice none 0 0) 0 [] := ⟨by simp, .inl ⟨rfl, rfl⟩⟩
theorem own_below {w w' : World} {B e z : Nat} {v : Value} {n : Nat} {xs : List Value} (h : w.ownsRow B e z v n xs) (hb : Below w.heap.size w w') : w'.ownsRow B e z v n xs := below_row hb h
end Go.Proofs.YtmkkcgkakomacaaGreat.Y
namespace Go.Proofs.YtmkkcgkakomacaaGreat.Y
open Go.Shelf Go.RowKit
def shren : Go.Shelf.Ren := ⟨fun | 316 => 55 | n => n, fun | 0 => 0 | 3 => 3 | 4 => 4 | 5 => 5 | 9 => 9 | 37 => 111 | 127 => 128 | n => n, fun | n => n⟩
theorem sh316 : Go.Proofs.LaysM.n316 Tryz.prog shren := {
  mixed := by kernel_rfl
  f316 := Tryz.func55.trans (congrArg some (by kernel_rfl))
  t0 := Tryz.underlying0
  a0 := Tryz.isAgg0
  z0 := Tryz.sizeOf0
  v0 := Tryz.zeroValue0
  t3 := Tryz.underlying3
  a3 := Tryz.isAgg3
  z3 := Tryz.sizeOf3
  v3 := Tryz.zeroValue3
  t4 := Tryz.underlying4
  a4 := Tryz.isAgg4
  z4 := Tryz.sizeOf4
  v4 := Tryz.zeroValue4
  t9 := Tryz.underlying9
  a9 := Tryz.isAgg9
  z9 := Tryz.sizeOf9
  v9 := Tryz.zeroValue9
  t37 := Tryz.underlying111
  a37 := Tryz.isAgg111
  z37 := Tryz.sizeOf111
  v37 := Tryz.zeroValue111
  t127 := Tryz.underlying128
  a127 := Tryz.isAgg128
  z127 := Tryz.sizeOf128
  v127 := Tryz.zeroValue128
  t5 := Tryz.underlying5
  a5 := Tryz.isAgg5
  z5 := Tryz.sizeOf5
  v5 := Tryz.zeroValue5
  i0 := by kernel_rfl
  i3 := by kernel_rfl
  i4 := by kernel_rfl
  i5 := by kernel_rfl
  i9 := by kernel_rfl
  i37 := by kernel_rfl
  i127 := by kernel_rfl }
theorem liteClone (s : ByteArray) (w : World) (hlim : s.size ≤ 281474976710656) :
    Calls Tryz.prog 55 #[.string s] w fun e w' => e = .returned (.string s) ∧ Below w.heap.size w w' := Any.stringslite_Clone sh316 s w hlim
theorem clone_any (s : ByteArray) (w : World) (hs : s.size ≤ 281474976710656) :
    Calls Tryz.prog 27 #[.string s] w fun e w' => e = .returned (.string s) ∧ Below w.heap.size w w' := by
  go_enter Tryz.func27, Tryz.ntmps27
  go_wp2_with (go_at_call 55; refine (liteClone _ _ hs).mono ?_; rintro e w' ⟨rfl, hb⟩)
  go_ret
  exact ⟨rfl, hb⟩
end Go.Proofs.YtmkkcgkakomacaaGreat.Y
