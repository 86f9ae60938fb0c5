/-
  The contract of strings.Clone at this dump, by the library's theorems.
-/
import Derived.Test.YtlfodldlkchmoaaGreatRows
import Derived.Test.YtlfodldlkchmoaaGreatZKPure5
import Derived.Test.YtlfodldlkchmoaaGreatZC4
import Derived.ProofKit
import Derived.OpenShut
import Derived.ShutString
import Derived.ChangeOld
import Derived.SizedLaws
import Derived.Deep.Slices
import Derived.Deep.Strs
import Derived.Maps.OwnOps
import Derived.Maps.Ext
import Derived.WalkSmall
import Derived.Laws.StructEq
import Derived.Lib.QuietBelow
import Derived.BigQuiet
import Derived.Shelf.LaysM
import Derived.Shelf.Strconv.Clone
namespace Go.Proofs.YtlfodldlkchmoaaGreat
open Go.ChangeShapes Go.WideShapes Go.ChangeAt Go.RowKit Go.Deep Go.Maps
theorem laidOut : laidOutB Tryz.prog = true := by kernel_rfl
theorem own : ownKnob Tryz.prog.godebug = none := by kernel_rfl
set_option linter.unusedVariables false
theorem wf_in64 {a : Int} (h : (Lit.int .i64 a).wf = true) : -9223372036854775808 ≤ a ∧ a ≤ 9223372036854775807 := by
  simp [Lit.wf, IntKind.min, IntKind.max, IntKind.bits, IntKind.signed] at h
  omega
theorem cellsInt : Tryz.prog.cellsOf 3 = 1 := by kernel_rfl
structure GD where
  c : CM
  s : ByteArray
def GD.ok (o : GD) : Prop := o.c.ok ∧ o.s.size ≤ 140737488351232
structure GDAt (w : World) (b off : Nat) (o : GD) : Prop where
  c0 : w.cell? ⟨b, off, none⟩ = some (.int .i64 o.c.kind)
  c1 : w.cell? ⟨b, off + 1, none⟩ = some (.string o.c.topic)
  c2 : w.cell? ⟨b, off + 2, none⟩ = some (.string o.c.name)
  c3 : w.cell? ⟨b, off + 3, none⟩ = some (.int .i64 o.c.seq)
  c4 : w.cell? ⟨b, off + 4, none⟩ = some (.string o.c.key)
  c5 : w.cell? ⟨b, off + 5, none⟩ = some (.string o.c.val)
  c6 : w.cell? ⟨b, off + 6, none⟩ = some (.int .i64 o.c.n)
  c7 : w.cell? ⟨b, off + 7, none⟩ = some (.int .i64 o.c.node)
  c8 : w.cell? ⟨b, off + 8, none⟩ = some (.int .i64 o.c.ask)
  c9 : w.cell? ⟨b, off + 9, none⟩ = some (.string o.s)
def GDsAt (w : World) (ao : Option Addr) (l : List GD) : Prop := ∀ i (hi : i < l.length), ∃ b off, ao = some ⟨b, off, none⟩ ∧ b < w.heap.size ∧ GDAt w b (off + i * 10) l[i]
structure GDs (w : World) (ao : Option Addr) (l : List GD) : Prop where
  all : GDsAt w ao l
  ok : ∀ o ∈ l, o.ok
  len : l.length ≤ 4611686018427387904
theorem GDsAt.below {w w1 : World} {ao : Option Addr} {l : List GD} (h : GDsAt w ao l) (hb : RowKit.Below w.heap.size w w1) : GDsAt w1 ao l := fun i hi => by
  obtain ⟨b, off, h1, h2, h3⟩ := h i hi
  exact ⟨b, off, h1, Nat.lt_of_lt_of_le h2 hb.size, (hb.cell (p := ⟨b, _, none⟩) h2).trans h3.c0, (hb.cell (p := ⟨b, _, none⟩) h2).trans h3.c1, (hb.cell (p := ⟨b, _, none⟩) h2).trans h3.c2, (hb.cell (p := ⟨b, _, none⟩) h2).trans h3.c3, (hb.cell (p := ⟨b, _, none⟩) h2).trans h3.c4, (hb.cell (p := ⟨b, _, none⟩) h2).trans h3.c5, (hb.cell (p := ⟨b, _, none⟩) h2).trans h3.c6, (hb.cell (p := ⟨b, _, none⟩) h2).trans h3.c7, (hb.cell (p := ⟨b, _, none⟩) h2).trans h3.c8, (hb.cell (p := ⟨b, _, none⟩) h2).trans h3.c9⟩
theorem addr_add (b off n : Nat) : (⟨b, off, none⟩ : Addr).add n = ⟨b, off + n, none⟩ := by
  unfold Addr.add
  split
  · rename_i h; subst h; rfl
  · rfl
theorem weights_of {H : Type} {d : DataW H} {t : TypeId} {ts : List TypeId} {ds : List (DataW H)} {j : Nat} (hsz : (DataW.weightsEach Tryz.prog ts ds).all (· ≤ reachBytes) = true) (ht : ts[j]? = some t) (hd : ds[j]? = some d) : ∀ k ∈ d.weights Tryz.prog t, k ≤ reachBytes :=
  fun k hk => of_decide_eq_true (List.all_eq_true.1 hsz k (DataW.weights_mem_each (P := Tryz.prog) ht hd k hk))
def GD.v (o : GD) : Value := .agg #[.int .i64 o.c.kind, .string o.c.topic, .string o.c.name, .int .i64 o.c.seq, .string o.c.key, .string o.c.val, .int .i64 o.c.n, .int .i64 o.c.node, .int .i64 o.c.ask, .string o.s]
end Go.Proofs.YtlfodldlkchmoaaGreat
namespace Go.Proofs.YtlfodldlkchmoaaGreat
open Go.ChangeShapes Go.WideShapes Go.ChangeAt Go.RowKit Go.Deep Go.Maps
set_option maxRecDepth 100000
set_option linter.unusedVariables false
def IntsAt (w : World) (ao : Option Addr) (L : List Int) : Prop := ∀ i (hi : i < L.length), ∃ b off, ao = some ⟨b, off, none⟩ ∧ b < w.heap.size ∧ w.cell? ⟨b, off + i, none⟩ = some (.int .i64 L[i])
def In64 (a : Int) : Prop := -9223372036854775808 ≤ a ∧ a ≤ 9223372036854775807
theorem bytesInt : Tryz.prog.bytesOf 3 = 8 := by kernel_rfl
theorem ints_open {H : Type} {enc : TypeId × Value → H} {W : World} {n : Nat} {cs : List Value} {x : DataW H × List MemPlace} (h : DataW.trod enc Tryz.prog W 0 (fun _ => true) true n 60 cs = some x) (hw : ∀ k ∈ x.1.weights Tryz.prog 60, k ≤ reachBytes) :
    ∃ ao L cap, cs = [.slice ao (L : List Int).length cap] ∧ IntsAt W ao L ∧ (∀ m ∈ L, In64 m) ∧ L.length ≤ 17592186043904 ∧ (ao = none → cap = 0) := by
  rcases open_slice1 Tryz.underlying60 cellsInt h with ⟨hcs, hx⟩ | ⟨a, len, c', m, n, V, D, Pl, hcs, _, hl, hm, hmm, hx, hel⟩
  · exact ⟨none, [], 0, hcs, fun i hi => by simp at hi, fun u hu => by simp at hu, Nat.zero_le _, fun _ => rfl⟩
  · simp only [if_true] at hmm
    subst hmm
    have hsl := hw (((List.range len).map D).length + ((List.range (m - len)).map fun j => D (len + j)).length |> (· * 8)) (by
      rw [hx]
      unfold DataW.weights
      rw [Tryz.underlying60]
      show _ ∈ _ * Tryz.prog.bytesOf 3 :: _
      rw [bytesInt]
      exact List.mem_cons_self)
    simp only [List.length_map, List.length_range, reachBytes] at hsl
    have hch : ∀ i, i < len → ∃ y : Int, In64 y ∧ W.cell? (a.add i) = some (.int .i64 y) := by
      intro i hi
      obtain ⟨h1, h2⟩ := hel i (by omega)
      obtain ⟨y, e, _, wy⟩ := DataW.trod_int Tryz.underlying3 h2
      have he : V i = .int .i64 y := by simpa using e
      exact ⟨y, wf_in64 wy, by rw [← he]; exact h1⟩
    obtain ⟨f, hfy⟩ := @choose_lt Int ⟨0⟩ len (fun i y => In64 y ∧ W.cell? (a.add i) = some (.int .i64 y)) hch
    refine ⟨some a, (List.range len).map f, m, by simpa using hcs, ?_, ?_, ?_, fun e => by cases e⟩
    · intro i hi
      have hi' : i < len := by simpa using hi
      obtain ⟨_, h1⟩ := hfy i hi'
      obtain ⟨b, off, spot⟩ := a
      have hspot : spot = none := by
        obtain ⟨_, h0⟩ := hfy 0 (by omega)
        have h3 : W.cell? (⟨b, off, spot⟩ : Addr) = some (.int .i64 (f 0)) := h0
        exact World.cell?_spot h3
      subst hspot
      rw [addr_add] at h1
      have e : ((List.range len).map f)[i] = f i := by simp
      refine ⟨b, off, rfl, ?_, ?_⟩
      · have h2 : W.cells? 0 (⟨b, off + i, none⟩ : Addr) 1 = some [.int .i64 (f i)] := cells?_one (Nat.zero_le _) h1
        exact World.cells?_block h2 (by omega)
      · rw [e]; exact h1
    · intro x hx
      obtain ⟨i, hi, rfl⟩ := List.mem_map.1 hx
      exact (hfy i (List.mem_range.1 hi)).1
    · rw [List.length_map, List.length_range]
      omega
theorem ints_param {H : Type} {enc : TypeId × Value → H} {W : World} {r : Reach} {b0 : Nat} {v : Value} {d : DataW H} {p : List MemPlace} (hv : Value.okWide Tryz.prog W r b0 60 v) (h : DataW.Trod enc Tryz.prog W 0 (fun _ => true) true 60 v d p) {ts : List TypeId} {ds : List (DataW H)} {j : Nat} (hsz : (DataW.weightsEach Tryz.prog ts ds).all (· ≤ reachBytes) = true) (ht : ts[j]? = some 60) (hd : ds[j]? = some d) :
    ∃ ao cap, ∃ L : List Int, v = .slice ao L.length cap ∧ IntsAt W ao L ∧ (∀ m ∈ L, In64 m) ∧ L.length ≤ 17592186043904 ∧ (ao = none → cap = 0) := by
  obtain ⟨a, l, c, rfl⟩ := okWide_slice Tryz.underlying60 hv
  obtain ⟨fuel, hf⟩ := h
  obtain ⟨ao, L, cap, e, hx⟩ := ints_open hf (weights_of hsz ht hd)
  simp only [Value.cells, List.cons.injEq, and_true] at e
  exact ⟨ao, cap, L, e, hx⟩
theorem cellsBool : Tryz.prog.cellsOf 4 = 1 := by kernel_rfl
def BoolsAt (w : World) (ao : Option Addr) (L : List Bool) : Prop := ∀ i (hi : i < L.length), ∃ b off, ao = some ⟨b, off, none⟩ ∧ b < w.heap.size ∧ w.cell? ⟨b, off + i, none⟩ = some (.bool L[i])
theorem bytesBool : Tryz.prog.bytesOf 4 = 1 := by kernel_rfl
theorem bools_open {H : Type} {enc : TypeId × Value → H} {W : World} {n : Nat} {cs : List Value} {x : DataW H × List MemPlace} (h : DataW.trod enc Tryz.prog W 0 (fun _ => true) true n 58 cs = some x) (hw : ∀ k ∈ x.1.weights Tryz.prog 58, k ≤ reachBytes) :
    ∃ ao L cap, cs = [.slice ao (L : List Bool).length cap] ∧ BoolsAt W ao L ∧ L.length ≤ 140737488351232 ∧ (ao = none → cap = 0) := by
  rcases open_slice1 Tryz.underlying58 cellsBool h with ⟨hcs, hx⟩ | ⟨a, len, c', m, n, V, D, Pl, hcs, _, hl, hm, hmm, hx, hel⟩
  · exact ⟨none, [], 0, hcs, fun i hi => by simp at hi, Nat.zero_le _, fun _ => rfl⟩
  · simp only [if_true] at hmm
    subst hmm
    have hsl := hw (((List.range len).map D).length + ((List.range (m - len)).map fun j => D (len + j)).length |> (· * 1)) (by
      rw [hx]
      unfold DataW.weights
      rw [Tryz.underlying58]
      show _ ∈ _ * Tryz.prog.bytesOf 4 :: _
      rw [bytesBool]
      exact List.mem_cons_self)
    simp only [List.length_map, List.length_range, reachBytes] at hsl
    have hch : ∀ i, i < len → ∃ y : Bool, W.cell? (a.add i) = some (.bool y) := by
      intro i hi
      obtain ⟨h1, h2⟩ := hel i (by omega)
      obtain ⟨y, e, _⟩ := DataW.trod_bool Tryz.underlying4 h2
      have he : V i = .bool y := by simpa using e
      exact ⟨y, by rw [← he]; exact h1⟩
    obtain ⟨f, hfy⟩ := @choose_lt Bool ⟨false⟩ len (fun i y => W.cell? (a.add i) = some (.bool y)) hch
    refine ⟨some a, (List.range len).map f, m, by simpa using hcs, ?_, ?_, fun e => by cases e⟩
    · intro i hi
      have hi' : i < len := by simpa using hi
      have h1 := hfy i hi'
      obtain ⟨b, off, spot⟩ := a
      have hspot : spot = none := by
        have h0 := hfy 0 (by omega)
        have h3 : W.cell? (⟨b, off, spot⟩ : Addr) = some (.bool (f 0)) := h0
        exact World.cell?_spot h3
      subst hspot
      rw [addr_add] at h1
      have e : ((List.range len).map f)[i] = f i := by simp
      refine ⟨b, off, rfl, ?_, ?_⟩
      · have h2 : W.cells? 0 (⟨b, off + i, none⟩ : Addr) 1 = some [.bool (f i)] := cells?_one (Nat.zero_le _) h1
        exact World.cells?_block h2 (by omega)
      · rw [e]; exact h1
    · rw [List.length_map, List.length_range]
      omega
theorem bools_param {H : Type} {enc : TypeId × Value → H} {W : World} {r : Reach} {b0 : Nat} {v : Value} {d : DataW H} {p : List MemPlace} (hv : Value.okWide Tryz.prog W r b0 58 v) (h : DataW.Trod enc Tryz.prog W 0 (fun _ => true) true 58 v d p) {ts : List TypeId} {ds : List (DataW H)} {j : Nat} (hsz : (DataW.weightsEach Tryz.prog ts ds).all (· ≤ reachBytes) = true) (ht : ts[j]? = some 58) (hd : ds[j]? = some d) :
    ∃ ao cap, ∃ L : List Bool, v = .slice ao L.length cap ∧ BoolsAt W ao L ∧ L.length ≤ 140737488351232 ∧ (ao = none → cap = 0) := by
  obtain ⟨a, l, c, rfl⟩ := okWide_slice Tryz.underlying58 hv
  obtain ⟨fuel, hf⟩ := h
  obtain ⟨ao, L, cap, e, hx⟩ := bools_open hf (weights_of hsz ht hd)
  simp only [Value.cells, List.cons.injEq, and_true] at e
  exact ⟨ao, cap, L, e, hx⟩
structure CMAt (w : World) (b off : Nat) (o : CM) : Prop where
  c0 : w.cell? ⟨b, off, none⟩ = some (.int .i64 o.kind)
  c1 : w.cell? ⟨b, off + 1, none⟩ = some (.string o.topic)
  c2 : w.cell? ⟨b, off + 2, none⟩ = some (.string o.name)
  c3 : w.cell? ⟨b, off + 3, none⟩ = some (.int .i64 o.seq)
  c4 : w.cell? ⟨b, off + 4, none⟩ = some (.string o.key)
  c5 : w.cell? ⟨b, off + 5, none⟩ = some (.string o.val)
  c6 : w.cell? ⟨b, off + 6, none⟩ = some (.int .i64 o.n)
  c7 : w.cell? ⟨b, off + 7, none⟩ = some (.int .i64 o.node)
  c8 : w.cell? ⟨b, off + 8, none⟩ = some (.int .i64 o.ask)
def CMsAt (w : World) (ao : Option Addr) (l : List CM) : Prop := ∀ i (hi : i < l.length), ∃ b off, ao = some ⟨b, off, none⟩ ∧ b < w.heap.size ∧ CMAt w b (off + i * 9) l[i]
structure CMs (w : World) (ao : Option Addr) (l : List CM) : Prop where
  all : CMsAt w ao l
  ok : ∀ o ∈ l, o.ok
  len : l.length ≤ 4611686018427387904
theorem CMsAt.below {w w1 : World} {ao : Option Addr} {l : List CM} (h : CMsAt w ao l) (hb : RowKit.Below w.heap.size w w1) : CMsAt w1 ao l := fun i hi => by
  obtain ⟨b, off, h1, h2, h3⟩ := h i hi
  exact ⟨b, off, h1, Nat.lt_of_lt_of_le h2 hb.size, (hb.cell (p := ⟨b, _, none⟩) h2).trans h3.c0, (hb.cell (p := ⟨b, _, none⟩) h2).trans h3.c1, (hb.cell (p := ⟨b, _, none⟩) h2).trans h3.c2, (hb.cell (p := ⟨b, _, none⟩) h2).trans h3.c3, (hb.cell (p := ⟨b, _, none⟩) h2).trans h3.c4, (hb.cell (p := ⟨b, _, none⟩) h2).trans h3.c5, (hb.cell (p := ⟨b, _, none⟩) h2).trans h3.c6, (hb.cell (p := ⟨b, _, none⟩) h2).trans h3.c7, (hb.cell (p := ⟨b, _, none⟩) h2).trans h3.c8⟩
end Go.Proofs.YtlfodldlkchmoaaGreat
namespace Go.Proofs.YtlfodldlkchmoaaGreat.Y
open Go.RowKit
set_option maxRecDepth 100000
structure Rec where
  off : Int
  prod : ByteArray
  seq : Int
  key : ByteArray
  val : ByteArray
def Rec.kl (r : Rec) : List UInt8 := r.key.data.toList
def laterF (k : List UInt8) (t : List Rec) : Bool := t.any fun x => x.kl == k
def goesF (upto : Int) (r : Rec) (t : List Rec) : Bool := (!r.kl.isEmpty && laterF r.kl t) && decide (r.off < upto)
def keepF (upto : Int) : List Rec → List Rec
  | [] => []
  | r :: t => if goesF upto r t = true then keepF upto t else r :: keepF upto t
theorem drop_at {α : Type} (l : List α) (i : Nat) (h : i < l.length) : l.drop i = l[i] :: l.drop (i + 1) := List.drop_eq_getElem_cons h
theorem keepF_go {upto : Int} {l : List Rec} {i : Nat} (h : i < l.length) (hg : goesF upto l[i] (l.drop (i + 1)) = true) : keepF upto (l.drop i) = keepF upto (l.drop (i + 1)) := by
  rw [drop_at l i h, keepF, if_pos hg]
theorem keepF_stay {upto : Int} {l : List Rec} {i : Nat} (h : i < l.length) (hg : goesF upto l[i] (l.drop (i + 1)) = false) : keepF upto (l.drop i) = l[i] :: keepF upto (l.drop (i + 1)) := by
  rw [drop_at l i h, keepF, if_neg (by rw [hg]; decide)]
theorem keepF_length (upto : Int) (l : List Rec) : (keepF upto l).length ≤ l.length := by
  induction l with
  | nil => exact Nat.le_refl _
  | cons r t ih =>
    rw [keepF]
    split
    · exact Nat.le_trans ih (Nat.le_succ _)
    · exact Nat.succ_le_succ ih
def lastIx (l : List Rec) (k : List UInt8) : Nat → Nat
  | 0 => 0
  | i + 1 => if (l[i]?).map Rec.kl = some k then i else lastIx l k i
theorem lastIx_gt (l : List Rec) (k : List UInt8) (i n : Nat) : i < lastIx l k n ↔ ∃ j, i < j ∧ j < n ∧ (l[j]?).map Rec.kl = some k := by
  induction n with
  | zero => simp [lastIx]
  | succ n ih =>
    rw [lastIx]
    split
    · rename_i h
      constructor
      · intro hi; exact ⟨n, hi, by omega, h⟩
      · rintro ⟨j, h1, h2, _⟩; omega
    · rename_i h
      rw [ih]
      constructor
      · rintro ⟨j, h1, h2, h3⟩; exact ⟨j, h1, by omega, h3⟩
      · rintro ⟨j, h1, h2, h3⟩
        by_cases e : j = n
        · subst e; exact absurd h3 h
        · exact ⟨j, h1, by omega, h3⟩
theorem lastIx_le (l : List Rec) (k : List UInt8) (n : Nat) : lastIx l k n ≤ n := by
  induction n with
  | zero => exact Nat.le_refl _
  | succ n ih => rw [lastIx]; split <;> omega
theorem laterF_iff (k : List UInt8) (l : List Rec) (i : Nat) : laterF k (l.drop i) = true ↔ ∃ j, i ≤ j ∧ j < l.length ∧ (l[j]?).map Rec.kl = some k := by
  unfold laterF
  rw [List.any_eq_true]
  constructor
  · rintro ⟨x, hx, hk⟩
    obtain ⟨j, hj, rfl⟩ := List.getElem_of_mem hx
    rw [List.length_drop] at hj
    refine ⟨i + j, by omega, by omega, ?_⟩
    rw [List.getElem_drop] at hk
    rw [List.getElem?_eq_getElem (by omega)]
    simpa using hk
  · rintro ⟨j, h1, h2, h3⟩
    rw [List.getElem?_eq_getElem h2] at h3
    refine ⟨l[j], ?_, by simpa using h3⟩
    rw [List.mem_iff_getElem]
    exact ⟨j - i, by rw [List.length_drop]; omega, by rw [List.getElem_drop]; congr 1; omega⟩
theorem laterF_last (l : List Rec) (k : List UInt8) (i : Nat) : laterF k (l.drop (i + 1)) = decide (i < lastIx l k l.length) := by
  rw [Bool.eq_iff_iff, decide_eq_true_iff, laterF_iff, lastIx_gt]
  rfl
end Go.Proofs.YtlfodldlkchmoaaGreat.Y
namespace Go.Proofs.YtlfodldlkchmoaaGreat.Y
open Go.RowKit Go.Maps
set_option maxHeartbeats 2000000
set_option maxRecDepth 100000
def Rec.v (r : Rec) : Value := .agg #[.int .i64 r.off, .string r.prod, .int .i64 r.seq, .string r.key, .string r.val]
def Rec.cells (r : Rec) : List Value := [.int .i64 r.off, .string r.prod, .int .i64 r.seq, .string r.key, .string r.val]
def Rec.ok (r : Rec) : Prop := -9223372036854775808 ≤ r.off ∧ r.off ≤ 9223372036854775807 ∧ -9223372036854775808 ≤ r.seq ∧ r.seq ≤ 9223372036854775807 ∧ r.prod.size ≤ 281474976710656 ∧ r.key.size ≤ 281474976710656 ∧ r.val.size ≤ 281474976710656
def recCells (l : List Rec) : List Value := l.flatMap Rec.cells
theorem recCells_snoc (l : List Rec) (r : Rec) : recCells (l ++ [r]) = recCells l ++ [.int .i64 r.off, .string r.prod, .int .i64 r.seq, .string r.key, .string r.val] := by simp [recCells, Rec.cells]
theorem recCells_get (l : List Rec) (i j : Nat) (hi : i < l.length) (hj : j < 5) : (recCells l)[i * 5 + j]? = (l[i].cells)[j]? := by
  induction l generalizing i with
  | nil => simp at hi
  | cons x l ih =>
    have e : recCells (x :: l) = x.cells ++ recCells l := by simp [recCells]
    have h3 : x.cells.length = 5 := rfl
    rw [e]
    cases i with
    | zero => rw [List.getElem?_append_left (by omega)]; simp
    | succ i =>
      rw [List.getElem?_append_right (by omega), h3]
      have := ih i (by simpa using hi)
      rw [show (i + 1) * 5 + j - 5 = i * 5 + j by omega, this]
      simp
def RecsAt (w : World) (v : Value) (l : List Rec) : Prop := ∃ ao cap, v = .slice ao l.length cap ∧ (cap : Int) ≤ 9223372036854775807 ∧ ∀ i (h : i < l.length), ∃ b off, ao = some ⟨b, off, none⟩ ∧ b < w.heap.size ∧ ∀ j, j < 5 → w.cell? ⟨b, off + i * 5 + j, none⟩ = l[i].cells[j]?
theorem RecsAt.below {w w' : World} {v : Value} {l : List Rec} (h : RecsAt w v l) (hb : Below w.heap.size w w') : RecsAt w' v l := by
  obtain ⟨ao, cap, hv, hc, ha⟩ := h
  refine ⟨ao, cap, hv, hc, fun i hi => ?_⟩
  obtain ⟨b, off, h1, h2, h3⟩ := ha i hi
  exact ⟨b, off, h1, by have := hb.size; omega, fun j hj => (hb.cell (p := ⟨b, off + i * 5 + j, none⟩) h2).trans (h3 j hj)⟩
theorem RecsAt.five {w : World} {ao : Option Addr} {n cap : Nat} {l : List Rec} (h : RecsAt w (.slice ao n cap) l) (i : Nat) (hi : i < l.length) : n = l.length ∧ ∃ b off, ao = some ⟨b, off, none⟩ ∧ b < w.heap.size ∧ w.cell? ⟨b, off + i * 5, none⟩ = some (.int .i64 l[i].off) ∧ w.cell? ⟨b, off + i * 5 + 1, none⟩ = some (.string l[i].prod) ∧ w.cell? ⟨b, off + i * 5 + 2, none⟩ = some (.int .i64 l[i].seq) ∧ w.cell? ⟨b, off + i * 5 + 3, none⟩ = some (.string l[i].key) ∧ w.cell? ⟨b, off + i * 5 + 4, none⟩ = some (.string l[i].val) := by
  obtain ⟨a, c, hv, _, ha⟩ := h
  injection hv with h1 h2 h3
  subst h1
  obtain ⟨b, off, e, hb, hc⟩ := ha i hi
  exact ⟨h2, b, off, e, hb, hc 0 (by omega), hc 1 (by omega), hc 2 (by omega), hc 3 (by omega), hc 4 (by omega)⟩
theorem keyedS : Keyed Tryz.prog 9 := string_keyed Tryz.underlying9
theorem zeroInt (w : World) : (zeroValue 3).run Tryz.prog w = .ok (.int .i64 0) w := by kernel_rfl
def Lasts (l : List Rec) (n : Nat) (D : DataW Nat) : Prop := IsMap D ∧ ∀ k, D.atKey (.string k) (.lit (.int .i64 0)) = .lit (.int .i64 (lastIx l k n))
theorem keyLit (k : List UInt8) : WideAt.IsKeyLit (.string k) := by simp [WideAt.IsKeyLit]
theorem Lasts.zero (l : List Rec) : Lasts l 0 (.map []) := ⟨by simp [IsMap], fun k => rfl⟩
theorem Lasts.step {l : List Rec} {n : Nat} {D : DataW Nat} (h : Lasts l n D) (hn : n < l.length) : Lasts l (n + 1) (D.put (.string l[n].key.data.toList) (.lit (.int .i64 n))) := by
  refine ⟨h.1.put _ _, fun k => ?_⟩
  rw [lastIx, List.getElem?_eq_getElem hn]
  by_cases e : l[n].kl = k
  · subst e
    rw [if_pos (by simp)]
    exact atKey_put_same h.1 (keyLit _) _ _
  · rw [if_neg (by simpa using e), atKey_put_other (fun x => e (by injection x with x; exact x.symm))]
    exact h.2 k
theorem lastPlaces_any (l : List Rec) (v : Value) (w : World) (hat : RecsAt w v l) (hok : ∀ r ∈ l, r.ok) (hl : l.length ≤ 1048576) :
    Calls Tryz.prog 167 #[v] w fun e w' => ∃ mb n D, e = .returned (.map (some mb)) ∧ w.heap.size ≤ mb ∧ w'.ownsMap Tryz.prog 9 (plainElem Tryz.prog 3) mb n D ∧ Lasts l l.length D ∧ Below w.heap.size w w' := by
  obtain ⟨ao, ac, rfl, _, _⟩ := id hat
  have HA := hide hat
  have HOK := hide hok
  clear hat hok
  have hmm := @run_makeMap Tryz.prog
  go_enter Tryz.func167, Tryz.ntmps167
  go_wp2
  go_loopw [9] (fun iv wv => ∃ (k : Nat) (D : DataW Nat), k ≤ l.length ∧ iv = .int .i64 k ∧ Hid (wv.ownsMap Tryz.prog 9 (plainElem Tryz.prog 3) w.heap.size k D) ∧ Hid (Lasts l k D) ∧ Hid (Below w.heap.size w wv)) (fun iv _ => l.length - (intOf iv).toNat)
  case atStart => exact ⟨0, .map [], Nat.zero_le _, rfl, World.ownsMap_made _ _ _ _, Lasts.zero l, (Below.refl _ _).alloc (Nat.le_refl _) _⟩
  case round =>
    obtain ⟨k, D, hk, rfl, OM, LS, BV⟩ := hrel
    by_cases hlt : k < l.length
    · obtain ⟨_, b, off, rfl, hb, a0, a1, a2, a3, a4⟩ := (HA.out.below BV.out).five k hlt
      have hok := HOK.out _ (List.getElem_mem hlt)
      have HS := hide (LS.out.step hlt)
      have hi0 : (0 : Int) ≤ (k : Int) := by omega
      have hi1 : (k : Int) < (l.length : Int) := by omega
      generalize l[k] = x at *
      obtain ⟨xo, xp, xs, xk, xv⟩ := x
      simp only at a0 a1 a2 a3 a4
      have HK := hide (Go.WideMaps.keyOf_string_mk Tryz.underlying9 (s := xk) (by obtain ⟨_, _, _, _, _, h, _⟩ := hok; simp only at h; unfold maxLen; omega))
      have HV := hide (plainElem_int (H := Nat) (P := Tryz.prog) (e := 3) (q := .i64) Tryz.underlying3 (a := (k : Int)) (by simp [Lit.wf, IntKind.min, IntKind.max, IntKind.bits, IntKind.signed]; omega))
      have OM2 := hide (OM.out.alloc (.cells #[.int .i64 xo, .string xp, .int .i64 xs, .string xk, .string xv] 42))
      have BV2 := hide (BV.out.alloc BV.out.size (.cells #[.int .i64 xo, .string xp, .int .i64 xs, .string xk, .string xv] 42))
      go_wp2_with (at_mapUpdate; refine wpList_mapUpdate_own _ rfl _ _ _ 218 rfl 9 3 keyedS Tryz.underlying218 _ w.heap.size k D rfl OM2.out (by unfold maxLen; omega) _ _ _ rfl rfl HK.out _ [] HV.out ?_; intro w1 h1 h2)
      refine ⟨⟨k + 1, _, by omega, by go_num, h1, HS.out, ?_⟩, by simp [intOf]; omega⟩
      exact BV2.out.grown h2 BV2.out.size (fun j hj => by injection hj with hj; omega)
    · have hi1 : ¬ (k : Int) < (l.length : Int) := by omega
      have e : k = l.length := by omega
      have LS2 := hide (e ▸ LS.out)
      clear e
      go_wp2
      go_ret
      exact ⟨_, rfl, Nat.le_refl _, _, D, OM.out, LS2.out, BV.out⟩
end Go.Proofs.YtlfodldlkchmoaaGreat.Y
namespace Go.Proofs.YtlfodldlkchmoaaGreat.Y
open Go.RowKit Go.Maps
set_option maxHeartbeats 2000000
set_option maxRecDepth 100000
theorem key_empty (r : Rec) (h : r.key.data.toList = []) : r.key = ⟨#[]⟩ := by
  obtain ⟨o, p, s, ⟨⟨k⟩⟩, v⟩ := r
  simp only at h
  subst h
  rfl
theorem goes_any (upto : Int) (l : List Rec) (i : Nat) (hi : i < l.length) (hok : l[i].ok) (mb n : Nat) (D : DataW Nat) (hD : Lasts l l.length D) (w : World) (hown : w.ownsMap Tryz.prog 9 (plainElem Tryz.prog 3) mb n D) :
    Calls Tryz.prog 168 #[l[i].v, .int .i64 i, .map (some mb), .int .i64 upto] w fun e w' => e = .returned (.bool (goesF upto l[i] (l.drop (i + 1)))) ∧ Below w.heap.size w w' := by
  have hlast := laterF_last l l[i].kl i
  have hat := hD.2 l[i].kl
  have hli := lastIx_le l l[i].kl l.length
  unfold goesF
  rw [hlast]
  generalize lastIx l l[i].kl l.length = c at *
  clear hlast hD
  generalize l[i] = x at *
  have HO := hide (hown.alloc (.cells #[.int .i64 x.off, .string x.prod, .int .i64 x.seq, .string x.key, .string x.val] 42))
  have HB := hide ((Below.refl w.heap.size w).alloc (Nat.le_refl _) (.cells #[.int .i64 x.off, .string x.prod, .int .i64 x.seq, .string x.key, .string x.val] 42))
  obtain ⟨xo, xp, xs, xk, xv⟩ := x
  simp only [Rec.v, Rec.kl] at *
  clear hown
  by_cases hk : xk.data.toList = []
  · have hk2 := key_empty ⟨xo, xp, xs, xk, xv⟩ hk
    simp only at hk2
    subst hk2
    simp
    go_enter Tryz.func168, Tryz.ntmps168
    go_wp2
    go_ret
    exact ⟨rfl, HB.out⟩
  · have hke : xk.toList.isEmpty = false := by rw [ByteArray.toList_eq]; simpa using hk
    obtain ⟨c', hlk, hc', _⟩ := HO.out.lookup_int keyedS Tryz.underlying218 Tryz.underlying3 (zeroInt _) (Go.WideMaps.keyOf_string_mk Tryz.underlying9 (s := xk) (by obtain ⟨_, _, _, _, _, h, _⟩ := hok; simp only at h; unfold maxLen; omega))
    have e : (c : Int) = c' := by rw [hat] at hc'; injection hc' with hc'; injection hc'
    subst e
    have e1 : xk.data.toList.isEmpty = false := by simpa using hk
    rw [e1]
    simp only [Bool.not_false, Bool.true_and]
    clear hc' hat e1 hk
    by_cases h1 : i < c
    · have h1' : (i : Int) < (c : Int) := by omega
      have e2 : decide (i < c) = true := decide_eq_true h1
      rw [e2]
      simp only [Bool.true_and]
      clear e2 h1
      by_cases h2 : xo < upto
      · have e3 : decide (xo < upto) = true := decide_eq_true h2
        rw [e3]
        go_enter Tryz.func168, Tryz.ntmps168
        go_wp2
        go_ret
        exact ⟨rfl, HB.out⟩
      · have e3 : decide (xo < upto) = false := decide_eq_false h2
        rw [e3]
        go_enter Tryz.func168, Tryz.ntmps168
        go_wp2
        go_ret
        exact ⟨rfl, HB.out⟩
    · have h1' : ¬ (i : Int) < (c : Int) := by omega
      have e2 : decide (i < c) = false := decide_eq_false h1
      rw [e2]
      simp only [Bool.false_and]
      clear e2 h1
      go_enter Tryz.func168, Tryz.ntmps168
      go_wp2
      go_ret
      exact ⟨rfl, HB.out⟩
end Go.Proofs.YtlfodldlkchmoaaGreat.Y
namespace Go.Proofs.YtlfodldlkchmoaaGreat.Y
open Go.RowKit Go.Maps
end Go.Proofs.YtlfodldlkchmoaaGreat.Y
namespace Go.Proofs.YtlfodldlkchmoaaGreat.Y
open Go.RowKit Go.Maps
set_option maxRecDepth 100000
theorem Tryz.infoRec : Tryz.prog.info? 42 = some Tryz.t42 := by kernel_rfl
theorem Tryz.zeroRec : Tryz.t42.zero = some (.agg #[.int .i64 0, .string ⟨#[]⟩, .int .i64 0, .string ⟨#[]⟩, .string ⟨#[]⟩]) := by kernel_rfl
theorem Tryz.sizeRec : Tryz.t42.size = 5 := by kernel_rfl
theorem Tryz.bytesRec : Tryz.t42.bytes = 64 := by kernel_rfl
theorem Tryz.infoI : Tryz.prog.info? 3 = some Tryz.t3 := by kernel_rfl
theorem Tryz.zeroI : Tryz.t3.zero = some (.int .i64 0) := by kernel_rfl
theorem Tryz.sizeI : Tryz.t3.size = 1 := by kernel_rfl
theorem Tryz.bytesI : Tryz.t3.bytes = 8 := by kernel_rfl
theorem rec_ones (a c : Int) (b d e : ByteArray) : ∀ u ∈ [Value.int .i64 a, .string b, .int .i64 c, .string d, .string e], u.oneCell' = true := by
  intro u hu
  simp at hu
  rcases hu with rfl | rfl | rfl | rfl | rfl <;> rfl
theorem nil_own (w : World) (B : Nat) (e : TypeId) (z : Nat) : w.ownsRow B e z (.slice none 0 0) 0 [] := ⟨by simp, .inl ⟨rfl, rfl⟩⟩
theorem own_below {w w' : World} {B e z : Nat} {v : Value} {n : Nat} {xs : List Value} (h : w.ownsRow B e z v n xs) (hb : Below w.heap.size w w') : w'.ownsRow B e z v n xs := below_row hb h
end Go.Proofs.YtlfodldlkchmoaaGreat.Y
namespace Go.Proofs.YtlfodldlkchmoaaGreat.Y
open Go.Shelf Go.RowKit
set_option maxRecDepth 100000
def shren : Go.Shelf.Ren := ⟨fun | 316 => 86 | n => n, fun | 0 => 0 | 3 => 3 | 4 => 4 | 5 => 5 | 9 => 9 | 37 => 177 | 127 => 178 | n => n, fun | n => n⟩
theorem sh316 : Go.Proofs.LaysM.n316 Tryz.prog shren := {
  mixed := by kernel_rfl
  f316 := Tryz.func86.trans (congrArg some (by kernel_rfl))
  t0 := Tryz.underlying0
  a0 := Tryz.isAgg0
  z0 := Tryz.sizeOf0
  v0 := Tryz.zeroValue0
  t3 := Tryz.underlying3
  a3 := Tryz.isAgg3
  z3 := Tryz.sizeOf3
  v3 := Tryz.zeroValue3
  t4 := Tryz.underlying4
  a4 := Tryz.isAgg4
  z4 := Tryz.sizeOf4
  v4 := Tryz.zeroValue4
  t9 := Tryz.underlying9
  a9 := Tryz.isAgg9
  z9 := Tryz.sizeOf9
  v9 := Tryz.zeroValue9
  t37 := Tryz.underlying177
  a37 := Tryz.isAgg177
  z37 := Tryz.sizeOf177
  v37 := Tryz.zeroValue177
  t127 := Tryz.underlying178
  a127 := Tryz.isAgg178
  z127 := Tryz.sizeOf178
  v127 := Tryz.zeroValue178
  t5 := Tryz.underlying5
  a5 := Tryz.isAgg5
  z5 := Tryz.sizeOf5
  v5 := Tryz.zeroValue5
  i0 := by kernel_rfl
  i3 := by kernel_rfl
  i4 := by kernel_rfl
  i5 := by kernel_rfl
  i9 := by kernel_rfl
  i37 := by kernel_rfl
  i127 := by kernel_rfl }
theorem liteClone (s : ByteArray) (w : World) (hlim : s.size ≤ 281474976710656) :
    Calls Tryz.prog 86 #[.string s] w fun e w' => e = .returned (.string s) ∧ Below w.heap.size w w' := Any.stringslite_Clone sh316 s w hlim
theorem clone_any (s : ByteArray) (w : World) (hs : s.size ≤ 281474976710656) :
    Calls Tryz.prog 42 #[.string s] w fun e w' => e = .returned (.string s) ∧ Below w.heap.size w w' := by
  go_enter Tryz.func42, Tryz.ntmps42
  go_wp2_with (go_at_call 86; refine (liteClone _ _ hs).mono ?_; rintro e w' ⟨rfl, hb⟩)
  go_ret
  exact ⟨rfl, hb⟩
end Go.Proofs.YtlfodldlkchmoaaGreat.Y
