/-
  Deeds and rows of numbers that came in (mktk.py).
-/
import Derived.Test.YtfoomgdlbkjaeaaGreatRows
import Derived.Test.YtfoomgdlbkjaeaaGreatZM0
import Derived.ProofKit
import Derived.OpenShut
import Derived.ShutString
import Derived.ChangeOld
import Derived.SizedLaws
import Derived.Deep.Slices
import Derived.Deep.Strs
namespace Go.Proofs.YtfoomgdlbkjaeaaGreat
open Go.ChangeShapes Go.WideShapes Go.ChangeAt Go.RowKit Go.Deep Go.Maps
theorem own : ownKnob Tryz.prog.godebug = none := by kernel_rfl
structure DE where
  kind : Int
  prod : ByteArray
  seq : Int
  key : ByteArray
  val : ByteArray
  n : Int
  most : Int
def i64Ok (a : Int) : Prop := -9223372036854775808 ≤ a ∧ a ≤ 9223372036854775807
def DE.ok (o : DE) : Prop := i64Ok o.kind ∧ o.prod.size ≤ 140737488351232 ∧ i64Ok o.seq ∧ o.key.size ≤ 140737488351232 ∧ o.val.size ≤ 140737488351232 ∧ i64Ok o.n ∧ i64Ok o.most
structure DEAt (w : World) (b off : Nat) (o : DE) : Prop where
  c0 : w.cell? ⟨b, off, none⟩ = some (.int .i64 o.kind)
  c1 : w.cell? ⟨b, off + 1, none⟩ = some (.string o.prod)
  c2 : w.cell? ⟨b, off + 2, none⟩ = some (.int .i64 o.seq)
  c3 : w.cell? ⟨b, off + 3, none⟩ = some (.string o.key)
  c4 : w.cell? ⟨b, off + 4, none⟩ = some (.string o.val)
  c5 : w.cell? ⟨b, off + 5, none⟩ = some (.int .i64 o.n)
  c6 : w.cell? ⟨b, off + 6, none⟩ = some (.int .i64 o.most)
def DEsAt (w : World) (ao : Option Addr) (l : List DE) : Prop := ∀ i (hi : i < l.length), ∃ b off, ao = some ⟨b, off, none⟩ ∧ b < w.heap.size ∧ DEAt w b (off + i * 7) l[i]
structure DEs (w : World) (ao : Option Addr) (l : List DE) : Prop where
  all : DEsAt w ao l
  ok : ∀ o ∈ l, o.ok
  len : l.length ≤ 4611686018427387904
theorem DEsAt.below {w w1 : World} {ao : Option Addr} {l : List DE} (h : DEsAt w ao l) (hb : RowKit.Below w.heap.size w w1) : DEsAt w1 ao l := fun i hi => by
  obtain ⟨b, off, h1, h2, h3⟩ := h i hi
  exact ⟨b, off, h1, Nat.lt_of_lt_of_le h2 hb.size, (hb.cell (p := ⟨b, _, none⟩) h2).trans h3.c0, (hb.cell (p := ⟨b, _, none⟩) h2).trans h3.c1, (hb.cell (p := ⟨b, _, none⟩) h2).trans h3.c2, (hb.cell (p := ⟨b, _, none⟩) h2).trans h3.c3, (hb.cell (p := ⟨b, _, none⟩) h2).trans h3.c4, (hb.cell (p := ⟨b, _, none⟩) h2).trans h3.c5, (hb.cell (p := ⟨b, _, none⟩) h2).trans h3.c6⟩
theorem addr_add (b off n : Nat) : (⟨b, off, none⟩ : Addr).add n = ⟨b, off + n, none⟩ := by
  unfold Addr.add
  split
  · rename_i h; subst h; rfl
  · rfl
end Go.Proofs.YtfoomgdlbkjaeaaGreat
