/-
  The codec's calls as plain functions on lists of bytes and items: what the walks are held against; nothing of the program is in this text.
-/
import Derived.Test.YtmkkcgkakomacaaGreatZSh
import Derived.Sort.OwnSorted
import Derived.Sort.KeysCollected
import Derived.Shelf.Strings.Builder1
import Derived.Shelf.Strings.Builder2
import Derived.Shelf.Strings.BuilderK
import Derived.Shelf.Small.Strs
import Derived.Shelf.LaysM
import Derived.Shelf.Strconv.Clone
import Derived.Shelf.Strings.Search1
import Derived.Test.YtmkkcgkakomacaaGreatProg
import Derived.Lib.Endian
import Derived.Lib.Bytealg
import Derived.Lib.Strings
import Derived.Test.YtmkkcgkakomacaaGreatRows
import Derived.WalkKit
import Derived.WalkSpells
import Derived.WalkLawsBesides
import Derived.BigQuiet
import Derived.Lib.EndianBits
import Derived.Lib.IndexBytes
namespace Go.Proofs.YtmkkcgkakomacaaGreat.Y
open Go.RowKit Go.Maps
set_option maxHeartbeats 1000000
set_option maxRecDepth 100000
open Go.Sort Go.Shelf
def dnames (D : DataW Nat) : List (List UInt8) := (strKeys D).mergeSort leB
def keysFn (b : Nat) : Value := .func (.func 68) #[] #[.pointer (some ⟨b, 0, none⟩)]
theorem tkeys (mb : Nat) (w : World) : Calls Tryz.prog 38 #[.map (some mb)] w fun e w' => e = .returned (keysFn w.heap.size) ∧ w' = w.alloc (.cells #[.map (some mb)] 50) :=
  (callsIn_wide (n := 5)).1 (AnyZ.keys_in Tryz.shKeys Fence.wide 5 trivial rfl (some mb) w)
theorem tsorted {mb n : Nat} {D : DataW Nat} {w : World} (hown : w.ownsMap Tryz.prog 9 lastR mb n D) (hn : n < 1000000000) :
    Calls Tryz.prog 37 #[keysFn w.heap.size] (w.alloc (.cells #[.map (some mb)] 50)) fun e w' => ∃ ao cp, e = .returned (.slice ao (dnames D).length cp) ∧ w'.ownsRow w.heap.size 9 1 (.slice ao (dnames D).length cp) (dnames D).length ((dnames D).map encStr) ∧ Below w.heap.size w w' := by
  have hsz := hown.size_le
  have hmax : Maps.size D ≤ maxLen := by unfold maxLen; omega
  have hbl := hown.lt
  have hseq : SeqGives Fence.wide 2 Tryz.prog 68 #[.pointer (some ⟨w.heap.size, 0, none⟩)] encStr (fun ss => ss.Perm (strKeys D)) (Maps.size D) (w.alloc (.cells #[.map (some mb)] 50)) :=
    AnyZ.keys_gives (ρ := Tryz.shKeys_ren) { Tryz.shKeys with } Fence.wide _ trivial rfl (by omega) w.heap.size mb n D _ (by simp) (by simp) (hown.alloc _)
  have hsorts : AnyZ.SortsIn Tryz.prog Tryz.shSorted_ren Fence.wide 4 :=
    ⟨fun blk off cap ss W hH hblk hsz => callsIn_wide.2 (AnyM.slices_Sort_string Tryz.shSort blk off cap ss W hH hblk hsz), fun p cap W => callsIn_wide.2 (AnyM.slices_Sort_string_none Tryz.shSort p cap W)⟩
  have hS := AnyZ.sorted_in Tryz.shSorted Fence.wide 5 trivial trivial trivial trivial rfl (by omega) hsorts (enters_of Tryz.func67 (by kernel_rfl) rfl) 68 #[.pointer (some ⟨w.heap.size, 0, none⟩)] trivial (enters_of Tryz.func68 (by kernel_rfl) rfl) _ _ hmax (by omega) _ hseq
  refine ((callsIn_wide (n := 5)).1 hS).mono ?_
  rintro e w' ⟨v, ss, rfl, hP, hrow, hnil, hb⟩
  have e1 : ss.mergeSort (fun x y => decide (x ≤ y)) = dnames D := mergeSort_of_perm hP
  have e2 : ss.length = (dnames D).length := by rw [← e1, List.length_mergeSort]
  rw [e1, e2] at hrow
  obtain ⟨ao, cp, rfl⟩ := row_slice hrow
  exact ⟨ao, cp, rfl, ownsRow_base_a hrow (by simp), ((Below.refl _ w).alloc (Nat.le_refl _) _).trans (hb.mono (by simp))⟩
end Go.Proofs.YtmkkcgkakomacaaGreat.Y
namespace Go.Proofs.YtmkkcgkakomacaaGreat.K
open Go.Shelf Go.RowKit
def Tryz.shren : Go.Shelf.Ren := ⟨fun | 137 => 138 | 165 => 71 | 166 => 93 | 167 => 125 | 169 => 73 | 217 => 143 | 240 => 90 | 241 => 91 | 266 => 147 | 276 => 123 | 277 => 124 | 316 => 55 | n => n, fun | 0 => 0 | 3 => 3 | 4 => 4 | 5 => 5 | 9 => 9 | 20 => 20 | 37 => 111 | 70 => 110 | 72 => 113 | 75 => 139 | 80 => 41 | 127 => 128 | 164 => 162 | n => n, fun | n => n⟩
theorem Tryz.sh165 : Go.Proofs.Lays.n165 Tryz.prog Tryz.shren := {
  mixed := by kernel_rfl
  f165 := Tryz.func71.trans (congrArg some (by kernel_rfl))
  f240 := Tryz.func90.trans (congrArg some (by kernel_rfl))
  f241 := Tryz.func91.trans (congrArg some (by kernel_rfl))
  f276 := Tryz.func123.trans (congrArg some (by kernel_rfl))
  f277 := Tryz.func124.trans (congrArg some (by kernel_rfl))
  t0 := Tryz.underlying0
  a0 := Tryz.isAgg0
  z0 := Tryz.sizeOf0
  v0 := Tryz.zeroValue0
  t3 := Tryz.underlying3
  a3 := Tryz.isAgg3
  z3 := Tryz.sizeOf3
  v3 := Tryz.zeroValue3
  t4 := Tryz.underlying4
  a4 := Tryz.isAgg4
  z4 := Tryz.sizeOf4
  v4 := Tryz.zeroValue4
  t9 := Tryz.underlying9
  a9 := Tryz.isAgg9
  z9 := Tryz.sizeOf9
  v9 := Tryz.zeroValue9
  t20 := Tryz.underlying20
  a20 := Tryz.isAgg20
  z20 := Tryz.sizeOf20
  v20 := Tryz.zeroValue20
  t37 := Tryz.underlying111
  a37 := Tryz.isAgg111
  z37 := Tryz.sizeOf111
  v37 := Tryz.zeroValue111
  t70 := Tryz.underlying110
  a70 := Tryz.isAgg110
  z70 := Tryz.sizeOf110
  v70 := Tryz.zeroValue110
  t72 := Tryz.underlying113
  a72 := Tryz.isAgg113
  z72 := Tryz.sizeOf113
  v72 := Tryz.zeroValue113
  t164 := Tryz.underlying162
  a164 := Tryz.isAgg162
  z164 := Tryz.sizeOf162
  v164 := Tryz.zeroValue162 }
theorem Tryz.sh166 : Go.Proofs.Lays.n166 Tryz.prog Tryz.shren := {
  mixed := by kernel_rfl
  f166 := Tryz.func93.trans (congrArg some (by kernel_rfl))
  f240 := Tryz.func90.trans (congrArg some (by kernel_rfl))
  f276 := Tryz.func123.trans (congrArg some (by kernel_rfl))
  t0 := Tryz.underlying0
  a0 := Tryz.isAgg0
  z0 := Tryz.sizeOf0
  v0 := Tryz.zeroValue0
  t3 := Tryz.underlying3
  a3 := Tryz.isAgg3
  z3 := Tryz.sizeOf3
  v3 := Tryz.zeroValue3
  t4 := Tryz.underlying4
  a4 := Tryz.isAgg4
  z4 := Tryz.sizeOf4
  v4 := Tryz.zeroValue4
  t9 := Tryz.underlying9
  a9 := Tryz.isAgg9
  z9 := Tryz.sizeOf9
  v9 := Tryz.zeroValue9
  t20 := Tryz.underlying20
  a20 := Tryz.isAgg20
  z20 := Tryz.sizeOf20
  v20 := Tryz.zeroValue20
  t37 := Tryz.underlying111
  a37 := Tryz.isAgg111
  z37 := Tryz.sizeOf111
  v37 := Tryz.zeroValue111
  t70 := Tryz.underlying110
  a70 := Tryz.isAgg110
  z70 := Tryz.sizeOf110
  v70 := Tryz.zeroValue110
  t72 := Tryz.underlying113
  a72 := Tryz.isAgg113
  z72 := Tryz.sizeOf113
  v72 := Tryz.zeroValue113
  t75 := Tryz.underlying139
  a75 := Tryz.isAgg139
  z75 := Tryz.sizeOf139
  v75 := Tryz.zeroValue139
  t164 := Tryz.underlying162
  a164 := Tryz.isAgg162
  z164 := Tryz.sizeOf162
  v164 := Tryz.zeroValue162 }
theorem Tryz.sh167 : Go.Proofs.Lays.n167 Tryz.prog Tryz.shren := {
  mixed := by kernel_rfl
  f167 := Tryz.func125.trans (congrArg some (by kernel_rfl))
  f240 := Tryz.func90.trans (congrArg some (by kernel_rfl))
  f276 := Tryz.func123.trans (congrArg some (by kernel_rfl))
  t0 := Tryz.underlying0
  a0 := Tryz.isAgg0
  z0 := Tryz.sizeOf0
  v0 := Tryz.zeroValue0
  t4 := Tryz.underlying4
  a4 := Tryz.isAgg4
  z4 := Tryz.sizeOf4
  v4 := Tryz.zeroValue4
  t5 := Tryz.underlying5
  a5 := Tryz.isAgg5
  z5 := Tryz.sizeOf5
  v5 := Tryz.zeroValue5
  t9 := Tryz.underlying9
  a9 := Tryz.isAgg9
  z9 := Tryz.sizeOf9
  v9 := Tryz.zeroValue9
  t20 := Tryz.underlying20
  a20 := Tryz.isAgg20
  z20 := Tryz.sizeOf20
  v20 := Tryz.zeroValue20
  t37 := Tryz.underlying111
  a37 := Tryz.isAgg111
  z37 := Tryz.sizeOf111
  v37 := Tryz.zeroValue111
  t70 := Tryz.underlying110
  a70 := Tryz.isAgg110
  z70 := Tryz.sizeOf110
  v70 := Tryz.zeroValue110
  t72 := Tryz.underlying113
  a72 := Tryz.isAgg113
  z72 := Tryz.sizeOf113
  v72 := Tryz.zeroValue113
  t75 := Tryz.underlying139
  a75 := Tryz.isAgg139
  z75 := Tryz.sizeOf139
  v75 := Tryz.zeroValue139
  t164 := Tryz.underlying162
  a164 := Tryz.isAgg162
  z164 := Tryz.sizeOf162
  v164 := Tryz.zeroValue162 }
theorem Tryz.sh169 : Go.Proofs.Lays.n169 Tryz.prog Tryz.shren := {
  mixed := by kernel_rfl
  f169 := Tryz.func73.trans (congrArg some (by kernel_rfl))
  t0 := Tryz.underlying0
  a0 := Tryz.isAgg0
  z0 := Tryz.sizeOf0
  v0 := Tryz.zeroValue0
  t3 := Tryz.underlying3
  a3 := Tryz.isAgg3
  z3 := Tryz.sizeOf3
  v3 := Tryz.zeroValue3
  t9 := Tryz.underlying9
  a9 := Tryz.isAgg9
  z9 := Tryz.sizeOf9
  v9 := Tryz.zeroValue9
  t37 := Tryz.underlying111
  a37 := Tryz.isAgg111
  z37 := Tryz.sizeOf111
  v37 := Tryz.zeroValue111
  t70 := Tryz.underlying110
  a70 := Tryz.isAgg110
  z70 := Tryz.sizeOf110
  v70 := Tryz.zeroValue110
  t72 := Tryz.underlying113
  a72 := Tryz.isAgg113
  z72 := Tryz.sizeOf113
  v72 := Tryz.zeroValue113
  t127 := Tryz.underlying128
  a127 := Tryz.isAgg128
  z127 := Tryz.sizeOf128
  v127 := Tryz.zeroValue128 }
theorem Tryz.sh137 : Go.Proofs.Lays.n137 Tryz.prog Tryz.shren := {
  mixed := by kernel_rfl
  f137 := Tryz.func138.trans (congrArg some (by kernel_rfl))
  f217 := Tryz.func143.trans (congrArg some (by kernel_rfl))
  f266 := Tryz.func147.trans (congrArg some (by kernel_rfl))
  t3 := Tryz.underlying3
  a3 := Tryz.isAgg3
  z3 := Tryz.sizeOf3
  v3 := Tryz.zeroValue3
  t5 := Tryz.underlying5
  a5 := Tryz.isAgg5
  z5 := Tryz.sizeOf5
  v5 := Tryz.zeroValue5
  t9 := Tryz.underlying9
  a9 := Tryz.isAgg9
  z9 := Tryz.sizeOf9
  v9 := Tryz.zeroValue9 }
theorem Tryz.sh316 : Go.Proofs.LaysM.n316 Tryz.prog Tryz.shren := {
  mixed := by kernel_rfl
  f316 := Tryz.func55.trans (congrArg some (by kernel_rfl))
  t0 := Tryz.underlying0
  a0 := Tryz.isAgg0
  z0 := Tryz.sizeOf0
  v0 := Tryz.zeroValue0
  t3 := Tryz.underlying3
  a3 := Tryz.isAgg3
  z3 := Tryz.sizeOf3
  v3 := Tryz.zeroValue3
  t4 := Tryz.underlying4
  a4 := Tryz.isAgg4
  z4 := Tryz.sizeOf4
  v4 := Tryz.zeroValue4
  t9 := Tryz.underlying9
  a9 := Tryz.isAgg9
  z9 := Tryz.sizeOf9
  v9 := Tryz.zeroValue9
  t37 := Tryz.underlying111
  a37 := Tryz.isAgg111
  z37 := Tryz.sizeOf111
  v37 := Tryz.zeroValue111
  t127 := Tryz.underlying128
  a127 := Tryz.isAgg128
  z127 := Tryz.sizeOf128
  v127 := Tryz.zeroValue128
  t5 := Tryz.underlying5
  a5 := Tryz.isAgg5
  z5 := Tryz.sizeOf5
  v5 := Tryz.zeroValue5
  i0 := by kernel_rfl
  i3 := by kernel_rfl
  i4 := by kernel_rfl
  i5 := by kernel_rfl
  i9 := by kernel_rfl
  i37 := by kernel_rfl
  i127 := by kernel_rfl }
theorem Tryz.shX : Builder.Extra Tryz.prog Tryz.shren := {
  sizeBuilder := by kernel_rfl
  liesBuilder := by kernel_rfl
  t5 := Tryz.underlying5
  a5 := Tryz.isAgg5
  z5 := Tryz.sizeOf5
  v5 := Tryz.zeroValue5
  infoByte := by kernel_rfl
  cellsByte := by kernel_rfl
  sizeByte := by kernel_rfl
  neB5 := by decide }
theorem Tryz.WriteByte (B b : Nat) (bs : List Value) (c : Int) (w : World) (h : Lib.IsBuilderF 113 5 B b bs w) (hlen : bs.length + 1 ≤ 140737488355328) (hBw : B ≤ w.heap.size) :
    Calls Tryz.prog 125 #[.pointer (some ⟨b, 0, none⟩), .int .u8 c] w fun e w' => e = .returned .nilIface ∧ (Lib.BuilderAtF 113 5 B b (.pointer (some ⟨b, 0, none⟩)) (bs ++ [.int .u8 c]) w' ∧ Below B w w' ∧ Lib.OthersKept 5 (some b) w w') := Any.Builder_WriteByte_k Tryz.sh167 Tryz.shX B b bs c w h hlen hBw
theorem Tryz.WriteString (B b : Nat) (bs : List Value) (s : ByteArray) (w : World) (h : Lib.IsBuilderF 113 5 B b bs w) (hlen : bs.length + s.size ≤ 140737488355328) (hBw : B ≤ w.heap.size) :
    Calls Tryz.prog 93 #[.pointer (some ⟨b, 0, none⟩), .string s] w fun e w' => e = .returned (.tuple #[.int .i64 s.size, .nilIface]) ∧ (Lib.BuilderAtF 113 5 B b (.pointer (some ⟨b, 0, none⟩)) (bs ++ Lib.strCells s) w' ∧ Below B w w' ∧ Lib.OthersKept 5 (some b) w w') := Any.Builder_WriteString_k Tryz.sh166 Tryz.shX B b bs s w h hlen hBw
theorem Tryz.BString (B b : Nat) (l : List UInt8) (w : World) (h : Lib.IsBuilderF 113 5 B b (Lib.byteCells l) w) (hBw : B ≤ w.heap.size) :
    Calls Tryz.prog 73 #[.pointer (some ⟨b, 0, none⟩)] w fun e w' => e = .returned (.string ⟨l.toArray⟩) ∧ (Lib.IsBuilderF 113 5 B b (Lib.byteCells l) w' ∧ Below B w w' ∧ Lib.OthersKept 5 (some b) w w') := Any.Builder_String_any_k Tryz.sh169 Tryz.shX B b l w h hBw
theorem Tryz.Grow (B b n : Nat) (w : World) (hB : B ≤ b) (hbk : w.heap[b]? = some (.cells #[.pointer none, .slice none 0 0] 113 (0, 0))) (hBw : B ≤ w.heap.size) (hn : n ≤ 281474976710656) :
    Calls Tryz.prog 71 #[.pointer (some ⟨b, 0, none⟩), .int .i64 n] w fun e w' => e = .returned (.tuple #[]) ∧ (Lib.BuilderAt 113 5 B b (.pointer (some ⟨b, 0, none⟩)) [] w' ∧ Below B w w') := Any.Builder_Grow_fresh Tryz.sh165 Tryz.shX B b n w hB hbk hBw hn
theorem Tryz.IndexByte (s : ByteArray) (c : Int) (w : World) :
    Calls Tryz.prog 138 #[.string s, .int .u8 c] w fun e w' => e = .returned (.int .i64 (Lib.indexByte s.data.toList c.toNat.toUInt8)) ∧ w' = w := Any.strings_IndexByte Tryz.sh137 s c w
theorem Tryz.liteIndexByte (s : ByteArray) (c : Int) (w : World) :
    Calls Tryz.prog 143 #[.string s, .int .u8 c] w fun e w' => e = .returned (.int .i64 (Lib.indexByte s.data.toList c.toNat.toUInt8)) ∧ w' = w := Any.stringslite_IndexByte { Tryz.sh137 with } s c w
theorem Tryz.liteClone (s : ByteArray) (w : World) (hlim : s.size ≤ 281474976710656) :
    Calls Tryz.prog 55 #[.string s] w fun e w' => e = .returned (.string s) ∧ Below w.heap.size w w' := Any.stringslite_Clone Tryz.sh316 s w hlim
end Go.Proofs.YtmkkcgkakomacaaGreat.K
namespace Go.Proofs.YtmkkcgkakomacaaGreat.K
structure It where
  k : Int
  n : Int
  s : ByteArray
def It.zero : It := ⟨0, 0, ⟨#[]⟩⟩
def It.ok (x : It) : Prop := -9223372036854775808 ≤ x.k ∧ x.k ≤ 9223372036854775807 ∧ 0 ≤ x.n ∧ x.n < 18446744073709551616 ∧ x.s.size ≤ 9223372036854775807
def widthN (k : Int) : Nat := if k = 1 then 1 else if k = 3 then 8 else 4
def kindB (k : Int) : Bool := decide (1 ≤ k) && decide (k ≤ 4)
def faultF (x : It) : Int :=
  if kindB x.k = false then 1
  else if x.k ≠ 4 ∧ (x.s.size ≠ 0 ∨ ¬ x.n < 256 ^ widthN x.k) then 1
  else if x.k = 4 ∧ x.n ≠ 0 then 1
  else if 100000 < x.s.size then 3 else 0
def numOf (x : It) : Nat := if x.k = 4 then x.s.size else x.n.toNat
def itemB (x : It) : List UInt8 := Lib.beBytes (widthN x.k) (numOf x) ++ x.s.data.toList
def firstFault : List It → Int
  | [] => 0
  | x :: l => if faultF x = 0 then firstFault l else faultF x
def encF (l : List It) : List UInt8 × Int :=
  if 1000 < l.length then ([], 3) else if firstFault l = 0 then (l.flatMap itemB, 0) else ([], firstFault l)
def letterF (k : Int) : UInt8 := if k = 1 then 98 else if k = 2 then 119 else if k = 3 then 108 else 116
def shapeF (l : List It) : List UInt8 × Int := if l.all (fun x => kindB x.k) = true then (l.map fun x => letterF x.k, 0) else ([], 1)
def letters : List UInt8 := [98, 119, 108, 116]
def kindOfL (c : UInt8) : Int := Lib.indexByte letters c + 1
def isLetter (c : UInt8) : Bool := decide (0 ≤ Lib.indexByte letters c)
def allL (l : List UInt8) : Bool := l.all isLetter
def itemF (c : UInt8) (s : List UInt8) : It × List UInt8 × Int :=
  if s.length < widthN (kindOfL c) then (It.zero, [], 2)
  else if kindOfL c = 4 then
    if 100000 < Lib.beNat (s.take 4) then (It.zero, [], 3)
    else if (s.drop 4).length < Lib.beNat (s.take 4) then (It.zero, [], 2)
    else (⟨4, 0, ⟨((s.drop 4).take (Lib.beNat (s.take 4))).toArray⟩⟩, (s.drop 4).drop (Lib.beNat (s.take 4)), 0)
  else (⟨kindOfL c, Lib.beNat (s.take (widthN (kindOfL c))), ⟨#[]⟩⟩, s.drop (widthN (kindOfL c)), 0)
def readF : Nat → List UInt8 → Nat → List UInt8 → List UInt8 → List It × Int
  | 0, _, _, _, _ => ([], 0)
  | f + 1, again, m, [], rest => if rest = [] then ([], 0) else if again = [] then ([], 10) else readF f again m again rest
  | f + 1, again, m, c :: t, rest =>
    if m = 1000 then ([], 3)
    else if (itemF c rest).2.2 = 0 then
      if (readF f again (m + 1) t (itemF c rest).2.1).2 = 0 then ((itemF c rest).1 :: (readF f again (m + 1) t (itemF c rest).2.1).1, 0)
      else ([], (readF f again (m + 1) t (itemF c rest).2.1).2)
    else ([], (itemF c rest).2.2)
def cutStar (s : List UInt8) : List UInt8 × List UInt8 × Bool :=
  if Lib.indexByte s 42 < 0 then (s, [], false) else (s.take (Lib.indexByte s 42).toNat, s.drop ((Lib.indexByte s 42).toNat + 1), true)
def shapeOk (s : List UInt8) : Bool :=
  !((cutStar s).2.2 && (cutStar s).2.1.isEmpty) && (allL (cutStar s).1 && allL (cutStar s).2.1)
def decF (shape s : List UInt8) : List It × Int :=
  if shapeOk shape = true then readF (2 * s.length + 2) (cutStar shape).2.1 0 (cutStar shape).1 s else ([], 1)
theorem beFrom_snoc (l : List UInt8) (a : Nat) (c : UInt8) : Lib.beFrom a (l ++ [c]) = Lib.beFrom a l * 256 + c.toNat := by
  induction l generalizing a with
  | nil => rfl
  | cons b r ih => simp [Lib.beFrom, ih]
theorem beNat_snoc (l : List UInt8) (c : UInt8) : Lib.beNat (l ++ [c]) = Lib.beNat l * 256 + c.toNat := beFrom_snoc l 0 c
theorem beFrom_lt (l : List UInt8) (a : Nat) : Lib.beFrom a l < (a + 1) * 256 ^ l.length := by
  induction l generalizing a with
  | nil => simp [Lib.beFrom]
  | cons b r ih =>
    have h1 := ih (a * 256 + b.toNat)
    have h2 := b.toNat_lt
    simp only [Lib.beFrom, List.length_cons, Nat.pow_succ]
    refine Nat.lt_of_lt_of_le h1 ?_
    rw [Nat.mul_comm (256 ^ r.length) 256, ← Nat.mul_assoc]
    exact Nat.mul_le_mul_right _ (by omega)
theorem beNat_lt (l : List UInt8) : Lib.beNat l < 256 ^ l.length := by
  have := beFrom_lt l 0
  simpa [Lib.beNat] using this
end Go.Proofs.YtmkkcgkakomacaaGreat.K
namespace Go.Proofs.YtmkkcgkakomacaaGreat.K
open Go.RowKit
set_option maxHeartbeats 400000
theorem width_any (k : Int) (w : World) :
    Calls Tryz.prog 70 #[.int .i64 k] w fun e w' => e = .returned (.int .i64 (widthN k)) ∧ w' = w := by
  by_cases h1 : k = 1
  · subst h1
    go_enter Tryz.func70, Tryz.ntmps70
    go_wp2
    go_ret
    exact ⟨rfl, rfl⟩
  · by_cases h3 : k = 3
    · subst h3
      go_enter Tryz.func70, Tryz.ntmps70
      go_wp2
      go_ret
      exact ⟨rfl, rfl⟩
    · have a1 : (k == 1) = false := beq_eq_false_iff_ne.2 h1
      have a3 : (k == 3) = false := beq_eq_false_iff_ne.2 h3
      have hw : widthN k = 4 := by simp [widthN, h1, h3]
      rw [hw]
      clear hw h1 h3
      go_enter Tryz.func70, Tryz.ntmps70
      go_wp2
      go_ret
      exact ⟨rfl, rfl⟩
theorem isKind_any (k : Int) (w : World) :
    Calls Tryz.prog 88 #[.int .i64 k] w fun e w' => e = .returned (.bool (kindB k)) ∧ w' = w := by
  by_cases h1 : 1 ≤ k
  · by_cases h2 : k ≤ 4
    · have hk : kindB k = true := by simp [kindB, h1, h2]
      rw [hk]
      clear hk
      go_enter Tryz.func88, Tryz.ntmps88
      go_wp2
      go_ret
      exact ⟨rfl, rfl⟩
    · have hk : kindB k = false := by simp [kindB, h2]
      rw [hk]
      clear hk
      go_enter Tryz.func88, Tryz.ntmps88
      go_wp2
      go_ret
      exact ⟨rfl, rfl⟩
  · have hk : kindB k = false := by simp [kindB, h1]
    rw [hk]
    clear hk
    go_enter Tryz.func88, Tryz.ntmps88
    go_wp2
    go_ret
    exact ⟨rfl, rfl⟩
theorem ret_bool {a b : Bool} (h : a = b) : Ending.returned (.bool a) = .returned (.bool b) := by rw [h]
theorem ret_int {k : IntKind} {a b : Int} (h : a = b) : Ending.returned (.int k a) = .returned (.int k b) := by rw [h]
theorem fit1 (n : Int) (h0 : 0 ≤ n) : (n / 256 == 0) = decide (n < 256) := by
  rw [Bool.eq_iff_iff]; simp; omega
theorem fit4 (n : Int) (h0 : 0 ≤ n) : (n / 4294967296 == 0) = decide (n < 4294967296) := by
  rw [Bool.eq_iff_iff]; simp; omega
theorem fit8 (n : Int) (h0 : 0 ≤ n) : (n / 18446744073709551616 == 0) = decide (n < 256 ^ 8) := by
  have e : (256 : Int) ^ 8 = 18446744073709551616 := by decide
  rw [e, Bool.eq_iff_iff]; simp; omega
theorem fits_any (n : Int) (k : Nat) (w : World) (h0 : 0 ≤ n) (hk : k = 1 ∨ k = 4 ∨ k = 8) :
    Calls Tryz.prog 89 #[.int .u64 n, .int .i64 k] w fun e w' => e = .returned (.bool (decide (n < 256 ^ k))) ∧ w' = w := by
  rcases hk with rfl | rfl | rfl
  · go_enter Tryz.func89, Tryz.ntmps89
    go_wp2
    go_ret
    exact ⟨ret_bool (fit1 n h0), rfl⟩
  · go_enter Tryz.func89, Tryz.ntmps89
    go_wp2
    go_ret
    exact ⟨ret_bool (fit4 n h0), rfl⟩
  · go_enter Tryz.func89, Tryz.ntmps89
    go_wp2
    go_ret
    exact ⟨ret_bool (fit8 n h0), rfl⟩
theorem or_byte (m : Nat) (c : UInt8) (h : (m : Int) < 72057594037927936) : bits .or .u64 ((m : Int) * 256) (IntKind.u64.wrap (c.toNat : Int)) = ((m * 256 + c.toNat : Nat) : Int) := by
  have hc := c.toNat_lt
  have hw : IntKind.u64.wrap (c.toNat : Int) = (c.toNat : Int) := wraps_u64 _ (by omega) (by omega)
  rw [hw, bits_join .u64 64 (by decide) wraps_u64 8 ((m : Int) * 256) (c.toNat : Int) (by omega) (by omega) (by omega) (by omega) (by omega) (by omega)]
  omega
theorem take_snoc (s : ByteArray) (k : Nat) (h : k < s.size) : s.data.toList.take (k + 1) = s.data.toList.take k ++ [s[k]] := by
  rw [List.take_succ_eq_append_getElem (by simpa using h)]; rfl
theorem number_any (s : ByteArray) (w : World) (hs : s.size ≤ 8) :
    Calls Tryz.prog 140 #[.string s] w fun e w' => e = .returned (.int .u64 (Lib.beNat s.data.toList)) ∧ w' = w := by
  go_enter Tryz.func140, Tryz.ntmps140
  go_wp2
  go_loop [3, 7] (fun n i => ∃ k : Nat, k ≤ s.size ∧ i = .int .i64 k ∧ n = .int .u64 (Lib.beNat (s.data.toList.take k))) (fun _ i => s.size - (intOf i).toNat)
  case atStart => exact ⟨0, Nat.zero_le _, rfl, rfl⟩
  case round =>
    obtain ⟨k, hk, rfl, rfl⟩ := hrel
    by_cases hlt : k < s.size
    · have hb : Lib.beNat (s.data.toList.take k) < 256 ^ 7 := by
        refine Nat.lt_of_lt_of_le (beNat_lt _) (Nat.pow_le_pow_right (by omega) ?_)
        have := List.length_take_le k s.data.toList
        omega
      have hts := take_snoc s k hlt
      have HS : Hid (Lib.beNat (s.data.toList.take (k + 1)) = Lib.beNat (s.data.toList.take k) * 256 + s[k].toNat) := by rw [hts]; exact beNat_snoc _ _
      clear hts
      generalize Lib.beNat (s.data.toList.take k) = m at hb HS ⊢
      have hb' : (m : Int) < 72057594037927936 := by omega
      clear hb
      go_wp2
      go_round
      case rel => exact ⟨k + 1, by omega, by go_num, by rw [HS.out, or_byte m _ hb']⟩
      case measure => simp [intOf]; omega
    · go_wp2
      go_ret
      exact ⟨ret_int (by rw [List.take_of_length_le (by simp; omega)]), rfl⟩
theorem kindOfL_ge (c : UInt8) : 0 ≤ kindOfL c := by
  unfold kindOfL
  have := Lib.indexByte_ge letters c
  omega
theorem kindOfL_le (c : UInt8) : kindOfL c ≤ 4 := by
  unfold kindOfL letters
  simp only [Lib.indexByte]
  repeat' split
  all_goals simp_all
theorem isLetter_iff (c : UInt8) : isLetter c = decide (1 ≤ kindOfL c) := by
  unfold isLetter kindOfL
  rw [Bool.eq_iff_iff]; simp; omega
theorem allL_append (a b : List UInt8) : allL (a ++ b) = (allL a && allL b) := by simp [allL]
theorem u8_back (c : UInt8) : ((c.toNat : Int)).toNat.toUInt8 = c := by simp
theorem letterIdx (c : UInt8) (w : World) :
    Calls Tryz.prog 138 #[.string { data := #[98, 119, 108, 116] }, .int .u8 (c.toNat : Int)] w fun e w' => e = .returned (.int .i64 (kindOfL c - 1)) ∧ w' = w := by
  refine (Tryz.IndexByte _ _ _).mono ?_
  rintro e w' ⟨rfl, rfl⟩
  refine ⟨ret_int ?_, rfl⟩
  rw [u8_back]
  unfold kindOfL
  show Lib.indexByte [98, 119, 108, 116] c = Lib.indexByte letters c + 1 - 1
  unfold letters
  omega
theorem allLetters_any (s : ByteArray) (w : World) (hs : s.size ≤ maxLen) :
    Calls Tryz.prog 126 #[.string s] w fun e w' => e = .returned (.bool (allL s.data.toList)) ∧ w' = w := by
  unfold maxLen at hs
  go_enter Tryz.func126, Tryz.ntmps126
  go_wp2
  go_loop [6] (fun i => ∃ k : Nat, k ≤ s.size ∧ i = .int .i64 k ∧ allL (s.data.toList.take k) = true) (fun i => s.size - (intOf i).toNat)
  case atStart => exact ⟨0, Nat.zero_le _, rfl, rfl⟩
  case round =>
    obtain ⟨k, hk, rfl, hall⟩ := hrel
    have HA : Hid (allL (s.data.toList.take k) = true) := hall
    clear hall
    by_cases hlt : k < s.size
    · have hts := take_snoc s k hlt
      have HS : Hid (s.data.toList.take (k + 1) = s.data.toList.take k ++ [s[k]]) := hts
      clear hts
      by_cases hl : 1 ≤ kindOfL s[k]
      · go_wp2_with (go_at_call 138; refine (letterIdx _ _).mono ?_; rintro e w' ⟨rfl, rfl⟩)
        go_round
        case rel => exact ⟨k + 1, by omega, by go_num, by rw [HS.out, allL_append, HA.out]; simp [allL, isLetter_iff, hl]⟩
        case measure => simp [intOf]; omega
      · go_wp2_with (go_at_call 138; refine (letterIdx _ _).mono ?_; rintro e w' ⟨rfl, rfl⟩)
        go_ret
        refine ⟨ret_bool ?_, rfl⟩
        have hm : s[k] ∈ s.data.toList := by
          have : s.data.toList.take (k + 1) ⊆ s.data.toList := List.take_subset _ _
          exact this (by rw [HS.out]; simp)
        symm
        rw [allL, List.all_eq_false]
        exact ⟨s[k], hm, by simp [isLetter_iff, hl]⟩
    · go_wp2
      go_ret
      refine ⟨ret_bool ?_, rfl⟩
      have := HA.out
      rw [List.take_of_length_le (by simp; omega)] at this
      exact this.symm
end Go.Proofs.YtmkkcgkakomacaaGreat.K
namespace Go.Proofs.YtmkkcgkakomacaaGreat.K
open Go.RowKit
set_option maxHeartbeats 400000
def starI (s : ByteArray) : Int := Lib.indexByte s.data.toList 42
def cutA (s : ByteArray) : ByteArray := if starI s < 0 then s else s.extract 0 (starI s).toNat
def cutB (s : ByteArray) : ByteArray := if starI s < 0 then ⟨#[]⟩ else s.extract ((starI s).toNat + 1) s.size
def cutC (s : ByteArray) : Bool := decide (0 ≤ starI s)
theorem cutA_list (s : ByteArray) : (cutA s).data.toList = (cutStar s.data.toList).1 := by
  unfold cutA cutStar starI
  by_cases h : Lib.indexByte s.data.toList 42 < 0
  · simp [h]
  · rw [if_neg h, if_neg h, Lib.extract_data]; simp
theorem cutB_list (s : ByteArray) : (cutB s).data.toList = (cutStar s.data.toList).2.1 := by
  unfold cutB cutStar starI
  by_cases h : Lib.indexByte s.data.toList 42 < 0
  · simp [h]
  · rw [if_neg h, if_neg h, Lib.extract_to_end]
theorem cutC_list (s : ByteArray) : cutC s = (cutStar s.data.toList).2.2 := by
  unfold cutC cutStar starI
  by_cases h : Lib.indexByte s.data.toList 42 < 0
  · rw [if_pos h]; simp; omega
  · rw [if_neg h]; simp; omega
theorem cutA_size (s : ByteArray) : (cutA s).size ≤ s.size := by
  unfold cutA; split
  · exact Nat.le_refl _
  · simp; omega
theorem cutB_size (s : ByteArray) : (cutB s).size ≤ s.size := by
  unfold cutB; split
  · exact Nat.zero_le _
  · simp
theorem starI_eq (s : ByteArray) (h : ([42] == s.toList) = true) : starI s = 0 := by
  have e : s.toList = [42] := by simpa using (beq_iff_eq.1 h).symm
  unfold starI
  rw [← Lib.toList_data, e]; rfl
theorem starI_lt (s : ByteArray) : starI s < s.size ∨ starI s < 0 := by
  unfold starI
  by_cases h : Lib.indexByte s.data.toList 42 < 0
  · exact Or.inr h
  · obtain ⟨o, ho⟩ : ∃ o : Nat, Lib.indexByte s.data.toList 42 = o := ⟨(Lib.indexByte s.data.toList 42).toNat, by omega⟩
    have h1 := (Lib.indexByte_some ho).1
    obtain ⟨h2, _⟩ := List.getElem?_eq_some_iff.1 h1
    left
    rw [ho]
    have : o < s.size := by simpa using h2
    omega
theorem index_star (s : ByteArray) (w : World) :
    Calls Tryz.prog 139 #[.string s, .string { data := #[42] }] w fun e w' => e = .returned (.int .i64 (starI s)) ∧ w' = w := by
  go_enter Tryz.func139, Tryz.ntmps139
  go_wp2_with (go_at_call 143; refine (Tryz.liteIndexByte _ _ _).mono ?_; rintro e w' ⟨rfl, rfl⟩)
  · go_ret
    exact ⟨ret_int (starI_eq s ‹_›).symm, rfl⟩
  · go_ret
    exact ⟨rfl, rfl⟩
theorem liteCut_star (s : ByteArray) (w : World) (hs : s.size ≤ maxLen) :
    Calls Tryz.prog 127 #[.string s, .string { data := #[42] }] w fun e w' => e = .returned (.tuple #[.string (cutA s), .string (cutB s), .bool (cutC s)]) ∧ ∃ n, w' = w.drewN n := by
  unfold maxLen at hs
  by_cases h : starI s < 0
  · have eA : cutA s = s := by simp [cutA, h]
    have eB : cutB s = ⟨#[]⟩ := by simp [cutB, h]
    have eC : cutC s = false := by simp [cutC]; omega
    rw [eA, eB, eC]
    clear eA eB eC
    go_enter Tryz.func127, Tryz.ntmps127
    go_wp2_with (go_at_call 139; refine (index_star _ _).mono ?_; rintro e w' ⟨rfl, rfl⟩)
    go_ret3
    exact ⟨rfl, 0, rfl⟩
  · obtain ⟨i, hi⟩ : ∃ i : Nat, starI s = i := ⟨(starI s).toNat, by omega⟩
    have hlt : i < s.size := by rcases starI_lt s with h' | h' <;> omega
    have eA : cutA s = s.extract 0 i := by rw [cutA, if_neg h, hi]; simp
    have eB : cutB s = s.extract (i + 1) s.size := by rw [cutB, if_neg h, hi]; simp
    have eC : cutC s = true := by simp [cutC]; omega
    have hix := fun w => index_star s w
    rw [hi] at hix
    have HX : Hid (∀ w, Calls Tryz.prog 139 #[.string s, .string { data := #[42] }] w fun e w' => e = .returned (.int .i64 i) ∧ w' = w) := hix
    rw [eA, eB, eC]
    clear eA eB eC hi h hix
    go_enter Tryz.func127, Tryz.ntmps127
    go_wp2_with (go_at_call 139; refine (HX.out _).mono ?_; rintro e w' ⟨rfl, rfl⟩)
    go_quiet (fail)
    go_wp2
    go_ret3
    exact ⟨rfl, nq, rfl⟩
theorem cut_star (s : ByteArray) (w : World) (hs : s.size ≤ maxLen) :
    Calls Tryz.prog 95 #[.string s, .string { data := #[42] }] w fun e w' => e = .returned (.tuple #[.string (cutA s), .string (cutB s), .bool (cutC s)]) ∧ ∃ n, w' = w.drewN n := by
  go_enter Tryz.func95, Tryz.ntmps95
  go_wp2_with (go_at_call 127; refine (liteCut_star _ _ hs).mono ?_; rintro e w' ⟨rfl, nq, rfl⟩)
  go_ret3
  exact ⟨rfl, nq, rfl⟩
def shapeB (s : ByteArray) : Bool := !(cutC s && (cutB s).toList.isEmpty) && (allL (cutA s).data.toList && allL (cutB s).data.toList)
theorem shapeB_eq (s : ByteArray) : shapeB s = shapeOk s.data.toList := by
  unfold shapeB shapeOk
  rw [Lib.toList_data, cutC_list, cutB_list, cutA_list]
theorem isShape_core (s a b : ByteArray) (c : Bool) (w : World) (hA : a.size ≤ maxLen) (hB : b.size ≤ maxLen)
    (HC : Hid (∀ w, Calls Tryz.prog 95 #[.string s, .string { data := #[42] }] w fun e w' => e = .returned (.tuple #[.string a, .string b, .bool c]) ∧ ∃ n, w' = w.drewN n)) :
    Calls Tryz.prog 94 #[.string s] w fun e w' => e = .returned (.bool (!(c && b.toList.isEmpty) && (allL a.data.toList && allL b.data.toList))) ∧ ∃ n, w' = w.drewN n := by
  cases hl : allL a.data.toList with
  | true =>
    have h1 := fun w => allLetters_any a w hA
    have h2 := fun w => allLetters_any b w hB
    rw [hl] at h1
    have H1 : Hid (∀ w, Calls Tryz.prog 126 #[.string a] w fun e w' => e = .returned (.bool true) ∧ w' = w) := h1
    have H2 : Hid (∀ w, Calls Tryz.prog 126 #[.string b] w fun e w' => e = .returned (.bool (allL b.data.toList)) ∧ w' = w) := h2
    clear h1 h2 hl
    generalize allL b.data.toList = lb at H2 ⊢
    cases c with
    | true =>
      cases hb : b.toList.isEmpty with
      | true =>
        go_enter Tryz.func94, Tryz.ntmps94
        go_wp2_with (go_at_call 95; refine (HC.out _).mono ?_; rintro e w' ⟨rfl, nq, rfl⟩)
        go_ret
        exact ⟨rfl, nq, rfl⟩
      | false =>
        go_enter Tryz.func94, Tryz.ntmps94
        go_wp2_with (go_at_call 95; refine (HC.out _).mono ?_; rintro e w' ⟨rfl, nq, rfl⟩)
        refine (H1.out _).mono ?_
        rintro e w' ⟨rfl, rfl⟩
        go_wp2_with fail
        refine (H2.out _).mono ?_
        rintro e w' ⟨rfl, rfl⟩
        go_wp2
        go_ret
        exact ⟨rfl, nq, rfl⟩
    | false =>
      go_enter Tryz.func94, Tryz.ntmps94
      go_wp2_with (go_at_call 95; refine (HC.out _).mono ?_; rintro e w' ⟨rfl, nq, rfl⟩)
      refine (H1.out _).mono ?_
      rintro e w' ⟨rfl, rfl⟩
      go_wp2_with fail
      refine (H2.out _).mono ?_
      rintro e w' ⟨rfl, rfl⟩
      go_wp2
      go_ret
      exact ⟨rfl, nq, rfl⟩
  | false =>
    have h1 := fun w => allLetters_any a w hA
    rw [hl] at h1
    have H1 : Hid (∀ w, Calls Tryz.prog 126 #[.string a] w fun e w' => e = .returned (.bool false) ∧ w' = w) := h1
    clear h1 hl
    have e1 : ∀ x y : Bool, (!x && (false && y)) = false := by decide
    rw [e1]
    clear e1
    cases c with
    | true =>
      cases hb : b.toList.isEmpty with
      | true =>
        go_enter Tryz.func94, Tryz.ntmps94
        go_wp2_with (go_at_call 95; refine (HC.out _).mono ?_; rintro e w' ⟨rfl, nq, rfl⟩)
        go_ret
        exact ⟨rfl, nq, rfl⟩
      | false =>
        go_enter Tryz.func94, Tryz.ntmps94
        go_wp2_with (go_at_call 95; refine (HC.out _).mono ?_; rintro e w' ⟨rfl, nq, rfl⟩)
        refine (H1.out _).mono ?_
        rintro e w' ⟨rfl, rfl⟩
        go_wp2
        go_ret
        exact ⟨rfl, nq, rfl⟩
    | false =>
      go_enter Tryz.func94, Tryz.ntmps94
      go_wp2_with (go_at_call 95; refine (HC.out _).mono ?_; rintro e w' ⟨rfl, nq, rfl⟩)
      refine (H1.out _).mono ?_
      rintro e w' ⟨rfl, rfl⟩
      go_wp2
      go_ret
      exact ⟨rfl, nq, rfl⟩
theorem isShape_any (s : ByteArray) (w : World) (hs : s.size ≤ maxLen) :
    Calls Tryz.prog 94 #[.string s] w fun e w' => e = .returned (.bool (shapeB s)) ∧ ∃ n, w' = w.drewN n :=
  isShape_core s (cutA s) (cutB s) (cutC s) w (Nat.le_trans (cutA_size s) hs) (Nat.le_trans (cutB_size s) hs) (fun w => cut_star s w hs)
end Go.Proofs.YtmkkcgkakomacaaGreat.K
