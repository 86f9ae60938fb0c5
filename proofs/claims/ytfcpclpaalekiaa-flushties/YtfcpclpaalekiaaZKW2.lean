/-
  The codec's calls as plain functions on lists of bytes and items: what the walks are held against; nothing of the program is in this text.
-/
import Derived.Shelf.Strings.Builder1
import Derived.Shelf.Strings.Builder2
import Derived.Shelf.Strings.BuilderK
import Derived.Shelf.Small.Strs
import Derived.Shelf.LaysM
import Derived.Shelf.Strconv.Clone
import Derived.Shelf.Strings.Search1
import Derived.Test.YtfcpclpaalekiaaProg
import Derived.Lib.Endian
import Derived.Lib.Bytealg
import Derived.Lib.Strings
import Derived.Test.YtfcpclpaalekiaaRows
import Derived.WalkKit
import Derived.WalkSpells
import Derived.WalkLawsBesides
import Derived.BigQuiet
import Derived.Lib.EndianBits
import Derived.Lib.IndexBytes
namespace Go.Proofs.Ytfcpclpaalekiaa.K
open Go.Shelf Go.RowKit
def Try.shren : Go.Shelf.Ren := ⟨fun | 137 => 77 | 165 => 43 | 166 => 62 | 167 => 76 | 169 => 45 | 217 => 84 | 240 => 59 | 241 => 60 | 266 => 89 | 276 => 74 | 277 => 75 | 316 => 54 | n => n, fun | 0 => 0 | 3 => 3 | 4 => 4 | 5 => 5 | 9 => 9 | 20 => 20 | 37 => 83 | 70 => 82 | 72 => 85 | 75 => 107 | 80 => 88 | 127 => 110 | 164 => 119 | n => n, fun | n => n⟩
theorem Try.sh165 : Go.Proofs.Lays.n165 Try.prog Try.shren := {
  mixed := by kernel_rfl
  f165 := Try.func43.trans (congrArg some (by kernel_rfl))
  f240 := Try.func59.trans (congrArg some (by kernel_rfl))
  f241 := Try.func60.trans (congrArg some (by kernel_rfl))
  f276 := Try.func74.trans (congrArg some (by kernel_rfl))
  f277 := Try.func75.trans (congrArg some (by kernel_rfl))
  t0 := Try.underlying0
  a0 := Try.isAgg0
  z0 := Try.sizeOf0
  v0 := Try.zeroValue0
  t3 := Try.underlying3
  a3 := Try.isAgg3
  z3 := Try.sizeOf3
  v3 := Try.zeroValue3
  t4 := Try.underlying4
  a4 := Try.isAgg4
  z4 := Try.sizeOf4
  v4 := Try.zeroValue4
  t9 := Try.underlying9
  a9 := Try.isAgg9
  z9 := Try.sizeOf9
  v9 := Try.zeroValue9
  t20 := Try.underlying20
  a20 := Try.isAgg20
  z20 := Try.sizeOf20
  v20 := Try.zeroValue20
  t37 := Try.underlying83
  a37 := Try.isAgg83
  z37 := Try.sizeOf83
  v37 := Try.zeroValue83
  t70 := Try.underlying82
  a70 := Try.isAgg82
  z70 := Try.sizeOf82
  v70 := Try.zeroValue82
  t72 := Try.underlying85
  a72 := Try.isAgg85
  z72 := Try.sizeOf85
  v72 := Try.zeroValue85
  t164 := Try.underlying119
  a164 := Try.isAgg119
  z164 := Try.sizeOf119
  v164 := Try.zeroValue119 }
theorem Try.sh166 : Go.Proofs.Lays.n166 Try.prog Try.shren := {
  mixed := by kernel_rfl
  f166 := Try.func62.trans (congrArg some (by kernel_rfl))
  f240 := Try.func59.trans (congrArg some (by kernel_rfl))
  f276 := Try.func74.trans (congrArg some (by kernel_rfl))
  t0 := Try.underlying0
  a0 := Try.isAgg0
  z0 := Try.sizeOf0
  v0 := Try.zeroValue0
  t3 := Try.underlying3
  a3 := Try.isAgg3
  z3 := Try.sizeOf3
  v3 := Try.zeroValue3
  t4 := Try.underlying4
  a4 := Try.isAgg4
  z4 := Try.sizeOf4
  v4 := Try.zeroValue4
  t9 := Try.underlying9
  a9 := Try.isAgg9
  z9 := Try.sizeOf9
  v9 := Try.zeroValue9
  t20 := Try.underlying20
  a20 := Try.isAgg20
  z20 := Try.sizeOf20
  v20 := Try.zeroValue20
  t37 := Try.underlying83
  a37 := Try.isAgg83
  z37 := Try.sizeOf83
  v37 := Try.zeroValue83
  t70 := Try.underlying82
  a70 := Try.isAgg82
  z70 := Try.sizeOf82
  v70 := Try.zeroValue82
  t72 := Try.underlying85
  a72 := Try.isAgg85
  z72 := Try.sizeOf85
  v72 := Try.zeroValue85
  t75 := Try.underlying107
  a75 := Try.isAgg107
  z75 := Try.sizeOf107
  v75 := Try.zeroValue107
  t164 := Try.underlying119
  a164 := Try.isAgg119
  z164 := Try.sizeOf119
  v164 := Try.zeroValue119 }
theorem Try.sh167 : Go.Proofs.Lays.n167 Try.prog Try.shren := {
  mixed := by kernel_rfl
  f167 := Try.func76.trans (congrArg some (by kernel_rfl))
  f240 := Try.func59.trans (congrArg some (by kernel_rfl))
  f276 := Try.func74.trans (congrArg some (by kernel_rfl))
  t0 := Try.underlying0
  a0 := Try.isAgg0
  z0 := Try.sizeOf0
  v0 := Try.zeroValue0
  t4 := Try.underlying4
  a4 := Try.isAgg4
  z4 := Try.sizeOf4
  v4 := Try.zeroValue4
  t5 := Try.underlying5
  a5 := Try.isAgg5
  z5 := Try.sizeOf5
  v5 := Try.zeroValue5
  t9 := Try.underlying9
  a9 := Try.isAgg9
  z9 := Try.sizeOf9
  v9 := Try.zeroValue9
  t20 := Try.underlying20
  a20 := Try.isAgg20
  z20 := Try.sizeOf20
  v20 := Try.zeroValue20
  t37 := Try.underlying83
  a37 := Try.isAgg83
  z37 := Try.sizeOf83
  v37 := Try.zeroValue83
  t70 := Try.underlying82
  a70 := Try.isAgg82
  z70 := Try.sizeOf82
  v70 := Try.zeroValue82
  t72 := Try.underlying85
  a72 := Try.isAgg85
  z72 := Try.sizeOf85
  v72 := Try.zeroValue85
  t75 := Try.underlying107
  a75 := Try.isAgg107
  z75 := Try.sizeOf107
  v75 := Try.zeroValue107
  t164 := Try.underlying119
  a164 := Try.isAgg119
  z164 := Try.sizeOf119
  v164 := Try.zeroValue119 }
theorem Try.sh169 : Go.Proofs.Lays.n169 Try.prog Try.shren := {
  mixed := by kernel_rfl
  f169 := Try.func45.trans (congrArg some (by kernel_rfl))
  t0 := Try.underlying0
  a0 := Try.isAgg0
  z0 := Try.sizeOf0
  v0 := Try.zeroValue0
  t3 := Try.underlying3
  a3 := Try.isAgg3
  z3 := Try.sizeOf3
  v3 := Try.zeroValue3
  t9 := Try.underlying9
  a9 := Try.isAgg9
  z9 := Try.sizeOf9
  v9 := Try.zeroValue9
  t37 := Try.underlying83
  a37 := Try.isAgg83
  z37 := Try.sizeOf83
  v37 := Try.zeroValue83
  t70 := Try.underlying82
  a70 := Try.isAgg82
  z70 := Try.sizeOf82
  v70 := Try.zeroValue82
  t72 := Try.underlying85
  a72 := Try.isAgg85
  z72 := Try.sizeOf85
  v72 := Try.zeroValue85
  t127 := Try.underlying110
  a127 := Try.isAgg110
  z127 := Try.sizeOf110
  v127 := Try.zeroValue110 }
theorem Try.sh137 : Go.Proofs.Lays.n137 Try.prog Try.shren := {
  mixed := by kernel_rfl
  f137 := Try.func77.trans (congrArg some (by kernel_rfl))
  f217 := Try.func84.trans (congrArg some (by kernel_rfl))
  f266 := Try.func89.trans (congrArg some (by kernel_rfl))
  t3 := Try.underlying3
  a3 := Try.isAgg3
  z3 := Try.sizeOf3
  v3 := Try.zeroValue3
  t5 := Try.underlying5
  a5 := Try.isAgg5
  z5 := Try.sizeOf5
  v5 := Try.zeroValue5
  t9 := Try.underlying9
  a9 := Try.isAgg9
  z9 := Try.sizeOf9
  v9 := Try.zeroValue9 }
theorem Try.sh316 : Go.Proofs.LaysM.n316 Try.prog Try.shren := {
  mixed := by kernel_rfl
  f316 := Try.func54.trans (congrArg some (by kernel_rfl))
  t0 := Try.underlying0
  a0 := Try.isAgg0
  z0 := Try.sizeOf0
  v0 := Try.zeroValue0
  t3 := Try.underlying3
  a3 := Try.isAgg3
  z3 := Try.sizeOf3
  v3 := Try.zeroValue3
  t4 := Try.underlying4
  a4 := Try.isAgg4
  z4 := Try.sizeOf4
  v4 := Try.zeroValue4
  t9 := Try.underlying9
  a9 := Try.isAgg9
  z9 := Try.sizeOf9
  v9 := Try.zeroValue9
  t37 := Try.underlying83
  a37 := Try.isAgg83
  z37 := Try.sizeOf83
  v37 := Try.zeroValue83
  t127 := Try.underlying110
  a127 := Try.isAgg110
  z127 := Try.sizeOf110
  v127 := Try.zeroValue110
  t5 := Try.underlying5
  a5 := Try.isAgg5
  z5 := Try.sizeOf5
  v5 := Try.zeroValue5
  i0 := by kernel_rfl
  i3 := by kernel_rfl
  i4 := by kernel_rfl
  i5 := by kernel_rfl
  i9 := by kernel_rfl
  i37 := by kernel_rfl
  i127 := by kernel_rfl }
theorem Try.shX : Builder.Extra Try.prog Try.shren := {
  sizeBuilder := by kernel_rfl
  liesBuilder := by kernel_rfl
  t5 := Try.underlying5
  a5 := Try.isAgg5
  z5 := Try.sizeOf5
  v5 := Try.zeroValue5
  infoByte := by kernel_rfl
  cellsByte := by kernel_rfl
  sizeByte := by kernel_rfl
  neB5 := by decide }
theorem Try.WriteByte (B b : Nat) (bs : List Value) (c : Int) (w : World) (h : Lib.IsBuilderF 85 5 B b bs w) (hlen : bs.length + 1 ≤ 140737488355328) (hBw : B ≤ w.heap.size) :
    Calls Try.prog 76 #[.pointer (some ⟨b, 0, none⟩), .int .u8 c] w fun e w' => e = .returned .nilIface ∧ (Lib.BuilderAtF 85 5 B b (.pointer (some ⟨b, 0, none⟩)) (bs ++ [.int .u8 c]) w' ∧ Below B w w' ∧ Lib.OthersKept 5 (some b) w w') := Any.Builder_WriteByte_k Try.sh167 Try.shX B b bs c w h hlen hBw
theorem Try.WriteString (B b : Nat) (bs : List Value) (s : ByteArray) (w : World) (h : Lib.IsBuilderF 85 5 B b bs w) (hlen : bs.length + s.size ≤ 140737488355328) (hBw : B ≤ w.heap.size) :
    Calls Try.prog 62 #[.pointer (some ⟨b, 0, none⟩), .string s] w fun e w' => e = .returned (.tuple #[.int .i64 s.size, .nilIface]) ∧ (Lib.BuilderAtF 85 5 B b (.pointer (some ⟨b, 0, none⟩)) (bs ++ Lib.strCells s) w' ∧ Below B w w' ∧ Lib.OthersKept 5 (some b) w w') := Any.Builder_WriteString_k Try.sh166 Try.shX B b bs s w h hlen hBw
theorem Try.BString (B b : Nat) (l : List UInt8) (w : World) (h : Lib.IsBuilderF 85 5 B b (Lib.byteCells l) w) (hBw : B ≤ w.heap.size) :
    Calls Try.prog 45 #[.pointer (some ⟨b, 0, none⟩)] w fun e w' => e = .returned (.string ⟨l.toArray⟩) ∧ (Lib.IsBuilderF 85 5 B b (Lib.byteCells l) w' ∧ Below B w w' ∧ Lib.OthersKept 5 (some b) w w') := Any.Builder_String_any_k Try.sh169 Try.shX B b l w h hBw
theorem Try.Grow (B b n : Nat) (w : World) (hB : B ≤ b) (hbk : w.heap[b]? = some (.cells #[.pointer none, .slice none 0 0] 85 (0, 0))) (hBw : B ≤ w.heap.size) (hn : n ≤ 281474976710656) :
    Calls Try.prog 43 #[.pointer (some ⟨b, 0, none⟩), .int .i64 n] w fun e w' => e = .returned (.tuple #[]) ∧ (Lib.BuilderAt 85 5 B b (.pointer (some ⟨b, 0, none⟩)) [] w' ∧ Below B w w') := Any.Builder_Grow_fresh Try.sh165 Try.shX B b n w hB hbk hBw hn
theorem Try.IndexByte (s : ByteArray) (c : Int) (w : World) :
    Calls Try.prog 77 #[.string s, .int .u8 c] w fun e w' => e = .returned (.int .i64 (Lib.indexByte s.data.toList c.toNat.toUInt8)) ∧ w' = w := Any.strings_IndexByte Try.sh137 s c w
theorem Try.liteIndexByte (s : ByteArray) (c : Int) (w : World) :
    Calls Try.prog 84 #[.string s, .int .u8 c] w fun e w' => e = .returned (.int .i64 (Lib.indexByte s.data.toList c.toNat.toUInt8)) ∧ w' = w := Any.stringslite_IndexByte { Try.sh137 with } s c w
theorem Try.liteClone (s : ByteArray) (w : World) (hlim : s.size ≤ 281474976710656) :
    Calls Try.prog 54 #[.string s] w fun e w' => e = .returned (.string s) ∧ Below w.heap.size w w' := Any.stringslite_Clone Try.sh316 s w hlim
end Go.Proofs.Ytfcpclpaalekiaa.K
namespace Go.Proofs.Ytfcpclpaalekiaa.K
structure It where
  k : Int
  n : Int
  s : ByteArray
def It.zero : It := ⟨0, 0, ⟨#[]⟩⟩
def It.ok (x : It) : Prop := -9223372036854775808 ≤ x.k ∧ x.k ≤ 9223372036854775807 ∧ 0 ≤ x.n ∧ x.n < 18446744073709551616 ∧ x.s.size ≤ 9223372036854775807
def widthN (k : Int) : Nat := if k = 1 then 1 else if k = 3 then 8 else 4
def kindB (k : Int) : Bool := decide (1 ≤ k) && decide (k ≤ 4)
def faultF (x : It) : Int :=
  if kindB x.k = false then 1
  else if x.k ≠ 4 ∧ (x.s.size ≠ 0 ∨ ¬ x.n < 256 ^ widthN x.k) then 1
  else if x.k = 4 ∧ x.n ≠ 0 then 1
  else if 100000 < x.s.size then 3 else 0
def numOf (x : It) : Nat := if x.k = 4 then x.s.size else x.n.toNat
def itemB (x : It) : List UInt8 := Lib.beBytes (widthN x.k) (numOf x) ++ x.s.data.toList
def firstFault : List It → Int
  | [] => 0
  | x :: l => if faultF x = 0 then firstFault l else faultF x
def encF (l : List It) : List UInt8 × Int :=
  if 1000 < l.length then ([], 3) else if firstFault l = 0 then (l.flatMap itemB, 0) else ([], firstFault l)
def letterF (k : Int) : UInt8 := if k = 1 then 98 else if k = 2 then 119 else if k = 3 then 108 else 116
def shapeF (l : List It) : List UInt8 × Int := if l.all (fun x => kindB x.k) = true then (l.map fun x => letterF x.k, 0) else ([], 1)
def letters : List UInt8 := [98, 119, 108, 116]
def kindOfL (c : UInt8) : Int := Lib.indexByte letters c + 1
def isLetter (c : UInt8) : Bool := decide (0 ≤ Lib.indexByte letters c)
def allL (l : List UInt8) : Bool := l.all isLetter
def itemF (c : UInt8) (s : List UInt8) : It × List UInt8 × Int :=
  if s.length < widthN (kindOfL c) then (It.zero, [], 2)
  else if kindOfL c = 4 then
    if 100000 < Lib.beNat (s.take 4) then (It.zero, [], 3)
    else if (s.drop 4).length < Lib.beNat (s.take 4) then (It.zero, [], 2)
    else (⟨4, 0, ⟨((s.drop 4).take (Lib.beNat (s.take 4))).toArray⟩⟩, (s.drop 4).drop (Lib.beNat (s.take 4)), 0)
  else (⟨kindOfL c, Lib.beNat (s.take (widthN (kindOfL c))), ⟨#[]⟩⟩, s.drop (widthN (kindOfL c)), 0)
def readF : Nat → List UInt8 → Nat → List UInt8 → List UInt8 → List It × Int
  | 0, _, _, _, _ => ([], 0)
  | f + 1, again, m, [], rest => if rest = [] then ([], 0) else if again = [] then ([], 10) else readF f again m again rest
  | f + 1, again, m, c :: t, rest =>
    if m = 1000 then ([], 3)
    else if (itemF c rest).2.2 = 0 then
      if (readF f again (m + 1) t (itemF c rest).2.1).2 = 0 then ((itemF c rest).1 :: (readF f again (m + 1) t (itemF c rest).2.1).1, 0)
      else ([], (readF f again (m + 1) t (itemF c rest).2.1).2)
    else ([], (itemF c rest).2.2)
def cutStar (s : List UInt8) : List UInt8 × List UInt8 × Bool :=
  if Lib.indexByte s 42 < 0 then (s, [], false) else (s.take (Lib.indexByte s 42).toNat, s.drop ((Lib.indexByte s 42).toNat + 1), true)
def shapeOk (s : List UInt8) : Bool :=
  !((cutStar s).2.2 && (cutStar s).2.1.isEmpty) && (allL (cutStar s).1 && allL (cutStar s).2.1)
def decF (shape s : List UInt8) : List It × Int :=
  if shapeOk shape = true then readF (2 * s.length + 2) (cutStar shape).2.1 0 (cutStar shape).1 s else ([], 1)
theorem beFrom_snoc (l : List UInt8) (a : Nat) (c : UInt8) : Lib.beFrom a (l ++ [c]) = Lib.beFrom a l * 256 + c.toNat := by
  induction l generalizing a with
  | nil => rfl
  | cons b r ih => simp [Lib.beFrom, ih]
theorem beNat_snoc (l : List UInt8) (c : UInt8) : Lib.beNat (l ++ [c]) = Lib.beNat l * 256 + c.toNat := beFrom_snoc l 0 c
theorem beFrom_lt (l : List UInt8) (a : Nat) : Lib.beFrom a l < (a + 1) * 256 ^ l.length := by
  induction l generalizing a with
  | nil => simp [Lib.beFrom]
  | cons b r ih =>
    have h1 := ih (a * 256 + b.toNat)
    have h2 := b.toNat_lt
    simp only [Lib.beFrom, List.length_cons, Nat.pow_succ]
    refine Nat.lt_of_lt_of_le h1 ?_
    rw [Nat.mul_comm (256 ^ r.length) 256, ← Nat.mul_assoc]
    exact Nat.mul_le_mul_right _ (by omega)
theorem beNat_lt (l : List UInt8) : Lib.beNat l < 256 ^ l.length := by
  have := beFrom_lt l 0
  simpa [Lib.beNat] using this
end Go.Proofs.Ytfcpclpaalekiaa.K
namespace Go.Proofs.Ytfcpclpaalekiaa.K
open Go.RowKit
set_option maxHeartbeats 400000
theorem width_any (k : Int) (w : World) :
    Calls Try.prog 42 #[.int .i64 k] w fun e w' => e = .returned (.int .i64 (widthN k)) ∧ w' = w := by
  by_cases h1 : k = 1
  · subst h1
    go_enter Try.func42, Try.ntmps42
    go_wp2
    go_ret
    exact ⟨rfl, rfl⟩
  · by_cases h3 : k = 3
    · subst h3
      go_enter Try.func42, Try.ntmps42
      go_wp2
      go_ret
      exact ⟨rfl, rfl⟩
    · have a1 : (k == 1) = false := beq_eq_false_iff_ne.2 h1
      have a3 : (k == 3) = false := beq_eq_false_iff_ne.2 h3
      have hw : widthN k = 4 := by simp [widthN, h1, h3]
      rw [hw]
      clear hw h1 h3
      go_enter Try.func42, Try.ntmps42
      go_wp2
      go_ret
      exact ⟨rfl, rfl⟩
theorem isKind_any (k : Int) (w : World) :
    Calls Try.prog 57 #[.int .i64 k] w fun e w' => e = .returned (.bool (kindB k)) ∧ w' = w := by
  by_cases h1 : 1 ≤ k
  · by_cases h2 : k ≤ 4
    · have hk : kindB k = true := by simp [kindB, h1, h2]
      rw [hk]
      clear hk
      go_enter Try.func57, Try.ntmps57
      go_wp2
      go_ret
      exact ⟨rfl, rfl⟩
    · have hk : kindB k = false := by simp [kindB, h2]
      rw [hk]
      clear hk
      go_enter Try.func57, Try.ntmps57
      go_wp2
      go_ret
      exact ⟨rfl, rfl⟩
  · have hk : kindB k = false := by simp [kindB, h1]
    rw [hk]
    clear hk
    go_enter Try.func57, Try.ntmps57
    go_wp2
    go_ret
    exact ⟨rfl, rfl⟩
theorem ret_bool {a b : Bool} (h : a = b) : Ending.returned (.bool a) = .returned (.bool b) := by rw [h]
theorem ret_int {k : IntKind} {a b : Int} (h : a = b) : Ending.returned (.int k a) = .returned (.int k b) := by rw [h]
theorem fit1 (n : Int) (h0 : 0 ≤ n) : (n / 256 == 0) = decide (n < 256) := by
  rw [Bool.eq_iff_iff]; simp; omega
theorem fit4 (n : Int) (h0 : 0 ≤ n) : (n / 4294967296 == 0) = decide (n < 4294967296) := by
  rw [Bool.eq_iff_iff]; simp; omega
theorem fit8 (n : Int) (h0 : 0 ≤ n) : (n / 18446744073709551616 == 0) = decide (n < 256 ^ 8) := by
  have e : (256 : Int) ^ 8 = 18446744073709551616 := by decide
  rw [e, Bool.eq_iff_iff]; simp; omega
theorem fits_any (n : Int) (k : Nat) (w : World) (h0 : 0 ≤ n) (hk : k = 1 ∨ k = 4 ∨ k = 8) :
    Calls Try.prog 58 #[.int .u64 n, .int .i64 k] w fun e w' => e = .returned (.bool (decide (n < 256 ^ k))) ∧ w' = w := by
  rcases hk with rfl | rfl | rfl
  · go_enter Try.func58, Try.ntmps58
    go_wp2
    go_ret
    exact ⟨ret_bool (fit1 n h0), rfl⟩
  · go_enter Try.func58, Try.ntmps58
    go_wp2
    go_ret
    exact ⟨ret_bool (fit4 n h0), rfl⟩
  · go_enter Try.func58, Try.ntmps58
    go_wp2
    go_ret
    exact ⟨ret_bool (fit8 n h0), rfl⟩
theorem or_byte (m : Nat) (c : UInt8) (h : (m : Int) < 72057594037927936) : bits .or .u64 ((m : Int) * 256) (IntKind.u64.wrap (c.toNat : Int)) = ((m * 256 + c.toNat : Nat) : Int) := by
  have hc := c.toNat_lt
  have hw : IntKind.u64.wrap (c.toNat : Int) = (c.toNat : Int) := wraps_u64 _ (by omega) (by omega)
  rw [hw, bits_join .u64 64 (by decide) wraps_u64 8 ((m : Int) * 256) (c.toNat : Int) (by omega) (by omega) (by omega) (by omega) (by omega) (by omega)]
  omega
theorem take_snoc (s : ByteArray) (k : Nat) (h : k < s.size) : s.data.toList.take (k + 1) = s.data.toList.take k ++ [s[k]] := by
  rw [List.take_succ_eq_append_getElem (by simpa using h)]; rfl
theorem number_any (s : ByteArray) (w : World) (hs : s.size ≤ 8) :
    Calls Try.prog 79 #[.string s] w fun e w' => e = .returned (.int .u64 (Lib.beNat s.data.toList)) ∧ w' = w := by
  go_enter Try.func79, Try.ntmps79
  go_wp2
  go_loop [3, 7] (fun n i => ∃ k : Nat, k ≤ s.size ∧ i = .int .i64 k ∧ n = .int .u64 (Lib.beNat (s.data.toList.take k))) (fun _ i => s.size - (intOf i).toNat)
  case atStart => exact ⟨0, Nat.zero_le _, rfl, rfl⟩
  case round =>
    obtain ⟨k, hk, rfl, rfl⟩ := hrel
    by_cases hlt : k < s.size
    · have hb : Lib.beNat (s.data.toList.take k) < 256 ^ 7 := by
        refine Nat.lt_of_lt_of_le (beNat_lt _) (Nat.pow_le_pow_right (by omega) ?_)
        have := List.length_take_le k s.data.toList
        omega
      have hts := take_snoc s k hlt
      have HS : Hid (Lib.beNat (s.data.toList.take (k + 1)) = Lib.beNat (s.data.toList.take k) * 256 + s[k].toNat) := by rw [hts]; exact beNat_snoc _ _
      clear hts
      generalize Lib.beNat (s.data.toList.take k) = m at hb HS ⊢
      have hb' : (m : Int) < 72057594037927936 := by omega
      clear hb
      go_wp2
      go_round
      case rel => exact ⟨k + 1, by omega, by go_num, by rw [HS.out, or_byte m _ hb']⟩
      case measure => simp [intOf]; omega
    · go_wp2
      go_ret
      exact ⟨ret_int (by rw [List.take_of_length_le (by simp; omega)]), rfl⟩
theorem kindOfL_ge (c : UInt8) : 0 ≤ kindOfL c := by
  unfold kindOfL
  have := Lib.indexByte_ge letters c
  omega
theorem kindOfL_le (c : UInt8) : kindOfL c ≤ 4 := by
  unfold kindOfL letters
  simp only [Lib.indexByte]
  repeat' split
  all_goals simp_all
theorem isLetter_iff (c : UInt8) : isLetter c = decide (1 ≤ kindOfL c) := by
  unfold isLetter kindOfL
  rw [Bool.eq_iff_iff]; simp; omega
theorem allL_append (a b : List UInt8) : allL (a ++ b) = (allL a && allL b) := by simp [allL]
theorem u8_back (c : UInt8) : ((c.toNat : Int)).toNat.toUInt8 = c := by simp
theorem letterIdx (c : UInt8) (w : World) :
    Calls Try.prog 77 #[.string { data := #[98, 119, 108, 116] }, .int .u8 (c.toNat : Int)] w fun e w' => e = .returned (.int .i64 (kindOfL c - 1)) ∧ w' = w := by
  refine (Try.IndexByte _ _ _).mono ?_
  rintro e w' ⟨rfl, rfl⟩
  refine ⟨ret_int ?_, rfl⟩
  rw [u8_back]
  unfold kindOfL
  show Lib.indexByte [98, 119, 108, 116] c = Lib.indexByte letters c + 1 - 1
  unfold letters
  omega
theorem allLetters_any (s : ByteArray) (w : World) (hs : s.size ≤ maxLen) :
    Calls Try.prog 66 #[.string s] w fun e w' => e = .returned (.bool (allL s.data.toList)) ∧ w' = w := by
  unfold maxLen at hs
  go_enter Try.func66, Try.ntmps66
  go_wp2
  go_loop [6] (fun i => ∃ k : Nat, k ≤ s.size ∧ i = .int .i64 k ∧ allL (s.data.toList.take k) = true) (fun i => s.size - (intOf i).toNat)
  case atStart => exact ⟨0, Nat.zero_le _, rfl, rfl⟩
  case round =>
    obtain ⟨k, hk, rfl, hall⟩ := hrel
    have HA : Hid (allL (s.data.toList.take k) = true) := hall
    clear hall
    by_cases hlt : k < s.size
    · have hts := take_snoc s k hlt
      have HS : Hid (s.data.toList.take (k + 1) = s.data.toList.take k ++ [s[k]]) := hts
      clear hts
      by_cases hl : 1 ≤ kindOfL s[k]
      · go_wp2_with (go_at_call 77; refine (letterIdx _ _).mono ?_; rintro e w' ⟨rfl, rfl⟩)
        go_round
        case rel => exact ⟨k + 1, by omega, by go_num, by rw [HS.out, allL_append, HA.out]; simp [allL, isLetter_iff, hl]⟩
        case measure => simp [intOf]; omega
      · go_wp2_with (go_at_call 77; refine (letterIdx _ _).mono ?_; rintro e w' ⟨rfl, rfl⟩)
        go_ret
        refine ⟨ret_bool ?_, rfl⟩
        have hm : s[k] ∈ s.data.toList := by
          have : s.data.toList.take (k + 1) ⊆ s.data.toList := List.take_subset _ _
          exact this (by rw [HS.out]; simp)
        symm
        rw [allL, List.all_eq_false]
        exact ⟨s[k], hm, by simp [isLetter_iff, hl]⟩
    · go_wp2
      go_ret
      refine ⟨ret_bool ?_, rfl⟩
      have := HA.out
      rw [List.take_of_length_le (by simp; omega)] at this
      exact this.symm
end Go.Proofs.Ytfcpclpaalekiaa.K
namespace Go.Proofs.Ytfcpclpaalekiaa.K
open Go.RowKit
set_option maxHeartbeats 400000
def starI (s : ByteArray) : Int := Lib.indexByte s.data.toList 42
def cutA (s : ByteArray) : ByteArray := if starI s < 0 then s else s.extract 0 (starI s).toNat
def cutB (s : ByteArray) : ByteArray := if starI s < 0 then ⟨#[]⟩ else s.extract ((starI s).toNat + 1) s.size
def cutC (s : ByteArray) : Bool := decide (0 ≤ starI s)
theorem cutA_list (s : ByteArray) : (cutA s).data.toList = (cutStar s.data.toList).1 := by
  unfold cutA cutStar starI
  by_cases h : Lib.indexByte s.data.toList 42 < 0
  · simp [h]
  · rw [if_neg h, if_neg h, Lib.extract_data]; simp
theorem cutB_list (s : ByteArray) : (cutB s).data.toList = (cutStar s.data.toList).2.1 := by
  unfold cutB cutStar starI
  by_cases h : Lib.indexByte s.data.toList 42 < 0
  · simp [h]
  · rw [if_neg h, if_neg h, Lib.extract_to_end]
theorem cutC_list (s : ByteArray) : cutC s = (cutStar s.data.toList).2.2 := by
  unfold cutC cutStar starI
  by_cases h : Lib.indexByte s.data.toList 42 < 0
  · rw [if_pos h]; simp; omega
  · rw [if_neg h]; simp; omega
theorem cutA_size (s : ByteArray) : (cutA s).size ≤ s.size := by
  unfold cutA; split
  · exact Nat.le_refl _
  · simp; omega
theorem cutB_size (s : ByteArray) : (cutB s).size ≤ s.size := by
  unfold cutB; split
  · exact Nat.zero_le _
  · simp
theorem starI_eq (s : ByteArray) (h : ([42] == s.toList) = true) : starI s = 0 := by
  have e : s.toList = [42] := by simpa using (beq_iff_eq.1 h).symm
  unfold starI
  rw [← Lib.toList_data, e]; rfl
theorem starI_lt (s : ByteArray) : starI s < s.size ∨ starI s < 0 := by
  unfold starI
  by_cases h : Lib.indexByte s.data.toList 42 < 0
  · exact Or.inr h
  · obtain ⟨o, ho⟩ : ∃ o : Nat, Lib.indexByte s.data.toList 42 = o := ⟨(Lib.indexByte s.data.toList 42).toNat, by omega⟩
    have h1 := (Lib.indexByte_some ho).1
    obtain ⟨h2, _⟩ := List.getElem?_eq_some_iff.1 h1
    left
    rw [ho]
    have : o < s.size := by simpa using h2
    omega
theorem index_star (s : ByteArray) (w : World) :
    Calls Try.prog 78 #[.string s, .string { data := #[42] }] w fun e w' => e = .returned (.int .i64 (starI s)) ∧ w' = w := by
  go_enter Try.func78, Try.ntmps78
  go_wp2_with (go_at_call 84; refine (Try.liteIndexByte _ _ _).mono ?_; rintro e w' ⟨rfl, rfl⟩)
  · go_ret
    exact ⟨ret_int (starI_eq s ‹_›).symm, rfl⟩
  · go_ret
    exact ⟨rfl, rfl⟩
theorem liteCut_star (s : ByteArray) (w : World) (hs : s.size ≤ maxLen) :
    Calls Try.prog 67 #[.string s, .string { data := #[42] }] w fun e w' => e = .returned (.tuple #[.string (cutA s), .string (cutB s), .bool (cutC s)]) ∧ ∃ n, w' = w.drewN n := by
  unfold maxLen at hs
  by_cases h : starI s < 0
  · have eA : cutA s = s := by simp [cutA, h]
    have eB : cutB s = ⟨#[]⟩ := by simp [cutB, h]
    have eC : cutC s = false := by simp [cutC]; omega
    rw [eA, eB, eC]
    clear eA eB eC
    go_enter Try.func67, Try.ntmps67
    go_wp2_with (go_at_call 78; refine (index_star _ _).mono ?_; rintro e w' ⟨rfl, rfl⟩)
    go_ret3
    exact ⟨rfl, 0, rfl⟩
  · obtain ⟨i, hi⟩ : ∃ i : Nat, starI s = i := ⟨(starI s).toNat, by omega⟩
    have hlt : i < s.size := by rcases starI_lt s with h' | h' <;> omega
    have eA : cutA s = s.extract 0 i := by rw [cutA, if_neg h, hi]; simp
    have eB : cutB s = s.extract (i + 1) s.size := by rw [cutB, if_neg h, hi]; simp
    have eC : cutC s = true := by simp [cutC]; omega
    have hix := fun w => index_star s w
    rw [hi] at hix
    have HX : Hid (∀ w, Calls Try.prog 78 #[.string s, .string { data := #[42] }] w fun e w' => e = .returned (.int .i64 i) ∧ w' = w) := hix
    rw [eA, eB, eC]
    clear eA eB eC hi h hix
    go_enter Try.func67, Try.ntmps67
    go_wp2_with (go_at_call 78; refine (HX.out _).mono ?_; rintro e w' ⟨rfl, rfl⟩)
    go_quiet (fail)
    go_wp2
    go_ret3
    exact ⟨rfl, nq, rfl⟩
theorem cut_star (s : ByteArray) (w : World) (hs : s.size ≤ maxLen) :
    Calls Try.prog 49 #[.string s, .string { data := #[42] }] w fun e w' => e = .returned (.tuple #[.string (cutA s), .string (cutB s), .bool (cutC s)]) ∧ ∃ n, w' = w.drewN n := by
  go_enter Try.func49, Try.ntmps49
  go_wp2_with (go_at_call 67; refine (liteCut_star _ _ hs).mono ?_; rintro e w' ⟨rfl, nq, rfl⟩)
  go_ret3
  exact ⟨rfl, nq, rfl⟩
def shapeB (s : ByteArray) : Bool := !(cutC s && (cutB s).toList.isEmpty) && (allL (cutA s).data.toList && allL (cutB s).data.toList)
theorem shapeB_eq (s : ByteArray) : shapeB s = shapeOk s.data.toList := by
  unfold shapeB shapeOk
  rw [Lib.toList_data, cutC_list, cutB_list, cutA_list]
theorem isShape_core (s a b : ByteArray) (c : Bool) (w : World) (hA : a.size ≤ maxLen) (hB : b.size ≤ maxLen)
    (HC : Hid (∀ w, Calls Try.prog 49 #[.string s, .string { data := #[42] }] w fun e w' => e = .returned (.tuple #[.string a, .string b, .bool c]) ∧ ∃ n, w' = w.drewN n)) :
    Calls Try.prog 48 #[.string s] w fun e w' => e = .returned (.bool (!(c && b.toList.isEmpty) && (allL a.data.toList && allL b.data.toList))) ∧ ∃ n, w' = w.drewN n := by
  cases hl : allL a.data.toList with
  | true =>
    have h1 := fun w => allLetters_any a w hA
    have h2 := fun w => allLetters_any b w hB
    rw [hl] at h1
    have H1 : Hid (∀ w, Calls Try.prog 66 #[.string a] w fun e w' => e = .returned (.bool true) ∧ w' = w) := h1
    have H2 : Hid (∀ w, Calls Try.prog 66 #[.string b] w fun e w' => e = .returned (.bool (allL b.data.toList)) ∧ w' = w) := h2
    clear h1 h2 hl
    generalize allL b.data.toList = lb at H2 ⊢
    cases c with
    | true =>
      cases hb : b.toList.isEmpty with
      | true =>
        go_enter Try.func48, Try.ntmps48
        go_wp2_with (go_at_call 49; refine (HC.out _).mono ?_; rintro e w' ⟨rfl, nq, rfl⟩)
        go_ret
        exact ⟨rfl, nq, rfl⟩
      | false =>
        go_enter Try.func48, Try.ntmps48
        go_wp2_with (go_at_call 49; refine (HC.out _).mono ?_; rintro e w' ⟨rfl, nq, rfl⟩)
        refine (H1.out _).mono ?_
        rintro e w' ⟨rfl, rfl⟩
        go_wp2_with fail
        refine (H2.out _).mono ?_
        rintro e w' ⟨rfl, rfl⟩
        go_wp2
        go_ret
        exact ⟨rfl, nq, rfl⟩
    | false =>
      go_enter Try.func48, Try.ntmps48
      go_wp2_with (go_at_call 49; refine (HC.out _).mono ?_; rintro e w' ⟨rfl, nq, rfl⟩)
      refine (H1.out _).mono ?_
      rintro e w' ⟨rfl, rfl⟩
      go_wp2_with fail
      refine (H2.out _).mono ?_
      rintro e w' ⟨rfl, rfl⟩
      go_wp2
      go_ret
      exact ⟨rfl, nq, rfl⟩
  | false =>
    have h1 := fun w => allLetters_any a w hA
    rw [hl] at h1
    have H1 : Hid (∀ w, Calls Try.prog 66 #[.string a] w fun e w' => e = .returned (.bool false) ∧ w' = w) := h1
    clear h1 hl
    have e1 : ∀ x y : Bool, (!x && (false && y)) = false := by decide
    rw [e1]
    clear e1
    cases c with
    | true =>
      cases hb : b.toList.isEmpty with
      | true =>
        go_enter Try.func48, Try.ntmps48
        go_wp2_with (go_at_call 49; refine (HC.out _).mono ?_; rintro e w' ⟨rfl, nq, rfl⟩)
        go_ret
        exact ⟨rfl, nq, rfl⟩
      | false =>
        go_enter Try.func48, Try.ntmps48
        go_wp2_with (go_at_call 49; refine (HC.out _).mono ?_; rintro e w' ⟨rfl, nq, rfl⟩)
        refine (H1.out _).mono ?_
        rintro e w' ⟨rfl, rfl⟩
        go_wp2
        go_ret
        exact ⟨rfl, nq, rfl⟩
    | false =>
      go_enter Try.func48, Try.ntmps48
      go_wp2_with (go_at_call 49; refine (HC.out _).mono ?_; rintro e w' ⟨rfl, nq, rfl⟩)
      refine (H1.out _).mono ?_
      rintro e w' ⟨rfl, rfl⟩
      go_wp2
      go_ret
      exact ⟨rfl, nq, rfl⟩
theorem isShape_any (s : ByteArray) (w : World) (hs : s.size ≤ maxLen) :
    Calls Try.prog 48 #[.string s] w fun e w' => e = .returned (.bool (shapeB s)) ∧ ∃ n, w' = w.drewN n :=
  isShape_core s (cutA s) (cutB s) (cutC s) w (Nat.le_trans (cutA_size s) hs) (Nat.le_trans (cutB_size s) hs) (fun w => cut_star s w hs)
end Go.Proofs.Ytfcpclpaalekiaa.K
