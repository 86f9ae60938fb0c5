/-
  The document's own sum, as it runs.
-/
import Derived.Test.YthfflefnapbkiaaDoorProg
import Derived.Test.YthfflefnapbkiaaDoorZGB
import Derived.WalkKit
import Derived.WalkSpells
import Derived.WalkLawsBesides
import Derived.BigQuiet
import Derived.Lib.EndianBits
import Derived.Laws.BitsAll
import Derived.Laws.BytesString
namespace Go.Proofs.YthfflefnapbkiaaDoor
open Go.RowKit

theorem hide {p : Prop} (h : p) : Hid p := h

theorem bitsF_snoc (k v c : Nat) : bitsF (k + 1) v c = bitF (bitsF k v c) (c / 2 ^ k % 2) := by
  induction k generalizing v c with
  | zero => simp [bitsF]
  | succ k ih =>
    show bitsF (k + 1) (bitF v (c % 2)) (c / 2) = bitF (bitsF k (bitF v (c % 2)) (c / 2)) (c / 2 ^ (k + 1) % 2)
    rw [ih, Nat.div_div_eq_div_mul, ← Nat.pow_succ', Nat.succ_eq_add_one]

theorem bitF_lt (v b : Nat) (h : v < 2 ^ 32) : bitF v b < 2 ^ 32 := by
  unfold bitF
  split
  · exact xor_lt (by omega) poly_lt
  · omega
theorem bitsF_lt (k v c : Nat) (h : v < 2 ^ 32) : bitsF k v c < 2 ^ 32 := by
  induction k generalizing v c with
  | zero => exact h
  | succ k ih => exact ih _ _ (bitF_lt v _ h)

theorem bit_cond (c q v : Nat) : ((c : Int) / 2 ^ q % 2 != (v : Int) % 2) = decide (c / 2 ^ q % 2 ≠ v % 2) := by
  have e : ((c : Int) / 2 ^ q % 2) = ((c / 2 ^ q % 2 : Nat) : Int) := by
    rw [Int.natCast_emod, Int.natCast_ediv, Int.natCast_pow]; rfl
  rw [e, Bool.eq_iff_iff]
  simp only [bne_iff_ne, ne_eq, decide_eq_true_eq]
  omega
theorem bitF_one (v b : Nat) (h : b ≠ v % 2) (hv : v < 2 ^ 32) : bits .xor .u32 ((v : Int) / 2) 2197175160 = ((bitF v b : Nat) : Int) := by
  have e : (v : Int) / 2 = ((v / 2 : Nat) : Int) := by omega
  unfold bitF
  rw [if_pos h, e]
  exact u32_xor_nat (v / 2) 2197175160 (by omega) (by decide)
theorem bitF_two (v b : Nat) (h : ¬ b ≠ v % 2) : (v : Int) / 2 = ((bitF v b : Nat) : Int) := by
  unfold bitF
  rw [if_neg h]
  omega
theorem take_snoc (s : ByteArray) (k : Nat) (h : k < s.size) : s.data.toList.take (k + 1) = s.data.toList.take k ++ [s[k]] := by
  have hl : k < s.data.toList.length := by simpa using h
  have : s[k] = s.data.toList[k] := rfl
  rw [this, List.take_add_one, List.getElem?_eq_getElem hl]
  rfl
theorem ret_u32 {a b : Int} (h : a = b) : Ending.returned (.int .u32 a) = .returned (.int .u32 b) := by rw [h]


end Go.Proofs.YthfflefnapbkiaaDoor
/-
  The document's own word and value, as they run.
-/
namespace Go.Proofs.YthfflefnapbkiaaDoor
open Go.RowKit

theorem be4 (v : Nat) : Lib.beBytes 4 v = [v / 16777216, v / 65536, v / 256, v].map fun n => (n % 256).toUInt8 := by
  simp [Lib.beBytes, Lib.leBytes, Nat.div_div_eq_div_mul]

theorem addr_add (b off n : Nat) : (⟨b, off, none⟩ : Addr).add n = ⟨b, off + n, none⟩ := by
  unfold Addr.add
  split
  · rename_i h; subst h; rfl
  · rfl
theorem conv4 (w : World) (a b c d : UInt8) (x y z u : Int) (hx : x = (a.toNat : Int)) (hy : y = (b.toNat : Int)) (hz : z = (c.toNat : Int)) (hu : u = (d.toNat : Int)) :
    (convert 45 9 (.slice (some ⟨w.heap.size, 0, none⟩) 4 4)).run Tryd.prog (w.alloc (.cells #[.int .u8 x, .int .u8 y, .int .u8 z, .int .u8 u] 5)) =
      .ok (.string ⟨#[a, b, c, d]⟩) (w.alloc (.cells #[.int .u8 x, .int .u8 y, .int .u8 z, .int .u8 u] 5)) := by
  subst hx hy hz hu
  have h := run_convert_bytes_back (P := Tryd.prog) (w.alloc (.cells #[.int .u8 (a.toNat : Int), .int .u8 (b.toNat : Int), .int .u8 (c.toNat : Int), .int .u8 (d.toNat : Int)] 5)) 45 9 5 ⟨w.heap.size, 0, none⟩ 4 [a, b, c, d] Tryd.underlying45 Tryd.underlying5 Tryd.underlying9 ?_
  · exact h
  · intro j hj
    rw [addr_add]
    have e : (w.alloc (.cells #[.int .u8 (a.toNat : Int), .int .u8 (b.toNat : Int), .int .u8 (c.toNat : Int), .int .u8 (d.toNat : Int)] 5)).heap[w.heap.size]? = some (.cells #[.int .u8 (a.toNat : Int), .int .u8 (b.toNat : Int), .int .u8 (c.toNat : Int), .int .u8 (d.toNat : Int)] 5) := by
      show (w.heap.push _)[w.heap.size]? = _
      simp
    rw [Lib.cell_of_heap e, Nat.zero_add]
    have h4 : j = 0 ∨ j = 1 ∨ j = 2 ∨ j = 3 := by simp at hj; omega
    rcases h4 with rfl | rfl | rfl | rfl <;> rfl

theorem byte_of (n : Nat) (x : Int) (h : x = ((n % 256 : Nat) : Int)) : x = (((n % 256).toUInt8).toNat : Int) := by
  rw [h, Lib.toUInt8_mod]


theorem four_of (s : ByteArray) (h : s.size = 4) : ∃ a b c d, s = ⟨#[a, b, c, d]⟩ := by
  obtain ⟨⟨l⟩⟩ := s
  have h4 : l.length = 4 := h
  match l, h4 with
  | [a, b, c, d], _ => exact ⟨a, b, c, d, rfl⟩

theorem val4 (a b c d : Nat) (ha : a < 256) (hb : b < 256) (hc : c < 256) (hd : d < 256) :
    bits .or .u32 (bits .or .u32 (bits .or .u32 ((a : Int) % 4294967296 * 16777216 % 4294967296) ((b : Int) % 4294967296 * 65536 % 4294967296)) ((c : Int) % 4294967296 * 256 % 4294967296)) ((d : Int) % 4294967296) = ((((a * 256 + b) * 256 + c) * 256 + d : Nat) : Int) := by
  have e1 : (a : Int) % 4294967296 * 16777216 % 4294967296 = ((a * 16777216 : Nat) : Int) := by omega
  have e2 : (b : Int) % 4294967296 * 65536 % 4294967296 = ((b * 65536 : Nat) : Int) := by omega
  have e3 : (c : Int) % 4294967296 * 256 % 4294967296 = ((c * 256 : Nat) : Int) := by omega
  have e4 : (d : Int) % 4294967296 = (d : Int) := by omega
  rw [e1, e2, e3, e4, u32_or_nat _ _ (by omega) (by omega), nat_join 24 _ _ (by omega) (by omega), u32_or_nat _ _ (by omega) (by omega), nat_join 16 _ _ (by omega) (by omega), u32_or_nat _ _ (by omega) (by omega), nat_join 8 _ _ (by omega) (by omega)]
  omega


end Go.Proofs.YthfflefnapbkiaaDoor
/-
  The document's own Frame and Take, as they run.
-/
namespace Go.Proofs.YthfflefnapbkiaaDoor
open Go.RowKit

theorem size_list (s : ByteArray) : s.data.toList.length = s.size := by simp
theorem mk_list (s : ByteArray) : (⟨s.data.toList.toArray⟩ : ByteArray) = s := by obtain ⟨d⟩ := s; rfl
theorem mk_append (a b : List UInt8) : (⟨a.toArray⟩ : ByteArray) ++ ⟨b.toArray⟩ = ⟨(a ++ b).toArray⟩ := by
  apply ByteArray.ext
  simp [ByteArray.data_append]
theorem list_append (a b : ByteArray) : (a ++ b).data.toList = a.data.toList ++ b.data.toList := by simp [ByteArray.data_append]
theorem mk_size (a : List UInt8) : (⟨a.toArray⟩ : ByteArray).size = a.length := by show a.toArray.size = _; simp
theorem mk_data (a : List UInt8) : (⟨a.toArray⟩ : ByteArray).data.toList = a := by simp
theorem ext_data (s : ByteArray) (i j : Nat) : (s.extract i j).data.toList = (s.data.toList.drop i).take (j - i) := by
  rw [Lib.extract_data]


theorem frame_mk (body : ByteArray) : (⟨(lenB body.data.toList).toArray⟩ : ByteArray) ++ ⟨(sumB body.data.toList).toArray⟩ ++ body = ⟨(frameB body.data.toList).toArray⟩ := by
  conv => lhs; rw [← mk_list body]
  rw [mk_append, mk_append, List.append_assoc]
  rfl


end Go.Proofs.YthfflefnapbkiaaDoor
