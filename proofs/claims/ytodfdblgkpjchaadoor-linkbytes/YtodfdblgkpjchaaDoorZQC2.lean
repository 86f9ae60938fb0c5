/-
  The document's own word and value, as they run.
-/
import Derived.Test.YtodfdblgkpjchaaDoorZQC1
import Derived.Laws.BytesString
namespace Go.Proofs.YtodfdblgkpjchaaDoor
open Go.RowKit

theorem be4 (v : Nat) : Lib.beBytes 4 v = [v / 16777216, v / 65536, v / 256, v].map fun n => (n % 256).toUInt8 := by
  simp [Lib.beBytes, Lib.leBytes, Nat.div_div_eq_div_mul]

theorem addr_add (b off n : Nat) : (⟨b, off, none⟩ : Addr).add n = ⟨b, off + n, none⟩ := by
  unfold Addr.add
  split
  · rename_i h; subst h; rfl
  · rfl
theorem conv4 (w : World) (a b c d : UInt8) (x y z u : Int) (hx : x = (a.toNat : Int)) (hy : y = (b.toNat : Int)) (hz : z = (c.toNat : Int)) (hu : u = (d.toNat : Int)) :
    (convert 78 9 (.slice (some ⟨w.heap.size, 0, none⟩) 4 4)).run Tryd.prog (w.alloc (.cells #[.int .u8 x, .int .u8 y, .int .u8 z, .int .u8 u] 5)) =
      .ok (.string ⟨#[a, b, c, d]⟩) (w.alloc (.cells #[.int .u8 x, .int .u8 y, .int .u8 z, .int .u8 u] 5)) := by
  subst hx hy hz hu
  have h := run_convert_bytes_back (P := Tryd.prog) (w.alloc (.cells #[.int .u8 (a.toNat : Int), .int .u8 (b.toNat : Int), .int .u8 (c.toNat : Int), .int .u8 (d.toNat : Int)] 5)) 78 9 5 ⟨w.heap.size, 0, none⟩ 4 [a, b, c, d] Tryd.underlying78 Tryd.underlying5 Tryd.underlying9 ?_
  · exact h
  · intro j hj
    rw [addr_add]
    have e : (w.alloc (.cells #[.int .u8 (a.toNat : Int), .int .u8 (b.toNat : Int), .int .u8 (c.toNat : Int), .int .u8 (d.toNat : Int)] 5)).heap[w.heap.size]? = some (.cells #[.int .u8 (a.toNat : Int), .int .u8 (b.toNat : Int), .int .u8 (c.toNat : Int), .int .u8 (d.toNat : Int)] 5) := by
      show (w.heap.push _)[w.heap.size]? = _
      simp
    rw [Lib.cell_of_heap e, Nat.zero_add]
    have h4 : j = 0 ∨ j = 1 ∨ j = 2 ∨ j = 3 := by simp at hj; omega
    rcases h4 with rfl | rfl | rfl | rfl <;> rfl

theorem byte_of (n : Nat) (x : Int) (h : x = ((n % 256 : Nat) : Int)) : x = (((n % 256).toUInt8).toNat : Int) := by
  rw [h, Lib.toUInt8_mod]

set_option maxHeartbeats 1000000 in
theorem rword_any (v : Nat) (w : World) (hv : v < 2 ^ 32) :
    Calls Tryd.prog 42 #[.int .u32 v] w fun e w' => e = .returned (.string ⟨(Lib.beBytes 4 v).toArray⟩) ∧ Below w.heap.size w w' := by
  have hcv := conv4 w _ _ _ _ ((v : Int) / 16777216) ((v : Int) / 65536 % 256) ((v : Int) / 256 % 256) ((v : Int) % 256) (byte_of (v / 16777216) _ (by omega)) (byte_of (v / 65536) _ (by omega)) (byte_of (v / 256) _ (by omega)) (byte_of v _ (by omega))
  have HE : Hid ((⟨(Lib.beBytes 4 v).toArray⟩ : ByteArray) = ⟨#[(v / 16777216 % 256).toUInt8, (v / 65536 % 256).toUInt8, (v / 256 % 256).toUInt8, (v % 256).toUInt8]⟩) := by rw [be4]; rfl
  rw [← HE.out] at hcv
  generalize (⟨(Lib.beBytes 4 v).toArray⟩ : ByteArray) = L at *
  clear HE
  go_enter Tryd.func42, Tryd.ntmps42
  go_wp2
  go_ret
  exact ⟨rfl, (Below.refl _ _).alloc (Nat.le_refl _) _⟩


theorem four_of (s : ByteArray) (h : s.size = 4) : ∃ a b c d, s = ⟨#[a, b, c, d]⟩ := by
  obtain ⟨⟨l⟩⟩ := s
  have h4 : l.length = 4 := h
  match l, h4 with
  | [a, b, c, d], _ => exact ⟨a, b, c, d, rfl⟩

theorem val4 (a b c d : Nat) (ha : a < 256) (hb : b < 256) (hc : c < 256) (hd : d < 256) :
    bits .or .u32 (bits .or .u32 (bits .or .u32 ((a : Int) % 4294967296 * 16777216 % 4294967296) ((b : Int) % 4294967296 * 65536 % 4294967296)) ((c : Int) % 4294967296 * 256 % 4294967296)) ((d : Int) % 4294967296) = ((((a * 256 + b) * 256 + c) * 256 + d : Nat) : Int) := by
  have e1 : (a : Int) % 4294967296 * 16777216 % 4294967296 = ((a * 16777216 : Nat) : Int) := by omega
  have e2 : (b : Int) % 4294967296 * 65536 % 4294967296 = ((b * 65536 : Nat) : Int) := by omega
  have e3 : (c : Int) % 4294967296 * 256 % 4294967296 = ((c * 256 : Nat) : Int) := by omega
  have e4 : (d : Int) % 4294967296 = (d : Int) := by omega
  rw [e1, e2, e3, e4, u32_or_nat _ _ (by omega) (by omega), nat_join 24 _ _ (by omega) (by omega), u32_or_nat _ _ (by omega) (by omega), nat_join 16 _ _ (by omega) (by omega), u32_or_nat _ _ (by omega) (by omega), nat_join 8 _ _ (by omega) (by omega)]
  omega

set_option maxHeartbeats 1000000 in
theorem rvalue_any (s : ByteArray) (w : World) (hs : s.size = 4) :
    Calls Tryd.prog 47 #[.string s] w fun e w' => e = .returned (.int .u32 (Lib.beNat s.data.toList)) ∧ ∃ n, w' = w.drewN n := by
  obtain ⟨a, b, c, d, rfl⟩ := four_of s hs
  go_enter Tryd.func47, Tryd.ntmps47
  go_wp2
  go_quiet (fail)
  go_wp2
  go_ret
  refine ⟨ret_u32 ?_, nq, rfl⟩
  have h := val4 a.toNat b.toNat c.toNat d.toNat a.toNat_lt b.toNat_lt c.toNat_lt d.toNat_lt
  refine Eq.trans ?_ (h.trans ?_)
  · rfl
  · simp [Lib.beNat, Lib.beFrom]

end Go.Proofs.YtodfdblgkpjchaaDoor
