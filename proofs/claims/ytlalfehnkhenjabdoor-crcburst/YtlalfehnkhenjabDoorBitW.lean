/-
  CrcBit, walked.
-/
import Derived.Test.YtlalfehnkhenjabDoorE1
import Derived.Laws.IdiomStrings
import Derived.BigRegion
import Derived.RegionTactic
namespace Go.Proofs.YtlalfehnkhenjabDoor
open Go.RowKit

/-- A row of bytes of the call's own. -/
structure BytesAt (w0 w : World) (g : Nat) (l : List UInt8) : Prop where
  below : Below w0.heap.size w0 w
  new : w0.heap.size ≤ g
  lt : g < w.heap.size
  cells : ∀ j (h : j < l.length), w.cell? ⟨g, j, none⟩ = some (.int .u8 (l[j].toNat : Int))
  free : ∀ j, j < l.length → w.frozen? ⟨g, j, none⟩ = false

theorem bytes_conv (w : World) (s : ByteArray) : ∃ W cap, (convert 9 26 (.string s)).run Tryd.prog w = .ok (.slice (some ⟨w.heap.size, 0, none⟩) s.size cap) W ∧ BytesAt w W w.heap.size s.data.toList := by
  refine ⟨_, _, run_bytes_of_string w 9 26 5 s Tryd.underlying9 Tryd.underlying26 Tryd.underlying5, ?_, Nat.le_refl _, ?_, ?_, ?_⟩
  · exact ((Below.refl _ _).drew).alloc (Nat.le_refl _) _
  · simp
  · intro j h
    have e := World.cell?_alloc_mark w.drew (bytesRow s (grownCap w s.size 0 5)) 5 ((bytesRow s (grownCap w s.size 0 5)).size, (bytesRow s (grownCap w s.size 0 5)).size + 1) j
    have hj : j < s.data.size := by simpa using h
    rw [bytesRow_at s _ j hj] at e
    simpa using e
  · intro j h
    have e := World.frozen?_alloc_mark w.drew (bytesRow s (grownCap w s.size 0 5)) 5 (bytesRow s (grownCap w s.size 0 5)).size ((bytesRow s (grownCap w s.size 0 5)).size + 1) j
    have hj : j < s.data.size := by simpa using h
    have hb : j < (bytesRow s (grownCap w s.size 0 5)).size := by
      have := bytesRow_at s (grownCap w s.size 0 5) j hj
      exact (Array.getElem?_eq_some_iff.1 this).1
    have hd : decide ((bytesRow s (grownCap w s.size 0 5)).size ≤ j) = false := by rw [decide_eq_false_iff_not]; omega
    rw [hd, Bool.false_and] at e
    exact e

theorem BytesAt.set {w0 w : World} {g : Nat} {l : List UInt8} (h : BytesAt w0 w g l) (i : Nat) (hi : i < l.length) (c : UInt8) (y : Int) (hy : y = (c.toNat : Int)) : BytesAt w0 (w.setCell ⟨g, i, none⟩ (.int .u8 y)).drew g (l.set i c) := by
  obtain ⟨v0, hv0⟩ : ∃ v, w.cell? ⟨g, i, none⟩ = some v := ⟨_, h.cells i hi⟩
  have hsz : (w.setCell ⟨g, i, none⟩ (.int .u8 y)).drew.heap.size = w.heap.size := by
    show (w.setCell ⟨g, i, none⟩ (.int .u8 y)).heap.size = _
    exact World.size_setCell _ _ _
  refine ⟨(h.below.setCell (p := ⟨g, i, none⟩) h.new _).drew, h.new, by rw [hsz]; exact h.lt, ?_, ?_⟩
  · intro j hj
    rw [List.length_set] at hj
    show (w.setCell ⟨g, i, none⟩ (.int .u8 y)).cell? ⟨g, j, none⟩ = _
    by_cases hji : j = i
    · subst hji
      rw [World.cell?_setCell_same _ _ _ hv0, hy]
      simp
    · rw [World.cell?_setCell_other _ _ _ _ (fun e => hji (congrArg Addr.off e).symm), h.cells j hj]
      simp [Ne.symm hji]
  · intro j hj
    rw [List.length_set] at hj
    show (w.setCell ⟨g, i, none⟩ (.int .u8 y)).frozen? ⟨g, j, none⟩ = _
    rw [World.frozen?_setCell]
    exact h.free j hj
theorem BytesAt.back {w0 w : World} {g : Nat} {l : List UInt8} (h : BytesAt w0 w g l) (n cap : Nat) (hn : l.length = n) : (convert 26 9 (.slice (some ⟨g, 0, none⟩) n cap)).run Tryd.prog w = .ok (.string ⟨l.toArray⟩) w := by
  subst hn
  refine run_convert_bytes_back w 26 9 5 ⟨g, 0, none⟩ cap l Tryd.underlying26 Tryd.underlying5 Tryd.underlying9 fun j hj => ?_
  rw [addr_add, Nat.zero_add]
  exact h.cells j hj
theorem flip_set (l : List UInt8) (q i r : Nat) (hi : q / 8 = i) (hr : q % 8 = r) (h : i < l.length) : flipF l q = l.set i (UInt8.ofNat (l[i].toNat ^^^ 2 ^ r)) := by
  subst hi hr
  unfold flipF
  apply List.ext_getElem (by simp)
  intro j h1 h2
  rw [List.getElem_modify, List.getElem_set]
  by_cases hj : q / 8 = j
  · subst hj
    simp
  · simp [hj]
theorem flip_val (x : UInt8) (r : Nat) (hr : r < 8) : bits .xor .u8 (x.toNat : Int) (2 ^ r % 256) = ((UInt8.ofNat (x.toNat ^^^ 2 ^ r)).toNat : Int) := by
  have hp : 2 ^ r < 2 ^ 8 := Nat.pow_lt_pow_right (by omega) hr
  have e : ((2 : Int) ^ r % 256) = ((2 ^ r : Nat) : Int) := by
    have e1 : ((2 : Int) ^ r) = ((2 ^ r : Nat) : Int) := by rw [Int.natCast_pow]; rfl
    rw [e1]
    clear e1
    generalize (2 ^ r : Nat) = p at hp ⊢
    omega
  rw [e, flip_byte x r hr]
  exact u8_xor_nat x.toNat (2 ^ r) x.toNat_lt hp

set_option maxHeartbeats 2000000 in
set_option maxRecDepth 100000 in
theorem bit_pos (body B F : ByteArray) (c0 : Nat) (w : World) (hT : Tab w) (hc0 : c0 ≤ 9223372036854775807) (h63 : body.size ≤ 9223372036854775807) (hB : body.extract 0 (min (body.size : Int) 4000).toNat = B) (hF8 : 8 ≤ F.size) (hF4 : F.size ≤ 4008)
    (HE : Hid (∀ w, Tab w → Calls Tryd.prog 6 #[] w fun e w' => e = .returned (.bool true) ∧ Below w.heap.size w w'))
    (HF : Hid (∀ w, Tab w → Calls Tryd.prog 7 #[.string B] w fun e w' => e = .returned (.tuple #[.string F, .int .i64 0]) ∧ Below w.heap.size w w'))
    (HK : Hid (∀ q, 32 ≤ q → q < 8 * F.size → ∀ w, Tab w → Calls Tryd.prog 8 #[.string ⟨(flipF F.data.toList q).toArray⟩] w fun e w' => e = .returned (.tuple #[.string ⟨#[]⟩, .int .i64 0, .int .i64 4]) ∧ Below w.heap.size w w')) :
    Calls Tryd.prog 3 #[.string body, .int .i64 (c0 : Int)] w fun e w' => e = .returned (.bool true) ∧ Below w.heap.size w w' := by
  have HT := hide hT
  clear hT
  go_enter Tryd.func3, Tryd.ntmps3
  go_wp2_with fail
  refine (HE.out _ HT.out).mono ?_
  rintro e w1 ⟨rfl, b1⟩
  have B1 := hide b1
  have T1 := hide (HT.out.below B1.out)
  clear b1
  go_wp2_with fail
  refine (HF.out _ T1.out).mono ?_
  rintro e w2 ⟨rfl, b2⟩
  have B2 := hide (B1.out.trans (b2.mono B1.out.size))
  have T2 := hide (HT.out.below B2.out)
  clear b2
  obtain ⟨W, cap, hcv, hat⟩ := bytes_conv w2 F
  have HAT := hide hat
  clear hat
  obtain ⟨q, hq, hq1, hq2⟩ : ∃ q : Nat, wrap64 (32 + (c0 : Int) % (8 * (F.size : Int) - 32)) = (q : Int) ∧ 32 ≤ q ∧ q < 8 * F.size := by
    refine ⟨32 + c0 % (8 * F.size - 32), ?_, by omega, ?_⟩
    · have e : (8 * (F.size : Int) - 32) = ((8 * F.size - 32 : Nat) : Int) := by omega
      have h := Nat.mod_lt c0 (show 0 < 8 * F.size - 32 by omega)
      rw [e, ← Int.natCast_emod]
      simp only [wrap64]
      omega
    · have h := Nat.mod_lt c0 (show 0 < 8 * F.size - 32 by omega)
      omega
  obtain ⟨i, hi⟩ : ∃ i : Nat, (q : Int) / 8 = (i : Int) := ⟨q / 8, by omega⟩
  obtain ⟨r, hr⟩ : ∃ r : Nat, (q : Int) % 8 = (r : Int) := ⟨q % 8, by omega⟩
  have hiF : i < F.size := by omega
  have hr8 : r < 8 := by omega
  have hiI : (i : Int) < F.size := by omega
  have hi2 : i < F.data.toList.length := by rw [size_list]; exact hiF
  obtain ⟨x, hx⟩ : ∃ x, F.data.toList[i] = x := ⟨_, rfl⟩
  have c1 := HAT.out.cells i hi2
  rw [hx] at c1
  have f1 := HAT.out.free i hi2
  have hlt := HAT.out.lt
  go_wp2
  rw [hq]
  have HAT3 : Hid (∀ y, y = ((UInt8.ofNat (x.toNat ^^^ 2 ^ r)).toNat : Int) → BytesAt w2 (W.setCell ⟨w2.heap.size, i, none⟩ (.int .u8 y)).drew w2.heap.size (flipF F.data.toList q)) := by
    intro y hy
    rw [flip_set F.data.toList q i r (by omega) (by omega) hi2, hx]
    exact HAT.out.set i hi2 _ y hy
  have HY := hide (flip_val x r hr8)
  have HKq := hide (HK.out q hq1 hq2)
  have HGL : Hid ((flipF F.data.toList q).length = F.size) := by rw [flipF_length, size_list]; exact rfl
  clear HAT hq1 hq2 hx
  generalize hwg : w2.heap.size = g at *
  go_region
  have HAT4 := hide (HAT3.out _ HY.out)
  clear HAT3 HY
  generalize (W.setCell ⟨g, i, none⟩ (.int .u8 (bits .xor .u8 (x.toNat : Int) (2 ^ r % 256)))).drew = W4 at HAT4 ⊢
  have hback := HAT4.out.back F.size cap HGL.out
  have B4 := hide (B2.out.trans (HAT4.out.below.mono B2.out.size))
  have T4 := hide (HT.out.below B4.out)
  clear HAT4 HGL
  go_wp2_with fail
  refine (HKq.out _ T4.out).mono ?_
  rintro e w5 ⟨rfl, b5⟩
  have B5 := hide (B4.out.trans (b5.mono B4.out.size))
  clear b5
  go_wp2
  go_ret
  exact ⟨rfl, B5.out⟩

set_option maxHeartbeats 2000000 in
set_option maxRecDepth 100000 in
theorem bit_neg (body B F : ByteArray) (c0 : Nat) (w : World) (hT : Tab w) (hc0 : c0 ≤ 9223372036854775807) (h63 : body.size ≤ 9223372036854775807) (hB : body.extract 0 (min (body.size : Int) 4000).toNat = B) (hF8 : 8 ≤ F.size) (hF4 : F.size ≤ 4008)
    (HE : Hid (∀ w, Tab w → Calls Tryd.prog 6 #[] w fun e w' => e = .returned (.bool true) ∧ Below w.heap.size w w'))
    (HF : Hid (∀ w, Tab w → Calls Tryd.prog 7 #[.string B] w fun e w' => e = .returned (.tuple #[.string F, .int .i64 0]) ∧ Below w.heap.size w w'))
    (HK : Hid (∀ q, 32 ≤ q → q < 8 * F.size → ∀ w, Tab w → Calls Tryd.prog 8 #[.string ⟨(flipF F.data.toList q).toArray⟩] w fun e w' => e = .returned (.tuple #[.string ⟨#[]⟩, .int .i64 0, .int .i64 4]) ∧ Below w.heap.size w w')) :
    Calls Tryd.prog 3 #[.string body, .int .i64 (-(c0 : Int) - 1)] w fun e w' => e = .returned (.bool true) ∧ Below w.heap.size w w' := by
  have HT := hide hT
  clear hT
  go_enter Tryd.func3, Tryd.ntmps3
  go_wp2_with fail
  refine (HE.out _ HT.out).mono ?_
  rintro e w1 ⟨rfl, b1⟩
  have B1 := hide b1
  have T1 := hide (HT.out.below B1.out)
  clear b1
  go_wp2_with fail
  refine (HF.out _ T1.out).mono ?_
  rintro e w2 ⟨rfl, b2⟩
  have B2 := hide (B1.out.trans (b2.mono B1.out.size))
  have T2 := hide (HT.out.below B2.out)
  clear b2
  obtain ⟨W, cap, hcv, hat⟩ := bytes_conv w2 F
  have HAT := hide hat
  clear hat
  obtain ⟨q, hq, hq1, hq2⟩ : ∃ q : Nat, wrap64 (32 + (c0 : Int) % (8 * (F.size : Int) - 32)) = (q : Int) ∧ 32 ≤ q ∧ q < 8 * F.size := by
    refine ⟨32 + c0 % (8 * F.size - 32), ?_, by omega, ?_⟩
    · have e : (8 * (F.size : Int) - 32) = ((8 * F.size - 32 : Nat) : Int) := by omega
      have h := Nat.mod_lt c0 (show 0 < 8 * F.size - 32 by omega)
      rw [e, ← Int.natCast_emod]
      simp only [wrap64]
      omega
    · have h := Nat.mod_lt c0 (show 0 < 8 * F.size - 32 by omega)
      omega
  obtain ⟨i, hi⟩ : ∃ i : Nat, (q : Int) / 8 = (i : Int) := ⟨q / 8, by omega⟩
  obtain ⟨r, hr⟩ : ∃ r : Nat, (q : Int) % 8 = (r : Int) := ⟨q % 8, by omega⟩
  have hiF : i < F.size := by omega
  have hr8 : r < 8 := by omega
  have hiI : (i : Int) < F.size := by omega
  have hi2 : i < F.data.toList.length := by rw [size_list]; exact hiF
  obtain ⟨x, hx⟩ : ∃ x, F.data.toList[i] = x := ⟨_, rfl⟩
  have c1 := HAT.out.cells i hi2
  rw [hx] at c1
  have f1 := HAT.out.free i hi2
  have hlt := HAT.out.lt
  go_wp2
  rw [hq]
  have HAT3 : Hid (∀ y, y = ((UInt8.ofNat (x.toNat ^^^ 2 ^ r)).toNat : Int) → BytesAt w2 (W.setCell ⟨w2.heap.size, i, none⟩ (.int .u8 y)).drew w2.heap.size (flipF F.data.toList q)) := by
    intro y hy
    rw [flip_set F.data.toList q i r (by omega) (by omega) hi2, hx]
    exact HAT.out.set i hi2 _ y hy
  have HY := hide (flip_val x r hr8)
  have HKq := hide (HK.out q hq1 hq2)
  have HGL : Hid ((flipF F.data.toList q).length = F.size) := by rw [flipF_length, size_list]; exact rfl
  clear HAT hq1 hq2 hx
  generalize hwg : w2.heap.size = g at *
  go_region
  have HAT4 := hide (HAT3.out _ HY.out)
  clear HAT3 HY
  generalize (W.setCell ⟨g, i, none⟩ (.int .u8 (bits .xor .u8 (x.toNat : Int) (2 ^ r % 256)))).drew = W4 at HAT4 ⊢
  have hback := HAT4.out.back F.size cap HGL.out
  have B4 := hide (B2.out.trans (HAT4.out.below.mono B2.out.size))
  have T4 := hide (HT.out.below B4.out)
  clear HAT4 HGL
  go_wp2_with fail
  refine (HKq.out _ T4.out).mono ?_
  rintro e w5 ⟨rfl, b5⟩
  have B5 := hide (B4.out.trans (b5.mono B4.out.size))
  clear b5
  go_wp2
  go_ret
  exact ⟨rfl, B5.out⟩

theorem cut_body (body : ByteArray) : ∃ B : ByteArray, body.extract 0 (min (body.size : Int) 4000).toNat = B ∧ B.size ≤ 4000 := by
  refine ⟨_, rfl, ?_⟩
  rw [ByteArray.size_extract]
  omega

theorem bit_walk (body : ByteArray) (bit : Int) (w : World) (hT : Tab w) (h63 : body.size ≤ 9223372036854775807) (hc1 : -9223372036854775808 ≤ bit) (hc2 : bit ≤ 9223372036854775807) :
    Calls Tryd.prog 3 #[.string body, .int .i64 bit] w fun e w' => e = .returned (.bool true) ∧ Below w.heap.size w w' := by
  obtain ⟨B, hB, hBs⟩ := cut_body body
  have hl := size_list B
  have hFs : (⟨(frameB B.data.toList).toArray⟩ : ByteArray).size = B.size + 8 := by rw [mk_size, frameB_length, hl]
  have hF : ∀ w, Tab w → Calls Tryd.prog 7 #[.string B] w fun e w' => e = .returned (.tuple #[.string ⟨(frameB B.data.toList).toArray⟩, .int .i64 0]) ∧ Below w.heap.size w w' := by
    intro w hT
    have h := frame_any B w hT (by omega)
    rw [show frameF B.data.toList = (frameB B.data.toList, 0) by unfold frameF; rw [if_neg (by omega)]] at h
    exact h
  have hK : ∀ q, 32 ≤ q → q < 8 * (⟨(frameB B.data.toList).toArray⟩ : ByteArray).size → ∀ w, Tab w → Calls Tryd.prog 8 #[.string ⟨(flipF (⟨(frameB B.data.toList).toArray⟩ : ByteArray).data.toList q).toArray⟩] w fun e w' => e = .returned (.tuple #[.string ⟨#[]⟩, .int .i64 0, .int .i64 4]) ∧ Below w.heap.size w w' := by
    intro q h1 h2 w hT
    rw [hFs] at h2
    have h := take_any ⟨(flipF (⟨(frameB B.data.toList).toArray⟩ : ByteArray).data.toList q).toArray⟩ w hT (by rw [mk_size, flipF_length, mk_data, frameB_length]; omega)
    rw [mk_data, mk_data, take_bit B.data.toList q (by omega) h1 (by omega)] at h
    exact h
  by_cases h0 : 0 ≤ bit
  · obtain ⟨c0, rfl⟩ : ∃ c0 : Nat, bit = (c0 : Int) := ⟨bit.toNat, by omega⟩
    exact bit_pos body B _ c0 w hT (by omega) h63 hB (by omega) (by omega) examples_any hF hK
  · obtain ⟨c0, rfl⟩ : ∃ c0 : Nat, bit = -(c0 : Int) - 1 := ⟨(-(bit + 1)).toNat, by omega⟩
    exact bit_neg body B _ c0 w hT (by omega) h63 hB (by omega) (by omega) examples_any hF hK

end Go.Proofs.YtlalfehnkhenjabDoor
