/-
  The program's shift, More and Sum, as they run.
-/
import Derived.Test.YtoolbbibnegdnaaGreatDoorZHG
import Derived.Test.YtoolbbibnegdnaaGreatDoorZGB
import Derived.Shelf.LaysM
import Derived.Shelf.Strconv.Clone
import Derived.WalkSmall
namespace Go.Proofs.YtoolbbibnegdnaaGreatDoor
open Go.RowKit

/-- The table is there. -/
def Tab (w : World) : Prop := ∀ i, i < 16 → w.cell? ⟨1, i, none⟩ = some (.int .u32 ((tab4 i : Nat) : Int))

theorem and15 (x : Nat) (h : x < 2 ^ 32) : bits .and .u32 (x : Int) 15 = ((x % 16 : Nat) : Int) := by
  have := u32_and_nat x 15 h (by decide)
  refine this.trans ?_
  rw [show (15 : Nat) = 2 ^ 4 - 1 from rfl, Nat.and_two_pow_sub_one_eq_mod]
/-- What the walk asks of one half: the place in the table, what stands there, what comes out. -/
theorem half_facts (x : Nat) (h : x < 2 ^ 32) (w : World) (hT : Tab w) :
    ∃ i t y : Nat, i < 16 ∧ bits .and .u32 (x : Int) 15 = ((i : Nat) : Int) ∧ w.cell? ⟨1, i, none⟩ = some (.int .u32 ((t : Nat) : Int)) ∧ bits .xor .u32 ((x : Int) / 16) ((t : Nat) : Int) = ((y : Nat) : Int) ∧ y < 2 ^ 32 ∧ y = halfF x :=
  ⟨x % 16, tab4 (x % 16), halfF x, by omega, and15 x h, hT _ (by omega), by
    have e : (x : Int) / 16 = ((x / 16 : Nat) : Int) := by omega
    rw [e]
    exact u32_xor_nat (x / 16) _ (by omega) (tab4_lt _ (by omega)), halfF_lt x h, rfl⟩

set_option maxHeartbeats 1000000 in
set_option maxRecDepth 100000 in
theorem shift_any (v : Nat) (s : ByteArray) (w : World) (hv : v < 2 ^ 32) (_h63 : s.size ≤ 9223372036854775807) (hT : Tab w) :
    Calls Tryz.prog 105 #[.int .u32 v, .string s] w fun e w' => e = .returned (.int .u32 (crcF v s.data.toList)) ∧ w' = w := by
  go_enter Tryz.func105, Tryz.ntmps105
  go_wp2
  go_loop [0, 8] (fun v' i => ∃ k : Nat, k ≤ s.size ∧ i = .int .i64 k ∧ v' = .int .u32 ((crcF v (s.data.toList.take k) : Nat) : Int)) (fun _ i => s.size - (intOf i).toNat)
  case atStart => exact ⟨0, Nat.zero_le _, rfl, rfl⟩
  case round =>
    obtain ⟨k, hk, rfl, rfl⟩ := hrel
    have hv0 : crcF v (s.data.toList.take k) < 2 ^ 32 := crcF_lt _ _ hv
    by_cases hlt : k < s.size
    · have HN : Hid (crcF v (s.data.toList.take (k + 1)) = byteF (crcF v (s.data.toList.take k)) s[k]) := by rw [take_snoc s k hlt, crcF_append]; rfl
      generalize crcF v (s.data.toList.take k) = v0 at *
      have hx : bits .xor .u32 (v0 : Int) ((s[k].toNat : Int) % 4294967296) = ((v0 ^^^ s[k].toNat : Nat) : Int) := by
        have h8 := s[k].toNat_lt
        have e : (s[k].toNat : Int) % 4294967296 = (s[k].toNat : Int) := by omega
        rw [e]
        exact u32_xor_nat v0 _ hv0 (by omega)
      have hxl : v0 ^^^ s[k].toNat < 2 ^ 32 := xor_lt hv0 (Nat.lt_trans s[k].toNat_lt (by decide))
      have HB := hide (byteF_half v0 s[k])
      generalize v0 ^^^ s[k].toNat = x at *
      obtain ⟨i, t, y, hi, ha, hc, hy, hyl, hyx⟩ := half_facts x hxl w hT
      have HY := hide hyx
      clear hyx
      obtain ⟨i2, t2, y2, hi2, ha2, hc2, hy2, hyl2, hyx2⟩ := half_facts y hyl w hT
      have HY2 := hide hyx2
      clear hyx2 hT
      go_wp2
      exact ⟨⟨k + 1, by omega, by go_num, by rw [HN.out, HB.out, ← HY.out, ← HY2.out]⟩, by simp [intOf]; omega⟩
    · have e : s.data.toList.take k = s.data.toList := List.take_of_length_le (by simp; omega)
      rw [e] at hv0 ⊢
      obtain ⟨v3, hm⟩ : ∃ v3, crcF v s.data.toList = v3 := ⟨_, rfl⟩
      have HM := hide hm
      rw [hm] at hv0 ⊢
      clear hm
      go_wp2
      go_ret
      exact ⟨ret_u32 (by rw [HM.out]), rfl⟩

theorem turned (a : Nat) (h : a < 2 ^ 32) : bits .xor .u32 IntKind.u32.max (a : Int) = ((a ^^^ ones : Nat) : Int) := by
  rw [Nat.xor_comm]
  exact u32_xor_nat 4294967295 a (by decide) h

set_option maxHeartbeats 400000 in
theorem more_any (sum : Nat) (s : ByteArray) (w : World) (hs : sum < 2 ^ 32) (h63 : s.size ≤ 9223372036854775807) (hT : Tab w) :
    Calls Tryz.prog 94 #[.int .u32 sum, .string s] w fun e w' => e = .returned (.int .u32 (moreF sum s.data.toList)) ∧ w' = w := by
  have hl : sum ^^^ ones < 2 ^ 32 := xor_lt hs (by decide)
  have HS : Hid (Calls Tryz.prog 105 #[.int .u32 ((sum ^^^ ones : Nat) : Int), .string s] w fun e w' => e = .returned (.int .u32 (crcF (sum ^^^ ones) s.data.toList)) ∧ w' = w) := shift_any _ s w hl h63 hT
  have hx : bits .xor .u32 IntKind.u32.max (sum : Int) = ((sum ^^^ ones : Nat) : Int) := turned sum hs
  have hc := crcF_lt _ s.data.toList hl
  have hy : bits .xor .u32 IntKind.u32.max ((crcF (sum ^^^ ones) s.data.toList : Nat) : Int) = ((moreF sum s.data.toList : Nat) : Int) := turned _ hc
  clear hT
  generalize moreF sum s.data.toList = m at *
  generalize crcF (sum ^^^ ones) s.data.toList = c at *
  generalize sum ^^^ ones = x at *
  go_enter Tryz.func94, Tryz.ntmps94
  go_wp2_with fail
  refine HS.out.mono ?_
  rintro e w' ⟨rfl, rfl⟩
  go_wp2_with fail
  go_wp2_with fail
  go_ret
  exact ⟨rfl, rfl⟩

set_option maxHeartbeats 400000 in
theorem sum_any (s : ByteArray) (w : World) (h63 : s.size ≤ 9223372036854775807) (hT : Tab w) :
    Calls Tryz.prog 95 #[.string s] w fun e w' => e = .returned (.int .u32 (sumF s.data.toList)) ∧ w' = w := by
  have HM : Hid (Calls Tryz.prog 94 #[.int .u32 0, .string s] w fun e w' => e = .returned (.int .u32 (sumF s.data.toList)) ∧ w' = w) := more_any 0 s w (by decide) h63 hT
  clear hT
  generalize sumF s.data.toList = m at *
  go_enter Tryz.func95, Tryz.ntmps95
  go_wp2_with (go_at_call 94; refine HM.out.mono ?_; rintro e w' ⟨rfl, rfl⟩)
  go_ret
  exact ⟨rfl, rfl⟩

end Go.Proofs.YtoolbbibnegdnaaGreatDoor
/-
  The contract of strings.Clone at this dump, by the library's theorem; what the table asks of a world.
-/
namespace Go.Proofs.YtoolbbibnegdnaaGreatDoor
open Go.Shelf Go.RowKit

def shren : Go.Shelf.Ren := ⟨fun | 316 => 96 | n => n, fun | 0 => 0 | 3 => 3 | 4 => 4 | 5 => 5 | 9 => 9 | 37 => 99 | 127 => 127 | n => n, fun | n => n⟩
theorem sh316 : Go.Proofs.LaysM.n316 Tryz.prog shren := {
  mixed := by kernel_rfl
  f316 := Tryz.func96.trans (congrArg some (by kernel_rfl))
  t0 := Tryz.underlying0
  a0 := Tryz.isAgg0
  z0 := Tryz.sizeOf0
  v0 := Tryz.zeroValue0
  t3 := Tryz.underlying3
  a3 := Tryz.isAgg3
  z3 := Tryz.sizeOf3
  v3 := Tryz.zeroValue3
  t4 := Tryz.underlying4
  a4 := Tryz.isAgg4
  z4 := Tryz.sizeOf4
  v4 := Tryz.zeroValue4
  t9 := Tryz.underlying9
  a9 := Tryz.isAgg9
  z9 := Tryz.sizeOf9
  v9 := Tryz.zeroValue9
  t37 := Tryz.underlying99
  a37 := Tryz.isAgg99
  z37 := Tryz.sizeOf99
  v37 := Tryz.zeroValue99
  t127 := Tryz.underlying127
  a127 := Tryz.isAgg127
  z127 := Tryz.sizeOf127
  v127 := Tryz.zeroValue127
  t5 := Tryz.underlying5
  a5 := Tryz.isAgg5
  z5 := Tryz.sizeOf5
  v5 := Tryz.zeroValue5
  i0 := by kernel_rfl
  i3 := by kernel_rfl
  i4 := by kernel_rfl
  i5 := by kernel_rfl
  i9 := by kernel_rfl
  i37 := by kernel_rfl
  i127 := by kernel_rfl }
theorem liteClone (s : ByteArray) (w : World) (hlim : s.size ≤ 281474976710656) :
    Calls Tryz.prog 96 #[.string s] w fun e w' => e = .returned (.string s) ∧ Below w.heap.size w w' := Any.stringslite_Clone sh316 s w hlim
theorem clone_any (s : ByteArray) (w : World) (hs : s.size ≤ 281474976710656) :
    Calls Tryz.prog 72 #[.string s] w fun e w' => e = .returned (.string s) ∧ Below w.heap.size w w' := by
  go_enter Tryz.func72, Tryz.ntmps72
  go_wp2_with (go_at_call 96; refine (liteClone _ _ hs).mono ?_; rintro e w' ⟨rfl, hb⟩)
  go_ret
  exact ⟨rfl, hb⟩

theorem Tab.pos {w : World} (h : Tab w) : 1 < w.heap.size := by
  have h0 := h 0 (by omega)
  by_cases hz : 1 < w.heap.size
  · exact hz
  · have : w.heap[1]? = none := Array.getElem?_eq_none (by omega)
    simp [World.cell?, this] at h0
theorem Tab.below {w w' : World} (h : Tab w) (hb : Below w.heap.size w w') : Tab w' := by
  intro i hi
  rw [hb.cell (p := ⟨1, i, none⟩) h.pos]
  exact h i hi
theorem Tab.drewN {w : World} (h : Tab w) (n : Nat) : Tab (w.drewN n) := h.below (below_drewN (Below.refl _ _) n)

end Go.Proofs.YtoolbbibnegdnaaGreatDoor
/-
  The program's fourBytes, word, frameSum and Frame, as they run.
-/
namespace Go.Proofs.YtoolbbibnegdnaaGreatDoor
open Go.RowKit

set_option maxHeartbeats 1000000 in
theorem four_any (v : Nat) (w : World) (hv : v < 2 ^ 32) :
    Calls Tryz.prog 66 #[.int .u32 v] w fun e w' => e = .returned (.string ⟨(Lib.beBytes 4 v).toArray⟩) ∧ Below w.heap.size w w' := by
  have hcv := conv4 w _ _ _ _ ((v : Int) / 16777216) ((v : Int) / 65536 % 256) ((v : Int) / 256 % 256) ((v : Int) % 256) (byte_of (v / 16777216) _ (by omega)) (byte_of (v / 65536) _ (by omega)) (byte_of (v / 256) _ (by omega)) (byte_of v _ (by omega))
  have HE : Hid ((⟨(Lib.beBytes 4 v).toArray⟩ : ByteArray) = ⟨#[(v / 16777216 % 256).toUInt8, (v / 65536 % 256).toUInt8, (v / 256 % 256).toUInt8, (v % 256).toUInt8]⟩) := by rw [be4]; rfl
  rw [← HE.out] at hcv
  generalize (⟨(Lib.beBytes 4 v).toArray⟩ : ByteArray) = L at *
  clear HE
  go_enter Tryz.func66, Tryz.ntmps66
  go_wp2
  go_ret
  exact ⟨rfl, (Below.refl _ _).alloc (Nat.le_refl _) _⟩

theorem take_four (s : ByteArray) (h : 4 ≤ s.size) : s.data.toList.take 4 = [s[0], s[1], s[2], s[3]] := by
  obtain ⟨⟨l⟩⟩ := s
  have h4 : 4 ≤ l.length := h
  match l, h4 with
  | a :: b :: c :: d :: r, _ => rfl

set_option maxHeartbeats 1000000 in
theorem word_any (s : ByteArray) (w : World) (hs : 4 ≤ s.size) :
    Calls Tryz.prog 71 #[.string s] w fun e w' => e = .returned (.int .u32 (Lib.beNat (s.data.toList.take 4))) ∧ ∃ n, w' = w.drewN n := by
  have h0 : 0 < s.size := by omega
  have h1 : 1 < s.size := by omega
  have h2 : 2 < s.size := by omega
  have h3 : 3 < s.size := by omega
  have j1 : (1 : Int) < s.size := by omega
  have j2 : (2 : Int) < s.size := by omega
  have j3 : (3 : Int) < s.size := by omega
  go_enter Tryz.func71, Tryz.ntmps71
  go_wp2
  go_quiet (fail)
  go_wp2
  go_ret
  refine ⟨ret_u32 ?_, nq, rfl⟩
  have h := val4 s[0].toNat s[1].toNat s[2].toNat s[3].toNat s[0].toNat_lt s[1].toNat_lt s[2].toNat_lt s[3].toNat_lt
  refine Eq.trans ?_ (h.trans ?_)
  · rfl
  · rw [take_four s hs]
    simp [Lib.beNat, Lib.beFrom]

set_option maxHeartbeats 400000 in
theorem fsum_any (n4 body : ByteArray) (w : World) (h1 : n4.size ≤ 9223372036854775807) (h2 : body.size ≤ 9223372036854775807) (hT : Tab w) :
    Calls Tryz.prog 67 #[.string n4, .string body] w fun e w' => e = .returned (.int .u32 (sumF (n4.data.toList ++ body.data.toList))) ∧ w' = w := by
  have HS := hide (sum_any n4 w h1 hT)
  have HM := hide (more_any (sumF n4.data.toList) body w (sumF_lt _) h2 hT)
  rw [sumF_join] at HM
  clear hT
  generalize sumF (n4.data.toList ++ body.data.toList) = m at *
  generalize sumF n4.data.toList = k at *
  go_enter Tryz.func67, Tryz.ntmps67
  go_wp2_with fail
  refine HS.out.mono ?_
  rintro e w' ⟨rfl, rfl⟩
  go_wp2_with fail
  refine HM.out.mono ?_
  rintro e w' ⟨rfl, rfl⟩
  go_wp2
  go_ret
  exact ⟨rfl, rfl⟩

set_option maxHeartbeats 1000000 in
theorem frame_long (body : ByteArray) (w : World) (h : 400000 < body.size) (_h63 : body.size ≤ 9223372036854775807) :
    Calls Tryz.prog 40 #[.string body] w fun e w' => e = .returned (.tuple #[.string ⟨#[]⟩, .int .i64 3]) ∧ Below w.heap.size w w' := by
  go_enter Tryz.func40, Tryz.ntmps40
  go_wp2
  go_ret2
  exact ⟨rfl, Below.refl _ _⟩

set_option maxHeartbeats 1000000 in
theorem frame_ok (body n4 s4 : ByteArray) (m : Nat) (w : World) (hT : Tab w) (h : body.size ≤ 400000) (h4 : n4.size = 4) (hs4 : s4.size = 4)
    (HW1 : Hid (∀ w, Calls Tryz.prog 66 #[.int .u32 body.size] w fun e w' => e = .returned (.string n4) ∧ Below w.heap.size w w'))
    (HS : Hid (∀ w, Tab w → Calls Tryz.prog 67 #[.string n4, .string body] w fun e w' => e = .returned (.int .u32 m) ∧ w' = w))
    (HW2 : Hid (∀ w, Calls Tryz.prog 66 #[.int .u32 m] w fun e w' => e = .returned (.string s4) ∧ Below w.heap.size w w')) :
    Calls Tryz.prog 40 #[.string body] w fun e w' => e = .returned (.tuple #[.string (n4 ++ s4 ++ body), .int .i64 0]) ∧ Below w.heap.size w w' := by
  have HT := hide hT
  clear hT
  go_enter Tryz.func40, Tryz.ntmps40
  go_wp2_with fail
  refine (HW1.out _).mono ?_
  rintro e w1 ⟨rfl, b1⟩
  have HT1 := hide (HT.out.below b1)
  have B1 := hide b1
  clear b1
  go_wp2_with fail
  refine (HS.out _ HT1.out).mono ?_
  rintro e w2 ⟨rfl, rfl⟩
  go_wp2_with fail
  refine (HW2.out _).mono ?_
  rintro e w3 ⟨rfl, b3⟩
  have B3 := hide (B1.out.trans (b3.mono B1.out.size))
  clear b3
  go_wp2
  go_ret2
  exact ⟨rfl, B3.out⟩

theorem frame_any (body : ByteArray) (w : World) (hT : Tab w) (h63 : body.size ≤ 9223372036854775807) :
    Calls Tryz.prog 40 #[.string body] w fun e w' => e = .returned (.tuple #[.string ⟨(frameF body.data.toList).1.toArray⟩, .int .i64 (frameF body.data.toList).2]) ∧ Below w.heap.size w w' := by
  unfold frameF
  rw [size_list]
  by_cases h : 400000 < body.size
  · rw [if_pos h]
    exact frame_long body w h h63
  · rw [if_neg h]
    simp only
    rw [← frame_mk]
    refine frame_ok body _ _ (sumF (lenB body.data.toList ++ body.data.toList)) w hT (by omega) (by rw [mk_size, lenB_length]) (by rw [mk_size, sumB_length]) ?_ ?_ ?_
    · intro w
      have := four_any body.size w (by omega)
      rw [← size_list] at this
      exact this
    · intro w hT
      have := fsum_any ⟨(lenB body.data.toList).toArray⟩ body w (by rw [mk_size, lenB_length]; omega) h63 hT
      rw [mk_data] at this
      exact this
    · intro w
      exact four_any _ w (sumF_lt _)

end Go.Proofs.YtoolbbibnegdnaaGreatDoor
/-
  The program's Take, as it runs.
-/
namespace Go.Proofs.YtoolbbibnegdnaaGreatDoor
open Go.RowKit

set_option maxHeartbeats 1000000 in
theorem take_short (s : ByteArray) (w : World) (_h63 : s.size ≤ 9223372036854775807) (h : s.size < 4) :
    Calls Tryz.prog 45 #[.string s] w fun e w' => e = .returned (.tuple #[.string ⟨#[]⟩, .int .i64 0, .int .i64 2]) ∧ Below w.heap.size w w' := by
  go_enter Tryz.func45, Tryz.ntmps45
  go_wp2
  refine bodyPost_ret (v := .tuple #[.string ⟨#[]⟩, .int .i64 0, .int .i64 2]) (by simp [results, Tryz.results45, go_sem]) rfl ⟨rfl, Below.refl _ _⟩

set_option maxHeartbeats 1000000 in
theorem take_long (s : ByteArray) (w : World) (_h63 : s.size ≤ 9223372036854775807) (m : Nat) (h : 4 ≤ s.size) (HV : Hid (∀ w, Calls Tryz.prog 71 #[.string s] w fun e w' => e = .returned (.int .u32 m) ∧ ∃ n, w' = w.drewN n)) (hm : 400000 < m) :
    Calls Tryz.prog 45 #[.string s] w fun e w' => e = .returned (.tuple #[.string ⟨#[]⟩, .int .i64 0, .int .i64 3]) ∧ Below w.heap.size w w' := by
  go_enter Tryz.func45, Tryz.ntmps45
  go_wp2_with fail
  refine (HV.out _).mono ?_
  rintro e w1 ⟨rfl, hw1⟩
  have B1 : Hid (Below w.heap.size w w1) := by
    obtain ⟨n1, rfl⟩ := hw1
    exact below_drewN (Below.refl _ _) n1
  clear hw1
  go_wp2
  refine bodyPost_ret (v := .tuple #[.string ⟨#[]⟩, .int .i64 0, .int .i64 3]) (by simp [results, Tryz.results45, go_sem]) rfl ⟨rfl, B1.out⟩

set_option maxHeartbeats 1000000 in
theorem ptake_torn (s : ByteArray) (w : World) (_h63 : s.size ≤ 9223372036854775807) (m : Nat) (h : 4 ≤ s.size) (HV : Hid (∀ w, Calls Tryz.prog 71 #[.string s] w fun e w' => e = .returned (.int .u32 m) ∧ ∃ n, w' = w.drewN n)) (hm : m ≤ 400000) (h2 : s.size < 8 + m) :
    Calls Tryz.prog 45 #[.string s] w fun e w' => e = .returned (.tuple #[.string ⟨#[]⟩, .int .i64 0, .int .i64 2]) ∧ Below w.heap.size w w' := by
  go_enter Tryz.func45, Tryz.ntmps45
  go_wp2_with fail
  refine (HV.out _).mono ?_
  rintro e w1 ⟨rfl, hw1⟩
  have B1 : Hid (Below w.heap.size w w1) := by
    obtain ⟨n1, rfl⟩ := hw1
    exact below_drewN (Below.refl _ _) n1
  clear hw1
  go_wp2
  refine bodyPost_ret (v := .tuple #[.string ⟨#[]⟩, .int .i64 0, .int .i64 2]) (by simp [results, Tryz.results45, go_sem]) rfl ⟨rfl, B1.out⟩

set_option maxHeartbeats 1000000 in
theorem ptake_sum (s : ByteArray) (w : World) (hT : Tab w) (_h63 : s.size ≤ 9223372036854775807) (m q p : Nat) (HV : Hid (∀ w, Calls Tryz.prog 71 #[.string s] w fun e w' => e = .returned (.int .u32 m) ∧ ∃ n, w' = w.drewN n)) (hm : m ≤ 400000) (h2 : 8 + m ≤ s.size)
    (HQ : Hid (∀ w, Calls Tryz.prog 71 #[.string (s.extract 4 s.size)] w fun e w' => e = .returned (.int .u32 q) ∧ ∃ n, w' = w.drewN n))
    (HS : Hid (∀ w, Tab w → Calls Tryz.prog 67 #[.string (s.extract 0 4), .string (s.extract 8 (8 + m))] w fun e w' => e = .returned (.int .u32 p) ∧ w' = w)) (hqp : ((p : Int) != (q : Int)) = true) :
    Calls Tryz.prog 45 #[.string s] w fun e w' => e = .returned (.tuple #[.string ⟨#[]⟩, .int .i64 0, .int .i64 4]) ∧ Below w.heap.size w w' := by
  have HT := hide hT
  clear hT
  go_enter Tryz.func45, Tryz.ntmps45
  go_wp2_with fail
  refine (HV.out _).mono ?_
  rintro e w1 ⟨rfl, hw1⟩
  have B1 : Hid (Below w.heap.size w w1) := by
    obtain ⟨n1, rfl⟩ := hw1
    exact below_drewN (Below.refl _ _) n1
  have HT1 := hide (HT.out.below B1.out)
  clear hw1
  have i4 : (4 : Int) ≤ s.size := by omega
  have i8 : (8 : Int) ≤ s.size := by omega
  have im : 8 + (m : Int) ≤ s.size := by omega
  have j8 : (8 : Int) ≤ 8 + (m : Int) := by omega
  have n8 : 8 ≤ s.size := by omega
  go_wp2_with fail
  go_quiet ((first | (go_at_call 71; exact Calls.quiet_of (HQ.out _)) | (go_at_call 67; exact Calls.quiet_of_same (HS.out _ HT1.out))))
  go_wp2
  refine bodyPost_ret (v := .tuple #[.string ⟨#[]⟩, .int .i64 0, .int .i64 4]) (by simp [results, Tryz.results45, go_sem]) rfl ⟨rfl, below_drewN B1.out nq⟩

set_option maxHeartbeats 1000000 in
theorem ptake_ok (s : ByteArray) (w : World) (hT : Tab w) (_h63 : s.size ≤ 9223372036854775807) (m q p : Nat) (HV : Hid (∀ w, Calls Tryz.prog 71 #[.string s] w fun e w' => e = .returned (.int .u32 m) ∧ ∃ n, w' = w.drewN n)) (hm : m ≤ 400000) (h2 : 8 + m ≤ s.size)
    (HQ : Hid (∀ w, Calls Tryz.prog 71 #[.string (s.extract 4 s.size)] w fun e w' => e = .returned (.int .u32 q) ∧ ∃ n, w' = w.drewN n))
    (HS : Hid (∀ w, Tab w → Calls Tryz.prog 67 #[.string (s.extract 0 4), .string (s.extract 8 (8 + m))] w fun e w' => e = .returned (.int .u32 p) ∧ w' = w)) (hqp : ((p : Int) != (q : Int)) = false) :
    Calls Tryz.prog 45 #[.string s] w fun e w' => e = .returned (.tuple #[.string (s.extract 8 (8 + m)), .int .i64 (8 + m), .int .i64 0]) ∧ Below w.heap.size w w' := by
  have HT := hide hT
  clear hT
  have HC : Hid (∀ w, Calls Tryz.prog 72 #[.string (s.extract 8 (8 + m))] w fun e w' => e = .returned (.string (s.extract 8 (8 + m))) ∧ Below w.heap.size w w') := fun w => clone_any _ w (by simp; omega)
  go_enter Tryz.func45, Tryz.ntmps45
  go_wp2_with fail
  refine (HV.out _).mono ?_
  rintro e w1 ⟨rfl, hw1⟩
  have B1 : Hid (Below w.heap.size w w1) := by
    obtain ⟨n1, rfl⟩ := hw1
    exact below_drewN (Below.refl _ _) n1
  have HT1 := hide (HT.out.below B1.out)
  clear hw1
  have i4 : (4 : Int) ≤ s.size := by omega
  have i8 : (8 : Int) ≤ s.size := by omega
  have im : 8 + (m : Int) ≤ s.size := by omega
  have j8 : (8 : Int) ≤ 8 + (m : Int) := by omega
  have n8 : 8 ≤ s.size := by omega
  go_wp2_with fail
  go_quiet ((first | (go_at_call 71; exact Calls.quiet_of (HQ.out _)) | (go_at_call 67; exact Calls.quiet_of_same (HS.out _ HT1.out))))
  have B2 := hide (below_drewN B1.out nq)
  generalize w1.drewN nq = w2 at *
  go_wp2_with fail
  refine (HC.out _).mono ?_
  rintro e w3 ⟨rfl, b3⟩
  have B3 := hide (B2.out.trans (b3.mono B2.out.size))
  clear b3
  go_wp2
  refine bodyPost_ret (v := .tuple #[.string (s.extract 8 (8 + m)), .int .i64 (8 + m), .int .i64 0]) (by simp [results, Tryz.results45, go_sem]) rfl ⟨rfl, B3.out⟩

theorem take_any (s : ByteArray) (w : World) (hT : Tab w) (h63 : s.size ≤ 9223372036854775807) :
    Calls Tryz.prog 45 #[.string s] w fun e w' => e = .returned (.tuple #[.string ⟨(takeF s.data.toList).1.toArray⟩, .int .i64 (takeF s.data.toList).2.1, .int .i64 (takeF s.data.toList).2.2]) ∧ Below w.heap.size w w' := by
  by_cases h : s.size < 4
  · rw [show takeF s.data.toList = ([], 0, 2) by unfold takeF; rw [if_pos (by rw [size_list]; exact h)]]
    exact take_short s w h63 h
  · obtain ⟨m, hm⟩ : ∃ m, Lib.beNat (s.data.toList.take 4) = m := ⟨_, rfl⟩
    have HV : Hid (∀ w, Calls Tryz.prog 71 #[.string s] w fun e w' => e = .returned (.int .u32 m) ∧ ∃ n, w' = w.drewN n) := by
      intro w
      have := word_any s w (by omega)
      rw [hm] at this
      exact this
    by_cases h1 : 400000 < m
    · rw [show takeF s.data.toList = ([], 0, 3) by unfold takeF; rw [if_neg (by rw [size_list]; exact h), hm, if_pos h1]]
      exact take_long s w h63 m (by omega) HV h1
    · by_cases h2 : s.size < 8 + m
      · rw [show takeF s.data.toList = ([], 0, 2) by unfold takeF; rw [if_neg (by rw [size_list]; exact h), hm, if_neg h1, if_pos (by rw [size_list]; exact h2)]]
        exact ptake_torn s w h63 m (by omega) HV (by omega) h2
      · have x4 : (s.extract 0 4).data.toList = s.data.toList.take 4 := by rw [ext_data]; simp
        have x8 : (s.extract 4 s.size).data.toList.take 4 = (s.data.toList.drop 4).take 4 := by rw [ext_data, List.take_take, Nat.min_eq_left (by omega)]
        have xb : (s.extract 8 (8 + m)).data.toList = (s.data.toList.drop 8).take m := by rw [ext_data]; simp
        obtain ⟨q, hq⟩ : ∃ q, Lib.beNat ((s.data.toList.drop 4).take 4) = q := ⟨_, rfl⟩
        obtain ⟨p, hp⟩ : ∃ p, sumF (s.data.toList.take 4 ++ (s.data.toList.drop 8).take m) = p := ⟨_, rfl⟩
        have HQ : Hid (∀ w, Calls Tryz.prog 71 #[.string (s.extract 4 s.size)] w fun e w' => e = .returned (.int .u32 q) ∧ ∃ n, w' = w.drewN n) := by
          intro w
          have := word_any (s.extract 4 s.size) w (by simp; omega)
          rw [x8, hq] at this
          exact this
        have HS : Hid (∀ w, Tab w → Calls Tryz.prog 67 #[.string (s.extract 0 4), .string (s.extract 8 (8 + m))] w fun e w' => e = .returned (.int .u32 p) ∧ w' = w) := by
          intro w hT
          have := fsum_any (s.extract 0 4) (s.extract 8 (8 + m)) w (by simp; omega) (by simp; omega) hT
          rw [x4, xb, hp] at this
          exact this
        by_cases hqp : q = p
        · rw [show takeF s.data.toList = ((s.data.toList.drop 8).take m, 8 + m, 0) by unfold takeF; rw [if_neg (by rw [size_list]; exact h), hm, if_neg h1, if_neg (by rw [size_list]; exact h2), hq, hp, if_neg (by simpa using hqp)]]
          have := ptake_ok s w hT h63 m q p HV (by omega) (by omega) HQ HS (by subst hqp; simp)
          rw [← mk_list (s.extract 8 (8 + m)), xb] at this
          exact this
        · rw [show takeF s.data.toList = ([], 0, 4) by unfold takeF; rw [if_neg (by rw [size_list]; exact h), hm, if_neg h1, if_neg (by rw [size_list]; exact h2), hq, hp, if_pos hqp]]
          exact ptake_sum s w hT h63 m q p HV (by omega) (by omega) HQ HS (by rw [bne_iff_ne]; omega)

end Go.Proofs.YtoolbbibnegdnaaGreatDoor
