/-
  SegmentBit, as it runs.
-/
import Derived.Test.YtgnehnlmbodijaaDoorZBit0
namespace Go.Proofs.YtgnehnlmbodijaaDoor
open Go.RowKit

set_option maxHeartbeats 4000000 in
set_option maxRecDepth 20000 in
theorem bit_pos_pos (l : List Rec) (v : Value) (c0 : Nat) (c1 : Nat) (w : World) (hT : Tab w) (hc0 : c0 ≤ 9223372036854775807) (hc1 : c1 ≤ 9223372036854775807) (hl : l.length ≤ 4611686018427387904) (hok : ∀ r ∈ l, r.ok) (ha : RecsAt w v l) :
    Calls Tryd.prog 8 #[v, .int .i64 (c1 : Int), .int .i64 (c0 : Int)] w fun e w' => e = .returned (.bool true) ∧ Below w.heap.size w w' := by
  have HE := hide (examples_any w hT)
  have HRI := hide (fun W (h : RecsAt W v l) => rising_any l v W hl hok h)
  have HA := hide ha
  have HT := hide hT
  obtain ⟨ao, ac, rfl⟩ := recs_shape ha
  clear ha hT hok
  go_enter Tryd.func8, Tryd.ntmps8
  go_wp2_with fail
  refine HE.out.mono ?_
  rintro e w1 ⟨rfl, b1⟩
  have B1 := hide b1
  clear b1 HE
  go_wp2_with fail
  refine (HRI.out _ (HA.out.below B1.out)).mono ?_
  rintro e w2 ⟨v2, out, rfl, hrs, hol, ho, b2⟩
  have B2 := hide (B1.out.trans (b2.mono B1.out.size))
  have R2 := hide (recs_of_row ho)
  obtain ⟨oo, oc, rfl⟩ := own_slice ho
  have hoc := own_cap ho
  have HWR := hide (fun W hT h => written_any out (.slice oo out.length oc) W hT hol (rises_right 0 out hrs) h)
  have HRS := hide hrs
  clear b2 B1 HRI HA ho hrs hl
  go_wp2_with fail
  refine (HWR.out _ (HT.out.below B2.out) R2.out).mono ?_
  rintro e w3 ⟨ev, rfl, oe, b3⟩
  have B3 := hide (B2.out.trans (b3.mono B2.out.size))
  have R3 := hide (R2.out.below b3)
  obtain ⟨eo, ec, rfl⟩ := own_slice oe
  have OE := hide oe
  clear b3 B2 HWR oe R2
  have HEA : Hid (∀ i, i < out.length → ∃ g, eo = some ⟨g, 0, none⟩ ∧ g < w3.heap.size ∧ w3.cell? ⟨g, i, none⟩ = some (.int .i64 ((writtenF (out.take (i + 1))).length : Nat))) := fun i hi => ends_at OE.out i hi
  obtain ⟨S, hS⟩ : ∃ S : ByteArray, S = ⟨(writtenF out).toArray⟩ := ⟨_, rfl⟩
  have hSl : S.size = (writtenF out).length := by rw [hS, mk_size2]
  have hSd : S.data.toList = writtenF out := by rw [hS, mk_data2]
  have hSs : S.size ≤ 34680 := by
    have := written_small out (rises_right 0 out HRS.out) out.length
    rw [List.take_length] at this
    omega
  have HSL := hide hSl
  have HSD := hide hSd
  rw [← hS]
  clear hS hSl hSd OE
  by_cases hz : out.length = 0
  · have hq : ((out.length : Int) == 0) = true := by rw [beq_iff_eq]; omega
    clear hz
    go_wp2
    go_ret
    exact ⟨rfl, B3.out⟩
  · have hq : ((out.length : Int) == 0) = false := by rw [beq_eq_false_iff_ne]; omega
    have hz1 : 1 ≤ out.length := by omega
    obtain ⟨k, hk, hkl⟩ : ∃ k : Nat, (c1 : Int) % (out.length : Int) = (k : Int) ∧ k < out.length := ⟨c1 % out.length, by rw [Int.natCast_emod], Nat.mod_lt _ (by omega)⟩
    clear hz
    by_cases hk0 : k ≤ 0
    · obtain rfl : k = 0 := by omega
      obtain ⟨g, hge, hg, hcell⟩ := HEA.out 0 hkl
      cases hge
      obtain ⟨M, hM⟩ : ∃ M, (writtenF (out.take (0 + 1))).length = M := ⟨_, rfl⟩
      rw [hM] at hcell
      have hM1 : M = (oneF out[0]).length := by rw [← hM, written_take out 0 hkl]; simp [writtenF]
      have hMS : M ≤ S.size := by have h := congrArg List.length (written_split out (0 + 1)); rw [List.length_append] at h; have := HSL.out; omega
      have hM8 : 8 ≤ M := by rw [hM1]; exact one_pos _
      have hM9 : M ≤ 1156 := by rw [hM1]; exact one_le (rises_right 0 out HRS.out _ (List.getElem_mem hkl))
      have HM1 := hide hM1
      clear hM hM1
      obtain ⟨W, cap, hcv, hat⟩ := bytes_conv w3 S
      have HAT := hide hat
      clear hat
      obtain ⟨Q, hQ, hQ1, hQ2⟩ : ∃ Q : Nat, wrap64 (32 + (c0 : Int) % (8 * (M : Int) - 32)) = (Q : Int) ∧ 8 * 0 + 32 ≤ Q ∧ Q < 8 * M := by
        refine ⟨8 * 0 + 32 + c0 % (8 * (M - 0) - 32), ?_, by omega, ?_⟩
        · have e : (8 * (M : Int) - 32) = ((8 * (M - 0) - 32 : Nat) : Int) := by omega
          have h := Nat.mod_lt c0 (show 0 < 8 * (M - 0) - 32 by omega)
          rw [e, ← Int.natCast_emod]
          simp only [wrap64]
          omega
        · have h := Nat.mod_lt c0 (show 0 < 8 * (M - 0) - 32 by omega)
          omega
      obtain ⟨i, hi⟩ : ∃ i : Nat, (Q : Int) / 8 = (i : Int) := ⟨Q / 8, by omega⟩
      obtain ⟨r, hr⟩ : ∃ r : Nat, (Q : Int) % 8 = (r : Int) := ⟨Q % 8, by omega⟩
      have hiF : i < S.size := by omega
      have hr8 : r < 8 := by omega
      have hiI : (i : Int) < S.size := by omega
      have hi2 : i < S.data.toList.length := by rw [size_list]; exact hiF
      obtain ⟨x, hx⟩ : ∃ x, S.data.toList[i] = x := ⟨_, rfl⟩
      have c9 := HAT.out.cells i hi2
      rw [hx] at c9
      have f9 := HAT.out.free i hi2
      have hlt := HAT.out.lt
      go_wp2
      rw [hQ, hk]
      have HAT3 : Hid (∀ y, y = ((UInt8.ofNat (x.toNat ^^^ 2 ^ r)).toNat : Int) → BytesAt w3 (W.setCell ⟨w3.heap.size, i, none⟩ (.int .u8 y)).drew w3.heap.size (flipF S.data.toList Q)) := by
        intro y hy
        rw [flip_set S.data.toList Q i r (by omega) (by omega) hi2, hx]
        exact HAT.out.set i hi2 _ y hy
      have HY := hide (flip_val x r hr8)
      have HKq : Hid (∀ W, Tab W → Calls Tryd.prog 15 #[.int .i64 0, .string ⟨(flipF S.data.toList Q).toArray⟩] W fun e' w' => ∃ v, e' = .returned (.tuple #[v, .int .i64 0, .int .i64 4]) ∧ RecsAt w' v (out.take 0) ∧ Below W.heap.size W w') := by
        intro W hT
        have h := bit_calls out HRS.out hol 0 0 (Q - 8 * 0) hkl rfl (by omega) (by have := HM1.out; omega) W hT
        rw [show 8 * 0 + (Q - 8 * 0) = Q by omega, ← HSD.out] at h
        exact h
      have HGL : Hid ((flipF S.data.toList Q).length = S.size) := by rw [flipF_length, size_list]; exact rfl
      have HRM := hide (R3.out.take 0 (by omega))
      clear HAT hQ1 hQ2 hx
      generalize hwg : w3.heap.size = gg at *
      go_region
      have HAT4 := hide (HAT3.out _ HY.out)
      clear HAT3 HY
      generalize (W.setCell ⟨gg, i, none⟩ (.int .u8 (bits .xor .u8 (x.toNat : Int) (2 ^ r % 256)))).drew = W4 at HAT4 ⊢
      have hback := HAT4.out.back S.size cap HGL.out
      have B4 := hide (B3.out.trans (HAT4.out.below.mono B3.out.size))
      have T4 := hide (HT.out.below B4.out)
      have RM4 := hide (HRM.out.below HAT4.out.below)
      clear HAT4 HGL HRM
      go_wp2_with fail
      refine (HKq.out _ T4.out).mono ?_
      rintro e w5 ⟨v5, rfl, r5, b5⟩
      have B5 := hide (B4.out.trans (b5.mono B4.out.size))
      have RM5 := hide (RM4.out.below b5)
      have hTK : (out.take (0)).length = 0 := by rw [List.length_take]; omega
      obtain ⟨so, sc, rfl⟩ := recs_shape r5
      rw [hTK] at r5 ⊢
      have HRE : Hid (Calls Tryd.prog 16 #[.slice so (0) sc, .slice oo (0) oc] w5 fun e w' => e = .returned (.bool true) ∧ ∃ n, w' = w5.drewN n) := records_same (out.take (0)) _ _ w5 (by omega) r5 RM5.out
      have hmoc : 0 ≤ oc := by omega
      clear b5 r5 RM5 RM4 hTK HKq
      go_wp2_with fail
      refine HRE.out.mono ?_
      rintro e w6 ⟨rfl, nq, rfl⟩
      go_wp2
      go_ret
      exact ⟨rfl, below_drewN B5.out nq⟩
    · obtain ⟨j, rfl⟩ : ∃ j, k = j + 1 := ⟨k - 1, by omega⟩
      obtain ⟨g, hge, hg, hcell⟩ := HEA.out (j + 1) hkl
      cases hge
      obtain ⟨g', hge', hg', hcell'⟩ := HEA.out j (by omega)
      cases hge'
      obtain ⟨N, hN⟩ : ∃ N, (writtenF (out.take (j + 1))).length = N := ⟨_, rfl⟩
      obtain ⟨M, hM⟩ : ∃ M, (writtenF (out.take (j + 1 + 1))).length = M := ⟨_, rfl⟩
      rw [hN] at hcell'
      rw [hM] at hcell
      have hM1 : M = N + (oneF out[j + 1]).length := by rw [← hM, written_take out (j + 1) hkl, List.length_append, hN]
      have hMS : M ≤ S.size := by have h := congrArg List.length (written_split out (j + 1 + 1)); rw [List.length_append] at h; have := HSL.out; omega
      have hM8 : N + 8 ≤ M := by have := one_pos out[j + 1]; omega
      have hM9 : M ≤ N + 1156 := by have := one_le (rises_right 0 out HRS.out _ (List.getElem_mem hkl)); omega
      have hN9 : N ≤ 34680 := by have := written_small out (rises_right 0 out HRS.out) (j + 1); omega
      have HM1 := hide hM1
      have HN := hide hN
      clear hM hM1 hN
      obtain ⟨W, cap, hcv, hat⟩ := bytes_conv w3 S
      have HAT := hide hat
      clear hat
      obtain ⟨Q, hQ, hQ1, hQ2⟩ : ∃ Q : Nat, wrap64 (8 * (N : Int) + 32 + (c0 : Int) % (8 * ((M : Int) - (N : Int)) - 32)) = (Q : Int) ∧ 8 * N + 32 ≤ Q ∧ Q < 8 * M := by
        refine ⟨8 * N + 32 + c0 % (8 * (M - N) - 32), ?_, by omega, ?_⟩
        · have e : (8 * ((M : Int) - (N : Int)) - 32) = ((8 * (M - N) - 32 : Nat) : Int) := by omega
          have h := Nat.mod_lt c0 (show 0 < 8 * (M - N) - 32 by omega)
          rw [e, ← Int.natCast_emod]
          simp only [wrap64]
          omega
        · have h := Nat.mod_lt c0 (show 0 < 8 * (M - N) - 32 by omega)
          omega
      obtain ⟨i, hi⟩ : ∃ i : Nat, (Q : Int) / 8 = (i : Int) := ⟨Q / 8, by omega⟩
      obtain ⟨r, hr⟩ : ∃ r : Nat, (Q : Int) % 8 = (r : Int) := ⟨Q % 8, by omega⟩
      have hiF : i < S.size := by omega
      have hr8 : r < 8 := by omega
      have hiI : (i : Int) < S.size := by omega
      have hi2 : i < S.data.toList.length := by rw [size_list]; exact hiF
      obtain ⟨x, hx⟩ : ∃ x, S.data.toList[i] = x := ⟨_, rfl⟩
      have c9 := HAT.out.cells i hi2
      rw [hx] at c9
      have f9 := HAT.out.free i hi2
      have hlt := HAT.out.lt
      go_wp2
      rw [hQ, hk]
      have HAT3 : Hid (∀ y, y = ((UInt8.ofNat (x.toNat ^^^ 2 ^ r)).toNat : Int) → BytesAt w3 (W.setCell ⟨w3.heap.size, i, none⟩ (.int .u8 y)).drew w3.heap.size (flipF S.data.toList Q)) := by
        intro y hy
        rw [flip_set S.data.toList Q i r (by omega) (by omega) hi2, hx]
        exact HAT.out.set i hi2 _ y hy
      have HY := hide (flip_val x r hr8)
      have HKq : Hid (∀ W, Tab W → Calls Tryd.prog 15 #[.int .i64 0, .string ⟨(flipF S.data.toList Q).toArray⟩] W fun e' w' => ∃ v, e' = .returned (.tuple #[v, .int .i64 (N : Int), .int .i64 4]) ∧ RecsAt w' v (out.take (j + 1)) ∧ Below W.heap.size W w') := by
        intro W hT
        have h := bit_calls out HRS.out hol (j + 1) N (Q - 8 * N) hkl HN.out (by omega) (by have := HM1.out; omega) W hT
        rw [show 8 * N + (Q - 8 * N) = Q by omega, ← HSD.out] at h
        exact h
      have HGL : Hid ((flipF S.data.toList Q).length = S.size) := by rw [flipF_length, size_list]; exact rfl
      have HRM := hide (R3.out.take (j + 1) (by omega))
      clear HAT hQ1 hQ2 hx
      generalize hwg : w3.heap.size = gg at *
      go_region
      have HAT4 := hide (HAT3.out _ HY.out)
      clear HAT3 HY
      generalize (W.setCell ⟨gg, i, none⟩ (.int .u8 (bits .xor .u8 (x.toNat : Int) (2 ^ r % 256)))).drew = W4 at HAT4 ⊢
      have hback := HAT4.out.back S.size cap HGL.out
      have B4 := hide (B3.out.trans (HAT4.out.below.mono B3.out.size))
      have T4 := hide (HT.out.below B4.out)
      have RM4 := hide (HRM.out.below HAT4.out.below)
      clear HAT4 HGL HRM
      go_wp2_with fail
      refine (HKq.out _ T4.out).mono ?_
      rintro e w5 ⟨v5, rfl, r5, b5⟩
      have B5 := hide (B4.out.trans (b5.mono B4.out.size))
      have RM5 := hide (RM4.out.below b5)
      have hTK : (out.take (j + 1)).length = j + 1 := by rw [List.length_take]; omega
      obtain ⟨so, sc, rfl⟩ := recs_shape r5
      rw [hTK] at r5 ⊢
      have HRE : Hid (Calls Tryd.prog 16 #[.slice so (j + 1) sc, .slice oo (j + 1) oc] w5 fun e w' => e = .returned (.bool true) ∧ ∃ n, w' = w5.drewN n) := records_same (out.take (j + 1)) _ _ w5 (by omega) r5 RM5.out
      have hmoc : j + 1 ≤ oc := by omega
      clear b5 r5 RM5 RM4 hTK HKq
      go_wp2_with fail
      refine HRE.out.mono ?_
      rintro e w6 ⟨rfl, nq, rfl⟩
      go_wp2
      go_ret
      exact ⟨rfl, below_drewN B5.out nq⟩
set_option maxHeartbeats 4000000 in
set_option maxRecDepth 20000 in
theorem bit_pos_neg (l : List Rec) (v : Value) (c0 : Nat) (c1 : Nat) (w : World) (hT : Tab w) (hc0 : c0 ≤ 9223372036854775807) (hc1 : c1 ≤ 9223372036854775807) (hl : l.length ≤ 4611686018427387904) (hok : ∀ r ∈ l, r.ok) (ha : RecsAt w v l) :
    Calls Tryd.prog 8 #[v, .int .i64 (c1 : Int), .int .i64 (-(c0 : Int) - 1)] w fun e w' => e = .returned (.bool true) ∧ Below w.heap.size w w' := by
  have HE := hide (examples_any w hT)
  have HRI := hide (fun W (h : RecsAt W v l) => rising_any l v W hl hok h)
  have HA := hide ha
  have HT := hide hT
  obtain ⟨ao, ac, rfl⟩ := recs_shape ha
  clear ha hT hok
  go_enter Tryd.func8, Tryd.ntmps8
  go_wp2_with fail
  refine HE.out.mono ?_
  rintro e w1 ⟨rfl, b1⟩
  have B1 := hide b1
  clear b1 HE
  go_wp2_with fail
  refine (HRI.out _ (HA.out.below B1.out)).mono ?_
  rintro e w2 ⟨v2, out, rfl, hrs, hol, ho, b2⟩
  have B2 := hide (B1.out.trans (b2.mono B1.out.size))
  have R2 := hide (recs_of_row ho)
  obtain ⟨oo, oc, rfl⟩ := own_slice ho
  have hoc := own_cap ho
  have HWR := hide (fun W hT h => written_any out (.slice oo out.length oc) W hT hol (rises_right 0 out hrs) h)
  have HRS := hide hrs
  clear b2 B1 HRI HA ho hrs hl
  go_wp2_with fail
  refine (HWR.out _ (HT.out.below B2.out) R2.out).mono ?_
  rintro e w3 ⟨ev, rfl, oe, b3⟩
  have B3 := hide (B2.out.trans (b3.mono B2.out.size))
  have R3 := hide (R2.out.below b3)
  obtain ⟨eo, ec, rfl⟩ := own_slice oe
  have OE := hide oe
  clear b3 B2 HWR oe R2
  have HEA : Hid (∀ i, i < out.length → ∃ g, eo = some ⟨g, 0, none⟩ ∧ g < w3.heap.size ∧ w3.cell? ⟨g, i, none⟩ = some (.int .i64 ((writtenF (out.take (i + 1))).length : Nat))) := fun i hi => ends_at OE.out i hi
  obtain ⟨S, hS⟩ : ∃ S : ByteArray, S = ⟨(writtenF out).toArray⟩ := ⟨_, rfl⟩
  have hSl : S.size = (writtenF out).length := by rw [hS, mk_size2]
  have hSd : S.data.toList = writtenF out := by rw [hS, mk_data2]
  have hSs : S.size ≤ 34680 := by
    have := written_small out (rises_right 0 out HRS.out) out.length
    rw [List.take_length] at this
    omega
  have HSL := hide hSl
  have HSD := hide hSd
  rw [← hS]
  clear hS hSl hSd OE
  by_cases hz : out.length = 0
  · have hq : ((out.length : Int) == 0) = true := by rw [beq_iff_eq]; omega
    clear hz
    go_wp2
    go_ret
    exact ⟨rfl, B3.out⟩
  · have hq : ((out.length : Int) == 0) = false := by rw [beq_eq_false_iff_ne]; omega
    have hz1 : 1 ≤ out.length := by omega
    obtain ⟨k, hk, hkl⟩ : ∃ k : Nat, (c1 : Int) % (out.length : Int) = (k : Int) ∧ k < out.length := ⟨c1 % out.length, by rw [Int.natCast_emod], Nat.mod_lt _ (by omega)⟩
    clear hz
    by_cases hk0 : k ≤ 0
    · obtain rfl : k = 0 := by omega
      obtain ⟨g, hge, hg, hcell⟩ := HEA.out 0 hkl
      cases hge
      obtain ⟨M, hM⟩ : ∃ M, (writtenF (out.take (0 + 1))).length = M := ⟨_, rfl⟩
      rw [hM] at hcell
      have hM1 : M = (oneF out[0]).length := by rw [← hM, written_take out 0 hkl]; simp [writtenF]
      have hMS : M ≤ S.size := by have h := congrArg List.length (written_split out (0 + 1)); rw [List.length_append] at h; have := HSL.out; omega
      have hM8 : 8 ≤ M := by rw [hM1]; exact one_pos _
      have hM9 : M ≤ 1156 := by rw [hM1]; exact one_le (rises_right 0 out HRS.out _ (List.getElem_mem hkl))
      have HM1 := hide hM1
      clear hM hM1
      obtain ⟨W, cap, hcv, hat⟩ := bytes_conv w3 S
      have HAT := hide hat
      clear hat
      obtain ⟨Q, hQ, hQ1, hQ2⟩ : ∃ Q : Nat, wrap64 (32 + (c0 : Int) % (8 * (M : Int) - 32)) = (Q : Int) ∧ 8 * 0 + 32 ≤ Q ∧ Q < 8 * M := by
        refine ⟨8 * 0 + 32 + c0 % (8 * (M - 0) - 32), ?_, by omega, ?_⟩
        · have e : (8 * (M : Int) - 32) = ((8 * (M - 0) - 32 : Nat) : Int) := by omega
          have h := Nat.mod_lt c0 (show 0 < 8 * (M - 0) - 32 by omega)
          rw [e, ← Int.natCast_emod]
          simp only [wrap64]
          omega
        · have h := Nat.mod_lt c0 (show 0 < 8 * (M - 0) - 32 by omega)
          omega
      obtain ⟨i, hi⟩ : ∃ i : Nat, (Q : Int) / 8 = (i : Int) := ⟨Q / 8, by omega⟩
      obtain ⟨r, hr⟩ : ∃ r : Nat, (Q : Int) % 8 = (r : Int) := ⟨Q % 8, by omega⟩
      have hiF : i < S.size := by omega
      have hr8 : r < 8 := by omega
      have hiI : (i : Int) < S.size := by omega
      have hi2 : i < S.data.toList.length := by rw [size_list]; exact hiF
      obtain ⟨x, hx⟩ : ∃ x, S.data.toList[i] = x := ⟨_, rfl⟩
      have c9 := HAT.out.cells i hi2
      rw [hx] at c9
      have f9 := HAT.out.free i hi2
      have hlt := HAT.out.lt
      go_wp2
      rw [hQ, hk]
      have HAT3 : Hid (∀ y, y = ((UInt8.ofNat (x.toNat ^^^ 2 ^ r)).toNat : Int) → BytesAt w3 (W.setCell ⟨w3.heap.size, i, none⟩ (.int .u8 y)).drew w3.heap.size (flipF S.data.toList Q)) := by
        intro y hy
        rw [flip_set S.data.toList Q i r (by omega) (by omega) hi2, hx]
        exact HAT.out.set i hi2 _ y hy
      have HY := hide (flip_val x r hr8)
      have HKq : Hid (∀ W, Tab W → Calls Tryd.prog 15 #[.int .i64 0, .string ⟨(flipF S.data.toList Q).toArray⟩] W fun e' w' => ∃ v, e' = .returned (.tuple #[v, .int .i64 0, .int .i64 4]) ∧ RecsAt w' v (out.take 0) ∧ Below W.heap.size W w') := by
        intro W hT
        have h := bit_calls out HRS.out hol 0 0 (Q - 8 * 0) hkl rfl (by omega) (by have := HM1.out; omega) W hT
        rw [show 8 * 0 + (Q - 8 * 0) = Q by omega, ← HSD.out] at h
        exact h
      have HGL : Hid ((flipF S.data.toList Q).length = S.size) := by rw [flipF_length, size_list]; exact rfl
      have HRM := hide (R3.out.take 0 (by omega))
      clear HAT hQ1 hQ2 hx
      generalize hwg : w3.heap.size = gg at *
      go_region
      have HAT4 := hide (HAT3.out _ HY.out)
      clear HAT3 HY
      generalize (W.setCell ⟨gg, i, none⟩ (.int .u8 (bits .xor .u8 (x.toNat : Int) (2 ^ r % 256)))).drew = W4 at HAT4 ⊢
      have hback := HAT4.out.back S.size cap HGL.out
      have B4 := hide (B3.out.trans (HAT4.out.below.mono B3.out.size))
      have T4 := hide (HT.out.below B4.out)
      have RM4 := hide (HRM.out.below HAT4.out.below)
      clear HAT4 HGL HRM
      go_wp2_with fail
      refine (HKq.out _ T4.out).mono ?_
      rintro e w5 ⟨v5, rfl, r5, b5⟩
      have B5 := hide (B4.out.trans (b5.mono B4.out.size))
      have RM5 := hide (RM4.out.below b5)
      have hTK : (out.take (0)).length = 0 := by rw [List.length_take]; omega
      obtain ⟨so, sc, rfl⟩ := recs_shape r5
      rw [hTK] at r5 ⊢
      have HRE : Hid (Calls Tryd.prog 16 #[.slice so (0) sc, .slice oo (0) oc] w5 fun e w' => e = .returned (.bool true) ∧ ∃ n, w' = w5.drewN n) := records_same (out.take (0)) _ _ w5 (by omega) r5 RM5.out
      have hmoc : 0 ≤ oc := by omega
      clear b5 r5 RM5 RM4 hTK HKq
      go_wp2_with fail
      refine HRE.out.mono ?_
      rintro e w6 ⟨rfl, nq, rfl⟩
      go_wp2
      go_ret
      exact ⟨rfl, below_drewN B5.out nq⟩
    · obtain ⟨j, rfl⟩ : ∃ j, k = j + 1 := ⟨k - 1, by omega⟩
      obtain ⟨g, hge, hg, hcell⟩ := HEA.out (j + 1) hkl
      cases hge
      obtain ⟨g', hge', hg', hcell'⟩ := HEA.out j (by omega)
      cases hge'
      obtain ⟨N, hN⟩ : ∃ N, (writtenF (out.take (j + 1))).length = N := ⟨_, rfl⟩
      obtain ⟨M, hM⟩ : ∃ M, (writtenF (out.take (j + 1 + 1))).length = M := ⟨_, rfl⟩
      rw [hN] at hcell'
      rw [hM] at hcell
      have hM1 : M = N + (oneF out[j + 1]).length := by rw [← hM, written_take out (j + 1) hkl, List.length_append, hN]
      have hMS : M ≤ S.size := by have h := congrArg List.length (written_split out (j + 1 + 1)); rw [List.length_append] at h; have := HSL.out; omega
      have hM8 : N + 8 ≤ M := by have := one_pos out[j + 1]; omega
      have hM9 : M ≤ N + 1156 := by have := one_le (rises_right 0 out HRS.out _ (List.getElem_mem hkl)); omega
      have hN9 : N ≤ 34680 := by have := written_small out (rises_right 0 out HRS.out) (j + 1); omega
      have HM1 := hide hM1
      have HN := hide hN
      clear hM hM1 hN
      obtain ⟨W, cap, hcv, hat⟩ := bytes_conv w3 S
      have HAT := hide hat
      clear hat
      obtain ⟨Q, hQ, hQ1, hQ2⟩ : ∃ Q : Nat, wrap64 (8 * (N : Int) + 32 + (c0 : Int) % (8 * ((M : Int) - (N : Int)) - 32)) = (Q : Int) ∧ 8 * N + 32 ≤ Q ∧ Q < 8 * M := by
        refine ⟨8 * N + 32 + c0 % (8 * (M - N) - 32), ?_, by omega, ?_⟩
        · have e : (8 * ((M : Int) - (N : Int)) - 32) = ((8 * (M - N) - 32 : Nat) : Int) := by omega
          have h := Nat.mod_lt c0 (show 0 < 8 * (M - N) - 32 by omega)
          rw [e, ← Int.natCast_emod]
          simp only [wrap64]
          omega
        · have h := Nat.mod_lt c0 (show 0 < 8 * (M - N) - 32 by omega)
          omega
      obtain ⟨i, hi⟩ : ∃ i : Nat, (Q : Int) / 8 = (i : Int) := ⟨Q / 8, by omega⟩
      obtain ⟨r, hr⟩ : ∃ r : Nat, (Q : Int) % 8 = (r : Int) := ⟨Q % 8, by omega⟩
      have hiF : i < S.size := by omega
      have hr8 : r < 8 := by omega
      have hiI : (i : Int) < S.size := by omega
      have hi2 : i < S.data.toList.length := by rw [size_list]; exact hiF
      obtain ⟨x, hx⟩ : ∃ x, S.data.toList[i] = x := ⟨_, rfl⟩
      have c9 := HAT.out.cells i hi2
      rw [hx] at c9
      have f9 := HAT.out.free i hi2
      have hlt := HAT.out.lt
      go_wp2
      rw [hQ, hk]
      have HAT3 : Hid (∀ y, y = ((UInt8.ofNat (x.toNat ^^^ 2 ^ r)).toNat : Int) → BytesAt w3 (W.setCell ⟨w3.heap.size, i, none⟩ (.int .u8 y)).drew w3.heap.size (flipF S.data.toList Q)) := by
        intro y hy
        rw [flip_set S.data.toList Q i r (by omega) (by omega) hi2, hx]
        exact HAT.out.set i hi2 _ y hy
      have HY := hide (flip_val x r hr8)
      have HKq : Hid (∀ W, Tab W → Calls Tryd.prog 15 #[.int .i64 0, .string ⟨(flipF S.data.toList Q).toArray⟩] W fun e' w' => ∃ v, e' = .returned (.tuple #[v, .int .i64 (N : Int), .int .i64 4]) ∧ RecsAt w' v (out.take (j + 1)) ∧ Below W.heap.size W w') := by
        intro W hT
        have h := bit_calls out HRS.out hol (j + 1) N (Q - 8 * N) hkl HN.out (by omega) (by have := HM1.out; omega) W hT
        rw [show 8 * N + (Q - 8 * N) = Q by omega, ← HSD.out] at h
        exact h
      have HGL : Hid ((flipF S.data.toList Q).length = S.size) := by rw [flipF_length, size_list]; exact rfl
      have HRM := hide (R3.out.take (j + 1) (by omega))
      clear HAT hQ1 hQ2 hx
      generalize hwg : w3.heap.size = gg at *
      go_region
      have HAT4 := hide (HAT3.out _ HY.out)
      clear HAT3 HY
      generalize (W.setCell ⟨gg, i, none⟩ (.int .u8 (bits .xor .u8 (x.toNat : Int) (2 ^ r % 256)))).drew = W4 at HAT4 ⊢
      have hback := HAT4.out.back S.size cap HGL.out
      have B4 := hide (B3.out.trans (HAT4.out.below.mono B3.out.size))
      have T4 := hide (HT.out.below B4.out)
      have RM4 := hide (HRM.out.below HAT4.out.below)
      clear HAT4 HGL HRM
      go_wp2_with fail
      refine (HKq.out _ T4.out).mono ?_
      rintro e w5 ⟨v5, rfl, r5, b5⟩
      have B5 := hide (B4.out.trans (b5.mono B4.out.size))
      have RM5 := hide (RM4.out.below b5)
      have hTK : (out.take (j + 1)).length = j + 1 := by rw [List.length_take]; omega
      obtain ⟨so, sc, rfl⟩ := recs_shape r5
      rw [hTK] at r5 ⊢
      have HRE : Hid (Calls Tryd.prog 16 #[.slice so (j + 1) sc, .slice oo (j + 1) oc] w5 fun e w' => e = .returned (.bool true) ∧ ∃ n, w' = w5.drewN n) := records_same (out.take (j + 1)) _ _ w5 (by omega) r5 RM5.out
      have hmoc : j + 1 ≤ oc := by omega
      clear b5 r5 RM5 RM4 hTK HKq
      go_wp2_with fail
      refine HRE.out.mono ?_
      rintro e w6 ⟨rfl, nq, rfl⟩
      go_wp2
      go_ret
      exact ⟨rfl, below_drewN B5.out nq⟩
set_option maxHeartbeats 4000000 in
set_option maxRecDepth 20000 in
theorem bit_neg_pos (l : List Rec) (v : Value) (c0 : Nat) (c1 : Nat) (w : World) (hT : Tab w) (hc0 : c0 ≤ 9223372036854775807) (hc1 : c1 ≤ 9223372036854775807) (hl : l.length ≤ 4611686018427387904) (hok : ∀ r ∈ l, r.ok) (ha : RecsAt w v l) :
    Calls Tryd.prog 8 #[v, .int .i64 (-(c1 : Int) - 1), .int .i64 (c0 : Int)] w fun e w' => e = .returned (.bool true) ∧ Below w.heap.size w w' := by
  have HE := hide (examples_any w hT)
  have HRI := hide (fun W (h : RecsAt W v l) => rising_any l v W hl hok h)
  have HA := hide ha
  have HT := hide hT
  obtain ⟨ao, ac, rfl⟩ := recs_shape ha
  clear ha hT hok
  go_enter Tryd.func8, Tryd.ntmps8
  go_wp2_with fail
  refine HE.out.mono ?_
  rintro e w1 ⟨rfl, b1⟩
  have B1 := hide b1
  clear b1 HE
  go_wp2_with fail
  refine (HRI.out _ (HA.out.below B1.out)).mono ?_
  rintro e w2 ⟨v2, out, rfl, hrs, hol, ho, b2⟩
  have B2 := hide (B1.out.trans (b2.mono B1.out.size))
  have R2 := hide (recs_of_row ho)
  obtain ⟨oo, oc, rfl⟩ := own_slice ho
  have hoc := own_cap ho
  have HWR := hide (fun W hT h => written_any out (.slice oo out.length oc) W hT hol (rises_right 0 out hrs) h)
  have HRS := hide hrs
  clear b2 B1 HRI HA ho hrs hl
  go_wp2_with fail
  refine (HWR.out _ (HT.out.below B2.out) R2.out).mono ?_
  rintro e w3 ⟨ev, rfl, oe, b3⟩
  have B3 := hide (B2.out.trans (b3.mono B2.out.size))
  have R3 := hide (R2.out.below b3)
  obtain ⟨eo, ec, rfl⟩ := own_slice oe
  have OE := hide oe
  clear b3 B2 HWR oe R2
  have HEA : Hid (∀ i, i < out.length → ∃ g, eo = some ⟨g, 0, none⟩ ∧ g < w3.heap.size ∧ w3.cell? ⟨g, i, none⟩ = some (.int .i64 ((writtenF (out.take (i + 1))).length : Nat))) := fun i hi => ends_at OE.out i hi
  obtain ⟨S, hS⟩ : ∃ S : ByteArray, S = ⟨(writtenF out).toArray⟩ := ⟨_, rfl⟩
  have hSl : S.size = (writtenF out).length := by rw [hS, mk_size2]
  have hSd : S.data.toList = writtenF out := by rw [hS, mk_data2]
  have hSs : S.size ≤ 34680 := by
    have := written_small out (rises_right 0 out HRS.out) out.length
    rw [List.take_length] at this
    omega
  have HSL := hide hSl
  have HSD := hide hSd
  rw [← hS]
  clear hS hSl hSd OE
  by_cases hz : out.length = 0
  · have hq : ((out.length : Int) == 0) = true := by rw [beq_iff_eq]; omega
    clear hz
    go_wp2
    go_ret
    exact ⟨rfl, B3.out⟩
  · have hq : ((out.length : Int) == 0) = false := by rw [beq_eq_false_iff_ne]; omega
    have hz1 : 1 ≤ out.length := by omega
    obtain ⟨k, hk, hkl⟩ : ∃ k : Nat, (c1 : Int) % (out.length : Int) = (k : Int) ∧ k < out.length := ⟨c1 % out.length, by rw [Int.natCast_emod], Nat.mod_lt _ (by omega)⟩
    clear hz
    by_cases hk0 : k ≤ 0
    · obtain rfl : k = 0 := by omega
      obtain ⟨g, hge, hg, hcell⟩ := HEA.out 0 hkl
      cases hge
      obtain ⟨M, hM⟩ : ∃ M, (writtenF (out.take (0 + 1))).length = M := ⟨_, rfl⟩
      rw [hM] at hcell
      have hM1 : M = (oneF out[0]).length := by rw [← hM, written_take out 0 hkl]; simp [writtenF]
      have hMS : M ≤ S.size := by have h := congrArg List.length (written_split out (0 + 1)); rw [List.length_append] at h; have := HSL.out; omega
      have hM8 : 8 ≤ M := by rw [hM1]; exact one_pos _
      have hM9 : M ≤ 1156 := by rw [hM1]; exact one_le (rises_right 0 out HRS.out _ (List.getElem_mem hkl))
      have HM1 := hide hM1
      clear hM hM1
      obtain ⟨W, cap, hcv, hat⟩ := bytes_conv w3 S
      have HAT := hide hat
      clear hat
      obtain ⟨Q, hQ, hQ1, hQ2⟩ : ∃ Q : Nat, wrap64 (32 + (c0 : Int) % (8 * (M : Int) - 32)) = (Q : Int) ∧ 8 * 0 + 32 ≤ Q ∧ Q < 8 * M := by
        refine ⟨8 * 0 + 32 + c0 % (8 * (M - 0) - 32), ?_, by omega, ?_⟩
        · have e : (8 * (M : Int) - 32) = ((8 * (M - 0) - 32 : Nat) : Int) := by omega
          have h := Nat.mod_lt c0 (show 0 < 8 * (M - 0) - 32 by omega)
          rw [e, ← Int.natCast_emod]
          simp only [wrap64]
          omega
        · have h := Nat.mod_lt c0 (show 0 < 8 * (M - 0) - 32 by omega)
          omega
      obtain ⟨i, hi⟩ : ∃ i : Nat, (Q : Int) / 8 = (i : Int) := ⟨Q / 8, by omega⟩
      obtain ⟨r, hr⟩ : ∃ r : Nat, (Q : Int) % 8 = (r : Int) := ⟨Q % 8, by omega⟩
      have hiF : i < S.size := by omega
      have hr8 : r < 8 := by omega
      have hiI : (i : Int) < S.size := by omega
      have hi2 : i < S.data.toList.length := by rw [size_list]; exact hiF
      obtain ⟨x, hx⟩ : ∃ x, S.data.toList[i] = x := ⟨_, rfl⟩
      have c9 := HAT.out.cells i hi2
      rw [hx] at c9
      have f9 := HAT.out.free i hi2
      have hlt := HAT.out.lt
      go_wp2
      rw [hQ, hk]
      have HAT3 : Hid (∀ y, y = ((UInt8.ofNat (x.toNat ^^^ 2 ^ r)).toNat : Int) → BytesAt w3 (W.setCell ⟨w3.heap.size, i, none⟩ (.int .u8 y)).drew w3.heap.size (flipF S.data.toList Q)) := by
        intro y hy
        rw [flip_set S.data.toList Q i r (by omega) (by omega) hi2, hx]
        exact HAT.out.set i hi2 _ y hy
      have HY := hide (flip_val x r hr8)
      have HKq : Hid (∀ W, Tab W → Calls Tryd.prog 15 #[.int .i64 0, .string ⟨(flipF S.data.toList Q).toArray⟩] W fun e' w' => ∃ v, e' = .returned (.tuple #[v, .int .i64 0, .int .i64 4]) ∧ RecsAt w' v (out.take 0) ∧ Below W.heap.size W w') := by
        intro W hT
        have h := bit_calls out HRS.out hol 0 0 (Q - 8 * 0) hkl rfl (by omega) (by have := HM1.out; omega) W hT
        rw [show 8 * 0 + (Q - 8 * 0) = Q by omega, ← HSD.out] at h
        exact h
      have HGL : Hid ((flipF S.data.toList Q).length = S.size) := by rw [flipF_length, size_list]; exact rfl
      have HRM := hide (R3.out.take 0 (by omega))
      clear HAT hQ1 hQ2 hx
      generalize hwg : w3.heap.size = gg at *
      go_region
      have HAT4 := hide (HAT3.out _ HY.out)
      clear HAT3 HY
      generalize (W.setCell ⟨gg, i, none⟩ (.int .u8 (bits .xor .u8 (x.toNat : Int) (2 ^ r % 256)))).drew = W4 at HAT4 ⊢
      have hback := HAT4.out.back S.size cap HGL.out
      have B4 := hide (B3.out.trans (HAT4.out.below.mono B3.out.size))
      have T4 := hide (HT.out.below B4.out)
      have RM4 := hide (HRM.out.below HAT4.out.below)
      clear HAT4 HGL HRM
      go_wp2_with fail
      refine (HKq.out _ T4.out).mono ?_
      rintro e w5 ⟨v5, rfl, r5, b5⟩
      have B5 := hide (B4.out.trans (b5.mono B4.out.size))
      have RM5 := hide (RM4.out.below b5)
      have hTK : (out.take (0)).length = 0 := by rw [List.length_take]; omega
      obtain ⟨so, sc, rfl⟩ := recs_shape r5
      rw [hTK] at r5 ⊢
      have HRE : Hid (Calls Tryd.prog 16 #[.slice so (0) sc, .slice oo (0) oc] w5 fun e w' => e = .returned (.bool true) ∧ ∃ n, w' = w5.drewN n) := records_same (out.take (0)) _ _ w5 (by omega) r5 RM5.out
      have hmoc : 0 ≤ oc := by omega
      clear b5 r5 RM5 RM4 hTK HKq
      go_wp2_with fail
      refine HRE.out.mono ?_
      rintro e w6 ⟨rfl, nq, rfl⟩
      go_wp2
      go_ret
      exact ⟨rfl, below_drewN B5.out nq⟩
    · obtain ⟨j, rfl⟩ : ∃ j, k = j + 1 := ⟨k - 1, by omega⟩
      obtain ⟨g, hge, hg, hcell⟩ := HEA.out (j + 1) hkl
      cases hge
      obtain ⟨g', hge', hg', hcell'⟩ := HEA.out j (by omega)
      cases hge'
      obtain ⟨N, hN⟩ : ∃ N, (writtenF (out.take (j + 1))).length = N := ⟨_, rfl⟩
      obtain ⟨M, hM⟩ : ∃ M, (writtenF (out.take (j + 1 + 1))).length = M := ⟨_, rfl⟩
      rw [hN] at hcell'
      rw [hM] at hcell
      have hM1 : M = N + (oneF out[j + 1]).length := by rw [← hM, written_take out (j + 1) hkl, List.length_append, hN]
      have hMS : M ≤ S.size := by have h := congrArg List.length (written_split out (j + 1 + 1)); rw [List.length_append] at h; have := HSL.out; omega
      have hM8 : N + 8 ≤ M := by have := one_pos out[j + 1]; omega
      have hM9 : M ≤ N + 1156 := by have := one_le (rises_right 0 out HRS.out _ (List.getElem_mem hkl)); omega
      have hN9 : N ≤ 34680 := by have := written_small out (rises_right 0 out HRS.out) (j + 1); omega
      have HM1 := hide hM1
      have HN := hide hN
      clear hM hM1 hN
      obtain ⟨W, cap, hcv, hat⟩ := bytes_conv w3 S
      have HAT := hide hat
      clear hat
      obtain ⟨Q, hQ, hQ1, hQ2⟩ : ∃ Q : Nat, wrap64 (8 * (N : Int) + 32 + (c0 : Int) % (8 * ((M : Int) - (N : Int)) - 32)) = (Q : Int) ∧ 8 * N + 32 ≤ Q ∧ Q < 8 * M := by
        refine ⟨8 * N + 32 + c0 % (8 * (M - N) - 32), ?_, by omega, ?_⟩
        · have e : (8 * ((M : Int) - (N : Int)) - 32) = ((8 * (M - N) - 32 : Nat) : Int) := by omega
          have h := Nat.mod_lt c0 (show 0 < 8 * (M - N) - 32 by omega)
          rw [e, ← Int.natCast_emod]
          simp only [wrap64]
          omega
        · have h := Nat.mod_lt c0 (show 0 < 8 * (M - N) - 32 by omega)
          omega
      obtain ⟨i, hi⟩ : ∃ i : Nat, (Q : Int) / 8 = (i : Int) := ⟨Q / 8, by omega⟩
      obtain ⟨r, hr⟩ : ∃ r : Nat, (Q : Int) % 8 = (r : Int) := ⟨Q % 8, by omega⟩
      have hiF : i < S.size := by omega
      have hr8 : r < 8 := by omega
      have hiI : (i : Int) < S.size := by omega
      have hi2 : i < S.data.toList.length := by rw [size_list]; exact hiF
      obtain ⟨x, hx⟩ : ∃ x, S.data.toList[i] = x := ⟨_, rfl⟩
      have c9 := HAT.out.cells i hi2
      rw [hx] at c9
      have f9 := HAT.out.free i hi2
      have hlt := HAT.out.lt
      go_wp2
      rw [hQ, hk]
      have HAT3 : Hid (∀ y, y = ((UInt8.ofNat (x.toNat ^^^ 2 ^ r)).toNat : Int) → BytesAt w3 (W.setCell ⟨w3.heap.size, i, none⟩ (.int .u8 y)).drew w3.heap.size (flipF S.data.toList Q)) := by
        intro y hy
        rw [flip_set S.data.toList Q i r (by omega) (by omega) hi2, hx]
        exact HAT.out.set i hi2 _ y hy
      have HY := hide (flip_val x r hr8)
      have HKq : Hid (∀ W, Tab W → Calls Tryd.prog 15 #[.int .i64 0, .string ⟨(flipF S.data.toList Q).toArray⟩] W fun e' w' => ∃ v, e' = .returned (.tuple #[v, .int .i64 (N : Int), .int .i64 4]) ∧ RecsAt w' v (out.take (j + 1)) ∧ Below W.heap.size W w') := by
        intro W hT
        have h := bit_calls out HRS.out hol (j + 1) N (Q - 8 * N) hkl HN.out (by omega) (by have := HM1.out; omega) W hT
        rw [show 8 * N + (Q - 8 * N) = Q by omega, ← HSD.out] at h
        exact h
      have HGL : Hid ((flipF S.data.toList Q).length = S.size) := by rw [flipF_length, size_list]; exact rfl
      have HRM := hide (R3.out.take (j + 1) (by omega))
      clear HAT hQ1 hQ2 hx
      generalize hwg : w3.heap.size = gg at *
      go_region
      have HAT4 := hide (HAT3.out _ HY.out)
      clear HAT3 HY
      generalize (W.setCell ⟨gg, i, none⟩ (.int .u8 (bits .xor .u8 (x.toNat : Int) (2 ^ r % 256)))).drew = W4 at HAT4 ⊢
      have hback := HAT4.out.back S.size cap HGL.out
      have B4 := hide (B3.out.trans (HAT4.out.below.mono B3.out.size))
      have T4 := hide (HT.out.below B4.out)
      have RM4 := hide (HRM.out.below HAT4.out.below)
      clear HAT4 HGL HRM
      go_wp2_with fail
      refine (HKq.out _ T4.out).mono ?_
      rintro e w5 ⟨v5, rfl, r5, b5⟩
      have B5 := hide (B4.out.trans (b5.mono B4.out.size))
      have RM5 := hide (RM4.out.below b5)
      have hTK : (out.take (j + 1)).length = j + 1 := by rw [List.length_take]; omega
      obtain ⟨so, sc, rfl⟩ := recs_shape r5
      rw [hTK] at r5 ⊢
      have HRE : Hid (Calls Tryd.prog 16 #[.slice so (j + 1) sc, .slice oo (j + 1) oc] w5 fun e w' => e = .returned (.bool true) ∧ ∃ n, w' = w5.drewN n) := records_same (out.take (j + 1)) _ _ w5 (by omega) r5 RM5.out
      have hmoc : j + 1 ≤ oc := by omega
      clear b5 r5 RM5 RM4 hTK HKq
      go_wp2_with fail
      refine HRE.out.mono ?_
      rintro e w6 ⟨rfl, nq, rfl⟩
      go_wp2
      go_ret
      exact ⟨rfl, below_drewN B5.out nq⟩
set_option maxHeartbeats 4000000 in
set_option maxRecDepth 20000 in
theorem bit_neg_neg (l : List Rec) (v : Value) (c0 : Nat) (c1 : Nat) (w : World) (hT : Tab w) (hc0 : c0 ≤ 9223372036854775807) (hc1 : c1 ≤ 9223372036854775807) (hl : l.length ≤ 4611686018427387904) (hok : ∀ r ∈ l, r.ok) (ha : RecsAt w v l) :
    Calls Tryd.prog 8 #[v, .int .i64 (-(c1 : Int) - 1), .int .i64 (-(c0 : Int) - 1)] w fun e w' => e = .returned (.bool true) ∧ Below w.heap.size w w' := by
  have HE := hide (examples_any w hT)
  have HRI := hide (fun W (h : RecsAt W v l) => rising_any l v W hl hok h)
  have HA := hide ha
  have HT := hide hT
  obtain ⟨ao, ac, rfl⟩ := recs_shape ha
  clear ha hT hok
  go_enter Tryd.func8, Tryd.ntmps8
  go_wp2_with fail
  refine HE.out.mono ?_
  rintro e w1 ⟨rfl, b1⟩
  have B1 := hide b1
  clear b1 HE
  go_wp2_with fail
  refine (HRI.out _ (HA.out.below B1.out)).mono ?_
  rintro e w2 ⟨v2, out, rfl, hrs, hol, ho, b2⟩
  have B2 := hide (B1.out.trans (b2.mono B1.out.size))
  have R2 := hide (recs_of_row ho)
  obtain ⟨oo, oc, rfl⟩ := own_slice ho
  have hoc := own_cap ho
  have HWR := hide (fun W hT h => written_any out (.slice oo out.length oc) W hT hol (rises_right 0 out hrs) h)
  have HRS := hide hrs
  clear b2 B1 HRI HA ho hrs hl
  go_wp2_with fail
  refine (HWR.out _ (HT.out.below B2.out) R2.out).mono ?_
  rintro e w3 ⟨ev, rfl, oe, b3⟩
  have B3 := hide (B2.out.trans (b3.mono B2.out.size))
  have R3 := hide (R2.out.below b3)
  obtain ⟨eo, ec, rfl⟩ := own_slice oe
  have OE := hide oe
  clear b3 B2 HWR oe R2
  have HEA : Hid (∀ i, i < out.length → ∃ g, eo = some ⟨g, 0, none⟩ ∧ g < w3.heap.size ∧ w3.cell? ⟨g, i, none⟩ = some (.int .i64 ((writtenF (out.take (i + 1))).length : Nat))) := fun i hi => ends_at OE.out i hi
  obtain ⟨S, hS⟩ : ∃ S : ByteArray, S = ⟨(writtenF out).toArray⟩ := ⟨_, rfl⟩
  have hSl : S.size = (writtenF out).length := by rw [hS, mk_size2]
  have hSd : S.data.toList = writtenF out := by rw [hS, mk_data2]
  have hSs : S.size ≤ 34680 := by
    have := written_small out (rises_right 0 out HRS.out) out.length
    rw [List.take_length] at this
    omega
  have HSL := hide hSl
  have HSD := hide hSd
  rw [← hS]
  clear hS hSl hSd OE
  by_cases hz : out.length = 0
  · have hq : ((out.length : Int) == 0) = true := by rw [beq_iff_eq]; omega
    clear hz
    go_wp2
    go_ret
    exact ⟨rfl, B3.out⟩
  · have hq : ((out.length : Int) == 0) = false := by rw [beq_eq_false_iff_ne]; omega
    have hz1 : 1 ≤ out.length := by omega
    obtain ⟨k, hk, hkl⟩ : ∃ k : Nat, (c1 : Int) % (out.length : Int) = (k : Int) ∧ k < out.length := ⟨c1 % out.length, by rw [Int.natCast_emod], Nat.mod_lt _ (by omega)⟩
    clear hz
    by_cases hk0 : k ≤ 0
    · obtain rfl : k = 0 := by omega
      obtain ⟨g, hge, hg, hcell⟩ := HEA.out 0 hkl
      cases hge
      obtain ⟨M, hM⟩ : ∃ M, (writtenF (out.take (0 + 1))).length = M := ⟨_, rfl⟩
      rw [hM] at hcell
      have hM1 : M = (oneF out[0]).length := by rw [← hM, written_take out 0 hkl]; simp [writtenF]
      have hMS : M ≤ S.size := by have h := congrArg List.length (written_split out (0 + 1)); rw [List.length_append] at h; have := HSL.out; omega
      have hM8 : 8 ≤ M := by rw [hM1]; exact one_pos _
      have hM9 : M ≤ 1156 := by rw [hM1]; exact one_le (rises_right 0 out HRS.out _ (List.getElem_mem hkl))
      have HM1 := hide hM1
      clear hM hM1
      obtain ⟨W, cap, hcv, hat⟩ := bytes_conv w3 S
      have HAT := hide hat
      clear hat
      obtain ⟨Q, hQ, hQ1, hQ2⟩ : ∃ Q : Nat, wrap64 (32 + (c0 : Int) % (8 * (M : Int) - 32)) = (Q : Int) ∧ 8 * 0 + 32 ≤ Q ∧ Q < 8 * M := by
        refine ⟨8 * 0 + 32 + c0 % (8 * (M - 0) - 32), ?_, by omega, ?_⟩
        · have e : (8 * (M : Int) - 32) = ((8 * (M - 0) - 32 : Nat) : Int) := by omega
          have h := Nat.mod_lt c0 (show 0 < 8 * (M - 0) - 32 by omega)
          rw [e, ← Int.natCast_emod]
          simp only [wrap64]
          omega
        · have h := Nat.mod_lt c0 (show 0 < 8 * (M - 0) - 32 by omega)
          omega
      obtain ⟨i, hi⟩ : ∃ i : Nat, (Q : Int) / 8 = (i : Int) := ⟨Q / 8, by omega⟩
      obtain ⟨r, hr⟩ : ∃ r : Nat, (Q : Int) % 8 = (r : Int) := ⟨Q % 8, by omega⟩
      have hiF : i < S.size := by omega
      have hr8 : r < 8 := by omega
      have hiI : (i : Int) < S.size := by omega
      have hi2 : i < S.data.toList.length := by rw [size_list]; exact hiF
      obtain ⟨x, hx⟩ : ∃ x, S.data.toList[i] = x := ⟨_, rfl⟩
      have c9 := HAT.out.cells i hi2
      rw [hx] at c9
      have f9 := HAT.out.free i hi2
      have hlt := HAT.out.lt
      go_wp2
      rw [hQ, hk]
      have HAT3 : Hid (∀ y, y = ((UInt8.ofNat (x.toNat ^^^ 2 ^ r)).toNat : Int) → BytesAt w3 (W.setCell ⟨w3.heap.size, i, none⟩ (.int .u8 y)).drew w3.heap.size (flipF S.data.toList Q)) := by
        intro y hy
        rw [flip_set S.data.toList Q i r (by omega) (by omega) hi2, hx]
        exact HAT.out.set i hi2 _ y hy
      have HY := hide (flip_val x r hr8)
      have HKq : Hid (∀ W, Tab W → Calls Tryd.prog 15 #[.int .i64 0, .string ⟨(flipF S.data.toList Q).toArray⟩] W fun e' w' => ∃ v, e' = .returned (.tuple #[v, .int .i64 0, .int .i64 4]) ∧ RecsAt w' v (out.take 0) ∧ Below W.heap.size W w') := by
        intro W hT
        have h := bit_calls out HRS.out hol 0 0 (Q - 8 * 0) hkl rfl (by omega) (by have := HM1.out; omega) W hT
        rw [show 8 * 0 + (Q - 8 * 0) = Q by omega, ← HSD.out] at h
        exact h
      have HGL : Hid ((flipF S.data.toList Q).length = S.size) := by rw [flipF_length, size_list]; exact rfl
      have HRM := hide (R3.out.take 0 (by omega))
      clear HAT hQ1 hQ2 hx
      generalize hwg : w3.heap.size = gg at *
      go_region
      have HAT4 := hide (HAT3.out _ HY.out)
      clear HAT3 HY
      generalize (W.setCell ⟨gg, i, none⟩ (.int .u8 (bits .xor .u8 (x.toNat : Int) (2 ^ r % 256)))).drew = W4 at HAT4 ⊢
      have hback := HAT4.out.back S.size cap HGL.out
      have B4 := hide (B3.out.trans (HAT4.out.below.mono B3.out.size))
      have T4 := hide (HT.out.below B4.out)
      have RM4 := hide (HRM.out.below HAT4.out.below)
      clear HAT4 HGL HRM
      go_wp2_with fail
      refine (HKq.out _ T4.out).mono ?_
      rintro e w5 ⟨v5, rfl, r5, b5⟩
      have B5 := hide (B4.out.trans (b5.mono B4.out.size))
      have RM5 := hide (RM4.out.below b5)
      have hTK : (out.take (0)).length = 0 := by rw [List.length_take]; omega
      obtain ⟨so, sc, rfl⟩ := recs_shape r5
      rw [hTK] at r5 ⊢
      have HRE : Hid (Calls Tryd.prog 16 #[.slice so (0) sc, .slice oo (0) oc] w5 fun e w' => e = .returned (.bool true) ∧ ∃ n, w' = w5.drewN n) := records_same (out.take (0)) _ _ w5 (by omega) r5 RM5.out
      have hmoc : 0 ≤ oc := by omega
      clear b5 r5 RM5 RM4 hTK HKq
      go_wp2_with fail
      refine HRE.out.mono ?_
      rintro e w6 ⟨rfl, nq, rfl⟩
      go_wp2
      go_ret
      exact ⟨rfl, below_drewN B5.out nq⟩
    · obtain ⟨j, rfl⟩ : ∃ j, k = j + 1 := ⟨k - 1, by omega⟩
      obtain ⟨g, hge, hg, hcell⟩ := HEA.out (j + 1) hkl
      cases hge
      obtain ⟨g', hge', hg', hcell'⟩ := HEA.out j (by omega)
      cases hge'
      obtain ⟨N, hN⟩ : ∃ N, (writtenF (out.take (j + 1))).length = N := ⟨_, rfl⟩
      obtain ⟨M, hM⟩ : ∃ M, (writtenF (out.take (j + 1 + 1))).length = M := ⟨_, rfl⟩
      rw [hN] at hcell'
      rw [hM] at hcell
      have hM1 : M = N + (oneF out[j + 1]).length := by rw [← hM, written_take out (j + 1) hkl, List.length_append, hN]
      have hMS : M ≤ S.size := by have h := congrArg List.length (written_split out (j + 1 + 1)); rw [List.length_append] at h; have := HSL.out; omega
      have hM8 : N + 8 ≤ M := by have := one_pos out[j + 1]; omega
      have hM9 : M ≤ N + 1156 := by have := one_le (rises_right 0 out HRS.out _ (List.getElem_mem hkl)); omega
      have hN9 : N ≤ 34680 := by have := written_small out (rises_right 0 out HRS.out) (j + 1); omega
      have HM1 := hide hM1
      have HN := hide hN
      clear hM hM1 hN
      obtain ⟨W, cap, hcv, hat⟩ := bytes_conv w3 S
      have HAT := hide hat
      clear hat
      obtain ⟨Q, hQ, hQ1, hQ2⟩ : ∃ Q : Nat, wrap64 (8 * (N : Int) + 32 + (c0 : Int) % (8 * ((M : Int) - (N : Int)) - 32)) = (Q : Int) ∧ 8 * N + 32 ≤ Q ∧ Q < 8 * M := by
        refine ⟨8 * N + 32 + c0 % (8 * (M - N) - 32), ?_, by omega, ?_⟩
        · have e : (8 * ((M : Int) - (N : Int)) - 32) = ((8 * (M - N) - 32 : Nat) : Int) := by omega
          have h := Nat.mod_lt c0 (show 0 < 8 * (M - N) - 32 by omega)
          rw [e, ← Int.natCast_emod]
          simp only [wrap64]
          omega
        · have h := Nat.mod_lt c0 (show 0 < 8 * (M - N) - 32 by omega)
          omega
      obtain ⟨i, hi⟩ : ∃ i : Nat, (Q : Int) / 8 = (i : Int) := ⟨Q / 8, by omega⟩
      obtain ⟨r, hr⟩ : ∃ r : Nat, (Q : Int) % 8 = (r : Int) := ⟨Q % 8, by omega⟩
      have hiF : i < S.size := by omega
      have hr8 : r < 8 := by omega
      have hiI : (i : Int) < S.size := by omega
      have hi2 : i < S.data.toList.length := by rw [size_list]; exact hiF
      obtain ⟨x, hx⟩ : ∃ x, S.data.toList[i] = x := ⟨_, rfl⟩
      have c9 := HAT.out.cells i hi2
      rw [hx] at c9
      have f9 := HAT.out.free i hi2
      have hlt := HAT.out.lt
      go_wp2
      rw [hQ, hk]
      have HAT3 : Hid (∀ y, y = ((UInt8.ofNat (x.toNat ^^^ 2 ^ r)).toNat : Int) → BytesAt w3 (W.setCell ⟨w3.heap.size, i, none⟩ (.int .u8 y)).drew w3.heap.size (flipF S.data.toList Q)) := by
        intro y hy
        rw [flip_set S.data.toList Q i r (by omega) (by omega) hi2, hx]
        exact HAT.out.set i hi2 _ y hy
      have HY := hide (flip_val x r hr8)
      have HKq : Hid (∀ W, Tab W → Calls Tryd.prog 15 #[.int .i64 0, .string ⟨(flipF S.data.toList Q).toArray⟩] W fun e' w' => ∃ v, e' = .returned (.tuple #[v, .int .i64 (N : Int), .int .i64 4]) ∧ RecsAt w' v (out.take (j + 1)) ∧ Below W.heap.size W w') := by
        intro W hT
        have h := bit_calls out HRS.out hol (j + 1) N (Q - 8 * N) hkl HN.out (by omega) (by have := HM1.out; omega) W hT
        rw [show 8 * N + (Q - 8 * N) = Q by omega, ← HSD.out] at h
        exact h
      have HGL : Hid ((flipF S.data.toList Q).length = S.size) := by rw [flipF_length, size_list]; exact rfl
      have HRM := hide (R3.out.take (j + 1) (by omega))
      clear HAT hQ1 hQ2 hx
      generalize hwg : w3.heap.size = gg at *
      go_region
      have HAT4 := hide (HAT3.out _ HY.out)
      clear HAT3 HY
      generalize (W.setCell ⟨gg, i, none⟩ (.int .u8 (bits .xor .u8 (x.toNat : Int) (2 ^ r % 256)))).drew = W4 at HAT4 ⊢
      have hback := HAT4.out.back S.size cap HGL.out
      have B4 := hide (B3.out.trans (HAT4.out.below.mono B3.out.size))
      have T4 := hide (HT.out.below B4.out)
      have RM4 := hide (HRM.out.below HAT4.out.below)
      clear HAT4 HGL HRM
      go_wp2_with fail
      refine (HKq.out _ T4.out).mono ?_
      rintro e w5 ⟨v5, rfl, r5, b5⟩
      have B5 := hide (B4.out.trans (b5.mono B4.out.size))
      have RM5 := hide (RM4.out.below b5)
      have hTK : (out.take (j + 1)).length = j + 1 := by rw [List.length_take]; omega
      obtain ⟨so, sc, rfl⟩ := recs_shape r5
      rw [hTK] at r5 ⊢
      have HRE : Hid (Calls Tryd.prog 16 #[.slice so (j + 1) sc, .slice oo (j + 1) oc] w5 fun e w' => e = .returned (.bool true) ∧ ∃ n, w' = w5.drewN n) := records_same (out.take (j + 1)) _ _ w5 (by omega) r5 RM5.out
      have hmoc : j + 1 ≤ oc := by omega
      clear b5 r5 RM5 RM4 hTK HKq
      go_wp2_with fail
      refine HRE.out.mono ?_
      rintro e w6 ⟨rfl, nq, rfl⟩
      go_wp2
      go_ret
      exact ⟨rfl, below_drewN B5.out nq⟩
theorem bit_walk (l : List Rec) (v : Value) (which bit : Int) (w : World) (hT : Tab w) (h1 : -9223372036854775808 ≤ which) (h2 : which ≤ 9223372036854775807) (h3 : -9223372036854775808 ≤ bit) (h4 : bit ≤ 9223372036854775807) (hl : l.length ≤ 4611686018427387904) (hok : ∀ r ∈ l, r.ok) (ha : RecsAt w v l) :
    Calls Tryd.prog 8 #[v, .int .i64 which, .int .i64 bit] w fun e w' => e = .returned (.bool true) ∧ Below w.heap.size w w' := by
  by_cases h0 : 0 ≤ bit
  · obtain ⟨c0, rfl⟩ : ∃ c0 : Nat, bit = (c0 : Int) := ⟨bit.toNat, by omega⟩
    by_cases h5 : 0 ≤ which
    · obtain ⟨c1, rfl⟩ : ∃ c1 : Nat, which = (c1 : Int) := ⟨which.toNat, by omega⟩
      exact bit_pos_pos l v c0 c1 w hT (by omega) (by omega) hl hok ha
    · obtain ⟨c1, rfl⟩ : ∃ c1 : Nat, which = -(c1 : Int) - 1 := ⟨(-(which + 1)).toNat, by omega⟩
      exact bit_neg_pos l v c0 c1 w hT (by omega) (by omega) hl hok ha
  · obtain ⟨c0, rfl⟩ : ∃ c0 : Nat, bit = -(c0 : Int) - 1 := ⟨(-(bit + 1)).toNat, by omega⟩
    by_cases h5 : 0 ≤ which
    · obtain ⟨c1, rfl⟩ : ∃ c1 : Nat, which = (c1 : Int) := ⟨which.toNat, by omega⟩
      exact bit_pos_neg l v c0 c1 w hT (by omega) (by omega) hl hok ha
    · obtain ⟨c1, rfl⟩ : ∃ c1 : Nat, which = -(c1 : Int) - 1 := ⟨(-(which + 1)).toNat, by omega⟩
      exact bit_neg_neg l v c0 c1 w hT (by omega) (by omega) hl hok ha
end Go.Proofs.YtgnehnlmbodijaaDoor
