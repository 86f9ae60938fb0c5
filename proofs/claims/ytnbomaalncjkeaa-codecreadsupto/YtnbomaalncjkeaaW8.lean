import Derived.Test.YtnbomaalncjkeaaW7
namespace Go.Proofs.Ytnbomaalncjkeaa
open Go.RowKit

theorem leBytes_get (k v i : Nat) (h : i < k) : (Lib.leBytes k v)[i]? = some (v / 256 ^ i % 256).toUInt8 := by
  induction k generalizing v i with
  | zero => omega
  | succ k ih =>
    cases i with
    | zero => simp [Lib.leBytes]
    | succ i =>
      have := ih (v / 256) i (by omega)
      simp only [Lib.leBytes, List.getElem?_cons_succ, this]
      rw [Nat.div_div_eq_div_mul, ← Nat.pow_succ']

theorem beBytes_take (z n k : Nat) (h : k < z) : (Lib.beBytes z n).take (k + 1) = (Lib.beBytes z n).take k ++ [(n / 2 ^ (8 * (z - 1 - k)) % 256).toUInt8] := by
  have hl := Lib.beBytes_length z n
  have hg : (Lib.beBytes z n)[k]? = some (n / 2 ^ (8 * (z - 1 - k)) % 256).toUInt8 := by
    unfold Lib.beBytes
    rw [List.getElem?_reverse (by rw [Lib.leBytes_length]; exact h), Lib.leBytes_length, leBytes_get _ _ _ (by omega), Nat.pow_mul]
  obtain ⟨h1, h2⟩ := List.getElem?_eq_some_iff.1 hg
  rw [List.take_succ_eq_append_getElem h1, h2]

theorem byteCells_take (z n k : Nat) (h : k < z) : Lib.byteCells ((Lib.beBytes z n).take (k + 1)) = Lib.byteCells ((Lib.beBytes z n).take k) ++ [.int .u8 ((n : Int) / 2 ^ (8 * (z - 1 - k)) % 256)] := by
  rw [beBytes_take z n k h]
  unfold Lib.byteCells
  rw [List.map_append, List.map_singleton, Lib.toUInt8_mod]
  congr 2

set_option maxHeartbeats 400000 in
theorem writeNumber_any (B b : Nat) (bs : List Value) (n z : Nat) (w : World) (_hn : n < 18446744073709551616) (hz : z ≤ 8) (hz0 : 1 ≤ z) (hlen : bs.length ≤ 1000000000)
    (h : Lib.IsBuilderF 49 5 B b bs w) (hBw : B ≤ w.heap.size) :
    Calls Try.prog 40 #[.pointer (some ⟨b, 0, none⟩), .int .u64 n, .int .i64 z] w fun e w' => e = .returned (.tuple #[]) ∧ Lib.IsBuilderF 49 5 B b (bs ++ Lib.byteCells (Lib.beBytes z n)) w' ∧ Below B w w' ∧ Lib.OthersKept 5 (some b) w w' := by
  have HB := hide h
  clear h
  go_enter Try.func40, Try.ntmps40
  go_wp2
  go_loopw [6] (fun i wr => ∃ k : Nat, k ≤ z ∧ i = .int .i64 ((z : Int) - 1 - k) ∧ Hid (Lib.IsBuilderF 49 5 B b (bs ++ Lib.byteCells ((Lib.beBytes z n).take k)) wr ∧ Below B w wr ∧ Lib.OthersKept 5 (some b) w wr)) (fun i _ => (intOf i + 1).toNat)
  case atStart => exact ⟨0, Nat.zero_le _, by simp, by simp [Lib.byteCells]; exact HB.out, Below.refl _ _, Lib.OthersKept.refl _ _ _⟩
  case round =>
    obtain ⟨k, hk, rfl, HR⟩ := hrel
    by_cases hlt : k < z
    · have hl : (bs ++ Lib.byteCells ((Lib.beBytes z n).take k)).length + 1 ≤ 140737488355328 := by
        have := List.length_take_le k (Lib.beBytes z n)
        simp only [List.length_append, Lib.byteCells, List.length_map]
        omega
      go_wp2_with fail
      refine (Try.WriteByte B b _ _ _ HR.out.1 hl (by have := HR.out.2.1.size; omega)).mono ?_
      rintro e w2 ⟨rfl, h1, h2, h3⟩
      have HN : Hid (Lib.IsBuilderF 49 5 B b (bs ++ Lib.byteCells ((Lib.beBytes z n).take (k + 1))) w2 ∧ Below B w w2 ∧ Lib.OthersKept 5 (some b) w w2) :=
        ⟨by rw [byteCells_take z n k hlt, ← List.append_assoc]; exact Or.inr h1, HR.out.2.1.trans h2, HR.out.2.2.trans h3⟩
      clear h1 h2 h3 HR hl
      go_wp2
      go_roundw
      case rel => exact ⟨k + 1, by omega, by go_num, HN⟩
      case measure => simp [intOf]; omega
    · have e1 : (Lib.beBytes z n).take k = Lib.beBytes z n := List.take_of_length_le (by rw [Lib.beBytes_length]; omega)
      rw [e1] at HR
      clear e1
      go_wp2
      go_end0
      exact ⟨rfl, HR.out⟩

end Go.Proofs.Ytnbomaalncjkeaa
