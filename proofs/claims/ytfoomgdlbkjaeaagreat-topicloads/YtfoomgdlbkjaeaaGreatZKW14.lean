import Derived.Test.YtfoomgdlbkjaeaaGreatZKW6
import Derived.ProofKit
import Derived.OpenShut
import Derived.ShutString
import Derived.ChangeOld
import Derived.SizedLaws
import Derived.Deep.Slices
import Derived.Deep.Strs
namespace Go.Proofs.YtfoomgdlbkjaeaaGreat.K
open Go.RowKit
set_option maxHeartbeats 800000
theorem itemFault_kind (k n : Int) (s : ByteArray) (w : World) (hk : kindB k = false) :
    Calls Tryz.prog 69 #[.agg #[.int .i64 k, .int .u64 n, .string s]] w fun e w' => e = .returned (.int .i64 1) ∧ Below w.heap.size w w' := by
  have HK := hide (fun w => isKind_any k w)
  rw [hk] at HK
  clear hk
  go_enter Tryz.func69, Tryz.ntmps69
  go_wp2_with (go_at_call 88; refine (HK.out _).mono ?_; rintro e w' ⟨rfl, rfl⟩)
  go_ret
  exact ⟨rfl, (Below.refl _ _).alloc (Nat.le_refl _) _⟩
theorem itemFault_text (n : Int) (s : ByteArray) (w : World) (hs : s.size ≤ maxLen) :
    Calls Tryz.prog 69 #[.agg #[.int .i64 4, .int .u64 n, .string s]] w fun e w' => e = .returned (.int .i64 (faultF ⟨4, n, s⟩)) ∧ Below w.heap.size w w' := by
  unfold maxLen at hs
  have HK := hide (fun w => isKind_any 4 w)
  have e4 : kindB 4 = true := by decide
  rw [e4] at HK
  clear e4
  by_cases hn : n = 0
  · subst hn
    by_cases hl : 100000 < s.size
    · have hf : faultF ⟨4, 0, s⟩ = 3 := by simp [faultF, kindB, hl]
      rw [hf]
      clear hf
      go_enter Tryz.func69, Tryz.ntmps69
      go_wp2_with (go_at_call 88; refine (HK.out _).mono ?_; rintro e w' ⟨rfl, rfl⟩)
      go_quiet (fail)
      go_wp2
      go_ret
      exact ⟨rfl, below_drewN ((Below.refl _ _).alloc (Nat.le_refl _) _) nq⟩
    · have hf : faultF ⟨4, 0, s⟩ = 0 := by simp [faultF, kindB, hl]
      rw [hf]
      clear hf
      go_enter Tryz.func69, Tryz.ntmps69
      go_wp2_with (go_at_call 88; refine (HK.out _).mono ?_; rintro e w' ⟨rfl, rfl⟩)
      go_quiet (fail)
      go_wp2
      go_ret
      exact ⟨rfl, below_drewN ((Below.refl _ _).alloc (Nat.le_refl _) _) nq⟩
  · have hn1 : (n != 0) = true := by rw [bne_iff_ne]; exact hn
    have hf : faultF ⟨4, n, s⟩ = 1 := by simp [faultF, kindB, hn]
    rw [hf]
    clear hf hn
    go_enter Tryz.func69, Tryz.ntmps69
    go_wp2_with (go_at_call 88; refine (HK.out _).mono ?_; rintro e w' ⟨rfl, rfl⟩)
    go_quiet (fail)
    go_wp2
    go_ret
    exact ⟨rfl, below_drewN ((Below.refl _ _).alloc (Nat.le_refl _) _) nq⟩
theorem itemFault_num (k n : Int) (s : ByteArray) (w : World) (hs : s.size ≤ maxLen) (hk : kindB k = true) (h4 : k ≠ 4) (h0 : 0 ≤ n) :
    Calls Tryz.prog 69 #[.agg #[.int .i64 k, .int .u64 n, .string s]] w fun e w' => e = .returned (.int .i64 (faultF ⟨k, n, s⟩)) ∧ Below w.heap.size w w' := by
  unfold maxLen at hs
  have HK := hide (fun w => isKind_any k w)
  rw [hk] at HK
  have k4 : (k != 4) = true := by rw [bne_iff_ne]; exact h4
  have k5 : (k == 4) = false := by rw [beq_eq_false_iff_ne]; exact h4
  by_cases he : s.size = 0
  · have hse := isEmpty_of he
    have hz : widthN k = 1 ∨ widthN k = 4 ∨ widthN k = 8 := by
      unfold widthN
      split
      · omega
      · split <;> omega
    have HW := hide (fun w => width_any k w)
    have HF := hide (fun w => fits_any n (widthN k) w h0 hz)
    have hf : faultF ⟨k, n, s⟩ = if decide (n < 256 ^ widthN k) = true then 0 else 1 := by
      unfold faultF
      simp only [hk, h4, he, false_and, if_false, ne_eq, not_true, not_false_iff, false_or, true_and]
      by_cases h : n < 256 ^ widthN k
      · simp [h]
      · simp [h]
    rw [hf]
    clear hf hk h4
    generalize decide (n < 256 ^ widthN k) = fb at HF ⊢
    generalize widthN k = z at HW HF hz
    have hl : ¬ 100000 < s.size := by omega
    clear he hz
    cases fb with
    | true =>
      rw [if_pos rfl]
      go_enter Tryz.func69, Tryz.ntmps69
      go_wp2_with (go_at_call 88; refine (HK.out _).mono ?_; rintro e w' ⟨rfl, rfl⟩)
      go_quiet ((first | (go_at_call 70; exact Calls.quiet_of_same (HW.out _)) | (go_at_call 89; exact Calls.quiet_of_same (HF.out _))))
      go_wp2
      go_ret
      exact ⟨rfl, below_drewN ((Below.refl _ _).alloc (Nat.le_refl _) _) nq⟩
    | false =>
      rw [if_neg (by decide)]
      go_enter Tryz.func69, Tryz.ntmps69
      go_wp2_with (go_at_call 88; refine (HK.out _).mono ?_; rintro e w' ⟨rfl, rfl⟩)
      go_quiet ((first | (go_at_call 70; exact Calls.quiet_of_same (HW.out _)) | (go_at_call 89; exact Calls.quiet_of_same (HF.out _))))
      go_wp2
      go_ret
      exact ⟨rfl, below_drewN ((Below.refl _ _).alloc (Nat.le_refl _) _) nq⟩
  · have hse := notEmpty_of he
    have hf : faultF ⟨k, n, s⟩ = 1 := by simp [faultF, h4, he]
    rw [hf]
    clear hf he hk h4
    go_enter Tryz.func69, Tryz.ntmps69
    go_wp2_with (go_at_call 88; refine (HK.out _).mono ?_; rintro e w' ⟨rfl, rfl⟩)
    go_quiet (fail)
    go_wp2
    go_ret
    exact ⟨rfl, below_drewN ((Below.refl _ _).alloc (Nat.le_refl _) _) nq⟩
theorem itemFault_any (x : It) (w : World) (hx : x.ok) :
    Calls Tryz.prog 69 #[.agg #[.int .i64 x.k, .int .u64 x.n, .string x.s]] w fun e w' => e = .returned (.int .i64 (faultF x)) ∧ Below w.heap.size w w' := by
  obtain ⟨k, n, s⟩ := x
  obtain ⟨_, _, h0, _, hs⟩ := hx
  cases hk : kindB k with
  | false =>
    have hf : faultF ⟨k, n, s⟩ = 1 := by simp [faultF, hk]
    rw [hf]
    exact itemFault_kind k n s w hk
  | true =>
    by_cases h4 : k = 4
    · subst h4; exact itemFault_text n s w (by unfold maxLen; simp at hs; omega)
    · exact itemFault_num k n s w (by unfold maxLen; simp at hs; omega) hk h4 h0
end Go.Proofs.YtfoomgdlbkjaeaaGreat.K
namespace Go.Proofs.YtfoomgdlbkjaeaaGreat.K
open Go.RowKit
set_option maxHeartbeats 400000
theorem leBytes_get (k v i : Nat) (h : i < k) : (Lib.leBytes k v)[i]? = some (v / 256 ^ i % 256).toUInt8 := by
  induction k generalizing v i with
  | zero => omega
  | succ k ih =>
    cases i with
    | zero => simp [Lib.leBytes]
    | succ i =>
      have := ih (v / 256) i (by omega)
      simp only [Lib.leBytes, List.getElem?_cons_succ, this]
      rw [Nat.div_div_eq_div_mul, ← Nat.pow_succ']
theorem beBytes_take (z n k : Nat) (h : k < z) : (Lib.beBytes z n).take (k + 1) = (Lib.beBytes z n).take k ++ [(n / 2 ^ (8 * (z - 1 - k)) % 256).toUInt8] := by
  have hl := Lib.beBytes_length z n
  have hg : (Lib.beBytes z n)[k]? = some (n / 2 ^ (8 * (z - 1 - k)) % 256).toUInt8 := by
    unfold Lib.beBytes
    rw [List.getElem?_reverse (by rw [Lib.leBytes_length]; exact h), Lib.leBytes_length, leBytes_get _ _ _ (by omega), Nat.pow_mul]
  obtain ⟨h1, h2⟩ := List.getElem?_eq_some_iff.1 hg
  rw [List.take_succ_eq_append_getElem h1, h2]
theorem byteCells_take (z n k : Nat) (h : k < z) : Lib.byteCells ((Lib.beBytes z n).take (k + 1)) = Lib.byteCells ((Lib.beBytes z n).take k) ++ [.int .u8 ((n : Int) / 2 ^ (8 * (z - 1 - k)) % 256)] := by
  rw [beBytes_take z n k h]
  unfold Lib.byteCells
  rw [List.map_append, List.map_singleton, Lib.toUInt8_mod]
  congr 2
theorem writeNumber_any (B b : Nat) (bs : List Value) (n z : Nat) (w : World) (_hn : n < 18446744073709551616) (hz : z ≤ 8) (hz0 : 1 ≤ z) (hlen : bs.length ≤ 1000000000)
    (h : Lib.IsBuilderF 113 5 B b bs w) (hBw : B ≤ w.heap.size) :
    Calls Tryz.prog 92 #[.pointer (some ⟨b, 0, none⟩), .int .u64 n, .int .i64 z] w fun e w' => e = .returned (.tuple #[]) ∧ Lib.IsBuilderF 113 5 B b (bs ++ Lib.byteCells (Lib.beBytes z n)) w' ∧ Below B w w' ∧ Lib.OthersKept 5 (some b) w w' := by
  have HB := hide h
  clear h
  go_enter Tryz.func92, Tryz.ntmps92
  go_wp2
  go_loopw [6] (fun i wr => ∃ k : Nat, k ≤ z ∧ i = .int .i64 ((z : Int) - 1 - k) ∧ Hid (Lib.IsBuilderF 113 5 B b (bs ++ Lib.byteCells ((Lib.beBytes z n).take k)) wr ∧ Below B w wr ∧ Lib.OthersKept 5 (some b) w wr)) (fun i _ => (intOf i + 1).toNat)
  case atStart => exact ⟨0, Nat.zero_le _, by simp, by simp [Lib.byteCells]; exact HB.out, Below.refl _ _, Lib.OthersKept.refl _ _ _⟩
  case round =>
    obtain ⟨k, hk, rfl, HR⟩ := hrel
    by_cases hlt : k < z
    · have hl : (bs ++ Lib.byteCells ((Lib.beBytes z n).take k)).length + 1 ≤ 140737488355328 := by
        have := List.length_take_le k (Lib.beBytes z n)
        simp only [List.length_append, Lib.byteCells, List.length_map]
        omega
      go_wp2_with fail
      refine (Tryz.WriteByte B b _ _ _ HR.out.1 hl (by have := HR.out.2.1.size; omega)).mono ?_
      rintro e w2 ⟨rfl, h1, h2, h3⟩
      have HN : Hid (Lib.IsBuilderF 113 5 B b (bs ++ Lib.byteCells ((Lib.beBytes z n).take (k + 1))) w2 ∧ Below B w w2 ∧ Lib.OthersKept 5 (some b) w w2) :=
        ⟨by rw [byteCells_take z n k hlt, ← List.append_assoc]; exact Or.inr h1, HR.out.2.1.trans h2, HR.out.2.2.trans h3⟩
      clear h1 h2 h3 HR hl
      go_wp2
      go_roundw
      case rel => exact ⟨k + 1, by omega, by go_num, HN⟩
      case measure => simp [intOf]; omega
    · have e1 : (Lib.beBytes z n).take k = Lib.beBytes z n := List.take_of_length_le (by rw [Lib.beBytes_length]; omega)
      rw [e1] at HR
      clear e1
      go_wp2
      go_end0
      exact ⟨rfl, HR.out⟩
end Go.Proofs.YtfoomgdlbkjaeaaGreat.K
namespace Go.Proofs.YtfoomgdlbkjaeaaGreat.K
open Go.RowKit
set_option maxHeartbeats 400000
theorem builder_kept {T e : TypeId} {B b : Nat} {bs : List Value} {w w' : World} (h : Lib.IsBuilderF T e B b bs w) (hk : ∀ i, i < w.heap.size → w'.heap[i]? = w.heap[i]?) : Lib.IsBuilderF T e B b bs w' := by
  have key : ∀ p, Lib.BuilderAtF T e B b p bs w → Lib.BuilderAtF T e B b p bs w' := by
    rintro p ⟨h1, v, h2, ⟨h3, h4⟩, h5⟩
    refine ⟨h1, v, by rw [hk b (Array.getElem?_eq_some_iff.1 h2).1]; exact h2, ⟨h3, ?_⟩, h5⟩
    rcases h4 with h4 | ⟨g, cap, cur, fz, hv, hg, hh, r⟩
    · exact Or.inl h4
    · exact Or.inr ⟨g, cap, cur, fz, hv, hg, by rw [hk g (Array.getElem?_eq_some_iff.1 hh).1]; exact hh, r⟩
  exact h.imp (key _) (key _)
theorem builder_alloc {T e : TypeId} {B b : Nat} {bs : List Value} {w : World} (h : Lib.IsBuilderF T e B b bs w) (o : Obj) : Lib.IsBuilderF T e B b bs (w.alloc o) :=
  builder_kept h fun i hi => Lib.alloc_old w o i hi
theorem builder_lt {T e : TypeId} {B b : Nat} {bs : List Value} {w : World} (h : Lib.IsBuilderF T e B b bs w) : b < w.heap.size := by
  rcases h with h | h
  · obtain ⟨_, v, h2, _⟩ := h; exact (Array.getElem?_eq_some_iff.1 h2).1
  · obtain ⟨_, v, h2, _⟩ := h; exact (Array.getElem?_eq_some_iff.1 h2).1
theorem box_kept {w w' : World} {b : Nat} {x0 x1 x2 : Value} (hb : b < w.heap.size) (h : Lib.OthersKept 5 (some b) (w.alloc (.cells #[x0, x1, x2] 83)) w') :
    w'.cell? ⟨w.heap.size, 0, none⟩ = some x0 ∧ w'.cell? ⟨w.heap.size, 1, none⟩ = some x1 ∧ w'.cell? ⟨w.heap.size, 2, none⟩ = some x2 := by
  have h1 : (w.alloc (.cells #[x0, x1, x2] 83)).heap[w.heap.size]? = some (.cells #[x0, x1, x2] 83) := by
    show (w.heap.push _)[w.heap.size]? = _
    simp
  have h2 := h _ _ h1 (by intro e; injection e with e; omega) (by intro c fz e; injection e with e1 e2; exact absurd e2 (by decide))
  exact ⟨by rw [Lib.cell_of_heap h2]; rfl, by rw [Lib.cell_of_heap h2]; rfl, by rw [Lib.cell_of_heap h2]; rfl⟩
theorem writeItem_any (B b : Nat) (bs : List Value) (x : It) (w : World) (hx : x.ok) (hsl : x.s.size ≤ 100000) (hlen : bs.length ≤ 900000000)
    (h : Lib.IsBuilderF 113 5 B b bs w) (hBw : B ≤ w.heap.size) :
    Calls Tryz.prog 72 #[.pointer (some ⟨b, 0, none⟩), .agg #[.int .i64 x.k, .int .u64 x.n, .string x.s]] w fun e w' => e = .returned (.tuple #[]) ∧ Lib.IsBuilderF 113 5 B b (bs ++ Lib.byteCells (itemB x)) w' ∧ Below B w w' := by
  obtain ⟨k, n, s⟩ := x
  obtain ⟨_, _, h0, h1, _⟩ := hx
  simp only at h0 h1 hsl
  obtain ⟨m, rfl⟩ := Int.eq_ofNat_of_zero_le h0
  have HB := hide h
  have HW := hide (fun w => width_any k w)
  have hb := builder_lt h
  clear h
  have e1 : itemB ⟨k, m, s⟩ = Lib.beBytes (widthN k) (if k = 4 then s.size else m) ++ s.data.toList := by simp [itemB, numOf]
  rw [e1]
  clear e1
  have hz := widthN_le k
  have hz0 := widthN_pos k
  by_cases h4 : k = 4
  · subst h4
    rw [if_pos rfl]
    generalize widthN 4 = z at *
    go_enter Tryz.func72, Tryz.ntmps72
    go_wp2_with fail
    refine (HW.out _).mono ?_
    rintro e w' ⟨rfl, rfl⟩
    go_wp2_with fail
    refine (writeNumber_any B b bs s.size z _ (by omega) hz hz0 (by omega) (builder_alloc HB.out _) (by simp; omega)).mono ?_
    rintro e w2 ⟨rfl, g1, g2, g3⟩
    obtain ⟨c0, c1, c2⟩ := box_kept hb g3
    clear g3 c0 c1
    have G1 := hide g1
    have G2 := hide g2
    clear g1 g2
    go_wp2_with fail
    refine (Tryz.WriteString B b _ s _ G1.out (by simp [Lib.byteCells, Lib.beBytes_length]; omega) (by have := G2.out.size; simp at this; omega)).mono ?_
    rintro e w3 ⟨rfl, g4, g5, g6⟩
    clear g6
    have G4 := hide g4
    have G5 := hide g5
    clear g4 g5
    go_wp2
    go_end0
    refine ⟨rfl, ?_, ((Below.refl _ _).alloc hBw _).trans (G2.out.trans G5.out)⟩
    rw [Lib.byteCells, List.map_append, ← List.append_assoc]
    exact Or.inr G4.out
  · have h5 : (k == 4) = false := by rw [beq_eq_false_iff_ne]; exact h4
    rw [if_neg h4]
    clear h4
    generalize widthN k = z at *
    go_enter Tryz.func72, Tryz.ntmps72
    go_wp2_with fail
    refine (HW.out _).mono ?_
    rintro e w' ⟨rfl, rfl⟩
    go_wp2_with fail
    refine (writeNumber_any B b bs m z _ (by omega) hz hz0 (by omega) (builder_alloc HB.out _) (by simp; omega)).mono ?_
    rintro e w2 ⟨rfl, g1, g2, g3⟩
    obtain ⟨c0, c1, c2⟩ := box_kept hb g3
    clear g3 c0 c1
    have G1 := hide g1
    have G2 := hide g2
    clear g1 g2
    go_wp2_with fail
    refine (Tryz.WriteString B b _ s _ G1.out (by simp [Lib.byteCells, Lib.beBytes_length]; omega) (by have := G2.out.size; simp at this; omega)).mono ?_
    rintro e w3 ⟨rfl, g4, g5, g6⟩
    clear g6
    have G4 := hide g4
    have G5 := hide g5
    clear g4 g5
    go_wp2
    go_end0
    refine ⟨rfl, ?_, ((Below.refl _ _).alloc hBw _).trans (G2.out.trans G5.out)⟩
    rw [Lib.byteCells, List.map_append, ← List.append_assoc]
    exact Or.inr G4.out
end Go.Proofs.YtfoomgdlbkjaeaaGreat.K
namespace Go.Proofs.YtfoomgdlbkjaeaaGreat.K
open Go.RowKit
set_option maxHeartbeats 800000
def ItemsAt (w : World) (ao : Option Addr) (l : List It) : Prop :=
  ∀ i (h : i < l.length), ∃ b off, ao = some ⟨b, off, none⟩ ∧ b < w.heap.size ∧ w.cell? ⟨b, off + i * 3, none⟩ = some (.int .i64 l[i].k) ∧ w.cell? ⟨b, off + i * 3 + 1, none⟩ = some (.int .u64 l[i].n) ∧ w.cell? ⟨b, off + i * 3 + 2, none⟩ = some (.string l[i].s)
theorem firstFault_append (a b : List It) : firstFault (a ++ b) = if firstFault a = 0 then firstFault b else firstFault a := by
  induction a with
  | nil => simp [firstFault]
  | cons x a ih =>
    simp only [List.cons_append, firstFault, ih]
    by_cases h : faultF x = 0
    · simp [h]
    · simp [h]
theorem take_next (l : List It) (k : Nat) (h : k < l.length) : l.take (k + 1) = l.take k ++ [l[k]] := List.take_succ_eq_append_getElem h
theorem firstFault_next (l : List It) (k : Nat) (h : k < l.length) (h0 : firstFault (l.take k) = 0) : firstFault (l.take (k + 1)) = faultF l[k] := by
  rw [take_next l k h, firstFault_append, if_pos h0]
  simp only [firstFault]
  split
  · rename_i h1; exact h1.symm
  · rfl
theorem firstFault_hit (l : List It) (k : Nat) (h : k < l.length) (h0 : firstFault (l.take k) = 0) (h1 : faultF l[k] ≠ 0) : firstFault l = faultF l[k] := by
  have h2 := firstFault_next l k h h0
  have e : firstFault l = firstFault (l.take (k + 1) ++ l.drop (k + 1)) := by rw [List.take_append_drop]
  rw [e, firstFault_append, h2, if_neg h1]
theorem firstFault_all (l : List It) (h : firstFault l = 0) : ∀ x ∈ l, faultF x = 0 := by
  induction l with
  | nil => simp
  | cons x l ih =>
    simp only [firstFault] at h
    split at h
    · rename_i h1
      intro y hy
      rcases List.mem_cons.1 hy with rfl | hy
      · exact h1
      · exact ih h y hy
    · rename_i h1; exact absurd h h1
theorem fault_size (x : It) (h : faultF x = 0) : x.s.size ≤ 100000 := by
  unfold faultF at h
  repeat' split at h
  all_goals first | omega | exact absurd h (by decide)
theorem itemB_length (x : It) (h : x.s.size ≤ 100000) : (itemB x).length ≤ 100008 := by
  have := widthN_le x.k
  unfold itemB
  rw [List.length_append, Lib.beBytes_length, size_list]
  omega
theorem itemsB_length (l : List It) (h : ∀ x ∈ l, faultF x = 0) : (l.flatMap itemB).length ≤ 100008 * l.length := by
  induction l with
  | nil => simp
  | cons x l ih =>
    have h1 := itemB_length x (fault_size x (h x (by simp)))
    have h2 := ih fun y hy => h y (by simp [hy])
    rw [List.flatMap_cons, List.length_append, List.length_cons]
    omega
theorem encF_hit (l : List It) (hlen : l.length ≤ 1000) (h : firstFault l ≠ 0) : encF l = ([], firstFault l) := by
  unfold encF
  rw [if_neg (by omega), if_neg h]
theorem encF_ok (l : List It) (hlen : l.length ≤ 1000) (h : firstFault l = 0) : encF l = (l.flatMap itemB, 0) := by
  unfold encF
  rw [if_neg (by omega), if_pos h]
theorem encode_few (ao : Option Addr) (cap : Nat) (l : List It) (w : World) (hc : ItemsAt w ao l) (hok : ∀ x ∈ l, x.ok) (hlen : l.length ≤ 1000) (R : List UInt8 × Int) (hR : encF l = R) :
    Calls Tryz.prog 41 #[.slice ao l.length cap] w fun e w' => e = .returned (.tuple #[.string ⟨R.1.toArray⟩, .int .i64 R.2]) ∧ Below w.heap.size w w' := by
  have HC := hide hc
  have HO := hide hok
  have HR := hide hR
  clear hc hok hR
  have h1000 : ¬ 1000 < (l.length : Int) := by omega
  go_enter Tryz.func41, Tryz.ntmps41
  go_wp2
  go_loopw [4, 16] (fun sz i wr => ∃ k m : Nat, k ≤ l.length ∧ i = .int .i64 k ∧ sz = .int .i64 m ∧ m ≤ 100008 * k ∧ Hid (firstFault (l.take k) = 0) ∧ Hid (Below w.heap.size w wr)) (fun _ i _ => l.length - (intOf i).toNat)
  case atStart => exact ⟨0, 0, Nat.zero_le _, rfl, rfl, by omega, rfl, Below.refl _ _⟩
  case round =>
    obtain ⟨k, m, hk, rfl, rfl, hm, HF, HB⟩ := hrel
    by_cases hlt : k < l.length
    · obtain ⟨b, off, rfl, hb, c0, c1, c2⟩ := HC.out k hlt
      have HX := hide (HO.out l[k] (List.getElem_mem hlt))
      have d0 := (HB.out.cell (p := ⟨b, off + k * 3, none⟩) hb).trans c0
      have d1 := (HB.out.cell (p := ⟨b, off + k * 3 + 1, none⟩) hb).trans c1
      have d2 := (HB.out.cell (p := ⟨b, off + k * 3 + 2, none⟩) hb).trans c2
      clear c0 c1 c2
      have HI := hide (fun w => itemFault_any l[k] w HX.out)
      have HW := hide (fun w => width_any l[k].k w)
      have HH := hide (firstFault_hit l k hlt HF.out)
      have HT := hide (firstFault_next l k hlt HF.out)
      have HZ := hide (fault_size l[k])
      generalize l[k] = x at *
      generalize faultF x = f at *
      by_cases hf : f = 0
      · have hsz := HZ.out hf
        have hwz := widthN_le x.k
        have hf2 : (f != 0) = false := by simp [hf]
        have HN : Hid (firstFault (l.take (k + 1)) = 0) := HT.out.trans hf
        clear HT HH hf HZ
        go_wp2_with fail
        refine (HI.out _).mono ?_
        rintro e w2 ⟨rfl, hb2⟩
        have HB2 := hide (HB.out.trans ((((Below.refl wr.heap.size wr).alloc (Nat.le_refl _) _).trans (hb2.mono (by simp))).mono HB.out.size))
        have hcc := (bcell hb2).1
        simp at hcc
        have g0 := hcc wr.heap.size 0 (by omega)
        have g1 := hcc wr.heap.size 1 (by omega)
        have g2 := hcc wr.heap.size 2 (by omega)
        simp at g0 g1 g2
        clear hcc hb2
        go_wp2
        go_quiet ((go_at_call 70; exact Calls.quiet_of_same (HW.out _)))
        go_wp2
        go_roundw
        case rel => exact ⟨k + 1, m + (widthN x.k + x.s.size), by omega, by go_num, by go_num, by omega, HN, below_drewN HB2.out nq⟩
        case measure => simp [intOf]; omega
      · have hf2 : (f != 0) = true := by rw [bne_iff_ne]; exact hf
        have HE : Hid (R = ([], f)) := by
          show R = ([], f)
          rw [← HR.out, encF_hit l hlen (by rw [HH.out hf]; exact hf), HH.out hf]
        clear HT HH hf HZ
        go_wp2_with fail
        refine (HI.out _).mono ?_
        rintro e w2 ⟨rfl, hb2⟩
        have HB2 := hide (HB.out.trans ((((Below.refl wr.heap.size wr).alloc (Nat.le_refl _) _).trans (hb2.mono (by simp))).mono HB.out.size))
        clear hb2
        go_wp2
        go_ret2
        exact ⟨ret2 (by rw [HE.out]; rfl) (by rw [HE.out]; rfl), HB2.out⟩
    · have HE : Hid (R = (l.flatMap itemB, 0)) := by
        show R = _
        have h0 := HF.out
        rw [List.take_of_length_le (by omega)] at h0
        rw [← HR.out, encF_ok l hlen h0]
      have HA : Hid (∀ x ∈ l, faultF x = 0) := by
        have h0 := HF.out
        rw [List.take_of_length_le (by omega)] at h0
        exact firstFault_all l h0
      have hbs := HB.out.size
      clear HF
      go_wp2_with fail
      refine (Tryz.Grow w.heap.size wr.heap.size m _ hbs (by show (wr.heap.push _)[wr.heap.size]? = _; simp) (by simp; omega) (by omega)).mono ?_
      rintro e w2 ⟨rfl, h1, h2⟩
      have HG : Hid (Lib.IsBuilderF 113 5 w.heap.size wr.heap.size (Lib.byteCells []) w2 ∧ Below w.heap.size w w2) :=
        ⟨Or.inr (Lib.BuilderAtF.of h1), (HB.out.alloc hbs _).trans h2⟩
      clear h1 h2
      generalize wr.heap.size = bb at *
      go_wp2
      go_loopw [39] (fun i wv => ∃ k : Nat, k ≤ l.length ∧ i = .int .i64 k ∧ Hid (Lib.IsBuilderF 113 5 w.heap.size bb (Lib.byteCells ((l.take k).flatMap itemB)) wv ∧ Below w.heap.size w wv)) (fun i _ => l.length - (intOf i).toNat)
      case atStart => exact ⟨0, Nat.zero_le _, rfl, HG⟩
      case round =>
        obtain ⟨q, hq, rfl, HV⟩ := hrel
        by_cases hql : q < l.length
        · obtain ⟨b, off, rfl, hb, c0, c1, c2⟩ := HC.out q hql
          have HX := hide (HO.out l[q] (List.getElem_mem hql))
          have hsz := fault_size l[q] (HA.out l[q] (List.getElem_mem hql))
          have d0 := (HV.out.2.cell (p := ⟨b, off + q * 3, none⟩) hb).trans c0
          have d1 := (HV.out.2.cell (p := ⟨b, off + q * 3 + 1, none⟩) hb).trans c1
          have d2 := (HV.out.2.cell (p := ⟨b, off + q * 3 + 2, none⟩) hb).trans c2
          clear c0 c1 c2
          have HT := hide (take_next l q hql)
          have hln : (Lib.byteCells ((l.take q).flatMap itemB)).length ≤ 900000000 := by
            have h1 := itemsB_length (l.take q) (fun x hx => HA.out x (List.mem_of_mem_take hx))
            have h2 := List.length_take_le q l
            have h3 : (l.take q).length ≤ 1000 := by rw [List.length_take]; omega
            simp only [Lib.byteCells, List.length_map]
            omega
          generalize l[q] = x at *
          have hvs := HV.out.2.size
          go_wp2_with fail
          refine (writeItem_any w.heap.size bb _ x _ HX.out hsz hln (builder_alloc HV.out.1 _) (by simp; omega)).mono ?_
          rintro e w3 ⟨rfl, g1, g2⟩
          have HN : Hid (Lib.IsBuilderF 113 5 w.heap.size bb (Lib.byteCells ((l.take (q + 1)).flatMap itemB)) w3 ∧ Below w.heap.size w w3) := by
            refine ⟨?_, (HV.out.2.alloc hvs _).trans g2⟩
            rw [HT.out, List.flatMap_append, List.flatMap_singleton]
            rw [Lib.byteCells, List.map_append]
            exact g1
          clear g1 g2 HT hln
          go_wp2
          go_roundw
          case rel => exact ⟨q + 1, by omega, by go_num, HN⟩
          case measure => simp [intOf]; omega
        · have e1 : l.take q = l := List.take_of_length_le (by omega)
          rw [e1] at HV
          clear e1
          have hvs := HV.out.2.size
          go_wp2_with fail
          refine (Tryz.BString w.heap.size bb (l.flatMap itemB) _ HV.out.1 hvs).mono ?_
          rintro e w3 ⟨rfl, g1, g2, g3⟩
          have HN := hide (HV.out.2.trans g2)
          clear g1 g2 g3
          go_wp2
          go_ret2
          exact ⟨ret2 (by rw [HE.out]; rfl) (by rw [HE.out]; rfl), HN.out⟩
theorem encode_many (ao : Option Addr) (n cap : Nat) (w : World) (hn : 1000 < n) (hm : n ≤ maxLen) :
    Calls Tryz.prog 41 #[.slice ao n cap] w fun e w' => e = .returned (.tuple #[.string ⟨#[]⟩, .int .i64 3]) ∧ Below w.heap.size w w' := by
  unfold maxLen at hm
  have h1 : 1000 < (n : Int) := by omega
  go_enter Tryz.func41, Tryz.ntmps41
  go_wp2
  go_ret2
  exact ⟨rfl, Below.refl _ _⟩
theorem encode_any (ao : Option Addr) (cap : Nat) (l : List It) (w : World) (hc : ItemsAt w ao l) (hok : ∀ x ∈ l, x.ok) (hlen : l.length ≤ maxLen) :
    Calls Tryz.prog 41 #[.slice ao l.length cap] w fun e w' => e = .returned (.tuple #[.string ⟨(encF l).1.toArray⟩, .int .i64 (encF l).2]) ∧ Below w.heap.size w w' := by
  by_cases h : 1000 < l.length
  · have e : encF l = ([], 3) := by unfold encF; rw [if_pos h]
    rw [e]
    exact encode_many ao l.length cap w h hlen
  · exact encode_few ao cap l w hc hok (by omega) _ rfl
end Go.Proofs.YtfoomgdlbkjaeaaGreat.K
namespace Go.Proofs.YtfoomgdlbkjaeaaGreat.K
open Go.RowKit
end Go.Proofs.YtfoomgdlbkjaeaaGreat.K
namespace Go.Proofs.YtfoomgdlbkjaeaaGreat.K
open Go.RowKit
theorem ItemsAt.below {w w' : World} {ao : Option Addr} {l : List It} (h : ItemsAt w ao l) (hb : Below w.heap.size w w') : ItemsAt w' ao l := by
  intro i hi
  obtain ⟨b, off, h1, h2, h3, h4, h5⟩ := h i hi
  refine ⟨b, off, h1, by have := hb.size; omega, ?_, ?_, ?_⟩
  · exact (hb.cell (p := ⟨b, off + i * 3, none⟩) h2).trans h3
  · exact (hb.cell (p := ⟨b, off + i * 3 + 1, none⟩) h2).trans h4
  · exact (hb.cell (p := ⟨b, off + i * 3 + 2, none⟩) h2).trans h5
theorem itemCells_get (l : List It) (i j : Nat) (hi : i < l.length) (hj : j < 3) : (itemCells l)[i * 3 + j]? = (l[i].cells)[j]? := by
  induction l generalizing i with
  | nil => simp at hi
  | cons x l ih =>
    have e : itemCells (x :: l) = x.cells ++ itemCells l := by simp [itemCells]
    have h3 : x.cells.length = 3 := rfl
    rw [e]
    cases i with
    | zero => rw [List.getElem?_append_left (by omega)]; simp
    | succ i =>
      rw [List.getElem?_append_right (by omega), h3]
      have := ih i (by simpa using hi)
      rw [show (i + 1) * 3 + j - 3 = i * 3 + j by omega, this]
      simp
theorem items_of_own {w : World} {B : Nat} {v : Value} {l : List It} (h : w.ownsRow B 83 3 v l.length (itemCells l)) : ∃ ao cap, v = .slice ao l.length cap ∧ ItemsAt w ao l := by
  rcases h.2 with ⟨h1, h2⟩ | ⟨g, cap, cur, hv, hg, hh, hn, _, hs, ht⟩
  · exact ⟨none, 0, by rw [h1, h2], fun i hi => by omega⟩
  · refine ⟨_, _, hv, fun i hi => ⟨g, 0, rfl, (Array.getElem?_eq_some_iff.1 hh).1, ?_⟩⟩
    have key : ∀ j, j < 3 → w.cell? ⟨g, 0 + i * 3 + j, none⟩ = (l[i].cells)[j]? := by
      intro j hj
      rw [Lib.cell_of_heap hh, ← itemCells_get l i j hi hj, ← ht, List.getElem?_take, if_pos (by omega)]
      simp
    refine ⟨?_, ?_, ?_⟩
    · exact key 0 (by omega)
    · exact key 1 (by omega)
    · exact key 2 (by omega)
end Go.Proofs.YtfoomgdlbkjaeaaGreat.K
namespace Go.Proofs.YtfoomgdlbkjaeaaGreat.K
open Go.ChangeShapes Go.WideShapes Go.ChangeAt Go.RowKit Go.Deep
theorem addr_add (b off n : Nat) : (⟨b, off, none⟩ : Addr).add n = ⟨b, off + n, none⟩ := by
  unfold Addr.add
  split
  · rename_i h; subst h; rfl
  · rfl
end Go.Proofs.YtfoomgdlbkjaeaaGreat.K
