/-
  Find, within, From, as they run.
-/
import Derived.Test.YtgnehnlmbodijaaDoorZS6
namespace Go.Proofs.YtgnehnlmbodijaaDoor
open Go.RowKit

def entCells (l : List (Int × Int)) : List Value := l.flatMap fun p => [.int .i64 p.1, .int .i64 p.2]
def EntsAt (w : World) (v : Value) (l : List (Int × Int)) : Prop := ∃ ao cap, v = .slice ao l.length cap ∧ l.length ≤ 9223372036854775807 ∧ ∀ i (h : i < l.length), ∃ b off, ao = some ⟨b, off, none⟩ ∧ b < w.heap.size ∧ w.cell? ⟨b, off + i * 2, none⟩ = some (.int .i64 l[i].1) ∧ w.cell? ⟨b, off + i * 2 + 1, none⟩ = some (.int .i64 l[i].2)
theorem EntsAt.below {w w' : World} {v : Value} {l : List (Int × Int)} (h : EntsAt w v l) (hb : Below w.heap.size w w') : EntsAt w' v l := by
  obtain ⟨ao, cap, hv, hc, ha⟩ := h
  refine ⟨ao, cap, hv, hc, fun i hi => ?_⟩
  obtain ⟨b, off, h1, h2, h3, h4⟩ := ha i hi
  exact ⟨b, off, h1, by have := hb.size; omega, (hb.cell (p := ⟨b, off + i * 2, none⟩) h2).trans h3, (hb.cell (p := ⟨b, off + i * 2 + 1, none⟩) h2).trans h4⟩
/-- The last entry that is not above. -/
def findF (l : List (Int × Int)) (off : Int) : Int := match l.reverse.find? (fun p => decide (p.1 ≤ off)) with
  | some p => p.2
  | none => 0
theorem findF_hit (l : List (Int × Int)) (off : Int) (k : Nat) (hk : k < l.length) (h : l[k].1 ≤ off) (hno : ∀ j (h : j < l.length), k < j → ¬ l[j].1 ≤ off) : findF l off = l[k].2 := by
  have e : l = l.take k ++ (l[k] :: l.drop (k + 1)) := by simp
  have e2 : (l.drop (k + 1)).reverse.find? (fun p => decide (p.1 ≤ off)) = none := by
    rw [List.find?_eq_none]
    intro x hx
    rw [List.mem_reverse] at hx
    obtain ⟨j, hj, rfl⟩ := List.getElem_of_mem hx
    rw [List.length_drop] at hj
    have := hno (k + 1 + j) (by omega) (by omega)
    rw [List.getElem_drop]
    simpa using this
  unfold findF
  have e3 : l.reverse = (l.drop (k + 1)).reverse ++ (l[k] :: (l.take k).reverse) := by
    conv => lhs; rw [e]
    simp
  rw [e3, List.find?_append, e2]
  simp [h]
theorem findF_none (l : List (Int × Int)) (off : Int) (hno : ∀ j (h : j < l.length), ¬ l[j].1 ≤ off) : findF l off = 0 := by
  unfold findF
  have : l.reverse.find? (fun p => decide (p.1 ≤ off)) = none := by
    rw [List.find?_eq_none]
    intro x hx
    rw [List.mem_reverse] at hx
    obtain ⟨j, hj, rfl⟩ := List.getElem_of_mem hx
    simpa using hno j hj
  rw [this]
set_option maxHeartbeats 1000000 in
theorem find_any (v : Value) (l : List (Int × Int)) (off : Int) (w : World) (hat : EntsAt w v l) :
    Calls Tryd.prog 19 #[v, .int .i64 off] w fun e w' => e = .returned (.int .i64 (findF l off)) ∧ w' = w := by
  obtain ⟨ao, cap, rfl, hlen, ha⟩ := hat
  have HA := hide ha
  clear ha
  go_enter Tryd.func19, Tryd.ntmps19
  go_wp2
  go_loopw [5] (fun iv wv => ∃ k : Nat, k ≤ l.length ∧ iv = .int .i64 ((k : Int) - 1) ∧ Hid (∀ j (h : j < l.length), k ≤ j → ¬ l[j].1 ≤ off) ∧ wv = w) (fun iv _ => (intOf iv + 1).toNat)
  case atStart => exact ⟨l.length, Nat.le_refl _, rfl, fun j hj hk => by omega, rfl⟩
  case round =>
    obtain ⟨k, hk, rfl, HN, rfl⟩ := hrel
    by_cases h0 : k = 0
    · subst h0
      have HF := hide (findF_none l off fun j hj => HN.out j hj (Nat.zero_le _))
      go_wp2
      go_ret
      exact ⟨by rw [HF.out]; rfl, rfl⟩
    · obtain ⟨b, of2, rfl, hb, c0, c1⟩ := HA.out (k - 1) (by omega)
      have hp : (0 : Int) ≤ (k : Int) - 1 := by omega
      have hp2 : (k : Int) - 1 < (l.length : Int) := by omega
      have hp3 : ((k : Int) - 1).toNat = k - 1 := by omega
      by_cases hle : l[k - 1].1 ≤ off
      · have HF := hide (findF_hit l off (k - 1) (by omega) hle fun j hj hkj => HN.out j hj (by omega))
        go_wp2
        go_ret
        exact ⟨by rw [HF.out]; rfl, rfl⟩
      · have HL := hide hle
        go_wp2
        refine ⟨⟨k - 1, by omega, by go_num, fun j hj hkj => ?_, by first | rfl | trivial⟩, by simp [intOf]; omega⟩
        by_cases e : j = k - 1
        · subst e; exact HL.out
        · exact HN.out j hj (by omega)
def withinF (pos : Int) (size : Nat) : Nat := (min (max pos 0) size).toNat
set_option maxHeartbeats 1000000 in
theorem within_any (pos : Int) (n : Nat) (w : World) :
    Calls Tryd.prog 34 #[.int .i64 pos, .int .i64 n] w fun e w' => e = .returned (.int .i64 (withinF pos n)) ∧ w' = w := by
  go_enter Tryd.func34, Tryd.ntmps34
  go_wp2
  go_ret
  refine ⟨?_, rfl⟩
  have : ((withinF pos n : Nat) : Int) = min (max pos 0) n := by unfold withinF; omega
  rw [this]
  rfl
theorem withinF_le (pos : Int) (n : Nat) : withinF pos n ≤ n := by unfold withinF; omega
set_option maxHeartbeats 2000000 in
theorem from_any (base : Int) (s : ByteArray) (v : Value) (l : List (Int × Int)) (off most : Int) (w : World) (hT : Tab w) (h63 : s.size ≤ 9223372036854775807) (hat : EntsAt w v l) (hR : (fromF base off most (withinF (findF l off) s.size) s.data.toList).1.length ≤ 1099511627776) :
    Calls Tryd.prog 21 #[.int .i64 base, .string s, v, .int .i64 off, .int .i64 most] w fun e w' => ∃ v', e = .returned v' ∧ w'.ownsRow w.heap.size 23 5 v' (fromF base off most (withinF (findF l off) s.size) s.data.toList).1.length (recCells (fromF base off most (withinF (findF l off) s.size) s.data.toList).1) ∧ Below w.heap.size w w' := by
  have HA := hide (readerOf_any base s h63 w)
  have HT := hide hT
  have HE := hide hat
  have HF : Hid (∀ W, EntsAt W v l → Calls Tryd.prog 19 #[v, .int .i64 off] W fun e w' => e = .returned (.int .i64 (findF l off)) ∧ w' = W) := fun W h => find_any v l off W h
  have HW := hide (within_any (findF l off) s.size)
  have hp := withinF_le (findF l off) s.size
  generalize findF l off = fd at *
  generalize withinF fd s.size = pos at *
  have HG : Hid (∀ g W, Tab W → W.heap[g]? = some (readerO s base off most pos) → Calls Tryd.prog 33 #[.pointer (some ⟨g, 0, none⟩)] W fun e w' => e = .returned (.tuple #[]) ∧ GoneOn W g s off most (fromF base off most pos s.data.toList) w') := fun g W hTW hb => goOn_any g s base off most pos W hTW h63 hp hb hR
  generalize fromF base off most pos s.data.toList = R at *
  obtain ⟨ao, cap, rfl, _⟩ := hat
  clear hT
  simp only [readerV] at HA
  go_enter Tryd.func21, Tryd.ntmps21
  go_wp2_with fail
  refine HA.out.mono ?_
  rintro e w1 ⟨rfl, b1⟩
  have hz := b1.size
  have B1 := hide b1
  clear b1 HA
  go_wp2_with fail
  have B2 : Hid (Below w.heap.size w (w1.alloc (readerO s base off most 0))) := B1.out.alloc hz _
  refine (HF.out _ (HE.out.below B2.out)).mono ?_
  rintro e w2 ⟨rfl, hw2⟩
  obtain rfl := hw2.symm
  go_wp2_with fail
  refine (HW.out _).mono ?_
  rintro e w2 ⟨rfl, hw2⟩
  obtain rfl := hw2.symm
  go_wp2_with fail
  have B3 : Hid (Below w.heap.size w (w1.alloc (readerO s base off most pos))) := B1.out.alloc hz _
  refine (HG.out w1.heap.size _ (HT.out.below B3.out) (heap_alloc_new w1 _)).mono ?_
  rintro e w2 ⟨rfl, hgo⟩
  have B4 := hide (gone_all hgo B3.out hz)
  obtain ⟨lst, ro, bo, hbox, hrow, _, _⟩ := hgo
  obtain ⟨⟨c0, c1, c2, c3, c4, c5, c6, c7⟩, _⟩ := box8 hbox
  have HO := hide (own_base hrow (B' := w.heap.size) (by simp; omega))
  clear hrow hbox HG HF HW HE
  go_wp2
  go_ret
  exact ⟨ro, rfl, HO.out, B4.out⟩
end Go.Proofs.YtgnehnlmbodijaaDoor
