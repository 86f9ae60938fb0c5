/-
  carillonref14's Word and need (mkrr.py)
-/
import Derived.Test.YthfflefnapbkiaaGreatDoorZHB
namespace Go.Proofs.YthfflefnapbkiaaGreatDoor
open Go.RowKit

attribute [local go_sem ↓] Go.wp_at_zero Go.wp_at_succ
set_option linter.unusedSimpArgs false
set_option linter.unusedVariables false
set_option maxHeartbeats 4000000 in
set_option maxRecDepth 100000 in
theorem rword (s : ByteArray) (h63 : s.size ≤ 9223372036854775807) (w : World) :
    Calls Tryz.prog 69 #[.string s] w fun e w' => e = .returned (.bool (wordB s)) ∧ w' = w := by
  have HG := hide (fun h1 h2 hh => word_good (s := s) h1 h2 hh)
  have HB := hide (fun k (hk : k < s.size) hb => word_bad (s := s) hk hb)
  have H0 := hide (@word_short s)
  have H20 := hide (@word_long s)
  generalize wordB s = r at *
  go_enter Tryz.func69, Tryz.ntmps69
  go_wp2
  go_loopw [3] (fun iv wv => ∃ k : Nat, k ≤ s.size ∧ iv = .int .i64 k ∧ wv = w ∧ Hid (((s.data.toList.take k).all fun b => letB b.toNat) = true)) (fun iv _ => s.size - (intOf iv).toNat)
  case atStart => exact ⟨0, Nat.zero_le _, rfl, rfl, rfl⟩
  case round =>
    obtain ⟨k, hk, rfl, rfl, HJ⟩ := hrel
    by_cases hlt : k < s.size
    · have hlt2 : (k : Int) < (s.size : Int) := by omega
      have HX : Hid (letB s[k].toNat = true → ((s.data.toList.take (k + 1)).all fun b => letB b.toNat) = true) := fun hb => by
        rw [take_snocC s k hlt, List.all_append, HJ.out]
        simp [hb]
      have HY := hide (HB.out k hlt)
      clear HB HJ HG H0 H20
      by_cases g1 : (97 : Int) ≤ (s[k].toNat : Int)
      · by_cases g2 : (s[k].toNat : Int) ≤ 122
        · have HZ := hide (HX.out (by unfold letB; simp; omega))
          clear HX HY
          go_wp2
          exact ⟨⟨k + 1, by omega, by go_num, trivial, HZ⟩, by simp [intOf]; omega⟩
        · have HR := hide (HY.out (by unfold letB; simp; omega))
          have g3 : (48 : Int) ≤ (s[k].toNat : Int) := by omega
          have g4 : ¬ (s[k].toNat : Int) ≤ 57 := by omega
          clear HX HY
          go_wp2
          go_ret
          exact ⟨by rw [HR.out]; rfl, rfl⟩
      · by_cases g3 : (48 : Int) ≤ (s[k].toNat : Int)
        · by_cases g4 : (s[k].toNat : Int) ≤ 57
          · have HZ := hide (HX.out (by unfold letB; simp; omega))
            clear HX HY
            go_wp2
            exact ⟨⟨k + 1, by omega, by go_num, trivial, HZ⟩, by simp [intOf]; omega⟩
          · have HR := hide (HY.out (by unfold letB; simp; omega))
            clear HX HY
            go_wp2
            go_ret
            exact ⟨by rw [HR.out]; rfl, rfl⟩
        · have HR := hide (HY.out (by unfold letB; simp; omega))
          clear HX HY
          go_wp2
          go_ret
          exact ⟨by rw [HR.out]; rfl, rfl⟩
    · have hlt2 : ¬ (k : Int) < (s.size : Int) := by omega
      have e : s.data.toList.take k = s.data.toList := List.take_of_length_le (by simp; omega)
      have HJ2 := HJ.out
      rw [e] at HJ2
      by_cases f1 : (s.size : Int) ≥ 1
      · by_cases f2 : (s.size : Int) ≤ 20
        · have HR := hide (HG.out (by omega) (by omega) HJ2)
          clear e HJ HB HG H0 H20 HJ2
          go_wp2
          go_ret
          exact ⟨by rw [HR.out]; rfl, rfl⟩
        · have HR := hide (H20.out (by omega))
          clear e HJ HB HG H0 H20 HJ2
          go_wp2
          go_ret
          exact ⟨by rw [HR.out]; rfl, rfl⟩
      · have HR := hide (H0.out (by omega))
        clear e HJ HB HG H0 H20 HJ2
        go_wp2
        go_ret
        exact ⟨by rw [HR.out]; rfl, rfl⟩
def hasN (k : Int) : Bool := decide (k = 3) || decide (5 ≤ k ∧ k ≤ 11)
set_option maxHeartbeats 4000000 in
set_option maxRecDepth 100000 in
theorem rneed (k : Int) (w : World) :
    Calls Tryz.prog 68 #[.int .i64 k] w fun e w' => e = .returned (.tuple #[.bool (hasTopic k), .bool (hasName k), .bool (decide (k = 2)), .bool (hasN k), .bool (kindOk k)]) ∧ w' = w := by
  by_cases hk : k = 1 ∨ k = 2 ∨ k = 3 ∨ k = 4 ∨ k = 5 ∨ k = 6 ∨ k = 7 ∨ k = 8 ∨ k = 9 ∨ k = 10 ∨ k = 11
  · rcases hk with rfl | rfl | rfl | rfl | rfl | rfl | rfl | rfl | rfl | rfl | rfl
    · go_enter Tryz.func68, Tryz.ntmps68
      go_wp2
      refine bodyPost_ret (v := .tuple #[.bool (hasTopic 1), .bool (hasName 1), .bool (decide ((1 : Int) = 2)), .bool (hasN 1), .bool (kindOk 1)]) (by simp [results, Tryz.results68, go_sem, hasTopic, hasName, hasN, kindOk]) rfl ⟨rfl, rfl⟩
    · go_enter Tryz.func68, Tryz.ntmps68
      go_wp2
      refine bodyPost_ret (v := .tuple #[.bool (hasTopic 2), .bool (hasName 2), .bool (decide ((2 : Int) = 2)), .bool (hasN 2), .bool (kindOk 2)]) (by simp [results, Tryz.results68, go_sem, hasTopic, hasName, hasN, kindOk]) rfl ⟨rfl, rfl⟩
    · go_enter Tryz.func68, Tryz.ntmps68
      go_wp2
      refine bodyPost_ret (v := .tuple #[.bool (hasTopic 3), .bool (hasName 3), .bool (decide ((3 : Int) = 2)), .bool (hasN 3), .bool (kindOk 3)]) (by simp [results, Tryz.results68, go_sem, hasTopic, hasName, hasN, kindOk]) rfl ⟨rfl, rfl⟩
    · go_enter Tryz.func68, Tryz.ntmps68
      go_wp2
      refine bodyPost_ret (v := .tuple #[.bool (hasTopic 4), .bool (hasName 4), .bool (decide ((4 : Int) = 2)), .bool (hasN 4), .bool (kindOk 4)]) (by simp [results, Tryz.results68, go_sem, hasTopic, hasName, hasN, kindOk]) rfl ⟨rfl, rfl⟩
    · go_enter Tryz.func68, Tryz.ntmps68
      go_wp2
      refine bodyPost_ret (v := .tuple #[.bool (hasTopic 5), .bool (hasName 5), .bool (decide ((5 : Int) = 2)), .bool (hasN 5), .bool (kindOk 5)]) (by simp [results, Tryz.results68, go_sem, hasTopic, hasName, hasN, kindOk]) rfl ⟨rfl, rfl⟩
    · go_enter Tryz.func68, Tryz.ntmps68
      go_wp2
      refine bodyPost_ret (v := .tuple #[.bool (hasTopic 6), .bool (hasName 6), .bool (decide ((6 : Int) = 2)), .bool (hasN 6), .bool (kindOk 6)]) (by simp [results, Tryz.results68, go_sem, hasTopic, hasName, hasN, kindOk]) rfl ⟨rfl, rfl⟩
    · go_enter Tryz.func68, Tryz.ntmps68
      go_wp2
      refine bodyPost_ret (v := .tuple #[.bool (hasTopic 7), .bool (hasName 7), .bool (decide ((7 : Int) = 2)), .bool (hasN 7), .bool (kindOk 7)]) (by simp [results, Tryz.results68, go_sem, hasTopic, hasName, hasN, kindOk]) rfl ⟨rfl, rfl⟩
    · go_enter Tryz.func68, Tryz.ntmps68
      go_wp2
      refine bodyPost_ret (v := .tuple #[.bool (hasTopic 8), .bool (hasName 8), .bool (decide ((8 : Int) = 2)), .bool (hasN 8), .bool (kindOk 8)]) (by simp [results, Tryz.results68, go_sem, hasTopic, hasName, hasN, kindOk]) rfl ⟨rfl, rfl⟩
    · go_enter Tryz.func68, Tryz.ntmps68
      go_wp2
      refine bodyPost_ret (v := .tuple #[.bool (hasTopic 9), .bool (hasName 9), .bool (decide ((9 : Int) = 2)), .bool (hasN 9), .bool (kindOk 9)]) (by simp [results, Tryz.results68, go_sem, hasTopic, hasName, hasN, kindOk]) rfl ⟨rfl, rfl⟩
    · go_enter Tryz.func68, Tryz.ntmps68
      go_wp2
      refine bodyPost_ret (v := .tuple #[.bool (hasTopic 10), .bool (hasName 10), .bool (decide ((10 : Int) = 2)), .bool (hasN 10), .bool (kindOk 10)]) (by simp [results, Tryz.results68, go_sem, hasTopic, hasName, hasN, kindOk]) rfl ⟨rfl, rfl⟩
    · go_enter Tryz.func68, Tryz.ntmps68
      go_wp2
      refine bodyPost_ret (v := .tuple #[.bool (hasTopic 11), .bool (hasName 11), .bool (decide ((11 : Int) = 2)), .bool (hasN 11), .bool (kindOk 11)]) (by simp [results, Tryz.results68, go_sem, hasTopic, hasName, hasN, kindOk]) rfl ⟨rfl, rfl⟩
  · have e1 : hasTopic k = false := by unfold hasTopic; simp; omega
    have e2 : hasName k = false := by unfold hasName; simp; omega
    have e3 : decide (k = 2) = false := by simp; omega
    have e4 : hasN k = false := by unfold hasN; simp; omega
    have e5 : kindOk k = false := by unfold kindOk; simp; omega
    rw [e1, e2, e3, e4, e5]
    clear e1 e2 e3 e4 e5
    have n1 : (k == 1) = false := by rw [beq_eq_false_iff_ne]; omega
    have n2 : (k == 2) = false := by rw [beq_eq_false_iff_ne]; omega
    have n3 : (k == 3) = false := by rw [beq_eq_false_iff_ne]; omega
    have n4 : (k == 4) = false := by rw [beq_eq_false_iff_ne]; omega
    have n5 : (k == 5) = false := by rw [beq_eq_false_iff_ne]; omega
    have n6 : (k == 6) = false := by rw [beq_eq_false_iff_ne]; omega
    have n7 : (k == 7) = false := by rw [beq_eq_false_iff_ne]; omega
    have n8 : (k == 8) = false := by rw [beq_eq_false_iff_ne]; omega
    have n9 : (k == 9) = false := by rw [beq_eq_false_iff_ne]; omega
    have n10 : (k == 10) = false := by rw [beq_eq_false_iff_ne]; omega
    have n11 : (k == 11) = false := by rw [beq_eq_false_iff_ne]; omega
    clear hk
    go_enter Tryz.func68, Tryz.ntmps68
    go_wp2
    refine bodyPost_ret (v := .tuple #[.bool false, .bool false, .bool false, .bool false, .bool false]) (by simp [results, Tryz.results68, go_sem]) rfl ⟨rfl, rfl⟩
end Go.Proofs.YthfflefnapbkiaaGreatDoor
/-
  carillonref14's Right: its regions (mkrr.py)
-/
namespace Go.Proofs.YthfflefnapbkiaaGreatDoor
open Go.RowKit

attribute [local go_sem ↓] Go.wp_at_zero Go.wp_at_succ
set_option linter.unusedSimpArgs false
set_option linter.unusedVariables false
set_option maxRecDepth 100000 in
theorem frame_rr (t : Array Value) (h : t.size = 155) : ∃ u : Nat → Value, t = List.toArray (u 0 :: u 1 :: u 2 :: u 3 :: u 4 :: u 5 :: u 6 :: u 7 :: u 8 :: u 9 :: u 10 :: u 11 :: u 12 :: u 13 :: u 14 :: u 15 :: u 16 :: u 17 :: u 18 :: u 19 :: u 20 :: u 21 :: u 22 :: u 23 :: u 24 :: u 25 :: u 26 :: u 27 :: u 28 :: u 29 :: u 30 :: u 31 :: u 32 :: u 33 :: u 34 :: u 35 :: u 36 :: u 37 :: u 38 :: u 39 :: u 40 :: u 41 :: u 42 :: u 43 :: u 44 :: u 45 :: u 46 :: u 47 :: u 48 :: u 49 :: u 50 :: u 51 :: u 52 :: u 53 :: u 54 :: u 55 :: u 56 :: u 57 :: u 58 :: u 59 :: u 60 :: u 61 :: u 62 :: u 63 :: u 64 :: u 65 :: u 66 :: u 67 :: u 68 :: u 69 :: u 70 :: u 71 :: u 72 :: u 73 :: u 74 :: u 75 :: u 76 :: u 77 :: u 78 :: u 79 :: u 80 :: u 81 :: u 82 :: u 83 :: u 84 :: u 85 :: u 86 :: u 87 :: u 88 :: u 89 :: u 90 :: u 91 :: u 92 :: u 93 :: u 94 :: u 95 :: u 96 :: u 97 :: u 98 :: u 99 :: u 100 :: u 101 :: u 102 :: u 103 :: u 104 :: u 105 :: u 106 :: u 107 :: u 108 :: u 109 :: u 110 :: u 111 :: u 112 :: u 113 :: u 114 :: u 115 :: u 116 :: u 117 :: u 118 :: u 119 :: u 120 :: u 121 :: u 122 :: u 123 :: u 124 :: u 125 :: u 126 :: u 127 :: u 128 :: u 129 :: u 130 :: u 131 :: u 132 :: u 133 :: u 134 :: u 135 :: u 136 :: u 137 :: u 138 :: u 139 :: u 140 :: u 141 :: u 142 :: u 143 :: u 144 :: u 145 :: u 146 :: u 147 :: u 148 :: u 149 :: u 150 :: u 151 :: u 152 :: u 153 :: u 154 :: []) := by
  refine ⟨fun i => t.getD i undef, ?_⟩
  have e : (List.toArray ((fun i => t.getD i undef) 0 :: (fun i => t.getD i undef) 1 :: (fun i => t.getD i undef) 2 :: (fun i => t.getD i undef) 3 :: (fun i => t.getD i undef) 4 :: (fun i => t.getD i undef) 5 :: (fun i => t.getD i undef) 6 :: (fun i => t.getD i undef) 7 :: (fun i => t.getD i undef) 8 :: (fun i => t.getD i undef) 9 :: (fun i => t.getD i undef) 10 :: (fun i => t.getD i undef) 11 :: (fun i => t.getD i undef) 12 :: (fun i => t.getD i undef) 13 :: (fun i => t.getD i undef) 14 :: (fun i => t.getD i undef) 15 :: (fun i => t.getD i undef) 16 :: (fun i => t.getD i undef) 17 :: (fun i => t.getD i undef) 18 :: (fun i => t.getD i undef) 19 :: (fun i => t.getD i undef) 20 :: (fun i => t.getD i undef) 21 :: (fun i => t.getD i undef) 22 :: (fun i => t.getD i undef) 23 :: (fun i => t.getD i undef) 24 :: (fun i => t.getD i undef) 25 :: (fun i => t.getD i undef) 26 :: (fun i => t.getD i undef) 27 :: (fun i => t.getD i undef) 28 :: (fun i => t.getD i undef) 29 :: (fun i => t.getD i undef) 30 :: (fun i => t.getD i undef) 31 :: (fun i => t.getD i undef) 32 :: (fun i => t.getD i undef) 33 :: (fun i => t.getD i undef) 34 :: (fun i => t.getD i undef) 35 :: (fun i => t.getD i undef) 36 :: (fun i => t.getD i undef) 37 :: (fun i => t.getD i undef) 38 :: (fun i => t.getD i undef) 39 :: (fun i => t.getD i undef) 40 :: (fun i => t.getD i undef) 41 :: (fun i => t.getD i undef) 42 :: (fun i => t.getD i undef) 43 :: (fun i => t.getD i undef) 44 :: (fun i => t.getD i undef) 45 :: (fun i => t.getD i undef) 46 :: (fun i => t.getD i undef) 47 :: (fun i => t.getD i undef) 48 :: (fun i => t.getD i undef) 49 :: (fun i => t.getD i undef) 50 :: (fun i => t.getD i undef) 51 :: (fun i => t.getD i undef) 52 :: (fun i => t.getD i undef) 53 :: (fun i => t.getD i undef) 54 :: (fun i => t.getD i undef) 55 :: (fun i => t.getD i undef) 56 :: (fun i => t.getD i undef) 57 :: (fun i => t.getD i undef) 58 :: (fun i => t.getD i undef) 59 :: (fun i => t.getD i undef) 60 :: (fun i => t.getD i undef) 61 :: (fun i => t.getD i undef) 62 :: (fun i => t.getD i undef) 63 :: (fun i => t.getD i undef) 64 :: (fun i => t.getD i undef) 65 :: (fun i => t.getD i undef) 66 :: (fun i => t.getD i undef) 67 :: (fun i => t.getD i undef) 68 :: (fun i => t.getD i undef) 69 :: (fun i => t.getD i undef) 70 :: (fun i => t.getD i undef) 71 :: (fun i => t.getD i undef) 72 :: (fun i => t.getD i undef) 73 :: (fun i => t.getD i undef) 74 :: (fun i => t.getD i undef) 75 :: (fun i => t.getD i undef) 76 :: (fun i => t.getD i undef) 77 :: (fun i => t.getD i undef) 78 :: (fun i => t.getD i undef) 79 :: (fun i => t.getD i undef) 80 :: (fun i => t.getD i undef) 81 :: (fun i => t.getD i undef) 82 :: (fun i => t.getD i undef) 83 :: (fun i => t.getD i undef) 84 :: (fun i => t.getD i undef) 85 :: (fun i => t.getD i undef) 86 :: (fun i => t.getD i undef) 87 :: (fun i => t.getD i undef) 88 :: (fun i => t.getD i undef) 89 :: (fun i => t.getD i undef) 90 :: (fun i => t.getD i undef) 91 :: (fun i => t.getD i undef) 92 :: (fun i => t.getD i undef) 93 :: (fun i => t.getD i undef) 94 :: (fun i => t.getD i undef) 95 :: (fun i => t.getD i undef) 96 :: (fun i => t.getD i undef) 97 :: (fun i => t.getD i undef) 98 :: (fun i => t.getD i undef) 99 :: (fun i => t.getD i undef) 100 :: (fun i => t.getD i undef) 101 :: (fun i => t.getD i undef) 102 :: (fun i => t.getD i undef) 103 :: (fun i => t.getD i undef) 104 :: (fun i => t.getD i undef) 105 :: (fun i => t.getD i undef) 106 :: (fun i => t.getD i undef) 107 :: (fun i => t.getD i undef) 108 :: (fun i => t.getD i undef) 109 :: (fun i => t.getD i undef) 110 :: (fun i => t.getD i undef) 111 :: (fun i => t.getD i undef) 112 :: (fun i => t.getD i undef) 113 :: (fun i => t.getD i undef) 114 :: (fun i => t.getD i undef) 115 :: (fun i => t.getD i undef) 116 :: (fun i => t.getD i undef) 117 :: (fun i => t.getD i undef) 118 :: (fun i => t.getD i undef) 119 :: (fun i => t.getD i undef) 120 :: (fun i => t.getD i undef) 121 :: (fun i => t.getD i undef) 122 :: (fun i => t.getD i undef) 123 :: (fun i => t.getD i undef) 124 :: (fun i => t.getD i undef) 125 :: (fun i => t.getD i undef) 126 :: (fun i => t.getD i undef) 127 :: (fun i => t.getD i undef) 128 :: (fun i => t.getD i undef) 129 :: (fun i => t.getD i undef) 130 :: (fun i => t.getD i undef) 131 :: (fun i => t.getD i undef) 132 :: (fun i => t.getD i undef) 133 :: (fun i => t.getD i undef) 134 :: (fun i => t.getD i undef) 135 :: (fun i => t.getD i undef) 136 :: (fun i => t.getD i undef) 137 :: (fun i => t.getD i undef) 138 :: (fun i => t.getD i undef) 139 :: (fun i => t.getD i undef) 140 :: (fun i => t.getD i undef) 141 :: (fun i => t.getD i undef) 142 :: (fun i => t.getD i undef) 143 :: (fun i => t.getD i undef) 144 :: (fun i => t.getD i undef) 145 :: (fun i => t.getD i undef) 146 :: (fun i => t.getD i undef) 147 :: (fun i => t.getD i undef) 148 :: (fun i => t.getD i undef) 149 :: (fun i => t.getD i undef) 150 :: (fun i => t.getD i undef) 151 :: (fun i => t.getD i undef) 152 :: (fun i => t.getD i undef) 153 :: (fun i => t.getD i undef) 154 :: []) : Array Value) = ((List.range 155).map fun i => t.getD i undef).toArray := rfl
  refine Eq.trans ?_ e.symm
  apply Array.ext
  · simp [h]
  · intro k h1 h2
    simp [Array.getD, h1]
/-- The slots that matter. -/
structure Vrr where
  v0 : Value
  v1 : Value
  v2 : Value
  v3 : Value
  v4 : Value
  v5 : Value
  v6 : Value
  v7 : Value
  v8 : Value
  v9 : Value
  v60 : Value
  v92 : Value
  v121 : Value
  v123 : Value
  v128 : Value
  v129 : Value
  v139 : Value
  v150 : Value
structure Frr (a : Act) (v : Vrr) : Prop where
  size : a.tmps.size = 155
  defers : a.defers = []
  s0 : a.tmps.getD 0 undef = v.v0
  s1 : a.tmps.getD 1 undef = v.v1
  s2 : a.tmps.getD 2 undef = v.v2
  s3 : a.tmps.getD 3 undef = v.v3
  s4 : a.tmps.getD 4 undef = v.v4
  s5 : a.tmps.getD 5 undef = v.v5
  s6 : a.tmps.getD 6 undef = v.v6
  s7 : a.tmps.getD 7 undef = v.v7
  s8 : a.tmps.getD 8 undef = v.v8
  s9 : a.tmps.getD 9 undef = v.v9
  s60 : a.tmps.getD 60 undef = v.v60
  s92 : a.tmps.getD 92 undef = v.v92
  s121 : a.tmps.getD 121 undef = v.v121
  s123 : a.tmps.getD 123 undef = v.v123
  s128 : a.tmps.getD 128 undef = v.v128
  s129 : a.tmps.getD 129 undef = v.v129
  s139 : a.tmps.getD 139 undef = v.v139
  s150 : a.tmps.getD 150 undef = v.v150
set_option maxHeartbeats 8000000 in
set_option maxRecDepth 100000 in
theorem rr_r1 {K : Act → World → Prop} {c : Code} (hc : regOf (Tryz.f42.body.getD .skip) 1 = some c) (a : Act) {v : Vrr} {wq : World} {b : Nat} {xk xs xn xo xa : Int} {xt xm xy xv : ByteArray} {p1 p2 p3 p4 p5 : Bool} (hF : Frr a v) (h1v : v.v1 = .pointer (some ⟨b, 0, none⟩)) (hB : wq.heap[b]? = some (.cells #[.int .i64 xk, .string xt, .string xm, .int .i64 xs, .string xy, .string xv, .int .i64 xn, .int .i64 xo, .int .i64 xa] 23 (0, 0))) (hC : ∀ W, Calls Tryz.prog 68 #[.int .i64 xk] W fun e w' => e = .returned (.tuple #[.bool p1, .bool p2, .bool p3, .bool p4, .bool p5]) ∧ w' = W)
    (hQ : ∀ a', Frr a' { v with v3 := .bool p1, v4 := .bool p2, v5 := .bool p3, v6 := .bool p4, v7 := .bool p5 } → K a' wq) :
    Code.wp Tryz.prog c (Exit.then K fun _ _ _ => False) a wq := by
  have HQ := hide hQ
  clear hQ
  obtain ⟨t', d'⟩ := a
  obtain ⟨v0, v1, v2, v3, v4, v5, v6, v7, v8, v9, v60, v92, v121, v123, v128, v129, v139, v150⟩ := v
  simp only at h1v HQ
  subst h1v
  obtain ⟨hs1, hd1, q0, q1, q2, q3, q4, q5, q6, q7, q8, q9, q60, q92, q121, q123, q128, q129, q139, q150⟩ := hF
  obtain ⟨u, hu⟩ := frame_rr t' hs1
  simp only at hd1 q0 q1 q2 q3 q4 q5 q6 q7 q8 q9 q60 q92 q121 q123 q128 q129 q139 q150
  subst hu hd1
  have e0 : u 0 = v0 := q0
  have e1 : u 1 = .pointer (some ⟨b, 0, none⟩) := q1
  have e2 : u 2 = v2 := q2
  have e3 : u 3 = v3 := q3
  have e4 : u 4 = v4 := q4
  have e5 : u 5 = v5 := q5
  have e6 : u 6 = v6 := q6
  have e7 : u 7 = v7 := q7
  have e8 : u 8 = v8 := q8
  have e9 : u 9 = v9 := q9
  have e60 : u 60 = v60 := q60
  have e92 : u 92 = v92 := q92
  have e121 : u 121 = v121 := q121
  have e123 : u 123 = v123 := q123
  have e128 : u 128 = v128 := q128
  have e129 : u 129 = v129 := q129
  have e139 : u 139 = v139 := q139
  have e150 : u 150 = v150 := q150
  rw [e0, e1, e2, e3, e4, e5, e6, e7, e8, e9, e60, e92, e121, e123, e128, e129, e139, e150]
  clear q0 e0 q1 e1 q2 e2 q3 e3 q4 e4 q5 e5 q6 e6 q7 e7 q8 e8 q9 e9 q60 e60 q92 e92 q121 e121 q123 e123 q128 e128 q129 e129 q139 e139 q150 e150 hs1
  simp only [Tryz.f42, Option.getD_some, regOf] at hc
  injection hc with hc
  subst hc
  generalize u 10 = u10
  generalize u 11 = u11
  generalize u 12 = u12
  generalize u 13 = u13
  generalize u 14 = u14
  generalize u 15 = u15
  generalize u 16 = u16
  generalize u 17 = u17
  generalize u 18 = u18
  generalize u 19 = u19
  generalize u 20 = u20
  generalize u 21 = u21
  generalize u 22 = u22
  generalize u 23 = u23
  generalize u 24 = u24
  generalize u 25 = u25
  generalize u 26 = u26
  generalize u 27 = u27
  generalize u 28 = u28
  generalize u 29 = u29
  generalize u 30 = u30
  generalize u 31 = u31
  generalize u 32 = u32
  generalize u 33 = u33
  generalize u 34 = u34
  generalize u 35 = u35
  generalize u 36 = u36
  generalize u 37 = u37
  generalize u 38 = u38
  generalize u 39 = u39
  generalize u 40 = u40
  generalize u 41 = u41
  generalize u 42 = u42
  generalize u 43 = u43
  generalize u 44 = u44
  generalize u 45 = u45
  generalize u 46 = u46
  generalize u 47 = u47
  generalize u 48 = u48
  generalize u 49 = u49
  generalize u 50 = u50
  generalize u 51 = u51
  generalize u 52 = u52
  generalize u 53 = u53
  generalize u 54 = u54
  generalize u 55 = u55
  generalize u 56 = u56
  generalize u 57 = u57
  generalize u 58 = u58
  generalize u 59 = u59
  generalize u 61 = u61
  generalize u 62 = u62
  generalize u 63 = u63
  generalize u 64 = u64
  generalize u 65 = u65
  generalize u 66 = u66
  generalize u 67 = u67
  generalize u 68 = u68
  generalize u 69 = u69
  generalize u 70 = u70
  generalize u 71 = u71
  generalize u 72 = u72
  generalize u 73 = u73
  generalize u 74 = u74
  generalize u 75 = u75
  generalize u 76 = u76
  generalize u 77 = u77
  generalize u 78 = u78
  generalize u 79 = u79
  generalize u 80 = u80
  generalize u 81 = u81
  generalize u 82 = u82
  generalize u 83 = u83
  generalize u 84 = u84
  generalize u 85 = u85
  generalize u 86 = u86
  generalize u 87 = u87
  generalize u 88 = u88
  generalize u 89 = u89
  generalize u 90 = u90
  generalize u 91 = u91
  generalize u 93 = u93
  generalize u 94 = u94
  generalize u 95 = u95
  generalize u 96 = u96
  generalize u 97 = u97
  generalize u 98 = u98
  generalize u 99 = u99
  generalize u 100 = u100
  generalize u 101 = u101
  generalize u 102 = u102
  generalize u 103 = u103
  generalize u 104 = u104
  generalize u 105 = u105
  generalize u 106 = u106
  generalize u 107 = u107
  generalize u 108 = u108
  generalize u 109 = u109
  generalize u 110 = u110
  generalize u 111 = u111
  generalize u 112 = u112
  generalize u 113 = u113
  generalize u 114 = u114
  generalize u 115 = u115
  generalize u 116 = u116
  generalize u 117 = u117
  generalize u 118 = u118
  generalize u 119 = u119
  generalize u 120 = u120
  generalize u 122 = u122
  generalize u 124 = u124
  generalize u 125 = u125
  generalize u 126 = u126
  generalize u 127 = u127
  generalize u 130 = u130
  generalize u 131 = u131
  generalize u 132 = u132
  generalize u 133 = u133
  generalize u 134 = u134
  generalize u 135 = u135
  generalize u 136 = u136
  generalize u 137 = u137
  generalize u 138 = u138
  generalize u 140 = u140
  generalize u 141 = u141
  generalize u 142 = u142
  generalize u 143 = u143
  generalize u 144 = u144
  generalize u 145 = u145
  generalize u 146 = u146
  generalize u 147 = u147
  generalize u 148 = u148
  generalize u 149 = u149
  generalize u 151 = u151
  generalize u 152 = u152
  generalize u 153 = u153
  generalize u 154 = u154
  clear u
  have HC := hide hC
  have c0 := box_cell hB 0 rfl
  clear hC hB
  go_wp2_with (go_at_call 68; refine (HC.out _).mono ?_; rintro e w' ⟨rfl, rfl⟩)
  exact HQ.out _ ⟨rfl, rfl, rfl, rfl, rfl, rfl, rfl, rfl, rfl, rfl, rfl, rfl, rfl, rfl, rfl, rfl, rfl, rfl, rfl, rfl⟩
set_option maxHeartbeats 8000000 in
set_option maxRecDepth 100000 in
theorem rr_r2 {K : Act → World → Prop} {c : Code} (hc : regOf (Tryz.f42.body.getD .skip) 2 = some c) (a : Act) {v : Vrr} {wq : World} {b : Nat} {xk xs xn xo xa : Int} {xt xm xy xv : ByteArray} {p bb : Bool} (hF : Frr a v) (h1v : v.v1 = .pointer (some ⟨b, 0, none⟩)) (h7v : v.v7 = .bool p) (hB : wq.heap[b]? = some (.cells #[.int .i64 xk, .string xt, .string xm, .int .i64 xs, .string xy, .string xv, .int .i64 xn, .int .i64 xo, .int .i64 xa] 23 (0, 0))) (hbb : bb = !(p && decide (0 ≤ xo ∧ xo ≤ 6 ∧ 0 ≤ xa ∧ xa ≤ 9007199254740991 ∧ 0 ≤ xs ∧ xs ≤ 9007199254740991 ∧ -1 ≤ xn ∧ xn ≤ 9007199254740991)))
    (hQ : ∀ a', Frr a' { v with v60 := .bool bb } → K a' wq) :
    Code.wp Tryz.prog c (Exit.then K fun _ _ _ => False) a wq := by
  have HQ := hide hQ
  clear hQ
  obtain ⟨t', d'⟩ := a
  obtain ⟨v0, v1, v2, v3, v4, v5, v6, v7, v8, v9, v60, v92, v121, v123, v128, v129, v139, v150⟩ := v
  simp only at h1v h7v HQ
  subst h1v h7v
  obtain ⟨hs1, hd1, q0, q1, q2, q3, q4, q5, q6, q7, q8, q9, q60, q92, q121, q123, q128, q129, q139, q150⟩ := hF
  obtain ⟨u, hu⟩ := frame_rr t' hs1
  simp only at hd1 q0 q1 q2 q3 q4 q5 q6 q7 q8 q9 q60 q92 q121 q123 q128 q129 q139 q150
  subst hu hd1
  have e0 : u 0 = v0 := q0
  have e1 : u 1 = .pointer (some ⟨b, 0, none⟩) := q1
  have e2 : u 2 = v2 := q2
  have e3 : u 3 = v3 := q3
  have e4 : u 4 = v4 := q4
  have e5 : u 5 = v5 := q5
  have e6 : u 6 = v6 := q6
  have e7 : u 7 = .bool p := q7
  have e8 : u 8 = v8 := q8
  have e9 : u 9 = v9 := q9
  have e60 : u 60 = v60 := q60
  have e92 : u 92 = v92 := q92
  have e121 : u 121 = v121 := q121
  have e123 : u 123 = v123 := q123
  have e128 : u 128 = v128 := q128
  have e129 : u 129 = v129 := q129
  have e139 : u 139 = v139 := q139
  have e150 : u 150 = v150 := q150
  rw [e0, e1, e2, e3, e4, e5, e6, e7, e8, e9, e60, e92, e121, e123, e128, e129, e139, e150]
  clear q0 e0 q1 e1 q2 e2 q3 e3 q4 e4 q5 e5 q6 e6 q7 e7 q8 e8 q9 e9 q60 e60 q92 e92 q121 e121 q123 e123 q128 e128 q129 e129 q139 e139 q150 e150 hs1
  simp only [Tryz.f42, Option.getD_some, regOf] at hc
  injection hc with hc
  subst hc
  generalize u 10 = u10
  generalize u 11 = u11
  generalize u 12 = u12
  generalize u 13 = u13
  generalize u 14 = u14
  generalize u 15 = u15
  generalize u 16 = u16
  generalize u 17 = u17
  generalize u 18 = u18
  generalize u 19 = u19
  generalize u 20 = u20
  generalize u 21 = u21
  generalize u 22 = u22
  generalize u 23 = u23
  generalize u 24 = u24
  generalize u 25 = u25
  generalize u 26 = u26
  generalize u 27 = u27
  generalize u 28 = u28
  generalize u 29 = u29
  generalize u 30 = u30
  generalize u 31 = u31
  generalize u 32 = u32
  generalize u 33 = u33
  generalize u 34 = u34
  generalize u 35 = u35
  generalize u 36 = u36
  generalize u 37 = u37
  generalize u 38 = u38
  generalize u 39 = u39
  generalize u 40 = u40
  generalize u 41 = u41
  generalize u 42 = u42
  generalize u 43 = u43
  generalize u 44 = u44
  generalize u 45 = u45
  generalize u 46 = u46
  generalize u 47 = u47
  generalize u 48 = u48
  generalize u 49 = u49
  generalize u 50 = u50
  generalize u 51 = u51
  generalize u 52 = u52
  generalize u 53 = u53
  generalize u 54 = u54
  generalize u 55 = u55
  generalize u 56 = u56
  generalize u 57 = u57
  generalize u 58 = u58
  generalize u 59 = u59
  generalize u 61 = u61
  generalize u 62 = u62
  generalize u 63 = u63
  generalize u 64 = u64
  generalize u 65 = u65
  generalize u 66 = u66
  generalize u 67 = u67
  generalize u 68 = u68
  generalize u 69 = u69
  generalize u 70 = u70
  generalize u 71 = u71
  generalize u 72 = u72
  generalize u 73 = u73
  generalize u 74 = u74
  generalize u 75 = u75
  generalize u 76 = u76
  generalize u 77 = u77
  generalize u 78 = u78
  generalize u 79 = u79
  generalize u 80 = u80
  generalize u 81 = u81
  generalize u 82 = u82
  generalize u 83 = u83
  generalize u 84 = u84
  generalize u 85 = u85
  generalize u 86 = u86
  generalize u 87 = u87
  generalize u 88 = u88
  generalize u 89 = u89
  generalize u 90 = u90
  generalize u 91 = u91
  generalize u 93 = u93
  generalize u 94 = u94
  generalize u 95 = u95
  generalize u 96 = u96
  generalize u 97 = u97
  generalize u 98 = u98
  generalize u 99 = u99
  generalize u 100 = u100
  generalize u 101 = u101
  generalize u 102 = u102
  generalize u 103 = u103
  generalize u 104 = u104
  generalize u 105 = u105
  generalize u 106 = u106
  generalize u 107 = u107
  generalize u 108 = u108
  generalize u 109 = u109
  generalize u 110 = u110
  generalize u 111 = u111
  generalize u 112 = u112
  generalize u 113 = u113
  generalize u 114 = u114
  generalize u 115 = u115
  generalize u 116 = u116
  generalize u 117 = u117
  generalize u 118 = u118
  generalize u 119 = u119
  generalize u 120 = u120
  generalize u 122 = u122
  generalize u 124 = u124
  generalize u 125 = u125
  generalize u 126 = u126
  generalize u 127 = u127
  generalize u 130 = u130
  generalize u 131 = u131
  generalize u 132 = u132
  generalize u 133 = u133
  generalize u 134 = u134
  generalize u 135 = u135
  generalize u 136 = u136
  generalize u 137 = u137
  generalize u 138 = u138
  generalize u 140 = u140
  generalize u 141 = u141
  generalize u 142 = u142
  generalize u 143 = u143
  generalize u 144 = u144
  generalize u 145 = u145
  generalize u 146 = u146
  generalize u 147 = u147
  generalize u 148 = u148
  generalize u 149 = u149
  generalize u 151 = u151
  generalize u 152 = u152
  generalize u 153 = u153
  generalize u 154 = u154
  clear u
  have c0 := box_cell hB 0 rfl
  have c1 := box_cell hB 1 rfl
  have c2 := box_cell hB 2 rfl
  have c3 := box_cell hB 3 rfl
  have c4 := box_cell hB 4 rfl
  have c5 := box_cell hB 5 rfl
  have c6 := box_cell hB 6 rfl
  have c7 := box_cell hB 7 rfl
  have c8 := box_cell hB 8 rfl
  clear hB
  cases p
  · obtain rfl : bb = true := hbb
    go_wp2
    exact HQ.out _ ⟨rfl, rfl, rfl, rfl, rfl, rfl, rfl, rfl, rfl, rfl, rfl, rfl, rfl, rfl, rfl, rfl, rfl, rfl, rfl, rfl⟩
  · skip
    by_cases g0 : xo < 0
    · obtain rfl : bb = true := by rw [hbb]; simp; omega
      clear hbb
      go_wp2
      exact HQ.out _ ⟨rfl, rfl, rfl, rfl, rfl, rfl, rfl, rfl, rfl, rfl, rfl, rfl, rfl, rfl, rfl, rfl, rfl, rfl, rfl, rfl⟩
    · skip
      by_cases g1 : xo > 6
      · obtain rfl : bb = true := by rw [hbb]; simp; omega
        clear hbb
        go_wp2
        exact HQ.out _ ⟨rfl, rfl, rfl, rfl, rfl, rfl, rfl, rfl, rfl, rfl, rfl, rfl, rfl, rfl, rfl, rfl, rfl, rfl, rfl, rfl⟩
      · skip
        by_cases g2 : xa < 0
        · obtain rfl : bb = true := by rw [hbb]; simp; omega
          clear hbb
          go_wp2
          exact HQ.out _ ⟨rfl, rfl, rfl, rfl, rfl, rfl, rfl, rfl, rfl, rfl, rfl, rfl, rfl, rfl, rfl, rfl, rfl, rfl, rfl, rfl⟩
        · skip
          by_cases g3 : xa > 9007199254740991
          · obtain rfl : bb = true := by rw [hbb]; simp; omega
            clear hbb
            go_wp2
            exact HQ.out _ ⟨rfl, rfl, rfl, rfl, rfl, rfl, rfl, rfl, rfl, rfl, rfl, rfl, rfl, rfl, rfl, rfl, rfl, rfl, rfl, rfl⟩
          · skip
            by_cases g4 : xs < 0
            · obtain rfl : bb = true := by rw [hbb]; simp; omega
              clear hbb
              go_wp2
              exact HQ.out _ ⟨rfl, rfl, rfl, rfl, rfl, rfl, rfl, rfl, rfl, rfl, rfl, rfl, rfl, rfl, rfl, rfl, rfl, rfl, rfl, rfl⟩
            · skip
              by_cases g5 : xs > 9007199254740991
              · obtain rfl : bb = true := by rw [hbb]; simp; omega
                clear hbb
                go_wp2
                exact HQ.out _ ⟨rfl, rfl, rfl, rfl, rfl, rfl, rfl, rfl, rfl, rfl, rfl, rfl, rfl, rfl, rfl, rfl, rfl, rfl, rfl, rfl⟩
              · skip
                by_cases g6 : xn < -1
                · obtain rfl : bb = true := by rw [hbb]; simp; omega
                  clear hbb
                  go_wp2
                  exact HQ.out _ ⟨rfl, rfl, rfl, rfl, rfl, rfl, rfl, rfl, rfl, rfl, rfl, rfl, rfl, rfl, rfl, rfl, rfl, rfl, rfl, rfl⟩
                · skip
                  by_cases g7 : xn > 9007199254740991
                  · obtain rfl : bb = true := by rw [hbb]; simp; omega
                    clear hbb
                    go_wp2
                    exact HQ.out _ ⟨rfl, rfl, rfl, rfl, rfl, rfl, rfl, rfl, rfl, rfl, rfl, rfl, rfl, rfl, rfl, rfl, rfl, rfl, rfl, rfl⟩
                  · skip
                    obtain rfl : bb = false := by rw [hbb]; simp; omega
                    clear hbb
                    go_wp2
                    exact HQ.out _ ⟨rfl, rfl, rfl, rfl, rfl, rfl, rfl, rfl, rfl, rfl, rfl, rfl, rfl, rfl, rfl, rfl, rfl, rfl, rfl, rfl⟩
set_option maxHeartbeats 8000000 in
set_option maxRecDepth 100000 in
theorem rr_r4 {K : Act → World → Prop} {c : Code} (hc : regOf (Tryz.f42.body.getD .skip) 4 = some c) (a : Act) {v : Vrr} {wq : World} {b : Nat} {xk xs xn xo xa : Int} {xt xm xy xv : ByteArray} {p : Bool} (hF : Frr a v) (h1v : v.v1 = .pointer (some ⟨b, 0, none⟩)) (hB : wq.heap[b]? = some (.cells #[.int .i64 xk, .string xt, .string xm, .int .i64 xs, .string xy, .string xv, .int .i64 xn, .int .i64 xo, .int .i64 xa] 23 (0, 0))) (hC : ∀ W, Calls Tryz.prog 69 #[.string xt] W fun e w' => e = .returned (.bool p) ∧ w' = W)
    (hQ : ∀ a', Frr a' { v with v8 := .bool p } → K a' wq) :
    Code.wp Tryz.prog c (Exit.then K fun _ _ _ => False) a wq := by
  have HQ := hide hQ
  clear hQ
  obtain ⟨t', d'⟩ := a
  obtain ⟨v0, v1, v2, v3, v4, v5, v6, v7, v8, v9, v60, v92, v121, v123, v128, v129, v139, v150⟩ := v
  simp only at h1v HQ
  subst h1v
  obtain ⟨hs1, hd1, q0, q1, q2, q3, q4, q5, q6, q7, q8, q9, q60, q92, q121, q123, q128, q129, q139, q150⟩ := hF
  obtain ⟨u, hu⟩ := frame_rr t' hs1
  simp only at hd1 q0 q1 q2 q3 q4 q5 q6 q7 q8 q9 q60 q92 q121 q123 q128 q129 q139 q150
  subst hu hd1
  have e0 : u 0 = v0 := q0
  have e1 : u 1 = .pointer (some ⟨b, 0, none⟩) := q1
  have e2 : u 2 = v2 := q2
  have e3 : u 3 = v3 := q3
  have e4 : u 4 = v4 := q4
  have e5 : u 5 = v5 := q5
  have e6 : u 6 = v6 := q6
  have e7 : u 7 = v7 := q7
  have e8 : u 8 = v8 := q8
  have e9 : u 9 = v9 := q9
  have e60 : u 60 = v60 := q60
  have e92 : u 92 = v92 := q92
  have e121 : u 121 = v121 := q121
  have e123 : u 123 = v123 := q123
  have e128 : u 128 = v128 := q128
  have e129 : u 129 = v129 := q129
  have e139 : u 139 = v139 := q139
  have e150 : u 150 = v150 := q150
  rw [e0, e1, e2, e3, e4, e5, e6, e7, e8, e9, e60, e92, e121, e123, e128, e129, e139, e150]
  clear q0 e0 q1 e1 q2 e2 q3 e3 q4 e4 q5 e5 q6 e6 q7 e7 q8 e8 q9 e9 q60 e60 q92 e92 q121 e121 q123 e123 q128 e128 q129 e129 q139 e139 q150 e150 hs1
  simp only [Tryz.f42, Option.getD_some, regOf] at hc
  injection hc with hc
  subst hc
  generalize u 10 = u10
  generalize u 11 = u11
  generalize u 12 = u12
  generalize u 13 = u13
  generalize u 14 = u14
  generalize u 15 = u15
  generalize u 16 = u16
  generalize u 17 = u17
  generalize u 18 = u18
  generalize u 19 = u19
  generalize u 20 = u20
  generalize u 21 = u21
  generalize u 22 = u22
  generalize u 23 = u23
  generalize u 24 = u24
  generalize u 25 = u25
  generalize u 26 = u26
  generalize u 27 = u27
  generalize u 28 = u28
  generalize u 29 = u29
  generalize u 30 = u30
  generalize u 31 = u31
  generalize u 32 = u32
  generalize u 33 = u33
  generalize u 34 = u34
  generalize u 35 = u35
  generalize u 36 = u36
  generalize u 37 = u37
  generalize u 38 = u38
  generalize u 39 = u39
  generalize u 40 = u40
  generalize u 41 = u41
  generalize u 42 = u42
  generalize u 43 = u43
  generalize u 44 = u44
  generalize u 45 = u45
  generalize u 46 = u46
  generalize u 47 = u47
  generalize u 48 = u48
  generalize u 49 = u49
  generalize u 50 = u50
  generalize u 51 = u51
  generalize u 52 = u52
  generalize u 53 = u53
  generalize u 54 = u54
  generalize u 55 = u55
  generalize u 56 = u56
  generalize u 57 = u57
  generalize u 58 = u58
  generalize u 59 = u59
  generalize u 61 = u61
  generalize u 62 = u62
  generalize u 63 = u63
  generalize u 64 = u64
  generalize u 65 = u65
  generalize u 66 = u66
  generalize u 67 = u67
  generalize u 68 = u68
  generalize u 69 = u69
  generalize u 70 = u70
  generalize u 71 = u71
  generalize u 72 = u72
  generalize u 73 = u73
  generalize u 74 = u74
  generalize u 75 = u75
  generalize u 76 = u76
  generalize u 77 = u77
  generalize u 78 = u78
  generalize u 79 = u79
  generalize u 80 = u80
  generalize u 81 = u81
  generalize u 82 = u82
  generalize u 83 = u83
  generalize u 84 = u84
  generalize u 85 = u85
  generalize u 86 = u86
  generalize u 87 = u87
  generalize u 88 = u88
  generalize u 89 = u89
  generalize u 90 = u90
  generalize u 91 = u91
  generalize u 93 = u93
  generalize u 94 = u94
  generalize u 95 = u95
  generalize u 96 = u96
  generalize u 97 = u97
  generalize u 98 = u98
  generalize u 99 = u99
  generalize u 100 = u100
  generalize u 101 = u101
  generalize u 102 = u102
  generalize u 103 = u103
  generalize u 104 = u104
  generalize u 105 = u105
  generalize u 106 = u106
  generalize u 107 = u107
  generalize u 108 = u108
  generalize u 109 = u109
  generalize u 110 = u110
  generalize u 111 = u111
  generalize u 112 = u112
  generalize u 113 = u113
  generalize u 114 = u114
  generalize u 115 = u115
  generalize u 116 = u116
  generalize u 117 = u117
  generalize u 118 = u118
  generalize u 119 = u119
  generalize u 120 = u120
  generalize u 122 = u122
  generalize u 124 = u124
  generalize u 125 = u125
  generalize u 126 = u126
  generalize u 127 = u127
  generalize u 130 = u130
  generalize u 131 = u131
  generalize u 132 = u132
  generalize u 133 = u133
  generalize u 134 = u134
  generalize u 135 = u135
  generalize u 136 = u136
  generalize u 137 = u137
  generalize u 138 = u138
  generalize u 140 = u140
  generalize u 141 = u141
  generalize u 142 = u142
  generalize u 143 = u143
  generalize u 144 = u144
  generalize u 145 = u145
  generalize u 146 = u146
  generalize u 147 = u147
  generalize u 148 = u148
  generalize u 149 = u149
  generalize u 151 = u151
  generalize u 152 = u152
  generalize u 153 = u153
  generalize u 154 = u154
  clear u
  have HC := hide hC
  have c1 := box_cell hB 1 rfl
  clear hC hB
  go_wp2_with (go_at_call 69; refine (HC.out _).mono ?_; rintro e w' ⟨rfl, rfl⟩)
  exact HQ.out _ ⟨rfl, rfl, rfl, rfl, rfl, rfl, rfl, rfl, rfl, rfl, rfl, rfl, rfl, rfl, rfl, rfl, rfl, rfl, rfl, rfl⟩
set_option maxHeartbeats 8000000 in
set_option maxRecDepth 100000 in
theorem rr_r5 {K : Act → World → Prop} {c : Code} (hc : regOf (Tryz.f42.body.getD .skip) 5 = some c) (a : Act) {v : Vrr} {wq : World} {b : Nat} {xk xs xn xo xa : Int} {xt xm xy xv : ByteArray} {p : Bool} (hF : Frr a v) (h1v : v.v1 = .pointer (some ⟨b, 0, none⟩)) (hB : wq.heap[b]? = some (.cells #[.int .i64 xk, .string xt, .string xm, .int .i64 xs, .string xy, .string xv, .int .i64 xn, .int .i64 xo, .int .i64 xa] 23 (0, 0))) (hC : ∀ W, Calls Tryz.prog 69 #[.string xm] W fun e w' => e = .returned (.bool p) ∧ w' = W)
    (hQ : ∀ a', Frr a' { v with v9 := .bool p } → K a' wq) :
    Code.wp Tryz.prog c (Exit.then K fun _ _ _ => False) a wq := by
  have HQ := hide hQ
  clear hQ
  obtain ⟨t', d'⟩ := a
  obtain ⟨v0, v1, v2, v3, v4, v5, v6, v7, v8, v9, v60, v92, v121, v123, v128, v129, v139, v150⟩ := v
  simp only at h1v HQ
  subst h1v
  obtain ⟨hs1, hd1, q0, q1, q2, q3, q4, q5, q6, q7, q8, q9, q60, q92, q121, q123, q128, q129, q139, q150⟩ := hF
  obtain ⟨u, hu⟩ := frame_rr t' hs1
  simp only at hd1 q0 q1 q2 q3 q4 q5 q6 q7 q8 q9 q60 q92 q121 q123 q128 q129 q139 q150
  subst hu hd1
  have e0 : u 0 = v0 := q0
  have e1 : u 1 = .pointer (some ⟨b, 0, none⟩) := q1
  have e2 : u 2 = v2 := q2
  have e3 : u 3 = v3 := q3
  have e4 : u 4 = v4 := q4
  have e5 : u 5 = v5 := q5
  have e6 : u 6 = v6 := q6
  have e7 : u 7 = v7 := q7
  have e8 : u 8 = v8 := q8
  have e9 : u 9 = v9 := q9
  have e60 : u 60 = v60 := q60
  have e92 : u 92 = v92 := q92
  have e121 : u 121 = v121 := q121
  have e123 : u 123 = v123 := q123
  have e128 : u 128 = v128 := q128
  have e129 : u 129 = v129 := q129
  have e139 : u 139 = v139 := q139
  have e150 : u 150 = v150 := q150
  rw [e0, e1, e2, e3, e4, e5, e6, e7, e8, e9, e60, e92, e121, e123, e128, e129, e139, e150]
  clear q0 e0 q1 e1 q2 e2 q3 e3 q4 e4 q5 e5 q6 e6 q7 e7 q8 e8 q9 e9 q60 e60 q92 e92 q121 e121 q123 e123 q128 e128 q129 e129 q139 e139 q150 e150 hs1
  simp only [Tryz.f42, Option.getD_some, regOf] at hc
  injection hc with hc
  subst hc
  generalize u 10 = u10
  generalize u 11 = u11
  generalize u 12 = u12
  generalize u 13 = u13
  generalize u 14 = u14
  generalize u 15 = u15
  generalize u 16 = u16
  generalize u 17 = u17
  generalize u 18 = u18
  generalize u 19 = u19
  generalize u 20 = u20
  generalize u 21 = u21
  generalize u 22 = u22
  generalize u 23 = u23
  generalize u 24 = u24
  generalize u 25 = u25
  generalize u 26 = u26
  generalize u 27 = u27
  generalize u 28 = u28
  generalize u 29 = u29
  generalize u 30 = u30
  generalize u 31 = u31
  generalize u 32 = u32
  generalize u 33 = u33
  generalize u 34 = u34
  generalize u 35 = u35
  generalize u 36 = u36
  generalize u 37 = u37
  generalize u 38 = u38
  generalize u 39 = u39
  generalize u 40 = u40
  generalize u 41 = u41
  generalize u 42 = u42
  generalize u 43 = u43
  generalize u 44 = u44
  generalize u 45 = u45
  generalize u 46 = u46
  generalize u 47 = u47
  generalize u 48 = u48
  generalize u 49 = u49
  generalize u 50 = u50
  generalize u 51 = u51
  generalize u 52 = u52
  generalize u 53 = u53
  generalize u 54 = u54
  generalize u 55 = u55
  generalize u 56 = u56
  generalize u 57 = u57
  generalize u 58 = u58
  generalize u 59 = u59
  generalize u 61 = u61
  generalize u 62 = u62
  generalize u 63 = u63
  generalize u 64 = u64
  generalize u 65 = u65
  generalize u 66 = u66
  generalize u 67 = u67
  generalize u 68 = u68
  generalize u 69 = u69
  generalize u 70 = u70
  generalize u 71 = u71
  generalize u 72 = u72
  generalize u 73 = u73
  generalize u 74 = u74
  generalize u 75 = u75
  generalize u 76 = u76
  generalize u 77 = u77
  generalize u 78 = u78
  generalize u 79 = u79
  generalize u 80 = u80
  generalize u 81 = u81
  generalize u 82 = u82
  generalize u 83 = u83
  generalize u 84 = u84
  generalize u 85 = u85
  generalize u 86 = u86
  generalize u 87 = u87
  generalize u 88 = u88
  generalize u 89 = u89
  generalize u 90 = u90
  generalize u 91 = u91
  generalize u 93 = u93
  generalize u 94 = u94
  generalize u 95 = u95
  generalize u 96 = u96
  generalize u 97 = u97
  generalize u 98 = u98
  generalize u 99 = u99
  generalize u 100 = u100
  generalize u 101 = u101
  generalize u 102 = u102
  generalize u 103 = u103
  generalize u 104 = u104
  generalize u 105 = u105
  generalize u 106 = u106
  generalize u 107 = u107
  generalize u 108 = u108
  generalize u 109 = u109
  generalize u 110 = u110
  generalize u 111 = u111
  generalize u 112 = u112
  generalize u 113 = u113
  generalize u 114 = u114
  generalize u 115 = u115
  generalize u 116 = u116
  generalize u 117 = u117
  generalize u 118 = u118
  generalize u 119 = u119
  generalize u 120 = u120
  generalize u 122 = u122
  generalize u 124 = u124
  generalize u 125 = u125
  generalize u 126 = u126
  generalize u 127 = u127
  generalize u 130 = u130
  generalize u 131 = u131
  generalize u 132 = u132
  generalize u 133 = u133
  generalize u 134 = u134
  generalize u 135 = u135
  generalize u 136 = u136
  generalize u 137 = u137
  generalize u 138 = u138
  generalize u 140 = u140
  generalize u 141 = u141
  generalize u 142 = u142
  generalize u 143 = u143
  generalize u 144 = u144
  generalize u 145 = u145
  generalize u 146 = u146
  generalize u 147 = u147
  generalize u 148 = u148
  generalize u 149 = u149
  generalize u 151 = u151
  generalize u 152 = u152
  generalize u 153 = u153
  generalize u 154 = u154
  clear u
  have HC := hide hC
  have c1 := box_cell hB 2 rfl
  clear hC hB
  go_wp2_with (go_at_call 69; refine (HC.out _).mono ?_; rintro e w' ⟨rfl, rfl⟩)
  exact HQ.out _ ⟨rfl, rfl, rfl, rfl, rfl, rfl, rfl, rfl, rfl, rfl, rfl, rfl, rfl, rfl, rfl, rfl, rfl, rfl, rfl, rfl⟩
set_option maxHeartbeats 8000000 in
set_option maxRecDepth 100000 in
theorem rr_r6 {K : Act → World → Prop} {c : Code} (hc : regOf (Tryz.f42.body.getD .skip) 6 = some c) (a : Act) {v : Vrr} {wq : World} {b : Nat} {xk xs xn xo xa : Int} {xt xm xy xv : ByteArray} {tp nm on tw et en bb : Bool} (hF : Frr a v) (h1v : v.v1 = .pointer (some ⟨b, 0, none⟩)) (h3v : v.v3 = .bool tp) (h4v : v.v4 = .bool nm) (h8v : v.v8 = .bool on) (h9v : v.v9 = .bool tw) (hB : wq.heap[b]? = some (.cells #[.int .i64 xk, .string xt, .string xm, .int .i64 xs, .string xy, .string xv, .int .i64 xn, .int .i64 xo, .int .i64 xa] 23 (0, 0))) (ht : xt.toList.isEmpty = et) (hm : xm.toList.isEmpty = en) (hbb : bb = !((tp == on) && ((tp || et) && ((nm == tw) && (nm || en)))))
    (hQ : ∀ a', Frr a' { v with v92 := .bool bb } → K a' wq) :
    Code.wp Tryz.prog c (Exit.then K fun _ _ _ => False) a wq := by
  have HQ := hide hQ
  clear hQ
  obtain ⟨t', d'⟩ := a
  obtain ⟨v0, v1, v2, v3, v4, v5, v6, v7, v8, v9, v60, v92, v121, v123, v128, v129, v139, v150⟩ := v
  simp only at h1v h3v h4v h8v h9v HQ
  subst h1v h3v h4v h8v h9v
  obtain ⟨hs1, hd1, q0, q1, q2, q3, q4, q5, q6, q7, q8, q9, q60, q92, q121, q123, q128, q129, q139, q150⟩ := hF
  obtain ⟨u, hu⟩ := frame_rr t' hs1
  simp only at hd1 q0 q1 q2 q3 q4 q5 q6 q7 q8 q9 q60 q92 q121 q123 q128 q129 q139 q150
  subst hu hd1
  have e0 : u 0 = v0 := q0
  have e1 : u 1 = .pointer (some ⟨b, 0, none⟩) := q1
  have e2 : u 2 = v2 := q2
  have e3 : u 3 = .bool tp := q3
  have e4 : u 4 = .bool nm := q4
  have e5 : u 5 = v5 := q5
  have e6 : u 6 = v6 := q6
  have e7 : u 7 = v7 := q7
  have e8 : u 8 = .bool on := q8
  have e9 : u 9 = .bool tw := q9
  have e60 : u 60 = v60 := q60
  have e92 : u 92 = v92 := q92
  have e121 : u 121 = v121 := q121
  have e123 : u 123 = v123 := q123
  have e128 : u 128 = v128 := q128
  have e129 : u 129 = v129 := q129
  have e139 : u 139 = v139 := q139
  have e150 : u 150 = v150 := q150
  rw [e0, e1, e2, e3, e4, e5, e6, e7, e8, e9, e60, e92, e121, e123, e128, e129, e139, e150]
  clear q0 e0 q1 e1 q2 e2 q3 e3 q4 e4 q5 e5 q6 e6 q7 e7 q8 e8 q9 e9 q60 e60 q92 e92 q121 e121 q123 e123 q128 e128 q129 e129 q139 e139 q150 e150 hs1
  simp only [Tryz.f42, Option.getD_some, regOf] at hc
  injection hc with hc
  subst hc
  generalize u 10 = u10
  generalize u 11 = u11
  generalize u 12 = u12
  generalize u 13 = u13
  generalize u 14 = u14
  generalize u 15 = u15
  generalize u 16 = u16
  generalize u 17 = u17
  generalize u 18 = u18
  generalize u 19 = u19
  generalize u 20 = u20
  generalize u 21 = u21
  generalize u 22 = u22
  generalize u 23 = u23
  generalize u 24 = u24
  generalize u 25 = u25
  generalize u 26 = u26
  generalize u 27 = u27
  generalize u 28 = u28
  generalize u 29 = u29
  generalize u 30 = u30
  generalize u 31 = u31
  generalize u 32 = u32
  generalize u 33 = u33
  generalize u 34 = u34
  generalize u 35 = u35
  generalize u 36 = u36
  generalize u 37 = u37
  generalize u 38 = u38
  generalize u 39 = u39
  generalize u 40 = u40
  generalize u 41 = u41
  generalize u 42 = u42
  generalize u 43 = u43
  generalize u 44 = u44
  generalize u 45 = u45
  generalize u 46 = u46
  generalize u 47 = u47
  generalize u 48 = u48
  generalize u 49 = u49
  generalize u 50 = u50
  generalize u 51 = u51
  generalize u 52 = u52
  generalize u 53 = u53
  generalize u 54 = u54
  generalize u 55 = u55
  generalize u 56 = u56
  generalize u 57 = u57
  generalize u 58 = u58
  generalize u 59 = u59
  generalize u 61 = u61
  generalize u 62 = u62
  generalize u 63 = u63
  generalize u 64 = u64
  generalize u 65 = u65
  generalize u 66 = u66
  generalize u 67 = u67
  generalize u 68 = u68
  generalize u 69 = u69
  generalize u 70 = u70
  generalize u 71 = u71
  generalize u 72 = u72
  generalize u 73 = u73
  generalize u 74 = u74
  generalize u 75 = u75
  generalize u 76 = u76
  generalize u 77 = u77
  generalize u 78 = u78
  generalize u 79 = u79
  generalize u 80 = u80
  generalize u 81 = u81
  generalize u 82 = u82
  generalize u 83 = u83
  generalize u 84 = u84
  generalize u 85 = u85
  generalize u 86 = u86
  generalize u 87 = u87
  generalize u 88 = u88
  generalize u 89 = u89
  generalize u 90 = u90
  generalize u 91 = u91
  generalize u 93 = u93
  generalize u 94 = u94
  generalize u 95 = u95
  generalize u 96 = u96
  generalize u 97 = u97
  generalize u 98 = u98
  generalize u 99 = u99
  generalize u 100 = u100
  generalize u 101 = u101
  generalize u 102 = u102
  generalize u 103 = u103
  generalize u 104 = u104
  generalize u 105 = u105
  generalize u 106 = u106
  generalize u 107 = u107
  generalize u 108 = u108
  generalize u 109 = u109
  generalize u 110 = u110
  generalize u 111 = u111
  generalize u 112 = u112
  generalize u 113 = u113
  generalize u 114 = u114
  generalize u 115 = u115
  generalize u 116 = u116
  generalize u 117 = u117
  generalize u 118 = u118
  generalize u 119 = u119
  generalize u 120 = u120
  generalize u 122 = u122
  generalize u 124 = u124
  generalize u 125 = u125
  generalize u 126 = u126
  generalize u 127 = u127
  generalize u 130 = u130
  generalize u 131 = u131
  generalize u 132 = u132
  generalize u 133 = u133
  generalize u 134 = u134
  generalize u 135 = u135
  generalize u 136 = u136
  generalize u 137 = u137
  generalize u 138 = u138
  generalize u 140 = u140
  generalize u 141 = u141
  generalize u 142 = u142
  generalize u 143 = u143
  generalize u 144 = u144
  generalize u 145 = u145
  generalize u 146 = u146
  generalize u 147 = u147
  generalize u 148 = u148
  generalize u 149 = u149
  generalize u 151 = u151
  generalize u 152 = u152
  generalize u 153 = u153
  generalize u 154 = u154
  clear u
  have c0 := box_cell hB 0 rfl
  have c1 := box_cell hB 1 rfl
  have c2 := box_cell hB 2 rfl
  have c3 := box_cell hB 3 rfl
  have c4 := box_cell hB 4 rfl
  have c5 := box_cell hB 5 rfl
  have c6 := box_cell hB 6 rfl
  have c7 := box_cell hB 7 rfl
  have c8 := box_cell hB 8 rfl
  clear hB
  cases tp
  · cases on
    · cases et
      · obtain rfl : bb = true := by rw [hbb]; first | rfl | (simp_all; done)
        clear hbb
        go_wp2
        exact HQ.out _ ⟨rfl, rfl, rfl, rfl, rfl, rfl, rfl, rfl, rfl, rfl, rfl, rfl, rfl, rfl, rfl, rfl, rfl, rfl, rfl, rfl⟩
      · cases nm
        · cases tw
          · cases en
            · obtain rfl : bb = true := by rw [hbb]; first | rfl | (simp_all; done)
              clear hbb
              go_wp2
              exact HQ.out _ ⟨rfl, rfl, rfl, rfl, rfl, rfl, rfl, rfl, rfl, rfl, rfl, rfl, rfl, rfl, rfl, rfl, rfl, rfl, rfl, rfl⟩
            · obtain rfl : bb = false := by rw [hbb]; first | rfl | (simp_all; done)
              clear hbb
              go_wp2
              exact HQ.out _ ⟨rfl, rfl, rfl, rfl, rfl, rfl, rfl, rfl, rfl, rfl, rfl, rfl, rfl, rfl, rfl, rfl, rfl, rfl, rfl, rfl⟩
          · obtain rfl : bb = true := by rw [hbb]; first | rfl | (simp_all; done)
            clear hbb
            go_wp2
            exact HQ.out _ ⟨rfl, rfl, rfl, rfl, rfl, rfl, rfl, rfl, rfl, rfl, rfl, rfl, rfl, rfl, rfl, rfl, rfl, rfl, rfl, rfl⟩
        · cases tw
          · obtain rfl : bb = true := by rw [hbb]; first | rfl | (simp_all; done)
            clear hbb
            go_wp2
            exact HQ.out _ ⟨rfl, rfl, rfl, rfl, rfl, rfl, rfl, rfl, rfl, rfl, rfl, rfl, rfl, rfl, rfl, rfl, rfl, rfl, rfl, rfl⟩
          · obtain rfl : bb = false := by rw [hbb]; first | rfl | (simp_all; done)
            clear hbb
            go_wp2
            exact HQ.out _ ⟨rfl, rfl, rfl, rfl, rfl, rfl, rfl, rfl, rfl, rfl, rfl, rfl, rfl, rfl, rfl, rfl, rfl, rfl, rfl, rfl⟩
    · obtain rfl : bb = true := by rw [hbb]; first | rfl | (simp_all; done)
      clear hbb
      go_wp2
      exact HQ.out _ ⟨rfl, rfl, rfl, rfl, rfl, rfl, rfl, rfl, rfl, rfl, rfl, rfl, rfl, rfl, rfl, rfl, rfl, rfl, rfl, rfl⟩
  · cases on
    · obtain rfl : bb = true := by rw [hbb]; first | rfl | (simp_all; done)
      clear hbb
      go_wp2
      exact HQ.out _ ⟨rfl, rfl, rfl, rfl, rfl, rfl, rfl, rfl, rfl, rfl, rfl, rfl, rfl, rfl, rfl, rfl, rfl, rfl, rfl, rfl⟩
    · cases nm
      · cases tw
        · cases en
          · obtain rfl : bb = true := by rw [hbb]; first | rfl | (simp_all; done)
            clear hbb
            go_wp2
            exact HQ.out _ ⟨rfl, rfl, rfl, rfl, rfl, rfl, rfl, rfl, rfl, rfl, rfl, rfl, rfl, rfl, rfl, rfl, rfl, rfl, rfl, rfl⟩
          · obtain rfl : bb = false := by rw [hbb]; first | rfl | (simp_all; done)
            clear hbb
            go_wp2
            exact HQ.out _ ⟨rfl, rfl, rfl, rfl, rfl, rfl, rfl, rfl, rfl, rfl, rfl, rfl, rfl, rfl, rfl, rfl, rfl, rfl, rfl, rfl⟩
        · obtain rfl : bb = true := by rw [hbb]; first | rfl | (simp_all; done)
          clear hbb
          go_wp2
          exact HQ.out _ ⟨rfl, rfl, rfl, rfl, rfl, rfl, rfl, rfl, rfl, rfl, rfl, rfl, rfl, rfl, rfl, rfl, rfl, rfl, rfl, rfl⟩
      · cases tw
        · obtain rfl : bb = true := by rw [hbb]; first | rfl | (simp_all; done)
          clear hbb
          go_wp2
          exact HQ.out _ ⟨rfl, rfl, rfl, rfl, rfl, rfl, rfl, rfl, rfl, rfl, rfl, rfl, rfl, rfl, rfl, rfl, rfl, rfl, rfl, rfl⟩
        · obtain rfl : bb = false := by rw [hbb]; first | rfl | (simp_all; done)
          clear hbb
          go_wp2
          exact HQ.out _ ⟨rfl, rfl, rfl, rfl, rfl, rfl, rfl, rfl, rfl, rfl, rfl, rfl, rfl, rfl, rfl, rfl, rfl, rfl, rfl, rfl⟩
set_option maxHeartbeats 8000000 in
set_option maxRecDepth 100000 in
theorem rr_r8 {K : Act → World → Prop} {c : Code} (hc : regOf (Tryz.f42.body.getD .skip) 8 = some c) (a : Act) {v : Vrr} {wq : World} {b : Nat} {xk xs xn xo xa : Int} {xt xm xy xv : ByteArray} {pb sz ey ev bb : Bool} (hF : Frr a v) (h1v : v.v1 = .pointer (some ⟨b, 0, none⟩)) (h5v : v.v5 = .bool pb) (hB : wq.heap[b]? = some (.cells #[.int .i64 xk, .string xt, .string xm, .int .i64 xs, .string xy, .string xv, .int .i64 xn, .int .i64 xo, .int .i64 xa] 23 (0, 0))) (hs : (xs != 0) = !sz) (hy : xy.toList.isEmpty = ey) (hv : xv.toList.isEmpty = ev) (y6 : xy.size ≤ 9223372036854775807) (v6 : xv.size ≤ 9223372036854775807) (hbb : bb = !((pb || (sz && (ey && ev))) && (decide (xy.size ≤ 100) && decide (xv.size ≤ 1000))))
    (hQ : ∀ a', Frr a' { v with v121 := .bool bb } → K a' wq) :
    Code.wp Tryz.prog c (Exit.then K fun _ _ _ => False) a wq := by
  have HQ := hide hQ
  clear hQ
  obtain ⟨t', d'⟩ := a
  obtain ⟨v0, v1, v2, v3, v4, v5, v6, v7, v8, v9, v60, v92, v121, v123, v128, v129, v139, v150⟩ := v
  simp only at h1v h5v HQ
  subst h1v h5v
  obtain ⟨hs1, hd1, q0, q1, q2, q3, q4, q5, q6, q7, q8, q9, q60, q92, q121, q123, q128, q129, q139, q150⟩ := hF
  obtain ⟨u, hu⟩ := frame_rr t' hs1
  simp only at hd1 q0 q1 q2 q3 q4 q5 q6 q7 q8 q9 q60 q92 q121 q123 q128 q129 q139 q150
  subst hu hd1
  have e0 : u 0 = v0 := q0
  have e1 : u 1 = .pointer (some ⟨b, 0, none⟩) := q1
  have e2 : u 2 = v2 := q2
  have e3 : u 3 = v3 := q3
  have e4 : u 4 = v4 := q4
  have e5 : u 5 = .bool pb := q5
  have e6 : u 6 = v6 := q6
  have e7 : u 7 = v7 := q7
  have e8 : u 8 = v8 := q8
  have e9 : u 9 = v9 := q9
  have e60 : u 60 = v60 := q60
  have e92 : u 92 = v92 := q92
  have e121 : u 121 = v121 := q121
  have e123 : u 123 = v123 := q123
  have e128 : u 128 = v128 := q128
  have e129 : u 129 = v129 := q129
  have e139 : u 139 = v139 := q139
  have e150 : u 150 = v150 := q150
  rw [e0, e1, e2, e3, e4, e5, e6, e7, e8, e9, e60, e92, e121, e123, e128, e129, e139, e150]
  clear q0 e0 q1 e1 q2 e2 q3 e3 q4 e4 q5 e5 q6 e6 q7 e7 q8 e8 q9 e9 q60 e60 q92 e92 q121 e121 q123 e123 q128 e128 q129 e129 q139 e139 q150 e150 hs1
  simp only [Tryz.f42, Option.getD_some, regOf] at hc
  injection hc with hc
  subst hc
  generalize u 10 = u10
  generalize u 11 = u11
  generalize u 12 = u12
  generalize u 13 = u13
  generalize u 14 = u14
  generalize u 15 = u15
  generalize u 16 = u16
  generalize u 17 = u17
  generalize u 18 = u18
  generalize u 19 = u19
  generalize u 20 = u20
  generalize u 21 = u21
  generalize u 22 = u22
  generalize u 23 = u23
  generalize u 24 = u24
  generalize u 25 = u25
  generalize u 26 = u26
  generalize u 27 = u27
  generalize u 28 = u28
  generalize u 29 = u29
  generalize u 30 = u30
  generalize u 31 = u31
  generalize u 32 = u32
  generalize u 33 = u33
  generalize u 34 = u34
  generalize u 35 = u35
  generalize u 36 = u36
  generalize u 37 = u37
  generalize u 38 = u38
  generalize u 39 = u39
  generalize u 40 = u40
  generalize u 41 = u41
  generalize u 42 = u42
  generalize u 43 = u43
  generalize u 44 = u44
  generalize u 45 = u45
  generalize u 46 = u46
  generalize u 47 = u47
  generalize u 48 = u48
  generalize u 49 = u49
  generalize u 50 = u50
  generalize u 51 = u51
  generalize u 52 = u52
  generalize u 53 = u53
  generalize u 54 = u54
  generalize u 55 = u55
  generalize u 56 = u56
  generalize u 57 = u57
  generalize u 58 = u58
  generalize u 59 = u59
  generalize u 61 = u61
  generalize u 62 = u62
  generalize u 63 = u63
  generalize u 64 = u64
  generalize u 65 = u65
  generalize u 66 = u66
  generalize u 67 = u67
  generalize u 68 = u68
  generalize u 69 = u69
  generalize u 70 = u70
  generalize u 71 = u71
  generalize u 72 = u72
  generalize u 73 = u73
  generalize u 74 = u74
  generalize u 75 = u75
  generalize u 76 = u76
  generalize u 77 = u77
  generalize u 78 = u78
  generalize u 79 = u79
  generalize u 80 = u80
  generalize u 81 = u81
  generalize u 82 = u82
  generalize u 83 = u83
  generalize u 84 = u84
  generalize u 85 = u85
  generalize u 86 = u86
  generalize u 87 = u87
  generalize u 88 = u88
  generalize u 89 = u89
  generalize u 90 = u90
  generalize u 91 = u91
  generalize u 93 = u93
  generalize u 94 = u94
  generalize u 95 = u95
  generalize u 96 = u96
  generalize u 97 = u97
  generalize u 98 = u98
  generalize u 99 = u99
  generalize u 100 = u100
  generalize u 101 = u101
  generalize u 102 = u102
  generalize u 103 = u103
  generalize u 104 = u104
  generalize u 105 = u105
  generalize u 106 = u106
  generalize u 107 = u107
  generalize u 108 = u108
  generalize u 109 = u109
  generalize u 110 = u110
  generalize u 111 = u111
  generalize u 112 = u112
  generalize u 113 = u113
  generalize u 114 = u114
  generalize u 115 = u115
  generalize u 116 = u116
  generalize u 117 = u117
  generalize u 118 = u118
  generalize u 119 = u119
  generalize u 120 = u120
  generalize u 122 = u122
  generalize u 124 = u124
  generalize u 125 = u125
  generalize u 126 = u126
  generalize u 127 = u127
  generalize u 130 = u130
  generalize u 131 = u131
  generalize u 132 = u132
  generalize u 133 = u133
  generalize u 134 = u134
  generalize u 135 = u135
  generalize u 136 = u136
  generalize u 137 = u137
  generalize u 138 = u138
  generalize u 140 = u140
  generalize u 141 = u141
  generalize u 142 = u142
  generalize u 143 = u143
  generalize u 144 = u144
  generalize u 145 = u145
  generalize u 146 = u146
  generalize u 147 = u147
  generalize u 148 = u148
  generalize u 149 = u149
  generalize u 151 = u151
  generalize u 152 = u152
  generalize u 153 = u153
  generalize u 154 = u154
  clear u
  have c0 := box_cell hB 0 rfl
  have c1 := box_cell hB 1 rfl
  have c2 := box_cell hB 2 rfl
  have c3 := box_cell hB 3 rfl
  have c4 := box_cell hB 4 rfl
  have c5 := box_cell hB 5 rfl
  have c6 := box_cell hB 6 rfl
  have c7 := box_cell hB 7 rfl
  have c8 := box_cell hB 8 rfl
  clear hB
  cases pb
  · cases sz
    · obtain rfl : bb = true := by rw [hbb]; simp
      clear hbb
      go_wp2
      exact HQ.out _ ⟨rfl, rfl, rfl, rfl, rfl, rfl, rfl, rfl, rfl, rfl, rfl, rfl, rfl, rfl, rfl, rfl, rfl, rfl, rfl, rfl⟩
    · cases ey
      · obtain rfl : bb = true := by rw [hbb]; simp
        clear hbb
        go_wp2
        exact HQ.out _ ⟨rfl, rfl, rfl, rfl, rfl, rfl, rfl, rfl, rfl, rfl, rfl, rfl, rfl, rfl, rfl, rfl, rfl, rfl, rfl, rfl⟩
      · cases ev
        · obtain rfl : bb = true := by rw [hbb]; simp
          clear hbb
          go_wp2
          exact HQ.out _ ⟨rfl, rfl, rfl, rfl, rfl, rfl, rfl, rfl, rfl, rfl, rfl, rfl, rfl, rfl, rfl, rfl, rfl, rfl, rfl, rfl⟩
        · by_cases l1 : (xy.size : Int) > 100
          · obtain rfl : bb = true := by rw [hbb]; simp [show ¬ xy.size ≤ 100 by omega]
            clear hbb
            go_wp2
            exact HQ.out _ ⟨rfl, rfl, rfl, rfl, rfl, rfl, rfl, rfl, rfl, rfl, rfl, rfl, rfl, rfl, rfl, rfl, rfl, rfl, rfl, rfl⟩
          · by_cases l2 : (xv.size : Int) > 1000
            · obtain rfl : bb = true := by rw [hbb]; simp [show ¬ xv.size ≤ 1000 by omega]
              clear hbb
              go_wp2
              exact HQ.out _ ⟨rfl, rfl, rfl, rfl, rfl, rfl, rfl, rfl, rfl, rfl, rfl, rfl, rfl, rfl, rfl, rfl, rfl, rfl, rfl, rfl⟩
            · obtain rfl : bb = false := by rw [hbb]; simp [show xy.size ≤ 100 by omega, show xv.size ≤ 1000 by omega]
              clear hbb
              go_wp2
              exact HQ.out _ ⟨rfl, rfl, rfl, rfl, rfl, rfl, rfl, rfl, rfl, rfl, rfl, rfl, rfl, rfl, rfl, rfl, rfl, rfl, rfl, rfl⟩
  · by_cases l1 : (xy.size : Int) > 100
    · obtain rfl : bb = true := by rw [hbb]; simp [show ¬ xy.size ≤ 100 by omega]
      clear hbb
      go_wp2
      exact HQ.out _ ⟨rfl, rfl, rfl, rfl, rfl, rfl, rfl, rfl, rfl, rfl, rfl, rfl, rfl, rfl, rfl, rfl, rfl, rfl, rfl, rfl⟩
    · by_cases l2 : (xv.size : Int) > 1000
      · obtain rfl : bb = true := by rw [hbb]; simp [show ¬ xv.size ≤ 1000 by omega]
        clear hbb
        go_wp2
        exact HQ.out _ ⟨rfl, rfl, rfl, rfl, rfl, rfl, rfl, rfl, rfl, rfl, rfl, rfl, rfl, rfl, rfl, rfl, rfl, rfl, rfl, rfl⟩
      · obtain rfl : bb = false := by rw [hbb]; simp [show xy.size ≤ 100 by omega, show xv.size ≤ 1000 by omega]
        clear hbb
        go_wp2
        exact HQ.out _ ⟨rfl, rfl, rfl, rfl, rfl, rfl, rfl, rfl, rfl, rfl, rfl, rfl, rfl, rfl, rfl, rfl, rfl, rfl, rfl, rfl⟩
set_option maxHeartbeats 8000000 in
set_option maxRecDepth 100000 in
theorem rr_r10 {K : Act → World → Prop} {c : Code} (hc : regOf (Tryz.f42.body.getD .skip) 10 = some c) (a : Act) {v : Vrr} {wq : World} {p : Bool} (hF : Frr a v) (h6v : v.v6 = .bool p) (hQ : ∀ a', Frr a' { v with v123 := .bool (!p) } → K a' wq) :
    Code.wp Tryz.prog c (Exit.then K fun _ _ _ => False) a wq := by
  have HQ := hide hQ
  clear hQ
  obtain ⟨t', d'⟩ := a
  obtain ⟨v0, v1, v2, v3, v4, v5, v6, v7, v8, v9, v60, v92, v121, v123, v128, v129, v139, v150⟩ := v
  simp only at h6v HQ
  subst h6v
  obtain ⟨hs1, hd1, q0, q1, q2, q3, q4, q5, q6, q7, q8, q9, q60, q92, q121, q123, q128, q129, q139, q150⟩ := hF
  obtain ⟨u, hu⟩ := frame_rr t' hs1
  simp only at hd1 q0 q1 q2 q3 q4 q5 q6 q7 q8 q9 q60 q92 q121 q123 q128 q129 q139 q150
  subst hu hd1
  have e0 : u 0 = v0 := q0
  have e1 : u 1 = v1 := q1
  have e2 : u 2 = v2 := q2
  have e3 : u 3 = v3 := q3
  have e4 : u 4 = v4 := q4
  have e5 : u 5 = v5 := q5
  have e6 : u 6 = .bool p := q6
  have e7 : u 7 = v7 := q7
  have e8 : u 8 = v8 := q8
  have e9 : u 9 = v9 := q9
  have e60 : u 60 = v60 := q60
  have e92 : u 92 = v92 := q92
  have e121 : u 121 = v121 := q121
  have e123 : u 123 = v123 := q123
  have e128 : u 128 = v128 := q128
  have e129 : u 129 = v129 := q129
  have e139 : u 139 = v139 := q139
  have e150 : u 150 = v150 := q150
  rw [e0, e1, e2, e3, e4, e5, e6, e7, e8, e9, e60, e92, e121, e123, e128, e129, e139, e150]
  clear q0 e0 q1 e1 q2 e2 q3 e3 q4 e4 q5 e5 q6 e6 q7 e7 q8 e8 q9 e9 q60 e60 q92 e92 q121 e121 q123 e123 q128 e128 q129 e129 q139 e139 q150 e150 hs1
  simp only [Tryz.f42, Option.getD_some, regOf] at hc
  injection hc with hc
  subst hc
  generalize u 10 = u10
  generalize u 11 = u11
  generalize u 12 = u12
  generalize u 13 = u13
  generalize u 14 = u14
  generalize u 15 = u15
  generalize u 16 = u16
  generalize u 17 = u17
  generalize u 18 = u18
  generalize u 19 = u19
  generalize u 20 = u20
  generalize u 21 = u21
  generalize u 22 = u22
  generalize u 23 = u23
  generalize u 24 = u24
  generalize u 25 = u25
  generalize u 26 = u26
  generalize u 27 = u27
  generalize u 28 = u28
  generalize u 29 = u29
  generalize u 30 = u30
  generalize u 31 = u31
  generalize u 32 = u32
  generalize u 33 = u33
  generalize u 34 = u34
  generalize u 35 = u35
  generalize u 36 = u36
  generalize u 37 = u37
  generalize u 38 = u38
  generalize u 39 = u39
  generalize u 40 = u40
  generalize u 41 = u41
  generalize u 42 = u42
  generalize u 43 = u43
  generalize u 44 = u44
  generalize u 45 = u45
  generalize u 46 = u46
  generalize u 47 = u47
  generalize u 48 = u48
  generalize u 49 = u49
  generalize u 50 = u50
  generalize u 51 = u51
  generalize u 52 = u52
  generalize u 53 = u53
  generalize u 54 = u54
  generalize u 55 = u55
  generalize u 56 = u56
  generalize u 57 = u57
  generalize u 58 = u58
  generalize u 59 = u59
  generalize u 61 = u61
  generalize u 62 = u62
  generalize u 63 = u63
  generalize u 64 = u64
  generalize u 65 = u65
  generalize u 66 = u66
  generalize u 67 = u67
  generalize u 68 = u68
  generalize u 69 = u69
  generalize u 70 = u70
  generalize u 71 = u71
  generalize u 72 = u72
  generalize u 73 = u73
  generalize u 74 = u74
  generalize u 75 = u75
  generalize u 76 = u76
  generalize u 77 = u77
  generalize u 78 = u78
  generalize u 79 = u79
  generalize u 80 = u80
  generalize u 81 = u81
  generalize u 82 = u82
  generalize u 83 = u83
  generalize u 84 = u84
  generalize u 85 = u85
  generalize u 86 = u86
  generalize u 87 = u87
  generalize u 88 = u88
  generalize u 89 = u89
  generalize u 90 = u90
  generalize u 91 = u91
  generalize u 93 = u93
  generalize u 94 = u94
  generalize u 95 = u95
  generalize u 96 = u96
  generalize u 97 = u97
  generalize u 98 = u98
  generalize u 99 = u99
  generalize u 100 = u100
  generalize u 101 = u101
  generalize u 102 = u102
  generalize u 103 = u103
  generalize u 104 = u104
  generalize u 105 = u105
  generalize u 106 = u106
  generalize u 107 = u107
  generalize u 108 = u108
  generalize u 109 = u109
  generalize u 110 = u110
  generalize u 111 = u111
  generalize u 112 = u112
  generalize u 113 = u113
  generalize u 114 = u114
  generalize u 115 = u115
  generalize u 116 = u116
  generalize u 117 = u117
  generalize u 118 = u118
  generalize u 119 = u119
  generalize u 120 = u120
  generalize u 122 = u122
  generalize u 124 = u124
  generalize u 125 = u125
  generalize u 126 = u126
  generalize u 127 = u127
  generalize u 130 = u130
  generalize u 131 = u131
  generalize u 132 = u132
  generalize u 133 = u133
  generalize u 134 = u134
  generalize u 135 = u135
  generalize u 136 = u136
  generalize u 137 = u137
  generalize u 138 = u138
  generalize u 140 = u140
  generalize u 141 = u141
  generalize u 142 = u142
  generalize u 143 = u143
  generalize u 144 = u144
  generalize u 145 = u145
  generalize u 146 = u146
  generalize u 147 = u147
  generalize u 148 = u148
  generalize u 149 = u149
  generalize u 151 = u151
  generalize u 152 = u152
  generalize u 153 = u153
  generalize u 154 = u154
  clear u
  go_wp2
  exact HQ.out _ ⟨rfl, rfl, rfl, rfl, rfl, rfl, rfl, rfl, rfl, rfl, rfl, rfl, rfl, rfl, rfl, rfl, rfl, rfl, rfl, rfl⟩
set_option maxHeartbeats 8000000 in
set_option maxRecDepth 100000 in
theorem rr_r11 {K : Act → World → Prop} {c : Code} (hc : regOf (Tryz.f42.body.getD .skip) 11 = some c) (a : Act) {v : Vrr} {wq : World} {b : Nat} {xk xs xn xo xa : Int} {xt xm xy xv : ByteArray} {bb : Bool} (hF : Frr a v) (h1v : v.v1 = .pointer (some ⟨b, 0, none⟩)) (hB : wq.heap[b]? = some (.cells #[.int .i64 xk, .string xt, .string xm, .int .i64 xs, .string xy, .string xv, .int .i64 xn, .int .i64 xo, .int .i64 xa] 23 (0, 0))) (hbb : (xn == 0) = bb)
    (hQ : ∀ a', Frr a' { v with v2 := .bool bb } → K a' wq) :
    Code.wp Tryz.prog c (Exit.then K fun _ _ _ => False) a wq := by
  have HQ := hide hQ
  clear hQ
  obtain ⟨t', d'⟩ := a
  obtain ⟨v0, v1, v2, v3, v4, v5, v6, v7, v8, v9, v60, v92, v121, v123, v128, v129, v139, v150⟩ := v
  simp only at h1v HQ
  subst h1v
  obtain ⟨hs1, hd1, q0, q1, q2, q3, q4, q5, q6, q7, q8, q9, q60, q92, q121, q123, q128, q129, q139, q150⟩ := hF
  obtain ⟨u, hu⟩ := frame_rr t' hs1
  simp only at hd1 q0 q1 q2 q3 q4 q5 q6 q7 q8 q9 q60 q92 q121 q123 q128 q129 q139 q150
  subst hu hd1
  have e0 : u 0 = v0 := q0
  have e1 : u 1 = .pointer (some ⟨b, 0, none⟩) := q1
  have e2 : u 2 = v2 := q2
  have e3 : u 3 = v3 := q3
  have e4 : u 4 = v4 := q4
  have e5 : u 5 = v5 := q5
  have e6 : u 6 = v6 := q6
  have e7 : u 7 = v7 := q7
  have e8 : u 8 = v8 := q8
  have e9 : u 9 = v9 := q9
  have e60 : u 60 = v60 := q60
  have e92 : u 92 = v92 := q92
  have e121 : u 121 = v121 := q121
  have e123 : u 123 = v123 := q123
  have e128 : u 128 = v128 := q128
  have e129 : u 129 = v129 := q129
  have e139 : u 139 = v139 := q139
  have e150 : u 150 = v150 := q150
  rw [e0, e1, e2, e3, e4, e5, e6, e7, e8, e9, e60, e92, e121, e123, e128, e129, e139, e150]
  clear q0 e0 q1 e1 q2 e2 q3 e3 q4 e4 q5 e5 q6 e6 q7 e7 q8 e8 q9 e9 q60 e60 q92 e92 q121 e121 q123 e123 q128 e128 q129 e129 q139 e139 q150 e150 hs1
  simp only [Tryz.f42, Option.getD_some, regOf] at hc
  injection hc with hc
  subst hc
  generalize u 10 = u10
  generalize u 11 = u11
  generalize u 12 = u12
  generalize u 13 = u13
  generalize u 14 = u14
  generalize u 15 = u15
  generalize u 16 = u16
  generalize u 17 = u17
  generalize u 18 = u18
  generalize u 19 = u19
  generalize u 20 = u20
  generalize u 21 = u21
  generalize u 22 = u22
  generalize u 23 = u23
  generalize u 24 = u24
  generalize u 25 = u25
  generalize u 26 = u26
  generalize u 27 = u27
  generalize u 28 = u28
  generalize u 29 = u29
  generalize u 30 = u30
  generalize u 31 = u31
  generalize u 32 = u32
  generalize u 33 = u33
  generalize u 34 = u34
  generalize u 35 = u35
  generalize u 36 = u36
  generalize u 37 = u37
  generalize u 38 = u38
  generalize u 39 = u39
  generalize u 40 = u40
  generalize u 41 = u41
  generalize u 42 = u42
  generalize u 43 = u43
  generalize u 44 = u44
  generalize u 45 = u45
  generalize u 46 = u46
  generalize u 47 = u47
  generalize u 48 = u48
  generalize u 49 = u49
  generalize u 50 = u50
  generalize u 51 = u51
  generalize u 52 = u52
  generalize u 53 = u53
  generalize u 54 = u54
  generalize u 55 = u55
  generalize u 56 = u56
  generalize u 57 = u57
  generalize u 58 = u58
  generalize u 59 = u59
  generalize u 61 = u61
  generalize u 62 = u62
  generalize u 63 = u63
  generalize u 64 = u64
  generalize u 65 = u65
  generalize u 66 = u66
  generalize u 67 = u67
  generalize u 68 = u68
  generalize u 69 = u69
  generalize u 70 = u70
  generalize u 71 = u71
  generalize u 72 = u72
  generalize u 73 = u73
  generalize u 74 = u74
  generalize u 75 = u75
  generalize u 76 = u76
  generalize u 77 = u77
  generalize u 78 = u78
  generalize u 79 = u79
  generalize u 80 = u80
  generalize u 81 = u81
  generalize u 82 = u82
  generalize u 83 = u83
  generalize u 84 = u84
  generalize u 85 = u85
  generalize u 86 = u86
  generalize u 87 = u87
  generalize u 88 = u88
  generalize u 89 = u89
  generalize u 90 = u90
  generalize u 91 = u91
  generalize u 93 = u93
  generalize u 94 = u94
  generalize u 95 = u95
  generalize u 96 = u96
  generalize u 97 = u97
  generalize u 98 = u98
  generalize u 99 = u99
  generalize u 100 = u100
  generalize u 101 = u101
  generalize u 102 = u102
  generalize u 103 = u103
  generalize u 104 = u104
  generalize u 105 = u105
  generalize u 106 = u106
  generalize u 107 = u107
  generalize u 108 = u108
  generalize u 109 = u109
  generalize u 110 = u110
  generalize u 111 = u111
  generalize u 112 = u112
  generalize u 113 = u113
  generalize u 114 = u114
  generalize u 115 = u115
  generalize u 116 = u116
  generalize u 117 = u117
  generalize u 118 = u118
  generalize u 119 = u119
  generalize u 120 = u120
  generalize u 122 = u122
  generalize u 124 = u124
  generalize u 125 = u125
  generalize u 126 = u126
  generalize u 127 = u127
  generalize u 130 = u130
  generalize u 131 = u131
  generalize u 132 = u132
  generalize u 133 = u133
  generalize u 134 = u134
  generalize u 135 = u135
  generalize u 136 = u136
  generalize u 137 = u137
  generalize u 138 = u138
  generalize u 140 = u140
  generalize u 141 = u141
  generalize u 142 = u142
  generalize u 143 = u143
  generalize u 144 = u144
  generalize u 145 = u145
  generalize u 146 = u146
  generalize u 147 = u147
  generalize u 148 = u148
  generalize u 149 = u149
  generalize u 151 = u151
  generalize u 152 = u152
  generalize u 153 = u153
  generalize u 154 = u154
  clear u
  have c6 := box_cell hB 6 rfl
  clear hB
  go_wp2
  exact HQ.out _ ⟨rfl, rfl, rfl, rfl, rfl, rfl, rfl, rfl, rfl, rfl, rfl, rfl, rfl, rfl, rfl, rfl, rfl, rfl, rfl, rfl⟩
set_option maxHeartbeats 8000000 in
set_option maxRecDepth 100000 in
theorem rr_r12 {K : Act → World → Prop} {c : Code} (hc : regOf (Tryz.f42.body.getD .skip) 12 = some c) (a : Act) {v : Vrr} {wq : World} {b : Nat} {xk xs xn xo xa : Int} {xt xm xy xv : ByteArray} (hF : Frr a v) (h1v : v.v1 = .pointer (some ⟨b, 0, none⟩)) (hB : wq.heap[b]? = some (.cells #[.int .i64 xk, .string xt, .string xm, .int .i64 xs, .string xy, .string xv, .int .i64 xn, .int .i64 xo, .int .i64 xa] 23 (0, 0)))
    (hQ : ∀ a', Frr a' { v with v128 := .int .i64 xk } → K a' wq) :
    Code.wp Tryz.prog c (Exit.then K fun _ _ _ => False) a wq := by
  have HQ := hide hQ
  clear hQ
  obtain ⟨t', d'⟩ := a
  obtain ⟨v0, v1, v2, v3, v4, v5, v6, v7, v8, v9, v60, v92, v121, v123, v128, v129, v139, v150⟩ := v
  simp only at h1v HQ
  subst h1v
  obtain ⟨hs1, hd1, q0, q1, q2, q3, q4, q5, q6, q7, q8, q9, q60, q92, q121, q123, q128, q129, q139, q150⟩ := hF
  obtain ⟨u, hu⟩ := frame_rr t' hs1
  simp only at hd1 q0 q1 q2 q3 q4 q5 q6 q7 q8 q9 q60 q92 q121 q123 q128 q129 q139 q150
  subst hu hd1
  have e0 : u 0 = v0 := q0
  have e1 : u 1 = .pointer (some ⟨b, 0, none⟩) := q1
  have e2 : u 2 = v2 := q2
  have e3 : u 3 = v3 := q3
  have e4 : u 4 = v4 := q4
  have e5 : u 5 = v5 := q5
  have e6 : u 6 = v6 := q6
  have e7 : u 7 = v7 := q7
  have e8 : u 8 = v8 := q8
  have e9 : u 9 = v9 := q9
  have e60 : u 60 = v60 := q60
  have e92 : u 92 = v92 := q92
  have e121 : u 121 = v121 := q121
  have e123 : u 123 = v123 := q123
  have e128 : u 128 = v128 := q128
  have e129 : u 129 = v129 := q129
  have e139 : u 139 = v139 := q139
  have e150 : u 150 = v150 := q150
  rw [e0, e1, e2, e3, e4, e5, e6, e7, e8, e9, e60, e92, e121, e123, e128, e129, e139, e150]
  clear q0 e0 q1 e1 q2 e2 q3 e3 q4 e4 q5 e5 q6 e6 q7 e7 q8 e8 q9 e9 q60 e60 q92 e92 q121 e121 q123 e123 q128 e128 q129 e129 q139 e139 q150 e150 hs1
  simp only [Tryz.f42, Option.getD_some, regOf] at hc
  injection hc with hc
  subst hc
  generalize u 10 = u10
  generalize u 11 = u11
  generalize u 12 = u12
  generalize u 13 = u13
  generalize u 14 = u14
  generalize u 15 = u15
  generalize u 16 = u16
  generalize u 17 = u17
  generalize u 18 = u18
  generalize u 19 = u19
  generalize u 20 = u20
  generalize u 21 = u21
  generalize u 22 = u22
  generalize u 23 = u23
  generalize u 24 = u24
  generalize u 25 = u25
  generalize u 26 = u26
  generalize u 27 = u27
  generalize u 28 = u28
  generalize u 29 = u29
  generalize u 30 = u30
  generalize u 31 = u31
  generalize u 32 = u32
  generalize u 33 = u33
  generalize u 34 = u34
  generalize u 35 = u35
  generalize u 36 = u36
  generalize u 37 = u37
  generalize u 38 = u38
  generalize u 39 = u39
  generalize u 40 = u40
  generalize u 41 = u41
  generalize u 42 = u42
  generalize u 43 = u43
  generalize u 44 = u44
  generalize u 45 = u45
  generalize u 46 = u46
  generalize u 47 = u47
  generalize u 48 = u48
  generalize u 49 = u49
  generalize u 50 = u50
  generalize u 51 = u51
  generalize u 52 = u52
  generalize u 53 = u53
  generalize u 54 = u54
  generalize u 55 = u55
  generalize u 56 = u56
  generalize u 57 = u57
  generalize u 58 = u58
  generalize u 59 = u59
  generalize u 61 = u61
  generalize u 62 = u62
  generalize u 63 = u63
  generalize u 64 = u64
  generalize u 65 = u65
  generalize u 66 = u66
  generalize u 67 = u67
  generalize u 68 = u68
  generalize u 69 = u69
  generalize u 70 = u70
  generalize u 71 = u71
  generalize u 72 = u72
  generalize u 73 = u73
  generalize u 74 = u74
  generalize u 75 = u75
  generalize u 76 = u76
  generalize u 77 = u77
  generalize u 78 = u78
  generalize u 79 = u79
  generalize u 80 = u80
  generalize u 81 = u81
  generalize u 82 = u82
  generalize u 83 = u83
  generalize u 84 = u84
  generalize u 85 = u85
  generalize u 86 = u86
  generalize u 87 = u87
  generalize u 88 = u88
  generalize u 89 = u89
  generalize u 90 = u90
  generalize u 91 = u91
  generalize u 93 = u93
  generalize u 94 = u94
  generalize u 95 = u95
  generalize u 96 = u96
  generalize u 97 = u97
  generalize u 98 = u98
  generalize u 99 = u99
  generalize u 100 = u100
  generalize u 101 = u101
  generalize u 102 = u102
  generalize u 103 = u103
  generalize u 104 = u104
  generalize u 105 = u105
  generalize u 106 = u106
  generalize u 107 = u107
  generalize u 108 = u108
  generalize u 109 = u109
  generalize u 110 = u110
  generalize u 111 = u111
  generalize u 112 = u112
  generalize u 113 = u113
  generalize u 114 = u114
  generalize u 115 = u115
  generalize u 116 = u116
  generalize u 117 = u117
  generalize u 118 = u118
  generalize u 119 = u119
  generalize u 120 = u120
  generalize u 122 = u122
  generalize u 124 = u124
  generalize u 125 = u125
  generalize u 126 = u126
  generalize u 127 = u127
  generalize u 130 = u130
  generalize u 131 = u131
  generalize u 132 = u132
  generalize u 133 = u133
  generalize u 134 = u134
  generalize u 135 = u135
  generalize u 136 = u136
  generalize u 137 = u137
  generalize u 138 = u138
  generalize u 140 = u140
  generalize u 141 = u141
  generalize u 142 = u142
  generalize u 143 = u143
  generalize u 144 = u144
  generalize u 145 = u145
  generalize u 146 = u146
  generalize u 147 = u147
  generalize u 148 = u148
  generalize u 149 = u149
  generalize u 151 = u151
  generalize u 152 = u152
  generalize u 153 = u153
  generalize u 154 = u154
  clear u
  have c0 := box_cell hB 0 rfl
  clear hB
  go_wp2
  exact HQ.out _ ⟨rfl, rfl, rfl, rfl, rfl, rfl, rfl, rfl, rfl, rfl, rfl, rfl, rfl, rfl, rfl, rfl, rfl, rfl, rfl, rfl⟩
set_option maxHeartbeats 8000000 in
set_option maxRecDepth 100000 in
theorem rr_r13 {K : Act → World → Prop} {c : Code} (hc : regOf (Tryz.f42.body.getD .skip) 13 = some c) (a : Act) {v : Vrr} {wq : World} {xk : Int} {bb : Bool} (hF : Frr a v) (h128v : v.v128 = .int .i64 xk) (hbb : (xk == 5) = bb)
    (hQ : ∀ a', Frr a' { v with v129 := .bool bb } → K a' wq) :
    Code.wp Tryz.prog c (Exit.then K fun _ _ _ => False) a wq := by
  have HQ := hide hQ
  clear hQ
  obtain ⟨t', d'⟩ := a
  obtain ⟨v0, v1, v2, v3, v4, v5, v6, v7, v8, v9, v60, v92, v121, v123, v128, v129, v139, v150⟩ := v
  simp only at h128v HQ
  subst h128v
  obtain ⟨hs1, hd1, q0, q1, q2, q3, q4, q5, q6, q7, q8, q9, q60, q92, q121, q123, q128, q129, q139, q150⟩ := hF
  obtain ⟨u, hu⟩ := frame_rr t' hs1
  simp only at hd1 q0 q1 q2 q3 q4 q5 q6 q7 q8 q9 q60 q92 q121 q123 q128 q129 q139 q150
  subst hu hd1
  have e0 : u 0 = v0 := q0
  have e1 : u 1 = v1 := q1
  have e2 : u 2 = v2 := q2
  have e3 : u 3 = v3 := q3
  have e4 : u 4 = v4 := q4
  have e5 : u 5 = v5 := q5
  have e6 : u 6 = v6 := q6
  have e7 : u 7 = v7 := q7
  have e8 : u 8 = v8 := q8
  have e9 : u 9 = v9 := q9
  have e60 : u 60 = v60 := q60
  have e92 : u 92 = v92 := q92
  have e121 : u 121 = v121 := q121
  have e123 : u 123 = v123 := q123
  have e128 : u 128 = .int .i64 xk := q128
  have e129 : u 129 = v129 := q129
  have e139 : u 139 = v139 := q139
  have e150 : u 150 = v150 := q150
  rw [e0, e1, e2, e3, e4, e5, e6, e7, e8, e9, e60, e92, e121, e123, e128, e129, e139, e150]
  clear q0 e0 q1 e1 q2 e2 q3 e3 q4 e4 q5 e5 q6 e6 q7 e7 q8 e8 q9 e9 q60 e60 q92 e92 q121 e121 q123 e123 q128 e128 q129 e129 q139 e139 q150 e150 hs1
  simp only [Tryz.f42, Option.getD_some, regOf] at hc
  injection hc with hc
  subst hc
  generalize u 10 = u10
  generalize u 11 = u11
  generalize u 12 = u12
  generalize u 13 = u13
  generalize u 14 = u14
  generalize u 15 = u15
  generalize u 16 = u16
  generalize u 17 = u17
  generalize u 18 = u18
  generalize u 19 = u19
  generalize u 20 = u20
  generalize u 21 = u21
  generalize u 22 = u22
  generalize u 23 = u23
  generalize u 24 = u24
  generalize u 25 = u25
  generalize u 26 = u26
  generalize u 27 = u27
  generalize u 28 = u28
  generalize u 29 = u29
  generalize u 30 = u30
  generalize u 31 = u31
  generalize u 32 = u32
  generalize u 33 = u33
  generalize u 34 = u34
  generalize u 35 = u35
  generalize u 36 = u36
  generalize u 37 = u37
  generalize u 38 = u38
  generalize u 39 = u39
  generalize u 40 = u40
  generalize u 41 = u41
  generalize u 42 = u42
  generalize u 43 = u43
  generalize u 44 = u44
  generalize u 45 = u45
  generalize u 46 = u46
  generalize u 47 = u47
  generalize u 48 = u48
  generalize u 49 = u49
  generalize u 50 = u50
  generalize u 51 = u51
  generalize u 52 = u52
  generalize u 53 = u53
  generalize u 54 = u54
  generalize u 55 = u55
  generalize u 56 = u56
  generalize u 57 = u57
  generalize u 58 = u58
  generalize u 59 = u59
  generalize u 61 = u61
  generalize u 62 = u62
  generalize u 63 = u63
  generalize u 64 = u64
  generalize u 65 = u65
  generalize u 66 = u66
  generalize u 67 = u67
  generalize u 68 = u68
  generalize u 69 = u69
  generalize u 70 = u70
  generalize u 71 = u71
  generalize u 72 = u72
  generalize u 73 = u73
  generalize u 74 = u74
  generalize u 75 = u75
  generalize u 76 = u76
  generalize u 77 = u77
  generalize u 78 = u78
  generalize u 79 = u79
  generalize u 80 = u80
  generalize u 81 = u81
  generalize u 82 = u82
  generalize u 83 = u83
  generalize u 84 = u84
  generalize u 85 = u85
  generalize u 86 = u86
  generalize u 87 = u87
  generalize u 88 = u88
  generalize u 89 = u89
  generalize u 90 = u90
  generalize u 91 = u91
  generalize u 93 = u93
  generalize u 94 = u94
  generalize u 95 = u95
  generalize u 96 = u96
  generalize u 97 = u97
  generalize u 98 = u98
  generalize u 99 = u99
  generalize u 100 = u100
  generalize u 101 = u101
  generalize u 102 = u102
  generalize u 103 = u103
  generalize u 104 = u104
  generalize u 105 = u105
  generalize u 106 = u106
  generalize u 107 = u107
  generalize u 108 = u108
  generalize u 109 = u109
  generalize u 110 = u110
  generalize u 111 = u111
  generalize u 112 = u112
  generalize u 113 = u113
  generalize u 114 = u114
  generalize u 115 = u115
  generalize u 116 = u116
  generalize u 117 = u117
  generalize u 118 = u118
  generalize u 119 = u119
  generalize u 120 = u120
  generalize u 122 = u122
  generalize u 124 = u124
  generalize u 125 = u125
  generalize u 126 = u126
  generalize u 127 = u127
  generalize u 130 = u130
  generalize u 131 = u131
  generalize u 132 = u132
  generalize u 133 = u133
  generalize u 134 = u134
  generalize u 135 = u135
  generalize u 136 = u136
  generalize u 137 = u137
  generalize u 138 = u138
  generalize u 140 = u140
  generalize u 141 = u141
  generalize u 142 = u142
  generalize u 143 = u143
  generalize u 144 = u144
  generalize u 145 = u145
  generalize u 146 = u146
  generalize u 147 = u147
  generalize u 148 = u148
  generalize u 149 = u149
  generalize u 151 = u151
  generalize u 152 = u152
  generalize u 153 = u153
  generalize u 154 = u154
  clear u
  go_wp2
  exact HQ.out _ ⟨rfl, rfl, rfl, rfl, rfl, rfl, rfl, rfl, rfl, rfl, rfl, rfl, rfl, rfl, rfl, rfl, rfl, rfl, rfl, rfl⟩
set_option maxHeartbeats 8000000 in
set_option maxRecDepth 100000 in
theorem rr_r15 {K : Act → World → Prop} {c : Code} (hc : regOf (Tryz.f42.body.getD .skip) 15 = some c) (a : Act) {v : Vrr} {wq : World} {xk : Int} {bb : Bool} (hF : Frr a v) (h128v : v.v128 = .int .i64 xk) (hbb : (xk == 10) = bb)
    (hQ : ∀ a', Frr a' { v with v139 := .bool bb } → K a' wq) :
    Code.wp Tryz.prog c (Exit.then K fun _ _ _ => False) a wq := by
  have HQ := hide hQ
  clear hQ
  obtain ⟨t', d'⟩ := a
  obtain ⟨v0, v1, v2, v3, v4, v5, v6, v7, v8, v9, v60, v92, v121, v123, v128, v129, v139, v150⟩ := v
  simp only at h128v HQ
  subst h128v
  obtain ⟨hs1, hd1, q0, q1, q2, q3, q4, q5, q6, q7, q8, q9, q60, q92, q121, q123, q128, q129, q139, q150⟩ := hF
  obtain ⟨u, hu⟩ := frame_rr t' hs1
  simp only at hd1 q0 q1 q2 q3 q4 q5 q6 q7 q8 q9 q60 q92 q121 q123 q128 q129 q139 q150
  subst hu hd1
  have e0 : u 0 = v0 := q0
  have e1 : u 1 = v1 := q1
  have e2 : u 2 = v2 := q2
  have e3 : u 3 = v3 := q3
  have e4 : u 4 = v4 := q4
  have e5 : u 5 = v5 := q5
  have e6 : u 6 = v6 := q6
  have e7 : u 7 = v7 := q7
  have e8 : u 8 = v8 := q8
  have e9 : u 9 = v9 := q9
  have e60 : u 60 = v60 := q60
  have e92 : u 92 = v92 := q92
  have e121 : u 121 = v121 := q121
  have e123 : u 123 = v123 := q123
  have e128 : u 128 = .int .i64 xk := q128
  have e129 : u 129 = v129 := q129
  have e139 : u 139 = v139 := q139
  have e150 : u 150 = v150 := q150
  rw [e0, e1, e2, e3, e4, e5, e6, e7, e8, e9, e60, e92, e121, e123, e128, e129, e139, e150]
  clear q0 e0 q1 e1 q2 e2 q3 e3 q4 e4 q5 e5 q6 e6 q7 e7 q8 e8 q9 e9 q60 e60 q92 e92 q121 e121 q123 e123 q128 e128 q129 e129 q139 e139 q150 e150 hs1
  simp only [Tryz.f42, Option.getD_some, regOf] at hc
  injection hc with hc
  subst hc
  generalize u 10 = u10
  generalize u 11 = u11
  generalize u 12 = u12
  generalize u 13 = u13
  generalize u 14 = u14
  generalize u 15 = u15
  generalize u 16 = u16
  generalize u 17 = u17
  generalize u 18 = u18
  generalize u 19 = u19
  generalize u 20 = u20
  generalize u 21 = u21
  generalize u 22 = u22
  generalize u 23 = u23
  generalize u 24 = u24
  generalize u 25 = u25
  generalize u 26 = u26
  generalize u 27 = u27
  generalize u 28 = u28
  generalize u 29 = u29
  generalize u 30 = u30
  generalize u 31 = u31
  generalize u 32 = u32
  generalize u 33 = u33
  generalize u 34 = u34
  generalize u 35 = u35
  generalize u 36 = u36
  generalize u 37 = u37
  generalize u 38 = u38
  generalize u 39 = u39
  generalize u 40 = u40
  generalize u 41 = u41
  generalize u 42 = u42
  generalize u 43 = u43
  generalize u 44 = u44
  generalize u 45 = u45
  generalize u 46 = u46
  generalize u 47 = u47
  generalize u 48 = u48
  generalize u 49 = u49
  generalize u 50 = u50
  generalize u 51 = u51
  generalize u 52 = u52
  generalize u 53 = u53
  generalize u 54 = u54
  generalize u 55 = u55
  generalize u 56 = u56
  generalize u 57 = u57
  generalize u 58 = u58
  generalize u 59 = u59
  generalize u 61 = u61
  generalize u 62 = u62
  generalize u 63 = u63
  generalize u 64 = u64
  generalize u 65 = u65
  generalize u 66 = u66
  generalize u 67 = u67
  generalize u 68 = u68
  generalize u 69 = u69
  generalize u 70 = u70
  generalize u 71 = u71
  generalize u 72 = u72
  generalize u 73 = u73
  generalize u 74 = u74
  generalize u 75 = u75
  generalize u 76 = u76
  generalize u 77 = u77
  generalize u 78 = u78
  generalize u 79 = u79
  generalize u 80 = u80
  generalize u 81 = u81
  generalize u 82 = u82
  generalize u 83 = u83
  generalize u 84 = u84
  generalize u 85 = u85
  generalize u 86 = u86
  generalize u 87 = u87
  generalize u 88 = u88
  generalize u 89 = u89
  generalize u 90 = u90
  generalize u 91 = u91
  generalize u 93 = u93
  generalize u 94 = u94
  generalize u 95 = u95
  generalize u 96 = u96
  generalize u 97 = u97
  generalize u 98 = u98
  generalize u 99 = u99
  generalize u 100 = u100
  generalize u 101 = u101
  generalize u 102 = u102
  generalize u 103 = u103
  generalize u 104 = u104
  generalize u 105 = u105
  generalize u 106 = u106
  generalize u 107 = u107
  generalize u 108 = u108
  generalize u 109 = u109
  generalize u 110 = u110
  generalize u 111 = u111
  generalize u 112 = u112
  generalize u 113 = u113
  generalize u 114 = u114
  generalize u 115 = u115
  generalize u 116 = u116
  generalize u 117 = u117
  generalize u 118 = u118
  generalize u 119 = u119
  generalize u 120 = u120
  generalize u 122 = u122
  generalize u 124 = u124
  generalize u 125 = u125
  generalize u 126 = u126
  generalize u 127 = u127
  generalize u 130 = u130
  generalize u 131 = u131
  generalize u 132 = u132
  generalize u 133 = u133
  generalize u 134 = u134
  generalize u 135 = u135
  generalize u 136 = u136
  generalize u 137 = u137
  generalize u 138 = u138
  generalize u 140 = u140
  generalize u 141 = u141
  generalize u 142 = u142
  generalize u 143 = u143
  generalize u 144 = u144
  generalize u 145 = u145
  generalize u 146 = u146
  generalize u 147 = u147
  generalize u 148 = u148
  generalize u 149 = u149
  generalize u 151 = u151
  generalize u 152 = u152
  generalize u 153 = u153
  generalize u 154 = u154
  clear u
  go_wp2
  exact HQ.out _ ⟨rfl, rfl, rfl, rfl, rfl, rfl, rfl, rfl, rfl, rfl, rfl, rfl, rfl, rfl, rfl, rfl, rfl, rfl, rfl, rfl⟩
set_option maxHeartbeats 8000000 in
set_option maxRecDepth 100000 in
theorem rr_r16 {K : Act → World → Prop} {c : Code} (hc : regOf (Tryz.f42.body.getD .skip) 16 = some c) (a : Act) {v : Vrr} {wq : World} {xk : Int} {bb : Bool} (hF : Frr a v) (h128v : v.v128 = .int .i64 xk) (hbb : (xk == 11) = bb)
    (hQ : ∀ a', Frr a' { v with v139 := .bool bb } → K a' wq) :
    Code.wp Tryz.prog c (Exit.then K fun _ _ _ => False) a wq := by
  have HQ := hide hQ
  clear hQ
  obtain ⟨t', d'⟩ := a
  obtain ⟨v0, v1, v2, v3, v4, v5, v6, v7, v8, v9, v60, v92, v121, v123, v128, v129, v139, v150⟩ := v
  simp only at h128v HQ
  subst h128v
  obtain ⟨hs1, hd1, q0, q1, q2, q3, q4, q5, q6, q7, q8, q9, q60, q92, q121, q123, q128, q129, q139, q150⟩ := hF
  obtain ⟨u, hu⟩ := frame_rr t' hs1
  simp only at hd1 q0 q1 q2 q3 q4 q5 q6 q7 q8 q9 q60 q92 q121 q123 q128 q129 q139 q150
  subst hu hd1
  have e0 : u 0 = v0 := q0
  have e1 : u 1 = v1 := q1
  have e2 : u 2 = v2 := q2
  have e3 : u 3 = v3 := q3
  have e4 : u 4 = v4 := q4
  have e5 : u 5 = v5 := q5
  have e6 : u 6 = v6 := q6
  have e7 : u 7 = v7 := q7
  have e8 : u 8 = v8 := q8
  have e9 : u 9 = v9 := q9
  have e60 : u 60 = v60 := q60
  have e92 : u 92 = v92 := q92
  have e121 : u 121 = v121 := q121
  have e123 : u 123 = v123 := q123
  have e128 : u 128 = .int .i64 xk := q128
  have e129 : u 129 = v129 := q129
  have e139 : u 139 = v139 := q139
  have e150 : u 150 = v150 := q150
  rw [e0, e1, e2, e3, e4, e5, e6, e7, e8, e9, e60, e92, e121, e123, e128, e129, e139, e150]
  clear q0 e0 q1 e1 q2 e2 q3 e3 q4 e4 q5 e5 q6 e6 q7 e7 q8 e8 q9 e9 q60 e60 q92 e92 q121 e121 q123 e123 q128 e128 q129 e129 q139 e139 q150 e150 hs1
  simp only [Tryz.f42, Option.getD_some, regOf] at hc
  injection hc with hc
  subst hc
  generalize u 10 = u10
  generalize u 11 = u11
  generalize u 12 = u12
  generalize u 13 = u13
  generalize u 14 = u14
  generalize u 15 = u15
  generalize u 16 = u16
  generalize u 17 = u17
  generalize u 18 = u18
  generalize u 19 = u19
  generalize u 20 = u20
  generalize u 21 = u21
  generalize u 22 = u22
  generalize u 23 = u23
  generalize u 24 = u24
  generalize u 25 = u25
  generalize u 26 = u26
  generalize u 27 = u27
  generalize u 28 = u28
  generalize u 29 = u29
  generalize u 30 = u30
  generalize u 31 = u31
  generalize u 32 = u32
  generalize u 33 = u33
  generalize u 34 = u34
  generalize u 35 = u35
  generalize u 36 = u36
  generalize u 37 = u37
  generalize u 38 = u38
  generalize u 39 = u39
  generalize u 40 = u40
  generalize u 41 = u41
  generalize u 42 = u42
  generalize u 43 = u43
  generalize u 44 = u44
  generalize u 45 = u45
  generalize u 46 = u46
  generalize u 47 = u47
  generalize u 48 = u48
  generalize u 49 = u49
  generalize u 50 = u50
  generalize u 51 = u51
  generalize u 52 = u52
  generalize u 53 = u53
  generalize u 54 = u54
  generalize u 55 = u55
  generalize u 56 = u56
  generalize u 57 = u57
  generalize u 58 = u58
  generalize u 59 = u59
  generalize u 61 = u61
  generalize u 62 = u62
  generalize u 63 = u63
  generalize u 64 = u64
  generalize u 65 = u65
  generalize u 66 = u66
  generalize u 67 = u67
  generalize u 68 = u68
  generalize u 69 = u69
  generalize u 70 = u70
  generalize u 71 = u71
  generalize u 72 = u72
  generalize u 73 = u73
  generalize u 74 = u74
  generalize u 75 = u75
  generalize u 76 = u76
  generalize u 77 = u77
  generalize u 78 = u78
  generalize u 79 = u79
  generalize u 80 = u80
  generalize u 81 = u81
  generalize u 82 = u82
  generalize u 83 = u83
  generalize u 84 = u84
  generalize u 85 = u85
  generalize u 86 = u86
  generalize u 87 = u87
  generalize u 88 = u88
  generalize u 89 = u89
  generalize u 90 = u90
  generalize u 91 = u91
  generalize u 93 = u93
  generalize u 94 = u94
  generalize u 95 = u95
  generalize u 96 = u96
  generalize u 97 = u97
  generalize u 98 = u98
  generalize u 99 = u99
  generalize u 100 = u100
  generalize u 101 = u101
  generalize u 102 = u102
  generalize u 103 = u103
  generalize u 104 = u104
  generalize u 105 = u105
  generalize u 106 = u106
  generalize u 107 = u107
  generalize u 108 = u108
  generalize u 109 = u109
  generalize u 110 = u110
  generalize u 111 = u111
  generalize u 112 = u112
  generalize u 113 = u113
  generalize u 114 = u114
  generalize u 115 = u115
  generalize u 116 = u116
  generalize u 117 = u117
  generalize u 118 = u118
  generalize u 119 = u119
  generalize u 120 = u120
  generalize u 122 = u122
  generalize u 124 = u124
  generalize u 125 = u125
  generalize u 126 = u126
  generalize u 127 = u127
  generalize u 130 = u130
  generalize u 131 = u131
  generalize u 132 = u132
  generalize u 133 = u133
  generalize u 134 = u134
  generalize u 135 = u135
  generalize u 136 = u136
  generalize u 137 = u137
  generalize u 138 = u138
  generalize u 140 = u140
  generalize u 141 = u141
  generalize u 142 = u142
  generalize u 143 = u143
  generalize u 144 = u144
  generalize u 145 = u145
  generalize u 146 = u146
  generalize u 147 = u147
  generalize u 148 = u148
  generalize u 149 = u149
  generalize u 151 = u151
  generalize u 152 = u152
  generalize u 153 = u153
  generalize u 154 = u154
  clear u
  go_wp2
  exact HQ.out _ ⟨rfl, rfl, rfl, rfl, rfl, rfl, rfl, rfl, rfl, rfl, rfl, rfl, rfl, rfl, rfl, rfl, rfl, rfl, rfl, rfl⟩
set_option maxHeartbeats 8000000 in
set_option maxRecDepth 100000 in
theorem rr_r18 {K : Act → World → Prop} {c : Code} (hc : regOf (Tryz.f42.body.getD .skip) 18 = some c) (a : Act) {v : Vrr} {wq : World} {xk : Int} {bb : Bool} (hF : Frr a v) (h128v : v.v128 = .int .i64 xk) (hbb : (xk == 3) = bb)
    (hQ : ∀ a', Frr a' { v with v150 := .bool bb } → K a' wq) :
    Code.wp Tryz.prog c (Exit.then K fun _ _ _ => False) a wq := by
  have HQ := hide hQ
  clear hQ
  obtain ⟨t', d'⟩ := a
  obtain ⟨v0, v1, v2, v3, v4, v5, v6, v7, v8, v9, v60, v92, v121, v123, v128, v129, v139, v150⟩ := v
  simp only at h128v HQ
  subst h128v
  obtain ⟨hs1, hd1, q0, q1, q2, q3, q4, q5, q6, q7, q8, q9, q60, q92, q121, q123, q128, q129, q139, q150⟩ := hF
  obtain ⟨u, hu⟩ := frame_rr t' hs1
  simp only at hd1 q0 q1 q2 q3 q4 q5 q6 q7 q8 q9 q60 q92 q121 q123 q128 q129 q139 q150
  subst hu hd1
  have e0 : u 0 = v0 := q0
  have e1 : u 1 = v1 := q1
  have e2 : u 2 = v2 := q2
  have e3 : u 3 = v3 := q3
  have e4 : u 4 = v4 := q4
  have e5 : u 5 = v5 := q5
  have e6 : u 6 = v6 := q6
  have e7 : u 7 = v7 := q7
  have e8 : u 8 = v8 := q8
  have e9 : u 9 = v9 := q9
  have e60 : u 60 = v60 := q60
  have e92 : u 92 = v92 := q92
  have e121 : u 121 = v121 := q121
  have e123 : u 123 = v123 := q123
  have e128 : u 128 = .int .i64 xk := q128
  have e129 : u 129 = v129 := q129
  have e139 : u 139 = v139 := q139
  have e150 : u 150 = v150 := q150
  rw [e0, e1, e2, e3, e4, e5, e6, e7, e8, e9, e60, e92, e121, e123, e128, e129, e139, e150]
  clear q0 e0 q1 e1 q2 e2 q3 e3 q4 e4 q5 e5 q6 e6 q7 e7 q8 e8 q9 e9 q60 e60 q92 e92 q121 e121 q123 e123 q128 e128 q129 e129 q139 e139 q150 e150 hs1
  simp only [Tryz.f42, Option.getD_some, regOf] at hc
  injection hc with hc
  subst hc
  generalize u 10 = u10
  generalize u 11 = u11
  generalize u 12 = u12
  generalize u 13 = u13
  generalize u 14 = u14
  generalize u 15 = u15
  generalize u 16 = u16
  generalize u 17 = u17
  generalize u 18 = u18
  generalize u 19 = u19
  generalize u 20 = u20
  generalize u 21 = u21
  generalize u 22 = u22
  generalize u 23 = u23
  generalize u 24 = u24
  generalize u 25 = u25
  generalize u 26 = u26
  generalize u 27 = u27
  generalize u 28 = u28
  generalize u 29 = u29
  generalize u 30 = u30
  generalize u 31 = u31
  generalize u 32 = u32
  generalize u 33 = u33
  generalize u 34 = u34
  generalize u 35 = u35
  generalize u 36 = u36
  generalize u 37 = u37
  generalize u 38 = u38
  generalize u 39 = u39
  generalize u 40 = u40
  generalize u 41 = u41
  generalize u 42 = u42
  generalize u 43 = u43
  generalize u 44 = u44
  generalize u 45 = u45
  generalize u 46 = u46
  generalize u 47 = u47
  generalize u 48 = u48
  generalize u 49 = u49
  generalize u 50 = u50
  generalize u 51 = u51
  generalize u 52 = u52
  generalize u 53 = u53
  generalize u 54 = u54
  generalize u 55 = u55
  generalize u 56 = u56
  generalize u 57 = u57
  generalize u 58 = u58
  generalize u 59 = u59
  generalize u 61 = u61
  generalize u 62 = u62
  generalize u 63 = u63
  generalize u 64 = u64
  generalize u 65 = u65
  generalize u 66 = u66
  generalize u 67 = u67
  generalize u 68 = u68
  generalize u 69 = u69
  generalize u 70 = u70
  generalize u 71 = u71
  generalize u 72 = u72
  generalize u 73 = u73
  generalize u 74 = u74
  generalize u 75 = u75
  generalize u 76 = u76
  generalize u 77 = u77
  generalize u 78 = u78
  generalize u 79 = u79
  generalize u 80 = u80
  generalize u 81 = u81
  generalize u 82 = u82
  generalize u 83 = u83
  generalize u 84 = u84
  generalize u 85 = u85
  generalize u 86 = u86
  generalize u 87 = u87
  generalize u 88 = u88
  generalize u 89 = u89
  generalize u 90 = u90
  generalize u 91 = u91
  generalize u 93 = u93
  generalize u 94 = u94
  generalize u 95 = u95
  generalize u 96 = u96
  generalize u 97 = u97
  generalize u 98 = u98
  generalize u 99 = u99
  generalize u 100 = u100
  generalize u 101 = u101
  generalize u 102 = u102
  generalize u 103 = u103
  generalize u 104 = u104
  generalize u 105 = u105
  generalize u 106 = u106
  generalize u 107 = u107
  generalize u 108 = u108
  generalize u 109 = u109
  generalize u 110 = u110
  generalize u 111 = u111
  generalize u 112 = u112
  generalize u 113 = u113
  generalize u 114 = u114
  generalize u 115 = u115
  generalize u 116 = u116
  generalize u 117 = u117
  generalize u 118 = u118
  generalize u 119 = u119
  generalize u 120 = u120
  generalize u 122 = u122
  generalize u 124 = u124
  generalize u 125 = u125
  generalize u 126 = u126
  generalize u 127 = u127
  generalize u 130 = u130
  generalize u 131 = u131
  generalize u 132 = u132
  generalize u 133 = u133
  generalize u 134 = u134
  generalize u 135 = u135
  generalize u 136 = u136
  generalize u 137 = u137
  generalize u 138 = u138
  generalize u 140 = u140
  generalize u 141 = u141
  generalize u 142 = u142
  generalize u 143 = u143
  generalize u 144 = u144
  generalize u 145 = u145
  generalize u 146 = u146
  generalize u 147 = u147
  generalize u 148 = u148
  generalize u 149 = u149
  generalize u 151 = u151
  generalize u 152 = u152
  generalize u 153 = u153
  generalize u 154 = u154
  clear u
  go_wp2
  exact HQ.out _ ⟨rfl, rfl, rfl, rfl, rfl, rfl, rfl, rfl, rfl, rfl, rfl, rfl, rfl, rfl, rfl, rfl, rfl, rfl, rfl, rfl⟩
set_option maxHeartbeats 8000000 in
set_option maxRecDepth 100000 in
theorem rr_r14 {K : Act → World → Prop} {c : Code} (hc : regOf (Tryz.f42.body.getD .skip) 14 = some c) (a : Act) {v : Vrr} {wq : World} {b : Nat} {xk xs xn xo xa : Int} {xt xm xy xv : ByteArray} {bb : Bool} (hF : Frr a v) (h1v : v.v1 = .pointer (some ⟨b, 0, none⟩)) (hB : wq.heap[b]? = some (.cells #[.int .i64 xk, .string xt, .string xm, .int .i64 xs, .string xy, .string xv, .int .i64 xn, .int .i64 xo, .int .i64 xa] 23 (0, 0))) (hbb : bb = (decide (1 ≤ xn) && decide (xn ≤ 50)))
    (hQ : ∀ a', Frr a' { v with v2 := .bool bb } → K a' wq) :
    Code.wp Tryz.prog c (Exit.then K fun _ _ _ => False) a wq := by
  have HQ := hide hQ
  clear hQ
  obtain ⟨t', d'⟩ := a
  obtain ⟨v0, v1, v2, v3, v4, v5, v6, v7, v8, v9, v60, v92, v121, v123, v128, v129, v139, v150⟩ := v
  simp only at h1v HQ
  subst h1v
  obtain ⟨hs1, hd1, q0, q1, q2, q3, q4, q5, q6, q7, q8, q9, q60, q92, q121, q123, q128, q129, q139, q150⟩ := hF
  obtain ⟨u, hu⟩ := frame_rr t' hs1
  simp only at hd1 q0 q1 q2 q3 q4 q5 q6 q7 q8 q9 q60 q92 q121 q123 q128 q129 q139 q150
  subst hu hd1
  have e0 : u 0 = v0 := q0
  have e1 : u 1 = .pointer (some ⟨b, 0, none⟩) := q1
  have e2 : u 2 = v2 := q2
  have e3 : u 3 = v3 := q3
  have e4 : u 4 = v4 := q4
  have e5 : u 5 = v5 := q5
  have e6 : u 6 = v6 := q6
  have e7 : u 7 = v7 := q7
  have e8 : u 8 = v8 := q8
  have e9 : u 9 = v9 := q9
  have e60 : u 60 = v60 := q60
  have e92 : u 92 = v92 := q92
  have e121 : u 121 = v121 := q121
  have e123 : u 123 = v123 := q123
  have e128 : u 128 = v128 := q128
  have e129 : u 129 = v129 := q129
  have e139 : u 139 = v139 := q139
  have e150 : u 150 = v150 := q150
  rw [e0, e1, e2, e3, e4, e5, e6, e7, e8, e9, e60, e92, e121, e123, e128, e129, e139, e150]
  clear q0 e0 q1 e1 q2 e2 q3 e3 q4 e4 q5 e5 q6 e6 q7 e7 q8 e8 q9 e9 q60 e60 q92 e92 q121 e121 q123 e123 q128 e128 q129 e129 q139 e139 q150 e150 hs1
  simp only [Tryz.f42, Option.getD_some, regOf] at hc
  injection hc with hc
  subst hc
  generalize u 10 = u10
  generalize u 11 = u11
  generalize u 12 = u12
  generalize u 13 = u13
  generalize u 14 = u14
  generalize u 15 = u15
  generalize u 16 = u16
  generalize u 17 = u17
  generalize u 18 = u18
  generalize u 19 = u19
  generalize u 20 = u20
  generalize u 21 = u21
  generalize u 22 = u22
  generalize u 23 = u23
  generalize u 24 = u24
  generalize u 25 = u25
  generalize u 26 = u26
  generalize u 27 = u27
  generalize u 28 = u28
  generalize u 29 = u29
  generalize u 30 = u30
  generalize u 31 = u31
  generalize u 32 = u32
  generalize u 33 = u33
  generalize u 34 = u34
  generalize u 35 = u35
  generalize u 36 = u36
  generalize u 37 = u37
  generalize u 38 = u38
  generalize u 39 = u39
  generalize u 40 = u40
  generalize u 41 = u41
  generalize u 42 = u42
  generalize u 43 = u43
  generalize u 44 = u44
  generalize u 45 = u45
  generalize u 46 = u46
  generalize u 47 = u47
  generalize u 48 = u48
  generalize u 49 = u49
  generalize u 50 = u50
  generalize u 51 = u51
  generalize u 52 = u52
  generalize u 53 = u53
  generalize u 54 = u54
  generalize u 55 = u55
  generalize u 56 = u56
  generalize u 57 = u57
  generalize u 58 = u58
  generalize u 59 = u59
  generalize u 61 = u61
  generalize u 62 = u62
  generalize u 63 = u63
  generalize u 64 = u64
  generalize u 65 = u65
  generalize u 66 = u66
  generalize u 67 = u67
  generalize u 68 = u68
  generalize u 69 = u69
  generalize u 70 = u70
  generalize u 71 = u71
  generalize u 72 = u72
  generalize u 73 = u73
  generalize u 74 = u74
  generalize u 75 = u75
  generalize u 76 = u76
  generalize u 77 = u77
  generalize u 78 = u78
  generalize u 79 = u79
  generalize u 80 = u80
  generalize u 81 = u81
  generalize u 82 = u82
  generalize u 83 = u83
  generalize u 84 = u84
  generalize u 85 = u85
  generalize u 86 = u86
  generalize u 87 = u87
  generalize u 88 = u88
  generalize u 89 = u89
  generalize u 90 = u90
  generalize u 91 = u91
  generalize u 93 = u93
  generalize u 94 = u94
  generalize u 95 = u95
  generalize u 96 = u96
  generalize u 97 = u97
  generalize u 98 = u98
  generalize u 99 = u99
  generalize u 100 = u100
  generalize u 101 = u101
  generalize u 102 = u102
  generalize u 103 = u103
  generalize u 104 = u104
  generalize u 105 = u105
  generalize u 106 = u106
  generalize u 107 = u107
  generalize u 108 = u108
  generalize u 109 = u109
  generalize u 110 = u110
  generalize u 111 = u111
  generalize u 112 = u112
  generalize u 113 = u113
  generalize u 114 = u114
  generalize u 115 = u115
  generalize u 116 = u116
  generalize u 117 = u117
  generalize u 118 = u118
  generalize u 119 = u119
  generalize u 120 = u120
  generalize u 122 = u122
  generalize u 124 = u124
  generalize u 125 = u125
  generalize u 126 = u126
  generalize u 127 = u127
  generalize u 130 = u130
  generalize u 131 = u131
  generalize u 132 = u132
  generalize u 133 = u133
  generalize u 134 = u134
  generalize u 135 = u135
  generalize u 136 = u136
  generalize u 137 = u137
  generalize u 138 = u138
  generalize u 140 = u140
  generalize u 141 = u141
  generalize u 142 = u142
  generalize u 143 = u143
  generalize u 144 = u144
  generalize u 145 = u145
  generalize u 146 = u146
  generalize u 147 = u147
  generalize u 148 = u148
  generalize u 149 = u149
  generalize u 151 = u151
  generalize u 152 = u152
  generalize u 153 = u153
  generalize u 154 = u154
  clear u
  have c6 := box_cell hB 6 rfl
  clear hB
  by_cases g1 : xn ≥ 1
  · by_cases g2 : xn ≤ 50
    · obtain rfl : bb = true := by rw [hbb]; simp; omega
      clear hbb
      go_wp2
      exact HQ.out _ ⟨rfl, rfl, rfl, rfl, rfl, rfl, rfl, rfl, rfl, rfl, rfl, rfl, rfl, rfl, rfl, rfl, rfl, rfl, rfl, rfl⟩
    · obtain rfl : bb = false := by rw [hbb]; simp; omega
      clear hbb
      go_wp2
      exact HQ.out _ ⟨rfl, rfl, rfl, rfl, rfl, rfl, rfl, rfl, rfl, rfl, rfl, rfl, rfl, rfl, rfl, rfl, rfl, rfl, rfl, rfl⟩
  · obtain rfl : bb = false := by rw [hbb]; simp; omega
    clear hbb
    go_wp2
    exact HQ.out _ ⟨rfl, rfl, rfl, rfl, rfl, rfl, rfl, rfl, rfl, rfl, rfl, rfl, rfl, rfl, rfl, rfl, rfl, rfl, rfl, rfl⟩
set_option maxHeartbeats 8000000 in
set_option maxRecDepth 100000 in
theorem rr_r17 {K : Act → World → Prop} {c : Code} (hc : regOf (Tryz.f42.body.getD .skip) 17 = some c) (a : Act) {v : Vrr} {wq : World} {b : Nat} {xk xs xn xo xa : Int} {xt xm xy xv : ByteArray} {bb : Bool} (hF : Frr a v) (h1v : v.v1 = .pointer (some ⟨b, 0, none⟩)) (hB : wq.heap[b]? = some (.cells #[.int .i64 xk, .string xt, .string xm, .int .i64 xs, .string xy, .string xv, .int .i64 xn, .int .i64 xo, .int .i64 xa] 23 (0, 0))) (hbb : bb = (decide (0 ≤ xn) && decide (xn < 7)))
    (hQ : ∀ a', Frr a' { v with v2 := .bool bb } → K a' wq) :
    Code.wp Tryz.prog c (Exit.then K fun _ _ _ => False) a wq := by
  have HQ := hide hQ
  clear hQ
  obtain ⟨t', d'⟩ := a
  obtain ⟨v0, v1, v2, v3, v4, v5, v6, v7, v8, v9, v60, v92, v121, v123, v128, v129, v139, v150⟩ := v
  simp only at h1v HQ
  subst h1v
  obtain ⟨hs1, hd1, q0, q1, q2, q3, q4, q5, q6, q7, q8, q9, q60, q92, q121, q123, q128, q129, q139, q150⟩ := hF
  obtain ⟨u, hu⟩ := frame_rr t' hs1
  simp only at hd1 q0 q1 q2 q3 q4 q5 q6 q7 q8 q9 q60 q92 q121 q123 q128 q129 q139 q150
  subst hu hd1
  have e0 : u 0 = v0 := q0
  have e1 : u 1 = .pointer (some ⟨b, 0, none⟩) := q1
  have e2 : u 2 = v2 := q2
  have e3 : u 3 = v3 := q3
  have e4 : u 4 = v4 := q4
  have e5 : u 5 = v5 := q5
  have e6 : u 6 = v6 := q6
  have e7 : u 7 = v7 := q7
  have e8 : u 8 = v8 := q8
  have e9 : u 9 = v9 := q9
  have e60 : u 60 = v60 := q60
  have e92 : u 92 = v92 := q92
  have e121 : u 121 = v121 := q121
  have e123 : u 123 = v123 := q123
  have e128 : u 128 = v128 := q128
  have e129 : u 129 = v129 := q129
  have e139 : u 139 = v139 := q139
  have e150 : u 150 = v150 := q150
  rw [e0, e1, e2, e3, e4, e5, e6, e7, e8, e9, e60, e92, e121, e123, e128, e129, e139, e150]
  clear q0 e0 q1 e1 q2 e2 q3 e3 q4 e4 q5 e5 q6 e6 q7 e7 q8 e8 q9 e9 q60 e60 q92 e92 q121 e121 q123 e123 q128 e128 q129 e129 q139 e139 q150 e150 hs1
  simp only [Tryz.f42, Option.getD_some, regOf] at hc
  injection hc with hc
  subst hc
  generalize u 10 = u10
  generalize u 11 = u11
  generalize u 12 = u12
  generalize u 13 = u13
  generalize u 14 = u14
  generalize u 15 = u15
  generalize u 16 = u16
  generalize u 17 = u17
  generalize u 18 = u18
  generalize u 19 = u19
  generalize u 20 = u20
  generalize u 21 = u21
  generalize u 22 = u22
  generalize u 23 = u23
  generalize u 24 = u24
  generalize u 25 = u25
  generalize u 26 = u26
  generalize u 27 = u27
  generalize u 28 = u28
  generalize u 29 = u29
  generalize u 30 = u30
  generalize u 31 = u31
  generalize u 32 = u32
  generalize u 33 = u33
  generalize u 34 = u34
  generalize u 35 = u35
  generalize u 36 = u36
  generalize u 37 = u37
  generalize u 38 = u38
  generalize u 39 = u39
  generalize u 40 = u40
  generalize u 41 = u41
  generalize u 42 = u42
  generalize u 43 = u43
  generalize u 44 = u44
  generalize u 45 = u45
  generalize u 46 = u46
  generalize u 47 = u47
  generalize u 48 = u48
  generalize u 49 = u49
  generalize u 50 = u50
  generalize u 51 = u51
  generalize u 52 = u52
  generalize u 53 = u53
  generalize u 54 = u54
  generalize u 55 = u55
  generalize u 56 = u56
  generalize u 57 = u57
  generalize u 58 = u58
  generalize u 59 = u59
  generalize u 61 = u61
  generalize u 62 = u62
  generalize u 63 = u63
  generalize u 64 = u64
  generalize u 65 = u65
  generalize u 66 = u66
  generalize u 67 = u67
  generalize u 68 = u68
  generalize u 69 = u69
  generalize u 70 = u70
  generalize u 71 = u71
  generalize u 72 = u72
  generalize u 73 = u73
  generalize u 74 = u74
  generalize u 75 = u75
  generalize u 76 = u76
  generalize u 77 = u77
  generalize u 78 = u78
  generalize u 79 = u79
  generalize u 80 = u80
  generalize u 81 = u81
  generalize u 82 = u82
  generalize u 83 = u83
  generalize u 84 = u84
  generalize u 85 = u85
  generalize u 86 = u86
  generalize u 87 = u87
  generalize u 88 = u88
  generalize u 89 = u89
  generalize u 90 = u90
  generalize u 91 = u91
  generalize u 93 = u93
  generalize u 94 = u94
  generalize u 95 = u95
  generalize u 96 = u96
  generalize u 97 = u97
  generalize u 98 = u98
  generalize u 99 = u99
  generalize u 100 = u100
  generalize u 101 = u101
  generalize u 102 = u102
  generalize u 103 = u103
  generalize u 104 = u104
  generalize u 105 = u105
  generalize u 106 = u106
  generalize u 107 = u107
  generalize u 108 = u108
  generalize u 109 = u109
  generalize u 110 = u110
  generalize u 111 = u111
  generalize u 112 = u112
  generalize u 113 = u113
  generalize u 114 = u114
  generalize u 115 = u115
  generalize u 116 = u116
  generalize u 117 = u117
  generalize u 118 = u118
  generalize u 119 = u119
  generalize u 120 = u120
  generalize u 122 = u122
  generalize u 124 = u124
  generalize u 125 = u125
  generalize u 126 = u126
  generalize u 127 = u127
  generalize u 130 = u130
  generalize u 131 = u131
  generalize u 132 = u132
  generalize u 133 = u133
  generalize u 134 = u134
  generalize u 135 = u135
  generalize u 136 = u136
  generalize u 137 = u137
  generalize u 138 = u138
  generalize u 140 = u140
  generalize u 141 = u141
  generalize u 142 = u142
  generalize u 143 = u143
  generalize u 144 = u144
  generalize u 145 = u145
  generalize u 146 = u146
  generalize u 147 = u147
  generalize u 148 = u148
  generalize u 149 = u149
  generalize u 151 = u151
  generalize u 152 = u152
  generalize u 153 = u153
  generalize u 154 = u154
  clear u
  have c6 := box_cell hB 6 rfl
  clear hB
  by_cases g1 : xn ≥ 0
  · by_cases g2 : xn < 7
    · obtain rfl : bb = true := by rw [hbb]; simp; omega
      clear hbb
      go_wp2
      exact HQ.out _ ⟨rfl, rfl, rfl, rfl, rfl, rfl, rfl, rfl, rfl, rfl, rfl, rfl, rfl, rfl, rfl, rfl, rfl, rfl, rfl, rfl⟩
    · obtain rfl : bb = false := by rw [hbb]; simp; omega
      clear hbb
      go_wp2
      exact HQ.out _ ⟨rfl, rfl, rfl, rfl, rfl, rfl, rfl, rfl, rfl, rfl, rfl, rfl, rfl, rfl, rfl, rfl, rfl, rfl, rfl, rfl⟩
  · obtain rfl : bb = false := by rw [hbb]; simp; omega
    clear hbb
    go_wp2
    exact HQ.out _ ⟨rfl, rfl, rfl, rfl, rfl, rfl, rfl, rfl, rfl, rfl, rfl, rfl, rfl, rfl, rfl, rfl, rfl, rfl, rfl, rfl⟩
set_option maxHeartbeats 8000000 in
set_option maxRecDepth 100000 in
theorem rr_r19 {K : Act → World → Prop} {c : Code} (hc : regOf (Tryz.f42.body.getD .skip) 19 = some c) (a : Act) {v : Vrr} {wq : World}  (hF : Frr a v) (hQ : ∀ a', Frr a' { v with v2 := .bool true } → K a' wq) :
    Code.wp Tryz.prog c (Exit.then K fun _ _ _ => False) a wq := by
  have HQ := hide hQ
  clear hQ
  obtain ⟨t', d'⟩ := a
  obtain ⟨v0, v1, v2, v3, v4, v5, v6, v7, v8, v9, v60, v92, v121, v123, v128, v129, v139, v150⟩ := v
  obtain ⟨hs1, hd1, q0, q1, q2, q3, q4, q5, q6, q7, q8, q9, q60, q92, q121, q123, q128, q129, q139, q150⟩ := hF
  obtain ⟨u, hu⟩ := frame_rr t' hs1
  simp only at hd1 q0 q1 q2 q3 q4 q5 q6 q7 q8 q9 q60 q92 q121 q123 q128 q129 q139 q150
  subst hu hd1
  have e0 : u 0 = v0 := q0
  have e1 : u 1 = v1 := q1
  have e2 : u 2 = v2 := q2
  have e3 : u 3 = v3 := q3
  have e4 : u 4 = v4 := q4
  have e5 : u 5 = v5 := q5
  have e6 : u 6 = v6 := q6
  have e7 : u 7 = v7 := q7
  have e8 : u 8 = v8 := q8
  have e9 : u 9 = v9 := q9
  have e60 : u 60 = v60 := q60
  have e92 : u 92 = v92 := q92
  have e121 : u 121 = v121 := q121
  have e123 : u 123 = v123 := q123
  have e128 : u 128 = v128 := q128
  have e129 : u 129 = v129 := q129
  have e139 : u 139 = v139 := q139
  have e150 : u 150 = v150 := q150
  rw [e0, e1, e2, e3, e4, e5, e6, e7, e8, e9, e60, e92, e121, e123, e128, e129, e139, e150]
  clear q0 e0 q1 e1 q2 e2 q3 e3 q4 e4 q5 e5 q6 e6 q7 e7 q8 e8 q9 e9 q60 e60 q92 e92 q121 e121 q123 e123 q128 e128 q129 e129 q139 e139 q150 e150 hs1
  simp only [Tryz.f42, Option.getD_some, regOf] at hc
  injection hc with hc
  subst hc
  generalize u 10 = u10
  generalize u 11 = u11
  generalize u 12 = u12
  generalize u 13 = u13
  generalize u 14 = u14
  generalize u 15 = u15
  generalize u 16 = u16
  generalize u 17 = u17
  generalize u 18 = u18
  generalize u 19 = u19
  generalize u 20 = u20
  generalize u 21 = u21
  generalize u 22 = u22
  generalize u 23 = u23
  generalize u 24 = u24
  generalize u 25 = u25
  generalize u 26 = u26
  generalize u 27 = u27
  generalize u 28 = u28
  generalize u 29 = u29
  generalize u 30 = u30
  generalize u 31 = u31
  generalize u 32 = u32
  generalize u 33 = u33
  generalize u 34 = u34
  generalize u 35 = u35
  generalize u 36 = u36
  generalize u 37 = u37
  generalize u 38 = u38
  generalize u 39 = u39
  generalize u 40 = u40
  generalize u 41 = u41
  generalize u 42 = u42
  generalize u 43 = u43
  generalize u 44 = u44
  generalize u 45 = u45
  generalize u 46 = u46
  generalize u 47 = u47
  generalize u 48 = u48
  generalize u 49 = u49
  generalize u 50 = u50
  generalize u 51 = u51
  generalize u 52 = u52
  generalize u 53 = u53
  generalize u 54 = u54
  generalize u 55 = u55
  generalize u 56 = u56
  generalize u 57 = u57
  generalize u 58 = u58
  generalize u 59 = u59
  generalize u 61 = u61
  generalize u 62 = u62
  generalize u 63 = u63
  generalize u 64 = u64
  generalize u 65 = u65
  generalize u 66 = u66
  generalize u 67 = u67
  generalize u 68 = u68
  generalize u 69 = u69
  generalize u 70 = u70
  generalize u 71 = u71
  generalize u 72 = u72
  generalize u 73 = u73
  generalize u 74 = u74
  generalize u 75 = u75
  generalize u 76 = u76
  generalize u 77 = u77
  generalize u 78 = u78
  generalize u 79 = u79
  generalize u 80 = u80
  generalize u 81 = u81
  generalize u 82 = u82
  generalize u 83 = u83
  generalize u 84 = u84
  generalize u 85 = u85
  generalize u 86 = u86
  generalize u 87 = u87
  generalize u 88 = u88
  generalize u 89 = u89
  generalize u 90 = u90
  generalize u 91 = u91
  generalize u 93 = u93
  generalize u 94 = u94
  generalize u 95 = u95
  generalize u 96 = u96
  generalize u 97 = u97
  generalize u 98 = u98
  generalize u 99 = u99
  generalize u 100 = u100
  generalize u 101 = u101
  generalize u 102 = u102
  generalize u 103 = u103
  generalize u 104 = u104
  generalize u 105 = u105
  generalize u 106 = u106
  generalize u 107 = u107
  generalize u 108 = u108
  generalize u 109 = u109
  generalize u 110 = u110
  generalize u 111 = u111
  generalize u 112 = u112
  generalize u 113 = u113
  generalize u 114 = u114
  generalize u 115 = u115
  generalize u 116 = u116
  generalize u 117 = u117
  generalize u 118 = u118
  generalize u 119 = u119
  generalize u 120 = u120
  generalize u 122 = u122
  generalize u 124 = u124
  generalize u 125 = u125
  generalize u 126 = u126
  generalize u 127 = u127
  generalize u 130 = u130
  generalize u 131 = u131
  generalize u 132 = u132
  generalize u 133 = u133
  generalize u 134 = u134
  generalize u 135 = u135
  generalize u 136 = u136
  generalize u 137 = u137
  generalize u 138 = u138
  generalize u 140 = u140
  generalize u 141 = u141
  generalize u 142 = u142
  generalize u 143 = u143
  generalize u 144 = u144
  generalize u 145 = u145
  generalize u 146 = u146
  generalize u 147 = u147
  generalize u 148 = u148
  generalize u 149 = u149
  generalize u 151 = u151
  generalize u 152 = u152
  generalize u 153 = u153
  generalize u 154 = u154
  clear u
  go_wp2
  exact HQ.out _ ⟨rfl, rfl, rfl, rfl, rfl, rfl, rfl, rfl, rfl, rfl, rfl, rfl, rfl, rfl, rfl, rfl, rfl, rfl, rfl, rfl⟩
set_option maxHeartbeats 8000000 in
set_option maxRecDepth 100000 in
theorem rr_r20 {K : Act → World → Prop} {c : Code} (hc : regOf (Tryz.f42.body.getD .skip) 20 = some c) (a : Act) {v : Vrr} {wq : World} {b : Nat} {xk xs xn xo xa : Int} {xt xm xy xv : ByteArray} {bb : Bool} (hF : Frr a v) (h1v : v.v1 = .pointer (some ⟨b, 0, none⟩)) (hB : wq.heap[b]? = some (.cells #[.int .i64 xk, .string xt, .string xm, .int .i64 xs, .string xy, .string xv, .int .i64 xn, .int .i64 xo, .int .i64 xa] 23 (0, 0))) (hbb : bb = decide (0 ≤ xn))
    (hQ : ∀ a', Frr a' { v with v2 := .bool bb } → K a' wq) :
    Code.wp Tryz.prog c (Exit.then K fun _ _ _ => False) a wq := by
  have HQ := hide hQ
  clear hQ
  obtain ⟨t', d'⟩ := a
  obtain ⟨v0, v1, v2, v3, v4, v5, v6, v7, v8, v9, v60, v92, v121, v123, v128, v129, v139, v150⟩ := v
  simp only at h1v HQ
  subst h1v
  obtain ⟨hs1, hd1, q0, q1, q2, q3, q4, q5, q6, q7, q8, q9, q60, q92, q121, q123, q128, q129, q139, q150⟩ := hF
  obtain ⟨u, hu⟩ := frame_rr t' hs1
  simp only at hd1 q0 q1 q2 q3 q4 q5 q6 q7 q8 q9 q60 q92 q121 q123 q128 q129 q139 q150
  subst hu hd1
  have e0 : u 0 = v0 := q0
  have e1 : u 1 = .pointer (some ⟨b, 0, none⟩) := q1
  have e2 : u 2 = v2 := q2
  have e3 : u 3 = v3 := q3
  have e4 : u 4 = v4 := q4
  have e5 : u 5 = v5 := q5
  have e6 : u 6 = v6 := q6
  have e7 : u 7 = v7 := q7
  have e8 : u 8 = v8 := q8
  have e9 : u 9 = v9 := q9
  have e60 : u 60 = v60 := q60
  have e92 : u 92 = v92 := q92
  have e121 : u 121 = v121 := q121
  have e123 : u 123 = v123 := q123
  have e128 : u 128 = v128 := q128
  have e129 : u 129 = v129 := q129
  have e139 : u 139 = v139 := q139
  have e150 : u 150 = v150 := q150
  rw [e0, e1, e2, e3, e4, e5, e6, e7, e8, e9, e60, e92, e121, e123, e128, e129, e139, e150]
  clear q0 e0 q1 e1 q2 e2 q3 e3 q4 e4 q5 e5 q6 e6 q7 e7 q8 e8 q9 e9 q60 e60 q92 e92 q121 e121 q123 e123 q128 e128 q129 e129 q139 e139 q150 e150 hs1
  simp only [Tryz.f42, Option.getD_some, regOf] at hc
  injection hc with hc
  subst hc
  generalize u 10 = u10
  generalize u 11 = u11
  generalize u 12 = u12
  generalize u 13 = u13
  generalize u 14 = u14
  generalize u 15 = u15
  generalize u 16 = u16
  generalize u 17 = u17
  generalize u 18 = u18
  generalize u 19 = u19
  generalize u 20 = u20
  generalize u 21 = u21
  generalize u 22 = u22
  generalize u 23 = u23
  generalize u 24 = u24
  generalize u 25 = u25
  generalize u 26 = u26
  generalize u 27 = u27
  generalize u 28 = u28
  generalize u 29 = u29
  generalize u 30 = u30
  generalize u 31 = u31
  generalize u 32 = u32
  generalize u 33 = u33
  generalize u 34 = u34
  generalize u 35 = u35
  generalize u 36 = u36
  generalize u 37 = u37
  generalize u 38 = u38
  generalize u 39 = u39
  generalize u 40 = u40
  generalize u 41 = u41
  generalize u 42 = u42
  generalize u 43 = u43
  generalize u 44 = u44
  generalize u 45 = u45
  generalize u 46 = u46
  generalize u 47 = u47
  generalize u 48 = u48
  generalize u 49 = u49
  generalize u 50 = u50
  generalize u 51 = u51
  generalize u 52 = u52
  generalize u 53 = u53
  generalize u 54 = u54
  generalize u 55 = u55
  generalize u 56 = u56
  generalize u 57 = u57
  generalize u 58 = u58
  generalize u 59 = u59
  generalize u 61 = u61
  generalize u 62 = u62
  generalize u 63 = u63
  generalize u 64 = u64
  generalize u 65 = u65
  generalize u 66 = u66
  generalize u 67 = u67
  generalize u 68 = u68
  generalize u 69 = u69
  generalize u 70 = u70
  generalize u 71 = u71
  generalize u 72 = u72
  generalize u 73 = u73
  generalize u 74 = u74
  generalize u 75 = u75
  generalize u 76 = u76
  generalize u 77 = u77
  generalize u 78 = u78
  generalize u 79 = u79
  generalize u 80 = u80
  generalize u 81 = u81
  generalize u 82 = u82
  generalize u 83 = u83
  generalize u 84 = u84
  generalize u 85 = u85
  generalize u 86 = u86
  generalize u 87 = u87
  generalize u 88 = u88
  generalize u 89 = u89
  generalize u 90 = u90
  generalize u 91 = u91
  generalize u 93 = u93
  generalize u 94 = u94
  generalize u 95 = u95
  generalize u 96 = u96
  generalize u 97 = u97
  generalize u 98 = u98
  generalize u 99 = u99
  generalize u 100 = u100
  generalize u 101 = u101
  generalize u 102 = u102
  generalize u 103 = u103
  generalize u 104 = u104
  generalize u 105 = u105
  generalize u 106 = u106
  generalize u 107 = u107
  generalize u 108 = u108
  generalize u 109 = u109
  generalize u 110 = u110
  generalize u 111 = u111
  generalize u 112 = u112
  generalize u 113 = u113
  generalize u 114 = u114
  generalize u 115 = u115
  generalize u 116 = u116
  generalize u 117 = u117
  generalize u 118 = u118
  generalize u 119 = u119
  generalize u 120 = u120
  generalize u 122 = u122
  generalize u 124 = u124
  generalize u 125 = u125
  generalize u 126 = u126
  generalize u 127 = u127
  generalize u 130 = u130
  generalize u 131 = u131
  generalize u 132 = u132
  generalize u 133 = u133
  generalize u 134 = u134
  generalize u 135 = u135
  generalize u 136 = u136
  generalize u 137 = u137
  generalize u 138 = u138
  generalize u 140 = u140
  generalize u 141 = u141
  generalize u 142 = u142
  generalize u 143 = u143
  generalize u 144 = u144
  generalize u 145 = u145
  generalize u 146 = u146
  generalize u 147 = u147
  generalize u 148 = u148
  generalize u 149 = u149
  generalize u 151 = u151
  generalize u 152 = u152
  generalize u 153 = u153
  generalize u 154 = u154
  clear u
  have c6 := box_cell hB 6 rfl
  clear hB
  by_cases g1 : xn ≥ 0
  · obtain rfl : bb = true := by rw [hbb]; simp; omega
    clear hbb
    go_wp2
    exact HQ.out _ ⟨rfl, rfl, rfl, rfl, rfl, rfl, rfl, rfl, rfl, rfl, rfl, rfl, rfl, rfl, rfl, rfl, rfl, rfl, rfl, rfl⟩
  · obtain rfl : bb = false := by rw [hbb]; simp; omega
    clear hbb
    go_wp2
    exact HQ.out _ ⟨rfl, rfl, rfl, rfl, rfl, rfl, rfl, rfl, rfl, rfl, rfl, rfl, rfl, rfl, rfl, rfl, rfl, rfl, rfl, rfl⟩
set_option maxHeartbeats 8000000 in
set_option maxRecDepth 100000 in
theorem rr_r3 {K : Act → World → Prop} {c : Code} (hc : regOf (Tryz.f42.body.getD .skip) 3 = some c) (a : Act) {v : Vrr} {wq : World}  (hF : Frr a v) (hQ : ∀ a', Frr a' { v with v2 := .bool false } → K a' wq) :
    Code.wp Tryz.prog c (Exit.then K fun _ _ _ => False) a wq := by
  have HQ := hide hQ
  clear hQ
  obtain ⟨t', d'⟩ := a
  obtain ⟨v0, v1, v2, v3, v4, v5, v6, v7, v8, v9, v60, v92, v121, v123, v128, v129, v139, v150⟩ := v
  obtain ⟨hs1, hd1, q0, q1, q2, q3, q4, q5, q6, q7, q8, q9, q60, q92, q121, q123, q128, q129, q139, q150⟩ := hF
  obtain ⟨u, hu⟩ := frame_rr t' hs1
  simp only at hd1 q0 q1 q2 q3 q4 q5 q6 q7 q8 q9 q60 q92 q121 q123 q128 q129 q139 q150
  subst hu hd1
  have e0 : u 0 = v0 := q0
  have e1 : u 1 = v1 := q1
  have e2 : u 2 = v2 := q2
  have e3 : u 3 = v3 := q3
  have e4 : u 4 = v4 := q4
  have e5 : u 5 = v5 := q5
  have e6 : u 6 = v6 := q6
  have e7 : u 7 = v7 := q7
  have e8 : u 8 = v8 := q8
  have e9 : u 9 = v9 := q9
  have e60 : u 60 = v60 := q60
  have e92 : u 92 = v92 := q92
  have e121 : u 121 = v121 := q121
  have e123 : u 123 = v123 := q123
  have e128 : u 128 = v128 := q128
  have e129 : u 129 = v129 := q129
  have e139 : u 139 = v139 := q139
  have e150 : u 150 = v150 := q150
  rw [e0, e1, e2, e3, e4, e5, e6, e7, e8, e9, e60, e92, e121, e123, e128, e129, e139, e150]
  clear q0 e0 q1 e1 q2 e2 q3 e3 q4 e4 q5 e5 q6 e6 q7 e7 q8 e8 q9 e9 q60 e60 q92 e92 q121 e121 q123 e123 q128 e128 q129 e129 q139 e139 q150 e150 hs1
  simp only [Tryz.f42, Option.getD_some, regOf] at hc
  injection hc with hc
  subst hc
  generalize u 10 = u10
  generalize u 11 = u11
  generalize u 12 = u12
  generalize u 13 = u13
  generalize u 14 = u14
  generalize u 15 = u15
  generalize u 16 = u16
  generalize u 17 = u17
  generalize u 18 = u18
  generalize u 19 = u19
  generalize u 20 = u20
  generalize u 21 = u21
  generalize u 22 = u22
  generalize u 23 = u23
  generalize u 24 = u24
  generalize u 25 = u25
  generalize u 26 = u26
  generalize u 27 = u27
  generalize u 28 = u28
  generalize u 29 = u29
  generalize u 30 = u30
  generalize u 31 = u31
  generalize u 32 = u32
  generalize u 33 = u33
  generalize u 34 = u34
  generalize u 35 = u35
  generalize u 36 = u36
  generalize u 37 = u37
  generalize u 38 = u38
  generalize u 39 = u39
  generalize u 40 = u40
  generalize u 41 = u41
  generalize u 42 = u42
  generalize u 43 = u43
  generalize u 44 = u44
  generalize u 45 = u45
  generalize u 46 = u46
  generalize u 47 = u47
  generalize u 48 = u48
  generalize u 49 = u49
  generalize u 50 = u50
  generalize u 51 = u51
  generalize u 52 = u52
  generalize u 53 = u53
  generalize u 54 = u54
  generalize u 55 = u55
  generalize u 56 = u56
  generalize u 57 = u57
  generalize u 58 = u58
  generalize u 59 = u59
  generalize u 61 = u61
  generalize u 62 = u62
  generalize u 63 = u63
  generalize u 64 = u64
  generalize u 65 = u65
  generalize u 66 = u66
  generalize u 67 = u67
  generalize u 68 = u68
  generalize u 69 = u69
  generalize u 70 = u70
  generalize u 71 = u71
  generalize u 72 = u72
  generalize u 73 = u73
  generalize u 74 = u74
  generalize u 75 = u75
  generalize u 76 = u76
  generalize u 77 = u77
  generalize u 78 = u78
  generalize u 79 = u79
  generalize u 80 = u80
  generalize u 81 = u81
  generalize u 82 = u82
  generalize u 83 = u83
  generalize u 84 = u84
  generalize u 85 = u85
  generalize u 86 = u86
  generalize u 87 = u87
  generalize u 88 = u88
  generalize u 89 = u89
  generalize u 90 = u90
  generalize u 91 = u91
  generalize u 93 = u93
  generalize u 94 = u94
  generalize u 95 = u95
  generalize u 96 = u96
  generalize u 97 = u97
  generalize u 98 = u98
  generalize u 99 = u99
  generalize u 100 = u100
  generalize u 101 = u101
  generalize u 102 = u102
  generalize u 103 = u103
  generalize u 104 = u104
  generalize u 105 = u105
  generalize u 106 = u106
  generalize u 107 = u107
  generalize u 108 = u108
  generalize u 109 = u109
  generalize u 110 = u110
  generalize u 111 = u111
  generalize u 112 = u112
  generalize u 113 = u113
  generalize u 114 = u114
  generalize u 115 = u115
  generalize u 116 = u116
  generalize u 117 = u117
  generalize u 118 = u118
  generalize u 119 = u119
  generalize u 120 = u120
  generalize u 122 = u122
  generalize u 124 = u124
  generalize u 125 = u125
  generalize u 126 = u126
  generalize u 127 = u127
  generalize u 130 = u130
  generalize u 131 = u131
  generalize u 132 = u132
  generalize u 133 = u133
  generalize u 134 = u134
  generalize u 135 = u135
  generalize u 136 = u136
  generalize u 137 = u137
  generalize u 138 = u138
  generalize u 140 = u140
  generalize u 141 = u141
  generalize u 142 = u142
  generalize u 143 = u143
  generalize u 144 = u144
  generalize u 145 = u145
  generalize u 146 = u146
  generalize u 147 = u147
  generalize u 148 = u148
  generalize u 149 = u149
  generalize u 151 = u151
  generalize u 152 = u152
  generalize u 153 = u153
  generalize u 154 = u154
  clear u
  go_wp2
  exact HQ.out _ ⟨rfl, rfl, rfl, rfl, rfl, rfl, rfl, rfl, rfl, rfl, rfl, rfl, rfl, rfl, rfl, rfl, rfl, rfl, rfl, rfl⟩
set_option maxHeartbeats 8000000 in
set_option maxRecDepth 100000 in
theorem rr_r7 {K : Act → World → Prop} {c : Code} (hc : regOf (Tryz.f42.body.getD .skip) 7 = some c) (a : Act) {v : Vrr} {wq : World}  (hF : Frr a v) (hQ : ∀ a', Frr a' { v with v2 := .bool false } → K a' wq) :
    Code.wp Tryz.prog c (Exit.then K fun _ _ _ => False) a wq := by
  have HQ := hide hQ
  clear hQ
  obtain ⟨t', d'⟩ := a
  obtain ⟨v0, v1, v2, v3, v4, v5, v6, v7, v8, v9, v60, v92, v121, v123, v128, v129, v139, v150⟩ := v
  obtain ⟨hs1, hd1, q0, q1, q2, q3, q4, q5, q6, q7, q8, q9, q60, q92, q121, q123, q128, q129, q139, q150⟩ := hF
  obtain ⟨u, hu⟩ := frame_rr t' hs1
  simp only at hd1 q0 q1 q2 q3 q4 q5 q6 q7 q8 q9 q60 q92 q121 q123 q128 q129 q139 q150
  subst hu hd1
  have e0 : u 0 = v0 := q0
  have e1 : u 1 = v1 := q1
  have e2 : u 2 = v2 := q2
  have e3 : u 3 = v3 := q3
  have e4 : u 4 = v4 := q4
  have e5 : u 5 = v5 := q5
  have e6 : u 6 = v6 := q6
  have e7 : u 7 = v7 := q7
  have e8 : u 8 = v8 := q8
  have e9 : u 9 = v9 := q9
  have e60 : u 60 = v60 := q60
  have e92 : u 92 = v92 := q92
  have e121 : u 121 = v121 := q121
  have e123 : u 123 = v123 := q123
  have e128 : u 128 = v128 := q128
  have e129 : u 129 = v129 := q129
  have e139 : u 139 = v139 := q139
  have e150 : u 150 = v150 := q150
  rw [e0, e1, e2, e3, e4, e5, e6, e7, e8, e9, e60, e92, e121, e123, e128, e129, e139, e150]
  clear q0 e0 q1 e1 q2 e2 q3 e3 q4 e4 q5 e5 q6 e6 q7 e7 q8 e8 q9 e9 q60 e60 q92 e92 q121 e121 q123 e123 q128 e128 q129 e129 q139 e139 q150 e150 hs1
  simp only [Tryz.f42, Option.getD_some, regOf] at hc
  injection hc with hc
  subst hc
  generalize u 10 = u10
  generalize u 11 = u11
  generalize u 12 = u12
  generalize u 13 = u13
  generalize u 14 = u14
  generalize u 15 = u15
  generalize u 16 = u16
  generalize u 17 = u17
  generalize u 18 = u18
  generalize u 19 = u19
  generalize u 20 = u20
  generalize u 21 = u21
  generalize u 22 = u22
  generalize u 23 = u23
  generalize u 24 = u24
  generalize u 25 = u25
  generalize u 26 = u26
  generalize u 27 = u27
  generalize u 28 = u28
  generalize u 29 = u29
  generalize u 30 = u30
  generalize u 31 = u31
  generalize u 32 = u32
  generalize u 33 = u33
  generalize u 34 = u34
  generalize u 35 = u35
  generalize u 36 = u36
  generalize u 37 = u37
  generalize u 38 = u38
  generalize u 39 = u39
  generalize u 40 = u40
  generalize u 41 = u41
  generalize u 42 = u42
  generalize u 43 = u43
  generalize u 44 = u44
  generalize u 45 = u45
  generalize u 46 = u46
  generalize u 47 = u47
  generalize u 48 = u48
  generalize u 49 = u49
  generalize u 50 = u50
  generalize u 51 = u51
  generalize u 52 = u52
  generalize u 53 = u53
  generalize u 54 = u54
  generalize u 55 = u55
  generalize u 56 = u56
  generalize u 57 = u57
  generalize u 58 = u58
  generalize u 59 = u59
  generalize u 61 = u61
  generalize u 62 = u62
  generalize u 63 = u63
  generalize u 64 = u64
  generalize u 65 = u65
  generalize u 66 = u66
  generalize u 67 = u67
  generalize u 68 = u68
  generalize u 69 = u69
  generalize u 70 = u70
  generalize u 71 = u71
  generalize u 72 = u72
  generalize u 73 = u73
  generalize u 74 = u74
  generalize u 75 = u75
  generalize u 76 = u76
  generalize u 77 = u77
  generalize u 78 = u78
  generalize u 79 = u79
  generalize u 80 = u80
  generalize u 81 = u81
  generalize u 82 = u82
  generalize u 83 = u83
  generalize u 84 = u84
  generalize u 85 = u85
  generalize u 86 = u86
  generalize u 87 = u87
  generalize u 88 = u88
  generalize u 89 = u89
  generalize u 90 = u90
  generalize u 91 = u91
  generalize u 93 = u93
  generalize u 94 = u94
  generalize u 95 = u95
  generalize u 96 = u96
  generalize u 97 = u97
  generalize u 98 = u98
  generalize u 99 = u99
  generalize u 100 = u100
  generalize u 101 = u101
  generalize u 102 = u102
  generalize u 103 = u103
  generalize u 104 = u104
  generalize u 105 = u105
  generalize u 106 = u106
  generalize u 107 = u107
  generalize u 108 = u108
  generalize u 109 = u109
  generalize u 110 = u110
  generalize u 111 = u111
  generalize u 112 = u112
  generalize u 113 = u113
  generalize u 114 = u114
  generalize u 115 = u115
  generalize u 116 = u116
  generalize u 117 = u117
  generalize u 118 = u118
  generalize u 119 = u119
  generalize u 120 = u120
  generalize u 122 = u122
  generalize u 124 = u124
  generalize u 125 = u125
  generalize u 126 = u126
  generalize u 127 = u127
  generalize u 130 = u130
  generalize u 131 = u131
  generalize u 132 = u132
  generalize u 133 = u133
  generalize u 134 = u134
  generalize u 135 = u135
  generalize u 136 = u136
  generalize u 137 = u137
  generalize u 138 = u138
  generalize u 140 = u140
  generalize u 141 = u141
  generalize u 142 = u142
  generalize u 143 = u143
  generalize u 144 = u144
  generalize u 145 = u145
  generalize u 146 = u146
  generalize u 147 = u147
  generalize u 148 = u148
  generalize u 149 = u149
  generalize u 151 = u151
  generalize u 152 = u152
  generalize u 153 = u153
  generalize u 154 = u154
  clear u
  go_wp2
  exact HQ.out _ ⟨rfl, rfl, rfl, rfl, rfl, rfl, rfl, rfl, rfl, rfl, rfl, rfl, rfl, rfl, rfl, rfl, rfl, rfl, rfl, rfl⟩
set_option maxHeartbeats 8000000 in
set_option maxRecDepth 100000 in
theorem rr_r9 {K : Act → World → Prop} {c : Code} (hc : regOf (Tryz.f42.body.getD .skip) 9 = some c) (a : Act) {v : Vrr} {wq : World}  (hF : Frr a v) (hQ : ∀ a', Frr a' { v with v2 := .bool false } → K a' wq) :
    Code.wp Tryz.prog c (Exit.then K fun _ _ _ => False) a wq := by
  have HQ := hide hQ
  clear hQ
  obtain ⟨t', d'⟩ := a
  obtain ⟨v0, v1, v2, v3, v4, v5, v6, v7, v8, v9, v60, v92, v121, v123, v128, v129, v139, v150⟩ := v
  obtain ⟨hs1, hd1, q0, q1, q2, q3, q4, q5, q6, q7, q8, q9, q60, q92, q121, q123, q128, q129, q139, q150⟩ := hF
  obtain ⟨u, hu⟩ := frame_rr t' hs1
  simp only at hd1 q0 q1 q2 q3 q4 q5 q6 q7 q8 q9 q60 q92 q121 q123 q128 q129 q139 q150
  subst hu hd1
  have e0 : u 0 = v0 := q0
  have e1 : u 1 = v1 := q1
  have e2 : u 2 = v2 := q2
  have e3 : u 3 = v3 := q3
  have e4 : u 4 = v4 := q4
  have e5 : u 5 = v5 := q5
  have e6 : u 6 = v6 := q6
  have e7 : u 7 = v7 := q7
  have e8 : u 8 = v8 := q8
  have e9 : u 9 = v9 := q9
  have e60 : u 60 = v60 := q60
  have e92 : u 92 = v92 := q92
  have e121 : u 121 = v121 := q121
  have e123 : u 123 = v123 := q123
  have e128 : u 128 = v128 := q128
  have e129 : u 129 = v129 := q129
  have e139 : u 139 = v139 := q139
  have e150 : u 150 = v150 := q150
  rw [e0, e1, e2, e3, e4, e5, e6, e7, e8, e9, e60, e92, e121, e123, e128, e129, e139, e150]
  clear q0 e0 q1 e1 q2 e2 q3 e3 q4 e4 q5 e5 q6 e6 q7 e7 q8 e8 q9 e9 q60 e60 q92 e92 q121 e121 q123 e123 q128 e128 q129 e129 q139 e139 q150 e150 hs1
  simp only [Tryz.f42, Option.getD_some, regOf] at hc
  injection hc with hc
  subst hc
  generalize u 10 = u10
  generalize u 11 = u11
  generalize u 12 = u12
  generalize u 13 = u13
  generalize u 14 = u14
  generalize u 15 = u15
  generalize u 16 = u16
  generalize u 17 = u17
  generalize u 18 = u18
  generalize u 19 = u19
  generalize u 20 = u20
  generalize u 21 = u21
  generalize u 22 = u22
  generalize u 23 = u23
  generalize u 24 = u24
  generalize u 25 = u25
  generalize u 26 = u26
  generalize u 27 = u27
  generalize u 28 = u28
  generalize u 29 = u29
  generalize u 30 = u30
  generalize u 31 = u31
  generalize u 32 = u32
  generalize u 33 = u33
  generalize u 34 = u34
  generalize u 35 = u35
  generalize u 36 = u36
  generalize u 37 = u37
  generalize u 38 = u38
  generalize u 39 = u39
  generalize u 40 = u40
  generalize u 41 = u41
  generalize u 42 = u42
  generalize u 43 = u43
  generalize u 44 = u44
  generalize u 45 = u45
  generalize u 46 = u46
  generalize u 47 = u47
  generalize u 48 = u48
  generalize u 49 = u49
  generalize u 50 = u50
  generalize u 51 = u51
  generalize u 52 = u52
  generalize u 53 = u53
  generalize u 54 = u54
  generalize u 55 = u55
  generalize u 56 = u56
  generalize u 57 = u57
  generalize u 58 = u58
  generalize u 59 = u59
  generalize u 61 = u61
  generalize u 62 = u62
  generalize u 63 = u63
  generalize u 64 = u64
  generalize u 65 = u65
  generalize u 66 = u66
  generalize u 67 = u67
  generalize u 68 = u68
  generalize u 69 = u69
  generalize u 70 = u70
  generalize u 71 = u71
  generalize u 72 = u72
  generalize u 73 = u73
  generalize u 74 = u74
  generalize u 75 = u75
  generalize u 76 = u76
  generalize u 77 = u77
  generalize u 78 = u78
  generalize u 79 = u79
  generalize u 80 = u80
  generalize u 81 = u81
  generalize u 82 = u82
  generalize u 83 = u83
  generalize u 84 = u84
  generalize u 85 = u85
  generalize u 86 = u86
  generalize u 87 = u87
  generalize u 88 = u88
  generalize u 89 = u89
  generalize u 90 = u90
  generalize u 91 = u91
  generalize u 93 = u93
  generalize u 94 = u94
  generalize u 95 = u95
  generalize u 96 = u96
  generalize u 97 = u97
  generalize u 98 = u98
  generalize u 99 = u99
  generalize u 100 = u100
  generalize u 101 = u101
  generalize u 102 = u102
  generalize u 103 = u103
  generalize u 104 = u104
  generalize u 105 = u105
  generalize u 106 = u106
  generalize u 107 = u107
  generalize u 108 = u108
  generalize u 109 = u109
  generalize u 110 = u110
  generalize u 111 = u111
  generalize u 112 = u112
  generalize u 113 = u113
  generalize u 114 = u114
  generalize u 115 = u115
  generalize u 116 = u116
  generalize u 117 = u117
  generalize u 118 = u118
  generalize u 119 = u119
  generalize u 120 = u120
  generalize u 122 = u122
  generalize u 124 = u124
  generalize u 125 = u125
  generalize u 126 = u126
  generalize u 127 = u127
  generalize u 130 = u130
  generalize u 131 = u131
  generalize u 132 = u132
  generalize u 133 = u133
  generalize u 134 = u134
  generalize u 135 = u135
  generalize u 136 = u136
  generalize u 137 = u137
  generalize u 138 = u138
  generalize u 140 = u140
  generalize u 141 = u141
  generalize u 142 = u142
  generalize u 143 = u143
  generalize u 144 = u144
  generalize u 145 = u145
  generalize u 146 = u146
  generalize u 147 = u147
  generalize u 148 = u148
  generalize u 149 = u149
  generalize u 151 = u151
  generalize u 152 = u152
  generalize u 153 = u153
  generalize u 154 = u154
  clear u
  go_wp2
  exact HQ.out _ ⟨rfl, rfl, rfl, rfl, rfl, rfl, rfl, rfl, rfl, rfl, rfl, rfl, rfl, rfl, rfl, rfl, rfl, rfl, rfl, rfl⟩
set_option maxHeartbeats 8000000 in
set_option maxRecDepth 100000 in
theorem rr_r0 {K : Act → World → Prop} {c : Code} (hc : regOf (Tryz.f42.body.getD .skip) 0 = some c) (a : Act) {v : Vrr} {wq : World} {x : CM} (hF : Frr a v) (h0v : v.v0 = x.v) (hQ : ∀ a' w' b, Frr a' { v with v1 := .pointer (some ⟨b, 0, none⟩), v2 := .bool false } → w'.heap[b]? = some (.cells x.cells 23 (0, 0)) → Below wq.heap.size wq w' → K a' w') :
    Code.wp Tryz.prog c (Exit.then K fun _ _ _ => False) a wq := by
  have HQ := hide hQ
  clear hQ
  obtain ⟨t', d'⟩ := a
  obtain ⟨v0, v1, v2, v3, v4, v5, v6, v7, v8, v9, v60, v92, v121, v123, v128, v129, v139, v150⟩ := v
  simp only at h0v HQ
  subst h0v
  obtain ⟨hs1, hd1, q0, q1, q2, q3, q4, q5, q6, q7, q8, q9, q60, q92, q121, q123, q128, q129, q139, q150⟩ := hF
  obtain ⟨u, hu⟩ := frame_rr t' hs1
  simp only at hd1 q0 q1 q2 q3 q4 q5 q6 q7 q8 q9 q60 q92 q121 q123 q128 q129 q139 q150
  subst hu hd1
  have e0 : u 0 = x.v := q0
  have e1 : u 1 = v1 := q1
  have e2 : u 2 = v2 := q2
  have e3 : u 3 = v3 := q3
  have e4 : u 4 = v4 := q4
  have e5 : u 5 = v5 := q5
  have e6 : u 6 = v6 := q6
  have e7 : u 7 = v7 := q7
  have e8 : u 8 = v8 := q8
  have e9 : u 9 = v9 := q9
  have e60 : u 60 = v60 := q60
  have e92 : u 92 = v92 := q92
  have e121 : u 121 = v121 := q121
  have e123 : u 123 = v123 := q123
  have e128 : u 128 = v128 := q128
  have e129 : u 129 = v129 := q129
  have e139 : u 139 = v139 := q139
  have e150 : u 150 = v150 := q150
  rw [e0, e1, e2, e3, e4, e5, e6, e7, e8, e9, e60, e92, e121, e123, e128, e129, e139, e150]
  clear q0 e0 q1 e1 q2 e2 q3 e3 q4 e4 q5 e5 q6 e6 q7 e7 q8 e8 q9 e9 q60 e60 q92 e92 q121 e121 q123 e123 q128 e128 q129 e129 q139 e139 q150 e150 hs1
  simp only [Tryz.f42, Option.getD_some, regOf] at hc
  injection hc with hc
  subst hc
  generalize u 10 = u10
  generalize u 11 = u11
  generalize u 12 = u12
  generalize u 13 = u13
  generalize u 14 = u14
  generalize u 15 = u15
  generalize u 16 = u16
  generalize u 17 = u17
  generalize u 18 = u18
  generalize u 19 = u19
  generalize u 20 = u20
  generalize u 21 = u21
  generalize u 22 = u22
  generalize u 23 = u23
  generalize u 24 = u24
  generalize u 25 = u25
  generalize u 26 = u26
  generalize u 27 = u27
  generalize u 28 = u28
  generalize u 29 = u29
  generalize u 30 = u30
  generalize u 31 = u31
  generalize u 32 = u32
  generalize u 33 = u33
  generalize u 34 = u34
  generalize u 35 = u35
  generalize u 36 = u36
  generalize u 37 = u37
  generalize u 38 = u38
  generalize u 39 = u39
  generalize u 40 = u40
  generalize u 41 = u41
  generalize u 42 = u42
  generalize u 43 = u43
  generalize u 44 = u44
  generalize u 45 = u45
  generalize u 46 = u46
  generalize u 47 = u47
  generalize u 48 = u48
  generalize u 49 = u49
  generalize u 50 = u50
  generalize u 51 = u51
  generalize u 52 = u52
  generalize u 53 = u53
  generalize u 54 = u54
  generalize u 55 = u55
  generalize u 56 = u56
  generalize u 57 = u57
  generalize u 58 = u58
  generalize u 59 = u59
  generalize u 61 = u61
  generalize u 62 = u62
  generalize u 63 = u63
  generalize u 64 = u64
  generalize u 65 = u65
  generalize u 66 = u66
  generalize u 67 = u67
  generalize u 68 = u68
  generalize u 69 = u69
  generalize u 70 = u70
  generalize u 71 = u71
  generalize u 72 = u72
  generalize u 73 = u73
  generalize u 74 = u74
  generalize u 75 = u75
  generalize u 76 = u76
  generalize u 77 = u77
  generalize u 78 = u78
  generalize u 79 = u79
  generalize u 80 = u80
  generalize u 81 = u81
  generalize u 82 = u82
  generalize u 83 = u83
  generalize u 84 = u84
  generalize u 85 = u85
  generalize u 86 = u86
  generalize u 87 = u87
  generalize u 88 = u88
  generalize u 89 = u89
  generalize u 90 = u90
  generalize u 91 = u91
  generalize u 93 = u93
  generalize u 94 = u94
  generalize u 95 = u95
  generalize u 96 = u96
  generalize u 97 = u97
  generalize u 98 = u98
  generalize u 99 = u99
  generalize u 100 = u100
  generalize u 101 = u101
  generalize u 102 = u102
  generalize u 103 = u103
  generalize u 104 = u104
  generalize u 105 = u105
  generalize u 106 = u106
  generalize u 107 = u107
  generalize u 108 = u108
  generalize u 109 = u109
  generalize u 110 = u110
  generalize u 111 = u111
  generalize u 112 = u112
  generalize u 113 = u113
  generalize u 114 = u114
  generalize u 115 = u115
  generalize u 116 = u116
  generalize u 117 = u117
  generalize u 118 = u118
  generalize u 119 = u119
  generalize u 120 = u120
  generalize u 122 = u122
  generalize u 124 = u124
  generalize u 125 = u125
  generalize u 126 = u126
  generalize u 127 = u127
  generalize u 130 = u130
  generalize u 131 = u131
  generalize u 132 = u132
  generalize u 133 = u133
  generalize u 134 = u134
  generalize u 135 = u135
  generalize u 136 = u136
  generalize u 137 = u137
  generalize u 138 = u138
  generalize u 140 = u140
  generalize u 141 = u141
  generalize u 142 = u142
  generalize u 143 = u143
  generalize u 144 = u144
  generalize u 145 = u145
  generalize u 146 = u146
  generalize u 147 = u147
  generalize u 148 = u148
  generalize u 149 = u149
  generalize u 151 = u151
  generalize u 152 = u152
  generalize u 153 = u153
  generalize u 154 = u154
  clear u
  simp only [CM.v, CM.cells] at *
  go_wp2
  exact HQ.out _ _ wq.heap.size ⟨rfl, rfl, rfl, rfl, rfl, rfl, rfl, rfl, rfl, rfl, rfl, rfl, rfl, rfl, rfl, rfl, rfl, rfl, rfl, rfl⟩ (heap_alloc_new _ _) ((Below.refl _ _).alloc (Nat.le_refl _) _)
theorem rr_ret {W : World} {a : Act} {v : Vrr} {b : Bool} {R : Ending → World → Prop} (hF : Frr a v) (h0 : v.v2 = .bool b) (h : R (.returned (.bool b)) W) :
    bodyPost Tryz.prog Tryz.f42 R .ret a W := by
  have g0 := slot_get (hF.s2.trans h0)
  refine bodyPost_ret (v := .bool b) ?_ hF.defers h
  simp [results, Tryz.results42, go_sem, g0]
end Go.Proofs.YthfflefnapbkiaaGreatDoor
/-
  carillonref14's Right (mkrr.py)
-/
namespace Go.Proofs.YthfflefnapbkiaaGreatDoor
open Go.RowKit

attribute [local go_sem ↓] Go.wp_at_zero Go.wp_at_succ
set_option linter.unusedSimpArgs false
set_option linter.unusedVariables false
def manyR (k n : Int) : Bool := if k = 5 then decide (1 ≤ n) && decide (n ≤ 50) else if k = 10 ∨ k = 11 then decide (0 ≤ n) && decide (n < 7) else if k = 3 then true else decide (0 ≤ n)
/-- What carillonref14's Right reckons. -/
theorem right_ref (x : CM) : x.right = ((kindOk x.kind && decide (0 ≤ x.node ∧ x.node ≤ 6 ∧ 0 ≤ x.ask ∧ x.ask ≤ 9007199254740991 ∧ 0 ≤ x.seq ∧ x.seq ≤ 9007199254740991 ∧ -1 ≤ x.n ∧ x.n ≤ 9007199254740991)) && (((hasTopic x.kind == wordB x.topic) && ((hasTopic x.kind || x.topic.size == 0) && ((hasName x.kind == wordB x.name) && (hasName x.kind || x.name.size == 0)))) && (((decide (x.kind = 2) || (x.seq == 0 && (x.key.size == 0 && x.val.size == 0))) && (decide (x.key.size ≤ 100) && decide (x.val.size ≤ 1000))) && (if hasN x.kind then manyR x.kind x.n else x.n == 0)))) := by
  obtain ⟨k, t, m, s, y, v, n, o, a⟩ := x
  have ht0 : wordB t = true → 1 ≤ t.size := fun h => by have := (wordL_out h).1; rwa [size_listC] at this
  have hm0 : wordB m = true → 1 ≤ m.size := fun h => by have := (wordL_out h).1; rwa [size_listC] at this
  unfold CM.right fitsB
  simp only
  by_cases hk : k = 1 ∨ k = 2 ∨ k = 3 ∨ k = 4 ∨ k = 5 ∨ k = 6 ∨ k = 7 ∨ k = 8 ∨ k = 9 ∨ k = 10 ∨ k = 11
  · unfold textB keyB valB
    generalize wordB t = wt at *
    generalize wordB m = wm at *
    generalize t.size = ts at *
    generalize m.size = ms at *
    generalize y.size = ys at *
    generalize v.size = vs at *
    rw [Bool.eq_iff_iff]
    rcases hk with rfl | rfl | rfl | rfl | rfl | rfl | rfl | rfl | rfl | rfl | rfl <;> cases wt <;> cases wm <;> simp [nodeB, greatB, kindOk, hasTopic, hasName, seqB, manyB, hasN, manyR] at ht0 hm0 ⊢ <;> omega
  · have e5 : kindOk k = false := by unfold kindOk; simp; omega
    rw [e5]
    simp
set_option maxHeartbeats 8000000 in
set_option maxRecDepth 100000 in
theorem rright (x : CM) (hx : x.ok) (w : World) :
    Calls Tryz.prog 42 #[x.v] w fun e w' => e = .returned (.bool x.right) ∧ Below w.heap.size w w' := by
  have hE := right_ref x
  obtain ⟨k, t, m, s, y, v, n, o, a⟩ := x
  have h6 := hx.y
  have h7 := hx.v
  have hN := rneed k
  have hW1 := rword t hx.t
  have hW2 := rword m hx.m
  have i1 := @empty_list t
  have i2 := @empty_list m
  have i3 := @empty_list y
  have i4 := @empty_list v
  simp only at h6 h7 hE hN hW1 hW2
  have i0 : (s != 0) = !(s == 0) := rfl
  generalize hb2 : (kindOk k && decide (0 ≤ o ∧ o ≤ 6 ∧ 0 ≤ a ∧ a ≤ 9007199254740991 ∧ 0 ≤ s ∧ s ≤ 9007199254740991 ∧ -1 ≤ n ∧ n ≤ 9007199254740991)) = b2 at hE
  generalize hb6 : ((hasTopic k == wordB t) && ((hasTopic k || t.size == 0) && ((hasName k == wordB m) && (hasName k || m.size == 0)))) = b6 at hE
  generalize hb8 : ((decide (k = 2) || (s == 0 && (y.size == 0 && v.size == 0))) && (decide (y.size ≤ 100) && decide (v.size ≤ 1000))) = b8 at hE
  generalize CM.right _ = rr at *
  go_enter Tryz.func42, Tryz.ntmps42
  refine wp_seq (reg_mono (rr_r0 (x := ⟨k, t, m, s, y, v, n, o, a⟩) (by kernel_rfl) _ (v := ⟨_, _, _, _, _, _, _, _, _, _, _, _, _, _, _, _, _, _⟩) ⟨rfl, rfl, rfl, rfl, rfl, rfl, rfl, rfl, rfl, rfl, rfl, rfl, rfl, rfl, rfl, rfl, rfl, rfl, rfl, rfl⟩ rfl ?_))
  intro a1 w1 b F1 D1 B1
  refine wp_seq (reg_mono (rr_r1 (by kernel_rfl) _ F1 rfl D1 hN ?_))
  intro a2 F2
  refine wp_seq (wp_seq (reg_mono (rr_r2 (bb := !b2) (by kernel_rfl) _ F2 rfl rfl D1 (by rw [← hb2]) ?_)))
  intro a3 F3
  cases b2 with
  | false =>
    refine wp_cond_true F3.s60 ?_
    refine wp_seq (reg_mono (rr_r3 (by kernel_rfl) _ F3 ?_))
    intro a4 F4
    refine wp_ret ?_
    exact rr_ret (R := fun e w' => e = .returned (.bool rr) ∧ Below w.heap.size w w') F4 rfl ⟨by rw [hE]; rfl, B1⟩
  | true =>
  refine wp_cond_false F3.s60 (wp_skip ?_)
  refine wp_seq (reg_mono (rr_r4 (by kernel_rfl) _ F3 rfl D1 hW1 ?_))
  intro a4 F4
  refine wp_seq (reg_mono (rr_r5 (by kernel_rfl) _ F4 rfl D1 hW2 ?_))
  intro a5 F5
  refine wp_seq (wp_seq (reg_mono (rr_r6 (bb := !b6) (by kernel_rfl) _ F5 rfl rfl rfl rfl rfl D1 i1 i2 (by rw [← hb6]) ?_)))
  intro a6 F6
  cases b6 with
  | false =>
    refine wp_cond_true F6.s92 ?_
    refine wp_seq (reg_mono (rr_r7 (by kernel_rfl) _ F6 ?_))
    intro a7 F7
    refine wp_ret ?_
    exact rr_ret (R := fun e w' => e = .returned (.bool rr) ∧ Below w.heap.size w w') F7 rfl ⟨by rw [hE]; rfl, B1⟩
  | true =>
  refine wp_cond_false F6.s92 (wp_skip ?_)
  refine wp_seq (wp_seq (reg_mono (rr_r8 (bb := !b8) (by kernel_rfl) _ F6 rfl rfl D1 i0 i3 i4 h6 h7 (by rw [← hb8]) ?_)))
  intro a7 F7
  cases b8 with
  | false =>
    refine wp_cond_true F7.s121 ?_
    refine wp_seq (reg_mono (rr_r9 (by kernel_rfl) _ F7 ?_))
    intro a8 F8
    refine wp_ret ?_
    exact rr_ret (R := fun e w' => e = .returned (.bool rr) ∧ Below w.heap.size w w') F8 rfl ⟨by rw [hE]; rfl, B1⟩
  | true =>
  refine wp_cond_false F7.s121 (wp_skip ?_)
  obtain ⟨hn, hhn⟩ : ∃ hn, hasN k = hn := ⟨_, rfl⟩
  refine wp_seq (wp_seq (reg_mono (rr_r10 (p := hn) (by kernel_rfl) _ F7 (by rw [← hhn]) ?_)))
  intro a8 F8
  cases hn with
  | false =>
    refine wp_cond_true F8.s123 ?_
    refine wp_seq (reg_mono (rr_r11 (bb := n == 0) (by kernel_rfl) _ F8 rfl D1 rfl ?_))
    intro a9 F9
    refine wp_ret ?_
    exact rr_ret (R := fun e w' => e = .returned (.bool rr) ∧ Below w.heap.size w w') F9 rfl ⟨by rw [hE, hhn]; rfl, B1⟩
  | true =>
  rw [hhn] at hE
  have hE : rr = manyR k n := hE
  refine wp_cond_false F8.s123 (wp_skip ?_)
  refine wp_seq (wp_seq (reg_mono (rr_r12 (by kernel_rfl) _ F8 rfl D1 ?_)))
  intro a9 F9
  refine wp_block ?_
  obtain ⟨k5, hk5⟩ : ∃ q, (k == 5) = q := ⟨_, rfl⟩
  refine wp_seq (reg_mono (rr_r13 (by kernel_rfl) _ F9 rfl hk5 ?_))
  intro a10 F10
  cases k5 with
  | true =>
    have hk : k = 5 := by simpa using hk5
    refine wp_cond_true F10.s129 ?_
    refine wp_seq (reg_mono (rr_r14 (bb := rr) (by kernel_rfl) _ F10 rfl D1 (by rw [hE]; unfold manyR; rw [if_pos hk]) ?_))
    intro a11 F11
    refine wp_ret ?_
    exact rr_ret (R := fun e w' => e = .returned (.bool rr) ∧ Below w.heap.size w w') F11 rfl ⟨rfl, B1⟩
  | false =>
  have hk : k ≠ 5 := by simpa using hk5
  refine wp_cond_false F10.s129 ?_
  refine wp_mid (fun a' W => (∃ v, Frr a' v ∧ v.v1 = .pointer (some ⟨b, 0, none⟩) ∧ v.v128 = .int .i64 k ∧ v.v139 = .bool (decide (k = 10 ∨ k = 11))) ∧ W = w1) ?ten ?_
  case ten =>
    obtain ⟨k10, hk10⟩ : ∃ q, (k == 10) = q := ⟨_, rfl⟩
    refine wp_seq (reg_mono (rr_r15 (by kernel_rfl) _ F10 rfl hk10 ?_))
    intro a11 F11
    cases k10 with
    | true =>
      have h10 : k = 10 := by simpa using hk10
      refine wp_cond_true F11.s139 (wp_skip ?_)
      exact ⟨⟨_, F11, rfl, rfl, congrArg Value.bool (decide_eq_true (Or.inl h10)).symm⟩, rfl⟩
    | false =>
      have h10 : k ≠ 10 := by simpa using hk10
      refine wp_cond_false F11.s139 ?_
      obtain ⟨k11, hk11⟩ : ∃ q, (k == 11) = q := ⟨_, rfl⟩
      refine reg_mono (rr_r16 (by kernel_rfl) _ F11 rfl hk11 ?_)
      intro a12 F12
      refine ⟨⟨_, F12, rfl, rfl, ?_⟩, rfl⟩
      show Value.bool k11 = _
      rw [← hk11]
      congr 1
      rw [Bool.eq_iff_iff]
      simp
      omega
  rintro a11 W ⟨⟨v11, F11, p1, p128, p139⟩, rfl⟩
  by_cases ht : k = 10 ∨ k = 11
  · rw [decide_eq_true ht] at p139
    refine wp_cond_true (F11.s139.trans p139) ?_
    refine wp_seq (reg_mono (rr_r17 (bb := rr) (by kernel_rfl) _ F11 p1 D1 (by rw [hE]; unfold manyR; rw [if_neg hk, if_pos ht]) ?_))
    intro a12 F12
    refine wp_ret ?_
    exact rr_ret (R := fun e w' => e = .returned (.bool rr) ∧ Below w.heap.size w w') F12 rfl ⟨rfl, B1⟩
  · rw [decide_eq_false ht] at p139
    refine wp_cond_false (F11.s139.trans p139) ?_
    obtain ⟨k3, hk3⟩ : ∃ q, (k == 3) = q := ⟨_, rfl⟩
    refine wp_seq (reg_mono (rr_r18 (by kernel_rfl) _ F11 p128 hk3 ?_))
    intro a12 F12
    cases k3 with
    | true =>
      have h3 : k = 3 := by simpa using hk3
      refine wp_cond_true F12.s150 ?_
      refine wp_seq (reg_mono (rr_r19 (by kernel_rfl) _ F12 ?_))
      intro a13 F13
      refine wp_ret ?_
      exact rr_ret (R := fun e w' => e = .returned (.bool rr) ∧ Below w.heap.size w w') F13 rfl ⟨by rw [hE]; unfold manyR; rw [if_neg hk, if_neg ht, if_pos h3], B1⟩
    | false =>
      have h3 : k ≠ 3 := by simpa using hk3
      refine wp_cond_false F12.s150 (wp_skip ?_)
      show Code.wp _ _ _ _ _
      refine wp_seq (reg_mono (rr_r20 (bb := rr) (by kernel_rfl) _ F12 p1 D1 (by rw [hE]; unfold manyR; rw [if_neg hk, if_neg ht, if_neg h3]) ?_))
      intro a13 F13
      refine wp_ret ?_
      exact rr_ret F13 rfl ⟨rfl, B1⟩
end Go.Proofs.YthfflefnapbkiaaGreatDoor
