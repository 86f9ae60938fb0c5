/-
  carillonref14's Right: its regions (mkrr.py)
-/
import Derived.Test.YtlfodldlkchmoaaGreatZRA
namespace Go.Proofs.YtlfodldlkchmoaaGreat
open Go.RowKit
set_option maxHeartbeats 8000000
set_option maxRecDepth 100000
attribute [local go_sem ↓] Go.wp_at_zero Go.wp_at_succ
set_option linter.unusedSimpArgs false
set_option linter.unusedVariables false
theorem frame_rr (t : Array Value) (h : t.size = 155) : ∃ u : Nat → Value, t = List.toArray (u 0 :: u 1 :: u 2 :: u 3 :: u 4 :: u 5 :: u 6 :: u 7 :: u 8 :: u 9 :: u 10 :: u 11 :: u 12 :: u 13 :: u 14 :: u 15 :: u 16 :: u 17 :: u 18 :: u 19 :: u 20 :: u 21 :: u 22 :: u 23 :: u 24 :: u 25 :: u 26 :: u 27 :: u 28 :: u 29 :: u 30 :: u 31 :: u 32 :: u 33 :: u 34 :: u 35 :: u 36 :: u 37 :: u 38 :: u 39 :: u 40 :: u 41 :: u 42 :: u 43 :: u 44 :: u 45 :: u 46 :: u 47 :: u 48 :: u 49 :: u 50 :: u 51 :: u 52 :: u 53 :: u 54 :: u 55 :: u 56 :: u 57 :: u 58 :: u 59 :: u 60 :: u 61 :: u 62 :: u 63 :: u 64 :: u 65 :: u 66 :: u 67 :: u 68 :: u 69 :: u 70 :: u 71 :: u 72 :: u 73 :: u 74 :: u 75 :: u 76 :: u 77 :: u 78 :: u 79 :: u 80 :: u 81 :: u 82 :: u 83 :: u 84 :: u 85 :: u 86 :: u 87 :: u 88 :: u 89 :: u 90 :: u 91 :: u 92 :: u 93 :: u 94 :: u 95 :: u 96 :: u 97 :: u 98 :: u 99 :: u 100 :: u 101 :: u 102 :: u 103 :: u 104 :: u 105 :: u 106 :: u 107 :: u 108 :: u 109 :: u 110 :: u 111 :: u 112 :: u 113 :: u 114 :: u 115 :: u 116 :: u 117 :: u 118 :: u 119 :: u 120 :: u 121 :: u 122 :: u 123 :: u 124 :: u 125 :: u 126 :: u 127 :: u 128 :: u 129 :: u 130 :: u 131 :: u 132 :: u 133 :: u 134 :: u 135 :: u 136 :: u 137 :: u 138 :: u 139 :: u 140 :: u 141 :: u 142 :: u 143 :: u 144 :: u 145 :: u 146 :: u 147 :: u 148 :: u 149 :: u 150 :: u 151 :: u 152 :: u 153 :: u 154 :: []) := by
  refine ⟨fun i => t.getD i undef, ?_⟩
  refine Eq.trans (b := ((List.range 155).map fun i => t.getD i undef).toArray) ?_ rfl
  apply Array.ext
  · simp [h]
  · intro k h1 h2
    simp [Array.getD, h1]
structure Vrr where
  v0 : Value
  v1 : Value
  v2 : Value
  v3 : Value
  v4 : Value
  v5 : Value
  v6 : Value
  v7 : Value
  v8 : Value
  v9 : Value
  v60 : Value
  v92 : Value
  v121 : Value
  v123 : Value
  v128 : Value
  v129 : Value
  v139 : Value
  v150 : Value
structure Frr (a : Act) (v : Vrr) : Prop where
  size : a.tmps.size = 155
  defers : a.defers = []
  s0 : a.tmps.getD 0 undef = v.v0
  s1 : a.tmps.getD 1 undef = v.v1
  s2 : a.tmps.getD 2 undef = v.v2
  s3 : a.tmps.getD 3 undef = v.v3
  s4 : a.tmps.getD 4 undef = v.v4
  s5 : a.tmps.getD 5 undef = v.v5
  s6 : a.tmps.getD 6 undef = v.v6
  s7 : a.tmps.getD 7 undef = v.v7
  s8 : a.tmps.getD 8 undef = v.v8
  s9 : a.tmps.getD 9 undef = v.v9
  s60 : a.tmps.getD 60 undef = v.v60
  s92 : a.tmps.getD 92 undef = v.v92
  s121 : a.tmps.getD 121 undef = v.v121
  s123 : a.tmps.getD 123 undef = v.v123
  s128 : a.tmps.getD 128 undef = v.v128
  s129 : a.tmps.getD 129 undef = v.v129
  s139 : a.tmps.getD 139 undef = v.v139
  s150 : a.tmps.getD 150 undef = v.v150
theorem frx_rr {a : Act} {v0 v1 v2 v3 v4 v5 v6 v7 v8 v9 v60 v92 v121 v123 v128 v129 v139 v150 : Value} (h : Frr a ⟨v0, v1, v2, v3, v4, v5, v6, v7, v8, v9, v60, v92, v121, v123, v128, v129, v139, v150⟩) : ∃ u : Nat → Value, a = ⟨List.toArray (v0 :: v1 :: v2 :: v3 :: v4 :: v5 :: v6 :: v7 :: v8 :: v9 :: u 10 :: u 11 :: u 12 :: u 13 :: u 14 :: u 15 :: u 16 :: u 17 :: u 18 :: u 19 :: u 20 :: u 21 :: u 22 :: u 23 :: u 24 :: u 25 :: u 26 :: u 27 :: u 28 :: u 29 :: u 30 :: u 31 :: u 32 :: u 33 :: u 34 :: u 35 :: u 36 :: u 37 :: u 38 :: u 39 :: u 40 :: u 41 :: u 42 :: u 43 :: u 44 :: u 45 :: u 46 :: u 47 :: u 48 :: u 49 :: u 50 :: u 51 :: u 52 :: u 53 :: u 54 :: u 55 :: u 56 :: u 57 :: u 58 :: u 59 :: v60 :: u 61 :: u 62 :: u 63 :: u 64 :: u 65 :: u 66 :: u 67 :: u 68 :: u 69 :: u 70 :: u 71 :: u 72 :: u 73 :: u 74 :: u 75 :: u 76 :: u 77 :: u 78 :: u 79 :: u 80 :: u 81 :: u 82 :: u 83 :: u 84 :: u 85 :: u 86 :: u 87 :: u 88 :: u 89 :: u 90 :: u 91 :: v92 :: u 93 :: u 94 :: u 95 :: u 96 :: u 97 :: u 98 :: u 99 :: u 100 :: u 101 :: u 102 :: u 103 :: u 104 :: u 105 :: u 106 :: u 107 :: u 108 :: u 109 :: u 110 :: u 111 :: u 112 :: u 113 :: u 114 :: u 115 :: u 116 :: u 117 :: u 118 :: u 119 :: u 120 :: v121 :: u 122 :: v123 :: u 124 :: u 125 :: u 126 :: u 127 :: v128 :: v129 :: u 130 :: u 131 :: u 132 :: u 133 :: u 134 :: u 135 :: u 136 :: u 137 :: u 138 :: v139 :: u 140 :: u 141 :: u 142 :: u 143 :: u 144 :: u 145 :: u 146 :: u 147 :: u 148 :: u 149 :: v150 :: u 151 :: u 152 :: u 153 :: u 154 :: []), []⟩ := by
  obtain ⟨t', d'⟩ := a
  obtain ⟨hs, hd, q0, q1, q2, q3, q4, q5, q6, q7, q8, q9, q60, q92, q121, q123, q128, q129, q139, q150⟩ := h
  obtain ⟨u, hu⟩ := frame_rr t' hs
  simp only at hd q0 q1 q2 q3 q4 q5 q6 q7 q8 q9 q60 q92 q121 q123 q128 q129 q139 q150
  subst hu hd
  have e0 : u 0 = v0 := q0
  have e1 : u 1 = v1 := q1
  have e2 : u 2 = v2 := q2
  have e3 : u 3 = v3 := q3
  have e4 : u 4 = v4 := q4
  have e5 : u 5 = v5 := q5
  have e6 : u 6 = v6 := q6
  have e7 : u 7 = v7 := q7
  have e8 : u 8 = v8 := q8
  have e9 : u 9 = v9 := q9
  have e60 : u 60 = v60 := q60
  have e92 : u 92 = v92 := q92
  have e121 : u 121 = v121 := q121
  have e123 : u 123 = v123 := q123
  have e128 : u 128 = v128 := q128
  have e129 : u 129 = v129 := q129
  have e139 : u 139 = v139 := q139
  have e150 : u 150 = v150 := q150
  refine ⟨u, ?_⟩
  rw [e0, e1, e2, e3, e4, e5, e6, e7, e8, e9, e60, e92, e121, e123, e128, e129, e139, e150]
theorem rr_r1 {K : Act → World → Prop} {c : Code} (hc : regOf (Tryz.f45.body.getD .skip) 1 = some c) (a : Act) {v : Vrr} {wq : World} {b : Nat} {xk xs xn xo xa : Int} {xt xm xy xv : ByteArray} {p1 p2 p3 p4 p5 : Bool} (hF : Frr a v) (h1v : v.v1 = .pointer (some ⟨b, 0, none⟩)) (hB : wq.heap[b]? = some (.cells #[.int .i64 xk, .string xt, .string xm, .int .i64 xs, .string xy, .string xv, .int .i64 xn, .int .i64 xo, .int .i64 xa] 31 (0, 0))) (hC : ∀ W, Calls Tryz.prog 90 #[.int .i64 xk] W fun e w' => e = .returned (.tuple #[.bool p1, .bool p2, .bool p3, .bool p4, .bool p5]) ∧ w' = W)
    (hQ : ∀ a', Frr a' { v with v3 := .bool p1, v4 := .bool p2, v5 := .bool p3, v6 := .bool p4, v7 := .bool p5 } → K a' wq) :
    Code.wp Tryz.prog c (Exit.then K fun _ _ _ => False) a wq := by
  have HQ := hide hQ
  clear hQ
  obtain ⟨v0, v1, v2, v3, v4, v5, v6, v7, v8, v9, v60, v92, v121, v123, v128, v129, v139, v150⟩ := v
  simp only at h1v HQ
  subst h1v
  obtain ⟨u, rfl⟩ := frx_rr hF
  clear hF
  simp only [Tryz.f45, Option.getD_some, regOf] at hc
  injection hc with hc
  subst hc
  have HC := hide hC
  have c0 := box_cell hB 0 rfl
  clear hC hB
  go_wp2_with (go_at_call 90; refine (HC.out _).mono ?_; rintro e w' ⟨rfl, rfl⟩)
  exact HQ.out _ ⟨rfl, rfl, rfl, rfl, rfl, rfl, rfl, rfl, rfl, rfl, rfl, rfl, rfl, rfl, rfl, rfl, rfl, rfl, rfl, rfl⟩
theorem rr_r2 {K : Act → World → Prop} {c : Code} (hc : regOf (Tryz.f45.body.getD .skip) 2 = some c) (a : Act) {v : Vrr} {wq : World} {b : Nat} {xk xs xn xo xa : Int} {xt xm xy xv : ByteArray} {p bb : Bool} (hF : Frr a v) (h1v : v.v1 = .pointer (some ⟨b, 0, none⟩)) (h7v : v.v7 = .bool p) (hB : wq.heap[b]? = some (.cells #[.int .i64 xk, .string xt, .string xm, .int .i64 xs, .string xy, .string xv, .int .i64 xn, .int .i64 xo, .int .i64 xa] 31 (0, 0))) (hbb : bb = !(p && decide (0 ≤ xo ∧ xo ≤ 6 ∧ 0 ≤ xa ∧ xa ≤ 9007199254740991 ∧ 0 ≤ xs ∧ xs ≤ 9007199254740991 ∧ -1 ≤ xn ∧ xn ≤ 9007199254740991)))
    (hQ : ∀ a', Frr a' { v with v60 := .bool bb } → K a' wq) :
    Code.wp Tryz.prog c (Exit.then K fun _ _ _ => False) a wq := by
  have HQ := hide hQ
  clear hQ
  obtain ⟨v0, v1, v2, v3, v4, v5, v6, v7, v8, v9, v60, v92, v121, v123, v128, v129, v139, v150⟩ := v
  simp only at h1v h7v HQ
  subst h1v h7v
  obtain ⟨u, rfl⟩ := frx_rr hF
  clear hF
  simp only [Tryz.f45, Option.getD_some, regOf] at hc
  injection hc with hc
  subst hc
  have c0 := box_cell hB 0 rfl
  have c1 := box_cell hB 1 rfl
  have c2 := box_cell hB 2 rfl
  have c3 := box_cell hB 3 rfl
  have c4 := box_cell hB 4 rfl
  have c5 := box_cell hB 5 rfl
  have c6 := box_cell hB 6 rfl
  have c7 := box_cell hB 7 rfl
  have c8 := box_cell hB 8 rfl
  clear hB
  cases p
  · obtain rfl : bb = true := hbb
    go_wp2
    exact HQ.out _ ⟨rfl, rfl, rfl, rfl, rfl, rfl, rfl, rfl, rfl, rfl, rfl, rfl, rfl, rfl, rfl, rfl, rfl, rfl, rfl, rfl⟩
  · skip
    by_cases g0 : xo < 0
    · obtain rfl : bb = true := by rw [hbb]; simp; omega
      clear hbb
      go_wp2
      exact HQ.out _ ⟨rfl, rfl, rfl, rfl, rfl, rfl, rfl, rfl, rfl, rfl, rfl, rfl, rfl, rfl, rfl, rfl, rfl, rfl, rfl, rfl⟩
    · skip
      by_cases g1 : xo > 6
      · obtain rfl : bb = true := by rw [hbb]; simp; omega
        clear hbb
        go_wp2
        exact HQ.out _ ⟨rfl, rfl, rfl, rfl, rfl, rfl, rfl, rfl, rfl, rfl, rfl, rfl, rfl, rfl, rfl, rfl, rfl, rfl, rfl, rfl⟩
      · skip
        by_cases g2 : xa < 0
        · obtain rfl : bb = true := by rw [hbb]; simp; omega
          clear hbb
          go_wp2
          exact HQ.out _ ⟨rfl, rfl, rfl, rfl, rfl, rfl, rfl, rfl, rfl, rfl, rfl, rfl, rfl, rfl, rfl, rfl, rfl, rfl, rfl, rfl⟩
        · skip
          by_cases g3 : xa > 9007199254740991
          · obtain rfl : bb = true := by rw [hbb]; simp; omega
            clear hbb
            go_wp2
            exact HQ.out _ ⟨rfl, rfl, rfl, rfl, rfl, rfl, rfl, rfl, rfl, rfl, rfl, rfl, rfl, rfl, rfl, rfl, rfl, rfl, rfl, rfl⟩
          · skip
            by_cases g4 : xs < 0
            · obtain rfl : bb = true := by rw [hbb]; simp; omega
              clear hbb
              go_wp2
              exact HQ.out _ ⟨rfl, rfl, rfl, rfl, rfl, rfl, rfl, rfl, rfl, rfl, rfl, rfl, rfl, rfl, rfl, rfl, rfl, rfl, rfl, rfl⟩
            · skip
              by_cases g5 : xs > 9007199254740991
              · obtain rfl : bb = true := by rw [hbb]; simp; omega
                clear hbb
                go_wp2
                exact HQ.out _ ⟨rfl, rfl, rfl, rfl, rfl, rfl, rfl, rfl, rfl, rfl, rfl, rfl, rfl, rfl, rfl, rfl, rfl, rfl, rfl, rfl⟩
              · skip
                by_cases g6 : xn < -1
                · obtain rfl : bb = true := by rw [hbb]; simp; omega
                  clear hbb
                  go_wp2
                  exact HQ.out _ ⟨rfl, rfl, rfl, rfl, rfl, rfl, rfl, rfl, rfl, rfl, rfl, rfl, rfl, rfl, rfl, rfl, rfl, rfl, rfl, rfl⟩
                · skip
                  by_cases g7 : xn > 9007199254740991
                  · obtain rfl : bb = true := by rw [hbb]; simp; omega
                    clear hbb
                    go_wp2
                    exact HQ.out _ ⟨rfl, rfl, rfl, rfl, rfl, rfl, rfl, rfl, rfl, rfl, rfl, rfl, rfl, rfl, rfl, rfl, rfl, rfl, rfl, rfl⟩
                  · skip
                    obtain rfl : bb = false := by rw [hbb]; simp; omega
                    clear hbb
                    go_wp2
                    exact HQ.out _ ⟨rfl, rfl, rfl, rfl, rfl, rfl, rfl, rfl, rfl, rfl, rfl, rfl, rfl, rfl, rfl, rfl, rfl, rfl, rfl, rfl⟩
theorem rr_r4 {K : Act → World → Prop} {c : Code} (hc : regOf (Tryz.f45.body.getD .skip) 4 = some c) (a : Act) {v : Vrr} {wq : World} {b : Nat} {xk xs xn xo xa : Int} {xt xm xy xv : ByteArray} {p : Bool} (hF : Frr a v) (h1v : v.v1 = .pointer (some ⟨b, 0, none⟩)) (hB : wq.heap[b]? = some (.cells #[.int .i64 xk, .string xt, .string xm, .int .i64 xs, .string xy, .string xv, .int .i64 xn, .int .i64 xo, .int .i64 xa] 31 (0, 0))) (hC : ∀ W, Calls Tryz.prog 91 #[.string xt] W fun e w' => e = .returned (.bool p) ∧ w' = W)
    (hQ : ∀ a', Frr a' { v with v8 := .bool p } → K a' wq) :
    Code.wp Tryz.prog c (Exit.then K fun _ _ _ => False) a wq := by
  have HQ := hide hQ
  clear hQ
  obtain ⟨v0, v1, v2, v3, v4, v5, v6, v7, v8, v9, v60, v92, v121, v123, v128, v129, v139, v150⟩ := v
  simp only at h1v HQ
  subst h1v
  obtain ⟨u, rfl⟩ := frx_rr hF
  clear hF
  simp only [Tryz.f45, Option.getD_some, regOf] at hc
  injection hc with hc
  subst hc
  have HC := hide hC
  have c1 := box_cell hB 1 rfl
  clear hC hB
  go_wp2_with (go_at_call 91; refine (HC.out _).mono ?_; rintro e w' ⟨rfl, rfl⟩)
  exact HQ.out _ ⟨rfl, rfl, rfl, rfl, rfl, rfl, rfl, rfl, rfl, rfl, rfl, rfl, rfl, rfl, rfl, rfl, rfl, rfl, rfl, rfl⟩
theorem rr_r5 {K : Act → World → Prop} {c : Code} (hc : regOf (Tryz.f45.body.getD .skip) 5 = some c) (a : Act) {v : Vrr} {wq : World} {b : Nat} {xk xs xn xo xa : Int} {xt xm xy xv : ByteArray} {p : Bool} (hF : Frr a v) (h1v : v.v1 = .pointer (some ⟨b, 0, none⟩)) (hB : wq.heap[b]? = some (.cells #[.int .i64 xk, .string xt, .string xm, .int .i64 xs, .string xy, .string xv, .int .i64 xn, .int .i64 xo, .int .i64 xa] 31 (0, 0))) (hC : ∀ W, Calls Tryz.prog 91 #[.string xm] W fun e w' => e = .returned (.bool p) ∧ w' = W)
    (hQ : ∀ a', Frr a' { v with v9 := .bool p } → K a' wq) :
    Code.wp Tryz.prog c (Exit.then K fun _ _ _ => False) a wq := by
  have HQ := hide hQ
  clear hQ
  obtain ⟨v0, v1, v2, v3, v4, v5, v6, v7, v8, v9, v60, v92, v121, v123, v128, v129, v139, v150⟩ := v
  simp only at h1v HQ
  subst h1v
  obtain ⟨u, rfl⟩ := frx_rr hF
  clear hF
  simp only [Tryz.f45, Option.getD_some, regOf] at hc
  injection hc with hc
  subst hc
  have HC := hide hC
  have c1 := box_cell hB 2 rfl
  clear hC hB
  go_wp2_with (go_at_call 91; refine (HC.out _).mono ?_; rintro e w' ⟨rfl, rfl⟩)
  exact HQ.out _ ⟨rfl, rfl, rfl, rfl, rfl, rfl, rfl, rfl, rfl, rfl, rfl, rfl, rfl, rfl, rfl, rfl, rfl, rfl, rfl, rfl⟩
theorem rr_r6 {K : Act → World → Prop} {c : Code} (hc : regOf (Tryz.f45.body.getD .skip) 6 = some c) (a : Act) {v : Vrr} {wq : World} {b : Nat} {xk xs xn xo xa : Int} {xt xm xy xv : ByteArray} {tp nm on tw et en bb : Bool} (hF : Frr a v) (h1v : v.v1 = .pointer (some ⟨b, 0, none⟩)) (h3v : v.v3 = .bool tp) (h4v : v.v4 = .bool nm) (h8v : v.v8 = .bool on) (h9v : v.v9 = .bool tw) (hB : wq.heap[b]? = some (.cells #[.int .i64 xk, .string xt, .string xm, .int .i64 xs, .string xy, .string xv, .int .i64 xn, .int .i64 xo, .int .i64 xa] 31 (0, 0))) (ht : xt.toList.isEmpty = et) (hm : xm.toList.isEmpty = en) (hbb : bb = !((tp == on) && ((tp || et) && ((nm == tw) && (nm || en)))))
    (hQ : ∀ a', Frr a' { v with v92 := .bool bb } → K a' wq) :
    Code.wp Tryz.prog c (Exit.then K fun _ _ _ => False) a wq := by
  have HQ := hide hQ
  clear hQ
  obtain ⟨v0, v1, v2, v3, v4, v5, v6, v7, v8, v9, v60, v92, v121, v123, v128, v129, v139, v150⟩ := v
  simp only at h1v h3v h4v h8v h9v HQ
  subst h1v h3v h4v h8v h9v
  obtain ⟨u, rfl⟩ := frx_rr hF
  clear hF
  simp only [Tryz.f45, Option.getD_some, regOf] at hc
  injection hc with hc
  subst hc
  have c0 := box_cell hB 0 rfl
  have c1 := box_cell hB 1 rfl
  have c2 := box_cell hB 2 rfl
  have c3 := box_cell hB 3 rfl
  have c4 := box_cell hB 4 rfl
  have c5 := box_cell hB 5 rfl
  have c6 := box_cell hB 6 rfl
  have c7 := box_cell hB 7 rfl
  have c8 := box_cell hB 8 rfl
  clear hB
  cases tp
  · cases on
    · cases et
      · obtain rfl : bb = true := by rw [hbb]; first | rfl | (simp_all; done)
        clear hbb
        go_wp2
        exact HQ.out _ ⟨rfl, rfl, rfl, rfl, rfl, rfl, rfl, rfl, rfl, rfl, rfl, rfl, rfl, rfl, rfl, rfl, rfl, rfl, rfl, rfl⟩
      · cases nm
        · cases tw
          · cases en
            · obtain rfl : bb = true := by rw [hbb]; first | rfl | (simp_all; done)
              clear hbb
              go_wp2
              exact HQ.out _ ⟨rfl, rfl, rfl, rfl, rfl, rfl, rfl, rfl, rfl, rfl, rfl, rfl, rfl, rfl, rfl, rfl, rfl, rfl, rfl, rfl⟩
            · obtain rfl : bb = false := by rw [hbb]; first | rfl | (simp_all; done)
              clear hbb
              go_wp2
              exact HQ.out _ ⟨rfl, rfl, rfl, rfl, rfl, rfl, rfl, rfl, rfl, rfl, rfl, rfl, rfl, rfl, rfl, rfl, rfl, rfl, rfl, rfl⟩
          · obtain rfl : bb = true := by rw [hbb]; first | rfl | (simp_all; done)
            clear hbb
            go_wp2
            exact HQ.out _ ⟨rfl, rfl, rfl, rfl, rfl, rfl, rfl, rfl, rfl, rfl, rfl, rfl, rfl, rfl, rfl, rfl, rfl, rfl, rfl, rfl⟩
        · cases tw
          · obtain rfl : bb = true := by rw [hbb]; first | rfl | (simp_all; done)
            clear hbb
            go_wp2
            exact HQ.out _ ⟨rfl, rfl, rfl, rfl, rfl, rfl, rfl, rfl, rfl, rfl, rfl, rfl, rfl, rfl, rfl, rfl, rfl, rfl, rfl, rfl⟩
          · obtain rfl : bb = false := by rw [hbb]; first | rfl | (simp_all; done)
            clear hbb
            go_wp2
            exact HQ.out _ ⟨rfl, rfl, rfl, rfl, rfl, rfl, rfl, rfl, rfl, rfl, rfl, rfl, rfl, rfl, rfl, rfl, rfl, rfl, rfl, rfl⟩
    · obtain rfl : bb = true := by rw [hbb]; first | rfl | (simp_all; done)
      clear hbb
      go_wp2
      exact HQ.out _ ⟨rfl, rfl, rfl, rfl, rfl, rfl, rfl, rfl, rfl, rfl, rfl, rfl, rfl, rfl, rfl, rfl, rfl, rfl, rfl, rfl⟩
  · cases on
    · obtain rfl : bb = true := by rw [hbb]; first | rfl | (simp_all; done)
      clear hbb
      go_wp2
      exact HQ.out _ ⟨rfl, rfl, rfl, rfl, rfl, rfl, rfl, rfl, rfl, rfl, rfl, rfl, rfl, rfl, rfl, rfl, rfl, rfl, rfl, rfl⟩
    · cases nm
      · cases tw
        · cases en
          · obtain rfl : bb = true := by rw [hbb]; first | rfl | (simp_all; done)
            clear hbb
            go_wp2
            exact HQ.out _ ⟨rfl, rfl, rfl, rfl, rfl, rfl, rfl, rfl, rfl, rfl, rfl, rfl, rfl, rfl, rfl, rfl, rfl, rfl, rfl, rfl⟩
          · obtain rfl : bb = false := by rw [hbb]; first | rfl | (simp_all; done)
            clear hbb
            go_wp2
            exact HQ.out _ ⟨rfl, rfl, rfl, rfl, rfl, rfl, rfl, rfl, rfl, rfl, rfl, rfl, rfl, rfl, rfl, rfl, rfl, rfl, rfl, rfl⟩
        · obtain rfl : bb = true := by rw [hbb]; first | rfl | (simp_all; done)
          clear hbb
          go_wp2
          exact HQ.out _ ⟨rfl, rfl, rfl, rfl, rfl, rfl, rfl, rfl, rfl, rfl, rfl, rfl, rfl, rfl, rfl, rfl, rfl, rfl, rfl, rfl⟩
      · cases tw
        · obtain rfl : bb = true := by rw [hbb]; first | rfl | (simp_all; done)
          clear hbb
          go_wp2
          exact HQ.out _ ⟨rfl, rfl, rfl, rfl, rfl, rfl, rfl, rfl, rfl, rfl, rfl, rfl, rfl, rfl, rfl, rfl, rfl, rfl, rfl, rfl⟩
        · obtain rfl : bb = false := by rw [hbb]; first | rfl | (simp_all; done)
          clear hbb
          go_wp2
          exact HQ.out _ ⟨rfl, rfl, rfl, rfl, rfl, rfl, rfl, rfl, rfl, rfl, rfl, rfl, rfl, rfl, rfl, rfl, rfl, rfl, rfl, rfl⟩
theorem rr_r8 {K : Act → World → Prop} {c : Code} (hc : regOf (Tryz.f45.body.getD .skip) 8 = some c) (a : Act) {v : Vrr} {wq : World} {b : Nat} {xk xs xn xo xa : Int} {xt xm xy xv : ByteArray} {pb sz ey ev bb : Bool} (hF : Frr a v) (h1v : v.v1 = .pointer (some ⟨b, 0, none⟩)) (h5v : v.v5 = .bool pb) (hB : wq.heap[b]? = some (.cells #[.int .i64 xk, .string xt, .string xm, .int .i64 xs, .string xy, .string xv, .int .i64 xn, .int .i64 xo, .int .i64 xa] 31 (0, 0))) (hs : (xs != 0) = !sz) (hy : xy.toList.isEmpty = ey) (hv : xv.toList.isEmpty = ev) (y6 : xy.size ≤ 9223372036854775807) (v6 : xv.size ≤ 9223372036854775807) (hbb : bb = !((pb || (sz && (ey && ev))) && (decide (xy.size ≤ 100) && decide (xv.size ≤ 1000))))
    (hQ : ∀ a', Frr a' { v with v121 := .bool bb } → K a' wq) :
    Code.wp Tryz.prog c (Exit.then K fun _ _ _ => False) a wq := by
  have HQ := hide hQ
  clear hQ
  obtain ⟨v0, v1, v2, v3, v4, v5, v6, v7, v8, v9, v60, v92, v121, v123, v128, v129, v139, v150⟩ := v
  simp only at h1v h5v HQ
  subst h1v h5v
  obtain ⟨u, rfl⟩ := frx_rr hF
  clear hF
  simp only [Tryz.f45, Option.getD_some, regOf] at hc
  injection hc with hc
  subst hc
  have c0 := box_cell hB 0 rfl
  have c1 := box_cell hB 1 rfl
  have c2 := box_cell hB 2 rfl
  have c3 := box_cell hB 3 rfl
  have c4 := box_cell hB 4 rfl
  have c5 := box_cell hB 5 rfl
  have c6 := box_cell hB 6 rfl
  have c7 := box_cell hB 7 rfl
  have c8 := box_cell hB 8 rfl
  clear hB
  cases pb
  · cases sz
    · obtain rfl : bb = true := by rw [hbb]; simp
      clear hbb
      go_wp2
      exact HQ.out _ ⟨rfl, rfl, rfl, rfl, rfl, rfl, rfl, rfl, rfl, rfl, rfl, rfl, rfl, rfl, rfl, rfl, rfl, rfl, rfl, rfl⟩
    · cases ey
      · obtain rfl : bb = true := by rw [hbb]; simp
        clear hbb
        go_wp2
        exact HQ.out _ ⟨rfl, rfl, rfl, rfl, rfl, rfl, rfl, rfl, rfl, rfl, rfl, rfl, rfl, rfl, rfl, rfl, rfl, rfl, rfl, rfl⟩
      · cases ev
        · obtain rfl : bb = true := by rw [hbb]; simp
          clear hbb
          go_wp2
          exact HQ.out _ ⟨rfl, rfl, rfl, rfl, rfl, rfl, rfl, rfl, rfl, rfl, rfl, rfl, rfl, rfl, rfl, rfl, rfl, rfl, rfl, rfl⟩
        · by_cases l1 : (xy.size : Int) > 100
          · obtain rfl : bb = true := by rw [hbb]; simp [show ¬ xy.size ≤ 100 by omega]
            clear hbb
            go_wp2
            exact HQ.out _ ⟨rfl, rfl, rfl, rfl, rfl, rfl, rfl, rfl, rfl, rfl, rfl, rfl, rfl, rfl, rfl, rfl, rfl, rfl, rfl, rfl⟩
          · by_cases l2 : (xv.size : Int) > 1000
            · obtain rfl : bb = true := by rw [hbb]; simp [show ¬ xv.size ≤ 1000 by omega]
              clear hbb
              go_wp2
              exact HQ.out _ ⟨rfl, rfl, rfl, rfl, rfl, rfl, rfl, rfl, rfl, rfl, rfl, rfl, rfl, rfl, rfl, rfl, rfl, rfl, rfl, rfl⟩
            · obtain rfl : bb = false := by rw [hbb]; simp [show xy.size ≤ 100 by omega, show xv.size ≤ 1000 by omega]
              clear hbb
              go_wp2
              exact HQ.out _ ⟨rfl, rfl, rfl, rfl, rfl, rfl, rfl, rfl, rfl, rfl, rfl, rfl, rfl, rfl, rfl, rfl, rfl, rfl, rfl, rfl⟩
  · by_cases l1 : (xy.size : Int) > 100
    · obtain rfl : bb = true := by rw [hbb]; simp [show ¬ xy.size ≤ 100 by omega]
      clear hbb
      go_wp2
      exact HQ.out _ ⟨rfl, rfl, rfl, rfl, rfl, rfl, rfl, rfl, rfl, rfl, rfl, rfl, rfl, rfl, rfl, rfl, rfl, rfl, rfl, rfl⟩
    · by_cases l2 : (xv.size : Int) > 1000
      · obtain rfl : bb = true := by rw [hbb]; simp [show ¬ xv.size ≤ 1000 by omega]
        clear hbb
        go_wp2
        exact HQ.out _ ⟨rfl, rfl, rfl, rfl, rfl, rfl, rfl, rfl, rfl, rfl, rfl, rfl, rfl, rfl, rfl, rfl, rfl, rfl, rfl, rfl⟩
      · obtain rfl : bb = false := by rw [hbb]; simp [show xy.size ≤ 100 by omega, show xv.size ≤ 1000 by omega]
        clear hbb
        go_wp2
        exact HQ.out _ ⟨rfl, rfl, rfl, rfl, rfl, rfl, rfl, rfl, rfl, rfl, rfl, rfl, rfl, rfl, rfl, rfl, rfl, rfl, rfl, rfl⟩
theorem rr_r10 {K : Act → World → Prop} {c : Code} (hc : regOf (Tryz.f45.body.getD .skip) 10 = some c) (a : Act) {v : Vrr} {wq : World} {p : Bool} (hF : Frr a v) (h6v : v.v6 = .bool p) (hQ : ∀ a', Frr a' { v with v123 := .bool (!p) } → K a' wq) :
    Code.wp Tryz.prog c (Exit.then K fun _ _ _ => False) a wq := by
  have HQ := hide hQ
  clear hQ
  obtain ⟨v0, v1, v2, v3, v4, v5, v6, v7, v8, v9, v60, v92, v121, v123, v128, v129, v139, v150⟩ := v
  simp only at h6v HQ
  subst h6v
  obtain ⟨u, rfl⟩ := frx_rr hF
  clear hF
  simp only [Tryz.f45, Option.getD_some, regOf] at hc
  injection hc with hc
  subst hc
  go_wp2
  exact HQ.out _ ⟨rfl, rfl, rfl, rfl, rfl, rfl, rfl, rfl, rfl, rfl, rfl, rfl, rfl, rfl, rfl, rfl, rfl, rfl, rfl, rfl⟩
theorem rr_r11 {K : Act → World → Prop} {c : Code} (hc : regOf (Tryz.f45.body.getD .skip) 11 = some c) (a : Act) {v : Vrr} {wq : World} {b : Nat} {xk xs xn xo xa : Int} {xt xm xy xv : ByteArray} {bb : Bool} (hF : Frr a v) (h1v : v.v1 = .pointer (some ⟨b, 0, none⟩)) (hB : wq.heap[b]? = some (.cells #[.int .i64 xk, .string xt, .string xm, .int .i64 xs, .string xy, .string xv, .int .i64 xn, .int .i64 xo, .int .i64 xa] 31 (0, 0))) (hbb : (xn == 0) = bb)
    (hQ : ∀ a', Frr a' { v with v2 := .bool bb } → K a' wq) :
    Code.wp Tryz.prog c (Exit.then K fun _ _ _ => False) a wq := by
  have HQ := hide hQ
  clear hQ
  obtain ⟨v0, v1, v2, v3, v4, v5, v6, v7, v8, v9, v60, v92, v121, v123, v128, v129, v139, v150⟩ := v
  simp only at h1v HQ
  subst h1v
  obtain ⟨u, rfl⟩ := frx_rr hF
  clear hF
  simp only [Tryz.f45, Option.getD_some, regOf] at hc
  injection hc with hc
  subst hc
  have c6 := box_cell hB 6 rfl
  clear hB
  go_wp2
  exact HQ.out _ ⟨rfl, rfl, rfl, rfl, rfl, rfl, rfl, rfl, rfl, rfl, rfl, rfl, rfl, rfl, rfl, rfl, rfl, rfl, rfl, rfl⟩
theorem rr_r12 {K : Act → World → Prop} {c : Code} (hc : regOf (Tryz.f45.body.getD .skip) 12 = some c) (a : Act) {v : Vrr} {wq : World} {b : Nat} {xk xs xn xo xa : Int} {xt xm xy xv : ByteArray} (hF : Frr a v) (h1v : v.v1 = .pointer (some ⟨b, 0, none⟩)) (hB : wq.heap[b]? = some (.cells #[.int .i64 xk, .string xt, .string xm, .int .i64 xs, .string xy, .string xv, .int .i64 xn, .int .i64 xo, .int .i64 xa] 31 (0, 0)))
    (hQ : ∀ a', Frr a' { v with v128 := .int .i64 xk } → K a' wq) :
    Code.wp Tryz.prog c (Exit.then K fun _ _ _ => False) a wq := by
  have HQ := hide hQ
  clear hQ
  obtain ⟨v0, v1, v2, v3, v4, v5, v6, v7, v8, v9, v60, v92, v121, v123, v128, v129, v139, v150⟩ := v
  simp only at h1v HQ
  subst h1v
  obtain ⟨u, rfl⟩ := frx_rr hF
  clear hF
  simp only [Tryz.f45, Option.getD_some, regOf] at hc
  injection hc with hc
  subst hc
  have c0 := box_cell hB 0 rfl
  clear hB
  go_wp2
  exact HQ.out _ ⟨rfl, rfl, rfl, rfl, rfl, rfl, rfl, rfl, rfl, rfl, rfl, rfl, rfl, rfl, rfl, rfl, rfl, rfl, rfl, rfl⟩
theorem rr_r13 {K : Act → World → Prop} {c : Code} (hc : regOf (Tryz.f45.body.getD .skip) 13 = some c) (a : Act) {v : Vrr} {wq : World} {xk : Int} {bb : Bool} (hF : Frr a v) (h128v : v.v128 = .int .i64 xk) (hbb : (xk == 5) = bb)
    (hQ : ∀ a', Frr a' { v with v129 := .bool bb } → K a' wq) :
    Code.wp Tryz.prog c (Exit.then K fun _ _ _ => False) a wq := by
  have HQ := hide hQ
  clear hQ
  obtain ⟨v0, v1, v2, v3, v4, v5, v6, v7, v8, v9, v60, v92, v121, v123, v128, v129, v139, v150⟩ := v
  simp only at h128v HQ
  subst h128v
  obtain ⟨u, rfl⟩ := frx_rr hF
  clear hF
  simp only [Tryz.f45, Option.getD_some, regOf] at hc
  injection hc with hc
  subst hc
  go_wp2
  exact HQ.out _ ⟨rfl, rfl, rfl, rfl, rfl, rfl, rfl, rfl, rfl, rfl, rfl, rfl, rfl, rfl, rfl, rfl, rfl, rfl, rfl, rfl⟩
theorem rr_r15 {K : Act → World → Prop} {c : Code} (hc : regOf (Tryz.f45.body.getD .skip) 15 = some c) (a : Act) {v : Vrr} {wq : World} {xk : Int} {bb : Bool} (hF : Frr a v) (h128v : v.v128 = .int .i64 xk) (hbb : (xk == 10) = bb)
    (hQ : ∀ a', Frr a' { v with v139 := .bool bb } → K a' wq) :
    Code.wp Tryz.prog c (Exit.then K fun _ _ _ => False) a wq := by
  have HQ := hide hQ
  clear hQ
  obtain ⟨v0, v1, v2, v3, v4, v5, v6, v7, v8, v9, v60, v92, v121, v123, v128, v129, v139, v150⟩ := v
  simp only at h128v HQ
  subst h128v
  obtain ⟨u, rfl⟩ := frx_rr hF
  clear hF
  simp only [Tryz.f45, Option.getD_some, regOf] at hc
  injection hc with hc
  subst hc
  go_wp2
  exact HQ.out _ ⟨rfl, rfl, rfl, rfl, rfl, rfl, rfl, rfl, rfl, rfl, rfl, rfl, rfl, rfl, rfl, rfl, rfl, rfl, rfl, rfl⟩
theorem rr_r16 {K : Act → World → Prop} {c : Code} (hc : regOf (Tryz.f45.body.getD .skip) 16 = some c) (a : Act) {v : Vrr} {wq : World} {xk : Int} {bb : Bool} (hF : Frr a v) (h128v : v.v128 = .int .i64 xk) (hbb : (xk == 11) = bb)
    (hQ : ∀ a', Frr a' { v with v139 := .bool bb } → K a' wq) :
    Code.wp Tryz.prog c (Exit.then K fun _ _ _ => False) a wq := by
  have HQ := hide hQ
  clear hQ
  obtain ⟨v0, v1, v2, v3, v4, v5, v6, v7, v8, v9, v60, v92, v121, v123, v128, v129, v139, v150⟩ := v
  simp only at h128v HQ
  subst h128v
  obtain ⟨u, rfl⟩ := frx_rr hF
  clear hF
  simp only [Tryz.f45, Option.getD_some, regOf] at hc
  injection hc with hc
  subst hc
  go_wp2
  exact HQ.out _ ⟨rfl, rfl, rfl, rfl, rfl, rfl, rfl, rfl, rfl, rfl, rfl, rfl, rfl, rfl, rfl, rfl, rfl, rfl, rfl, rfl⟩
theorem rr_r18 {K : Act → World → Prop} {c : Code} (hc : regOf (Tryz.f45.body.getD .skip) 18 = some c) (a : Act) {v : Vrr} {wq : World} {xk : Int} {bb : Bool} (hF : Frr a v) (h128v : v.v128 = .int .i64 xk) (hbb : (xk == 3) = bb)
    (hQ : ∀ a', Frr a' { v with v150 := .bool bb } → K a' wq) :
    Code.wp Tryz.prog c (Exit.then K fun _ _ _ => False) a wq := by
  have HQ := hide hQ
  clear hQ
  obtain ⟨v0, v1, v2, v3, v4, v5, v6, v7, v8, v9, v60, v92, v121, v123, v128, v129, v139, v150⟩ := v
  simp only at h128v HQ
  subst h128v
  obtain ⟨u, rfl⟩ := frx_rr hF
  clear hF
  simp only [Tryz.f45, Option.getD_some, regOf] at hc
  injection hc with hc
  subst hc
  go_wp2
  exact HQ.out _ ⟨rfl, rfl, rfl, rfl, rfl, rfl, rfl, rfl, rfl, rfl, rfl, rfl, rfl, rfl, rfl, rfl, rfl, rfl, rfl, rfl⟩
theorem rr_r14 {K : Act → World → Prop} {c : Code} (hc : regOf (Tryz.f45.body.getD .skip) 14 = some c) (a : Act) {v : Vrr} {wq : World} {b : Nat} {xk xs xn xo xa : Int} {xt xm xy xv : ByteArray} {bb : Bool} (hF : Frr a v) (h1v : v.v1 = .pointer (some ⟨b, 0, none⟩)) (hB : wq.heap[b]? = some (.cells #[.int .i64 xk, .string xt, .string xm, .int .i64 xs, .string xy, .string xv, .int .i64 xn, .int .i64 xo, .int .i64 xa] 31 (0, 0))) (hbb : bb = (decide (1 ≤ xn) && decide (xn ≤ 50)))
    (hQ : ∀ a', Frr a' { v with v2 := .bool bb } → K a' wq) :
    Code.wp Tryz.prog c (Exit.then K fun _ _ _ => False) a wq := by
  have HQ := hide hQ
  clear hQ
  obtain ⟨v0, v1, v2, v3, v4, v5, v6, v7, v8, v9, v60, v92, v121, v123, v128, v129, v139, v150⟩ := v
  simp only at h1v HQ
  subst h1v
  obtain ⟨u, rfl⟩ := frx_rr hF
  clear hF
  simp only [Tryz.f45, Option.getD_some, regOf] at hc
  injection hc with hc
  subst hc
  have c6 := box_cell hB 6 rfl
  clear hB
  by_cases g1 : xn ≥ 1
  · by_cases g2 : xn ≤ 50
    · obtain rfl : bb = true := by rw [hbb]; simp; omega
      clear hbb
      go_wp2
      exact HQ.out _ ⟨rfl, rfl, rfl, rfl, rfl, rfl, rfl, rfl, rfl, rfl, rfl, rfl, rfl, rfl, rfl, rfl, rfl, rfl, rfl, rfl⟩
    · obtain rfl : bb = false := by rw [hbb]; simp; omega
      clear hbb
      go_wp2
      exact HQ.out _ ⟨rfl, rfl, rfl, rfl, rfl, rfl, rfl, rfl, rfl, rfl, rfl, rfl, rfl, rfl, rfl, rfl, rfl, rfl, rfl, rfl⟩
  · obtain rfl : bb = false := by rw [hbb]; simp; omega
    clear hbb
    go_wp2
    exact HQ.out _ ⟨rfl, rfl, rfl, rfl, rfl, rfl, rfl, rfl, rfl, rfl, rfl, rfl, rfl, rfl, rfl, rfl, rfl, rfl, rfl, rfl⟩
theorem rr_r17 {K : Act → World → Prop} {c : Code} (hc : regOf (Tryz.f45.body.getD .skip) 17 = some c) (a : Act) {v : Vrr} {wq : World} {b : Nat} {xk xs xn xo xa : Int} {xt xm xy xv : ByteArray} {bb : Bool} (hF : Frr a v) (h1v : v.v1 = .pointer (some ⟨b, 0, none⟩)) (hB : wq.heap[b]? = some (.cells #[.int .i64 xk, .string xt, .string xm, .int .i64 xs, .string xy, .string xv, .int .i64 xn, .int .i64 xo, .int .i64 xa] 31 (0, 0))) (hbb : bb = (decide (0 ≤ xn) && decide (xn < 7)))
    (hQ : ∀ a', Frr a' { v with v2 := .bool bb } → K a' wq) :
    Code.wp Tryz.prog c (Exit.then K fun _ _ _ => False) a wq := by
  have HQ := hide hQ
  clear hQ
  obtain ⟨v0, v1, v2, v3, v4, v5, v6, v7, v8, v9, v60, v92, v121, v123, v128, v129, v139, v150⟩ := v
  simp only at h1v HQ
  subst h1v
  obtain ⟨u, rfl⟩ := frx_rr hF
  clear hF
  simp only [Tryz.f45, Option.getD_some, regOf] at hc
  injection hc with hc
  subst hc
  have c6 := box_cell hB 6 rfl
  clear hB
  by_cases g1 : xn ≥ 0
  · by_cases g2 : xn < 7
    · obtain rfl : bb = true := by rw [hbb]; simp; omega
      clear hbb
      go_wp2
      exact HQ.out _ ⟨rfl, rfl, rfl, rfl, rfl, rfl, rfl, rfl, rfl, rfl, rfl, rfl, rfl, rfl, rfl, rfl, rfl, rfl, rfl, rfl⟩
    · obtain rfl : bb = false := by rw [hbb]; simp; omega
      clear hbb
      go_wp2
      exact HQ.out _ ⟨rfl, rfl, rfl, rfl, rfl, rfl, rfl, rfl, rfl, rfl, rfl, rfl, rfl, rfl, rfl, rfl, rfl, rfl, rfl, rfl⟩
  · obtain rfl : bb = false := by rw [hbb]; simp; omega
    clear hbb
    go_wp2
    exact HQ.out _ ⟨rfl, rfl, rfl, rfl, rfl, rfl, rfl, rfl, rfl, rfl, rfl, rfl, rfl, rfl, rfl, rfl, rfl, rfl, rfl, rfl⟩
theorem rr_r19 {K : Act → World → Prop} {c : Code} (hc : regOf (Tryz.f45.body.getD .skip) 19 = some c) (a : Act) {v : Vrr} {wq : World}  (hF : Frr a v) (hQ : ∀ a', Frr a' { v with v2 := .bool true } → K a' wq) :
    Code.wp Tryz.prog c (Exit.then K fun _ _ _ => False) a wq := by
  have HQ := hide hQ
  clear hQ
  obtain ⟨v0, v1, v2, v3, v4, v5, v6, v7, v8, v9, v60, v92, v121, v123, v128, v129, v139, v150⟩ := v
  obtain ⟨u, rfl⟩ := frx_rr hF
  clear hF
  simp only [Tryz.f45, Option.getD_some, regOf] at hc
  injection hc with hc
  subst hc
  go_wp2
  exact HQ.out _ ⟨rfl, rfl, rfl, rfl, rfl, rfl, rfl, rfl, rfl, rfl, rfl, rfl, rfl, rfl, rfl, rfl, rfl, rfl, rfl, rfl⟩
theorem rr_r20 {K : Act → World → Prop} {c : Code} (hc : regOf (Tryz.f45.body.getD .skip) 20 = some c) (a : Act) {v : Vrr} {wq : World} {b : Nat} {xk xs xn xo xa : Int} {xt xm xy xv : ByteArray} {bb : Bool} (hF : Frr a v) (h1v : v.v1 = .pointer (some ⟨b, 0, none⟩)) (hB : wq.heap[b]? = some (.cells #[.int .i64 xk, .string xt, .string xm, .int .i64 xs, .string xy, .string xv, .int .i64 xn, .int .i64 xo, .int .i64 xa] 31 (0, 0))) (hbb : bb = decide (0 ≤ xn))
    (hQ : ∀ a', Frr a' { v with v2 := .bool bb } → K a' wq) :
    Code.wp Tryz.prog c (Exit.then K fun _ _ _ => False) a wq := by
  have HQ := hide hQ
  clear hQ
  obtain ⟨v0, v1, v2, v3, v4, v5, v6, v7, v8, v9, v60, v92, v121, v123, v128, v129, v139, v150⟩ := v
  simp only at h1v HQ
  subst h1v
  obtain ⟨u, rfl⟩ := frx_rr hF
  clear hF
  simp only [Tryz.f45, Option.getD_some, regOf] at hc
  injection hc with hc
  subst hc
  have c6 := box_cell hB 6 rfl
  clear hB
  by_cases g1 : xn ≥ 0
  · obtain rfl : bb = true := by rw [hbb]; simp; omega
    clear hbb
    go_wp2
    exact HQ.out _ ⟨rfl, rfl, rfl, rfl, rfl, rfl, rfl, rfl, rfl, rfl, rfl, rfl, rfl, rfl, rfl, rfl, rfl, rfl, rfl, rfl⟩
  · obtain rfl : bb = false := by rw [hbb]; simp; omega
    clear hbb
    go_wp2
    exact HQ.out _ ⟨rfl, rfl, rfl, rfl, rfl, rfl, rfl, rfl, rfl, rfl, rfl, rfl, rfl, rfl, rfl, rfl, rfl, rfl, rfl, rfl⟩
theorem rr_r3 {K : Act → World → Prop} {c : Code} (hc : regOf (Tryz.f45.body.getD .skip) 3 = some c) (a : Act) {v : Vrr} {wq : World}  (hF : Frr a v) (hQ : ∀ a', Frr a' { v with v2 := .bool false } → K a' wq) :
    Code.wp Tryz.prog c (Exit.then K fun _ _ _ => False) a wq := by
  have HQ := hide hQ
  clear hQ
  obtain ⟨v0, v1, v2, v3, v4, v5, v6, v7, v8, v9, v60, v92, v121, v123, v128, v129, v139, v150⟩ := v
  obtain ⟨u, rfl⟩ := frx_rr hF
  clear hF
  simp only [Tryz.f45, Option.getD_some, regOf] at hc
  injection hc with hc
  subst hc
  go_wp2
  exact HQ.out _ ⟨rfl, rfl, rfl, rfl, rfl, rfl, rfl, rfl, rfl, rfl, rfl, rfl, rfl, rfl, rfl, rfl, rfl, rfl, rfl, rfl⟩
theorem rr_r7 {K : Act → World → Prop} {c : Code} (hc : regOf (Tryz.f45.body.getD .skip) 7 = some c) (a : Act) {v : Vrr} {wq : World}  (hF : Frr a v) (hQ : ∀ a', Frr a' { v with v2 := .bool false } → K a' wq) :
    Code.wp Tryz.prog c (Exit.then K fun _ _ _ => False) a wq := by
  have HQ := hide hQ
  clear hQ
  obtain ⟨v0, v1, v2, v3, v4, v5, v6, v7, v8, v9, v60, v92, v121, v123, v128, v129, v139, v150⟩ := v
  obtain ⟨u, rfl⟩ := frx_rr hF
  clear hF
  simp only [Tryz.f45, Option.getD_some, regOf] at hc
  injection hc with hc
  subst hc
  go_wp2
  exact HQ.out _ ⟨rfl, rfl, rfl, rfl, rfl, rfl, rfl, rfl, rfl, rfl, rfl, rfl, rfl, rfl, rfl, rfl, rfl, rfl, rfl, rfl⟩
theorem rr_r9 {K : Act → World → Prop} {c : Code} (hc : regOf (Tryz.f45.body.getD .skip) 9 = some c) (a : Act) {v : Vrr} {wq : World}  (hF : Frr a v) (hQ : ∀ a', Frr a' { v with v2 := .bool false } → K a' wq) :
    Code.wp Tryz.prog c (Exit.then K fun _ _ _ => False) a wq := by
  have HQ := hide hQ
  clear hQ
  obtain ⟨v0, v1, v2, v3, v4, v5, v6, v7, v8, v9, v60, v92, v121, v123, v128, v129, v139, v150⟩ := v
  obtain ⟨u, rfl⟩ := frx_rr hF
  clear hF
  simp only [Tryz.f45, Option.getD_some, regOf] at hc
  injection hc with hc
  subst hc
  go_wp2
  exact HQ.out _ ⟨rfl, rfl, rfl, rfl, rfl, rfl, rfl, rfl, rfl, rfl, rfl, rfl, rfl, rfl, rfl, rfl, rfl, rfl, rfl, rfl⟩
theorem rr_r0 {K : Act → World → Prop} {c : Code} (hc : regOf (Tryz.f45.body.getD .skip) 0 = some c) (a : Act) {v : Vrr} {wq : World} {x : CM} (hF : Frr a v) (h0v : v.v0 = x.v) (hQ : ∀ a' w' b, Frr a' { v with v1 := .pointer (some ⟨b, 0, none⟩), v2 := .bool false } → w'.heap[b]? = some (.cells x.cells 31 (0, 0)) → Below wq.heap.size wq w' → K a' w') :
    Code.wp Tryz.prog c (Exit.then K fun _ _ _ => False) a wq := by
  have HQ := hide hQ
  clear hQ
  obtain ⟨v0, v1, v2, v3, v4, v5, v6, v7, v8, v9, v60, v92, v121, v123, v128, v129, v139, v150⟩ := v
  simp only at h0v HQ
  subst h0v
  obtain ⟨u, rfl⟩ := frx_rr hF
  clear hF
  simp only [Tryz.f45, Option.getD_some, regOf] at hc
  injection hc with hc
  subst hc
  simp only [CM.v, CM.cells] at *
  go_wp2
  exact HQ.out _ _ wq.heap.size ⟨rfl, rfl, rfl, rfl, rfl, rfl, rfl, rfl, rfl, rfl, rfl, rfl, rfl, rfl, rfl, rfl, rfl, rfl, rfl, rfl⟩ (heap_alloc_new _ _) ((Below.refl _ _).alloc (Nat.le_refl _) _)
theorem rr_ret {W : World} {a : Act} {v : Vrr} {b : Bool} {R : Ending → World → Prop} (hF : Frr a v) (h0 : v.v2 = .bool b) (h : R (.returned (.bool b)) W) :
    bodyPost Tryz.prog Tryz.f45 R .ret a W := by
  have g0 := slot_get (hF.s2.trans h0)
  refine bodyPost_ret (v := .bool b) ?_ hF.defers h
  simp [results, Tryz.results45, go_sem, g0]
end Go.Proofs.YtlfodldlkchmoaaGreat
