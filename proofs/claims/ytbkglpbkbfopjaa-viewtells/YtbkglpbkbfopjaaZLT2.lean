/-
  ViewTells: its last region (mklt.py).
-/
import Derived.Test.YtbkglpbkbfopjaaZLT1
namespace Go.Proofs.Ytbkglpbkbfopjaa
open Go.RowKit

attribute [local go_sem ↓] Go.wp_at_zero Go.wp_at_succ
set_option linter.unusedSimpArgs false
set_option linter.unusedVariables false
set_option maxHeartbeats 8000000 in
set_option maxRecDepth 100000 in
theorem lt_r6 {K : Act → World → Prop} {c : Code} (hc : regOf (Try.f3.body.getD .skip) 6 = some c) (a : Act) {v : Vlt} {wq : World} {d f h k cp k2 cq : Nat} {num num2 mn ml n3 n5 : Int} {ao bo : Option Addr} {r1 r2 r4 : Bool} (hF : Flt a v) (h3v : v.v3 = .pointer (some ⟨d, 0, none⟩)) (h4v : v.v4 = .pointer (some ⟨f, 0, none⟩)) (h5v : v.v5 = .pointer (some ⟨h, 0, none⟩)) (h7v : v.v7 = .bool true) (h10v : v.v10 = .bool r2) (hD : wq.heap[d]? = some (.cells #[.int .i64 num, .slice ao k cp] tView (0, 0))) (hF2 : wq.heap[f]? = some (.cells #[.int .i64 num2, .slice bo k2 cq] tView (0, 0))) (hH : wq.heap[h]? = some (.cells #[.int .i64 mn, .int .i64 ml] tMember (0, 0))) (e0 : ∀ W, Below wq.heap.size wq W → Calls Try.prog 10 #[.agg #[.int .i64 mn, .int .i64 ml]] W fun e w' => e = .returned (.bool r1) ∧ Below W.heap.size W w') (e1 : ∀ W, Below wq.heap.size wq W → Calls Try.prog 11 #[.agg #[.int .i64 mn, .int .i64 ml]] W fun e w' => e = .returned (.bool r1) ∧ Below W.heap.size W w') (e2 : ∀ W, Below wq.heap.size wq W → Calls Try.prog 12 #[.agg #[.int .i64 num, .slice ao k cp]] W fun e w' => e = .returned (.bool r2) ∧ Below W.heap.size W w') (e3 : ∀ W, Below wq.heap.size wq W → Calls Try.prog 13 #[.agg #[.int .i64 num, .slice ao k cp]] W fun e w' => e = .returned (.int .i64 n3) ∧ Below W.heap.size W w') (e4 : ∀ W, Below wq.heap.size wq W → Calls Try.prog 14 #[.agg #[.int .i64 num, .slice ao k cp]] W fun e w' => e = .returned (.int .i64 n3) ∧ Below W.heap.size W w') (e5 : ∀ W, Below wq.heap.size wq W → Calls Try.prog 15 #[.agg #[.int .i64 num, .slice ao k cp], .agg #[.int .i64 mn, .int .i64 ml]] W fun e w' => e = .returned (.bool r4) ∧ Below W.heap.size W w') (e6 : ∀ W, Below wq.heap.size wq W → Calls Try.prog 16 #[.agg #[.int .i64 num, .slice ao k cp], .agg #[.int .i64 mn, .int .i64 ml]] W fun e w' => e = .returned (.bool r4) ∧ Below W.heap.size W w') (e7 : ∀ W, Below wq.heap.size wq W → Calls Try.prog 17 #[.agg #[.int .i64 num, .slice ao k cp], .agg #[.int .i64 num2, .slice bo k2 cq]] W fun e w' => e = .returned (.int .i64 n5) ∧ Below W.heap.size W w') (e8 : ∀ W, Below wq.heap.size wq W → Calls Try.prog 18 #[.agg #[.int .i64 num, .slice ao k cp], .agg #[.int .i64 num2, .slice bo k2 cq]] W fun e w' => e = .returned (.int .i64 n5) ∧ Below W.heap.size W w')
    (hQ : ∀ a' w', Flt a' { v with v6 := .bool true } → Below wq.heap.size wq w' → K a' w') :
    Code.wp Try.prog c (Exit.then K fun _ _ _ => False) a wq := by
  have HQ := hide hQ
  clear hQ
  obtain ⟨t', d'⟩ := a
  obtain ⟨v3, v4, v5, v6, v7, v8, v9, v10⟩ := v
  simp only at h3v h4v h5v h7v h10v HQ
  subst h3v h4v h5v h7v h10v
  obtain ⟨hs1, hd1, q3, q4, q5, q6, q7, q8, q9, q10⟩ := hF
  obtain ⟨u, hu⟩ := frame_lt t' hs1
  simp only at hd1 q3 q4 q5 q6 q7 q8 q9 q10
  subst hu hd1
  have e3 : u 3 = .pointer (some ⟨d, 0, none⟩) := q3
  have e4 : u 4 = .pointer (some ⟨f, 0, none⟩) := q4
  have e5 : u 5 = .pointer (some ⟨h, 0, none⟩) := q5
  have e6 : u 6 = v6 := q6
  have e7 : u 7 = .bool true := q7
  have e8 : u 8 = v8 := q8
  have e9 : u 9 = v9 := q9
  have e10 : u 10 = .bool r2 := q10
  rw [e3, e4, e5, e6, e7, e8, e9, e10]
  clear q3 e3 q4 e4 q5 e5 q6 e6 q7 e7 q8 e8 q9 e9 q10 e10 hs1
  simp only [Try.f3, Option.getD_some, regOf] at hc
  injection hc with hc
  subst hc
  generalize u 0 = u0
  generalize u 1 = u1
  generalize u 2 = u2
  generalize u 11 = u11
  generalize u 12 = u12
  generalize u 13 = u13
  generalize u 14 = u14
  generalize u 15 = u15
  generalize u 16 = u16
  generalize u 17 = u17
  generalize u 18 = u18
  generalize u 19 = u19
  generalize u 20 = u20
  generalize u 21 = u21
  generalize u 22 = u22
  generalize u 23 = u23
  generalize u 24 = u24
  generalize u 25 = u25
  generalize u 26 = u26
  generalize u 27 = u27
  generalize u 28 = u28
  generalize u 29 = u29
  generalize u 30 = u30
  generalize u 31 = u31
  generalize u 32 = u32
  generalize u 33 = u33
  generalize u 34 = u34
  generalize u 35 = u35
  generalize u 36 = u36
  generalize u 37 = u37
  generalize u 38 = u38
  generalize u 39 = u39
  generalize u 40 = u40
  generalize u 41 = u41
  generalize u 42 = u42
  generalize u 43 = u43
  generalize u 44 = u44
  generalize u 45 = u45
  generalize u 46 = u46
  generalize u 47 = u47
  generalize u 48 = u48
  generalize u 49 = u49
  generalize u 50 = u50
  generalize u 51 = u51
  generalize u 52 = u52
  generalize u 53 = u53
  generalize u 54 = u54
  generalize u 55 = u55
  generalize u 56 = u56
  generalize u 57 = u57
  generalize u 58 = u58
  generalize u 59 = u59
  generalize u 60 = u60
  generalize u 61 = u61
  generalize u 62 = u62
  generalize u 63 = u63
  generalize u 64 = u64
  generalize u 65 = u65
  generalize u 66 = u66
  generalize u 67 = u67
  generalize u 68 = u68
  generalize u 69 = u69
  generalize u 70 = u70
  generalize u 71 = u71
  generalize u 72 = u72
  generalize u 73 = u73
  generalize u 74 = u74
  generalize u 75 = u75
  generalize u 76 = u76
  generalize u 77 = u77
  generalize u 78 = u78
  generalize u 79 = u79
  generalize u 80 = u80
  generalize u 81 = u81
  generalize u 82 = u82
  generalize u 83 = u83
  clear u
  have CS : Hid (∀ W : World, Below wq.heap.size wq W → (W.cell? ⟨d, 0, none⟩ = some (.int .i64 num) ∧ W.cell? ⟨d, 1, none⟩ = some (.slice ao k cp) ∧ W.cell? ⟨f, 0, none⟩ = some (.int .i64 num2) ∧ W.cell? ⟨f, 1, none⟩ = some (.slice bo k2 cq) ∧ W.cell? ⟨h, 0, none⟩ = some (.int .i64 mn) ∧ W.cell? ⟨h, 1, none⟩ = some (.int .i64 ml))) := fun W hb => by
    have h1 := (hb.block _ (heap_lt hD)).trans hD
    have h2 := (hb.block _ (heap_lt hF2)).trans hF2
    have h3 := (hb.block _ (heap_lt hH)).trans hH
    exact ⟨box_cell h1 0 rfl, box_cell h1 1 rfl, box_cell h2 0 rfl, box_cell h2 1 rfl, box_cell h3 0 rfl, box_cell h3 1 rfl⟩
  have E0 := hide e0
  have KK0 := hide (enters_of Try.func10 (by kernel_rfl) rfl)
  have E1 := hide e1
  have KK1 := hide (enters_of Try.func11 (by kernel_rfl) rfl)
  have E2 := hide e2
  have KK2 := hide (enters_of Try.func12 (by kernel_rfl) rfl)
  have E3 := hide e3
  have KK3 := hide (enters_of Try.func13 (by kernel_rfl) rfl)
  have E4 := hide e4
  have KK4 := hide (enters_of Try.func14 (by kernel_rfl) rfl)
  have E5 := hide e5
  have KK5 := hide (enters_of Try.func15 (by kernel_rfl) rfl)
  have E6 := hide e6
  have KK6 := hide (enters_of Try.func16 (by kernel_rfl) rfl)
  have E7 := hide e7
  have KK7 := hide (enters_of Try.func17 (by kernel_rfl) rfl)
  have E8 := hide e8
  have KK8 := hide (enters_of Try.func18 (by kernel_rfl) rfl)
  have BD : Hid (Below wq.heap.size wq wq.drew) := (Below.refl _ _).drew
  clear hD hF2 hH e0 e1 e2 e3 e4 e5 e6 e7 e8
  go_region_held_law (fun W => W.cell? ⟨d, 0, none⟩ = some (.int .i64 num) ∧ W.cell? ⟨d, 1, none⟩ = some (.slice ao k cp) ∧ W.cell? ⟨f, 0, none⟩ = some (.int .i64 num2) ∧ W.cell? ⟨f, 1, none⟩ = some (.slice bo k2 cq) ∧ W.cell? ⟨h, 0, none⟩ = some (.int .i64 mn) ∧ W.cell? ⟨h, 1, none⟩ = some (.int .i64 ml)) (exact CS.out _ BD.out) ((first
    | (refine step_fn_d (by rfl) 48 (by rfl) 10 _ _ (by rfl) KK0.out [.agg #[.int .i64 mn, .int .i64 ml]] rfl (E0.out _ BD.out) ?_; rintro e w2 ⟨rfl, b2⟩; refine ⟨_, rfl, ?_⟩; have BD : Hid (Below wq.heap.size wq w2) := BD.out.trans (b2.mono BD.out.size); clear b2)
    | (refine step_fn_d (by rfl) 50 (by rfl) 11 _ _ (by rfl) KK1.out [.agg #[.int .i64 mn, .int .i64 ml]] rfl (E1.out _ BD.out) ?_; rintro e w2 ⟨rfl, b2⟩; refine ⟨_, rfl, ?_⟩; have BD : Hid (Below wq.heap.size wq w2) := BD.out.trans (b2.mono BD.out.size); clear b2)
    | (refine step_fn_d (by rfl) 55 (by rfl) 12 _ _ (by rfl) KK2.out [.agg #[.int .i64 num, .slice ao k cp]] rfl (E2.out _ BD.out) ?_; rintro e w2 ⟨rfl, b2⟩; refine ⟨_, rfl, ?_⟩; have BD : Hid (Below wq.heap.size wq w2) := BD.out.trans (b2.mono BD.out.size); clear b2)
    | (refine step_fn_d (by rfl) 61 (by rfl) 13 _ _ (by rfl) KK3.out [.agg #[.int .i64 num, .slice ao k cp]] rfl (E3.out _ BD.out) ?_; rintro e w2 ⟨rfl, b2⟩; refine ⟨_, rfl, ?_⟩; have BD : Hid (Below wq.heap.size wq w2) := BD.out.trans (b2.mono BD.out.size); clear b2)
    | (refine step_fn_d (by rfl) 63 (by rfl) 14 _ _ (by rfl) KK4.out [.agg #[.int .i64 num, .slice ao k cp]] rfl (E4.out _ BD.out) ?_; rintro e w2 ⟨rfl, b2⟩; refine ⟨_, rfl, ?_⟩; have BD : Hid (Below wq.heap.size wq w2) := BD.out.trans (b2.mono BD.out.size); clear b2)
    | (refine step_fn_d (by rfl) 69 (by rfl) 15 _ _ (by rfl) KK5.out [.agg #[.int .i64 num, .slice ao k cp], .agg #[.int .i64 mn, .int .i64 ml]] rfl (E5.out _ BD.out) ?_; rintro e w2 ⟨rfl, b2⟩; refine ⟨_, rfl, ?_⟩; have BD : Hid (Below wq.heap.size wq w2) := BD.out.trans (b2.mono BD.out.size); clear b2)
    | (refine step_fn_d (by rfl) 72 (by rfl) 16 _ _ (by rfl) KK6.out [.agg #[.int .i64 num, .slice ao k cp], .agg #[.int .i64 mn, .int .i64 ml]] rfl (E6.out _ BD.out) ?_; rintro e w2 ⟨rfl, b2⟩; refine ⟨_, rfl, ?_⟩; have BD : Hid (Below wq.heap.size wq w2) := BD.out.trans (b2.mono BD.out.size); clear b2)
    | (refine step_fn_d (by rfl) 78 (by rfl) 17 _ _ (by rfl) KK7.out [.agg #[.int .i64 num, .slice ao k cp], .agg #[.int .i64 num2, .slice bo k2 cq]] rfl (E7.out _ BD.out) ?_; rintro e w2 ⟨rfl, b2⟩; refine ⟨_, rfl, ?_⟩; have BD : Hid (Below wq.heap.size wq w2) := BD.out.trans (b2.mono BD.out.size); clear b2)
    | (refine step_fn_d (by rfl) 81 (by rfl) 18 _ _ (by rfl) KK8.out [.agg #[.int .i64 num, .slice ao k cp], .agg #[.int .i64 num2, .slice bo k2 cq]] rfl (E8.out _ BD.out) ?_; rintro e w2 ⟨rfl, b2⟩; refine ⟨_, rfl, ?_⟩; have BD : Hid (Below wq.heap.size wq w2) := BD.out.trans (b2.mono BD.out.size); clear b2)))
  all_goals exact HQ.out _ _ ⟨rfl, rfl, rfl, rfl, rfl, (by simp), rfl, rfl, rfl, rfl⟩ BD.out
end Go.Proofs.Ytbkglpbkbfopjaa
