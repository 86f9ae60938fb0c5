/-
  LinkAnew as it runs (mkanew3.py).
-/
import Derived.Test.YthgfijmpofbchaaZN1
import Derived.Test.YthgfijmpofbchaaZNRa
import Derived.Test.YthgfijmpofbchaaZNRb
import Derived.Test.YthgfijmpofbchaaZNRc
import Derived.Test.YthgfijmpofbchaaZGN
import Derived.Test.YthgfijmpofbchaaZGO
import Derived.Test.YthgfijmpofbchaaZNRo
namespace Go.Proofs.Ythgfijmpofbchaa
open Go.RowKit

/-- Behind i turns. -/
def RunA (w0 : World) (pb i : Nat) (w : World) : Prop := ∃ G r p, PA ⟨w0.heap.size, fun _ => none⟩ w G r p ∧ G.pb = pb ∧ @Inv Ep.a p ∧ @Lz i p ∧ Below w0.heap.size w0 w
theorem RunA.step {w0 w : World} {pb i : Nat} (h : RunA w0 pb i w) (hi : i ≤ 10000) (t : TN) (ht : t.ok) : Calls Try.prog 22 #[.pointer (some ⟨pb, 0, none⟩), t.v] w fun e w' => e = .returned (.bool true) ∧ RunA w0 pb (i + 1) w' := by
  obtain ⟨G, r, p, h1, rfl, h2, h3, h4⟩ := h
  refine (@turn_any Ep.a _ _ _ _ _ _ t ht h1 h2 h3 hi).mono ?_
  rintro e w' ⟨rfl, ⟨G', r', k1, k2⟩, k3, k4, k5⟩
  exact ⟨rfl, G', r', _, k1, k2, k3, k4, h4.trans k5⟩
theorem runA_begin (w : World) : Calls Try.prog 21 #[] w fun e w' => ∃ pb, e = .returned (.pointer (some ⟨pb, 0, none⟩)) ∧ RunA w pb 0 w' := by
  refine (begin_any w).mono ?_
  rintro e w' ⟨G, r, rfl, h1, h2⟩
  exact ⟨_, rfl, G, r, _, h1, rfl, @inv_begin Ep.a, @lz_begin Ep.a, h2⟩
/-- The first loop's frame. -/
structure AL1 (va vb : Value) (pb i : Nat) (a : Act) (v : AV) : Prop where
  af : AF a v
  h0 : v.v0 = va
  h1 : v.v1 = vb
  h5 : v.v5 = .bool true
  h6 : v.v6 = .pointer (some ⟨pb, 0, none⟩)
  h7 : v.v7 = .int .i64 (i : Int)
/-- The second one's, and memory. -/
structure AL (w0 : World) (vb : Value) (i : Nat) (a : Act) (W : World) (v : AV) (G : PG) (r q : Nat → Nat) (p : PR) (rv : Nat → Value) (rl : Nat → List ByteArray) (n1 n2 : Nat) : Prop where
  af : AF a v
  h1 : v.v1 = vb
  h5 : v.v5 = .bool true
  h6 : v.v6 = .pointer (some ⟨G.pb, 0, none⟩)
  h11 : v.v11 = .int .i64 (n1 : Int)
  h12 : v.v12 = rv 0
  h13 : v.v13 = .int .i64 (n2 : Int)
  h14 : v.v14 = rv 1
  h15 : v.v15 = rv 2
  h16 : v.v16 = .int .i64 (i : Int)
  am : AM ⟨w0.heap.size, fun _ => none⟩ W G r q p rv rl
  below : Below w0.heap.size w0 W
theorem AL.of {w0 : World} {vb : Value} {i : Nat} {a : Act} {W : World} {v : AV} {G : PG} {r q : Nat → Nat} {p : PR} {rv : Nat → Value} {rl : Nat → List ByteArray} {n1 n2 : Nat} (am : AM ⟨w0.heap.size, fun _ => none⟩ W G r q p rv rl) (below : Below w0.heap.size w0 W) (af : AF a v) (h1 : v.v1 = vb) (h5 : v.v5 = .bool true) (h6 : v.v6 = .pointer (some ⟨G.pb, 0, none⟩)) (h11 : v.v11 = .int .i64 (n1 : Int)) (h12 : v.v12 = rv 0) (h13 : v.v13 = .int .i64 (n2 : Int)) (h14 : v.v14 = rv 1) (h15 : v.v15 = rv 2) (h16 : v.v16 = .int .i64 (i : Int)) : AL w0 vb i a W v G r q p rv rl n1 n2 := ⟨af, h1, h5, h6, h11, h12, h13, h14, h15, h16, am, below⟩
def LI (w0 : World) (vb : Value) (i : Nat) (a : Act) (W : World) : Prop := ∃ v G r q p rv rl n1 n2, AL w0 vb i a W v G r q p rv rl n1 n2 ∧ AS (100 + i) p rl n1 n2
theorem LI.m {w0 : World} {vb : Value} {i : Nat} {a : Act} {W : World} (h : LI w0 vb i a W) : (intOf (a.tmps.getD 16 undef)).toNat = i := by
  obtain ⟨v, G, r, q, p, rv, rl, n1, n2, h, _⟩ := h
  rw [h.af.s16, h.h16]
  simp [intOf]
theorem anew_end {K : Act → World → Prop} {c : Code} (hc : regOf (Try.f4.body.getD .skip) 22 = some c) {w0 : World} {vb : Value} {i : Nat} {a : Act} {W : World} {v : AV} {G : PG} {r q : Nat → Nat} {p : PR} {rv : Nat → Value} {rl : Nat → List ByteArray} {n1 n2 : Nat} (h : AL w0 vb i a W v G r q p rv rl n1 n2) (hS : AS (100 + (i + 1)) p rl n1 n2) (hi : i < 100) (hQ : ∀ a', LI w0 vb (i + 1) a' W → K a' W) : Code.wp Try.prog c (Exit.then K fun _ _ _ => False) a W :=
  anew_r22 hc a h.af h.h16 (by omega) fun a' F' => hQ a' ⟨_, G, r, q, p, rv, rl, n1, n2, ⟨F', h.h1, h.h5, h.h6, h.h11, h.h12, h.h13, h.h14, h.h15, rfl, h.am, h.below⟩, hS⟩
theorem anew_ret {w0 W : World} {a : Act} {v : AV} (hF : AF a v) (h4 : a.tmps.getD 4 undef = .bool true) (hB : Below w0.heap.size w0 W) :
    bodyPost Try.prog Try.f4 (fun e w' => e = .returned (.bool true) ∧ Below w0.heap.size w0 w') .ret a W := by
  have h5 : a.tmps[4]?.getD undef = .bool true := by
    have := h4
    rw [Array.getD_eq_getD_getElem?] at this
    exact this
  refine bodyPost_ret (v := .bool true) ?_ hF.defers ⟨rfl, hB⟩
  simp [results, Try.results4, go_sem, h5]
theorem who_is (t : TN) : pickZ t.who 2 = (ix t.x : Int) := by
  have hx2 := pickZ_range t.who 2 (by omega)
  unfold TN.x
  by_cases e : pickZ t.who 2 = 1
  · rw [decide_eq_true e, e]; rfl
  · rw [decide_eq_false e]; show _ = (0 : Int); omega
attribute [local go_sem ↓] Go.wp_at_zero Go.wp_at_succ
set_option maxHeartbeats 16000000 in
set_option maxRecDepth 100000 in
theorem anew_walk (ao ab : Option Addr) (ca cb : Nat) (l m : List TN) (w : World) (hcm : Turns w ao l) (hdm : Turns w ab m) :
    Calls Try.prog 4 #[.slice ao l.length ca, .slice ab m.length cb] w fun e w' => e = .returned (.bool true) ∧ Below w.heap.size w w' := by
  have HE := hide (examples_any w)
  have HCM := hide hcm
  have HDM := hide hdm
  clear hcm hdm
  go_enter Try.func4, Try.ntmps4
  go_wp2_with fail
  refine HE.out.mono ?_
  rintro e w0 ⟨rfl, be⟩
  have BE := hide be
  clear be HE
  go_wp2_with fail
  refine (runA_begin w0).mono ?_
  rintro e w1 ⟨pb, rfl, r1⟩
  have R1 := hide r1
  clear r1
  go_upto_region 5 with fail
  rename_i Ko hKo Ki hKi
  refine reg_mono (anew_r5 (by kernel_rfl) _ (v := ⟨_, _, _, _, _, _, _, _, _, _, _, _, _, _, _, _, _, _, _, _, _, _⟩) ⟨rfl, rfl, rfl, rfl, rfl, rfl, rfl, rfl, rfl, rfl, rfl, rfl, rfl, rfl, rfl, rfl, rfl, rfl, rfl, rfl, rfl, rfl, rfl, rfl⟩ ?_)
  intro a1 F1
  refine hKi _ _ ?_
  refine wp_block (wp_loop (fun a W => ∃ i v, i ≤ 100 ∧ AL1 (.slice ao l.length ca) (.slice ab m.length cb) pb i a v ∧ RunA w0 pb i W) (fun a _ => 100 - (intOf (a.tmps.getD 7 undef)).toNat) ⟨0, _, Nat.zero_le _, ⟨F1, rfl, rfl, rfl, rfl, rfl⟩, R1.out⟩ ?_)
  rintro a2 W2 ⟨i, v, hi, A2, R2⟩
  have hm2 : (intOf (a2.tmps.getD 7 undef)).toNat = i := by rw [A2.af.s7, A2.h7]; simp [intOf]
  refine wp_seq (wp_seq (reg_mono (anew_r6 (by kernel_rfl) _ A2.af A2.h0 A2.h7 ?_)))
  intro a3 F3 h36
  by_cases hlt : i < l.length ∧ i < 100
  · rw [decide_eq_true hlt] at h36
    refine wp_cond_true h36 (wp_skip ?_)
    show Code.wp _ _ _ _ _
    have hb := R2
    obtain ⟨_, _, _, _, _, _, _, hb⟩ := hb
    obtain ⟨kb, off, hao, _, ht⟩ := HCM.out.all.below (BE.out.trans (hb.mono BE.out.size)) i hlt.1
    have hok := HCM.out.ok l[i] (List.getElem_mem hlt.1)
    refine wp_seq (wp_block (wp_seq (reg_mono (anew_r8 (by kernel_rfl) _ F3 (A2.h0.trans (by rw [hao])) A2.h6 A2.h7 hlt.1 ht (R2.step (by omega) _ hok) ?_))))
    intro a4 w4 F4 R4
    refine wp_seq (reg_mono (anew_r9 (by kernel_rfl) _ F4 rfl ?_))
    intro a5 F5 h46
    refine wp_cond_false h46 (wp_skip ?_)
    show Code.wp _ _ _ _ _
    refine reg_all (anew_r7 (by kernel_rfl) _ F5 A2.h7 (by omega) ?_)
    intro a6 F6
    refine ⟨⟨i + 1, _, by omega, ⟨F6, A2.h0, A2.h1, A2.h5, A2.h6, rfl⟩, R4⟩, ?_⟩
    have hm6 : (intOf (a6.tmps.getD 7 undef)).toNat = i + 1 := by rw [F6.s7]; simp only [intOf]; omega
    rw [hm6, hm2]
    omega
  · rw [decide_eq_false hlt] at h36
    refine wp_cond_false h36 (wp_exit ?_)
    show Ko _ _
    refine hKo _ _ ?_
    refine wp_seq (reg_mono (anew_r11 (by kernel_rfl) _ F3 ?_))
    intro a4 w4 F4 P4 B4
    refine wp_seq (wp_seq (reg_mono (anew_r12 (by kernel_rfl) _ F4 rfl ?_)))
    intro a5 F5 h52
    refine wp_cond_false h52 (wp_skip ?_)
    show Code.wp _ _ _ _ _
    obtain ⟨G, r, p, hP, hpb, hI, hL, hB⟩ := R2
    have H6 := A2.h6
    rw [← hpb] at H6
    have P4b := hP.below B4
    refine wp_seq (reg_mono (anew_r14 (by kernel_rfl) _ F5 H6 rfl P4b.cp.1 P4b.lbox ?_))
    intro a6 F6
    obtain ⟨PN, BN⟩ := hP.anew (fun _ => rfl) B4 P4
    have S6 : AS (100 + 0) { p with l := set p.l true (LK.new 9) } (fun _ => []) (p.sent false).length 0 := by
      have h := AS.begin (rl := fun _ => []) hI hL (fun _ => rfl)
      exact ⟨h.ai, fun x => by have := h.way x; omega, by have := h.sent; omega, fun i => Nat.zero_le _, h.first, h.oks⟩
    have M6 : AM ⟨w0.heap.size, fun _ => none⟩ _ _ _ (fun _ => 0) _ (fun _ => .slice none 0 0) (fun _ => []) := ⟨PN, fun _ => rfl, fun _ => World.ownsRow_nil _ _ _ _, fun _ _ e => by cases e⟩
    have B6 := hB.trans BN
    generalize w4.setCell ⟨G.lb, 1, none⟩ (.pointer (some ⟨W2.heap.size, 0, none⟩)) = W6 at *
    refine wp_seq (reg_mono (anew_r15 (G := { G with b := set G.b true W2.heap.size, v := set G.v true (.slice none 0 0) }) (by kernel_rfl) _ F6 H6 M6 ?_))
    intro a7 F7
    refine wp_seq (reg_mono (anew_r16 (by kernel_rfl) _ F7 ?_))
    intro a8 F8
    refine wp_seq (reg_mono (anew_r17 (by kernel_rfl) _ F8 ?_))
    intro a9 F9
    refine wp_seq (reg_mono (anew_r18 (by kernel_rfl) _ F9 ?_))
    intro a10 F10
    refine wp_seq (reg_mono (anew_r19 (by kernel_rfl) _ F10 ?_))
    intro a11 F11
    refine wp_seq (wp_seq (reg_mono (anew_r20 (by kernel_rfl) _ F11 ?_)))
    intro a12 F12
    have L12 : LI w0 (.slice ab m.length cb) 0 a12 W6 := ⟨_, _, _, _, _, _, _, _, _, AL.of M6 B6 F12 A2.h1 A2.h5 H6 rfl rfl rfl rfl rfl rfl, S6⟩
    clear F3 F4 F5 F6 F7 F8 F9 F10 F11 F12 M6 S6 PN BN B6 P4b P4 B4 hP hI hL hB H6 A2 h36 h52 hlt hm2 hpb
    refine wp_block (wp_loop (fun a W => ∃ i, i ≤ 100 ∧ LI w0 (.slice ab m.length cb) i a W) (fun a _ => 100 - (intOf (a.tmps.getD 16 undef)).toNat) ⟨0, Nat.zero_le _, L12⟩ ?_)
    clear L12
    rintro a1 W1 ⟨i, hi, L1⟩
    have hm1 := L1.m
    obtain ⟨v, G, r, q, p, rv, rl, n1, n2, A1, S1⟩ := L1
    refine wp_seq (wp_seq (reg_mono (anew_r21 (by kernel_rfl) _ A1.af A1.h1 A1.h16 ?_)))
    intro a2 F2 h73
    by_cases hlt : i < m.length ∧ i < 100
    · rw [decide_eq_true hlt] at h73
      refine wp_cond_true h73 (wp_skip ?_)
      show Code.wp _ _ _ _ _
      obtain ⟨kb, off, hab, _, ht⟩ := HDM.out.all.below (BE.out.trans (A1.below.mono BE.out.size)) i hlt.1
      have hok := HDM.out.ok m[i] (List.getElem_mem hlt.1)
      obtain ⟨t, ht0⟩ : ∃ t, m[i] = t := ⟨_, rfl⟩
      rw [ht0] at ht hok
      refine wp_seq (wp_block (wp_seq (reg_mono (anew_r23 (by kernel_rfl) _ F2 (A1.h1.trans (by rw [hab])) A1.h16 hlt.1 ht ?_))))
      intro a3 F3
      obtain ⟨M3, D3⟩ := A1.am.box (.cells t.c 52 (0, 0))
      have B3 := A1.below.trans (((Below.refl w0.heap.size W1).alloc A1.am.pa.size (.cells t.c 52 (0, 0))))
      generalize W1.alloc (.cells t.c 52 (0, 0)) = W3 at *
      generalize upd r W1.heap.size none 0 = r3 at *
      generalize upd q W1.heap.size none 0 = q3 at *
      generalize W1.heap.size = d at *
      refine wp_seq (reg_mono (anew_r24 (by kernel_rfl) _ F3 rfl D3 hok ?_))
      intro a4 F4
      refine wp_seq (reg_mono (anew_r25 (by kernel_rfl) _ F4 rfl D3 hok ?_))
      intro a5 F5
      have hxk := who_is t
      rw [hxk] at F5
      have hz4 := pickZ_range t.kind 4 (by omega)
      generalize pickZ t.kind 4 = z at *
      clear hxk
      obtain ⟨x, hx⟩ : ∃ x, t.x = x := ⟨_, rfl⟩
      rw [hx] at F5
      clear hx
      have hn : 100 + i ≤ 10000 := by omega
      have DONE : ∀ a' W', LI w0 (.slice ab m.length cb) (i + 1) a' W' → (∃ i, i ≤ 100 ∧ LI w0 (.slice ab m.length cb) i a' W') ∧ 100 - (intOf (a'.tmps.getD 16 undef)).toNat < 100 - (intOf (a1.tmps.getD 16 undef)).toNat := fun a' W' h => ⟨⟨i + 1, by omega, h⟩, by rw [h.m, hm1]; omega⟩
      refine wp_block ?_
      refine wp_seq (reg_mono (anew_r38 (by kernel_rfl) _ F5 rfl ?_))
      intro a6 F6 h153
      clear F2 F3 F4 F5 h73
      rcases (by omega : z = 0 ∨ z = 1 ∨ z = 2 ∨ z = 3) with rfl | rfl | rfl | rfl
      · refine wp_cond_true h153 ?_
        refine wp_seq (reg_mono (anew_r39 (by kernel_rfl) _ F6 A1.h6 rfl rfl rfl M3 D3 hok.2.2.2 ?_))
        intro a7 w7 v7 F7 M7 D7 B7
        have B8 := B3.trans B7
        refine wp_seq (wp_seq (reg_mono (anew_r40 (by kernel_rfl) _ F7 rfl rfl ?_)))
        intro a8 F8 h170
        by_cases hb : ((p.l x).send t.s).1 = 0
        · rw [show (((p.l x).send t.s).1 == 0) = true by rw [hb]; rfl] at F8 h170
          cases x
          · refine wp_cond_true h170 (reg_all (anew_r41 (G := { G with v := set G.v false v7 }) (by kernel_rfl) _ F8 A1.h6 rfl M7 D7 (by have := S1.sent; show (p.sent false).length ≤ _; omega) ?_))
            intro a9 w9 v9 F9 M9 B9
            show Code.wp _ _ _ _ _
            refine wp_seq (reg_mono (anew_r42 (by kernel_rfl) _ F9 rfl rfl ?_))
            intro a10 F10 h190
            refine wp_cond_false h190 (wp_skip ?_)
            show Code.wp _ _ _ _ _
            refine reg_all (anew_end (by kernel_rfl) (AL.of M9 (B8.trans B9) F10 A1.h1 A1.h5 A1.h6 A1.h11 A1.h12 A1.h13 A1.h14 A1.h15 A1.h16) (S1.send_first hn t.s hb) hlt.2 fun a' h => DONE a' _ h)
          · refine wp_cond_false h170 (wp_skip ?_)
            show Code.wp _ _ _ _ _
            refine wp_seq (reg_mono (anew_r42 (by kernel_rfl) _ F8 rfl rfl ?_))
            intro a10 F10 h190
            refine wp_cond_true h190 (reg_all (anew_r43 (by kernel_rfl) _ F10 rfl A1.h14 M7 D7 (by have := S1.rows 1; omega) ?_))
            intro a9 w9 v9 r9 q9 F9 M9 B9
            show Code.wp _ _ _ _ _
            refine reg_all (anew_end (by kernel_rfl) (AL.of M9 (B8.trans B9) F9 A1.h1 A1.h5 A1.h6 A1.h11 A1.h12 A1.h13 rfl A1.h15 A1.h16) (S1.send_new hn t.s hb) hlt.2 fun a' h => DONE a' _ h)
        · rw [show (((p.l x).send t.s).1 == 0) = false by rw [beq_eq_false_iff_ne]; exact hb] at F8 h170
          refine wp_cond_false h170 (wp_skip ?_)
          show Code.wp _ _ _ _ _
          refine wp_seq (reg_mono (anew_r42 (by kernel_rfl) _ F8 rfl rfl ?_))
          intro a10 F10 h190
          refine wp_cond_false h190 (wp_skip ?_)
          show Code.wp _ _ _ _ _
          refine reg_all (anew_end (by kernel_rfl) (AL.of M7 (B8) F10 A1.h1 A1.h5 A1.h6 A1.h11 A1.h12 A1.h13 A1.h14 A1.h15 A1.h16) (S1.send_no hn x t.s hb) hlt.2 fun a' h => DONE a' _ h)
      · refine wp_cond_false h153 ?_
        refine wp_seq (reg_mono (anew_r44 (by kernel_rfl) _ F6 rfl ?_))
        intro a7 F7 h196
        refine wp_cond_true h196 (reg_all (anew_r45 (by kernel_rfl) _ F7 A1.h6 rfl rfl M3 (by have := S1.way (!x); omega) (by have := outs_len (p.l x); omega) ?_))
        intro a8 w8 v8 r8 F8 M8 B8
        show Code.wp _ _ _ _ _
        refine reg_all (anew_end (by kernel_rfl) (AL.of M8 (B3.trans B8) F8 A1.h1 A1.h5 A1.h6 A1.h11 A1.h12 A1.h13 A1.h14 A1.h15 A1.h16) (S1.put x (M3.pa.link x).ok) hlt.2 fun a' h => DONE a' _ h)
      · refine wp_cond_false h153 ?_
        refine wp_seq (reg_mono (anew_r44 (by kernel_rfl) _ F6 rfl ?_))
        intro a7 F7 h196
        refine wp_cond_false h196 ?_
        refine wp_seq (reg_mono (anew_r46 (by kernel_rfl) _ F7 rfl ?_))
        intro a8 F8 h222
        refine wp_cond_true h222 (reg_all (anew_r47 (by kernel_rfl) _ F8 A1.h6 rfl rfl M3 ?_))
        intro a9 w9 r9 F9 M9 B9
        show Code.wp _ _ _ _ _
        refine reg_all (anew_end (by kernel_rfl) (AL.of M9 (B3.trans B9) F9 A1.h1 A1.h5 A1.h6 A1.h11 A1.h12 A1.h13 A1.h14 A1.h15 A1.h16) (S1.tick x) hlt.2 fun a' h => DONE a' _ h)
      · refine wp_cond_false h153 ?_
        refine wp_seq (reg_mono (anew_r44 (by kernel_rfl) _ F6 rfl ?_))
        intro a7 F7 h196
        refine wp_cond_false h196 ?_
        refine wp_seq (reg_mono (anew_r46 (by kernel_rfl) _ F7 rfl ?_))
        intro a8 F8 h222
        refine wp_cond_false h222 ?_
        refine wp_seq (wp_seq (reg_mono (anew_r26 (by kernel_rfl) _ F8 A1.h6 rfl rfl M3 ?_)))
        intro a9 F9 h94
        by_cases hw : (p.way x).length = 0
        · rw [decide_eq_true hw] at h94
          refine wp_cond_true h94 (wp_exit ?_)
          show Code.wp _ _ _ _ _
          refine reg_all (anew_end (by kernel_rfl) (AL.of M3 (B3) F9 A1.h1 A1.h5 A1.h6 A1.h11 A1.h12 A1.h13 A1.h14 A1.h15 A1.h16) S1.up hlt.2 fun a' h => DONE a' _ h)
        · rw [decide_eq_false hw] at h94
          refine wp_cond_false h94 (wp_skip ?_)
          show Code.wp _ _ _ _ _
          have hlw := S1.way x
          have hzr := pickZ_range t.i (p.way x).length (by omega)
          obtain ⟨j, hj⟩ : ∃ j : Nat, pickZ t.i (p.way x).length = (j : Int) := ⟨(pickZ t.i (p.way x).length).toNat, by omega⟩
          have hjl : j < (p.way x).length := by omega
          refine wp_seq (reg_mono (anew_r27 (by kernel_rfl) _ F9 A1.h6 rfl rfl rfl M3 D3 hok (by omega) hjl hj ?_))
          intro a10 w10 F10 b10 h10
          obtain ⟨f, hf⟩ : ∃ f, (p.way x)[j] = f := ⟨_, rfl⟩
          have hmem : f ∈ p.way x := by rw [← hf]; exact List.getElem_mem hjl
          rw [hf] at h10
          obtain ⟨M10, X10⟩ := M3.box' b10 h10
          have B10 := B3.trans (b10.mono M3.pa.size)
          generalize upd r3 W3.heap.size none 0 = r10 at *
          generalize upd q3 W3.heap.size none 0 = q10 at *
          generalize W3.heap.size = fb at *
          refine wp_seq (reg_mono (anew_r28 (by kernel_rfl) _ F10 A1.h6 rfl rfl rfl M10 X10 (S1.oks x f hmem) ?_))
          intro a11 w11 v11 r11 aq cq F11 M11 X11 R11 B11
          have B12 := B10.trans B11
          have htl := take_len (p.l x) f
          clear M10 X10 B10 B11 F10 F9 F8 F7 F6 M3 D3 h153 h196 h222 h94
          refine wp_seq (wp_seq (reg_mono (anew_r29 (by kernel_rfl) _ F11 ?_)))
          intro a12 F12 h127
          cases x
          · have S2 := S1.take_first hmem
            cases hre : ((p.l false).take f).1.2 with
            | true =>
              rw [hre] at F12 h127 S2
              refine wp_cond_true h127 (wp_seq (reg_mono (anew_r30 (by kernel_rfl) _ F12 A1.h13 (by have := S1.ai.fin.1; have h9 : n2 ≤ 1 := this; omega) ?_)))
              intro a13 F13
              refine reg_all (anew_r31 (G := { G with v := set G.v false v11 }) (by kernel_rfl) _ F13 A1.h6 M11 ?_)
              intro a14 F14
              show Code.wp _ _ _ _ _
              refine wp_seq (wp_seq (reg_mono (anew_r32 (by kernel_rfl) _ F14 rfl ?_)))
              intro a15 F15 h138
              refine wp_cond_false h138 (wp_seq (reg_mono (anew_r34 (by kernel_rfl) _ F15 rfl X11 ?_)))
              intro a16 F16 h144
              by_cases h9 : f.epoch = 9
              · rw [if_pos h9] at S2
                rw [show (f.epoch == 9) = true by rw [h9]; rfl] at h144
                refine wp_cond_true h144 (reg_all (anew_r35 (by kernel_rfl) _ F16 rfl A1.h15 M11 X11 (by have := S1.rows 2; omega) (by omega) R11 ?_))
                intro a17 w17 v17 r17 q17 F17 M17 X17 B17
                show Code.wp _ _ _ _ _
                refine wp_seq (reg_mono (anew_r36 (by kernel_rfl) _ F17 rfl rfl ?_))
                intro a18 F18 h152
                refine wp_cond_false h152 (wp_skip ?_)
                show Code.wp _ _ _ _ _
                refine reg_all (anew_end (by kernel_rfl) (AL.of M17 (B12.trans B17) F18 A1.h1 A1.h5 A1.h6 rfl A1.h12 rfl A1.h14 rfl A1.h16) S2 hlt.2 fun a' h => DONE a' _ h)
              · rw [if_neg h9] at S2
                rw [show (f.epoch == 9) = false by rw [beq_eq_false_iff_ne]; exact h9] at h144
                refine wp_cond_false h144 (wp_skip ?_)
                show Code.wp _ _ _ _ _
                refine wp_seq (reg_mono (anew_r36 (by kernel_rfl) _ F16 rfl rfl ?_))
                intro a18 F18 h152
                refine wp_cond_false h152 (wp_skip ?_)
                show Code.wp _ _ _ _ _
                refine reg_all (anew_end (by kernel_rfl) (AL.of M11 (B12) F18 A1.h1 A1.h5 A1.h6 rfl A1.h12 rfl A1.h14 A1.h15 A1.h16) S2 hlt.2 fun a' h => DONE a' _ h)
            | false =>
              rw [hre] at F12 h127 S2
              refine wp_cond_false h127 (wp_skip ?_)
              show Code.wp _ _ _ _ _
              refine wp_seq (wp_seq (reg_mono (anew_r32 (by kernel_rfl) _ F12 rfl ?_)))
              intro a15 F15 h138
              refine wp_cond_false h138 (wp_seq (reg_mono (anew_r34 (by kernel_rfl) _ F15 rfl X11 ?_)))
              intro a16 F16 h144
              by_cases h9 : f.epoch = 9
              · rw [if_pos h9] at S2
                rw [show (f.epoch == 9) = true by rw [h9]; rfl] at h144
                refine wp_cond_true h144 (reg_all (anew_r35 (by kernel_rfl) _ F16 rfl A1.h15 M11 X11 (by have := S1.rows 2; omega) (by omega) R11 ?_))
                intro a17 w17 v17 r17 q17 F17 M17 X17 B17
                show Code.wp _ _ _ _ _
                refine wp_seq (reg_mono (anew_r36 (by kernel_rfl) _ F17 rfl rfl ?_))
                intro a18 F18 h152
                refine wp_cond_false h152 (wp_skip ?_)
                show Code.wp _ _ _ _ _
                refine reg_all (anew_end (by kernel_rfl) (AL.of M17 (B12.trans B17) F18 A1.h1 A1.h5 A1.h6 A1.h11 A1.h12 A1.h13 A1.h14 rfl A1.h16) S2 hlt.2 fun a' h => DONE a' _ h)
              · rw [if_neg h9] at S2
                rw [show (f.epoch == 9) = false by rw [beq_eq_false_iff_ne]; exact h9] at h144
                refine wp_cond_false h144 (wp_skip ?_)
                show Code.wp _ _ _ _ _
                refine wp_seq (reg_mono (anew_r36 (by kernel_rfl) _ F16 rfl rfl ?_))
                intro a18 F18 h152
                refine wp_cond_false h152 (wp_skip ?_)
                show Code.wp _ _ _ _ _
                refine reg_all (anew_end (by kernel_rfl) (AL.of M11 (B12) F18 A1.h1 A1.h5 A1.h6 A1.h11 A1.h12 A1.h13 A1.h14 A1.h15 A1.h16) S2 hlt.2 fun a' h => DONE a' _ h)
          · obtain ⟨S2, hre⟩ := S1.take_new hmem
            rw [hre] at F12 h127
            refine wp_cond_false h127 (wp_skip ?_)
            show Code.wp _ _ _ _ _
            refine wp_seq (wp_seq (reg_mono (anew_r32 (by kernel_rfl) _ F12 rfl ?_)))
            intro a13 F13 h138
            refine wp_cond_true h138 (reg_all (anew_r33 (by kernel_rfl) _ F13 rfl A1.h12 M11 X11 (by have := S1.rows 0; omega) (by omega) R11 ?_))
            intro a14 w14 v14 r14 q14 F14 M14 X14 B14
            show Code.wp _ _ _ _ _
            refine wp_seq (reg_mono (anew_r36 (by kernel_rfl) _ F14 rfl rfl ?_))
            intro a15 F15 h152
            refine wp_cond_false h152 (wp_skip ?_)
            show Code.wp _ _ _ _ _
            refine reg_all (anew_end (by kernel_rfl) (AL.of M14 (B12.trans B14) F15 A1.h1 A1.h5 A1.h6 A1.h11 rfl A1.h13 A1.h14 A1.h15 A1.h16) S2 hlt.2 fun a' h => DONE a' _ h)
    · rw [decide_eq_false hlt] at h73
      refine wp_cond_false h73 (wp_exit ?_)
      show Code.wp _ _ _ _ _
      obtain ⟨f1, f2, f3⟩ := S1.ai.fin
      have f1' : n2 ≤ 1 := f1
      have f2' : 0 < n2 → rl 0 <+: (p.sent false).drop n1 := f2
      have f3' : rl 2 <+: rl 1 := f3
      have hs1 := S1.sent
      have hs2 := S1.first
      have hs3 := S1.rows
      clear f1 f2 f3
      refine wp_seq (wp_seq (reg_mono (anew_r48 (by kernel_rfl) _ F2 A1.h6 A1.h11 A1.h12 A1.h13 A1.am (by omega) (by omega) f1' (fun h => by have h1 := (f2' h).length_le; rw [List.length_drop] at h1; omega) ?_)))
      intro a3 F3 h251
      refine wp_cond_false h251 (wp_skip ?_)
      show Code.wp _ _ _ _ _
      obtain ⟨tto, tc, htv⟩ := row_slice (A1.am.row 0)
      obtain ⟨mmo, mc, hmv⟩ := row_slice (A1.am.row 2)
      refine wp_seq (wp_seq (reg_mono (anew_r50 (by kernel_rfl) _ F3 ?_)))
      intro a4 F4
      refine wp_block (wp_loop (fun a W => ∃ k v', k ≤ (rl 0).length ∧ AL w0 (.slice ab m.length cb) i a W v' G r q p rv rl n1 n2 ∧ v'.v23 = .int .i64 (k : Int)) (fun a _ => (rl 0).length - (intOf (a.tmps.getD 23 undef)).toNat) ⟨0, _, Nat.zero_le _, ⟨F4, A1.h1, A1.h5, A1.h6, A1.h11, A1.h12, A1.h13, A1.h14, A1.h15, A1.h16, A1.am, A1.below⟩, rfl⟩ ?_)
      rintro a5 W5 ⟨k, v5, hk, A5, h23⟩
      have hm5 : (intOf (a5.tmps.getD 23 undef)).toNat = k := by rw [A5.af.s23, h23]; simp [intOf]
      refine wp_seq (wp_seq (reg_mono (anew_r51 (by kernel_rfl) _ A5.af (A5.h12.trans htv) A5.h13 h23 ?_)))
      intro a6 F6 h259
      by_cases hlt2 : k < (rl 0).length ∧ 0 < n2
      · rw [decide_eq_true hlt2] at h259
        refine wp_cond_true h259 (wp_skip ?_)
        show Code.wp _ _ _ _ _
        refine wp_seq (wp_block (wp_seq (reg_mono (anew_r53 (by kernel_rfl) _ F6 A5.h6 A5.h11 A5.h12 h23 A5.am (by omega) hlt2.1 (by omega) (f2' hlt2.2) ?_))))
        intro a7 F7 h277
        refine wp_cond_false h277 (wp_skip ?_)
        show Code.wp _ _ _ _ _
        refine reg_all (anew_r52 (by kernel_rfl) _ F7 h23 (by have := hs3 0; omega) ?_)
        intro a8 F8
        refine ⟨⟨k + 1, _, by omega, ⟨F8, A5.h1, A5.h5, A5.h6, A5.h11, A5.h12, A5.h13, A5.h14, A5.h15, A5.h16, A5.am.drew, A5.below.drew⟩, rfl⟩, ?_⟩
        have hm8 : (intOf (a8.tmps.getD 23 undef)).toNat = k + 1 := by rw [F8.s23]; simp only [intOf]; omega
        rw [hm8, hm5]
        omega
      · rw [decide_eq_false hlt2] at h259
        refine wp_cond_false h259 (wp_exit ?_)
        show Code.wp _ _ _ _ _
        refine wp_seq (wp_seq (reg_mono (anew_r55 (by kernel_rfl) _ F6 ?_)))
        intro a7 F7
        refine wp_block (wp_loop (fun a W => ∃ k v', k ≤ (rl 2).length ∧ AL w0 (.slice ab m.length cb) i a W v' G r q p rv rl n1 n2 ∧ v'.v24 = .int .i64 (k : Int)) (fun a _ => (rl 2).length - (intOf (a.tmps.getD 24 undef)).toNat) ⟨0, _, Nat.zero_le _, ⟨F7, A5.h1, A5.h5, A5.h6, A5.h11, A5.h12, A5.h13, A5.h14, A5.h15, A5.h16, A5.am, A5.below⟩, rfl⟩ ?_)
        clear h23
        rintro a8 W8 ⟨k, v8, hk, A8, h24⟩
        have hm8 : (intOf (a8.tmps.getD 24 undef)).toNat = k := by rw [A8.af.s24, h24]; simp [intOf]
        refine wp_seq (wp_seq (reg_mono (anew_r56 (by kernel_rfl) _ A8.af (A8.h15.trans hmv) h24 ?_)))
        intro a9 F9 h281
        by_cases hlt3 : k < (rl 2).length
        · rw [decide_eq_true hlt3] at h281
          refine wp_cond_true h281 (wp_skip ?_)
          show Code.wp _ _ _ _ _
          refine wp_seq (wp_block (wp_seq (reg_mono (anew_r58 (by kernel_rfl) _ F9 A8.h14 A8.h15 h24 A8.am hlt3 f3' ?_))))
          intro a10 w10 F10 h298 b10
          refine wp_cond_false h298 (wp_skip ?_)
          show Code.wp _ _ _ _ _
          refine reg_all (anew_r57 (by kernel_rfl) _ F10 h24 (by have := hs3 2; omega) ?_)
          intro a11 F11
          refine ⟨⟨k + 1, _, by omega, ⟨F11, A8.h1, A8.h5, A8.h6, A8.h11, A8.h12, A8.h13, A8.h14, A8.h15, A8.h16, A8.am.below b10, A8.below.trans (b10.mono A8.am.pa.size)⟩, rfl⟩, ?_⟩
          have hm11 : (intOf (a11.tmps.getD 24 undef)).toNat = k + 1 := by rw [F11.s24]; simp only [intOf]; omega
          rw [hm11, hm8]
          omega
        · rw [decide_eq_false hlt3] at h281
          refine wp_cond_false h281 (wp_exit ?_)
          show Code.wp _ _ _ _ _
          refine wp_seq (reg_mono (anew_r60 (by kernel_rfl) _ F9 ?_))
          intro a10 F10 h4
          refine wp_ret ?_
          exact anew_ret F10 (h4.trans A8.h5) (BE.out.trans (A8.below.mono BE.out.size))
end Go.Proofs.Ythgfijmpofbchaa
