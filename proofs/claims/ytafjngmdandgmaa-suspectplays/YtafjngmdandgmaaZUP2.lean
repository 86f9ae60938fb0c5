/-
  SuspectPlays, as it runs, of what the program answers (mkup.py).
-/
import Derived.Test.YtafjngmdandgmaaZUP1
namespace Go.Proofs.Ytafjngmdandgmaa
open Go.RowKit

attribute [local go_sem ↓] Go.wp_at_zero Go.wp_at_succ
set_option linter.unusedSimpArgs false
set_option linter.unusedVariables false
theorem up_ret {w W : World} {a : Act} {v : Vup} {r : Bool} (hF : Fup a v) (h4 : v.v4 = .bool r) (hB : Below w.heap.size w W) :
    bodyPost Try.prog Try.f3 (fun e w' => e = .returned (.bool r) ∧ Below w.heap.size w w') .ret a W := by
  have g4 := slot_get (hF.s4.trans h4)
  refine bodyPost_ret (v := .bool r) ?_ hF.defers ⟨rfl, hB⟩
  simp [results, Try.results3, go_sem, g4]
/-- Both suspects, apart. -/
structure Duo (U : Sus) (ad : Addr) (b b1 b2 : Nat) (N : Nat → Prop) (SA SB : SU) (w W : World) : Prop where
  lies : ∃ O, U.lies W ad O SA ∧ ∀ k, O k → w.heap.size ≤ k ∧ ¬ rOwn b b1 b2 k ∧ ¬ N k
  ref : RAt W b b1 b2 SB
  own : ∀ k, rOwn b b1 b2 k → w.heap.size ≤ k ∧ ¬ N k
  size : ∀ k, N k → k < W.heap.size
  below : Below w.heap.size w W
section
variable {U : Sus} {ad : Addr} {b b1 b2 : Nat} {N : Nat → Prop} {SA SB : SU} {w W W' : World}
theorem Duo.stays (h : Duo U ad b b1 b2 N SA SB w W) (hb : Below W.heap.size W W') : Duo U ad b b1 b2 N SA SB w W' := by
  obtain ⟨⟨O, l, ho⟩, h2, h3, h4, h5⟩ := h
  exact ⟨⟨O, U.below l hb, ho⟩, h2.below hb, h3, fun k hk => Nat.lt_of_lt_of_le (h4 k hk) hb.size, h5.trans (hb.mono h5.size)⟩
theorem Duo.more (h : Duo U ad b b1 b2 N SA SB w W) (d : Nat) (hd : W.heap.size ≤ d) (hb : Below W.heap.size W W') (hd2 : d < W'.heap.size) : Duo U ad b b1 b2 (fun k => k = d) SA SB w W' := by
  obtain ⟨⟨O, l, ho⟩, h2, h3, h4, h5⟩ := h
  refine ⟨⟨O, U.below l hb, fun k hk => ⟨(ho k hk).1, (ho k hk).2.1, fun e => ?_⟩⟩, h2.below hb, fun k hk => ⟨(h3 k hk).1, fun e => ?_⟩, fun k hk => hk ▸ hd2, h5.trans (hb.mono h5.size)⟩
  · have := U.lt l k hk
    omega
  · have := h2.lt k hk
    omega
theorem Duo.less (h : Duo U ad b b1 b2 N SA SB w W) : Duo U ad b b1 b2 (fun _ => False) SA SB w W := by
  obtain ⟨⟨O, l, ho⟩, h2, h3, h4, h5⟩ := h
  exact ⟨⟨O, l, fun k hk => ⟨(ho k hk).1, (ho k hk).2.1, fun e => e⟩⟩, h2, fun k hk => ⟨(h3 k hk).1, fun e => e⟩, fun _ e => e.elim, h5⟩
theorem Duo.turn {SA' : SU} {O : Nat → Prop} (h : Duo U ad b b1 b2 N SA SB w W) (ho : ∀ k, O k → w.heap.size ≤ k ∧ ¬ rOwn b b1 b2 k ∧ ¬ N k) (t : Turned U W W' ad O SA') : Duo U ad b b1 b2 N SA' SB w W' ∧ ∀ k, N k → W'.heap[k]? = W.heap[k]? := by
  obtain ⟨O', l, o'⟩ := t.lies
  refine ⟨⟨⟨O', l, fun k hk => ?_⟩, h.ref.keep fun k hk => t.touch.block k (h.ref.lt k hk) fun e => (ho k e).2.1 hk, h.own, fun k hk => Nat.lt_of_lt_of_le (h.size k hk) t.touch.size, h.below.trans (t.touch.toBelow h.below.size fun k hk e => ?_)⟩, fun k hk => t.touch.block k (h.size k hk) fun e => (ho k e).2.2 hk⟩
  · rcases o' k hk with e | e
    · exact ho k e
    · refine ⟨Nat.le_trans h.below.size e, fun c => ?_, fun c => ?_⟩
      · have := h.ref.lt k c
        omega
      · have := h.size k c
        omega
  · have := (ho k e).1
    omega
theorem Duo.turnR {SB' : SU} (h : Duo U ad b b1 b2 N SA SB w W) (hr : RAt W' b b1 b2 SB') (t : Touch (rOwn b b1 b2) W W') : Duo U ad b b1 b2 N SA SB' w W' ∧ ∀ k, N k → W'.heap[k]? = W.heap[k]? := by
  obtain ⟨⟨O, l, ho⟩, h2, h3, h4, h5⟩ := h
  refine ⟨⟨⟨O, U.keep l (fun k hk => t.block k (U.lt l k hk) (ho k hk).2.1) t.size, ho⟩, hr, h3, fun k hk => Nat.lt_of_lt_of_le (h4 k hk) t.size, h5.trans (t.toBelow h5.size fun k hk e => ?_)⟩, fun k hk => t.block k (h4 k hk) fun e => (h3 k e).2 hk⟩
  have := (h3 k e).1
  omega
theorem Duo.heard (h : Duo U ad b b1 b2 N SA SB w W) (x : MB) : Calls Try.prog 11 #[.pointer (some ad), x.v] W fun e w' => e = .returned (.bool (SA.hears x)) ∧ Duo U ad b b1 b2 N (SA.heard x) SB w w' ∧ ∀ k, N k → w'.heap[k]? = W.heap[k]? := by
  obtain ⟨O, l, ho⟩ := h.lies
  refine (U.heard x l).mono ?_
  rintro e w' ⟨rfl, h1, h2⟩
  exact ⟨rfl, h.turn ho ⟨h1, h2⟩⟩
theorem Duo.heardR (h : Duo U ad b b1 b2 N SA SB w W) (x : MB) : Calls Try.prog 12 #[.pointer (some ⟨b, 0, none⟩), x.v] W fun e w' => e = .returned (.bool (SB.hears x)) ∧ Duo U ad b b1 b2 N SA (SB.heard x) w w' ∧ ∀ k, N k → w'.heap[k]? = W.heap[k]? := by
  refine (rheard h.ref x).mono ?_
  rintro e w' ⟨rfl, h1, h2⟩
  exact ⟨rfl, h.turnR h1 h2⟩
theorem Duo.tick (h : Duo U ad b b1 b2 N SA SB w W) (hn : SA.now ≤ 1000000) : Calls Try.prog 9 #[.pointer (some ad)] W fun e w' => (∃ x, e = .returned x) ∧ Duo U ad b b1 b2 N SA.tick SB w w' ∧ ∀ k, N k → w'.heap[k]? = W.heap[k]? := by
  obtain ⟨O, l, ho⟩ := h.lies
  refine (U.tick l hn).mono ?_
  rintro e w' ⟨h0, h1, h2⟩
  exact ⟨h0, h.turn ho ⟨h1, h2⟩⟩
theorem Duo.tickR (h : Duo U ad b b1 b2 N SA SB w W) (hn : SB.now ≤ 1000000) : Calls Try.prog 10 #[.pointer (some ⟨b, 0, none⟩)] W fun e w' => (∃ x, e = .returned x) ∧ Duo U ad b b1 b2 N SA SB.tick w w' ∧ ∀ k, N k → w'.heap[k]? = W.heap[k]? := by
  refine (rtick h.ref hn).mono ?_
  rintro e w' ⟨h0, h1, h2⟩
  exact ⟨h0, h.turnR h1 h2⟩
end
set_option maxHeartbeats 16000000 in
set_option maxRecDepth 100000 in
theorem plays_walk (HX : SExSays) (U : Sus) (m : MB) (L : List (Bool × MB)) (ao : Option Addr) (cp : Nat) (w : World) (hL : DeedsAt w ao L) :
    Calls Try.prog 3 #[m.v, .slice ao L.length cp] w fun e w' => e = .returned (.bool true) ∧ Below w.heap.size w w' := by
  have HXX := hide HX
  have HL := hide hL
  have X0 := hide (heap_alloc_new w (.cells #[.int .i64 m.node, .int .i64 m.life] tMember))
  have HB := hide ((Below.refl w.heap.size w).alloc (Nat.le_refl _) (.cells #[.int .i64 m.node, .int .i64 m.life] tMember))
  clear hL HX
  simp only [MB.v]
  go_enter Try.func3, Try.ntmps3
  go_upto_region 1 with fail
  rename_i Ko hKo
  generalize w.alloc (.cells #[.int .i64 m.node, .int .i64 m.life] tMember) = w1 at *
  refine reg_mono (up_r1 (by kernel_rfl) _ (v := ⟨_, _, _, _, _, _, _, _, _, _, _, _⟩) ⟨rfl, rfl, rfl, rfl, rfl, rfl, rfl, rfl, rfl, rfl, rfl, rfl, rfl, rfl⟩ (HXX.out w1) ?_)
  intro a2 w2 F2 b2'
  refine hKo _ _ ?_
  have D2 := (b2'.block _ (heap_lt X0.out)).trans X0.out
  have B2 := HB.out.trans (b2'.mono HB.out.size)
  refine wp_seq (reg_mono (up_r2 (by kernel_rfl) _ F2 rfl D2 (U.gave m w2) ?_))
  intro a3 w3 p z F3 g3
  obtain ⟨n1, n2, b3⟩ := g3
  have D3 := (b3.block _ (heap_lt D2)).trans D2
  have B3 := B2.trans (b3.mono B2.size)
  have hrn : Calls Try.prog 8 #[m.v] w3 fun e w' => ∃ p, e = .returned p ∧ RNew m w3 (.returned p) w' := by
    refine (rnew m w3).mono ?_
    intro e w' q
    by_cases hm : m.right
    · obtain ⟨b, b1, b2, he, _⟩ := q.1 hm
      exact ⟨_, he, he ▸ q⟩
    · have he := q.2.1 hm
      exact ⟨_, he, he ▸ q⟩
  refine wp_seq (reg_mono (up_r3 (by kernel_rfl) _ F3 rfl D3 hrn ?_))
  intro a4 w4 p4 F4 q4
  obtain ⟨r1, r2, b4⟩ := q4
  have B4 := B3.trans (b4.mono B3.size)
  by_cases hm : m.right
  case neg =>
    obtain ⟨rfl, rfl⟩ := n2 hm
    injection r2 hm with r2
    subst r2
    refine wp_seq (wp_seq (reg_mono (up_r4n (by kernel_rfl) _ F4 rfl ?_)))
    intro a5 F5 h23
    refine wp_cond_true h23 (wp_seq (reg_mono (up_r5 (by kernel_rfl) _ F5 rfl rfl rfl ?_)))
    intro a6 F6
    exact wp_ret (up_ret F6 rfl B4)
  obtain ⟨ad, rfl, rfl, O, l3, o3⟩ := n1 hm
  obtain ⟨b, b1, b2, hp, R4, o4⟩ := r1 hm
  injection hp with hp
  subst hp
  have Z4 : Duo U ad b b1 b2 (fun _ => False) (SU.new m) (SU.new m) w w4 := ⟨⟨O, U.below l3 b4, fun k hk => ⟨Nat.le_trans B2.size (o3 k hk), fun e => by have := o4 k e; have := U.lt l3 k hk; omega, fun e => e⟩⟩, R4, fun k hk => ⟨Nat.le_trans B3.size (o4 k hk), fun e => e⟩, fun _ e => e.elim, B4⟩
  refine wp_seq (wp_seq (reg_mono (up_r4 (by kernel_rfl) _ F4 rfl ?_)))
  intro a5 F5 h23
  refine wp_cond_false h23 (wp_skip ?_)
  show Code.wp _ _ _ _ _
  refine wp_seq (wp_seq (reg_mono (up_r6 (by kernel_rfl) _ F5 rfl rfl ?_)))
  intro a6 F6 h38
  refine wp_cond_false h38 (wp_skip ?_)
  show Code.wp _ _ _ _ _
  refine wp_seq (wp_seq (reg_mono (up_r8 (by kernel_rfl) _ F6 ?_)))
  intro a7 F7
  refine wp_block (wp_loop (fun a W => ∃ (i : Nat) (v : Vup) (S : SU), i ≤ L.length ∧ i ≤ 200 ∧ Fup a v ∧ v.v1 = .slice ao L.length cp ∧ v.v5 = .bool true ∧ v.v6 = .pointer (some ad) ∧ v.v8 = .pointer (some ⟨b, 0, none⟩) ∧ v.v9 = .int .i64 (i : Int) ∧ S.now ≤ i ∧ Duo U ad b b1 b2 (fun _ => False) S S w W) (fun a _ => L.length - (intOf (a.tmps.getD 9 undef)).toNat) ⟨0, _, _, Nat.zero_le _, Nat.zero_le _, F7, rfl, rfl, rfl, rfl, rfl, Nat.le_refl _, Z4⟩ ?_)
  clear F2 F3 F4 F5 F6 F7 h23 h38 D2 D3 B2 B3 B4 b2' b3 b4 n1 n2 l3 o3 r1 r2 R4 o4 Z4 hrn
  rintro a8 w8 ⟨i, v8, S, hi, hi2, F8, g1, g5, g6, g8, g9, hnow, Z8⟩
  have hm8 : (intOf (a8.tmps.getD 9 undef)).toNat = i := by rw [F8.s9, g9]; simp [intOf]
  refine wp_seq (wp_seq (reg_mono (up_r9 (by kernel_rfl) _ F8 g1 g9 ?_)))
  intro a9 F9 h46
  by_cases hlt : i < L.length ∧ i < 200
  case neg =>
    rw [decide_eq_false hlt] at h46
    refine wp_cond_false h46 (wp_exit ?_)
    show Code.wp _ _ _ _ _
    refine wp_seq (reg_mono (up_r26 (by kernel_rfl) _ F9 g5 ?_))
    intro a10 F10
    exact wp_ret (up_ret F10 rfl Z8.below)
  rw [decide_eq_true hlt] at h46
  refine wp_cond_true h46 (wp_skip ?_)
  show Code.wp _ _ _ _ _
  obtain ⟨bb, off, hao, _, y0, y1, y2⟩ := HL.out.below Z8.below i hlt.1
  rw [hao] at g1
  refine wp_seq (wp_block (wp_seq (reg_mono (up_r11 (by kernel_rfl) _ F9 g1 g9 hlt.1 y0 y1 y2 ?_))))
  intro a10 F10
  have D10 := heap_alloc_new w8 (.cells #[.bool L[i].1, .int .i64 L[i].2.node, .int .i64 L[i].2.life] tDeed)
  have Z10 := Z8.more w8.heap.size (Nat.le_refl _) ((Below.refl w8.heap.size w8).alloc (Nat.le_refl _) (.cells #[.bool L[i].1, .int .i64 L[i].2.node, .int .i64 L[i].2.life] tDeed)) (heap_lt D10)
  generalize w8.alloc (.cells #[.bool L[i].1, .int .i64 L[i].2.node, .int .i64 L[i].2.life] tDeed) = w10 at *
  generalize w8.heap.size = d at *
  refine wp_mid (fun a W => ∃ (v : Vup) (S : SU), Fup a v ∧ v.v1 = .slice ao L.length cp ∧ v.v5 = .bool true ∧ v.v6 = .pointer (some ad) ∧ v.v8 = .pointer (some ⟨b, 0, none⟩) ∧ v.v9 = .int .i64 (i : Int) ∧ v.v10 = .pointer (some ⟨d, 0, none⟩) ∧ S.now ≤ i + 1 ∧ W.heap[d]? = some (.cells #[.bool L[i].1, .int .i64 L[i].2.node, .int .i64 L[i].2.life] tDeed (0, 0)) ∧ Duo U ad b b1 b2 (fun k => k = d) S S w W) ?_ ?_
  · refine wp_seq (reg_mono (up_r12 (m := L[i].2) (by kernel_rfl) _ F10 rfl D10 ?_))
    intro a11 F11 h54
    cases hb : L[i].1 with
    | true =>
      rw [hb] at h54
      refine wp_cond_true h54 (wp_seq (reg_mono (up_r13 (by kernel_rfl) _ F11 g6 (Z10.tick (by omega)) ?_)))
      rintro a12 w12 F12 ⟨Z12, k12⟩
      refine up_r14 (by kernel_rfl) _ F12 g8 (Z12.tickR (by omega)) ?_
      rintro a13 w13 F13 ⟨Z13, k13⟩
      exact ⟨_, S.tick, F13, hao ▸ g1, g5, g6, g8, g9, rfl, by show S.now + 1 ≤ i + 1; omega, by rw [k13 d rfl, k12 d rfl, ← hb]; exact D10, Z13⟩
    | false =>
      rw [hb] at h54
      refine wp_cond_false h54 (wp_seq (reg_mono (up_r15 (m := L[i].2) (r := S.hears L[i].2) (St := fun x y W => Duo U ad b b1 b2 (fun k => k = d) (if x then S.heard L[i].2 else S) (if y then S.heard L[i].2 else S) w W ∧ W.heap[d]? = some (.cells #[.bool L[i].1, .int .i64 L[i].2.node, .int .i64 L[i].2.life] tDeed (0, 0))) (by kernel_rfl) _ F11 g6 g8 rfl ⟨Z10.stays (Below.refl _ _).drew, D10⟩ ?_ ?_ ?_ ?_)))
      · rintro x y W ⟨_, hW⟩
        exact ⟨box_cell hW 1 rfl, box_cell hW 2 rfl⟩
      · rintro W y ⟨Z, hW⟩
        refine (Z.heard L[i].2).mono ?_
        rintro e w' ⟨rfl, Z', k'⟩
        exact ⟨rfl, Z', (k' d rfl).trans hW⟩
      · rintro W x ⟨Z, hW⟩
        refine (Z.heardR L[i].2).mono ?_
        rintro e w' ⟨rfl, Z', k'⟩
        exact ⟨rfl, Z', (k' d rfl).trans hW⟩
      · rintro a12 w12 F12 h67 ⟨Z12, D12⟩
        refine wp_cond_false h67 (wp_skip ?_)
        exact ⟨_, S.heard L[i].2, F12, hao ▸ g1, g5, g6, g8, g9, rfl, by rw [(SU.heard_self S _).2]; omega, by rw [← hb]; exact D12, Z12⟩
  clear F8 F9 F10 g1 g5 g6 g8 g9 hnow Z8 Z10 D10 y0 y1 y2 hao h46
  rintro a11 w11 ⟨v11, S, F11, g1, g5, g6, g8, g9, g10, hnow, D11, Z11⟩
  obtain ⟨O, lO, _⟩ := Z11.lies
  refine wp_seq (reg_mono (up_r17 (n := S.alive.length) (R := fun ro W => MemsAt W ro S.alive ∧ Below w11.heap.size w11 W) (by kernel_rfl) _ F11 g6 ((U.alive lO).mono (by rintro e w' ⟨ro, rc, h1, h2, h3, _⟩; exact ⟨ro, rc, h1, h2, h3⟩)) ?_))
  rintro a12 w12 ro rc F12 ⟨m12, b12⟩
  have Z12 := Z11.stays b12
  have D12 := (b12.block _ (heap_lt D11)).trans D11
  refine wp_seq (reg_mono (up_r18 (n := S.alive.length) (R := fun ro W => MemsAt W ro S.alive ∧ Below w12.heap.size w12 W) (by kernel_rfl) _ F12 g8 (ralive Z12.ref (by omega)) ?_))
  rintro a13 w13 ro' rc' F13 ⟨m13, b13⟩
  have Z13 := Z12.stays b13
  have D13 := (b13.block _ (heap_lt D12)).trans D12
  have n13 := m12.below b13
  have is1 : ∀ W, Below w13.heap.size w13 W → Calls Try.prog 15 #[.pointer (some ad), L[i].2.v] W fun e w' => e = .returned (.bool (S.is L[i].2)) ∧ Below W.heap.size W w' := fun W bW => by
    obtain ⟨O, lO, _⟩ := (Z13.stays bW).lies
    exact U.is _ lO
  have is2 : ∀ W, Below w13.heap.size w13 W → Calls Try.prog 16 #[.pointer (some ⟨b, 0, none⟩), L[i].2.v] W fun e w' => e = .returned (.bool (S.is L[i].2)) ∧ Below W.heap.size W w' := fun W bW => ris (Z13.stays bW).ref (by omega) _
  refine wp_seq (wp_seq (reg_mono (up_r19 (by kernel_rfl) _ F13 g6 g8 g10 rfl rfl D13 is1 is2 ?_)))
  intro a14 w14 F14 h87 b14
  refine wp_cond_false h87 (wp_skip ?_)
  show Code.wp _ _ _ _ _
  have Z14 := (Z13.stays b14).less
  have n14 := n13.below b14
  have m14 := m13.below b14
  clear F11 F12 F13 h87 D11 D12 D13 Z11 Z12 Z13 m12 m13 n13 b12 b13 b14 is1 is2 lO
  refine wp_seq (reg_mono (up_r21 (by kernel_rfl) _ F14 ?_))
  intro a15 F15
  refine wp_block (wp_loop (fun a W => ∃ (k : Nat) (v : Vup), k ≤ S.alive.length ∧ Fup a v ∧ v.v1 = .slice ao L.length cp ∧ v.v5 = .bool true ∧ v.v6 = .pointer (some ad) ∧ v.v8 = .pointer (some ⟨b, 0, none⟩) ∧ v.v9 = .int .i64 (i : Int) ∧ v.v11 = .slice ro S.alive.length rc ∧ v.v12 = .slice ro' S.alive.length rc' ∧ v.v13 = .int .i64 (k : Int) ∧ Below w14.heap.size w14 W) (fun a _ => S.alive.length - (intOf (a.tmps.getD 13 undef)).toNat) ⟨0, _, Nat.zero_le _, F15, g1, g5, g6, g8, g9, rfl, rfl, rfl, Below.refl _ _⟩ ?_)
  clear F14 F15 g1 g5 g6 g8 g9 g10
  rintro a16 w16 ⟨k, v16, hk, F16, g1, g5, g6, g8, g9, g11, g12, g13, b16⟩
  have hm16 : (intOf (a16.tmps.getD 13 undef)).toNat = k := by rw [F16.s13, g13]; simp [intOf]
  have hl7 := SU.upto_len S 7
  refine wp_seq (wp_seq (reg_mono (up_r22 (by kernel_rfl) _ F16 g11 g13 ?_)))
  intro a17 F17 h91
  by_cases hlk : k < S.alive.length
  case neg =>
    rw [decide_eq_false hlk] at h91
    refine wp_cond_false h91 (wp_exit ?_)
    show Code.wp _ _ _ _ _
    refine reg_all (up_r10 (by kernel_rfl) _ F17 g9 (by omega) ?_)
    intro a18 F18
    refine ⟨⟨i + 1, _, S, by omega, by omega, F18, g1, g5, g6, g8, rfl, hnow, Z14.stays b16⟩, ?_⟩
    have hm18 : (intOf (a18.tmps.getD 9 undef)).toNat = i + 1 := by rw [F18.s9]; simp only [intOf]; omega
    rw [hm18, hm8]
    omega
  rw [decide_eq_true hlk] at h91
  refine wp_cond_true h91 (wp_skip ?_)
  show Code.wp _ _ _ _ _
  obtain ⟨c1, o1, hro, _, y0, y1⟩ := n14.below b16 k hlk
  obtain ⟨c2, o2, hro', _, z0, z1⟩ := m14.below b16 k hlk
  refine wp_seq (wp_block (wp_seq (reg_mono (up_r24 (by kernel_rfl) _ F17 (by rw [← hro]; exact g11) (by rw [← hro']; exact g12) g13 hlk y0 y1 z0 z1 ?_))))
  intro a18 w18 F18 h102 b18
  refine wp_cond_false h102 (wp_skip ?_)
  show Code.wp _ _ _ _ _
  refine reg_all (up_r23 (by kernel_rfl) _ F18 g13 (by unfold SU.alive at hlk; omega) ?_)
  intro a19 F19
  refine ⟨⟨k + 1, _, by omega, F19, g1, g5, g6, g8, g9, g11, g12, rfl, b16.trans (b18.mono b16.size)⟩, ?_⟩
  have hm19 : (intOf (a19.tmps.getD 13 undef)).toNat = k + 1 := by rw [F19.s13]; simp only [intOf]; omega
  rw [hm19, hm16]
  omega
end Go.Proofs.Ytafjngmdandgmaa
