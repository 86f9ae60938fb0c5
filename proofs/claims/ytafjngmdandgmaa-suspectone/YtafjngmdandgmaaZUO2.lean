/-
  SuspectOne, as it runs, of what the program answers (mkuo.py).
-/
import Derived.Test.YtafjngmdandgmaaZUO1
namespace Go.Proofs.Ytafjngmdandgmaa
open Go.RowKit

attribute [local go_sem ↓] Go.wp_at_zero Go.wp_at_succ
set_option linter.unusedSimpArgs false
set_option linter.unusedVariables false
theorem uo_ret {w W : World} {a : Act} {v : Vuo} {r : Bool} (hF : Fuo a v) (h4 : v.v4 = .bool r) (hB : Below w.heap.size w W) :
    bodyPost Try.prog Try.f5 (fun e w' => e = .returned (.bool r) ∧ Below w.heap.size w w') .ret a W := by
  have g4 := slot_get (hF.s4.trans h4)
  refine bodyPost_ret (v := .bool r) ?_ hF.defers ⟨rfl, hB⟩
  simp [results, Try.results5, go_sem, g4]
/-- What New gives. -/
def NewGave (U : Sus) (m : MB) (w : World) (p : Value) (z : Int) (w' : World) : Prop := (m.right → ∃ ad, p = .pointer (some ad) ∧ z = 0 ∧ ∃ O, U.lies w' ad O (SU.new m) ∧ ∀ k, O k → w.heap.size ≤ k) ∧ (¬ m.right → p = .pointer none ∧ z = 1) ∧ Below w.heap.size w w'
theorem Sus.gave (U : Sus) (m : MB) (w : World) : Calls Try.prog 7 #[m.v] w fun e w' => ∃ p z, e = .returned (.tuple #[p, .int .i64 z]) ∧ NewGave U m w p z w' := by
  by_cases h : m.right
  · refine (U.new m w h).mono ?_
    rintro e w' ⟨ad, rfl, h1, h2⟩
    exact ⟨_, _, rfl, fun _ => ⟨ad, rfl, rfl, h1⟩, fun e => absurd h e, h2⟩
  · refine (U.newNo m w h).mono ?_
    rintro e w' ⟨rfl, h2⟩
    exact ⟨_, _, rfl, fun e => absurd e h, fun _ => ⟨rfl, rfl⟩, h2⟩
/-- A call that turned the suspect. -/
structure Turned (U : Sus) (w w' : World) (ad : Addr) (O : Nat → Prop) (S : SU) : Prop where
  lies : ∃ O', U.lies w' ad O' S ∧ ∀ k, O' k → O k ∨ w.heap.size ≤ k
  touch : Touch O w w'
set_option maxHeartbeats 16000000 in
set_option maxRecDepth 100000 in
theorem one_walk (HX : SExSays) (U : Sus) (m : MB) (L : List (Bool × MB)) (ao : Option Addr) (cp : Nat) (w : World) (hL : DeedsAt w ao L) :
    Calls Try.prog 5 #[m.v, .slice ao L.length cp] w fun e w' => e = .returned (.bool true) ∧ Below w.heap.size w w' := by
  have HXX := hide HX
  have HL := hide hL
  have X0 := hide (heap_alloc_new w (.cells #[.int .i64 m.node, .int .i64 m.life] tMember))
  have HB := hide ((Below.refl w.heap.size w).alloc (Nat.le_refl _) (.cells #[.int .i64 m.node, .int .i64 m.life] tMember))
  have HS := hide (show w.heap.size < (w.alloc (.cells #[.int .i64 m.node, .int .i64 m.life] tMember)).heap.size from heap_lt X0.out)
  clear hL HX
  simp only [MB.v]
  go_enter Try.func5, Try.ntmps5
  go_upto_region 1 with fail
  rename_i Ko hKo
  generalize w.alloc (.cells #[.int .i64 m.node, .int .i64 m.life] tMember) = w1 at *
  refine reg_mono (uo_r1 (by kernel_rfl) _ (v := ⟨_, _, _, _, _, _, _, _, _, _⟩) ⟨rfl, rfl, rfl, rfl, rfl, rfl, rfl, rfl, rfl, rfl, rfl, rfl⟩ (HXX.out w1) ?_)
  intro a2 w2 F2 b2
  refine hKo _ _ ?_
  have D2 := (b2.block _ (heap_lt X0.out)).trans X0.out
  have B2 := HB.out.trans (b2.mono HB.out.size)
  have S2 := heap_lt D2
  refine wp_seq (reg_mono (uo_r2 (by kernel_rfl) _ F2 rfl D2 (U.gave m w2) ?_))
  intro a3 w3 p z F3 g3
  obtain ⟨n1, n2, b3⟩ := g3
  have D3 := (b3.block _ S2).trans D2
  have B3 := B2.trans (b3.mono B2.size)
  by_cases hm : m.right
  case neg =>
    obtain ⟨rfl, rfl⟩ := n2 hm
    refine wp_seq (wp_seq (reg_mono (uo_r3n (by kernel_rfl) _ F3 rfl ?_)))
    intro a4 F4 h23
    refine wp_cond_true h23 (wp_seq (reg_mono (uo_r4 (by kernel_rfl) _ F4 rfl rfl ?_)))
    intro a5 F5
    exact wp_ret (uo_ret F5 rfl B3)
  obtain ⟨ad, rfl, rfl, O, l3, o3⟩ := n1 hm
  refine wp_seq (wp_seq (reg_mono (uo_r3 (by kernel_rfl) _ F3 rfl rfl ?_)))
  intro a4 F4 h23
  refine wp_cond_false h23 (wp_skip ?_)
  show Code.wp _ _ _ _ _
  refine wp_seq (wp_seq (reg_mono (uo_r5 (by kernel_rfl) _ F4 ?_)))
  intro a5 F5
  refine wp_block (wp_loop (fun a W => ∃ (i : Nat) (v : Vuo) (O : Nat → Prop) (S : SU), i ≤ L.length ∧ i ≤ 100 ∧ Fuo a v ∧ v.v1 = .slice ao L.length cp ∧ v.v2 = .pointer (some ⟨w.heap.size, 0, none⟩) ∧ v.v5 = .bool true ∧ v.v6 = .pointer (some ad) ∧ v.v8 = .int .i64 (i : Int) ∧ S.self = m ∧ S.now ≤ i ∧ U.lies W ad O S ∧ (∀ k, O k → w.heap.size < k) ∧ W.heap[w.heap.size]? = some (.cells #[.int .i64 m.node, .int .i64 m.life] tMember (0, 0)) ∧ Below w.heap.size w W) (fun a _ => L.length - (intOf (a.tmps.getD 8 undef)).toNat) ⟨0, _, O, _, Nat.zero_le _, Nat.zero_le _, F5, rfl, rfl, rfl, rfl, rfl, rfl, Nat.le_refl _, l3, fun k hk => Nat.lt_of_lt_of_le S2 (o3 k hk), D3, B3⟩ ?_)
  clear F2 F3 F4 F5 h23 D2 D3 B2 B3 b2 b3 n1 n2 l3 o3 S2
  clear O
  rintro a6 w6 ⟨i, v6, O, S, hi, hi2, F6, g1, g2, g5, g6, g8, hS, hnow, l6, o6, D6, B6⟩
  have hm6 : (intOf (a6.tmps.getD 8 undef)).toNat = i := by rw [F6.s8, g8]; simp [intOf]
  refine wp_seq (wp_seq (reg_mono (uo_r6 (by kernel_rfl) _ F6 g1 g8 ?_)))
  intro a7 F7 h36
  by_cases hlt : i < L.length ∧ i < 100
  case neg =>
    rw [decide_eq_false hlt] at h36
    refine wp_cond_false h36 (wp_exit ?_)
    show Code.wp _ _ _ _ _
    refine wp_seq (reg_mono (uo_r21 (by kernel_rfl) _ F7 g5 ?_))
    intro a8 F8
    exact wp_ret (uo_ret F8 rfl B6)
  rw [decide_eq_true hlt] at h36
  refine wp_cond_true h36 (wp_skip ?_)
  show Code.wp _ _ _ _ _
  obtain ⟨b, off, hao, _, y0, y1, y2⟩ := HL.out.below B6 i hlt.1
  rw [hao] at g1
  refine wp_seq (wp_block (wp_mid (fun a W => ∃ (v : Vuo) (O : Nat → Prop) (S : SU), Fuo a v ∧ v.v1 = .slice ao L.length cp ∧ v.v2 = .pointer (some ⟨w.heap.size, 0, none⟩) ∧ v.v5 = .bool true ∧ v.v6 = .pointer (some ad) ∧ v.v8 = .int .i64 (i : Int) ∧ S.self = m ∧ S.now ≤ i + 1 ∧ U.lies W ad O S ∧ (∀ k, O k → w.heap.size < k) ∧ W.heap[w.heap.size]? = some (.cells #[.int .i64 m.node, .int .i64 m.life] tMember (0, 0)) ∧ Below w.heap.size w W) ?_ ?_))
  · refine wp_seq (reg_mono (uo_r8 (by kernel_rfl) _ F7 g1 g8 hlt.1 y0 ?_))
    intro a8 F8 h43
    have fin : ∀ {W : World} {S' : SU}, Turned U w6 W ad O S' → (∃ O', U.lies W ad O' S' ∧ (∀ k, O' k → w.heap.size < k) ∧ W.heap[w.heap.size]? = some (.cells #[.int .i64 m.node, .int .i64 m.life] tMember (0, 0)) ∧ Below w.heap.size w W) := by
      intro W S' t
      obtain ⟨O', l, o⟩ := t.lies
      refine ⟨O', l, fun k hk => ?_, t.touch.at D6 (fun e => Nat.lt_irrefl _ (o6 _ e)), B6.trans (t.touch.toBelow B6.size fun k hk e => ?_)⟩
      · rcases o k hk with e | e
        · exact o6 k e
        · exact Nat.lt_of_lt_of_le (heap_lt D6) e
      · have := o6 k e
        omega
    cases hb : L[i].1 with
    | true =>
      rw [hb] at h43
      refine wp_cond_true h43 (uo_r9 (R := fun W => Turned U w6 W ad O S.tick) (by kernel_rfl) _ F8 g6 ((U.tick l6 (by omega)).mono ?_) ?_)
      · rintro e W ⟨h1, h2, h3⟩
        exact ⟨h1, h2, h3⟩
      · intro a9 w9 F9 t9
        obtain ⟨O', l, o, D, B⟩ := fin t9
        exact ⟨_, O', S.tick, F9, hao ▸ g1, g2, g5, g6, g8, hS, by show S.now + 1 ≤ i + 1; omega, l, o, D, B⟩
    | false =>
      rw [hb] at h43
      refine wp_cond_false h43 (uo_r10 (m := L[i].2) (r := S.hears L[i].2) (R := fun W => Turned U w6 W ad O (S.heard L[i].2)) (by kernel_rfl) _ F8 g1 g6 g8 hlt.1 y1 y2 ((U.heard L[i].2 l6).mono ?_) ?_)
      · rintro e W ⟨h1, h2, h3⟩
        exact ⟨h1, h2, h3⟩
      · intro a9 w9 F9 t9
        obtain ⟨O', l, o, D, B⟩ := fin t9
        exact ⟨_, O', S.heard L[i].2, F9, hao ▸ g1, g2, g5, g6, g8, (SU.heard_self S _).1.trans hS, by rw [(SU.heard_self S _).2]; omega, l, o, D, B⟩
  clear F6 F7 g1 g2 g5 g6 g8 hS hnow l6 o6 D6 B6 y0 y1 y2 hao h36
  clear O S
  rintro a9 w9 ⟨v9, O, S, F9, g1, g2, g5, g6, g8, hS, hnow, l9, o9, D9, B9⟩
  refine wp_seq (reg_mono (uo_r11 (n := S.alive.length) (R := fun ro W => MemsAt W ro S.alive ∧ Below w9.heap.size w9 W) (by kernel_rfl) _ F9 g6 ((U.alive l9).mono (by rintro e w' ⟨ro, rc, h1, h2, h3, _⟩; exact ⟨ro, rc, h1, h2, h3⟩)) ?_))
  rintro a10 w10 ro rc F10 ⟨m10, b10⟩
  have D10 := (b10.block _ (heap_lt D9)).trans D9
  have B10 := B9.trans (b10.mono B9.size)
  have l10 := U.below l9 b10
  refine wp_seq (reg_mono (uo_r12 (by kernel_rfl) _ F10 ?_))
  intro a11 F11
  refine wp_seq (wp_seq (reg_mono (uo_r13 (by kernel_rfl) _ F11 ?_)))
  intro a12 F12
  refine wp_block (wp_loop (fun a W => ∃ (k : Nat) (v : Vuo), k ≤ S.alive.length ∧ Fuo a v ∧ v.v1 = .slice ao L.length cp ∧ v.v2 = .pointer (some ⟨w.heap.size, 0, none⟩) ∧ v.v5 = .bool true ∧ v.v6 = .pointer (some ad) ∧ v.v8 = .int .i64 (i : Int) ∧ v.v9 = .slice ro S.alive.length rc ∧ v.v10 = .bool (decide (m ∈ S.alive.take k)) ∧ v.v11 = .int .i64 (k : Int) ∧ Below w10.heap.size w10 W) (fun a _ => S.alive.length - (intOf (a.tmps.getD 11 undef)).toNat) ⟨0, _, Nat.zero_le _, F12, g1, g2, g5, g6, g8, rfl, by simp, rfl, Below.refl _ _⟩ ?_)
  clear F9 F10 F11 F12 g1 g2 g5 g6 g8 D9 B9 l9 b10
  rintro a13 w13 ⟨k, v13, hk, F13, g1, g2, g5, g6, g8, g9, g10, g11, b13⟩
  have hm13 : (intOf (a13.tmps.getD 11 undef)).toNat = k := by rw [F13.s11, g11]; simp [intOf]
  have D13 := (b13.block _ (heap_lt D10)).trans D10
  have B13 := B10.trans (b13.mono B10.size)
  refine wp_seq (wp_seq (reg_mono (uo_r14 (by kernel_rfl) _ F13 g9 g11 ?_)))
  intro a14 F14 h58
  by_cases hlk : k < S.alive.length
  case neg =>
    rw [decide_eq_false hlk] at h58
    refine wp_cond_false h58 (wp_exit ?_)
    show Code.wp _ _ _ _ _
    obtain rfl : k = S.alive.length := by omega
    rw [List.take_length, decide_eq_true (by rw [← hS]; exact SU.self_alive (by rw [hS]; exact hm))] at g10
    refine wp_seq (reg_mono (uo_r19 (by kernel_rfl) _ F14 g10 ?_))
    intro a15 F15 h96
    refine wp_cond_false h96 (wp_skip ?_)
    show Code.wp _ _ _ _ _
    refine reg_all (uo_r7 (by kernel_rfl) _ F15 g8 (by omega) ?_)
    intro a16 F16
    refine ⟨⟨i + 1, _, O, S, by omega, by omega, F16, g1, g2, g5, g6, rfl, hS, hnow, U.below l10 b13, o9, D13, B13⟩, ?_⟩
    have hm16 : (intOf (a16.tmps.getD 8 undef)).toNat = i + 1 := by rw [F16.s8]; simp only [intOf]; omega
    rw [hm16, hm6]
    omega
  rw [decide_eq_true hlk] at h58
  refine wp_cond_true h58 (wp_skip ?_)
  show Code.wp _ _ _ _ _
  obtain ⟨b, off, hro, hbl, z0, z1⟩ := m10.below b13 k hlk
  rw [hro] at g9
  refine wp_seq (wp_block (wp_seq (reg_mono (uo_r16 (by kernel_rfl) _ F14 g2 g9 g10 g11 hlk D13 z0 z1 ?_))))
  intro a15 w15 F15 b15
  have c0 := (b15.cell (p := ⟨b, _, none⟩) hbl).trans z0
  have c1 := (b15.cell (p := ⟨b, _, none⟩) hbl).trans z1
  have hIs : ∀ W, Below w15.heap.size w15 W → Calls Try.prog 15 #[.pointer (some ad), S.alive[k].v] W fun e w' => e = .returned (.bool true) ∧ Below W.heap.size W w' := by
    intro W bW
    have := U.is S.alive[k] (U.below (U.below (U.below l10 b13) b15) bW)
    rw [SU.alive_get hlk] at this
    exact this
  have hmem : (decide (m ∈ S.alive.take k) || (S.alive[k].node == m.node && S.alive[k].life == m.life)) = decide (m ∈ S.alive.take (k + 1)) := by
    rw [List.take_add_one, List.getElem?_eq_getElem hlk, Option.toList_some]
    rw [Bool.eq_iff_iff]
    simp only [Bool.or_eq_true, decide_eq_true_eq, Bool.and_eq_true, beq_iff_eq, List.mem_append, List.mem_singleton]
    constructor
    · rintro (e | ⟨e1, e2⟩)
      · exact .inl e
      · refine .inr ?_
        cases hx : S.alive[k] with
        | mk x y =>
          rw [hx] at e1 e2
          cases m
          simp only at e1 e2
          rw [e1, e2]
    · rintro (e | e)
      · exact .inl e
      · exact .inr (by rw [e]; exact ⟨rfl, rfl⟩)
  rw [hmem] at F15
  refine wp_mid (fun a W => Fuo a { v13 with v10 := .bool (decide (m ∈ S.alive.take (k + 1))) } ∧ a.tmps.getD 94 undef = .bool false ∧ Below w15.heap.size w15 W) ?_ ?_
  · rcases Nat.eq_zero_or_pos k with h0 | h0
    · exact uo_r17a (by kernel_rfl) _ F15 g6 g9 g11 hlk (Nat.lt_of_lt_of_le hbl b15.size) c0 c1 h0 hIs (fun a' W F h b => ⟨F, h, b⟩)
    · obtain ⟨b', off', hro', _, x0, _⟩ := m10.below b13 (k - 1) (by omega)
      rw [hro] at hro'
      injection hro' with hro'
      injection hro' with e1 e2
      subst e1 e2
      have x1 := (b15.cell (p := ⟨b, _, none⟩) hbl).trans x0
      exact uo_r17 (by kernel_rfl) _ F15 g6 g9 g11 hlk (Nat.lt_of_lt_of_le hbl b15.size) c0 c1 (show k = k - 1 + 1 by omega) x1 (SU.alive_up hlk h0) (by have := SU.upto_len S 7; unfold SU.alive at hlk; omega) hIs (fun a' W F h b => ⟨F, h, b⟩)
  rintro a16 w16 ⟨F16, h94, b16⟩
  refine wp_cond_false h94 (wp_skip ?_)
  show Code.wp _ _ _ _ _
  refine reg_all (uo_r15 (by kernel_rfl) _ F16 g11 (by have := SU.upto_len S 7; unfold SU.alive at hlk; omega) ?_)
  intro a17 F17
  refine ⟨⟨k + 1, _, by omega, F17, g1, g2, g5, g6, g8, by rw [hro]; exact g9, rfl, rfl, b13.trans ((b15.trans (b16.mono b15.size)).mono b13.size)⟩, ?_⟩
  have hm17 : (intOf (a17.tmps.getD 11 undef)).toNat = k + 1 := by rw [F17.s11]; simp only [intOf]; omega
  rw [hm17, hm13]
  omega
end Go.Proofs.Ytafjngmdandgmaa
