/-
  SuspectHears, as it runs, of what the program answers (mkuh.py).
-/
import Derived.Test.YtafjngmdandgmaaZUH1
namespace Go.Proofs.Ytafjngmdandgmaa
open Go.RowKit

attribute [local go_sem ↓] Go.wp_at_zero Go.wp_at_succ
set_option linter.unusedSimpArgs false
set_option linter.unusedVariables false
theorem uh_ret {w W : World} {a : Act} {v : Vuh} {r : Bool} (hF : Fuh a v) (h6 : v.v6 = .bool r) (hB : Below w.heap.size w W) :
    bodyPost Try.prog Try.f4 (fun e w' => e = .returned (.bool r) ∧ Below w.heap.size w w') .ret a W := by
  have g6 := slot_get (hF.s6.trans h6)
  refine bodyPost_ret (v := .bool r) ?_ hF.defers ⟨rfl, hB⟩
  simp [results, Try.results4, go_sem, g6]
/-- The two boxes, and the suspect beside them. -/
structure Here (U : Sus) (m o : MB) (ad : Addr) (S : SU) (w W : World) : Prop where
  lies : ∃ O, U.lies W ad O S ∧ ∀ k, O k → w.heap.size + 1 < k
  bm : W.heap[w.heap.size]? = some (.cells #[.int .i64 m.node, .int .i64 m.life] tMember (0, 0))
  bo : W.heap[w.heap.size + 1]? = some (.cells #[.int .i64 o.node, .int .i64 o.life] tMember (0, 0))
  below : Below w.heap.size w W
theorem Here.stays {U : Sus} {m o : MB} {ad : Addr} {S : SU} {w W W' : World} (h : Here U m o ad S w W) (hb : Below W.heap.size W W') : Here U m o ad S w W' := by
  obtain ⟨⟨O, l, ho⟩, h2, h3, h4⟩ := h
  exact ⟨⟨O, U.below l hb, ho⟩, (hb.block _ (heap_lt h2)).trans h2, (hb.block _ (heap_lt h3)).trans h3, h4.trans (hb.mono h4.size)⟩
theorem Here.turn {U : Sus} {m o : MB} {ad : Addr} {S S' : SU} {w W W' : World} {O : Nat → Prop} (h : Here U m o ad S w W) (ho : ∀ k, O k → w.heap.size + 1 < k) (t : Turned U W W' ad O S') : Here U m o ad S' w W' := by
  obtain ⟨O', l, o'⟩ := t.lies
  refine ⟨⟨O', l, fun k hk => ?_⟩, t.touch.at h.bm (fun e => by have := ho _ e; omega), t.touch.at h.bo (fun e => by have := ho _ e; omega), h.below.trans (t.touch.toBelow h.below.size fun k hk e => by have := ho _ e; omega)⟩
  rcases o' k hk with e | e
  · exact ho k e
  · have := heap_lt h.bo
    omega
theorem Here.is {U : Sus} {m o : MB} {ad : Addr} {S : SU} {w W : World} (h : Here U m o ad S w W) (x : MB) : Calls Try.prog 15 #[.pointer (some ad), x.v] W fun e w' => e = .returned (.bool (S.is x)) ∧ Below W.heap.size W w' := by
  obtain ⟨O, l, ho⟩ := h.lies
  exact U.is x l
theorem Here.heard {U : Sus} {m o : MB} {ad : Addr} {S : SU} {w W : World} (h : Here U m o ad S w W) (x : MB) : Calls Try.prog 11 #[.pointer (some ad), x.v] W fun e w' => e = .returned (.bool (S.hears x)) ∧ Here U m o ad (S.heard x) w w' := by
  obtain ⟨O, l, ho⟩ := h.lies
  refine (U.heard x l).mono ?_
  rintro e w' ⟨rfl, h1, h2⟩
  exact ⟨rfl, h.turn ho ⟨h1, h2⟩⟩
theorem Here.tick {U : Sus} {m o : MB} {ad : Addr} {S : SU} {w W : World} (h : Here U m o ad S w W) (hn : S.now ≤ 1000000) : Calls Try.prog 9 #[.pointer (some ad)] W fun e w' => (∃ x, e = .returned x) ∧ Here U m o ad S.tick w w' := by
  obtain ⟨O, l, ho⟩ := h.lies
  refine (U.tick l hn).mono ?_
  rintro e w' ⟨h0, h1, h2⟩
  exact ⟨h0, h.turn ho ⟨h1, h2⟩⟩
set_option maxHeartbeats 16000000 in
set_option maxRecDepth 100000 in
theorem hears_walk (HX : SExSays) (U : Sus) (m o : MB) (L : List Int) (ao : Option Addr) (cp : Nat) (w : World) (hL : IntsAt w ao L) (hr : ∀ g ∈ L, -9223372036854775808 ≤ g) :
    Calls Try.prog 4 #[m.v, o.v, .slice ao L.length cp] w fun e w' => e = .returned (.bool true) ∧ Below w.heap.size w w' := by
  have HXX := hide HX
  have HL := hide hL
  have HR := hide hr
  have X0 := hide (box_alloc (heap_alloc_new w (.cells #[.int .i64 m.node, .int .i64 m.life] tMember)) (.cells #[.int .i64 o.node, .int .i64 o.life] tMember))
  have X1 := hide (show ((w.alloc (.cells #[.int .i64 m.node, .int .i64 m.life] tMember)).alloc (.cells #[.int .i64 o.node, .int .i64 o.life] tMember)).heap[w.heap.size + 1]? = some (.cells #[.int .i64 o.node, .int .i64 o.life] tMember (0, 0)) from by have := heap_alloc_new (w.alloc (.cells #[.int .i64 m.node, .int .i64 m.life] tMember)) (.cells #[.int .i64 o.node, .int .i64 o.life] tMember); rw [World.size_alloc] at this; exact this)
  have HB := hide (((Below.refl w.heap.size w).alloc (Nat.le_refl _) (.cells #[.int .i64 m.node, .int .i64 m.life] tMember)).alloc (by rw [World.size_alloc]; omega) (.cells #[.int .i64 o.node, .int .i64 o.life] tMember))
  clear hL HX hr
  simp only [MB.v]
  go_enter Try.func4, Try.ntmps4
  go_upto_region 1 with fail
  rename_i Ko hKo
  generalize (w.alloc (.cells #[.int .i64 m.node, .int .i64 m.life] tMember)).alloc (.cells #[.int .i64 o.node, .int .i64 o.life] tMember) = w1 at *
  refine reg_mono (uh_r1 (by kernel_rfl) _ (v := ⟨_, _, _, _, _, _, _, _, _, _⟩) ⟨rfl, rfl, rfl, rfl, rfl, rfl, rfl, rfl, rfl, rfl, rfl, rfl⟩ (HXX.out w1) ?_)
  intro a2 w2 F2 b2
  refine hKo _ _ ?_
  have D2 := (b2.block _ (heap_lt X0.out)).trans X0.out
  have E2 := (b2.block _ (heap_lt X1.out)).trans X1.out
  have B2 := HB.out.trans (b2.mono HB.out.size)
  refine wp_seq (reg_mono (uh_r2 (by kernel_rfl) _ F2 rfl D2 (U.gave m w2) ?_))
  intro a3 w3 p z F3 g3
  obtain ⟨n1, n2, b3⟩ := g3
  have D3 := (b3.block _ (heap_lt D2)).trans D2
  have E3 := (b3.block _ (heap_lt E2)).trans E2
  have B3 := B2.trans (b3.mono B2.size)
  by_cases hm : m.right
  case neg =>
    obtain ⟨rfl, rfl⟩ := n2 hm
    refine wp_seq (wp_seq (reg_mono (uh_r3n (by kernel_rfl) _ F3 rfl ?_)))
    intro a4 F4 h24
    refine wp_cond_true h24 (wp_seq (reg_mono (uh_r4 (by kernel_rfl) _ F4 rfl rfl ?_)))
    intro a5 F5
    exact wp_ret (uh_ret F5 rfl B3)
  obtain ⟨ad, rfl, rfl, O, l3, o3⟩ := n1 hm
  have Z3 : Here U m o ad (SU.new m) w w3 := ⟨⟨O, l3, fun k hk => Nat.lt_of_lt_of_le (heap_lt E2) (o3 k hk)⟩, D3, E3, B3⟩
  clear D2 E2 B2 b2 b3 D3 E3 B3 n1 n2 l3 o3
  refine wp_seq (wp_seq (reg_mono (uh_r3 (by kernel_rfl) _ F3 rfl rfl ?_)))
  intro a4 F4 h24
  refine wp_cond_false h24 (wp_skip ?_)
  show Code.wp _ _ _ _ _
  refine wp_seq (wp_seq (reg_mono (uh_r5 (by kernel_rfl) _ F4 rfl rfl Z3.bo (Z3.heard o) ?_)))
  intro a5 w5 F5 h33 Z5
  by_cases ho : o.right ∧ o.node ≠ m.node
  case neg =>
    have hh : (SU.new m).hears o = false := by rw [SU.new_hears]; exact decide_eq_false ho
    rw [hh] at h33
    rw [SU.heard_no hh] at Z5
    refine wp_cond_true h33 ?_
    have his := Z5.is o
    cases hI : (SU.new m).is o with
    | false =>
      rw [hI] at his
      refine wp_seq (reg_mono (uh_r6 (by kernel_rfl) _ F5 rfl rfl rfl Z5.bo his ?_))
      intro a6 w6 F6 b6
      exact wp_ret (uh_ret F6 rfl (Z5.stays b6).below)
    | true =>
      rw [hI] at his
      have hro : o.right := Decidable.not_not.1 fun e => by rw [SU.new_is e] at hI; cases hI
      have hn : o.node = m.node := Decidable.not_not.1 fun e => ho ⟨hro, e⟩
      refine wp_seq (reg_mono (uh_r6s (by kernel_rfl) _ F5 rfl rfl rfl rfl Z5.bm Z5.bo hn his ?_))
      intro a6 w6 F6 b6
      exact wp_ret (uh_ret F6 rfl (Z5.stays b6).below)
  have hh : (SU.new m).hears o = true := by rw [SU.new_hears]; exact decide_eq_true ho
  rw [hh] at h33
  refine wp_cond_false h33 (wp_skip ?_)
  show Code.wp _ _ _ _ _
  obtain ⟨hor, hon⟩ := ho
  refine wp_seq (wp_seq (reg_mono (uh_r7 (by kernel_rfl) _ F5 ?_)))
  intro a6 F6
  refine wp_block (wp_loop (fun a W => ∃ (i : Nat) (v : Vuh) (S : SU), i ≤ L.length ∧ i ≤ 60 ∧ Fuh a v ∧ v.v2 = .slice ao L.length cp ∧ v.v3 = .pointer (some ⟨w.heap.size, 0, none⟩) ∧ v.v4 = .pointer (some ⟨w.heap.size + 1, 0, none⟩) ∧ v.v7 = .bool true ∧ v.v8 = .pointer (some ad) ∧ v.v10 = .int .i64 (i : Int) ∧ S.Has m o 0 ∧ S.now ≤ 7 * i ∧ Here U m o ad S w W) (fun a _ => L.length - (intOf (a.tmps.getD 10 undef)).toNat) ⟨0, _, _, Nat.zero_le _, Nat.zero_le _, F6, rfl, rfl, rfl, rfl, rfl, rfl, SU.new_heard ⟨hor, hon⟩, Nat.le_of_eq (SU.heard_self _ _).2, Z5⟩ ?_)
  clear F2 F3 F4 F5 F6 h24 h33 hh Z3 Z5
  rintro a7 w7 ⟨i, v7, S, hi, hi2, F7, g2, g3, g4, g7, g8, g10, hS, hnow, Z7⟩
  have hm7 : (intOf (a7.tmps.getD 10 undef)).toNat = i := by rw [F7.s10, g10]; simp [intOf]
  refine wp_seq (wp_seq (reg_mono (uh_r8 (by kernel_rfl) _ F7 g2 g10 ?_)))
  intro a8 F8 h58
  by_cases hlt : i < L.length ∧ i < 60
  case neg =>
    rw [decide_eq_false hlt] at h58
    refine wp_cond_false h58 (wp_exit ?_)
    show Code.wp _ _ _ _ _
    refine wp_mid (fun a W => ∃ v : Vuh, Fuh a v ∧ v.v3 = .pointer (some ⟨w.heap.size, 0, none⟩) ∧ v.v4 = .pointer (some ⟨w.heap.size + 1, 0, none⟩) ∧ v.v7 = .bool true ∧ v.v8 = .pointer (some ad) ∧ Here U m o ad S w W) ?_ ?_
    · by_cases h1 : o.life > 1
      · have hE := Z7.heard ⟨o.node, o.life - 1⟩
        rw [hS.elder, SU.heard_no hS.elder] at hE
        refine wp_seq (reg_mono (uh_r22 (by kernel_rfl) _ F8 g4 g8 Z7.bo h1 (by have := hor.2.2.2; unfold big at this; omega) hE ?_))
        intro a9 w9 F9 h115 Z9
        refine wp_cond_false h115 (wp_skip ?_)
        exact ⟨_, F9, g3, g4, g7, g8, Z9⟩
      · refine wp_seq (reg_mono (uh_r22n (by kernel_rfl) _ F8 g4 Z7.bo h1 ?_))
        intro a9 F9 h115
        refine wp_cond_false h115 (wp_skip ?_)
        exact ⟨_, F9, g3, g4, g7, g8, Z7⟩
    clear F7 F8 g3 g4 g7 g8 h58
    rintro a9 w9 ⟨v9, F9, g3, g4, g7, g8, Z9⟩
    have h1 := Z9.is m
    rw [show S.is m = true from by rw [← hS.who]; exact SU.is_self (by rw [hS.who]; exact hm)] at h1
    have h2 : ∀ W, Below w9.heap.size w9 W → Calls Try.prog 15 #[.pointer (some ad), o.v] W fun e w' => e = .returned (.bool true) ∧ Below W.heap.size W w' := fun W b => by
      have := (Z9.stays b).is o
      rw [hS.is hor hon] at this
      exact this
    refine wp_seq (reg_mono (uh_r24 (by kernel_rfl) _ F9 g3 g4 g7 g8 Z9.bm Z9.bo h1 h2 ?_))
    intro a10 w10 F10 b10
    exact wp_ret (uh_ret F10 rfl (Z9.stays b10).below)
  rw [decide_eq_true hlt] at h58
  refine wp_cond_true h58 (wp_skip ?_)
  show Code.wp _ _ _ _ _
  obtain ⟨b, off, hao, _, y0⟩ := HL.out.below Z7.below i hlt.1
  rw [hao] at g2
  refine wp_seq (wp_block (wp_seq (reg_mono (uh_r10 (by kernel_rfl) _ F8 g2 g10 hlt.1 y0 ?_))))
  intro a9 F9
  refine wp_mid (fun a W => ∃ (v : Vuh) (g : Int), 0 ≤ g ∧ Fuh a v ∧ v.v2 = .slice ao L.length cp ∧ v.v3 = .pointer (some ⟨w.heap.size, 0, none⟩) ∧ v.v4 = .pointer (some ⟨w.heap.size + 1, 0, none⟩) ∧ v.v7 = .bool true ∧ v.v8 = .pointer (some ad) ∧ v.v10 = .int .i64 (i : Int) ∧ v.v11 = .int .i64 g ∧ W = w7) ?_ ?_
  · refine wp_seq (reg_mono (uh_r11 (by kernel_rfl) _ F9 rfl ?_))
    intro a10 F10 h66
    by_cases hg : L[i] < 0
    · rw [decide_eq_true hg] at h66
      refine wp_cond_true h66 (uh_r12 (by kernel_rfl) _ F10 rfl hg (HR.out _ (List.getElem_mem hlt.1)) ?_)
      intro a11 F11
      exact ⟨_, _, by omega, F11, hao ▸ g2, g3, g4, g7, g8, g10, rfl, rfl⟩
    · rw [decide_eq_false hg] at h66
      refine wp_cond_false h66 (wp_skip ?_)
      exact ⟨_, _, by omega, F10, hao ▸ g2, g3, g4, g7, g8, g10, rfl, rfl⟩
  clear F7 F8 F9 g2 g3 g4 g7 g8 g10 h58 y0 hao
  rintro a11 w11 ⟨v11, g, hg, F11, g2, g3, g4, g7, g8, g10, g11, rfl⟩
  refine wp_seq (reg_mono (uh_r13 (by kernel_rfl) _ F11 g11 hg ?_))
  intro a12 F12
  have hn7 : (g % 7).toNat < 7 := by omega
  generalize (g % 7).toNat = n at *
  refine wp_seq (wp_seq (reg_mono (uh_r14 (by kernel_rfl) _ F12 ?_)))
  intro a13 F13
  refine wp_block (wp_loop (fun a W => ∃ (k : Nat) (v : Vuh) (S : SU), k ≤ n ∧ Fuh a v ∧ v.v2 = .slice ao L.length cp ∧ v.v3 = .pointer (some ⟨w.heap.size, 0, none⟩) ∧ v.v4 = .pointer (some ⟨w.heap.size + 1, 0, none⟩) ∧ v.v7 = .bool true ∧ v.v8 = .pointer (some ad) ∧ v.v10 = .int .i64 (i : Int) ∧ v.v11 = .int .i64 (n : Int) ∧ v.v12 = .int .i64 (k : Int) ∧ S.Has m o k ∧ S.now ≤ 7 * i + k ∧ Here U m o ad S w W) (fun a _ => n - (intOf (a.tmps.getD 12 undef)).toNat) ⟨0, _, S, Nat.zero_le _, F13, g2, g3, g4, g7, g8, g10, rfl, rfl, hS, hnow, Z7⟩ ?_)
  clear F11 F12 F13 g2 g3 g4 g7 g8 g10 g11 hS hnow Z7
  clear S
  rintro a14 w14 ⟨k, v14, S, hk, F14, g2, g3, g4, g7, g8, g10, g11, g12, hS, hnow, Z14⟩
  have hm14 : (intOf (a14.tmps.getD 12 undef)).toNat = k := by rw [F14.s12, g12]; simp [intOf]
  have his := Z14.is o
  rw [hS.is hor hon] at his
  refine wp_seq (wp_seq (reg_mono (uh_r15 (by kernel_rfl) _ F14 g11 g12 ?_)))
  intro a15 F15 h74
  by_cases hkn : k < n
  case pos =>
    rw [decide_eq_true hkn] at h74
    refine wp_cond_true h74 (wp_skip ?_)
    show Code.wp _ _ _ _ _
    refine wp_seq (wp_block (wp_seq (wp_seq (reg_mono (uh_r17 (by kernel_rfl) _ F15 g4 g8 g12 Z14.bo his ?_)))))
    intro a16 w16 F16 h82 b16
    refine wp_cond_false h82 (wp_skip ?_)
    show Code.wp _ _ _ _ _
    refine reg_all (uh_r19 (by kernel_rfl) _ F16 g8 ((Z14.stays b16).tick (by omega)) ?_)
    intro a17 w17 F17 Z17
    show Code.wp _ _ _ _ _
    refine reg_all (uh_r16 (by kernel_rfl) _ F17 g12 (by omega) ?_)
    intro a18 F18
    refine ⟨⟨k + 1, _, S.tick, by omega, F18, g2, g3, g4, g7, g8, g10, g11, rfl, hS.tick, by show S.now + 1 ≤ _; omega, Z17⟩, ?_⟩
    have hm18 : (intOf (a18.tmps.getD 12 undef)).toNat = k + 1 := by rw [F18.s12]; simp only [intOf]; omega
    rw [hm18, hm14]
    omega
  rw [decide_eq_false hkn] at h74
  refine wp_cond_false h74 (wp_exit ?_)
  show Code.wp _ _ _ _ _
  obtain rfl : k = n := by omega
  have hH : ∀ W, Below w14.heap.size w14 W → Calls Try.prog 11 #[.pointer (some ad), o.v] W fun e w' => e = .returned (.bool true) ∧ w'.heap[w.heap.size + 1]? = some (.cells #[.int .i64 o.node, .int .i64 o.life] tMember (0, 0)) ∧ (Calls Try.prog 15 #[.pointer (some ad), o.v] w' fun e w' => e = .returned (.bool true) ∧ Here U m o ad (S.heard o) w w') := by
    intro W bW
    have := (Z14.stays bW).heard o
    rw [hS.hears hor hon] at this
    refine this.mono ?_
    rintro e w' ⟨rfl, Z⟩
    refine ⟨rfl, Z.bo, ?_⟩
    have h2 := Z.is o
    rw [(hS.heard hor hon).is hor hon] at h2
    refine h2.mono ?_
    rintro e w'' ⟨rfl, b⟩
    exact ⟨rfl, Z.stays b⟩
  refine wp_seq (reg_mono (uh_r20 (by kernel_rfl) _ F15 g4 g8 g11 Z14.bo his hH ?_))
  intro a16 w16 F16 h102 Z16
  refine wp_cond_false h102 (wp_skip ?_)
  show Code.wp _ _ _ _ _
  refine reg_all (uh_r9 (by kernel_rfl) _ F16 g10 (by omega) ?_)
  intro a17 F17
  refine ⟨⟨i + 1, _, S.heard o, by omega, by omega, F17, g2, g3, g4, g7, g8, rfl, hS.heard hor hon, by rw [(SU.heard_self S o).2]; omega, Z16⟩, ?_⟩
  have hm17 : (intOf (a17.tmps.getD 10 undef)).toNat = i + 1 := by rw [F17.s10]; simp only [intOf]; omega
  rw [hm17, hm7]
  omega
end Go.Proofs.Ytafjngmdandgmaa
