/-
  ViewMeets, as it runs, of what the program answers (mklm.py).
-/
import Derived.Test.YtbkglpbkbfopjaaZLM2
import Derived.Test.YtbkglpbkbfopjaaZLM3
namespace Go.Proofs.Ytbkglpbkbfopjaa
open Go.RowKit

attribute [local go_sem ↓] Go.wp_at_zero Go.wp_at_succ
set_option linter.unusedSimpArgs false
set_option linter.unusedVariables false
theorem lm_ret {w W : World} {a : Act} {v : Vlm} {r : Bool} (hF : Flm a v) (h8 : v.v8 = .bool r) (hB : Below w.heap.size w W) :
    bodyPost Try.prog Try.f5 (fun e w' => e = .returned (.bool r) ∧ Below w.heap.size w w') .ret a W := by
  have g8 := slot_get (hF.s8.trans h8)
  refine bodyPost_ret (v := .bool r) ?_ hF.defers ⟨rfl, hB⟩
  simp [results, Try.results5, go_sem, g8]
theorem next_none {x : VW} {A : List MB} {Q : List Int} (h : (x.next A Q).2 ≠ 0) : (x.next A Q).1.mem = [] := by
  unfold VW.next at *
  split
  · rfl
  · rename_i c1
    rw [if_neg c1] at h
    split
    · rfl
    · rename_i c2
      rw [if_neg c2] at h
      split
      · rfl
      · rename_i c3
        rw [if_neg c3] at h
        exact absurd rfl h
theorem next_len8 (x : VW) (A : List MB) (Q : List Int) : (x.next A Q).1.mem.length ≤ 7 := by
  unfold VW.next
  split
  · simp
  · split
    · simp
    · split
      · simp
      · exact next_len A Q 7
theorem memb_take (L : List MB) (m : MB) (i : Nat) (hi : i < L.length) : decide (m ∈ L.take (i + 1)) = (decide (m ∈ L.take i) || (L[i].node == m.node && L[i].life == m.life)) := by
  rw [List.take_add_one, List.getElem?_eq_getElem hi]
  simp only [Option.toList_some, List.mem_append, List.mem_singleton, Bool.decide_or]
  congr 1
  generalize L[i] = k
  obtain ⟨kn, kl⟩ := k
  obtain ⟨mn, ml⟩ := m
  simp only [MB.mk.injEq]
  by_cases e1 : kn = mn
  · by_cases e2 : kl = ml
    · simp [e1, e2]
    · have : ¬ ml = kl := fun e => e2 e.symm
      simp [e2, this]
  · have : ¬ mn = kn := fun e => e1 e.symm
    simp [e1, this]
theorem both_take (L : List MB) (f : MB → Bool) (i : Nat) (hi : i < L.length) : ((L.take (i + 1)).filter f).length = ((L.take i).filter f).length + if f L[i] then 1 else 0 := by
  rw [List.take_add_one, List.filter_append, List.length_append, List.getElem?_eq_getElem hi]
  simp only [Option.toList_some, List.filter_cons, List.filter_nil]
  by_cases h : f L[i] <;> simp [h]
set_option maxHeartbeats 16000000 in
set_option maxRecDepth 100000 in
theorem meets_walk (HX : ExSays) (HN : NextSays) (HR : RightSays) (HJ : MajSays) (HH : HasSays) (HC : CommonSays) (x : VW) (A A2 : List MB) (Q : List Int) (ao aa ab aw : Option Addr) (cp ca cb cw : Nat) (w : World) (hM : MemsAt w ao x.mem) (hA : MemsAt w aa A) (hA2 : MemsAt w ab A2) (hQ : IntsAt w aw Q) (hl : x.mem.length ≤ 4611686018427387903) (hlA : A.length ≤ 4611686018427387903) (hlA2 : A2.length ≤ 4611686018427387903) (hlQ : Q.length ≤ 4611686018427387903) :
    Calls Try.prog 5 #[x.v ao cp, .slice aa A.length ca, .slice ab A2.length cb, .slice aw Q.length cw] w fun e w' => e = .returned (.bool true) ∧ Below w.heap.size w w' := by
  have HXX := hide HX
  have H5 := hide HH
  have H7 := hide HC
  have H3 := hide HJ
  have H2 := hide HR
  have HM := hide hM
  have HA := hide hA
  have HQ := hide hQ
  have N1 : Hid (∀ W, Below w.heap.size w W → Calls Try.prog 20 #[x.v ao cp, .slice aa A.length ca, .slice aw Q.length cw] W fun e w' => NextGave W w' e (x.next A Q)) := fun W b => HN x A Q ao aa aw cp ca cw W (hM.below b) (hA.below b) (hQ.below b) hl hlA hlQ
  have N2 : Hid (∀ W, Below w.heap.size w W → Calls Try.prog 20 #[x.v ao cp, .slice ab A2.length cb, .slice aw Q.length cw] W fun e w' => NextGave W w' e (x.next A2 Q)) := fun W b => HN x A2 Q ao ab aw cp cb cw W (hM.below b) (hA2.below b) (hQ.below b) hl hlA2 hlQ
  have hTl := next_len8 x A Q
  have hUl := next_len8 x A2 Q
  have hTn := hide (@next_none x A Q)
  obtain ⟨T, hT⟩ : ∃ T, x.next A Q = T := ⟨_, rfl⟩
  obtain ⟨U, hU⟩ : ∃ U, x.next A2 Q = U := ⟨_, rfl⟩
  have HT := hide hT
  have HU := hide hU
  rw [hT] at N1 hTl hTn
  rw [hU] at N2 hUl
  have X0 := hide (heap_alloc_new w (.cells #[.int .i64 x.num, .slice ao x.mem.length cp] tView))
  have HB := hide ((Below.refl w.heap.size w).alloc (Nat.le_refl _) (.cells #[.int .i64 x.num, .slice ao x.mem.length cp] tView))
  clear hM hA hA2 hQ hT hU HX HN HR HJ HH HC hlA2
  simp only [VW.v] at N1 N2 ⊢
  go_enter Try.func5, Try.ntmps5
  go_upto_region 1 with fail
  rename_i Ko hKo
  generalize w.alloc (.cells #[.int .i64 x.num, .slice ao x.mem.length cp] tView) = w1 at *
  refine reg_mono (lm_r1 (by kernel_rfl) _ (v := ⟨_, _, _, _, _, _, _, _, _, _, _, _, _, _, _, _, _⟩) ⟨rfl, rfl, rfl, rfl, rfl, rfl, rfl, rfl, rfl, rfl, rfl, rfl, rfl, rfl, rfl, rfl, rfl, rfl, rfl⟩ (HXX.out w1) ?_)
  intro a2 w2 F2 b2
  refine hKo _ _ ?_
  have D2 := (b2.block _ (heap_lt X0.out)).trans X0.out
  have B2 := HB.out.trans (b2.mono HB.out.size)
  refine wp_seq (reg_mono (lm_r2 (by kernel_rfl) _ F2 rfl rfl rfl D2 (N1.out w2 B2) ?_))
  intro a3 w3 ro rc F3 M3 b3
  have D3 := box_alloc ((b3.block _ (heap_lt D2)).trans D2) (.cells #[.int .i64 T.1.num, .slice ro T.1.mem.length rc] tView)
  have B3' := B2.trans (b3.mono B2.size)
  have B3 := B3'.alloc B3'.size (.cells #[.int .i64 T.1.num, .slice ro T.1.mem.length rc] tView)
  have P3 := heap_alloc_new w3 (.cells #[.int .i64 T.1.num, .slice ro T.1.mem.length rc] tView)
  have MT3 := mems_of_row (M3.alloc (.cells #[.int .i64 T.1.num, .slice ro T.1.mem.length rc] tView)) rfl
  clear M3 B3'
  generalize w3.alloc (.cells #[.int .i64 T.1.num, .slice ro T.1.mem.length rc] tView) = w4 at *
  generalize w3.heap.size = p at *
  refine wp_seq (reg_mono (lm_r3 (by kernel_rfl) _ F3 rfl rfl rfl D3 (N2.out w4 B3) ?_))
  intro a5 w5 so sc F5 M5 b5
  have A5 : Below w4.heap.size w4 (w5.alloc (.cells #[.int .i64 U.1.num, .slice so U.1.mem.length sc] tView)) := b5.alloc b5.size _
  have Q6 := heap_alloc_new w5 (.cells #[.int .i64 U.1.num, .slice so U.1.mem.length sc] tView)
  have MU6 := mems_of_row (M5.alloc (.cells #[.int .i64 U.1.num, .slice so U.1.mem.length sc] tView)) rfl
  clear M5
  generalize w5.alloc (.cells #[.int .i64 U.1.num, .slice so U.1.mem.length sc] tView) = w6 at *
  generalize w5.heap.size = q at *
  have D6 := (A5.block _ (heap_lt D3)).trans D3
  have P6 := (A5.block _ (heap_lt P3)).trans P3
  have B6 := B3.trans (A5.mono B3.size)
  have MT6 := MT3.below A5
  clear D2 D3 B2 B3 P3 MT3 b2 b3 b5
  refine wp_seq (wp_seq (reg_mono (lm_r4 (by kernel_rfl) _ F5 rfl rfl ?_)))
  intro a7 F7 h41
  by_cases c1 : T.2 ≠ 0 ∨ U.2 ≠ 0
  · rw [show (T.2 != 0 || U.2 != 0) = true by rcases c1 with e | e <;> simp [e]] at h41
    refine wp_cond_true h41 (wp_seq ?_)
    by_cases c2 : T.2 = 0
    · refine reg_mono (lm_r5 (by kernel_rfl) _ F7 rfl (by rw [c2]) ?_)
      intro a8 F8
      exact wp_ret (lm_ret F8 rfl B6)
    · have hz := hTn.out c2
      rw [hz] at P6
      refine reg_mono (lm_r5n (by kernel_rfl) _ F7 rfl rfl rfl c2 P6 ?_)
      intro a8 F8
      exact wp_ret (lm_ret F8 rfl B6)
  have cT : T.2 = 0 := Decidable.not_not.1 fun e => c1 (.inl e)
  have cU : U.2 = 0 := Decidable.not_not.1 fun e => c1 (.inr e)
  rw [show (T.2 != 0 || U.2 != 0) = false by simp [cT, cU]] at h41
  refine wp_cond_false h41 (wp_skip ?_)
  show Code.wp _ _ _ _ _
  have ha : x.next A Q = (T.1, 0) := by rw [HT.out]; exact Prod.ext rfl cT
  have hb : x.next A2 Q = (U.1, 0) := by rw [HU.out]; exact Prod.ext rfl cU
  obtain ⟨hr1, hr2, hr3, hr4, hr5⟩ := next_right ha
  have hmeet := next_meet ha hb
  refine wp_seq (reg_mono (lm_r6 (by kernel_rfl) _ F7 ?_))
  intro a8 F8
  refine wp_seq (wp_seq (reg_mono (lm_r7 (by kernel_rfl) _ F8 ?_)))
  intro a9 F9
  refine wp_block (wp_loop (fun a W => ∃ (i : Nat) (v : Vlm), i ≤ x.mem.length ∧ Flm a v ∧ v.v1 = .slice aa A.length ca ∧ v.v3 = .slice aw Q.length cw ∧ v.v4 = .pointer (some ⟨w.heap.size, 0, none⟩) ∧ v.v9 = .bool true ∧ v.v10 = .pointer (some ⟨p, 0, none⟩) ∧ v.v12 = .pointer (some ⟨q, 0, none⟩) ∧ v.v14 = .int .i64 ((((x.mem.take i).filter fun m => decide (m ∈ T.1.mem) && decide (m ∈ U.1.mem)).length : Nat) : Int) ∧ v.v15 = .int .i64 (i : Int) ∧ Below w6.heap.size w6 W) (fun a _ => x.mem.length - (intOf (a.tmps.getD 15 undef)).toNat) ⟨0, _, Nat.zero_le _, F9, rfl, rfl, rfl, rfl, rfl, rfl, rfl, rfl, Below.refl _ _⟩ ?_)
  clear F2 F3 F5 F7 F8 F9 h41 c1
  rintro a10 w10 ⟨i, v10, hi, F10, g1, g3, g4, g9, g10, g12, g14, g15, b10⟩
  have hm10 : (intOf (a10.tmps.getD 15 undef)).toNat = i := by rw [F10.s15, g15]; simp [intOf]
  have D10 := (b10.block _ (heap_lt D6)).trans D6
  have P10 := (b10.block _ (heap_lt P6)).trans P6
  have Q10 := (b10.block _ (heap_lt Q6)).trans Q6
  refine wp_seq (wp_seq (reg_mono (lm_r8 (by kernel_rfl) _ F10 g4 g15 D10 ?_)))
  intro a11 F11 h57
  by_cases hlt : i < x.mem.length
  · rw [decide_eq_true hlt] at h57
    refine wp_cond_true h57 (wp_skip ?_)
    show Code.wp _ _ _ _ _
    obtain ⟨b, off, hao, hbl, y0, y1⟩ := HM.out.below (B6.trans (b10.mono B6.size)) i hlt
    have hcnt : ((x.mem.take i).filter fun m => decide (m ∈ T.1.mem) && decide (m ∈ U.1.mem)).length ≤ x.mem.length := Nat.le_trans (List.length_filter_le _ _) (by rw [List.length_take]; omega)
    have hnext := both_take x.mem (fun m => decide (m ∈ T.1.mem) && decide (m ∈ U.1.mem)) i hlt
    have fin : ∀ a W (v : Vlm), Flm a v → v.v1 = .slice aa A.length ca → v.v3 = .slice aw Q.length cw → v.v4 = .pointer (some ⟨w.heap.size, 0, none⟩) → v.v9 = .bool true → v.v10 = .pointer (some ⟨p, 0, none⟩) → v.v12 = .pointer (some ⟨q, 0, none⟩) → v.v14 = .int .i64 ((((x.mem.take (i + 1)).filter fun m => decide (m ∈ T.1.mem) && decide (m ∈ U.1.mem)).length : Nat) : Int) → v.v15 = .int .i64 (i : Int) → Below w6.heap.size w6 W → ∀ (R : Act → World → Prop), (∀ a', Flm a' { v with v15 := .int .i64 ((i + 1 : Nat) : Int) } → R a' W) → ∀ c, regOf (Try.f5.body.getD .skip) 9 = some c → Code.wp Try.prog c (Exit.then R fun _ _ _ => False) a W := fun a W v F _ _ _ _ _ _ _ e15 _ R h c hcc => lm_r9 hcc _ F e15 (by omega) h
    refine wp_seq (wp_block ?_)
    have h5t := fun W (bb : Below w10.heap.size w10 W) => H5.out T.1 x.mem[i] ro rc W (MT6.below (b10.trans (bb.mono b10.size))) (by omega)
    have h5u := fun W (bb : Below w10.heap.size w10 W) => H5.out U.1 x.mem[i] so sc W (MU6.below (b10.trans (bb.mono b10.size))) (by omega)
    by_cases c2 : x.mem[i] ∈ T.1.mem
    · rw [decide_eq_true c2] at h5t
      refine wp_seq (reg_mono (lm_r10 (by kernel_rfl) _ F11 g4 g10 g12 g15 hlt hbl (by rw [← hao]; exact D10) P10 Q10 y0 y1 h5t h5u ?_))
      intro a12 w12 F12 h75 b12
      by_cases c3 : x.mem[i] ∈ U.1.mem
      · rw [decide_eq_true c3] at h75
        refine wp_cond_true h75 (reg_all (lm_r11 (by kernel_rfl) _ F12 g14 (by omega) ?_))
        intro a13 F13
        show Code.wp _ _ _ _ _
        refine reg_all (fin _ _ _ F13 g1 g3 g4 g9 g10 g12 (by rw [hnext]; simp [c2, c3]) g15 (b10.trans (b12.mono b10.size)) _ ?_ _ (by kernel_rfl))
        intro a14 F14
        refine ⟨⟨i + 1, _, by omega, F14, g1, g3, g4, g9, g10, g12, by rw [hnext]; simp [c2, c3], rfl, b10.trans (b12.mono b10.size)⟩, ?_⟩
        have hm14 : (intOf (a14.tmps.getD 15 undef)).toNat = i + 1 := by rw [F14.s15]; simp only [intOf]; omega
        rw [hm14, hm10]
        omega
      · rw [decide_eq_false c3] at h75
        refine wp_cond_false h75 (wp_skip ?_)
        show Code.wp _ _ _ _ _
        refine reg_all (lm_r9 (by kernel_rfl) _ F12 g15 (by omega) ?_)
        intro a14 F14
        refine ⟨⟨i + 1, _, by omega, F14, g1, g3, g4, g9, g10, g12, by rw [hnext]; simpa [c2, c3] using g14, rfl, b10.trans (b12.mono b10.size)⟩, ?_⟩
        have hm14 : (intOf (a14.tmps.getD 15 undef)).toNat = i + 1 := by rw [F14.s15]; simp only [intOf]; omega
        rw [hm14, hm10]
        omega
    · rw [decide_eq_false c2] at h5t
      refine wp_seq (reg_mono (lm_r10f (by kernel_rfl) _ F11 g4 g10 g12 g15 hlt hbl (by rw [← hao]; exact D10) P10 Q10 y0 y1 h5t ?_))
      intro a12 w12 F12 h75 b12
      refine wp_cond_false h75 (wp_skip ?_)
      show Code.wp _ _ _ _ _
      refine reg_all (lm_r9 (by kernel_rfl) _ F12 g15 (by omega) ?_)
      intro a14 F14
      refine ⟨⟨i + 1, _, by omega, F14, g1, g3, g4, g9, g10, g12, by rw [hnext]; simpa [c2] using g14, rfl, b10.trans (b12.mono b10.size)⟩, ?_⟩
      have hm14 : (intOf (a14.tmps.getD 15 undef)).toNat = i + 1 := by rw [F14.s15]; simp only [intOf]; omega
      rw [hm14, hm10]
      omega
  rw [decide_eq_false hlt] at h57
  refine wp_cond_false h57 (wp_exit ?_)
  show Code.wp _ _ _ _ _
  obtain rfl : i = x.mem.length := by omega
  rw [List.take_length] at g14
  generalize (x.mem.filter fun m => decide (m ∈ T.1.mem) && decide (m ∈ U.1.mem)).length = ct at *
  refine wp_seq (wp_seq (reg_mono (lm_r12 (by kernel_rfl) _ F11 ?_)))
  intro a12 F12
  refine wp_block (wp_loop (fun a W => ∃ (j : Nat) (v : Vlm), j ≤ T.1.mem.length ∧ Flm a v ∧ v.v1 = .slice aa A.length ca ∧ v.v3 = .slice aw Q.length cw ∧ v.v4 = .pointer (some ⟨w.heap.size, 0, none⟩) ∧ v.v9 = .bool true ∧ v.v10 = .pointer (some ⟨p, 0, none⟩) ∧ v.v14 = .int .i64 (ct : Int) ∧ v.v16 = .int .i64 (j : Int) ∧ Below w6.heap.size w6 W) (fun a _ => T.1.mem.length - (intOf (a.tmps.getD 16 undef)).toNat) ⟨0, _, Nat.zero_le _, F12, g1, g3, g4, g9, g10, g14, rfl, b10⟩ ?_)
  clear F10 F11 F12 g1 g3 g4 g9 g10 g12 g14 g15 D10 P10 Q10 h57 b10
  rintro a13 w13 ⟨j, v13, hj, F13, g1, g3, g4, g9, g10, g14, g16, b13⟩
  have hm13 : (intOf (a13.tmps.getD 16 undef)).toNat = j := by rw [F13.s16, g16]; simp [intOf]
  have D13 := (b13.block _ (heap_lt D6)).trans D6
  have P13 := (b13.block _ (heap_lt P6)).trans P6
  have B13 := B6.trans (b13.mono B6.size)
  refine wp_seq (wp_seq (reg_mono (lm_r13 (by kernel_rfl) _ F13 g10 g16 P13 ?_)))
  intro a14 F14 h82
  by_cases hlj : j < T.1.mem.length
  · rw [decide_eq_true hlj] at h82
    refine wp_cond_true h82 (wp_skip ?_)
    show Code.wp _ _ _ _ _
    have hmem : T.1.mem[j] ∈ nextUpto A Q 7 := by rw [← hr3]; exact List.getElem_mem hlj
    obtain ⟨hal, hwa⟩ := next_alive hmem
    refine wp_seq (wp_block (wp_seq (reg_mono (lm_r15 (by kernel_rfl) _ F14 ?_))))
    intro a15 F15
    refine wp_seq (wp_seq (reg_mono (lm_r16 (by kernel_rfl) _ F15 ?_)))
    intro a16 F16
    refine wp_block (wp_loop (fun a W => ∃ (i : Nat) (v : Vlm), i ≤ A.length ∧ Flm a v ∧ v.v1 = .slice aa A.length ca ∧ v.v3 = .slice aw Q.length cw ∧ v.v4 = .pointer (some ⟨w.heap.size, 0, none⟩) ∧ v.v9 = .bool true ∧ v.v10 = .pointer (some ⟨p, 0, none⟩) ∧ v.v14 = .int .i64 (ct : Int) ∧ v.v16 = .int .i64 (j : Int) ∧ v.v17 = .bool (decide (T.1.mem[j] ∈ A.take i)) ∧ v.v18 = .int .i64 (i : Int) ∧ Below w6.heap.size w6 W) (fun a _ => A.length - (intOf (a.tmps.getD 18 undef)).toNat) ⟨0, _, Nat.zero_le _, F16, g1, g3, g4, g9, g10, g14, g16, by simp, rfl, b13⟩ ?_)
    clear F13 F14 F15 F16 g1 g3 g4 g9 g10 g14 g16 D13 P13 B13 h82 b13
    rintro a17 w17 ⟨i, v17, hi17, F17, g1, g3, g4, g9, g10, g14, g16, g17, g18, b17⟩
    have hm17 : (intOf (a17.tmps.getD 18 undef)).toNat = i := by rw [F17.s18, g18]; simp [intOf]
    have P17 := (b17.block _ (heap_lt P6)).trans P6
    have B17 := B6.trans (b17.mono B6.size)
    obtain ⟨b2, off2, hro, _, z0, z1⟩ := MT6.below b17 j hlj
    refine wp_seq (wp_seq (reg_mono (lm_r17 (by kernel_rfl) _ F17 g1 g18 ?_)))
    intro a18 F18 h88
    by_cases hla : i < A.length
    · rw [decide_eq_true hla] at h88
      refine wp_cond_true h88 (wp_skip ?_)
      show Code.wp _ _ _ _ _
      obtain ⟨b, off, haa, _, y0, y1⟩ := HA.out.below B17 i hla
      refine wp_seq (wp_block (reg_all (lm_r19 (by kernel_rfl) _ F18 (g1.trans (by rw [haa])) g10 g16 g17 g18 hla hlj (by rw [← hro]; exact P17) y0 y1 z0 z1 ?_)))
      intro a19 w19 F19 b19
      show Code.wp _ _ _ _ _
      refine reg_all (lm_r18 (by kernel_rfl) _ F19 g18 (by omega) ?_)
      intro a20 F20
      refine ⟨⟨i + 1, _, by omega, F20, g1, g3, g4, g9, g10, g14, g16, by rw [memb_take A _ i hla], rfl, b17.trans (b19.mono b17.size)⟩, ?_⟩
      have hm20 : (intOf (a20.tmps.getD 18 undef)).toNat = i + 1 := by rw [F20.s18]; simp only [intOf]; omega
      rw [hm20, hm17]
      omega
    rw [decide_eq_false hla] at h88
    refine wp_cond_false h88 (wp_exit ?_)
    show Code.wp _ _ _ _ _
    obtain rfl : i = A.length := by omega
    rw [List.take_length, decide_eq_true hal] at g17
    refine wp_seq (reg_mono (lm_r20 (by kernel_rfl) _ F18 ?_))
    intro a19 F19
    refine wp_seq (wp_seq (reg_mono (lm_r21 (by kernel_rfl) _ F19 ?_)))
    intro a20 F20
    refine wp_block (wp_loop (fun a W => ∃ (i : Nat) (v : Vlm), i ≤ Q.length ∧ Flm a v ∧ v.v1 = .slice aa A.length ca ∧ v.v3 = .slice aw Q.length cw ∧ v.v4 = .pointer (some ⟨w.heap.size, 0, none⟩) ∧ v.v9 = .bool true ∧ v.v10 = .pointer (some ⟨p, 0, none⟩) ∧ v.v14 = .int .i64 (ct : Int) ∧ v.v16 = .int .i64 (j : Int) ∧ v.v17 = .bool true ∧ v.v19 = .bool (decide (T.1.mem[j].node ∈ Q.take i)) ∧ v.v20 = .int .i64 (i : Int) ∧ Below w6.heap.size w6 W) (fun a _ => Q.length - (intOf (a.tmps.getD 20 undef)).toNat) ⟨0, _, Nat.zero_le _, F20, g1, g3, g4, g9, g10, g14, g16, g17, by simp, rfl, b17⟩ ?_)
    clear F17 F18 F19 F20 g1 g3 g4 g9 g10 g14 g16 g17 g18 P17 B17 h88 b17 z0 z1
    rintro a21 w21 ⟨i, v21, hi21, F21, g1, g3, g4, g9, g10, g14, g16, g17, g19, g20, b21⟩
    have hm21 : (intOf (a21.tmps.getD 20 undef)).toNat = i := by rw [F21.s20, g20]; simp [intOf]
    have P21 := (b21.block _ (heap_lt P6)).trans P6
    have B21 := B6.trans (b21.mono B6.size)
    obtain ⟨b2, off2, hro, _, z0, z1⟩ := MT6.below b21 j hlj
    refine wp_seq (wp_seq (reg_mono (lm_r22 (by kernel_rfl) _ F21 g3 g20 ?_)))
    intro a22 F22 h107
    by_cases hlq : i < Q.length
    · rw [decide_eq_true hlq] at h107
      refine wp_cond_true h107 (wp_skip ?_)
      show Code.wp _ _ _ _ _
      obtain ⟨b, off, haw, _, y0⟩ := HQ.out.below B21 i hlq
      refine wp_seq (wp_block (reg_all (lm_r24 (by kernel_rfl) _ F22 (g3.trans (by rw [haw])) g10 g16 g19 g20 hlq hlj (by rw [← hro]; exact P21) y0 z0 ?_)))
      intro a23 w23 F23 b23
      show Code.wp _ _ _ _ _
      refine reg_all (lm_r23 (by kernel_rfl) _ F23 g20 (by omega) ?_)
      intro a24 F24
      refine ⟨⟨i + 1, _, by omega, F24, g1, g3, g4, g9, g10, g14, g16, g17, by rw [mem_take Q _ i hlq], rfl, b21.trans (b23.mono b21.size)⟩, ?_⟩
      have hm24 : (intOf (a24.tmps.getD 20 undef)).toNat = i + 1 := by rw [F24.s20]; simp only [intOf]; omega
      rw [hm24, hm21]
      omega
    rw [decide_eq_false hlq] at h107
    refine wp_cond_false h107 (wp_exit ?_)
    show Code.wp _ _ _ _ _
    obtain rfl : i = Q.length := by omega
    rw [List.take_length, decide_eq_true hwa] at g19
    refine wp_seq (reg_mono (lm_r25 (by kernel_rfl) _ F22 g17 g19 ?_))
    intro a23 F23 h129
    refine wp_cond_false h129 (wp_skip ?_)
    show Code.wp _ _ _ _ _
    refine reg_all (lm_r14 (by kernel_rfl) _ F23 g16 (by omega) ?_)
    intro a24 F24
    refine ⟨⟨j + 1, _, by omega, F24, g1, g3, g4, g9, g10, g14, rfl, b21⟩, ?_⟩
    have hm24 : (intOf (a24.tmps.getD 16 undef)).toNat = j + 1 := by rw [F24.s16]; simp only [intOf]; omega
    rw [hm24, hm13]
    omega
  rw [decide_eq_false hlj] at h82
  refine wp_cond_false h82 (wp_exit ?_)
  show Code.wp _ _ _ _ _
  rw [hr2] at P13
  have eT : (⟨x.num + 1, T.1.mem⟩ : VW) = T.1 := by rw [← hr2]
  refine wp_seq (reg_mono (lm_r27 (by kernel_rfl) _ F14 g4 g9 g10 g14 hmeet hr4 ⟨hr5.1, hr5.2.1⟩ D13 P13 (fun W b => ?_) (fun W b => H3.out x ao cp W hl) (fun W b => ?_) ?_))
  · exact H7.out x ⟨x.num + 1, T.1.mem⟩ ao ro cp rc W (HM.out.below (B13.trans (b.mono B13.size))) (MT6.below (b13.trans (b.mono b13.size))) hl (by show T.1.mem.length ≤ _; omega)
  · have := H2.out ⟨x.num + 1, T.1.mem⟩ ro rc W (MT6.below (b13.trans (b.mono b13.size))) (by show T.1.mem.length ≤ _; omega)
    rw [decide_eq_true (by rw [eT]; exact hr1)] at this
    exact this
  intro a15 w15 F15 b15
  exact wp_ret (lm_ret F15 rfl (B13.trans (b15.mono B13.size)))
end Go.Proofs.Ytbkglpbkbfopjaa
