/-
  carillonref15's Load, where it refuses ahead of its items.
-/
import Derived.Test.YtfoomgdlbkjaeaaGreatZKR8
import Derived.Test.YtfoomgdlbkjaeaaGreatZKR1
namespace Go.Proofs.YtfoomgdlbkjaeaaGreat.K
open Go.RowKit
set_option maxHeartbeats 2000000
set_option maxRecDepth 100000
theorem DS.after {w w' w2 : World} {v : Value} {l : List It} (h : DS w w' v l) (hb : Below w'.heap.size w' w2) : DS w w2 v l :=
  ⟨h.below.trans (hb.mono h.below.size), own_below h.own hb (Nat.le_refl _)⟩
theorem DS.append {w w' w4 : World} {v v' : Value} {l : List It} {x : It} {o o2 : Obj} (h : DS w w' v l) (hg : ((w'.alloc o).alloc o2).grownBy w4 v.ownBlock) (hown : w4.ownsRow w.heap.size 83 3 v' (l.length + 1) (itemCells l ++ x.cells)) : DS w w4 v' (l ++ [x]) := by
  have hs := h.below.size
  refine ⟨((h.below.alloc (by omega) o).alloc (by simp; omega) o2).grown hg (by simp; omega) (fun k hk => (h.own.lt k hk).1), ?_⟩
  rw [List.length_append, List.length_singleton, itemCells_snoc]; exact hown
theorem rdecode_core (shape s : ByteArray) (A B : List UInt8) (w : World) (R : List It × Int) (hA : allL A = true) (hB : allL B = true) (lA : A.length ≤ 1048576) (lB : B.length ≤ 1048576)
    (HK : Hid (∀ w, Calls Tryz.prog 80 #[.string shape] w fun e w' => ∃ va vb, e = .returned (.tuple #[va, vb, .bool true]) ∧
      (w'.ownsRow w.heap.size 3 1 va A.length (intCells A) ∧ w'.ownsRow w.heap.size 3 1 vb B.length (intCells B)) ∧ Below w.heap.size w w'))
    (hI : RL B [] (TD A B 0) s R) :
    Calls Tryz.prog 51 #[.string shape, .string s] w fun e w' => ∃ v, e = .returned (.tuple #[v, .int .i64 R.2]) ∧ w'.ownsRow w.heap.size 83 3 v R.1.length (itemCells R.1) ∧ Below w.heap.size w w' := by
  have HI := hide hI
  have HAl := hide hA
  have HBl := hide hB
  clear hI hA hB
  go_enter Tryz.func51, Tryz.ntmps51
  go_wp2_with fail
  refine (HK.out _).mono ?_
  rintro e w1 ⟨va, vb, rfl, ⟨ha, hb⟩, b1⟩
  obtain ⟨ao, acap, rfl, hia⟩ := ints_of_own ha
  obtain ⟨bo, bcap, rfl, hib⟩ := ints_of_own hb
  have HIA := hide hia
  have HIB := hide hib
  have B1 := hide b1
  clear HK hia hib ha hb b1
  obtain ⟨na, hna⟩ : ∃ na, A.length = na := ⟨_, rfl⟩
  obtain ⟨nb, hnb⟩ : ∃ nb, B.length = nb := ⟨_, rfl⟩
  have HNA := hide hna
  have HNB := hide hnb
  rw [hna] at lA ⊢
  rw [hnb] at lB ⊢
  clear hna hnb
  go_wp2
  go_loopw [1, 9, 10] (fun sv ov i wv => ∃ (rest : ByteArray) (l : List It), sv = .string rest ∧ i = .int .i64 (l.length : Nat) ∧ RL B l (TD A B l.length) rest R ∧ DS w1 wv ov l) (fun sv _ _ _ => strSize sv)
  case atStart => exact ⟨s, [], rfl, rfl, HI.out, ⟨Below.refl _ _, nil_owned _ _ _ _⟩⟩
  case round =>
    obtain ⟨rest, l, rfl, rfl, hRL, hDS⟩ := hrel
    have HRL := hide hRL
    have HDS := hide hDS
    have hlen := hRL.len
    have hrest := hRL.restLen
    unfold maxLen at hrest
    obtain ⟨oo, ocap, rfl⟩ := own_shape hDS.own
    obtain ⟨k, hk⟩ : ∃ k, l.length = k := ⟨_, rfl⟩
    have HKL := hide hk
    rw [hk] at hlen ⊢
    clear hRL hDS hk
    by_cases hka : k < na
    · have hc : ∃ c g, isLetter c = true ∧ ao = some ⟨g, 0, none⟩ ∧ g < wr.heap.size ∧ wr.cell? ⟨g, k, none⟩ = some (.int .i64 (kindOfL c)) ∧ RL B l (c :: TD A B (k + 1)) rest R := by
        have hkA : k < A.length := by rw [HNA.out]; exact hka
        obtain ⟨g, h1, h2, h3⟩ := (HIA.out.below HDS.out.below) k hkA
        refine ⟨A[k], g, ?_, h1, h2, h3, ?_⟩
        · have := HAl.out
          unfold allL at this
          rw [List.all_eq_true] at this
          exact this _ (List.getElem_mem hkA)
        · have := HRL.out
          rw [HKL.out, TD_a A B k hkA] at this
          exact this
      obtain ⟨c, g, hcl, rfl, hg, hcell, hRL2⟩ := hc
      have HR2 := hide hRL2
      have HCL := hide hcl
      clear hRL2 hcl
      by_cases h1 : k = 1000
      · have hl1 : ((k : Int) == 1000) = true := by rw [beq_iff_eq]; omega
        have HE := hide (HR2.out.long (by rw [HKL.out]; exact h1))
        clear h1
        go_wp2_with fail
        go_ret2
        exact ⟨.slice none 0 0, ret2 rfl (by rw [HE.out]; rfl), by rw [HE.out]; exact nil_owned _ _ _ _, B1.out.trans (HDS.out.below.mono B1.out.size)⟩
      · have hl1 : ((k : Int) == 1000) = false := by rw [beq_eq_false_iff_ne]; omega
        have hne : l.length ≠ 1000 := by rw [HKL.out]; exact h1
        have hkb : kindB (kindOfL c) = true := by
          have h2 := isLetter_iff c
          rw [HCL.out] at h2
          have h3 := kindOfL_le c
          simp at h2
          simp [kindB]
          omega
        obtain ⟨n, hn, hcall⟩ := take_any (kindOfL c) rest hkb (by unfold maxLen; omega)
        have hfault := HR2.out.fault hne
        have hnext := HR2.out.next hne
        generalize itemG (kindOfL c) (widthN (kindOfL c)) rest = r at hn hcall hfault hnext
        obtain ⟨⟨rk, rn, rs⟩, rr, re⟩ := r
        have HC : Hid (∀ w, Calls Tryz.prog 81 #[.int .i64 (kindOfL c), .string rest] w fun e w' => e = .returned (.tuple #[.agg #[.int .i64 rk, .int .u64 rn, .string rs], .int .i64 n, .int .i64 re]) ∧ Below w.heap.size w w') := hcall
        clear hcall h1 hne hkb
        by_cases he : re = 0
        · subst he
          have HN := hide (hnext rfl)
          obtain ⟨hn1, hn2⟩ := hn rfl
          simp only at hn2
          subst hn2
          clear hfault hnext hn
          go_wp2_with fail
          refine (HC.out _).mono ?_
          rintro e w2 ⟨rfl, hb⟩
          have HD2 := hide (HDS.out.after hb)
          have hown2 := HD2.out.own
          rw [HKL.out] at hown2
          have HO2 := hide hown2
          clear hb hown2
          go_wp2_with (at_builtin; refine wpList_append_own _ rfl _ _ 66 rfl w1.heap.size 83 Tryz.t83 (.agg #[.int .i64 0, .int .u64 0, .string ⟨#[]⟩]) 3 32 Tryz.underlying66 ?hi ?hz ?hs ?hby rfl (by decide) _ _ _ rfl ((HO2.out.alloc _).alloc _) ⟨_, 0, none⟩ 1 1 (It.cells ⟨rk, rn, rs⟩) rfl rfl ?hnews ?h1 ?h63 ?hb47 ?hbase ?_)
          case hi => exact Tryz.info83
          case hz => exact Tryz.zero83
          case hs => exact Tryz.cells83
          case hby => exact Tryz.bytes83
          case hnews => exact cells_new3 _ _ _ _ _ _ (by simp)
          case h1 =>
            intro u hu
            simp [It.cells] at hu
            rcases hu with rfl | rfl | rfl <;> rfl
          case h63 => unfold maxLen; omega
          case hb47 => omega
          case hbase => have := HD2.out.below.size; simp; omega
          intro v' w4 hown hgrow _
          have HS4 : Hid (DS w1 w4 v' (l ++ [⟨rk, rn, rs⟩])) := by
            have h := HD2.out
            rw [HKL.out] at h
            refine h.append hgrow ?_
            rw [HKL.out]
            exact hown
          clear hown hgrow
          go_wp2
          go_roundw
          case rel =>
            refine ⟨rest.extract n rest.size, l ++ [⟨rk, rn, rs⟩], rfl, ?_, ?_, HS4.out⟩
            · rw [List.length_append, HKL.out]
              go_num
            · rw [List.length_append, HKL.out]
              exact HN.out.1
          case measure =>
            have := HN.out.2
            exact this
        · have hne : (re != 0) = true := by rw [bne_iff_ne]; exact he
          have HE := hide (hfault he)
          clear hfault hnext he hn
          go_wp2_with fail
          refine (HC.out _).mono ?_
          rintro e w2 ⟨rfl, hb⟩
          have HB2 := hide (HDS.out.below.trans (hb.mono HDS.out.below.size))
          clear hb
          go_wp2
          go_ret2
          exact ⟨.slice none 0 0, ret2 rfl (by rw [HE.out]; rfl), by rw [HE.out]; exact nil_owned _ _ _ _, B1.out.trans ((HB2.out.alloc HB2.out.size _).mono B1.out.size)⟩
    · by_cases hb0 : nb = 0
      · have hB0 : B = [] := List.eq_nil_of_length_eq_zero (by rw [HNB.out]; exact hb0)
        have HRE : Hid (RL [] l [] rest R) := by
          have := HRL.out
          rw [hB0, HKL.out, TD_end A k (by rw [HNA.out]; omega)] at this
          exact this
        clear hB0
        by_cases hr : rest.size = 0
        · have hre := isEmpty_of hr
          have HE := hide (HRE.out.done hr)
          clear hr
          go_wp2
          go_ret2
          exact ⟨.slice oo k ocap, ret2 rfl (by rw [HE.out]; rfl), by rw [HE.out, ← HKL.out]; exact own_base HDS.out.own B1.out.size, B1.out.trans (HDS.out.below.mono B1.out.size)⟩
        · have hre := notEmpty_of hr
          have HE := hide (HRE.out.form hr)
          clear hr
          go_wp2
          go_ret2
          exact ⟨.slice none 0 0, ret2 rfl (by rw [HE.out]; rfl), by rw [HE.out]; exact nil_owned _ _ _ _, B1.out.trans (HDS.out.below.mono B1.out.size)⟩
      · obtain ⟨m, hm⟩ : ∃ m, (k - na) % nb = m := ⟨_, rfl⟩
        have hmi : ((k : Int) - (na : Int)) % (nb : Int) = (m : Int) := by
          rw [← hm, ← Int.ofNat_sub (by omega)]
          rfl
        have hml : m < nb := by rw [← hm]; exact Nat.mod_lt _ (by omega)
        have HM : Hid ((k - A.length) % B.length = m) := by
          rw [HNA.out, HNB.out]; exact hm
        clear hm
        by_cases hm0 : m = 0
        · subst hm0
          by_cases hr : rest.size = 0
          · have hre := isEmpty_of hr
            have HE : Hid (R = (l, 0)) := by
              have := HRL.out
              rw [HKL.out, TD_b0 A B _ (by rw [HNA.out]; omega) HM.out] at this
              exact this.done hr
            clear hr
            go_wp2
            go_ret2
            exact ⟨.slice oo k ocap, ret2 rfl (by rw [HE.out]; rfl), by rw [HE.out, ← HKL.out]; exact own_base HDS.out.own B1.out.size, B1.out.trans (HDS.out.below.mono B1.out.size)⟩
          · have hre := notEmpty_of hr
            have hc : ∃ c g, isLetter c = true ∧ bo = some ⟨g, 0, none⟩ ∧ g < wr.heap.size ∧ wr.cell? ⟨g, 0, none⟩ = some (.int .i64 (kindOfL c)) ∧ RL B l (c :: TD A B (k + 1)) rest R := by
              have hmB : 0 < B.length := by rw [HNB.out]; exact hml
              obtain ⟨g, h1, h2, h3⟩ := (HIB.out.below HDS.out.below) 0 hmB
              refine ⟨B[0], g, ?_, h1, h2, h3, ?_⟩
              · have := HBl.out
                unfold allL at this
                rw [List.all_eq_true] at this
                exact this _ (List.getElem_mem hmB)
              · have := HRL.out
                rw [HKL.out, TD_b0 A B k (by rw [HNA.out]; omega) HM.out] at this
                have h4 := this.again hr (by rintro rfl; simp at hmB) (by rw [HNB.out]; unfold maxLen; omega)
                rw [← TD_b A B k 0 (by rw [HNA.out]; omega) HM.out hmB]
                exact h4
            obtain ⟨c, g, hcl, rfl, hg, hcell, hRL2⟩ := hc
            have HR2 := hide hRL2
            have HCL := hide hcl
            clear hRL2 hcl hr
            by_cases h1 : k = 1000
            · have hl1 : ((k : Int) == 1000) = true := by rw [beq_iff_eq]; omega
              have HE := hide (HR2.out.long (by rw [HKL.out]; exact h1))
              clear h1
              go_wp2_with fail
              go_ret2
              exact ⟨.slice none 0 0, ret2 rfl (by rw [HE.out]; rfl), by rw [HE.out]; exact nil_owned _ _ _ _, B1.out.trans (HDS.out.below.mono B1.out.size)⟩
            · have hl1 : ((k : Int) == 1000) = false := by rw [beq_eq_false_iff_ne]; omega
              have hne : l.length ≠ 1000 := by rw [HKL.out]; exact h1
              have hkb : kindB (kindOfL c) = true := by
                have h2 := isLetter_iff c
                rw [HCL.out] at h2
                have h3 := kindOfL_le c
                simp at h2
                simp [kindB]
                omega
              obtain ⟨n, hn, hcall⟩ := take_any (kindOfL c) rest hkb (by unfold maxLen; omega)
              have hfault := HR2.out.fault hne
              have hnext := HR2.out.next hne
              generalize itemG (kindOfL c) (widthN (kindOfL c)) rest = r at hn hcall hfault hnext
              obtain ⟨⟨rk, rn, rs⟩, rr, re⟩ := r
              have HC : Hid (∀ w, Calls Tryz.prog 81 #[.int .i64 (kindOfL c), .string rest] w fun e w' => e = .returned (.tuple #[.agg #[.int .i64 rk, .int .u64 rn, .string rs], .int .i64 n, .int .i64 re]) ∧ Below w.heap.size w w') := hcall
              clear hcall h1 hne hkb
              by_cases he : re = 0
              · subst he
                have HN := hide (hnext rfl)
                obtain ⟨hn1, hn2⟩ := hn rfl
                simp only at hn2
                subst hn2
                clear hfault hnext hn
                go_wp2_with fail
                refine (HC.out _).mono ?_
                rintro e w2 ⟨rfl, hb⟩
                have HD2 := hide (HDS.out.after hb)
                have hown2 := HD2.out.own
                rw [HKL.out] at hown2
                have HO2 := hide hown2
                clear hb hown2
                go_wp2_with (at_builtin; refine wpList_append_own _ rfl _ _ 66 rfl w1.heap.size 83 Tryz.t83 (.agg #[.int .i64 0, .int .u64 0, .string ⟨#[]⟩]) 3 32 Tryz.underlying66 ?hi ?hz ?hs ?hby rfl (by decide) _ _ _ rfl ((HO2.out.alloc _).alloc _) ⟨_, 0, none⟩ 1 1 (It.cells ⟨rk, rn, rs⟩) rfl rfl ?hnews ?h1 ?h63 ?hb47 ?hbase ?_)
                case hi => exact Tryz.info83
                case hz => exact Tryz.zero83
                case hs => exact Tryz.cells83
                case hby => exact Tryz.bytes83
                case hnews => exact cells_new3 _ _ _ _ _ _ (by simp)
                case h1 =>
                  intro u hu
                  simp [It.cells] at hu
                  rcases hu with rfl | rfl | rfl <;> rfl
                case h63 => unfold maxLen; omega
                case hb47 => omega
                case hbase => have := HD2.out.below.size; simp; omega
                intro v' w4 hown hgrow _
                have HS4 : Hid (DS w1 w4 v' (l ++ [⟨rk, rn, rs⟩])) := by
                  have h := HD2.out
                  rw [HKL.out] at h
                  refine h.append hgrow ?_
                  rw [HKL.out]
                  exact hown
                clear hown hgrow
                go_wp2
                go_roundw
                case rel =>
                  refine ⟨rest.extract n rest.size, l ++ [⟨rk, rn, rs⟩], rfl, ?_, ?_, HS4.out⟩
                  · rw [List.length_append, HKL.out]
                    go_num
                  · rw [List.length_append, HKL.out]
                    exact HN.out.1
                case measure =>
                  have := HN.out.2
                  exact this
              · have hne : (re != 0) = true := by rw [bne_iff_ne]; exact he
                have HE := hide (hfault he)
                clear hfault hnext he hn
                go_wp2_with fail
                refine (HC.out _).mono ?_
                rintro e w2 ⟨rfl, hb⟩
                have HB2 := hide (HDS.out.below.trans (hb.mono HDS.out.below.size))
                clear hb
                go_wp2
                go_ret2
                exact ⟨.slice none 0 0, ret2 rfl (by rw [HE.out]; rfl), by rw [HE.out]; exact nil_owned _ _ _ _, B1.out.trans ((HB2.out.alloc HB2.out.size _).mono B1.out.size)⟩
        · have hc : ∃ c g, isLetter c = true ∧ bo = some ⟨g, 0, none⟩ ∧ g < wr.heap.size ∧ wr.cell? ⟨g, m, none⟩ = some (.int .i64 (kindOfL c)) ∧ RL B l (c :: TD A B (k + 1)) rest R := by
            have hmB : m < B.length := by rw [HNB.out]; exact hml
            obtain ⟨g, h1, h2, h3⟩ := (HIB.out.below HDS.out.below) m hmB
            refine ⟨B[m], g, ?_, h1, h2, h3, ?_⟩
            · have := HBl.out
              unfold allL at this
              rw [List.all_eq_true] at this
              exact this _ (List.getElem_mem hmB)
            · have := HRL.out
              rw [HKL.out, TD_b1 A B k (by rw [HNA.out]; omega) (by rw [HM.out]; exact hm0), HM.out] at this
              rw [← TD_b A B k m (by rw [HNA.out]; omega) HM.out hmB]
              exact this
          obtain ⟨c, g, hcl, rfl, hg, hcell, hRL2⟩ := hc
          have HR2 := hide hRL2
          have HCL := hide hcl
          have hmz : ((m : Int) == 0) = false := by rw [beq_eq_false_iff_ne]; omega
          clear hRL2 hcl
          by_cases h1 : k = 1000
          · have hl1 : ((k : Int) == 1000) = true := by rw [beq_iff_eq]; omega
            have HE := hide (HR2.out.long (by rw [HKL.out]; exact h1))
            clear h1
            go_wp2_with fail
            go_ret2
            exact ⟨.slice none 0 0, ret2 rfl (by rw [HE.out]; rfl), by rw [HE.out]; exact nil_owned _ _ _ _, B1.out.trans (HDS.out.below.mono B1.out.size)⟩
          · have hl1 : ((k : Int) == 1000) = false := by rw [beq_eq_false_iff_ne]; omega
            have hne : l.length ≠ 1000 := by rw [HKL.out]; exact h1
            have hkb : kindB (kindOfL c) = true := by
              have h2 := isLetter_iff c
              rw [HCL.out] at h2
              have h3 := kindOfL_le c
              simp at h2
              simp [kindB]
              omega
            obtain ⟨n, hn, hcall⟩ := take_any (kindOfL c) rest hkb (by unfold maxLen; omega)
            have hfault := HR2.out.fault hne
            have hnext := HR2.out.next hne
            generalize itemG (kindOfL c) (widthN (kindOfL c)) rest = r at hn hcall hfault hnext
            obtain ⟨⟨rk, rn, rs⟩, rr, re⟩ := r
            have HC : Hid (∀ w, Calls Tryz.prog 81 #[.int .i64 (kindOfL c), .string rest] w fun e w' => e = .returned (.tuple #[.agg #[.int .i64 rk, .int .u64 rn, .string rs], .int .i64 n, .int .i64 re]) ∧ Below w.heap.size w w') := hcall
            clear hcall h1 hne hkb
            by_cases he : re = 0
            · subst he
              have HN := hide (hnext rfl)
              obtain ⟨hn1, hn2⟩ := hn rfl
              simp only at hn2
              subst hn2
              clear hfault hnext hn
              go_wp2_with fail
              refine (HC.out _).mono ?_
              rintro e w2 ⟨rfl, hb⟩
              have HD2 := hide (HDS.out.after hb)
              have hown2 := HD2.out.own
              rw [HKL.out] at hown2
              have HO2 := hide hown2
              clear hb hown2
              go_wp2_with (at_builtin; refine wpList_append_own _ rfl _ _ 66 rfl w1.heap.size 83 Tryz.t83 (.agg #[.int .i64 0, .int .u64 0, .string ⟨#[]⟩]) 3 32 Tryz.underlying66 ?hi ?hz ?hs ?hby rfl (by decide) _ _ _ rfl ((HO2.out.alloc _).alloc _) ⟨_, 0, none⟩ 1 1 (It.cells ⟨rk, rn, rs⟩) rfl rfl ?hnews ?h1 ?h63 ?hb47 ?hbase ?_)
              case hi => exact Tryz.info83
              case hz => exact Tryz.zero83
              case hs => exact Tryz.cells83
              case hby => exact Tryz.bytes83
              case hnews => exact cells_new3 _ _ _ _ _ _ (by simp)
              case h1 =>
                intro u hu
                simp [It.cells] at hu
                rcases hu with rfl | rfl | rfl <;> rfl
              case h63 => unfold maxLen; omega
              case hb47 => omega
              case hbase => have := HD2.out.below.size; simp; omega
              intro v' w4 hown hgrow _
              have HS4 : Hid (DS w1 w4 v' (l ++ [⟨rk, rn, rs⟩])) := by
                have h := HD2.out
                rw [HKL.out] at h
                refine h.append hgrow ?_
                rw [HKL.out]
                exact hown
              clear hown hgrow
              go_wp2
              go_roundw
              case rel =>
                refine ⟨rest.extract n rest.size, l ++ [⟨rk, rn, rs⟩], rfl, ?_, ?_, HS4.out⟩
                · rw [List.length_append, HKL.out]
                  go_num
                · rw [List.length_append, HKL.out]
                  exact HN.out.1
              case measure =>
                have := HN.out.2
                exact this
            · have hne : (re != 0) = true := by rw [bne_iff_ne]; exact he
              have HE := hide (hfault he)
              clear hfault hnext he hn
              go_wp2_with fail
              refine (HC.out _).mono ?_
              rintro e w2 ⟨rfl, hb⟩
              have HB2 := hide (HDS.out.below.trans (hb.mono HDS.out.below.size))
              clear hb
              go_wp2
              go_ret2
              exact ⟨.slice none 0 0, ret2 rfl (by rw [HE.out]; rfl), by rw [HE.out]; exact nil_owned _ _ _ _, B1.out.trans ((HB2.out.alloc HB2.out.size _).mono B1.out.size)⟩
end Go.Proofs.YtfoomgdlbkjaeaaGreat.K
namespace Go.Proofs.YtfoomgdlbkjaeaaGreat.K
open Go.RowKit
set_option maxHeartbeats 1000000
theorem cutStar_le (p : List UInt8) : (cutStar p).1.length ≤ p.length ∧ (cutStar p).2.1.length ≤ p.length := by
  unfold cutStar
  split
  · simp
  · simp
    omega
theorem rdecode_any (shape s : ByteArray) (w : World) (h1 : shape.size ≤ 1048576) (h2 : s.size ≤ 9223372036854775807) (R : List It × Int) (hR : decF shape.data.toList s.data.toList = R) :
    Calls Tryz.prog 51 #[.string shape, .string s] w fun e w' => ∃ v, e = .returned (.tuple #[v, .int .i64 R.2]) ∧ w'.ownsRow w.heap.size 83 3 v R.1.length (itemCells R.1) ∧ Below w.heap.size w w' := by
  have HK := fun w => kinds_any shape w h1
  have hle := cutStar_le shape.data.toList
  rw [size_list] at hle
  unfold decF at hR
  cases hb : shapeOk shape.data.toList with
  | true =>
    rw [hb] at HK
    rw [hb, if_pos rfl, size_list] at hR
    obtain ⟨p1, p2⟩ := shapeOk_parts _ hb
    refine rdecode_core shape s _ _ w R p1 p2 (by omega) (by omega) ?_ (RL.init (by unfold maxLen; omega) (by unfold maxLen; omega) hR)
    intro w
    refine (HK w).mono ?_
    rintro e w' ⟨va, vb, he, ho, hbl⟩
    exact ⟨va, vb, he, ho rfl, hbl⟩
  | false =>
    rw [hb] at HK
    rw [hb, if_neg (by decide)] at hR
    subst hR
    have HKH : Hid (∀ w, Calls Tryz.prog 80 #[.string shape] w fun e w' => ∃ va vb, e = .returned (.tuple #[va, vb, .bool false]) ∧ Below w.heap.size w w') := by
      intro w
      refine (HK w).mono ?_
      rintro e w' ⟨va, vb, he, _, hbl⟩
      exact ⟨va, vb, he, hbl⟩
    clear HK hb hle
    go_enter Tryz.func51, Tryz.ntmps51
    go_wp2_with fail
    refine (HKH.out _).mono ?_
    rintro e w1 ⟨va, vb, rfl, b1⟩
    go_wp2
    go_ret2
    exact ⟨.slice none 0 0, rfl, nil_owned _ _ _ _, b1⟩
end Go.Proofs.YtfoomgdlbkjaeaaGreat.K
namespace Go.Proofs.YtfoomgdlbkjaeaaGreat.Y
open Go.RowKit
set_option maxHeartbeats 4000000
attribute [local go_sem ↓] Go.wp_at_zero Go.wp_at_succ
set_option linter.unusedSimpArgs false
set_option linter.unusedVariables false
open Go.Maps
theorem xload_no (s : ByteArray) (hs : s.size ≤ 9223372036854775807) (hno : ∀ nm lo fi P R, ¬ Dump s nm lo fi P R) (w : World) :
    Calls Tryz.prog 25 #[.string s] w fun e w' => Below w.heap.size w w' ∧ e = .returned (.pointer none) := by
  go_enter Tryz.func25, Tryz.ntmps25
  refine wp_seq (reg_mono (xl_r0 (by kernel_rfl) _ (v := ⟨_, _, _, _, _, _, _, _, _, _⟩) ⟨rfl, rfl, rfl, rfl, rfl, rfl, rfl, rfl, rfl, rfl, rfl, rfl⟩ ?_))
  intro a0 F0
  try dsimp only at F0
  refine wp_seq (wp_seq (reg_mono (xl_r1 (by kernel_rfl) _ F0 rfl hs ?_)))
  intro a1 F1 g1
  by_cases h4 : (s.size : Int) < 4
  · rw [decide_eq_true h4] at g1
    refine wp_cond_true g1 ?_
    show Code.wp _ _ _ _ _
    refine wp_seq (reg_mono (xl_r2 (by kernel_rfl) _ F1 ?_))
    intro a2 F2
    try dsimp only at F2
    refine wp_ret ?_
    simp only [Exit.then]
    exact xl_ret F2 rfl ⟨Below.refl _ _, rfl⟩
  rw [decide_eq_false h4] at g1
  refine wp_cond_false g1 (wp_skip ?_)
  show Code.wp _ _ _ _ _
  have m0 : 0 < s.size := by omega
  have m1 : 1 < s.size := by omega
  have m2 : 2 < s.size := by omega
  have m3 : 3 < s.size := by omega
  have hw := headW_num s m0 m1 m2 m3
  have hn : s[0].toNat * 16777216 + s[1].toNat * 65536 + s[2].toNat * 256 + s[3].toNat < 4294967296 := by
    have b0 := s[0].toNat_lt
    have b1 := s[1].toNat_lt
    have b2 := s[2].toNat_lt
    have b3 := s[3].toNat_lt
    omega
  generalize hN : s[0].toNat * 16777216 + s[1].toNat * 65536 + s[2].toNat * 256 + s[3].toNat = N at hw hn
  refine wp_seq (reg_mono (xl_r3 (by kernel_rfl) _ F1 rfl hs m0 m1 m2 m3 hN.symm ?_))
  intro a3 nq F3
  try dsimp only at F3
  have B3 : Below w.heap.size w (w.drewN nq) := ⟨rfl, rfl, rfl, Nat.le_refl _, fun _ _ => rfl⟩
  generalize w.drewN nq = w3 at B3
  by_cases h20 : (N : Int) > 20
  · refine wp_seq (wp_seq (reg_mono (xl_r4a (by kernel_rfl) _ F3 rfl rfl h20 hn hs ?_)))
    intro a4 F4 g4
    refine wp_cond_true g4 ?_
    show Code.wp _ _ _ _ _
    refine wp_seq (reg_mono (xl_r5 (by kernel_rfl) _ F4 ?_))
    intro a5 F5
    try dsimp only at F5
    refine wp_ret ?_
    simp only [Exit.then]
    exact xl_ret F5 rfl ⟨B3, rfl⟩
  refine wp_seq (wp_seq (reg_mono (xl_r4b (by kernel_rfl) _ F3 rfl rfl h20 hs ?_)))
  intro a4 F4 g4
  by_cases hl : (s.size : Int) < 4 + N + 24
  · rw [decide_eq_true hl] at g4
    refine wp_cond_true g4 ?_
    show Code.wp _ _ _ _ _
    refine wp_seq (reg_mono (xl_r5 (by kernel_rfl) _ F4 ?_))
    intro a5 F5
    try dsimp only at F5
    refine wp_ret ?_
    simp only [Exit.then]
    exact xl_ret F5 rfl ⟨B3, rfl⟩
  rw [decide_eq_false hl] at g4
  refine wp_cond_false g4 (wp_skip ?_)
  show Code.wp _ _ _ _ _
  have hT : (s.extract 0 ((4 : Int) + N + 24).toNat).data.toList = s.data.toList.take (4 + N + 24) := by
    rw [extract_take, show ((4 : Int) + N + 24).toNat = 4 + N + 24 by omega]
  have hTz : (s.extract 0 ((4 : Int) + N + 24).toNat).size ≤ 9223372036854775807 := by
    rw [ByteArray.size_extract]
    omega
  have HD := fun w => K.rdecode_any ⟨#[116, 108, 108, 108]⟩ (s.extract 0 ((4 : Int) + N + 24).toNat) w (by decide) hTz (K.decF [116, 108, 108, 108] (s.extract 0 ((4 : Int) + N + 24).toNat).data.toList) rfl
  generalize hTT : s.extract 0 ((4 : Int) + N + 24).toNat = T at hT hTz HD
  by_cases h1 : (K.decF [116, 108, 108, 108] T.data.toList).2 = 0
  · obtain ⟨nm, lo, fi, ct, hd, hf, _⟩ := head_form _ h1
    have hct : 0 ≤ ct := (hf.all ⟨3, ct, ⟨#[]⟩⟩ (by unfold itemsHd; simp)).2
    obtain ⟨many, rfl⟩ := Int.eq_ofNat_of_zero_le hct
    have hq : (K.decF (shapeT many) s.data.toList).2 ≠ 0 ∨ many > 333 := by
      by_cases h2 : many ≤ 332
      · left
        intro h3
        obtain ⟨P, R, hD⟩ := dump_of s T many h2 nm lo fi N hT hw hd h3
        exact hno _ _ _ _ _ hD
      · by_cases h3 : many > 333
        · exact .inr h3
        · left
          intro h5
          obtain ⟨_, _, _, _, P, R, hp, _, hF, _⟩ := load_form many _ h5
          have := hF.len
          rw [li_len] at this
          omega
    have HD1 := HD w3
    rw [hd] at HD1
    refine wp_seq (reg_mono (xl_r6 (n4 := 4) (er := 0) (R := fun ao cp u => (∃ g, ao = some ⟨g, 0, none⟩ ∧ u.cell? ⟨g, 10, none⟩ = some (.int .u64 (many : Int))) ∧ Below w3.heap.size w3 u) (by kernel_rfl) _ F4 rfl rfl (by omega) hs (by omega) (by
      rw [hTT]
      refine HD1.mono fun e u q => ?_
      obtain ⟨v, rfl, ho, b⟩ := q
      obtain ⟨g, cp, rfl, _, _, _, _, hcl⟩ := own_list (l := itemsHd nm lo fi (many : Int)) ho (by unfold itemsHd; simp)
      exact ⟨_, _, rfl, ⟨g, rfl, hcl 10 _ rfl⟩, b⟩) ?_))
    rintro a6 w6 _ cp F6 ⟨⟨g, rfl, c10⟩, b6⟩
    try dsimp only at F6
    refine wp_seq (wp_seq (reg_mono (xl_r7b (by kernel_rfl) _ F6 rfl rfl c10 ?_)))
    intro a7 F7 g7
    by_cases h333 : (many : Int) > 333
    · rw [decide_eq_true h333] at g7
      refine wp_cond_true g7 ?_
      show Code.wp _ _ _ _ _
      refine wp_seq (reg_mono (xl_r8 (by kernel_rfl) _ F7 ?_))
      intro a8 F8
      try dsimp only at F8
      refine wp_ret ?_
      simp only [Exit.then]
      exact xl_ret F8 rfl ⟨B3.trans (b6.mono B3.size), rfl⟩
    rw [decide_eq_false h333] at g7
    refine wp_cond_false g7 (wp_skip ?_)
    show Code.wp _ _ _ _ _
    have hq2 : (K.decF (shapeT many) s.data.toList).2 ≠ 0 := hq.resolve_right (by omega)
    refine wp_seq (reg_mono (xl_r9 (by kernel_rfl) _ F7 rfl c10 ?_))
    intro a9 F9
    try dsimp only at F9
    rw [show wrap64 (many : Int) = (many : Int) by unfold wrap64; omega] at F9
    have HS := K.rdecode_any (shapeS many) s w6 (by rw [shape_size]; omega) hs (K.decF (shapeT many) s.data.toList) (by simp [shapeS])
    refine wp_seq (reg_mono (xl_r10 (n7 := (K.decF (shapeT many) s.data.toList).1.length) (er := (K.decF (shapeT many) s.data.toList).2) (R := fun _ _ u => Below w6.heap.size w6 u) (by kernel_rfl) _ F9 rfl rfl (by omega) (HS.mono fun e u q => by
      obtain ⟨v, rfl, ho, b⟩ := q
      obtain ⟨ao, cp, rfl⟩ := row_slice ho
      exact ⟨_, _, rfl, b⟩) ?_))
    rintro a10 w10 _ _ F10 b10
    try dsimp only at F10
    refine wp_seq (wp_seq (reg_mono (xl_r11 (by kernel_rfl) _ F10 rfl ?_)))
    intro a11 F11 g11
    rw [bne_iff_ne.2 hq2] at g11
    refine wp_cond_true g11 ?_
    show Code.wp _ _ _ _ _
    refine wp_seq (reg_mono (xl_r12 (by kernel_rfl) _ F11 ?_))
    intro a12 F12
    try dsimp only at F12
    refine wp_ret ?_
    simp only [Exit.then]
    exact xl_ret F12 rfl ⟨B3.trans ((b6.trans (b10.mono b6.size)).mono B3.size), rfl⟩
  · refine wp_seq (reg_mono (xl_r6 (n4 := (K.decF [116, 108, 108, 108] T.data.toList).1.length) (er := (K.decF [116, 108, 108, 108] T.data.toList).2) (R := fun _ _ u => Below w3.heap.size w3 u) (by kernel_rfl) _ F4 rfl rfl (by omega) hs (by omega) (by
      rw [hTT]
      refine (HD w3).mono fun e u q => ?_
      obtain ⟨v, rfl, ho, b⟩ := q
      obtain ⟨ao, cp, rfl⟩ := row_slice ho
      exact ⟨_, _, rfl, b⟩) ?_))
    rintro a6 w6 _ cp F6 b6
    try dsimp only at F6
    refine wp_seq (wp_seq (reg_mono (xl_r7a (by kernel_rfl) _ F6 rfl h1 ?_)))
    intro a7 F7 g7
    refine wp_cond_true g7 ?_
    show Code.wp _ _ _ _ _
    refine wp_seq (reg_mono (xl_r8 (by kernel_rfl) _ F7 ?_))
    intro a8 F8
    try dsimp only at F8
    refine wp_ret ?_
    simp only [Exit.then]
    exact xl_ret F8 rfl ⟨B3.trans (b6.mono B3.size), rfl⟩
end Go.Proofs.YtfoomgdlbkjaeaaGreat.Y
