/-
  The document's own Decode, as it runs; and a look at the law CodecReads.
-/
import Derived.Test.YtfcpclpaalekiaaZKR8
namespace Go.Proofs.Ytfcpclpaalekiaa.K
open Go.RowKit
set_option maxHeartbeats 2000000
set_option maxRecDepth 100000
theorem DS.after {w w' w2 : World} {v : Value} {l : List It} (h : DS w w' v l) (hb : Below w'.heap.size w' w2) : DS w w2 v l :=
  ⟨h.below.trans (hb.mono h.below.size), own_below h.own hb (Nat.le_refl _)⟩
theorem DS.append {w w' w4 : World} {v v' : Value} {l : List It} {x : It} {o o2 : Obj} (h : DS w w' v l) (hg : ((w'.alloc o).alloc o2).grownBy w4 v.ownBlock) (hown : w4.ownsRow w.heap.size 66 3 v' (l.length + 1) (itemCells l ++ x.cells)) : DS w w4 v' (l ++ [x]) := by
  have hs := h.below.size
  refine ⟨((h.below.alloc (by omega) o).alloc (by simp; omega) o2).grown hg (by simp; omega) (fun k hk => (h.own.lt k hk).1), ?_⟩
  rw [List.length_append, List.length_singleton, itemCells_snoc]; exact hown
theorem rdecode_core (shape s : ByteArray) (A B : List UInt8) (w : World) (R : List It × Int) (hA : allL A = true) (hB : allL B = true) (lA : A.length ≤ 1048576) (lB : B.length ≤ 1048576)
    (HK : Hid (∀ w, Calls Try.prog 52 #[.string shape] w fun e w' => ∃ va vb, e = .returned (.tuple #[va, vb, .bool true]) ∧
      (w'.ownsRow w.heap.size 3 1 va A.length (intCells A) ∧ w'.ownsRow w.heap.size 3 1 vb B.length (intCells B)) ∧ Below w.heap.size w w'))
    (hI : RL B [] (TD A B 0) s R) :
    Calls Try.prog 36 #[.string shape, .string s] w fun e w' => ∃ v, e = .returned (.tuple #[v, .int .i64 R.2]) ∧ w'.ownsRow w.heap.size 66 3 v R.1.length (itemCells R.1) ∧ Below w.heap.size w w' := by
  have HI := hide hI
  have HAl := hide hA
  have HBl := hide hB
  clear hI hA hB
  go_enter Try.func36, Try.ntmps36
  go_wp2_with fail
  refine (HK.out _).mono ?_
  rintro e w1 ⟨va, vb, rfl, ⟨ha, hb⟩, b1⟩
  obtain ⟨ao, acap, rfl, hia⟩ := ints_of_own ha
  obtain ⟨bo, bcap, rfl, hib⟩ := ints_of_own hb
  have HIA := hide hia
  have HIB := hide hib
  have B1 := hide b1
  clear HK hia hib ha hb b1
  obtain ⟨na, hna⟩ : ∃ na, A.length = na := ⟨_, rfl⟩
  obtain ⟨nb, hnb⟩ : ∃ nb, B.length = nb := ⟨_, rfl⟩
  have HNA := hide hna
  have HNB := hide hnb
  rw [hna] at lA ⊢
  rw [hnb] at lB ⊢
  clear hna hnb
  go_wp2
  go_loopw [1, 9, 10] (fun sv ov i wv => ∃ (rest : ByteArray) (l : List It), sv = .string rest ∧ i = .int .i64 (l.length : Nat) ∧ RL B l (TD A B l.length) rest R ∧ DS w1 wv ov l) (fun sv _ _ _ => strSize sv)
  case atStart => exact ⟨s, [], rfl, rfl, HI.out, ⟨Below.refl _ _, nil_owned _ _ _ _⟩⟩
  case round =>
    obtain ⟨rest, l, rfl, rfl, hRL, hDS⟩ := hrel
    have HRL := hide hRL
    have HDS := hide hDS
    have hlen := hRL.len
    have hrest := hRL.restLen
    unfold maxLen at hrest
    obtain ⟨oo, ocap, rfl⟩ := own_shape hDS.own
    obtain ⟨k, hk⟩ : ∃ k, l.length = k := ⟨_, rfl⟩
    have HKL := hide hk
    rw [hk] at hlen ⊢
    clear hRL hDS hk
    by_cases hka : k < na
    · have hc : ∃ c g, isLetter c = true ∧ ao = some ⟨g, 0, none⟩ ∧ g < wr.heap.size ∧ wr.cell? ⟨g, k, none⟩ = some (.int .i64 (kindOfL c)) ∧ RL B l (c :: TD A B (k + 1)) rest R := by
        have hkA : k < A.length := by rw [HNA.out]; exact hka
        obtain ⟨g, h1, h2, h3⟩ := (HIA.out.below HDS.out.below) k hkA
        refine ⟨A[k], g, ?_, h1, h2, h3, ?_⟩
        · have := HAl.out
          unfold allL at this
          rw [List.all_eq_true] at this
          exact this _ (List.getElem_mem hkA)
        · have := HRL.out
          rw [HKL.out, TD_a A B k hkA] at this
          exact this
      obtain ⟨c, g, hcl, rfl, hg, hcell, hRL2⟩ := hc
      have HR2 := hide hRL2
      have HCL := hide hcl
      clear hRL2 hcl
      by_cases h1 : k = 1000
      · have hl1 : ((k : Int) == 1000) = true := by rw [beq_iff_eq]; omega
        have HE := hide (HR2.out.long (by rw [HKL.out]; exact h1))
        clear h1
        go_wp2_with fail
        go_ret2
        exact ⟨.slice none 0 0, ret2 rfl (by rw [HE.out]; rfl), by rw [HE.out]; exact nil_owned _ _ _ _, B1.out.trans (HDS.out.below.mono B1.out.size)⟩
      · have hl1 : ((k : Int) == 1000) = false := by rw [beq_eq_false_iff_ne]; omega
        have hne : l.length ≠ 1000 := by rw [HKL.out]; exact h1
        have hkb : kindB (kindOfL c) = true := by
          have h2 := isLetter_iff c
          rw [HCL.out] at h2
          have h3 := kindOfL_le c
          simp at h2
          simp [kindB]
          omega
        obtain ⟨n, hn, hcall⟩ := take_any (kindOfL c) rest hkb (by unfold maxLen; omega)
        have hfault := HR2.out.fault hne
        have hnext := HR2.out.next hne
        generalize itemG (kindOfL c) (widthN (kindOfL c)) rest = r at hn hcall hfault hnext
        obtain ⟨⟨rk, rn, rs⟩, rr, re⟩ := r
        have HC : Hid (∀ w, Calls Try.prog 53 #[.int .i64 (kindOfL c), .string rest] w fun e w' => e = .returned (.tuple #[.agg #[.int .i64 rk, .int .u64 rn, .string rs], .int .i64 n, .int .i64 re]) ∧ Below w.heap.size w w') := hcall
        clear hcall h1 hne hkb
        by_cases he : re = 0
        · subst he
          have HN := hide (hnext rfl)
          obtain ⟨hn1, hn2⟩ := hn rfl
          simp only at hn2
          subst hn2
          clear hfault hnext hn
          go_wp2_with fail
          refine (HC.out _).mono ?_
          rintro e w2 ⟨rfl, hb⟩
          have HD2 := hide (HDS.out.after hb)
          have hown2 := HD2.out.own
          rw [HKL.out] at hown2
          have HO2 := hide hown2
          clear hb hown2
          go_wp2_with (at_builtin; refine wpList_append_own _ rfl _ _ 60 rfl w1.heap.size 66 Try.t66 (.agg #[.int .i64 0, .int .u64 0, .string ⟨#[]⟩]) 3 32 Try.underlying60 ?hi ?hz ?hs ?hby rfl (by decide) _ _ _ rfl ((HO2.out.alloc _).alloc _) ⟨_, 0, none⟩ 1 1 (It.cells ⟨rk, rn, rs⟩) rfl rfl ?hnews ?h1 ?h63 ?hb47 ?hbase ?_)
          case hi => exact Try.info66
          case hz => exact Try.zero66
          case hs => exact Try.cells66
          case hby => exact Try.bytes66
          case hnews => exact cells_new3 _ _ _ _ _ _ (by simp)
          case h1 =>
            intro u hu
            simp [It.cells] at hu
            rcases hu with rfl | rfl | rfl <;> rfl
          case h63 => unfold maxLen; omega
          case hb47 => omega
          case hbase => have := HD2.out.below.size; simp; omega
          intro v' w4 hown hgrow _
          have HS4 : Hid (DS w1 w4 v' (l ++ [⟨rk, rn, rs⟩])) := by
            have h := HD2.out
            rw [HKL.out] at h
            refine h.append hgrow ?_
            rw [HKL.out]
            exact hown
          clear hown hgrow
          go_wp2
          go_roundw
          case rel =>
            refine ⟨rest.extract n rest.size, l ++ [⟨rk, rn, rs⟩], rfl, ?_, ?_, HS4.out⟩
            · rw [List.length_append, HKL.out]
              go_num
            · rw [List.length_append, HKL.out]
              exact HN.out.1
          case measure =>
            have := HN.out.2
            exact this
        · have hne : (re != 0) = true := by rw [bne_iff_ne]; exact he
          have HE := hide (hfault he)
          clear hfault hnext he hn
          go_wp2_with fail
          refine (HC.out _).mono ?_
          rintro e w2 ⟨rfl, hb⟩
          have HB2 := hide (HDS.out.below.trans (hb.mono HDS.out.below.size))
          clear hb
          go_wp2
          go_ret2
          exact ⟨.slice none 0 0, ret2 rfl (by rw [HE.out]; rfl), by rw [HE.out]; exact nil_owned _ _ _ _, B1.out.trans ((HB2.out.alloc HB2.out.size _).mono B1.out.size)⟩
    · by_cases hb0 : nb = 0
      · have hB0 : B = [] := List.eq_nil_of_length_eq_zero (by rw [HNB.out]; exact hb0)
        have HRE : Hid (RL [] l [] rest R) := by
          have := HRL.out
          rw [hB0, HKL.out, TD_end A k (by rw [HNA.out]; omega)] at this
          exact this
        clear hB0
        by_cases hr : rest.size = 0
        · have hre := isEmpty_of hr
          have HE := hide (HRE.out.done hr)
          clear hr
          go_wp2
          go_ret2
          exact ⟨.slice oo k ocap, ret2 rfl (by rw [HE.out]; rfl), by rw [HE.out, ← HKL.out]; exact own_base HDS.out.own B1.out.size, B1.out.trans (HDS.out.below.mono B1.out.size)⟩
        · have hre := notEmpty_of hr
          have HE := hide (HRE.out.form hr)
          clear hr
          go_wp2
          go_ret2
          exact ⟨.slice none 0 0, ret2 rfl (by rw [HE.out]; rfl), by rw [HE.out]; exact nil_owned _ _ _ _, B1.out.trans (HDS.out.below.mono B1.out.size)⟩
      · obtain ⟨m, hm⟩ : ∃ m, (k - na) % nb = m := ⟨_, rfl⟩
        have hmi : ((k : Int) - (na : Int)) % (nb : Int) = (m : Int) := by
          rw [← hm, ← Int.ofNat_sub (by omega)]
          rfl
        have hml : m < nb := by rw [← hm]; exact Nat.mod_lt _ (by omega)
        have HM : Hid ((k - A.length) % B.length = m) := by
          rw [HNA.out, HNB.out]; exact hm
        clear hm
        by_cases hm0 : m = 0
        · subst hm0
          by_cases hr : rest.size = 0
          · have hre := isEmpty_of hr
            have HE : Hid (R = (l, 0)) := by
              have := HRL.out
              rw [HKL.out, TD_b0 A B _ (by rw [HNA.out]; omega) HM.out] at this
              exact this.done hr
            clear hr
            go_wp2
            go_ret2
            exact ⟨.slice oo k ocap, ret2 rfl (by rw [HE.out]; rfl), by rw [HE.out, ← HKL.out]; exact own_base HDS.out.own B1.out.size, B1.out.trans (HDS.out.below.mono B1.out.size)⟩
          · have hre := notEmpty_of hr
            have hc : ∃ c g, isLetter c = true ∧ bo = some ⟨g, 0, none⟩ ∧ g < wr.heap.size ∧ wr.cell? ⟨g, 0, none⟩ = some (.int .i64 (kindOfL c)) ∧ RL B l (c :: TD A B (k + 1)) rest R := by
              have hmB : 0 < B.length := by rw [HNB.out]; exact hml
              obtain ⟨g, h1, h2, h3⟩ := (HIB.out.below HDS.out.below) 0 hmB
              refine ⟨B[0], g, ?_, h1, h2, h3, ?_⟩
              · have := HBl.out
                unfold allL at this
                rw [List.all_eq_true] at this
                exact this _ (List.getElem_mem hmB)
              · have := HRL.out
                rw [HKL.out, TD_b0 A B k (by rw [HNA.out]; omega) HM.out] at this
                have h4 := this.again hr (by rintro rfl; simp at hmB) (by rw [HNB.out]; unfold maxLen; omega)
                rw [← TD_b A B k 0 (by rw [HNA.out]; omega) HM.out hmB]
                exact h4
            obtain ⟨c, g, hcl, rfl, hg, hcell, hRL2⟩ := hc
            have HR2 := hide hRL2
            have HCL := hide hcl
            clear hRL2 hcl hr
            by_cases h1 : k = 1000
            · have hl1 : ((k : Int) == 1000) = true := by rw [beq_iff_eq]; omega
              have HE := hide (HR2.out.long (by rw [HKL.out]; exact h1))
              clear h1
              go_wp2_with fail
              go_ret2
              exact ⟨.slice none 0 0, ret2 rfl (by rw [HE.out]; rfl), by rw [HE.out]; exact nil_owned _ _ _ _, B1.out.trans (HDS.out.below.mono B1.out.size)⟩
            · have hl1 : ((k : Int) == 1000) = false := by rw [beq_eq_false_iff_ne]; omega
              have hne : l.length ≠ 1000 := by rw [HKL.out]; exact h1
              have hkb : kindB (kindOfL c) = true := by
                have h2 := isLetter_iff c
                rw [HCL.out] at h2
                have h3 := kindOfL_le c
                simp at h2
                simp [kindB]
                omega
              obtain ⟨n, hn, hcall⟩ := take_any (kindOfL c) rest hkb (by unfold maxLen; omega)
              have hfault := HR2.out.fault hne
              have hnext := HR2.out.next hne
              generalize itemG (kindOfL c) (widthN (kindOfL c)) rest = r at hn hcall hfault hnext
              obtain ⟨⟨rk, rn, rs⟩, rr, re⟩ := r
              have HC : Hid (∀ w, Calls Try.prog 53 #[.int .i64 (kindOfL c), .string rest] w fun e w' => e = .returned (.tuple #[.agg #[.int .i64 rk, .int .u64 rn, .string rs], .int .i64 n, .int .i64 re]) ∧ Below w.heap.size w w') := hcall
              clear hcall h1 hne hkb
              by_cases he : re = 0
              · subst he
                have HN := hide (hnext rfl)
                obtain ⟨hn1, hn2⟩ := hn rfl
                simp only at hn2
                subst hn2
                clear hfault hnext hn
                go_wp2_with fail
                refine (HC.out _).mono ?_
                rintro e w2 ⟨rfl, hb⟩
                have HD2 := hide (HDS.out.after hb)
                have hown2 := HD2.out.own
                rw [HKL.out] at hown2
                have HO2 := hide hown2
                clear hb hown2
                go_wp2_with (at_builtin; refine wpList_append_own _ rfl _ _ 60 rfl w1.heap.size 66 Try.t66 (.agg #[.int .i64 0, .int .u64 0, .string ⟨#[]⟩]) 3 32 Try.underlying60 ?hi ?hz ?hs ?hby rfl (by decide) _ _ _ rfl ((HO2.out.alloc _).alloc _) ⟨_, 0, none⟩ 1 1 (It.cells ⟨rk, rn, rs⟩) rfl rfl ?hnews ?h1 ?h63 ?hb47 ?hbase ?_)
                case hi => exact Try.info66
                case hz => exact Try.zero66
                case hs => exact Try.cells66
                case hby => exact Try.bytes66
                case hnews => exact cells_new3 _ _ _ _ _ _ (by simp)
                case h1 =>
                  intro u hu
                  simp [It.cells] at hu
                  rcases hu with rfl | rfl | rfl <;> rfl
                case h63 => unfold maxLen; omega
                case hb47 => omega
                case hbase => have := HD2.out.below.size; simp; omega
                intro v' w4 hown hgrow _
                have HS4 : Hid (DS w1 w4 v' (l ++ [⟨rk, rn, rs⟩])) := by
                  have h := HD2.out
                  rw [HKL.out] at h
                  refine h.append hgrow ?_
                  rw [HKL.out]
                  exact hown
                clear hown hgrow
                go_wp2
                go_roundw
                case rel =>
                  refine ⟨rest.extract n rest.size, l ++ [⟨rk, rn, rs⟩], rfl, ?_, ?_, HS4.out⟩
                  · rw [List.length_append, HKL.out]
                    go_num
                  · rw [List.length_append, HKL.out]
                    exact HN.out.1
                case measure =>
                  have := HN.out.2
                  exact this
              · have hne : (re != 0) = true := by rw [bne_iff_ne]; exact he
                have HE := hide (hfault he)
                clear hfault hnext he hn
                go_wp2_with fail
                refine (HC.out _).mono ?_
                rintro e w2 ⟨rfl, hb⟩
                have HB2 := hide (HDS.out.below.trans (hb.mono HDS.out.below.size))
                clear hb
                go_wp2
                go_ret2
                exact ⟨.slice none 0 0, ret2 rfl (by rw [HE.out]; rfl), by rw [HE.out]; exact nil_owned _ _ _ _, B1.out.trans ((HB2.out.alloc HB2.out.size _).mono B1.out.size)⟩
        · have hc : ∃ c g, isLetter c = true ∧ bo = some ⟨g, 0, none⟩ ∧ g < wr.heap.size ∧ wr.cell? ⟨g, m, none⟩ = some (.int .i64 (kindOfL c)) ∧ RL B l (c :: TD A B (k + 1)) rest R := by
            have hmB : m < B.length := by rw [HNB.out]; exact hml
            obtain ⟨g, h1, h2, h3⟩ := (HIB.out.below HDS.out.below) m hmB
            refine ⟨B[m], g, ?_, h1, h2, h3, ?_⟩
            · have := HBl.out
              unfold allL at this
              rw [List.all_eq_true] at this
              exact this _ (List.getElem_mem hmB)
            · have := HRL.out
              rw [HKL.out, TD_b1 A B k (by rw [HNA.out]; omega) (by rw [HM.out]; exact hm0), HM.out] at this
              rw [← TD_b A B k m (by rw [HNA.out]; omega) HM.out hmB]
              exact this
          obtain ⟨c, g, hcl, rfl, hg, hcell, hRL2⟩ := hc
          have HR2 := hide hRL2
          have HCL := hide hcl
          have hmz : ((m : Int) == 0) = false := by rw [beq_eq_false_iff_ne]; omega
          clear hRL2 hcl
          by_cases h1 : k = 1000
          · have hl1 : ((k : Int) == 1000) = true := by rw [beq_iff_eq]; omega
            have HE := hide (HR2.out.long (by rw [HKL.out]; exact h1))
            clear h1
            go_wp2_with fail
            go_ret2
            exact ⟨.slice none 0 0, ret2 rfl (by rw [HE.out]; rfl), by rw [HE.out]; exact nil_owned _ _ _ _, B1.out.trans (HDS.out.below.mono B1.out.size)⟩
          · have hl1 : ((k : Int) == 1000) = false := by rw [beq_eq_false_iff_ne]; omega
            have hne : l.length ≠ 1000 := by rw [HKL.out]; exact h1
            have hkb : kindB (kindOfL c) = true := by
              have h2 := isLetter_iff c
              rw [HCL.out] at h2
              have h3 := kindOfL_le c
              simp at h2
              simp [kindB]
              omega
            obtain ⟨n, hn, hcall⟩ := take_any (kindOfL c) rest hkb (by unfold maxLen; omega)
            have hfault := HR2.out.fault hne
            have hnext := HR2.out.next hne
            generalize itemG (kindOfL c) (widthN (kindOfL c)) rest = r at hn hcall hfault hnext
            obtain ⟨⟨rk, rn, rs⟩, rr, re⟩ := r
            have HC : Hid (∀ w, Calls Try.prog 53 #[.int .i64 (kindOfL c), .string rest] w fun e w' => e = .returned (.tuple #[.agg #[.int .i64 rk, .int .u64 rn, .string rs], .int .i64 n, .int .i64 re]) ∧ Below w.heap.size w w') := hcall
            clear hcall h1 hne hkb
            by_cases he : re = 0
            · subst he
              have HN := hide (hnext rfl)
              obtain ⟨hn1, hn2⟩ := hn rfl
              simp only at hn2
              subst hn2
              clear hfault hnext hn
              go_wp2_with fail
              refine (HC.out _).mono ?_
              rintro e w2 ⟨rfl, hb⟩
              have HD2 := hide (HDS.out.after hb)
              have hown2 := HD2.out.own
              rw [HKL.out] at hown2
              have HO2 := hide hown2
              clear hb hown2
              go_wp2_with (at_builtin; refine wpList_append_own _ rfl _ _ 60 rfl w1.heap.size 66 Try.t66 (.agg #[.int .i64 0, .int .u64 0, .string ⟨#[]⟩]) 3 32 Try.underlying60 ?hi ?hz ?hs ?hby rfl (by decide) _ _ _ rfl ((HO2.out.alloc _).alloc _) ⟨_, 0, none⟩ 1 1 (It.cells ⟨rk, rn, rs⟩) rfl rfl ?hnews ?h1 ?h63 ?hb47 ?hbase ?_)
              case hi => exact Try.info66
              case hz => exact Try.zero66
              case hs => exact Try.cells66
              case hby => exact Try.bytes66
              case hnews => exact cells_new3 _ _ _ _ _ _ (by simp)
              case h1 =>
                intro u hu
                simp [It.cells] at hu
                rcases hu with rfl | rfl | rfl <;> rfl
              case h63 => unfold maxLen; omega
              case hb47 => omega
              case hbase => have := HD2.out.below.size; simp; omega
              intro v' w4 hown hgrow _
              have HS4 : Hid (DS w1 w4 v' (l ++ [⟨rk, rn, rs⟩])) := by
                have h := HD2.out
                rw [HKL.out] at h
                refine h.append hgrow ?_
                rw [HKL.out]
                exact hown
              clear hown hgrow
              go_wp2
              go_roundw
              case rel =>
                refine ⟨rest.extract n rest.size, l ++ [⟨rk, rn, rs⟩], rfl, ?_, ?_, HS4.out⟩
                · rw [List.length_append, HKL.out]
                  go_num
                · rw [List.length_append, HKL.out]
                  exact HN.out.1
              case measure =>
                have := HN.out.2
                exact this
            · have hne : (re != 0) = true := by rw [bne_iff_ne]; exact he
              have HE := hide (hfault he)
              clear hfault hnext he hn
              go_wp2_with fail
              refine (HC.out _).mono ?_
              rintro e w2 ⟨rfl, hb⟩
              have HB2 := hide (HDS.out.below.trans (hb.mono HDS.out.below.size))
              clear hb
              go_wp2
              go_ret2
              exact ⟨.slice none 0 0, ret2 rfl (by rw [HE.out]; rfl), by rw [HE.out]; exact nil_owned _ _ _ _, B1.out.trans ((HB2.out.alloc HB2.out.size _).mono B1.out.size)⟩
end Go.Proofs.Ytfcpclpaalekiaa.K
namespace Go.Proofs.Ytfcpclpaalekiaa.K
open Go.RowKit
set_option maxHeartbeats 1000000
theorem cutStar_le (p : List UInt8) : (cutStar p).1.length ≤ p.length ∧ (cutStar p).2.1.length ≤ p.length := by
  unfold cutStar
  split
  · simp
  · simp
    omega
theorem rdecode_any (shape s : ByteArray) (w : World) (h1 : shape.size ≤ 1048576) (h2 : s.size ≤ 9223372036854775807) (R : List It × Int) (hR : decF shape.data.toList s.data.toList = R) :
    Calls Try.prog 36 #[.string shape, .string s] w fun e w' => ∃ v, e = .returned (.tuple #[v, .int .i64 R.2]) ∧ w'.ownsRow w.heap.size 66 3 v R.1.length (itemCells R.1) ∧ Below w.heap.size w w' := by
  have HK := fun w => kinds_any shape w h1
  have hle := cutStar_le shape.data.toList
  rw [size_list] at hle
  unfold decF at hR
  cases hb : shapeOk shape.data.toList with
  | true =>
    rw [hb] at HK
    rw [hb, if_pos rfl, size_list] at hR
    obtain ⟨p1, p2⟩ := shapeOk_parts _ hb
    refine rdecode_core shape s _ _ w R p1 p2 (by omega) (by omega) ?_ (RL.init (by unfold maxLen; omega) (by unfold maxLen; omega) hR)
    intro w
    refine (HK w).mono ?_
    rintro e w' ⟨va, vb, he, ho, hbl⟩
    exact ⟨va, vb, he, ho rfl, hbl⟩
  | false =>
    rw [hb] at HK
    rw [hb, if_neg (by decide)] at hR
    subst hR
    have HKH : Hid (∀ w, Calls Try.prog 52 #[.string shape] w fun e w' => ∃ va vb, e = .returned (.tuple #[va, vb, .bool false]) ∧ Below w.heap.size w w') := by
      intro w
      refine (HK w).mono ?_
      rintro e w' ⟨va, vb, he, _, hbl⟩
      exact ⟨va, vb, he, hbl⟩
    clear HK hb hle
    go_enter Try.func36, Try.ntmps36
    go_wp2_with fail
    refine (HKH.out _).mono ?_
    rintro e w1 ⟨va, vb, rfl, b1⟩
    go_wp2
    go_ret2
    exact ⟨.slice none 0 0, rfl, nil_owned _ _ _ _, b1⟩
end Go.Proofs.Ytfcpclpaalekiaa.K
