/-
  The program's shared, Common, Prefix, longest, cloned, size, as they run.
-/
import Derived.Test.YtfcpclpaalekiaaZFC
import Derived.WalkMore
namespace Go.Proofs.Ytfcpclpaalekiaa
open Go.RowKit Go.Shelf
set_option maxHeartbeats 8000000
attribute [local go_sem ↓] Go.wp_at_zero Go.wp_at_succ
set_option linter.unusedSimpArgs false
set_option linter.unusedVariables false
theorem drewN_below (w : World) (n : Nat) : Below w.heap.size w (w.drewN n) := below_drewN (Below.refl _ w) n
theorem fshared (ao oo : Option Addr) (ca oc : Nat) (a b : List ByteArray) (w : World) (ha : TextsAt w ao a) (hb : LogsAt w oo [b]) (hl : a.length ≤ 17592186044416) (hl2 : b.length ≤ 17592186044416) :
    Calls Try.prog 26 #[.slice ao a.length ca, .slice oo 1 oc] w fun e w' => e = .returned (.int .i64 (comF a b : Nat)) ∧ Below w.heap.size w w' := by
  have HA := hide ha
  have HC := hide (comF_is a b)
  obtain ⟨g0, off0, hoo, hg0, lo, lc, hcl, hbt⟩ := hb 0 (by simp)
  have hcl : w.cell? ⟨g0, off0, none⟩ = some (.slice lo b.length lc) := hcl
  have HB : Hid (TextsAt w lo b) := hbt
  subst hoo
  clear ha hb hbt
  generalize comF a b = cf at *
  go_enter Try.func26, Try.ntmps26
  go_wp2
  go_step3
  go_wp2
  go_step3
  go_wp2
  have S0 : Hid (∀ i (hi : i < 0) (h1 : i < a.length) (h2 : i < b.length), a[i] = b[i]) := fun i hi => by omega
  go_loopw [5, 6, 7, 9, 12] (fun nv _ _ _ iv wv => ∃ k : Nat, k ≤ a.length ∧ k ≤ b.length ∧ nv = .int .i64 (k : Nat) ∧ iv = .int .i64 (k : Nat) ∧ Hid (∀ i (hi : i < k) (h1 : i < a.length) (h2 : i < b.length), a[i] = b[i]) ∧ ∃ n, wv = w.drewN n) (fun _ _ _ _ iv _ => a.length - (intOf iv).toNat)
  case atStart => exact ⟨0, Nat.zero_le _, Nat.zero_le _, rfl, rfl, S0, 0, rfl⟩
  case round =>
    obtain ⟨k, hka, hkb, rfl, rfl, SV, nd, rfl⟩ := hrel
    by_cases hlt : k < a.length
    · have y0 : (0 : Int) ≤ (k : Int) := by omega
      have y1 : (k : Int) < (a.length : Int) := by omega
      obtain ⟨g1, off1, rfl, hg1, hc1⟩ := HA.out k hlt
      have HK : Hid (¬ (k < b.length ∧ ∃ h : k < b.length, a[k] = b[k]) → cf = k) := fun hn => HC.out k hka hkb (fun i hi => SV.out i hi (by omega) (by omega)) (by
        by_cases e1 : k < b.length
        · exact .inr (.inr ⟨hlt, e1, fun e => hn ⟨e1, e1, e⟩⟩)
        · exact .inr (.inl (by omega)))
      have SN : Hid ((∃ h : k < b.length, a[k] = b[k]) → ∀ i (hi : i < k + 1) (h1 : i < a.length) (h2 : i < b.length), a[i] = b[i]) := fun ⟨h, e⟩ i hi h1 h2 => by
        rcases Nat.lt_or_ge i k with h | h
        · exact SV.out i h h1 h2
        · obtain rfl : i = k := by omega
          exact e
      generalize hx : a[k] = x at *
      have HX := hide hx
      clear hx SV
      go_wp2
      go_loopw [9, 19] (fun _ jv wv => ∃ j : Nat, j ≤ 1 ∧ jv = .int .i64 (j : Nat) ∧ Hid (j = 1 → ∃ h : k < b.length, x = b[k]) ∧ ∃ n, wv = w.drewN n) (fun _ jv _ => 1 - (intOf jv).toNat)
      case atStart => exact ⟨0, Nat.zero_le _, rfl, (fun h => by cases h), nd, rfl⟩
      case round =>
        obtain ⟨j, hj, rfl, JV, nd2, rfl⟩ := hrel
        rcases Nat.lt_or_ge j 1 with hj1 | hj1
        · obtain rfl : j = 0 := by omega
          by_cases hlt2 : k < b.length
          · obtain ⟨g2, off2, rfl, hg2, hc2⟩ := HB.out k hlt2
            have y2 : ¬ (b.length : Int) ≤ (k : Int) := by omega
            have y3 : (k : Int) < (b.length : Int) := by omega
            have d2 : decide ((b.length : Int) ≤ (k : Int)) = false := decide_eq_false y2
            by_cases e : x = b[k]
            · have HE : Hid (∃ h : k < b.length, x = b[k]) := ⟨hlt2, e⟩
              rw [← e] at hc2
              clear e
              go_wp2
              exact ⟨⟨1, by omega, rfl, fun _ => HE.out, nd2, rfl⟩, by simp [intOf]⟩
            · have HE : Hid (cf = k) := HK.out fun h => e h.2.2
              have e3 := toList_ne e
              have e4 := toList_ne (fun h => e h.symm)
              clear e
              generalize b[k] = y at *
              go_wp2
              try rw [Exit.noGoto_ret]
              go_ret
              exact ⟨by rw [HE.out]; rfl, drewN_below w _⟩
          · have y2 : (b.length : Int) ≤ (k : Int) := by omega
            have d2 : decide ((b.length : Int) ≤ (k : Int)) = true := decide_eq_true y2
            have HE : Hid (cf = k) := HK.out fun h => hlt2 h.1
            go_wp2
            try rw [Exit.noGoto_ret]
            go_ret
            exact ⟨by rw [HE.out]; rfl, drewN_below w _⟩
        · obtain rfl : j = 1 := by omega
          have HE : Hid (∃ h : k < b.length, x = b[k]) := JV.out rfl
          have SN2 := hide (SN.out HE.out)
          have hlt2 : k < b.length := HE.out.1
          go_wp2
          exact ⟨⟨k + 1, by omega, by omega, by go_num, by go_num, SN2.out, nd2, rfl⟩, by simp [intOf]; omega⟩
    · have y1 : ¬ (k : Int) < (a.length : Int) := by omega
      have HE : Hid (cf = k) := HC.out k hka hkb (fun i hi => SV.out i hi (by omega) (by omega)) (.inl (by omega))
      clear SV
      go_wp2
      try rw [Exit.noGoto_ret]
      go_ret
      exact ⟨by rw [HE.out]; rfl, drewN_below w _⟩
theorem fcommon (ao bo : Option Addr) (ca cb : Nat) (a b : List ByteArray) (w : World) (ha : TextsAt w ao a) (hb : TextsAt w bo b) (hl : a.length ≤ 17592186044416) (hl2 : b.length ≤ 17592186044416) :
    Calls Try.prog 13 #[.slice ao a.length ca, .slice bo b.length cb] w fun e w' => e = .returned (.int .i64 (comF a b : Nat)) ∧ Below w.heap.size w w' := by
  have HC : Hid (∀ w1 oo oc, Below w.heap.size w w1 → LogsAt w1 oo [b] → Calls Try.prog 26 #[.slice ao a.length ca, .slice oo 1 oc] w1 fun e w' => e = .returned (.int .i64 (comF a b : Nat)) ∧ Below w1.heap.size w1 w') := fun w1 oo oc b1 h => fshared ao oo ca oc a b w1 (ha.below b1) h hl hl2
  have HB := hide hb
  have BU := hide ((Below.refl w.heap.size w).alloc (Nat.le_refl _) (.cells #[.slice bo b.length cb] 23))
  have XN := hide (heap_alloc_new w (.cells #[.slice bo b.length cb] 23))
  have LG : Hid (LogsAt (w.alloc (.cells #[.slice bo b.length cb] 23)) (some ⟨w.heap.size, 0, none⟩) [b]) := by
    intro i hi
    obtain rfl : i = 0 := by simpa using hi
    exact ⟨w.heap.size, 0, rfl, heap_lt XN.out, bo, cb, box_cell XN.out 0 rfl, hb.below BU.out⟩
  clear ha hb
  generalize comF a b = cf at *
  go_enter Try.func13, Try.ntmps13
  go_wp2_with (go_at_call 26; refine (HC.out _ _ _ BU.out LG.out).mono ?_; rintro e w1 ⟨rfl, b1⟩; have B1 := hide (BU.out.trans (b1.mono BU.out.size)); clear b1)
  go_ret
  exact ⟨rfl, B1.out⟩
theorem fprefix (ao bo : Option Addr) (ca cb : Nat) (a b : List ByteArray) (w : World) (ha : TextsAt w ao a) (hb : TextsAt w bo b) (hl : a.length ≤ 17592186044416) (hl2 : b.length ≤ 17592186044416) :
    Calls Try.prog 15 #[.slice ao a.length ca, .slice bo b.length cb] w fun e w' => e = .returned (.bool (preF a b)) ∧ Below w.heap.size w w' := by
  have HC := hide (fcommon ao bo ca cb a b w ha hb hl hl2)
  have HP : Hid (preF a b = decide (comF a b = a.length)) := rfl
  clear ha hb
  generalize comF a b = cf at *
  generalize preF a b = pf at *
  go_enter Try.func15, Try.ntmps15
  go_wp2_with (go_at_call 13; refine HC.out.mono ?_; rintro e w1 ⟨rfl, b1⟩)
  go_ret
  refine ⟨?_, b1⟩
  rw [HP.out]
  by_cases q : cf = a.length
  · subst q; simp
  · have q2 : ¬ (cf : Int) = (a.length : Int) := by omega
    simp [q, q2]
end Go.Proofs.Ytfcpclpaalekiaa
