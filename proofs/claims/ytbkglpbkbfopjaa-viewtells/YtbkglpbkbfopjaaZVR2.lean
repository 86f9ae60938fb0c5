/-
  carillonref12's Has and Common, the law's views, as they run.
-/
import Derived.Test.YtbkglpbkbfopjaaZVR0
import Derived.Laws.StructEq
import Derived.LoopTactic
namespace Go.Proofs.Ytbkglpbkbfopjaa
open Go.RowKit
set_option linter.unusedSimpArgs false
set_option linter.unusedVariables false

set_option maxHeartbeats 8000000 in
set_option maxRecDepth 100000 in
theorem rhas (x : VW) (m : MB) (ao : Option Addr) (cp : Nat) (w : World) (hM : MemsAt w ao x.mem) (hl : x.mem.length ≤ 4611686018427387904) : Calls Try.prog 16 #[x.v ao cp, m.v] w fun e w' => e = .returned (.bool (decide (m ∈ x.mem))) ∧ Below w.heap.size w w' := by
  have HM := hide hM
  obtain ⟨num, L⟩ := x
  obtain ⟨mn, ml⟩ := m
  simp only [VW.v, MB.v] at *
  obtain ⟨n, hn⟩ : ∃ n, L.length = n := ⟨_, rfl⟩
  have HN := hide hn
  rw [hn] at hl ⊢
  clear hM hn
  have X0 := heap_alloc_new w (.cells #[.int .i64 num, .slice ao n cp] tView)
  have X1 := heap_alloc_new (w.alloc (.cells #[.int .i64 num, .slice ao n cp] tView)) (.cells #[.int .i64 mn, .int .i64 ml] tMember)
  have HD := hide (box_alloc X0 (.cells #[.int .i64 mn, .int .i64 ml] tMember))
  rw [show (w.alloc (.cells #[.int .i64 num, .slice ao n cp] tView)).heap.size = w.heap.size + 1 by simp] at X1
  have HE := hide X1
  have HB := hide (((Below.refl w.heap.size w).alloc (Nat.le_refl _) (.cells #[.int .i64 num, .slice ao n cp] tView)).alloc (by simp) (.cells #[.int .i64 mn, .int .i64 ml] tMember))
  clear X0 X1
  go_enter Try.func16, Try.ntmps16
  go_wp2
  generalize (w.alloc (.cells #[.int .i64 num, .slice ao n cp] tView)).alloc (.cells #[.int .i64 mn, .int .i64 ml] tMember) = w2 at *
  go_loopw [5] (fun iv wv => ∃ i : Nat, iv = .int .i64 i ∧ i ≤ n ∧ Hid (Below w2.heap.size w2 wv) ∧ Hid (∀ j (hj : j < L.length), j < i → L[j] ≠ ⟨mn, ml⟩)) (fun iv _ => n - (intOf iv).toNat)
  case atStart => exact ⟨0, rfl, Nat.zero_le _, Below.refl _ _, fun j _ hj => absurd hj (Nat.not_lt_zero _)⟩
  case round =>
    obtain ⟨i, rfl, hi, R, NO⟩ := hrel
    have D2 := (R.out.block _ (heap_lt HD.out)).trans HD.out
    have E2 := (R.out.block _ (heap_lt HE.out)).trans HE.out
    have c1 := box_cell D2 1 rfl
    have m0 := box_cell E2 0 rfl
    have m1 := box_cell E2 1 rfl
    have B2 := hide (HB.out.trans (R.out.mono HB.out.size))
    clear D2 E2
    by_cases hlt : i < n
    · have hiL : i < L.length := by rw [HN.out]; exact hlt
      obtain ⟨b, off, rfl, _, y0, y1⟩ := HM.out.below B2.out i hiL
      have hi0 : (0 : Int) ≤ (i : Int) := by omega
      have hi1 : (i : Int) < (n : Int) := by omega
      obtain ⟨k, hk⟩ : ∃ k, L[i] = k := ⟨_, rfl⟩
      have HK := hide hk
      rw [hk] at y0 y1
      clear hk
      obtain ⟨kn, kl⟩ := k
      simp only at y0 y1
      by_cases e1 : kn = mn
      · by_cases e2 : kl = ml
        · have g1 : (kn == mn) = true := by rw [e1]; simp
          have g2 : (kl == ml) = true := by rw [e2]; simp
          have HY : Hid ((⟨mn, ml⟩ : MB) ∈ L) := by show _ ∈ L; rw [← e1, ← e2, ← HK.out]; exact List.getElem_mem hiL
          clear e1 e2
          go_wp2_with fail
          go_quiet (fail)
          go_wp2
          go_ret
          exact ⟨by rw [decide_eq_true HY.out]; rfl, below_drewN B2.out _⟩
        · have g1 : (kn == mn) = true := by rw [e1]; simp
          have g2 : (kl == ml) = false := by rw [beq_eq_false_iff_ne]; exact e2
          have NX : Hid (∀ j (hj : j < L.length), j < i + 1 → L[j] ≠ ⟨mn, ml⟩) := fun j hj hji e => by
            by_cases c : j = i
            · subst c; rw [HK.out] at e; injection e with _ e; exact e2 e
            · exact NO.out j hj (by omega) e
          clear e1 e2
          go_wp2_with fail
          go_quiet (fail)
          go_wp2
          go_roundw
          case rel => exact ⟨i + 1, by go_num, by omega, below_drewN R.out _, NX⟩
          case measure => simp [intOf]; omega
      · have g1 : (kn == mn) = false := by rw [beq_eq_false_iff_ne]; exact e1
        have NX : Hid (∀ j (hj : j < L.length), j < i + 1 → L[j] ≠ ⟨mn, ml⟩) := fun j hj hji e => by
          by_cases c : j = i
          · subst c; rw [HK.out] at e; injection e with e _; exact e1 e
          · exact NO.out j hj (by omega) e
        clear e1
        go_wp2_with fail
        go_quiet (fail)
        go_wp2
        go_roundw
        case rel => exact ⟨i + 1, by go_num, by omega, below_drewN R.out _, NX⟩
        case measure => simp [intOf]; omega
    · have hi1 : ¬ (i : Int) < (n : Int) := by omega
      have HNO : Hid (¬ (⟨mn, ml⟩ : MB) ∈ L) := fun e => by
        obtain ⟨j, hj, e2⟩ := List.getElem_of_mem e
        exact NO.out j hj (by have := HN.out; omega) e2
      go_wp2
      go_ret
      exact ⟨by rw [decide_eq_false HNO.out]; rfl, B2.out⟩
theorem comm_take (L M : List MB) (i : Nat) (hi : i < L.length) : comm (L.take (i + 1)) M = comm (L.take i) M + if L[i] ∈ M then 1 else 0 := by
  unfold comm
  rw [List.take_add_one, List.filter_append, List.length_append, List.getElem?_eq_getElem hi]
  simp only [Option.toList_some, List.filter_cons, List.filter_nil]
  by_cases h : L[i] ∈ M <;> simp [h]
theorem comm_le (L M : List MB) : comm L M ≤ L.length := List.length_filter_le _ _
set_option maxHeartbeats 8000000 in
set_option maxRecDepth 100000 in
theorem rcommon (x y : VW) (ao bo : Option Addr) (cp cq : Nat) (w : World) (hM : MemsAt w ao x.mem) (hN : MemsAt w bo y.mem) (hl : x.mem.length ≤ 4611686018427387904) (hl2 : y.mem.length ≤ 4611686018427387904) : Calls Try.prog 18 #[x.v ao cp, y.v bo cq] w fun e w' => e = .returned (.int .i64 (comm x.mem y.mem : Nat)) ∧ Below w.heap.size w w' := by
  have HM := hide hM
  have HN := hide hN
  obtain ⟨num, L⟩ := x
  have HH := hide (fun (m : MB) (W : World) (h : MemsAt W bo y.mem) => rhas y m bo cq W h hl2)
  simp only [VW.v, MB.v] at *
  obtain ⟨M, hy⟩ : ∃ M, y.mem = M := ⟨_, rfl⟩
  rw [hy] at HH HN ⊢
  generalize y.num = num2 at *
  obtain ⟨n, hn⟩ : ∃ n, L.length = n := ⟨_, rfl⟩
  have HL := hide hn
  rw [hn] at hl ⊢
  obtain ⟨k, hk⟩ : ∃ k, M.length = k := ⟨_, rfl⟩
  rw [hk] at HH ⊢
  clear hM hn hN hl2 hy hk
  have X0 := heap_alloc_new w (.cells #[.int .i64 num, .slice ao n cp] tView)
  have X1 := heap_alloc_new (w.alloc (.cells #[.int .i64 num, .slice ao n cp] tView)) (.cells #[.int .i64 num2, .slice bo k cq] tView)
  have HD := hide (box_alloc X0 (.cells #[.int .i64 num2, .slice bo k cq] tView))
  rw [show (w.alloc (.cells #[.int .i64 num, .slice ao n cp] tView)).heap.size = w.heap.size + 1 by simp] at X1
  have HE := hide X1
  have HB := hide (((Below.refl w.heap.size w).alloc (Nat.le_refl _) (.cells #[.int .i64 num, .slice ao n cp] tView)).alloc (by simp) (.cells #[.int .i64 num2, .slice bo k cq] tView))
  clear X0 X1
  have KK := hide (enters_of Try.func16 (by kernel_rfl) rfl)
  go_enter Try.func18, Try.ntmps18
  go_wp2
  generalize (w.alloc (.cells #[.int .i64 num, .slice ao n cp] tView)).alloc (.cells #[.int .i64 num2, .slice bo k cq] tView) = w2 at *
  go_loopw [5, 6] (fun cv iv wv => ∃ i q : Nat, iv = .int .i64 i ∧ cv = .int .i64 q ∧ i ≤ n ∧ q ≤ i ∧ Hid (q = comm (L.take i) M) ∧ Hid (Below w2.heap.size w2 wv)) (fun _ iv _ => n - (intOf iv).toNat)
  case atStart => exact ⟨0, 0, rfl, rfl, Nat.zero_le _, Nat.zero_le _, rfl, Below.refl _ _⟩
  case round =>
    obtain ⟨i, q, rfl, rfl, hi, hq, CQ, R⟩ := hrel
    have D2 := hide ((R.out.block _ (heap_lt HD.out)).trans HD.out)
    have E2 := hide ((R.out.block _ (heap_lt HE.out)).trans HE.out)
    have c1 := box_cell D2.out 1 rfl
    have d0 := box_cell E2.out 0 rfl
    have d1 := box_cell E2.out 1 rfl
    have B2 := hide (HB.out.trans (R.out.mono HB.out.size))
    by_cases hlt : i < n
    · have hiL : i < L.length := by rw [HL.out]; exact hlt
      obtain ⟨b, off, rfl, hbl, y0, y1⟩ := HM.out.below B2.out i hiL
      have hi0 : (0 : Int) ≤ (i : Int) := by omega
      have hi1 : (i : Int) < (n : Int) := by omega
      obtain ⟨z, hz⟩ : ∃ z, L[i] = z := ⟨_, rfl⟩
      have CN := hide (comm_take L M i hiL)
      rw [hz] at y0 y1 CN
      have HZ := hide (HH.out z wr.drew (HN.out.below B2.out.drew))
      clear hz
      obtain ⟨zn, zl⟩ := z
      simp only at y0 y1 HZ
      have CS : Hid (∀ W : World, Below wr.heap.size wr W → (W.cell? ⟨w.heap.size + 1, 0, none⟩ = some (.int .i64 num2) ∧ W.cell? ⟨w.heap.size + 1, 1, none⟩ = some (.slice bo k cq) ∧ W.cell? ⟨w.heap.size, 1, none⟩ = some (.slice (some ⟨b, off, none⟩) n cp) ∧ W.cell? ⟨b, off + i * 2, none⟩ = some (.int .i64 zn) ∧ W.cell? ⟨b, off + i * 2 + 1, none⟩ = some (.int .i64 zl))) := fun W h => ⟨(h.cell (p := ⟨w.heap.size + 1, 0, none⟩) (heap_lt E2.out)).trans d0, (h.cell (p := ⟨w.heap.size + 1, 1, none⟩) (heap_lt E2.out)).trans d1, (h.cell (p := ⟨w.heap.size, 1, none⟩) (heap_lt D2.out)).trans c1, (h.cell (p := ⟨b, _, none⟩) hbl).trans y0, (h.cell (p := ⟨b, _, none⟩) hbl).trans y1⟩
      obtain ⟨r, hr⟩ : ∃ r, decide ((⟨zn, zl⟩ : MB) ∈ M) = r := ⟨_, rfl⟩
      rw [hr] at HZ
      have CN2 : Hid (comm (L.take (i + 1)) M = comm (L.take i) M + if r = true then 1 else 0) := by
        show _ = _
        rw [CN.out, ← hr]
        by_cases c : (⟨zn, zl⟩ : MB) ∈ M <;> simp [c]
      clear CN hr
      go_wp2_with fail
      go_region_held_law (fun W => W.cell? ⟨w.heap.size + 1, 0, none⟩ = some (.int .i64 num2) ∧ W.cell? ⟨w.heap.size + 1, 1, none⟩ = some (.slice bo k cq) ∧ W.cell? ⟨w.heap.size, 1, none⟩ = some (.slice (some ⟨b, off, none⟩) n cp) ∧ W.cell? ⟨b, off + i * 2, none⟩ = some (.int .i64 zn) ∧ W.cell? ⟨b, off + i * 2 + 1, none⟩ = some (.int .i64 zl)) (first | go_keep | exact CS.out _ B3.out | exact CS.out _ ((Below.refl _ _).drew)) ((refine step_fn rfl 16 _ _ rfl KK.out [.agg #[.int .i64 num2, .slice bo k cq], .agg #[.int .i64 zn, .int .i64 zl]] rfl HZ.out ?_; rintro e w3 ⟨rfl, b3⟩; refine ⟨_, rfl, ?_⟩; have B3 : Hid (Below wr.heap.size wr w3) := (Below.refl wr.heap.size wr).drew.trans b3; clear b3))
      all_goals (
        cases r
        · go_wp2
          go_roundw
          case rel => exact ⟨i + 1, q, by go_num, rfl, by omega, by omega, by show q = _; rw [CN2.out, CQ.out]; rfl, R.out.trans (B3.out.mono R.out.size)⟩
          case measure => simp [intOf]; omega
        · go_wp2
          go_roundw
          case rel => exact ⟨i + 1, q + 1, by go_num, by go_num, by omega, by omega, by show q + 1 = _; rw [CN2.out, CQ.out]; rfl, R.out.trans (B3.out.mono R.out.size)⟩
          case measure => simp [intOf]; omega)
    · have hi1 : ¬ (i : Int) < (n : Int) := by omega
      have HI : Hid (q = comm L M) := by
        show q = _
        rw [CQ.out, List.take_of_length_le (by rw [HL.out]; omega)]
      go_wp2
      go_ret
      exact ⟨by rw [HI.out]; rfl, B2.out⟩
end Go.Proofs.Ytbkglpbkbfopjaa
