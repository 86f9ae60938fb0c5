/-
  A scope in which the run jumps to one of two labels, the second one entered from above: what holds at each jump, and a measure that every pass lowers.
-/
import Derived.Test.YtmkkcgkakomacaaGreatZKW2
import Derived.Scope
import Derived.WalkMore
namespace Go.Proofs.YtmkkcgkakomacaaGreat.K
open Go.RowKit
set_option maxHeartbeats 400000
theorem bcell {W w1 : World} {B : Nat} (hb : Below B W w1) : (∀ b o, b < B → w1.cell? ⟨b, o, none⟩ = W.cell? ⟨b, o, none⟩) ∧ (∀ b o, b < B → w1.frozen? ⟨b, o, none⟩ = W.frozen? ⟨b, o, none⟩) :=
  ⟨fun b o h => hb.cell (p := ⟨b, o, none⟩) h, fun b o h => hb.frozen (p := ⟨b, o, none⟩) h⟩
theorem clone_any (s : ByteArray) (w : World) (hs : s.size ≤ 281474976710656) :
    Calls Tryz.prog 27 #[.string s] w fun e w' => e = .returned (.string s) ∧ Below w.heap.size w w' := by
  go_enter Tryz.func27, Tryz.ntmps27
  go_wp2_with (go_at_call 55; refine (Tryz.liteClone _ _ hs).mono ?_; rintro e w' ⟨rfl, hb⟩)
  go_ret
  exact ⟨rfl, hb⟩
theorem readText_long (n : Int) (s : ByteArray) (w : World) (h : 100000 < n) :
    Calls Tryz.prog 141 #[.int .u64 n, .string s] w fun e w' => e = .returned (.tuple #[.agg #[.int .i64 0, .int .u64 0, .string ⟨#[]⟩], .string ⟨#[]⟩, .int .i64 3]) ∧ Below w.heap.size w w' := by
  go_enter Tryz.func141, Tryz.ntmps141
  go_wp2
  refine bodyPost_ret (v := .tuple #[.agg #[.int .i64 0, .int .u64 0, .string ⟨#[]⟩], .string ⟨#[]⟩, .int .i64 3]) (by simp [results, Tryz.results141, go_sem]) rfl ⟨rfl, ?_⟩
  exact (Below.refl _ _).alloc (Nat.le_refl _) _
theorem readText_short (n : Nat) (s : ByteArray) (w : World) (h : n ≤ 100000) (h2 : s.size < n) :
    Calls Tryz.prog 141 #[.int .u64 n, .string s] w fun e w' => e = .returned (.tuple #[.agg #[.int .i64 0, .int .u64 0, .string ⟨#[]⟩], .string ⟨#[]⟩, .int .i64 2]) ∧ Below w.heap.size w w' := by
  go_enter Tryz.func141, Tryz.ntmps141
  go_wp2
  refine bodyPost_ret (v := .tuple #[.agg #[.int .i64 0, .int .u64 0, .string ⟨#[]⟩], .string ⟨#[]⟩, .int .i64 2]) (by simp [results, Tryz.results141, go_sem]) rfl ⟨rfl, ?_⟩
  exact (Below.refl _ _).alloc (Nat.le_refl _) _
theorem readText_ok (n : Nat) (s : ByteArray) (w : World) (_hs : s.size ≤ maxLen) (h : n ≤ 100000) (h2 : n ≤ s.size) :
    Calls Tryz.prog 141 #[.int .u64 n, .string s] w fun e w' => e = .returned (.tuple #[.agg #[.int .i64 4, .int .u64 0, .string (s.extract 0 n)], .string (s.extract n s.size), .int .i64 0]) ∧ Below w.heap.size w w' := by
  unfold maxLen at _hs
  go_enter Tryz.func141, Tryz.ntmps141
  go_wp2
  go_region_with (go_at_call 27; refine (clone_any _ _ (by simp; omega)).mono ?_; rintro e w' ⟨rfl, hb⟩; obtain ⟨hc, hf⟩ := bcell hb; have hz := hb.size; simp only [World.size_drew, World.size_alloc] at hz hc hf; have c0 := hc w.heap.size 0 (by omega); have c1 := hc w.heap.size 1 (by omega); have c2 := hc w.heap.size 2 (by omega); have f0 := hf w.heap.size 0 (by omega); have f1 := hf w.heap.size 1 (by omega); have f2 := hf w.heap.size 2 (by omega); clear hc hf)
  simp at c0 c1 c2
  go_wp2
  refine bodyPost_ret (v := .tuple #[.agg #[.int .i64 4, .int .u64 0, .string (s.extract 0 n)], .string (s.extract n s.size), .int .i64 0]) (by simp [results, Tryz.results141, go_sem, c0, c1, c2]) rfl ⟨rfl, ?_⟩
  have hb1 : Below w.heap.size w w' := ((Below.refl _ _).alloc (Nat.le_refl _) _).drew.trans (hb.mono (by simp))
  exact ((hb1.setCell (p := ⟨w.heap.size, 0, none⟩) (Nat.le_refl _) _).setCell (p := ⟨w.heap.size, 1, none⟩) (Nat.le_refl _) _).setCell (p := ⟨w.heap.size, 2, none⟩) (Nat.le_refl _) _
def It.v (x : It) : Value := .agg #[.int .i64 x.k, .int .u64 x.n, .string x.s]
def textG (n : Nat) (s : ByteArray) : It × ByteArray × Int :=
  if 100000 < n then (It.zero, ⟨#[]⟩, 3) else if s.size < n then (It.zero, ⟨#[]⟩, 2) else (⟨4, 0, s.extract 0 n⟩, s.extract n s.size, 0)
theorem readText_any (n : Nat) (s : ByteArray) (w : World) (hs : s.size ≤ maxLen) :
    Calls Tryz.prog 141 #[.int .u64 n, .string s] w fun e w' => e = .returned (.tuple #[(textG n s).1.v, .string (textG n s).2.1, .int .i64 (textG n s).2.2]) ∧ Below w.heap.size w w' := by
  unfold textG
  by_cases h : 100000 < n
  · rw [if_pos h]; exact readText_long n s w (by omega)
  · rw [if_neg h]
    by_cases h2 : s.size < n
    · rw [if_pos h2]; exact readText_short n s w (by omega) h2
    · rw [if_neg h2]; exact readText_ok n s w hs (by omega) (by omega)
def itemG (k : Int) (z : Nat) (s : ByteArray) : It × ByteArray × Int :=
  if s.size < z then (It.zero, ⟨#[]⟩, 2)
  else if k = 4 then textG (Lib.beNat (s.extract 0 z).data.toList) (s.extract z s.size)
  else (⟨k, Lib.beNat (s.extract 0 z).data.toList, ⟨#[]⟩⟩, s.extract z s.size, 0)
end Go.Proofs.YtmkkcgkakomacaaGreat.K
namespace Go.Proofs.YtmkkcgkakomacaaGreat.K
open Go.RowKit
set_option maxHeartbeats 400000
theorem readItem_short (c : UInt8) (k : Int) (z : Nat) (s : ByteArray) (w : World)
    (HK : Hid (∀ w, Calls Tryz.prog 138 #[.string { data := #[98, 119, 108, 116] }, .int .u8 (c.toNat : Int)] w fun e w' => e = .returned (.int .i64 (k - 1)) ∧ w' = w))
    (HW : Hid (∀ w, Calls Tryz.prog 70 #[.int .i64 k] w fun e w' => e = .returned (.int .i64 z) ∧ w' = w))
    (k0 : 0 ≤ k) (k4 : k ≤ 4) (h : s.size < z) (_hz : z ≤ 8) :
    Calls Tryz.prog 128 #[.int .u8 (c.toNat : Int), .string s] w fun e w' => e = .returned (.tuple #[It.zero.v, .string ⟨#[]⟩, .int .i64 2]) ∧ Below w.heap.size w w' := by
  go_enter Tryz.func128, Tryz.ntmps128
  go_wp2_with fail
  refine (HK.out _).mono ?_
  rintro e w' ⟨rfl, rfl⟩
  go_wp2_with fail
  refine (HW.out _).mono ?_
  rintro e w' ⟨rfl, rfl⟩
  go_wp2
  refine bodyPost_ret (v := .tuple #[.agg #[.int .i64 0, .int .u64 0, .string ⟨#[]⟩], .string ⟨#[]⟩, .int .i64 2]) (by simp [results, Tryz.results128, go_sem]) rfl ⟨rfl, ?_⟩
  exact (Below.refl _ _).alloc (Nat.le_refl _) _
theorem below3 {w w1 : World} {B : Nat} (hb : Below B w w1) (b : Nat) (h : B ≤ b) (v0 v1 v2 : Value) :
    Below B w (((w1.setCell ⟨b, 0, none⟩ v0).setCell ⟨b, 1, none⟩ v1).setCell ⟨b, 2, none⟩ v2) :=
  ((hb.setCell (p := ⟨b, 0, none⟩) h _).setCell (p := ⟨b, 1, none⟩) h _).setCell (p := ⟨b, 2, none⟩) h _
theorem num_ok (s : ByteArray) (z : Nat) (hz : z ≤ 8) : (s.extract 0 z).size ≤ 8 := by simp; omega
theorem readItem_num (c : UInt8) (k : Int) (z : Nat) (s : ByteArray) (w : World) (_hs : s.size ≤ maxLen)
    (HK : Hid (∀ w, Calls Tryz.prog 138 #[.string { data := #[98, 119, 108, 116] }, .int .u8 (c.toNat : Int)] w fun e w' => e = .returned (.int .i64 (k - 1)) ∧ w' = w))
    (HW : Hid (∀ w, Calls Tryz.prog 70 #[.int .i64 k] w fun e w' => e = .returned (.int .i64 z) ∧ w' = w))
    (k0 : 0 ≤ k) (k4 : k < 4) (h : z ≤ s.size) (hz : z ≤ 8) :
    Calls Tryz.prog 128 #[.int .u8 (c.toNat : Int), .string s] w fun e w' => e = .returned (.tuple #[It.v ⟨k, Lib.beNat (s.extract 0 z).data.toList, ⟨#[]⟩⟩, .string (s.extract z s.size), .int .i64 0]) ∧ Below w.heap.size w w' := by
  unfold maxLen at _hs
  have kne : (k == 4) = false := beq_eq_false_iff_ne.2 (by omega)
  have HN : Hid (∀ w, Calls Tryz.prog 140 #[.string (s.extract 0 z)] w fun e w' => e = .returned (.int .u64 (Lib.beNat (s.extract 0 z).data.toList)) ∧ w' = w) := fun w => number_any _ w (num_ok s z hz)
  generalize Lib.beNat (s.extract 0 z).data.toList = m at HN ⊢
  go_enter Tryz.func128, Tryz.ntmps128
  go_wp2_with fail
  refine (HK.out _).mono ?_
  rintro e w' ⟨rfl, rfl⟩
  go_wp2_with fail
  refine (HW.out _).mono ?_
  rintro e w' ⟨rfl, rfl⟩
  go_wp2
  go_quiet ((go_at_call 140; exact Calls.quiet_of_same (HN.out _)))
  go_wp2
  refine bodyPost_ret (v := .tuple #[It.v ⟨k, m, ⟨#[]⟩⟩, .string (s.extract z s.size), .int .i64 0]) (by simp [results, Tryz.results128, go_sem, It.v]) rfl ⟨rfl, ?_⟩
  exact below3 (below_drewN ((Below.refl _ _).alloc (Nat.le_refl _) _) nq) _ (Nat.le_refl _) _ _ _
theorem readItem_text (c : UInt8) (z : Nat) (s : ByteArray) (w : World) (hs : s.size ≤ maxLen)
    (HK : Hid (∀ w, Calls Tryz.prog 138 #[.string { data := #[98, 119, 108, 116] }, .int .u8 (c.toNat : Int)] w fun e w' => e = .returned (.int .i64 3) ∧ w' = w))
    (HW : Hid (∀ w, Calls Tryz.prog 70 #[.int .i64 4] w fun e w' => e = .returned (.int .i64 z) ∧ w' = w))
    (h : z ≤ s.size) (hz : z ≤ 8) :
    Calls Tryz.prog 128 #[.int .u8 (c.toNat : Int), .string s] w fun e w' => e = .returned (.tuple #[(textG (Lib.beNat (s.extract 0 z).data.toList) (s.extract z s.size)).1.v, .string (textG (Lib.beNat (s.extract 0 z).data.toList) (s.extract z s.size)).2.1, .int .i64 (textG (Lib.beNat (s.extract 0 z).data.toList) (s.extract z s.size)).2.2]) ∧ Below w.heap.size w w' := by
  have HT : Hid (∀ (n : Nat) (w : World), Calls Tryz.prog 141 #[.int .u64 n, .string (s.extract z s.size)] w fun e w' => e = .returned (.tuple #[(textG n (s.extract z s.size)).1.v, .string (textG n (s.extract z s.size)).2.1, .int .i64 (textG n (s.extract z s.size)).2.2]) ∧ Below w.heap.size w w') := fun n w => readText_any n _ w (by simp; omega)
  unfold maxLen at hs
  have HN : Hid (∀ w, Calls Tryz.prog 140 #[.string (s.extract 0 z)] w fun e w' => e = .returned (.int .u64 (Lib.beNat (s.extract 0 z).data.toList)) ∧ w' = w) := fun w => number_any _ w (num_ok s z hz)
  generalize Lib.beNat (s.extract 0 z).data.toList = m at HN ⊢
  have HT1 := HT.out m
  clear HT
  generalize textG m (s.extract z s.size) = r at HT1 ⊢
  obtain ⟨⟨rk, rn, rs⟩, rr, re⟩ := r
  have HT : Hid (∀ (w : World), Calls Tryz.prog 141 #[.int .u64 m, .string (s.extract z s.size)] w fun e w' => e = .returned (.tuple #[.agg #[.int .i64 rk, .int .u64 rn, .string rs], .string rr, .int .i64 re]) ∧ Below w.heap.size w w') := HT1
  clear HT1
  go_enter Tryz.func128, Tryz.ntmps128
  go_wp2_with fail
  refine (HK.out _).mono ?_
  rintro e w' ⟨rfl, rfl⟩
  go_wp2_with fail
  refine (HW.out _).mono ?_
  rintro e w' ⟨rfl, rfl⟩
  go_wp2
  go_quiet ((go_at_call 140; exact Calls.quiet_of_same (HN.out _)))
  go_wp2_with fail
  refine (HT.out _).mono ?_
  rintro e w' ⟨rfl, hb⟩
  have hz1 := hb.size
  obtain ⟨hc, hf⟩ := bcell hb
  simp at hz1 hc hf
  have c0 := hc w.heap.size 0 (by omega)
  have c1 := hc w.heap.size 1 (by omega)
  have c2 := hc w.heap.size 2 (by omega)
  have f0 := hf w.heap.size 0 (by omega)
  have f1 := hf w.heap.size 1 (by omega)
  have f2 := hf w.heap.size 2 (by omega)
  clear hc hf
  simp at c0 c1 c2 f0 f1 f2
  go_wp2
  refine bodyPost_ret (v := .tuple #[.agg #[.int .i64 rk, .int .u64 rn, .string rs], .string rr, .int .i64 re]) (by simp [results, Tryz.results128, go_sem, c0, c1, c2]) rfl ⟨rfl, ?_⟩
  have hb1 : Below w.heap.size w w' := (below_drewN ((Below.refl _ _).alloc (Nat.le_refl _) _) nq).trans (hb.mono (by simp))
  exact below3 hb1 _ (Nat.le_refl _) _ _ _
theorem widthN_le (k : Int) : widthN k ≤ 8 := by
  unfold widthN
  split
  · omega
  · split <;> omega
theorem readItem_any (c : UInt8) (s : ByteArray) (w : World) (hs : s.size ≤ maxLen) :
    Calls Tryz.prog 128 #[.int .u8 (c.toNat : Int), .string s] w fun e w' => e = .returned (.tuple #[(itemG (kindOfL c) (widthN (kindOfL c)) s).1.v, .string (itemG (kindOfL c) (widthN (kindOfL c)) s).2.1, .int .i64 (itemG (kindOfL c) (widthN (kindOfL c)) s).2.2]) ∧ Below w.heap.size w w' := by
  have k0 := kindOfL_ge c
  have k4 := kindOfL_le c
  have HK := fun w => letterIdx c w
  have HW := fun w => width_any (kindOfL c) w
  have hz := widthN_le (kindOfL c)
  generalize widthN (kindOfL c) = z at *
  generalize kindOfL c = k at *
  unfold itemG
  by_cases h : s.size < z
  · rw [if_pos h]; exact readItem_short c k z s w HK HW k0 k4 h hz
  · rw [if_neg h]
    by_cases h4 : k = 4
    · subst h4
      rw [if_pos rfl]; exact readItem_text c z s w hs HK HW (by omega) hz
    · rw [if_neg h4]; exact readItem_num c k z s w hs HK HW k0 (by omega) (by omega) hz
theorem itemG_eq (c : UInt8) (s : ByteArray) :
    (itemG (kindOfL c) (widthN (kindOfL c)) s).1 = (itemF c s.data.toList).1 ∧ (itemG (kindOfL c) (widthN (kindOfL c)) s).2.1.data.toList = (itemF c s.data.toList).2.1 ∧ (itemG (kindOfL c) (widthN (kindOfL c)) s).2.2 = (itemF c s.data.toList).2.2 := by
  unfold itemG itemF textG
  have e0 : s.data.toList.length = s.size := by simp
  have e1 : ∀ z, (s.extract 0 z).data.toList = s.data.toList.take z := fun z => by rw [Lib.extract_data]; simp
  have e2 : ∀ z, (s.extract z s.size).data.toList = s.data.toList.drop z := fun z => Lib.extract_to_end s z
  have e3 : ∀ z, (s.extract z s.size).size = (s.data.toList.drop z).length := fun z => by rw [← e2]; simp
  rw [e0]
  by_cases h : s.size < widthN (kindOfL c)
  · simp [h]
  · rw [if_neg h, if_neg h]
    by_cases h4 : kindOfL c = 4
    · rw [if_pos h4, if_pos h4, h4]
      have w4 : widthN 4 = 4 := rfl
      rw [w4, e1, e3]
      by_cases h5 : 100000 < Lib.beNat (s.data.toList.take 4)
      · simp [h5]
      · rw [if_neg h5, if_neg h5]
        by_cases h6 : (s.data.toList.drop 4).length < Lib.beNat (s.data.toList.take 4)
        · rw [if_pos h6, if_pos h6]; simp
        · rw [if_neg h6, if_neg h6]
          refine ⟨?_, ?_, rfl⟩
          · simp only [It.mk.injEq, true_and]
            rw [Lib.extract_eq, e2]; simp
          · show ((s.extract 4 s.size).extract _ _).data.toList = _
            rw [← e3, Lib.extract_to_end, e2]
    · rw [if_neg h4, if_neg h4, e1]
      exact ⟨rfl, e2 _, rfl⟩
end Go.Proofs.YtmkkcgkakomacaaGreat.K
namespace Go.Proofs.YtmkkcgkakomacaaGreat.K
def jump2 (J0 J1 : Act → World → Prop) (Q : Exit → Act → World → Prop) : Exit → Act → World → Prop
  | .goto l, a, w => (l = 0 ∧ J0 a w) ∨ (l = 1 ∧ J1 a w)
  | e, a, w => Q e a w
section
variable {P : Program} {a : Act} {w : World} {Q : Exit → Act → World → Prop}
theorem wp_scope_two {c r0 r1 : Code} (J0 J1 : Act → World → Prop) (m0 m1 : Act → World → Nat) (h0 : findLabel c 0 = some (.seq .skip r0)) (h1 : findLabel c 1 = some (.seq .skip r1))
    (pass0 : ∀ a w, J0 a w → r0.wp P (jump2 (fun a' w' => J0 a' w' ∧ m0 a' w' < m0 a w) (fun a' w' => J1 a' w' ∧ m1 a' w' < m0 a w) Q) a w)
    (pass1 : ∀ a w, J1 a w → r1.wp P (jump2 (fun a' w' => J0 a' w' ∧ m0 a' w' < m1 a w) (fun a' w' => J1 a' w' ∧ m1 a' w' < m1 a w) Q) a w)
    (first : (∀ a w, J1 a w → r1.wp P (jump2 J0 J1 Q) a w) → c.wp P (jump2 J0 J1 Q) a w) : (Code.scope c).wp P Q a w := by
  have skip : ∀ (r : Code) (R : Exit → Act → World → Prop) a w, r.wp P R a w → (Code.seq .skip r).wp P R a w := fun r R a w h => wp_seq (wp_skip h)
  have first' := first fun a w h => wp_mono (pass1 a w h) fun e a w q => by
    cases e with
    | goto l => exact q.elim (fun x => Or.inl ⟨x.1, x.2.1⟩) (fun x => Or.inr ⟨x.1, x.2.1⟩)
    | _ => exact q
  intro b k cs
  have hg0 : gotoIn 0 (.inScope c :: k) = some (.code (.seq .skip r0) :: .inScope c :: k) := by simp [gotoIn, h0]
  have hg1 : gotoIn 1 (.inScope c :: k) = some (.code (.seq .skip r1) :: .inScope c :: k) := by simp [gotoIn, h1]
  have key : ∀ n a w, (m0 a w = n → J0 a w → ∃ e a' w', Q e a' w' ∧ Arrives P (lone (b.at a (.code (.seq .skip r0) :: .inScope c :: k)) cs w) b k cs e a' w') ∧
      (m1 a w = n → J1 a w → ∃ e a' w', Q e a' w' ∧ Arrives P (lone (b.at a (.code (.seq .skip r1) :: .inScope c :: k)) cs w) b k cs e a' w') := by
    intro n
    induction n using Nat.strongRecOn with
    | _ n ih =>
      intro a w
      constructor
      · intro hn hJ
        obtain ⟨e, a₁, w₁, hq, harr⟩ := skip _ _ _ _ (pass0 a w hJ) b (.inScope c :: k) cs
        cases e with
        | normal => exact ⟨.normal, a₁, w₁, hq, Steps.trans harr (.one step_inScope)⟩
        | exit id => exact ⟨.exit id, a₁, w₁, hq, fun k' hk => harr k' (by simp [exitTo, hk])⟩
        | goto l' =>
          rcases hq with ⟨rfl, hJ', hlt⟩ | ⟨rfl, hJ', hlt⟩
          · obtain ⟨e₂, a₂, w₂, hq₂, harr₂⟩ := (ih _ (by omega) a₁ w₁).1 rfl hJ'
            exact ⟨e₂, a₂, w₂, hq₂, .of_steps (harr _ hg0) harr₂⟩
          · obtain ⟨e₂, a₂, w₂, hq₂, harr₂⟩ := (ih _ (by omega) a₁ w₁).2 rfl hJ'
            exact ⟨e₂, a₂, w₂, hq₂, .of_steps (harr _ hg1) harr₂⟩
        | ret => exact ⟨_, a₁, w₁, hq, harr⟩
        | panic ch => exact ⟨_, a₁, w₁, hq, harr⟩
        | outgrown => exact ⟨_, a₁, w₁, hq, harr⟩
      · intro hn hJ
        obtain ⟨e, a₁, w₁, hq, harr⟩ := skip _ _ _ _ (pass1 a w hJ) b (.inScope c :: k) cs
        cases e with
        | normal => exact ⟨.normal, a₁, w₁, hq, Steps.trans harr (.one step_inScope)⟩
        | exit id => exact ⟨.exit id, a₁, w₁, hq, fun k' hk => harr k' (by simp [exitTo, hk])⟩
        | goto l' =>
          rcases hq with ⟨rfl, hJ', hlt⟩ | ⟨rfl, hJ', hlt⟩
          · obtain ⟨e₂, a₂, w₂, hq₂, harr₂⟩ := (ih _ (by omega) a₁ w₁).1 rfl hJ'
            exact ⟨e₂, a₂, w₂, hq₂, .of_steps (harr _ hg0) harr₂⟩
          · obtain ⟨e₂, a₂, w₂, hq₂, harr₂⟩ := (ih _ (by omega) a₁ w₁).2 rfl hJ'
            exact ⟨e₂, a₂, w₂, hq₂, .of_steps (harr _ hg1) harr₂⟩
        | ret => exact ⟨_, a₁, w₁, hq, harr⟩
        | panic ch => exact ⟨_, a₁, w₁, hq, harr⟩
        | outgrown => exact ⟨_, a₁, w₁, hq, harr⟩
  obtain ⟨e, a₁, w₁, hq, harr⟩ := first' b (.inScope c :: k) cs
  cases e with
  | normal => exact ⟨.normal, a₁, w₁, hq, .head step_scope (Steps.trans harr (.one step_inScope))⟩
  | exit id => exact ⟨.exit id, a₁, w₁, hq, fun k' hk => .head step_scope (harr k' (by simp [exitTo, hk]))⟩
  | goto l' =>
    rcases hq with ⟨rfl, hJ'⟩ | ⟨rfl, hJ'⟩
    · obtain ⟨e₂, a₂, w₂, hq₂, harr₂⟩ := (key _ a₁ w₁).1 rfl hJ'
      exact ⟨e₂, a₂, w₂, hq₂, .of_steps (.head step_scope (harr _ hg0)) harr₂⟩
    · obtain ⟨e₂, a₂, w₂, hq₂, harr₂⟩ := (key _ a₁ w₁).2 rfl hJ'
      exact ⟨e₂, a₂, w₂, hq₂, .of_steps (.head step_scope (harr _ hg1)) harr₂⟩
  | ret => exact ⟨_, a₁, w₁, hq, .of_steps (.one step_scope) harr⟩
  | panic ch => exact ⟨_, a₁, w₁, hq, .of_steps (.one step_scope) harr⟩
  | outgrown => exact ⟨_, a₁, w₁, hq, .of_steps (.one step_scope) harr⟩
end
end Go.Proofs.YtmkkcgkakomacaaGreat.K
