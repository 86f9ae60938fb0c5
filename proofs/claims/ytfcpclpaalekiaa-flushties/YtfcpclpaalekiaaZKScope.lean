/-
  A scope in which the run jumps to one of two labels, the second one entered from above: what holds at each jump, and a measure that every pass lowers.
-/
import Derived.Test.YtfcpclpaalekiaaZVE1
import Derived.Test.YtfcpclpaalekiaaZPW4
import Derived.Test.YtfcpclpaalekiaaZPhi
import Derived.Test.YtfcpclpaalekiaaZVE2
import Derived.Test.YtfcpclpaalekiaaZKPure4
import Derived.Scope
import Derived.WalkMore
namespace Go.Proofs.Ytfcpclpaalekiaa
open Go.RowKit
attribute [local go_sem ↓] Go.wp_at_zero Go.wp_at_succ
set_option linter.unusedSimpArgs false
set_option linter.unusedVariables false
structure Vvd where
  v0 : Value
  v2 : Value
  v3 : Value
  v4 : Value
  v5 : Value
  v6 : Value
  v7 : Value
  v8 : Value
structure Fvd (a : Act) (v : Vvd) : Prop where
  size : a.tmps.size = 69
  defers : a.defers = []
  s0 : a.tmps.getD 0 undef = v.v0
  s2 : a.tmps.getD 2 undef = v.v2
  s3 : a.tmps.getD 3 undef = v.v3
  s4 : a.tmps.getD 4 undef = v.v4
  s5 : a.tmps.getD 5 undef = v.v5
  s6 : a.tmps.getD 6 undef = v.v6
  s7 : a.tmps.getD 7 undef = v.v7
  s8 : a.tmps.getD 8 undef = v.v8
end Go.Proofs.Ytfcpclpaalekiaa
namespace Go.Proofs.Ytfcpclpaalekiaa
open Go.RowKit
attribute [local go_sem ↓] Go.wp_at_zero Go.wp_at_succ
set_option linter.unusedSimpArgs false
set_option linter.unusedVariables false
end Go.Proofs.Ytfcpclpaalekiaa
namespace Go.Proofs.Ytfcpclpaalekiaa
open Go.RowKit
attribute [local go_sem ↓] Go.wp_at_zero Go.wp_at_succ
set_option linter.unusedSimpArgs false
set_option linter.unusedVariables false
end Go.Proofs.Ytfcpclpaalekiaa
namespace Go.Proofs.Ytfcpclpaalekiaa
open Go.RowKit
attribute [local go_sem ↓] Go.wp_at_zero Go.wp_at_succ
set_option linter.unusedSimpArgs false
set_option linter.unusedVariables false
abbrev EncodeSays : Prop := ∀ (x : VW) (ao : Option Addr) (cp : Nat) (w : World), MemsAt w ao x.mem → x.mem.length ≤ 4611686018427387903 → Calls Try.prog 27 #[x.v ao cp] w fun e w' => e = .returned (.tuple #[.string ⟨(if x.right then codeV x else []).toArray⟩, .int .i64 (if x.right then 0 else 1)]) ∧ Below w.heap.size w w'
abbrev DecodeSays : Prop := ∀ (t : ByteArray) (w : World), t.size ≤ 9223372036854775807 → Calls Try.prog 34 #[.string t] w fun e w' => NextGave w w' e (decV t.data.toList)
theorem itemB_len (x : IT) (h : K.faultF x = 0) : (K.itemB x).length ≤ 100008 := by
  have hw : K.widthN x.k ≤ 8 := by unfold K.widthN; split <;> (try split) <;> omega
  have hs : x.s.size ≤ 100000 := by rcases K.fault_shape x h with ⟨_, e, _⟩ | ⟨_, _, e⟩ <;> omega
  unfold K.itemB
  rw [List.length_append, Lib.beBytes_length, show x.s.data.toList.length = x.s.size by simp]
  omega
theorem itemsB_len (l : List IT) (h : ∀ x ∈ l, K.faultF x = 0) : (l.flatMap K.itemB).length ≤ 100008 * l.length := by
  induction l with
  | nil => simp
  | cons a l ih =>
    have h1 := itemB_len a (h a (by simp))
    have h2 := ih fun x hx => h x (by simp [hx])
    rw [List.flatMap_cons, List.length_append, List.length_cons]
    omega
theorem codeV_len {v : VW} (h : v.right) : (codeV v).length ≤ 2000000 := by
  have h1 := itemsB_len (itemsV v) fun x hx => (itemsV_fault h x hx).1
  have h2 := itemsV_len v
  have h3 := h.2.2.2.1
  unfold codeV
  omega
structure Vlb where
  v1 : Value
  v2 : Value
  v4 : Value
  v5 : Value
  v6 : Value
  v7 : Value
  v8 : Value
  v9 : Value
  v10 : Value
  v11 : Value
  v12 : Value
  v13 : Value
  v14 : Value
structure Flb (a : Act) (v : Vlb) : Prop where
  size : a.tmps.size = 66
  defers : a.defers = []
  s1 : a.tmps.getD 1 undef = v.v1
  s2 : a.tmps.getD 2 undef = v.v2
  s4 : a.tmps.getD 4 undef = v.v4
  s5 : a.tmps.getD 5 undef = v.v5
  s6 : a.tmps.getD 6 undef = v.v6
  s7 : a.tmps.getD 7 undef = v.v7
  s8 : a.tmps.getD 8 undef = v.v8
  s9 : a.tmps.getD 9 undef = v.v9
  s10 : a.tmps.getD 10 undef = v.v10
  s11 : a.tmps.getD 11 undef = v.v11
  s12 : a.tmps.getD 12 undef = v.v12
  s13 : a.tmps.getD 13 undef = v.v13
  s14 : a.tmps.getD 14 undef = v.v14
end Go.Proofs.Ytfcpclpaalekiaa
namespace Go.Proofs.Ytfcpclpaalekiaa.K
open Go.RowKit
set_option maxHeartbeats 400000
theorem readItem_short (c : UInt8) (k : Int) (z : Nat) (s : ByteArray) (w : World)
    (HK : Hid (∀ w, Calls Try.prog 77 #[.string { data := #[98, 119, 108, 116] }, .int .u8 (c.toNat : Int)] w fun e w' => e = .returned (.int .i64 (k - 1)) ∧ w' = w))
    (HW : Hid (∀ w, Calls Try.prog 42 #[.int .i64 k] w fun e w' => e = .returned (.int .i64 z) ∧ w' = w))
    (k0 : 0 ≤ k) (k4 : k ≤ 4) (h : s.size < z) (_hz : z ≤ 8) :
    Calls Try.prog 68 #[.int .u8 (c.toNat : Int), .string s] w fun e w' => e = .returned (.tuple #[It.zero.v, .string ⟨#[]⟩, .int .i64 2]) ∧ Below w.heap.size w w' := by
  go_enter Try.func68, Try.ntmps68
  go_wp2_with fail
  refine (HK.out _).mono ?_
  rintro e w' ⟨rfl, rfl⟩
  go_wp2_with fail
  refine (HW.out _).mono ?_
  rintro e w' ⟨rfl, rfl⟩
  go_wp2
  refine bodyPost_ret (v := .tuple #[.agg #[.int .i64 0, .int .u64 0, .string ⟨#[]⟩], .string ⟨#[]⟩, .int .i64 2]) (by simp [results, Try.results68, go_sem]) rfl ⟨rfl, ?_⟩
  exact (Below.refl _ _).alloc (Nat.le_refl _) _
theorem below3 {w w1 : World} {B : Nat} (hb : Below B w w1) (b : Nat) (h : B ≤ b) (v0 v1 v2 : Value) :
    Below B w (((w1.setCell ⟨b, 0, none⟩ v0).setCell ⟨b, 1, none⟩ v1).setCell ⟨b, 2, none⟩ v2) :=
  ((hb.setCell (p := ⟨b, 0, none⟩) h _).setCell (p := ⟨b, 1, none⟩) h _).setCell (p := ⟨b, 2, none⟩) h _
theorem num_ok (s : ByteArray) (z : Nat) (hz : z ≤ 8) : (s.extract 0 z).size ≤ 8 := by simp; omega
theorem readItem_num (c : UInt8) (k : Int) (z : Nat) (s : ByteArray) (w : World) (_hs : s.size ≤ maxLen)
    (HK : Hid (∀ w, Calls Try.prog 77 #[.string { data := #[98, 119, 108, 116] }, .int .u8 (c.toNat : Int)] w fun e w' => e = .returned (.int .i64 (k - 1)) ∧ w' = w))
    (HW : Hid (∀ w, Calls Try.prog 42 #[.int .i64 k] w fun e w' => e = .returned (.int .i64 z) ∧ w' = w))
    (k0 : 0 ≤ k) (k4 : k < 4) (h : z ≤ s.size) (hz : z ≤ 8) :
    Calls Try.prog 68 #[.int .u8 (c.toNat : Int), .string s] w fun e w' => e = .returned (.tuple #[It.v ⟨k, Lib.beNat (s.extract 0 z).data.toList, ⟨#[]⟩⟩, .string (s.extract z s.size), .int .i64 0]) ∧ Below w.heap.size w w' := by
  unfold maxLen at _hs
  have kne : (k == 4) = false := beq_eq_false_iff_ne.2 (by omega)
  have HN : Hid (∀ w, Calls Try.prog 79 #[.string (s.extract 0 z)] w fun e w' => e = .returned (.int .u64 (Lib.beNat (s.extract 0 z).data.toList)) ∧ w' = w) := fun w => number_any _ w (num_ok s z hz)
  generalize Lib.beNat (s.extract 0 z).data.toList = m at HN ⊢
  go_enter Try.func68, Try.ntmps68
  go_wp2_with fail
  refine (HK.out _).mono ?_
  rintro e w' ⟨rfl, rfl⟩
  go_wp2_with fail
  refine (HW.out _).mono ?_
  rintro e w' ⟨rfl, rfl⟩
  go_wp2
  go_quiet ((go_at_call 79; exact Calls.quiet_of_same (HN.out _)))
  go_wp2
  refine bodyPost_ret (v := .tuple #[It.v ⟨k, m, ⟨#[]⟩⟩, .string (s.extract z s.size), .int .i64 0]) (by simp [results, Try.results68, go_sem, It.v]) rfl ⟨rfl, ?_⟩
  exact below3 (below_drewN ((Below.refl _ _).alloc (Nat.le_refl _) _) nq) _ (Nat.le_refl _) _ _ _
theorem readItem_text (c : UInt8) (z : Nat) (s : ByteArray) (w : World) (hs : s.size ≤ maxLen)
    (HK : Hid (∀ w, Calls Try.prog 77 #[.string { data := #[98, 119, 108, 116] }, .int .u8 (c.toNat : Int)] w fun e w' => e = .returned (.int .i64 3) ∧ w' = w))
    (HW : Hid (∀ w, Calls Try.prog 42 #[.int .i64 4] w fun e w' => e = .returned (.int .i64 z) ∧ w' = w))
    (h : z ≤ s.size) (hz : z ≤ 8) :
    Calls Try.prog 68 #[.int .u8 (c.toNat : Int), .string s] w fun e w' => e = .returned (.tuple #[(textG (Lib.beNat (s.extract 0 z).data.toList) (s.extract z s.size)).1.v, .string (textG (Lib.beNat (s.extract 0 z).data.toList) (s.extract z s.size)).2.1, .int .i64 (textG (Lib.beNat (s.extract 0 z).data.toList) (s.extract z s.size)).2.2]) ∧ Below w.heap.size w w' := by
  have HT : Hid (∀ (n : Nat) (w : World), Calls Try.prog 80 #[.int .u64 n, .string (s.extract z s.size)] w fun e w' => e = .returned (.tuple #[(textG n (s.extract z s.size)).1.v, .string (textG n (s.extract z s.size)).2.1, .int .i64 (textG n (s.extract z s.size)).2.2]) ∧ Below w.heap.size w w') := fun n w => readText_any n _ w (by simp; omega)
  unfold maxLen at hs
  have HN : Hid (∀ w, Calls Try.prog 79 #[.string (s.extract 0 z)] w fun e w' => e = .returned (.int .u64 (Lib.beNat (s.extract 0 z).data.toList)) ∧ w' = w) := fun w => number_any _ w (num_ok s z hz)
  generalize Lib.beNat (s.extract 0 z).data.toList = m at HN ⊢
  have HT1 := HT.out m
  clear HT
  generalize textG m (s.extract z s.size) = r at HT1 ⊢
  obtain ⟨⟨rk, rn, rs⟩, rr, re⟩ := r
  have HT : Hid (∀ (w : World), Calls Try.prog 80 #[.int .u64 m, .string (s.extract z s.size)] w fun e w' => e = .returned (.tuple #[.agg #[.int .i64 rk, .int .u64 rn, .string rs], .string rr, .int .i64 re]) ∧ Below w.heap.size w w') := HT1
  clear HT1
  go_enter Try.func68, Try.ntmps68
  go_wp2_with fail
  refine (HK.out _).mono ?_
  rintro e w' ⟨rfl, rfl⟩
  go_wp2_with fail
  refine (HW.out _).mono ?_
  rintro e w' ⟨rfl, rfl⟩
  go_wp2
  go_quiet ((go_at_call 79; exact Calls.quiet_of_same (HN.out _)))
  go_wp2_with fail
  refine (HT.out _).mono ?_
  rintro e w' ⟨rfl, hb⟩
  have hz1 := hb.size
  obtain ⟨hc, hf⟩ := bcell hb
  simp at hz1 hc hf
  have c0 := hc w.heap.size 0 (by omega)
  have c1 := hc w.heap.size 1 (by omega)
  have c2 := hc w.heap.size 2 (by omega)
  have f0 := hf w.heap.size 0 (by omega)
  have f1 := hf w.heap.size 1 (by omega)
  have f2 := hf w.heap.size 2 (by omega)
  clear hc hf
  simp at c0 c1 c2 f0 f1 f2
  go_wp2
  refine bodyPost_ret (v := .tuple #[.agg #[.int .i64 rk, .int .u64 rn, .string rs], .string rr, .int .i64 re]) (by simp [results, Try.results68, go_sem, c0, c1, c2]) rfl ⟨rfl, ?_⟩
  have hb1 : Below w.heap.size w w' := (below_drewN ((Below.refl _ _).alloc (Nat.le_refl _) _) nq).trans (hb.mono (by simp))
  exact below3 hb1 _ (Nat.le_refl _) _ _ _
theorem widthN_le (k : Int) : widthN k ≤ 8 := by
  unfold widthN
  split
  · omega
  · split <;> omega
theorem readItem_any (c : UInt8) (s : ByteArray) (w : World) (hs : s.size ≤ maxLen) :
    Calls Try.prog 68 #[.int .u8 (c.toNat : Int), .string s] w fun e w' => e = .returned (.tuple #[(itemG (kindOfL c) (widthN (kindOfL c)) s).1.v, .string (itemG (kindOfL c) (widthN (kindOfL c)) s).2.1, .int .i64 (itemG (kindOfL c) (widthN (kindOfL c)) s).2.2]) ∧ Below w.heap.size w w' := by
  have k0 := kindOfL_ge c
  have k4 := kindOfL_le c
  have HK := fun w => letterIdx c w
  have HW := fun w => width_any (kindOfL c) w
  have hz := widthN_le (kindOfL c)
  generalize widthN (kindOfL c) = z at *
  generalize kindOfL c = k at *
  unfold itemG
  by_cases h : s.size < z
  · rw [if_pos h]; exact readItem_short c k z s w HK HW k0 k4 h hz
  · rw [if_neg h]
    by_cases h4 : k = 4
    · subst h4
      rw [if_pos rfl]; exact readItem_text c z s w hs HK HW (by omega) hz
    · rw [if_neg h4]; exact readItem_num c k z s w hs HK HW k0 (by omega) (by omega) hz
theorem itemG_eq (c : UInt8) (s : ByteArray) :
    (itemG (kindOfL c) (widthN (kindOfL c)) s).1 = (itemF c s.data.toList).1 ∧ (itemG (kindOfL c) (widthN (kindOfL c)) s).2.1.data.toList = (itemF c s.data.toList).2.1 ∧ (itemG (kindOfL c) (widthN (kindOfL c)) s).2.2 = (itemF c s.data.toList).2.2 := by
  unfold itemG itemF textG
  have e0 : s.data.toList.length = s.size := by simp
  have e1 : ∀ z, (s.extract 0 z).data.toList = s.data.toList.take z := fun z => by rw [Lib.extract_data]; simp
  have e2 : ∀ z, (s.extract z s.size).data.toList = s.data.toList.drop z := fun z => Lib.extract_to_end s z
  have e3 : ∀ z, (s.extract z s.size).size = (s.data.toList.drop z).length := fun z => by rw [← e2]; simp
  rw [e0]
  by_cases h : s.size < widthN (kindOfL c)
  · simp [h]
  · rw [if_neg h, if_neg h]
    by_cases h4 : kindOfL c = 4
    · rw [if_pos h4, if_pos h4, h4]
      have w4 : widthN 4 = 4 := rfl
      rw [w4, e1, e3]
      by_cases h5 : 100000 < Lib.beNat (s.data.toList.take 4)
      · simp [h5]
      · rw [if_neg h5, if_neg h5]
        by_cases h6 : (s.data.toList.drop 4).length < Lib.beNat (s.data.toList.take 4)
        · rw [if_pos h6, if_pos h6]; simp
        · rw [if_neg h6, if_neg h6]
          refine ⟨?_, ?_, rfl⟩
          · simp only [It.mk.injEq, true_and]
            rw [Lib.extract_eq, e2]; simp
          · show ((s.extract 4 s.size).extract _ _).data.toList = _
            rw [← e3, Lib.extract_to_end, e2]
    · rw [if_neg h4, if_neg h4, e1]
      exact ⟨rfl, e2 _, rfl⟩
end Go.Proofs.Ytfcpclpaalekiaa.K
namespace Go.Proofs.Ytfcpclpaalekiaa.K
def jump2 (J0 J1 : Act → World → Prop) (Q : Exit → Act → World → Prop) : Exit → Act → World → Prop
  | .goto l, a, w => (l = 0 ∧ J0 a w) ∨ (l = 1 ∧ J1 a w)
  | e, a, w => Q e a w
section
variable {P : Program} {a : Act} {w : World} {Q : Exit → Act → World → Prop}
theorem wp_scope_two {c r0 r1 : Code} (J0 J1 : Act → World → Prop) (m0 m1 : Act → World → Nat) (h0 : findLabel c 0 = some (.seq .skip r0)) (h1 : findLabel c 1 = some (.seq .skip r1))
    (pass0 : ∀ a w, J0 a w → r0.wp P (jump2 (fun a' w' => J0 a' w' ∧ m0 a' w' < m0 a w) (fun a' w' => J1 a' w' ∧ m1 a' w' < m0 a w) Q) a w)
    (pass1 : ∀ a w, J1 a w → r1.wp P (jump2 (fun a' w' => J0 a' w' ∧ m0 a' w' < m1 a w) (fun a' w' => J1 a' w' ∧ m1 a' w' < m1 a w) Q) a w)
    (first : (∀ a w, J1 a w → r1.wp P (jump2 J0 J1 Q) a w) → c.wp P (jump2 J0 J1 Q) a w) : (Code.scope c).wp P Q a w := by
  have skip : ∀ (r : Code) (R : Exit → Act → World → Prop) a w, r.wp P R a w → (Code.seq .skip r).wp P R a w := fun r R a w h => wp_seq (wp_skip h)
  have first' := first fun a w h => wp_mono (pass1 a w h) fun e a w q => by
    cases e with
    | goto l => exact q.elim (fun x => Or.inl ⟨x.1, x.2.1⟩) (fun x => Or.inr ⟨x.1, x.2.1⟩)
    | _ => exact q
  intro b k cs
  have hg0 : gotoIn 0 (.inScope c :: k) = some (.code (.seq .skip r0) :: .inScope c :: k) := by simp [gotoIn, h0]
  have hg1 : gotoIn 1 (.inScope c :: k) = some (.code (.seq .skip r1) :: .inScope c :: k) := by simp [gotoIn, h1]
  have key : ∀ n a w, (m0 a w = n → J0 a w → ∃ e a' w', Q e a' w' ∧ Arrives P (lone (b.at a (.code (.seq .skip r0) :: .inScope c :: k)) cs w) b k cs e a' w') ∧
      (m1 a w = n → J1 a w → ∃ e a' w', Q e a' w' ∧ Arrives P (lone (b.at a (.code (.seq .skip r1) :: .inScope c :: k)) cs w) b k cs e a' w') := by
    intro n
    induction n using Nat.strongRecOn with
    | _ n ih =>
      intro a w
      constructor
      · intro hn hJ
        obtain ⟨e, a₁, w₁, hq, harr⟩ := skip _ _ _ _ (pass0 a w hJ) b (.inScope c :: k) cs
        cases e with
        | normal => exact ⟨.normal, a₁, w₁, hq, Steps.trans harr (.one step_inScope)⟩
        | exit id => exact ⟨.exit id, a₁, w₁, hq, fun k' hk => harr k' (by simp [exitTo, hk])⟩
        | goto l' =>
          rcases hq with ⟨rfl, hJ', hlt⟩ | ⟨rfl, hJ', hlt⟩
          · obtain ⟨e₂, a₂, w₂, hq₂, harr₂⟩ := (ih _ (by omega) a₁ w₁).1 rfl hJ'
            exact ⟨e₂, a₂, w₂, hq₂, .of_steps (harr _ hg0) harr₂⟩
          · obtain ⟨e₂, a₂, w₂, hq₂, harr₂⟩ := (ih _ (by omega) a₁ w₁).2 rfl hJ'
            exact ⟨e₂, a₂, w₂, hq₂, .of_steps (harr _ hg1) harr₂⟩
        | ret => exact ⟨_, a₁, w₁, hq, harr⟩
        | panic ch => exact ⟨_, a₁, w₁, hq, harr⟩
        | outgrown => exact ⟨_, a₁, w₁, hq, harr⟩
      · intro hn hJ
        obtain ⟨e, a₁, w₁, hq, harr⟩ := skip _ _ _ _ (pass1 a w hJ) b (.inScope c :: k) cs
        cases e with
        | normal => exact ⟨.normal, a₁, w₁, hq, Steps.trans harr (.one step_inScope)⟩
        | exit id => exact ⟨.exit id, a₁, w₁, hq, fun k' hk => harr k' (by simp [exitTo, hk])⟩
        | goto l' =>
          rcases hq with ⟨rfl, hJ', hlt⟩ | ⟨rfl, hJ', hlt⟩
          · obtain ⟨e₂, a₂, w₂, hq₂, harr₂⟩ := (ih _ (by omega) a₁ w₁).1 rfl hJ'
            exact ⟨e₂, a₂, w₂, hq₂, .of_steps (harr _ hg0) harr₂⟩
          · obtain ⟨e₂, a₂, w₂, hq₂, harr₂⟩ := (ih _ (by omega) a₁ w₁).2 rfl hJ'
            exact ⟨e₂, a₂, w₂, hq₂, .of_steps (harr _ hg1) harr₂⟩
        | ret => exact ⟨_, a₁, w₁, hq, harr⟩
        | panic ch => exact ⟨_, a₁, w₁, hq, harr⟩
        | outgrown => exact ⟨_, a₁, w₁, hq, harr⟩
  obtain ⟨e, a₁, w₁, hq, harr⟩ := first' b (.inScope c :: k) cs
  cases e with
  | normal => exact ⟨.normal, a₁, w₁, hq, .head step_scope (Steps.trans harr (.one step_inScope))⟩
  | exit id => exact ⟨.exit id, a₁, w₁, hq, fun k' hk => .head step_scope (harr k' (by simp [exitTo, hk]))⟩
  | goto l' =>
    rcases hq with ⟨rfl, hJ'⟩ | ⟨rfl, hJ'⟩
    · obtain ⟨e₂, a₂, w₂, hq₂, harr₂⟩ := (key _ a₁ w₁).1 rfl hJ'
      exact ⟨e₂, a₂, w₂, hq₂, .of_steps (.head step_scope (harr _ hg0)) harr₂⟩
    · obtain ⟨e₂, a₂, w₂, hq₂, harr₂⟩ := (key _ a₁ w₁).2 rfl hJ'
      exact ⟨e₂, a₂, w₂, hq₂, .of_steps (.head step_scope (harr _ hg1)) harr₂⟩
  | ret => exact ⟨_, a₁, w₁, hq, .of_steps (.one step_scope) harr⟩
  | panic ch => exact ⟨_, a₁, w₁, hq, .of_steps (.one step_scope) harr⟩
  | outgrown => exact ⟨_, a₁, w₁, hq, .of_steps (.one step_scope) harr⟩
end
end Go.Proofs.Ytfcpclpaalekiaa.K
