/-
  The laws' examples (mkex.py)
-/
import Derived.Test.YtoolbbibnegdnaaGreatDoorZCM
import Derived.Test.YtoolbbibnegdnaaGreatDoorZCL
import Derived.Test.YtoolbbibnegdnaaGreatDoorZCF
namespace Go.Proofs.YtoolbbibnegdnaaGreatDoor
open Go.RowKit

attribute [local go_sem ↓] Go.wp_at_zero Go.wp_at_succ
set_option linter.unusedSimpArgs false
set_option linter.unusedVariables false
def exC : CM := ⟨7, ⟨#[]⟩, ⟨#[115]⟩, 0, ⟨#[]⟩, ⟨#[]⟩, 5, 0, 0⟩
theorem exC_right : exC.right = true := by decide
theorem ex_ret {W : World} {a : Act} {v : Vex} {b : Bool} {R : Ending → World → Prop} (hF : Fex a v) (h0 : v.v0 = .bool b) (h : R (.returned (.bool b)) W) :
    bodyPost Tryz.prog Tryz.f5 R .ret a W := by
  have g0 := slot_get (hF.s0.trans h0)
  refine bodyPost_ret (v := .bool b) ?_ hF.defers h
  simp [results, Tryz.results5, go_sem, g0]
theorem exOk (c : CM) (h : c.topic.size ≤ 20 ∧ c.name.size ≤ 20 ∧ c.key.size ≤ 20 ∧ c.val.size ≤ 20) : c.ok := ⟨by omega, by omega, by omega, by omega⟩
set_option maxHeartbeats 4000000 in
set_option maxRecDepth 100000 in
theorem examples_any (w : World) (hT : Tab w) :
    Calls Tryz.prog 5 #[] w fun e w' => e = .returned (.bool true) ∧ Below w.heap.size w w' := by
  have r1 : exC.right = true := exC_right
  have hs : (codeC exC).length ≤ 1182 := codeC_le (exC.small r1)
  have hE := fun W => penc_good exC r1 W
  have hD : ∀ W, Calls Tryz.prog 16 #[.string ⟨(codeC exC).toArray⟩] W fun e w' => e = .returned (.tuple #[exC.v, .int .i64 0]) ∧ Below W.heap.size W w' := fun W => by
    have := pdec ⟨(codeC exC).toArray⟩ (by show (codeC exC).toArray.size ≤ _; simp; omega) W
    rw [show ((⟨(codeC exC).toArray⟩ : ByteArray).data.toList) = codeC exC by simp, decC_code r1] at this
    exact this
  have hQ := fun W hT => preq_good exC r1 rfl W hT
  have hA : ∀ W, Tab W → Calls Tryz.prog 8 #[.string ⟨(oneC exC).toArray⟩] W fun e w' => e = .returned (.tuple #[exC.v, .int .i64 0]) ∧ Below W.heap.size W w' := fun W hT => by
    have := pasked ⟨(oneC exC).toArray⟩ (by show (oneC exC).toArray.size ≤ _; rw [List.size_toArray, oneC_len]; omega) W hT
    rw [show ((⟨(oneC exC).toArray⟩ : ByteArray).data.toList) = oneC exC by simp, askC_one r1 rfl] at this
    exact this
  have hP := fun W => preq_bad ⟨5, ⟨#[]⟩, ⟨#[115]⟩, 0, ⟨#[]⟩, ⟨#[]⟩, 0, 0, 0⟩ (exOk _ (by decide)) (.inl (by decide)) W
  have h71 : ∀ W, Calls Tryz.prog 17 #[(⟨1, ⟨#[97]⟩, ⟨#[]⟩, 0, ⟨#[]⟩, ⟨#[]⟩, 0, 0, 0⟩ : CM).v] W fun e w' => e = .returned (.bool true) ∧ Below W.heap.size W w' := fun W => by
    have := pright ⟨1, ⟨#[97]⟩, ⟨#[]⟩, 0, ⟨#[]⟩, ⟨#[]⟩, 0, 0, 0⟩ (exOk _ (by decide)) W
    rw [show (⟨1, ⟨#[97]⟩, ⟨#[]⟩, 0, ⟨#[]⟩, ⟨#[]⟩, 0, 0, 0⟩ : CM).right = true by decide] at this
    exact this
  have h72 : ∀ W, Calls Tryz.prog 17 #[(⟨1, ⟨#[65]⟩, ⟨#[]⟩, 0, ⟨#[]⟩, ⟨#[]⟩, 0, 0, 0⟩ : CM).v] W fun e w' => e = .returned (.bool false) ∧ Below W.heap.size W w' := fun W => by
    have := pright ⟨1, ⟨#[65]⟩, ⟨#[]⟩, 0, ⟨#[]⟩, ⟨#[]⟩, 0, 0, 0⟩ (exOk _ (by decide)) W
    rw [show (⟨1, ⟨#[65]⟩, ⟨#[]⟩, 0, ⟨#[]⟩, ⟨#[]⟩, 0, 0, 0⟩ : CM).right = false by decide] at this
    exact this
  have h73 : ∀ W, Calls Tryz.prog 17 #[(⟨1, ⟨#[97]⟩, ⟨#[]⟩, 1, ⟨#[]⟩, ⟨#[]⟩, 0, 0, 0⟩ : CM).v] W fun e w' => e = .returned (.bool false) ∧ Below W.heap.size W w' := fun W => by
    have := pright ⟨1, ⟨#[97]⟩, ⟨#[]⟩, 1, ⟨#[]⟩, ⟨#[]⟩, 0, 0, 0⟩ (exOk _ (by decide)) W
    rw [show (⟨1, ⟨#[97]⟩, ⟨#[]⟩, 1, ⟨#[]⟩, ⟨#[]⟩, 0, 0, 0⟩ : CM).right = false by decide] at this
    exact this
  have rp : (⟨0, 4, []⟩ : RP).right := ⟨by decide, by decide, by decide, by decide, by decide, fun x hx => by cases hx⟩
  have ra : askOk 3 := ⟨by decide, by decide⟩
  have hN := fun W hT => pansw_good 3 ⟨0, 4, []⟩ ra rp none 0 W hT (fun i hi => by simp at hi) (fun x hx => by cases hx)
  have hW' : ∀ W, Tab W → Calls Tryz.prog 13 #[.string ⟨(oneP 3 ⟨0, 4, []⟩).toArray⟩] W fun e w' => (∃ ro rc, e = .returned (.tuple #[.int .i64 3, .agg #[.int .i64 0, .int .i64 4, .slice ro 0 rc], .int .i64 0])) ∧ Below W.heap.size W w' := fun W hT => by
    have hl := codeP_le (a := 3) rp
    have := panswered ⟨(oneP 3 ⟨0, 4, []⟩).toArray⟩ (by show (oneP 3 ⟨0, 4, []⟩).toArray.size ≤ _; rw [List.size_toArray]; unfold oneP; rw [frameB_length]; omega) W hT
    rw [show ((⟨(oneP 3 ⟨0, 4, []⟩).toArray⟩ : ByteArray).data.toList) = oneP 3 ⟨0, 4, []⟩ by simp, answP_one ra rp] at this
    refine this.mono ?_
    rintro e w' ⟨ro, rc, rfl, _, hb⟩
    exact ⟨⟨ro, rc, rfl⟩, hb⟩
  generalize (⟨(codeC exC).toArray⟩ : ByteArray) = T1 at *
  generalize (⟨(oneC exC).toArray⟩ : ByteArray) = T2 at *
  generalize (⟨(oneP 3 ⟨0, 4, []⟩).toArray⟩ : ByteArray) = T3 at *
  have HT := hide hT
  clear hT
  go_enter Tryz.func5, Tryz.ntmps5
  refine wp_seq (reg_mono (ex_r0 (by kernel_rfl) _ (v := ⟨_, _, _, _, _, _, _, _, _, _, _, _, _, _, _, _, _, _⟩) ⟨rfl, rfl, rfl, rfl, rfl, rfl, rfl, rfl, rfl, rfl, rfl, rfl, rfl, rfl, rfl, rfl, rfl, rfl, rfl, rfl⟩ ?_))
  intro a1 F1
  refine wp_seq (reg_mono (ex_r1 (by kernel_rfl) _ F1 ?_))
  intro a2 w2 b F2 D2 B2
  refine wp_seq (reg_mono (ex_r2 (by kernel_rfl) _ F2 rfl D2 (fun W _ => hE W) ?_))
  intro a3 w3 F3 b3
  have D3 := (b3.block _ (heap_lt D2)).trans D2
  have B3 := B2.trans (b3.mono B2.size)
  refine wp_seq (reg_mono (ex_r3 (by kernel_rfl) _ F3 rfl (fun W _ => hD W) ?_))
  intro a4 w4 k4 F4 X4 b4
  have D4 := (b4.block _ (heap_lt D3)).trans D3
  have B4 := B3.trans (b4.mono B3.size)
  refine wp_seq (reg_mono (ex_r4 (by kernel_rfl) _ F4 rfl D4 (fun W hW => hQ W (HT.out.below (B4.trans (hW.mono B4.size)))) ?_))
  intro a5 w5 F5 b5
  have D5 := (b5.block _ (heap_lt D4)).trans D4
  have X5 := (b5.block _ (heap_lt X4)).trans X4
  have B5 := B4.trans (b5.mono B4.size)
  refine wp_seq (reg_mono (ex_r5 (by kernel_rfl) _ F5 rfl (fun W hW => hA W (HT.out.below (B5.trans (hW.mono B5.size)))) ?_))
  intro a6 w6 k6 F6 Y6 b6
  have D6 := (b6.block _ (heap_lt D5)).trans D5
  have X6 := (b6.block _ (heap_lt X5)).trans X5
  have B6 := B5.trans (b6.mono B5.size)
  refine wp_seq (reg_mono (ex_r6 (by kernel_rfl) _ F6 (fun W _ => hP W) ?_))
  intro a7 w7 F7 b7
  refine wp_seq (reg_mono (ex_r7 (by kernel_rfl) _ F7 (fun W _ => h71 W) (fun W _ => h72 W) (fun W _ => h73 W) ?_))
  intro a8 w8 F8 b8
  have B8 := (B6.trans (b7.mono B6.size)).trans (b8.mono (Nat.le_trans B6.size b7.size))
  have c8 := b7.trans (b8.mono b7.size)
  refine wp_seq (reg_mono (ex_r8 (by kernel_rfl) _ F8 (fun W hW => hN W (HT.out.below (B8.trans (hW.mono B8.size)))) ?_))
  intro a9 w9 F9 b9
  have B9 := B8.trans (b9.mono B8.size)
  have c9 := c8.trans (b9.mono c8.size)
  refine wp_seq (reg_mono (ex_r9 (by kernel_rfl) _ F9 rfl (fun W hW => hW' W (HT.out.below (B9.trans (hW.mono B9.size)))) ?_))
  intro a10 w10 kr ro rc F10 R10 b10
  have B10 := B9.trans (b10.mono B9.size)
  have c10 := c9.trans (b10.mono c9.size)
  have D10 := (c10.block _ (heap_lt D6)).trans D6
  have X10 := (c10.block _ (heap_lt X6)).trans X6
  have Y10 := (c10.block _ (heap_lt Y6)).trans Y6
  refine wp_seq (reg_mono (ex_r10 (by kernel_rfl) _ F10 rfl rfl rfl rfl rfl rfl rfl rfl rfl rfl rfl rfl rfl D10 X10 Y10 R10 ?_))
  intro a11 F11
  refine wp_ret ?_
  exact ex_ret F11 rfl ⟨rfl, B10⟩
end Go.Proofs.YtoolbbibnegdnaaGreatDoor
