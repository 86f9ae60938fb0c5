/-
  CommandKinds, its walk (mkkinds.py)
-/
import Derived.Test.YthfflefnapbkiabDoorZKK
import Derived.Test.YthfflefnapbkiabDoorZCN
namespace Go.Proofs.YthfflefnapbkiabDoor
open Go.RowKit

attribute [local go_sem ↓] Go.wp_at_zero Go.wp_at_succ
set_option linter.unusedSimpArgs false
set_option linter.unusedVariables false
/-- A command's code: the kind's byte, and the rest. -/
def tailC (x : CM) : List UInt8 := ((itemsC x).drop 1).flatMap K.itemB
theorem code_tail (x : CM) : codeC x = K.itemB ⟨1, x.kind, ⟨#[]⟩⟩ ++ tailC x := rfl
theorem tail_kind (x : CM) (k : Int) : tailC { x with kind := k } = tailC x := rfl
theorem byte_kind (k : Int) : K.itemB ⟨1, k, ⟨#[]⟩⟩ = [(k.toNat % 256).toUInt8] := by
  have w1 : K.widthN 1 = 1 := by decide
  unfold K.itemB
  rw [w1]
  show Lib.beBytes 1 k.toNat ++ [] = _
  rw [List.append_nil, K.beBytes_succ]
  rfl
theorem code_eq {x : CM} {k : Int} (h1 : 1 ≤ x.kind) (h2 : x.kind ≤ 11) (h3 : 1 ≤ k) (h4 : k ≤ 11) : (codeC x == codeC { x with kind := k }) = (x.kind == k) := by
  rw [code_tail, code_tail, tail_kind, byte_kind, byte_kind]
  by_cases h : x.kind = k
  · subst h
    simp
  · have h5 : (x.kind == k) = false := by simpa using h
    rw [h5, beq_eq_false_iff_ne]
    intro e
    have e2 := List.head_eq_of_cons_eq e
    have e3 := congrArg UInt8.toNat e2
    simp only [Nat.toUInt8, UInt8.toNat_ofNat'] at e3
    omega
theorem drop_kind (x : CM) (k : Int) : (codeC x).drop 1 = (codeC { x with kind := k }).drop 1 := by
  rw [code_tail, code_tail, tail_kind, byte_kind, byte_kind]
  rfl
theorem text_list (l : List UInt8) : (⟨l.toArray⟩ : ByteArray).toList = l := by rw [ByteArray.toList_eq]
theorem text_size (l : List UInt8) : (⟨l.toArray⟩ : ByteArray).size = l.length := by show l.toArray.size = _; simp
theorem text_drop (l : List UInt8) : ((⟨l.toArray⟩ : ByteArray).extract 1 (⟨l.toArray⟩ : ByteArray).size).toList = l.drop 1 := by
  rw [ByteArray.toList_eq]
  simp
  rw [text_size]
  exact List.take_of_length_le (by simp)
set_option maxHeartbeats 4000000 in
set_option maxRecDepth 100000 in
theorem kinds_walk (x : CM) (hx : x.ok) (k : Int) (w : World) (hT : Tab w) :
    Calls Tryd.prog 4 #[x.v, .int .i64 k] w fun e w' => e = .returned (.bool true) ∧ Below w.heap.size w w' := by
  have HT := hide hT
  have TB : Hid (∀ {W W' : World}, Below w.heap.size w W → Below W.heap.size W W' → Tab W') := fun h1 h2 => HT.out.below (h1.trans (h2.mono h1.size))
  clear hT
  have hy : ({ x with kind := k } : CM).ok := ⟨hx.t, hx.m, hx.y, hx.v⟩
  obtain ⟨p, hp⟩ : ∃ p, x.right = p := ⟨_, rfl⟩
  obtain ⟨q, hq⟩ : ∃ q, ({ x with kind := k } : CM).right = q := ⟨_, rfl⟩
  have hR := pright x hx
  have hS := pright _ hy
  simp only [hp] at hR
  simp only [hq] at hS
  go_enter Tryd.func4, Tryd.ntmps4
  refine wp_seq (reg_mono (kd_r0 (by kernel_rfl) _ (v := ⟨_, _, _, _, _, _, _, _, _, _, _⟩) ⟨rfl, rfl, rfl, rfl, rfl, rfl, rfl, rfl, rfl, rfl, rfl, rfl, rfl⟩ rfl ?_))
  intro a1 w1 b F1 D1 B1
  refine wp_seq (reg_mono (kd_r1 (by kernel_rfl) _ F1 (fun W hW => examples_any W (TB.out B1 hW)) ?_))
  intro a2 w2 F2 b2
  have D2 := (b2.block _ (heap_lt D1)).trans D1
  have B2 := B1.trans (b2.mono B1.size)
  refine wp_seq (reg_mono (kd_r2 (by kernel_rfl) _ F2 rfl D2 ?_))
  intro a3 w3 d F3 hd E3 b3
  have D3 := (b3.block _ (heap_lt D2)).trans D2
  have B3 := B2.trans (b3.mono B2.size)
  refine wp_seq (reg_mono (kd_r3 (by kernel_rfl) _ F3 rfl rfl E3 ?_))
  intro a4 w4 F4 E4 t4
  have D4 := t4.at D3 (fun e => by have := heap_lt D2; omega)
  have B4 : Below w.heap.size w w4 := B3.trans (t4.toBelow B3.size fun i hi e => by have := B2.size; omega)
  refine wp_seq (wp_seq (reg_mono (kd_r4 (by kernel_rfl) _ F4 rfl rfl D4 E4 (fun W _ => hR W) (fun W _ => hS W) ?_)))
  intro a5 w5 F5 b5
  have D5 := (b5.block _ (heap_lt D4)).trans D4
  have E5 := (b5.block _ (heap_lt E4)).trans E4
  have B5 := B4.trans (b5.mono B4.size)
  cases p with
  | false =>
    refine wp_cond_true F5.s22 ?_
    refine wp_seq (reg_mono (kd_r5 (by kernel_rfl) _ F5 rfl ?_))
    intro a6 F6
    refine wp_ret ?_
    exact kd_ret (R := fun e w' => e = .returned (.bool true) ∧ Below w.heap.size w w') F6 rfl ⟨rfl, B5⟩
  | true =>
    cases q with
    | false =>
      refine wp_cond_true F5.s22 ?_
      refine wp_seq (reg_mono (kd_r5 (by kernel_rfl) _ F5 rfl ?_))
      intro a6 F6
      refine wp_ret ?_
      exact kd_ret (R := fun e w' => e = .returned (.bool true) ∧ Below w.heap.size w w') F6 rfl ⟨rfl, B5⟩
    | true =>
      have sx := CM.small hp
      have sy := CM.small hq
      refine wp_cond_false F5.s22 (wp_skip ?_)
      refine wp_seq (reg_mono (kd_r6 (by kernel_rfl) _ F5 rfl D5 (fun W _ => penc_good x hp W) ?_))
      intro a6 w6 F6 b6
      have D6 := (b6.block _ (heap_lt D5)).trans D5
      have E6 := (b6.block _ (heap_lt E5)).trans E5
      have B6 := B5.trans (b6.mono B5.size)
      refine wp_seq (reg_mono (kd_r7 (by kernel_rfl) _ F6 rfl E6 (fun W _ => penc_good _ hq W) ?_))
      intro a7 w7 F7 b7
      have D7 := (b7.block _ (heap_lt D6)).trans D6
      have B7 := B6.trans (b7.mono B6.size)
      have l1 := codeC_len x
      have l2 := codeC_len { x with kind := k }
      refine wp_seq (reg_mono (kd_r8 (xk := x.kind) (kk := x.kind == k) (by kernel_rfl) _ F7 rfl rfl rfl rfl rfl rfl rfl D7 rfl (by rw [text_size]; omega) (by rw [text_size]; omega) (by rw [text_size, text_size, l1, l2]) (by rw [text_list, text_list]; exact code_eq sx.k1 sx.k2 sy.k1 sy.k2) rfl (by rw [text_drop, text_drop, drop_kind x k]; exact beq_self_eq_true _) ?_))
      intro a8 w8 F8 b8
      refine wp_ret ?_
      exact kd_ret F8 rfl ⟨rfl, B7.trans (b8.mono B7.size)⟩
end Go.Proofs.YthfflefnapbkiabDoor
