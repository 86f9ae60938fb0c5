/-
  The program's All, as it runs.
-/
import Derived.Test.YtlalfehnkhenjabDoorD3
import Derived.Test.YtlalfehnkhenjabDoorC4
import Derived.ScopeJumps
import Derived.WalkMore
namespace Go.Proofs.YtlalfehnkhenjabDoor
open Go.RowKit

/-- A scope with jumps back to one label that is entered from above: the pass is walked once. -/
theorem wp_scope_one {P : Program} {a : Act} {w : World} {Q : Exit → Act → World → Prop} {c r : Code} (l : Nat) (J : Act → World → Prop) (m : Act → World → Nat) (hf : findLabel c l = some (.seq .skip r))
    (pass : ∀ a w, J a w → r.wp P (Exit.jump l (fun a' w' => J a' w' ∧ m a' w' < m a w) Q) a w)
    (first : (∀ a w, J a w → r.wp P (Exit.jump l J Q) a w) → c.wp P (Exit.jump l J Q) a w) : (Code.scope c).wp P Q a w :=
  wp_scope_jumps l J m hf (first fun a w h => wp_mono (pass a w h) fun e a w q => by
    cases e with
    | goto l => exact ⟨q.1, q.2.1⟩
    | _ => exact q) (fun a w h => wp_seq (wp_skip (pass a w h)))

/-- What holds at the label. -/
def JA (s : ByteArray) (R : List (List UInt8) × Nat × Int) (w : World) (a' : Act) (w' : World) : Prop :=
  ∃ (used : Nat) (out : List (List UInt8)) (v : Value) (u5 u6 u7 u8 u9 u10 u11 u12 u13 u14 u15 u16 u17 u18 u19 u20 u21 u22 u23 u24 u25 u26 u27 u28 u29 u30 u31 u32 : Value), a' = { tmps := List.toArray (.string s :: undef :: v :: .int .i64 used :: .int .i64 0 :: u5 :: u6 :: u7 :: u8 :: u9 :: u10 :: u11 :: u12 :: u13 :: u14 :: u15 :: u16 :: u17 :: u18 :: u19 :: u20 :: u21 :: u22 :: u23 :: u24 :: u25 :: u26 :: u27 :: u28 :: u29 :: u30 :: u31 :: u32 :: []), defers := [] } ∧ AI s.data.toList out used R ∧ AS w w' v out
def mJ (s : ByteArray) (a' : Act) (_ : World) : Nat := s.size - (intOf (a'.tmps.getD 3 undef)).toNat

set_option maxHeartbeats 2000000 in
set_option maxRecDepth 100000 in
theorem all_any (s : ByteArray) (w : World) (hT : Tab w) (h63 : s.size ≤ 9223372036854775807) (R : List (List UInt8) × Nat × Int) (hI : AI s.data.toList [] 0 R) (hR : R.1.length ≤ 8796093022208) :
    Calls Tryd.prog 9 #[.string s] w fun e w' => ∃ v, e = .returned (.tuple #[v, .int .i64 R.2.1, .int .i64 R.2.2]) ∧ w'.ownsRow w.heap.size 9 1 v R.1.length (strCells R.1) ∧ Below w.heap.size w w' := by
  have HI := hide hI
  have HT := hide hT
  clear hI hT
  go_enter Tryd.func9, Tryd.ntmps9
  go_wp2
  refine wp_scope_one 0 (JA s R w) (mJ s) rfl ?pass ?first
  case first =>
    intro h1
    have H1 := hide h1
    clear h1
    go_wp2
    go_step3
    rename_i K hK
    exact hK _ _ (H1.out _ _ ⟨0, [], .slice none 0 0, _, _, _, _, _, _, _, _, _, _, _, _, _, _, _, _, _, _, _, _, _, _, _, _, _, _, _, _, rfl, HI.out, AS.init w⟩)
  case pass =>
    rintro a' wr ⟨used, out, v, u5, u6, u7, u8, u9, u10, u11, u12, u13, u14, u15, u16, u17, u18, u19, u20, u21, u22, u23, u24, u25, u26, u27, u28, u29, u30, u31, u32, rfl, hA, hS⟩
    have HA := hide hA
    have HS := hide hS
    have hle := hA.le
    rw [size_list] at hle
    obtain ⟨oo, ocap, rfl⟩ := own_shape hS.own
    clear hA hS HI
    by_cases hlt : used < s.size
    · have hne0 : used ≠ s.size := by omega
      have hl2 : used < s.data.toList.length := by rw [size_list]; exact hlt
      have hcall := fun w hT => take_any (s.extract used s.size) w hT (by simp; omega)
      have hd : (s.extract used s.size).data.toList = s.data.toList.drop used := by
        rw [ext_data, List.take_of_length_le (by rw [List.length_drop, size_list]; omega)]
      have hfault := HA.out.fault hl2
      have hnext := HA.out.next hl2
      have hok := takeF_ok (s.data.toList.drop used)
      rw [hd] at hcall
      rw [List.length_drop, size_list] at hok
      generalize takeF (s.data.toList.drop used) = r at *
      obtain ⟨b, n, er⟩ := r
      have HC : Hid (∀ w, Tab w → Calls Tryd.prog 8 #[.string (s.extract used s.size)] w fun e w' => e = .returned (.tuple #[.string ⟨b.toArray⟩, .int .i64 n, .int .i64 er]) ∧ Below w.heap.size w w') := hcall
      have HTr := hide (HT.out.below HS.out.below)
      clear hcall hd hl2
      by_cases he : er = 0
      · subst he
        have HN := hide (hnext rfl)
        have hfit := (hnext rfl).1.fits
        rw [List.length_append, List.length_singleton] at hfit
        obtain ⟨hn1, hn2⟩ := hok rfl
        simp only at hn1 hn2
        clear hfault hnext hok
        go_wp2_with fail
        refine (HC.out _ HTr.out).mono ?_
        rintro e w2 ⟨rfl, hb⟩
        have HS2 := hide (HS.out.after hb)
        clear hb
        go_wp2_with (at_builtin; refine wpList_append_own _ rfl _ _ 33 rfl w.heap.size 9 Tryd.t9 (.string ⟨#[]⟩) 1 16 Tryd.underlying33 ?hi ?hz ?hs ?hby rfl (by decide) _ _ _ rfl (HS2.out.own.alloc _) ⟨_, 0, none⟩ 1 1 [.string ⟨b.toArray⟩] rfl rfl ?hnews ?h1 ?h63 ?hb47 ?hbase ?_)
        case hi => exact Tryd.infoStr
        case hz => exact Tryd.zeroStr
        case hs => exact Tryd.sizeStr
        case hby => exact Tryd.bytesStr
        case hnews => exact cells_new1 _ _ _ _ rfl
        case h1 =>
          intro u hu
          simp at hu
          subst hu
          rfl
        case h63 => unfold maxLen; omega
        case hb47 => omega
        case hbase => have := HS2.out.below.size; simp; omega
        intro v' w4 hown hgrow _
        have HS4 := hide (HS2.out.append hgrow hown)
        clear hown hgrow
        go_wp2
        go_step3
        rw [show (used : Int) + (n : Int) = ((used + n : Nat) : Int) by omega]
        refine ⟨rfl, ⟨used + n, out ++ [b], v', _, _, _, _, _, _, _, _, _, _, _, _, _, _, _, _, _, _, _, _, _, _, _, _, _, _, _, _, rfl, HN.out.1, HS4.out⟩, ?_⟩
        simp [mJ, intOf]
        omega
      · have hne : (er != 0) = true := by rw [bne_iff_ne]; exact he
        have HE := hide (hfault he)
        clear hfault hnext hok he
        go_wp2_with fail
        refine (HC.out _ HTr.out).mono ?_
        rintro e w2 ⟨rfl, hb⟩
        have HS2 := hide (HS.out.after hb)
        clear hb
        go_wp2
        simp only [Exit.jump]
        refine bodyPost_ret (v := .tuple #[.slice oo out.length ocap, .int .i64 used, .int .i64 er]) (by simp [results, Tryd.results9, go_sem]) rfl ⟨_, by rw [HE.out], by rw [HE.out]; exact HS2.out.own, HS2.out.below⟩
    · have he0 : used = s.size := by omega
      have HE := hide (HA.out.done (by rw [size_list]; omega))
      subst he0
      go_wp2
      simp only [Exit.jump]
      refine bodyPost_ret (v := .tuple #[.slice oo out.length ocap, .int .i64 s.size, .int .i64 0]) (by simp [results, Tryd.results9, go_sem]) rfl ⟨_, by rw [HE.out], by rw [HE.out]; exact HS.out.own, HS.out.below⟩

end Go.Proofs.YtlalfehnkhenjabDoor
