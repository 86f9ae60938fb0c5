/-
  CrcTakes, walked.
-/
import Derived.Test.YtlalfehnkhenjaaDoorE1
import Derived.Laws.OwnMore
namespace Go.Proofs.YtlalfehnkhenjaaDoor
open Go.RowKit

/-- The inner loop's world: nothing old has turned; the row is the call's own. -/
structure WS (w w' : World) (v : Value) (n : Nat) : Prop where
  below : Below w.heap.size w w'
  own : ∃ xs, w'.ownsRow w.heap.size 9 1 v n xs

theorem WS.opens {w w' : World} {co : Option Addr} {n cap : Nat} (h : WS w w' (.slice co n cap) n) (i : Nat) (hi : i < n) :
    ∃ g a, co = some ⟨g, 0, none⟩ ∧ g < w'.heap.size ∧ w'.cell? ⟨g, i, none⟩ = some a ∧ w'.frozen? ⟨g, i, none⟩ = false ∧
      ∀ x, WS w (w'.setCell ⟨g, i, none⟩ x) (.slice co n cap) n := by
  obtain ⟨xs, ho⟩ := h.own
  have hl := ho.1
  have hco : ∃ g, co = some ⟨g, 0, none⟩ ∧ w.heap.size ≤ g := by
    rcases ho.2 with ⟨_, h0⟩ | ⟨g, cap', cur, hv, hg, _⟩
    · omega
    · injection hv with h1
      exact ⟨g, h1, hg⟩
  obtain ⟨g, rfl, hgw⟩ := hco
  have hlt := (ho.lt g rfl).2
  have c0 := ho.cellAt i (by omega)
  rw [List.getElem?_eq_getElem (by omega)] at c0
  refine ⟨g, _, rfl, hlt, c0, ho.frozenAt _, fun x => ?_⟩
  have o1 := (ho.stored i x).1
  exact ⟨h.below.setCell (p := ⟨g, i, none⟩) hgw _, _, o1⟩

set_option maxHeartbeats 1000000 in
set_option maxRecDepth 100000 in
theorem takes_core (s : ByteArray) (l : List (List UInt8)) (n : Nat) (er : Int) (w : World) (hT : Tab w) (hlen : l.length ≤ 1048576)
    (HE : Hid (∀ w, Tab w → Calls Tryd.prog 9 #[] w fun e w' => e = .returned (.bool true) ∧ Below w.heap.size w w'))
    (HD : Hid (∀ w, Tab w → Calls Tryd.prog 19 #[.string s] w fun e w' => ∃ v, e = .returned (.tuple #[v, .int .i64 n, .int .i64 er]) ∧ w'.ownsRow w.heap.size 9 1 v l.length (strCells l) ∧ Below w.heap.size w w'))
    (HF : Hid (∀ w, Calls Tryd.prog 18 #[.string s] w fun e w' => ∃ v, e = .returned (.tuple #[v, .int .i64 n, .int .i64 er]) ∧ w'.ownsRow w.heap.size 9 1 v l.length (strCells l) ∧ Below w.heap.size w w'))
    (HM : Hid (∀ co dap ao cap w, StrsAt w co l → StrsAt w ao l → Calls Tryd.prog 20 #[.slice co l.length dap, .slice ao l.length cap] w fun e w' => e = .returned (.bool true) ∧ ∃ n, w' = w.drewN n)) :
    Calls Tryd.prog 5 #[.string s] w fun e w' => e = .returned (.bool true) ∧ Below w.heap.size w w' := by
  have HT := hide hT
  clear hT
  go_enter Tryd.func5, Tryd.ntmps5
  go_wp2_with fail
  refine (HE.out _ HT.out).mono ?_
  rintro e w1 ⟨rfl, b1⟩
  have B1 := hide b1
  clear b1
  go_wp2_with fail
  refine (HF.out _).mono ?_
  rintro e w2 ⟨v2, rfl, hown2, b2⟩
  have B2 := hide (B1.out.trans (b2.mono B1.out.size))
  obtain ⟨wo, wcap, rfl, hwo⟩ := strs_of_own hown2
  have HW2 := hide hwo
  clear b2 hown2 hwo
  go_wp2
  go_loopw [7] (fun i wv => ∃ t : Nat, t ≤ 2 ∧ i = .int .i64 t ∧ StrsAt wv wo l ∧ Below w.heap.size w wv) (fun i _ => 2 - (intOf i).toNat)
  case atStart => exact ⟨0, by omega, rfl, HW2.out, B2.out⟩
  case round =>
    obtain ⟨t, ht, rfl, hit, hbe⟩ := hrel
    have HIT := hide hit
    have HBE := hide hbe
    have HTr := hide (HT.out.below hbe)
    clear hit hbe
    by_cases ht2 : t < 2
    · go_wp2_with fail
      refine (HD.out _ HTr.out).mono ?_
      rintro e w3 ⟨v3, rfl, hown3, b3⟩
      have B3 := hide (HBE.out.trans (b3.mono HBE.out.size))
      have HI3 := hide (HIT.out.below b3)
      obtain ⟨co, ccap, rfl, hco⟩ := strs_of_own hown3
      have HC3 := hide hco
      have HWS : Hid (WS wr w3 (.slice co l.length ccap) l.length) := ⟨b3, _, hown3⟩
      clear b3 hown3 hco
      go_wp2_with fail
      refine (HM.out co ccap wo wcap _ HC3.out HI3.out).mono ?_
      rintro e w4 ⟨rfl, nq, rfl⟩
      have HWS4 : Hid (WS wr (w3.drewN nq) (.slice co l.length ccap) l.length) := by
        obtain ⟨xs, hxs⟩ := HWS.out.own
        exact ⟨below_drewN HWS.out.below nq, xs, own_below hxs (below_drewN (Below.refl _ _) nq) (Nat.le_refl _)⟩
      clear HC3 HI3 HWS B3
      generalize w3.drewN nq = w5 at HWS4 ⊢
      go_wp2
      go_loopw [12] (fun i wv => ∃ q : Nat, q ≤ l.length ∧ i = .int .i64 q ∧ WS wr wv (.slice co l.length ccap) l.length) (fun i _ => l.length - (intOf i).toNat)
      case atStart => exact ⟨0, by omega, rfl, HWS4.out⟩
      case round =>
        obtain ⟨q, hq, rfl, hws⟩ := hrel
        have HQ := hide hws
        by_cases hql : q < l.length
        · obtain ⟨g, a, rfl, hg, c0, f0, hnew⟩ := hws.opens q hql
          have HNEW := hide hnew
          clear hws hnew
          go_wp2
          exact ⟨⟨q + 1, by omega, by go_num, HNEW.out _⟩, by simp [intOf]; omega⟩
        · clear hws
          go_wp2
          exact ⟨⟨t + 1, by omega, by go_num, HIT.out.below HQ.out.below, HBE.out.trans (HQ.out.below.mono HBE.out.size)⟩, by simp [intOf]; omega⟩
    · go_wp2
      go_ret
      exact ⟨rfl, HBE.out⟩

theorem allF_many (f : Nat) (s : List UInt8) : 8 * (allF f s).1.length ≤ s.length := by
  induction f generalizing s with
  | zero => simp [allF]
  | succ f ih =>
    rw [allF]
    split
    · simp
    · split
      · rename_i h0 h1
        obtain ⟨h2, h3⟩ := takeF_ok s h1
        have h4 := ih (s.drop (takeF s).2.1)
        rw [List.length_drop] at h4
        simp only [List.length_cons]
        omega
      · simp

theorem takes_walk (s : ByteArray) (w : World) (hT : Tab w) (h1 : s.size ≤ 1048576) :
    Calls Tryd.prog 5 #[.string s] w fun e w' => e = .returned (.bool true) ∧ Below w.heap.size w w' := by
  have hm := allF_many (s.data.toList.length + 1) s.data.toList
  have hsz := size_list s
  refine takes_core s _ _ _ w hT (by omega) examples_any (fun w hT => all_any s w hT (by omega) _ (AI.init _)) (fun w => rall_any s w (by omega) _ (AI.init _)) ?_
  exact fun co dap ao cap w h1 h2 => texts_any co ao dap cap _ w h1 h2 (by unfold maxLen; omega)

end Go.Proofs.YtlalfehnkhenjaaDoor
