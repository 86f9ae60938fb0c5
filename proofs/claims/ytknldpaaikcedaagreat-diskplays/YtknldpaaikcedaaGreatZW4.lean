/-
  settleAll and crash of a file as they run; the library's contracts that they use.
-/
import Derived.Test.YtknldpaaikcedaaGreatZW3
import Derived.Test.YtknldpaaikcedaaGreatZSh
namespace Go.Proofs.YtknldpaaikcedaaGreat
open Go.RowKit Go.Shelf

theorem bytesC_one (l : List UInt8) : ∀ u ∈ bytesC l, u.oneCell' = true := by
  intro u hu
  simp only [bytesC, List.mem_map] at hu
  obtain ⟨b, _, rfl⟩ := hu
  rfl
/-- slices.Clone of bytes. -/
theorem clone_bytes (ao : Option Addr) (cp : Nat) (l : List UInt8) (w : World) (hown : w.ownsRow 0 5 1 (.slice ao l.length cp) l.length (bytesC l)) (hb : l.length ≤ 140737488355328) :
    Calls Tryz.prog 67 #[.slice ao l.length cp] w fun e w' => ∃ bo bp, e = .returned (.slice bo l.length bp) ∧ w'.ownsRow 0 5 1 (.slice bo l.length bp) l.length (bytesC l) ∧ (∀ j, (bo.map Addr.block) = some j → w.heap.size ≤ j) ∧ Below w.heap.size w w' := by
  obtain ⟨i0, hi0, hz0, hz1, hz2⟩ := info_parts infoU8
  cases ao with
  | none =>
    have h0 : l.length = 0 := by
      rcases hown.2 with ⟨_, h⟩ | ⟨g, cap, cur, h, _⟩
      · exact h
      · cases h
    have hl : l = [] := List.eq_nil_of_length_eq_zero h0
    subst hl
    have h := AnyE.slices_Clone_nil Tryz.shSlice 0 cp w
    refine h.mono fun e w' ⟨h1, h2⟩ => ?_
    subst h1 h2
    exact ⟨none, 0, rfl, World.ownsRow_nil _ _ _ _, (fun j e => by cases e), Below.refl _ _⟩
  | some a =>
    obtain ⟨g, hg⟩ : ∃ g, a = ⟨g, 0, none⟩ := by
      rcases hown.2 with ⟨h, _⟩ | ⟨g, cap, cur, h, _⟩
      · cases h
      · cases h; exact ⟨g, rfl⟩
    subst hg
    have h := AnyE.slices_Clone Tryz.shSlice i0 (.int .u8 0) 1 1 hi0 hz0 hz1 hz2 rfl (by omega) Tryz.sizeOf5 g 0 l.length cp (bytesC l) w (by rw [bytesC_length, Nat.mul_one]) (by unfold maxLen; omega) (by omega)
      (fun j u hj => by have h := hown.cells rfl j u hj; rw [Addr.add_lit] at h; exact h) (bytesC_one l)
    refine h.mono fun e w' ⟨v', h1, h2, h3, h4⟩ => ?_
    obtain ⟨bo, bp, rfl⟩ := row_slice h2
    have hA : (Value.slice bo l.length bp).ownBlock = bo.map Addr.block := by cases bo <;> rfl
    refine ⟨bo, bp, h1, ⟨h2.1, ?_⟩, fun j hj => (h2.lt j (hA.trans hj)).1, h4⟩
    rcases h2.2 with h | ⟨g', cap', cur', a1, a2, a3⟩
    · exact .inl h
    · exact .inr ⟨g', cap', cur', a1, Nat.zero_le _, a3⟩

theorem settleAll_any (f : Nat) (nv : Value) (lo : Option Addr) (lc : Nat) (sv : Value) (l : List UInt8) (A : List FA) (w : World)
    (hbox : w.heap[f]? = some (.cells #[nv, .slice lo l.length lc, sv] 66 (0, 0))) (hl : w.ownsRow 0 5 1 (.slice lo l.length lc) l.length (bytesC l)) (hs : w.ownsRow 0 98 2 sv A.length (actsC A)) (hm : A.length < 1000000)
    (hheld : ∀ a ∈ A, a.held w) (hfit : fitAll l A) (hbig : l.length + unitsAll A ≤ 140737488355328)
    (hlf : (lo.map Addr.block) ≠ some f) (hsf : sv.ownBlock ≠ some f) (hls : ∀ j, (lo.map Addr.block) = some j → sv.ownBlock ≠ some j) (hcap : ∀ a ∈ A, a.cap ≠ f ∧ (lo.map Addr.block) ≠ some a.cap) :
    Calls Tryz.prog 56 #[.pointer (some ⟨f, 0, none⟩)] w fun e w' => e = .returned (.tuple #[]) ∧ ∃ ao cp, w'.heap[f]? = some (.cells #[nv, .slice ao (runAll l A).length cp, .slice none 0 0] 66 (0, 0)) ∧
      w'.ownsRow 0 5 1 (.slice ao (runAll l A).length cp) (runAll l A).length (bytesC (runAll l A)) ∧ ((ao.map Addr.block) = (lo.map Addr.block) ∨ ∃ j, (ao.map Addr.block) = some j ∧ w.heap.size ≤ j) ∧
      Touch (fun j => j = f ∨ (lo.map Addr.block) = some j) w w' := by
  have h := settle_any f nv lo lc sv l A 9223372036854775807 w hbox hl hs hm (by omega) hheld hfit hbig hlf hsf hls hcap
  rw [settleL_all l A _ (by omega)] at h
  have HC := hide h
  clear h hbox hl hs hheld hfit hlf hsf hls hcap
  go_enter Tryz.func56, Tryz.ntmps56
  go_wp2_with (go_at_call 66; refine HC.out.mono ?_; rintro e w' ⟨rfl, hp⟩)
  go_end0
  exact ⟨rfl, hp⟩

set_option maxHeartbeats 1000000 in
theorem fcrash_any (f : Nat) (nv : Value) (lo : Option Addr) (lc : Nat) (sv : Value) (l : List UInt8) (A : List FA) (u0 : Int) (w : World)
    (hbox : w.heap[f]? = some (.cells #[nv, .slice lo l.length lc, sv] 66 (0, 0))) (hl : w.ownsRow 0 5 1 (.slice lo l.length lc) l.length (bytesC l)) (hs : w.ownsRow 0 98 2 sv A.length (actsC A)) (hm : A.length < 1000000)
    (hu0 : -9223372036854775808 ≤ u0 ∧ u0 ≤ 9223372036854775807) (hheld : ∀ a ∈ A, a.held w) (hfit : fitAll l A) (hbig : l.length + unitsAll A ≤ 140737488355328)
    (hlf : (lo.map Addr.block) ≠ some f) (hsf : sv.ownBlock ≠ some f) (hls : ∀ j, (lo.map Addr.block) = some j → sv.ownBlock ≠ some j) (hcap : ∀ a ∈ A, a.cap ≠ f ∧ (lo.map Addr.block) ≠ some a.cap) :
    Calls Tryz.prog 29 #[.pointer (some ⟨f, 0, none⟩), .int .i64 u0] w fun e w' => e = .returned (.tuple #[]) ∧ ∃ bo bp ao cp, w'.heap[f]? = some (.cells #[.slice bo (settleL l A u0).length bp, .slice ao (settleL l A u0).length cp, .slice none 0 0] 66 (0, 0)) ∧
      w'.ownsRow 0 5 1 (.slice bo (settleL l A u0).length bp) (settleL l A u0).length (bytesC (settleL l A u0)) ∧ w'.ownsRow 0 5 1 (.slice ao (settleL l A u0).length cp) (settleL l A u0).length (bytesC (settleL l A u0)) ∧
      (∀ j, (bo.map Addr.block) = some j → w.heap.size ≤ j ∧ (ao.map Addr.block) ≠ some j) ∧ ((ao.map Addr.block) = (lo.map Addr.block) ∨ ∃ j, (ao.map Addr.block) = some j ∧ w.heap.size ≤ j) ∧
      Touch (fun j => j = f ∨ (lo.map Addr.block) = some j) w w' := by
  have hfl := heap_lt hbox
  have HC := hide (settle_any f nv lo lc sv l A u0 w hbox hl hs hm hu0 hheld hfit hbig hlf hsf hls hcap)
  have hlen := settleL_length l A u0
  have HF := hide hlf
  clear hbox hl hs hheld hfit hsf hls hcap hlf
  generalize settleL l A u0 = L at *
  have HCL := hide (fun ao cp w => clone_bytes ao cp L w)
  go_enter Tryz.func29, Tryz.ntmps29
  go_wp2_with fail
  refine HC.out.mono ?_
  rintro e w1 ⟨rfl, ao, cp, h1, h2, h3, h4⟩
  have H1 := hide h1
  have H2 := hide h2
  have H3 := hide h3
  have H4 := hide h4
  clear h1 h2 h3 h4 HC
  have k1 : w1.cell? ⟨f, 1, none⟩ = some (.slice ao L.length cp) := box_cell H1.out 1 rfl
  go_wp2_with fail
  refine (HCL.out ao cp w1 H2.out (by omega)).mono ?_
  rintro e w2 ⟨bo, bp, rfl, h5, h6, h7⟩
  have H5 := hide h5
  have H6 := hide h6
  have H7 := hide h7
  clear h5 h6 h7 k1
  have K1 := hide (Below.at H7.out H1.out)
  have k0 : w2.cell? ⟨f, 0, none⟩ = some nv := box_cell K1.out 0 rfl
  have kf := box_free K1.out 0
  go_wp2
  go_end0
  have hA : (Value.slice ao L.length cp).ownBlock = ao.map Addr.block := by cases ao <;> rfl
  have hB : (Value.slice bo L.length bp).ownBlock = bo.map Addr.block := by cases bo <;> rfl
  have hsz := H4.out.size
  have hf1 := heap_lt H1.out
  refine ⟨rfl, bo, bp, ao, cp, box_set K1.out 0 _, set_row H5.out f 0 _ (fun e => ?_), set_row (below_row H7.out H2.out) f 0 _ (fun e => ?_), fun j hj => ?_, H3.out, (H4.out.below H7.out).setCell _ _ fun _ => .inl rfl⟩
  · rw [hB] at e
    have := H6.out f e
    omega
  · rw [hA] at e
    rcases H3.out with h | ⟨j, h, hj⟩
    · rw [h] at e; exact HF.out e
    · rw [h] at e; cases e; omega
  · have h := H6.out j hj
    refine ⟨by omega, fun e => ?_⟩
    have := row_lt H2.out (hA.trans e)
    omega

end Go.Proofs.YtknldpaaikcedaaGreat
