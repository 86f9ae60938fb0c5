/-
  Keep, Gone, as they run.
-/
import Derived.Test.YtominplelmbecaaZYC6
namespace Go.Proofs.Ytominplelmbecaa.Y
open Go.RowKit Go.Maps
set_option maxRecDepth 100000

theorem own_base {w : World} {B B' : Nat} {e : TypeId} {z : Nat} {v : Value} {n : Nat} {xs : List Value} (h : w.ownsRow B e z v n xs) (hB : B' ≤ B) : w.ownsRow B' e z v n xs := by
  refine ⟨h.1, ?_⟩
  rcases h.2 with h2 | ⟨g, cap, cur, hv, hg, r⟩
  · exact .inl h2
  · exact .inr ⟨g, cap, cur, hv, Nat.le_trans hB hg, r⟩
set_option maxHeartbeats 4000000 in
theorem keep_any (upto : Int) (l : List Rec) (hl : l.length ≤ 1048576) (hok : ∀ r ∈ l, r.ok) (v : Value) (w : World) (hat : RecsAt w v l) :
    Calls Try.prog 47 #[v, .int .i64 upto] w fun e w' => ∃ v', e = .returned v' ∧ w'.ownsRow w.heap.size 63 5 v' (keepF upto l).length (recCells (keepF upto l)) ∧ Below w.heap.size w w' := by
  have HP := hide (lastPlaces_any l v w hat hok hl)
  obtain ⟨ao, ac, rfl, _, _⟩ := id hat
  have HA := hide hat
  have HOK := hide hok
  generalize hK : keepF upto l = KL
  have HK0 := hide hK
  clear hat hK hok
  go_enter Try.func47, Try.ntmps47
  go_wp2_with fail
  refine HP.out.mono ?_
  rintro e w1 ⟨mb, n, D, rfl, hmb, om, ls, b1⟩
  have OM := hide om
  have LS := hide ls
  have B1 := hide b1
  clear om ls b1 HP
  go_wp2
  go_loopw [6, 13] (fun ov iv wv => ∃ (k : Nat) (out : List Rec) (oo : Option Addr) (oc : Nat), k ≤ l.length ∧ out.length ≤ k ∧ iv = .int .i64 k ∧ ov = .slice oo out.length oc ∧ Hid (out ++ keepF upto (l.drop k) = KL) ∧ Hid (wv.ownsRow w1.heap.size 63 5 (.slice oo out.length oc) out.length (recCells out)) ∧ Hid (Below w1.heap.size w1 wv)) (fun _ iv _ => l.length - (intOf iv).toNat)
  case atStart => exact ⟨0, [], none, 0, Nat.zero_le _, Nat.zero_le _, rfl, rfl, HK0.out, nil_own _ _ _ _, Below.refl _ _⟩
  case round =>
    obtain ⟨k, out, oo, oc, hk, hok, rfl, rfl, HI, OV, BV⟩ := hrel
    by_cases hlt : k < l.length
    · have hxo := HOK.out _ (List.getElem_mem hlt)
      have HG : Hid (∀ W : World, Below w1.heap.size w1 W → Calls Try.prog 58 #[l[k].v, .int .i64 k, .map (some mb), .int .i64 upto] W fun e w' => e = .returned (.bool (goesF upto l[k] (l.drop (k + 1)))) ∧ Below W.heap.size W w') := fun W hb => goes_any upto l k hlt hxo mb n D LS.out W (below_map hb OM.out)
      have hgo := @keepF_go upto l k hlt
      have hst := @keepF_stay upto l k hlt
      obtain ⟨_, b, off, rfl, hb, a0, a1, a2, a3, a4⟩ := ((HA.out.below B1.out).below BV.out).five k hlt
      have hi0 : (0 : Int) ≤ (k : Int) := by omega
      have hi1 : (k : Int) < (l.length : Int) := by omega
      generalize goesF upto l[k] (l.drop (k + 1)) = g at *
      have HX := hide (own_any l[k] hxo)
      generalize l[k] = x at *
      obtain ⟨xo, xp, xs, xk, xv⟩ := x
      simp only [Rec.v] at a0 a1 a2 a3 a4 hgo hst HG HX
      have x2 := heap_alloc_new wr (.cells #[.int .i64 xo, .string xp, .int .i64 xs, .string xk, .string xv] 63)
      have OA := hide (OV.out.alloc (.cells #[.int .i64 xo, .string xp, .int .i64 xs, .string xk, .string xv] 63))
      have BA := hide (BV.out.alloc BV.out.size (.cells #[.int .i64 xo, .string xp, .int .i64 xs, .string xk, .string xv] 63))
      have hrb : wr.heap.size < (wr.alloc (.cells #[.int .i64 xo, .string xp, .int .i64 xs, .string xk, .string xv] 63)).heap.size := by simp
      have X2 := hide x2
      clear x2
      go_wp2_with fail
      refine (HG.out _ BA.out).mono ?_
      rintro e w2 ⟨rfl, b2⟩
      have B2 := hide (BA.out.trans (b2.mono BA.out.size))
      have O2 := hide (own_below OA.out b2)
      have X3 := hide ((b2.block wr.heap.size hrb).trans X2.out)
      clear OV BV OA BA X2 b2 hrb a0 a1 a2 a3 a4 HG
      generalize wr.heap.size = rb at *
      obtain ⟨⟨c0, c1, c2, c3, c4⟩, _⟩ := box5 X3.out
      clear X3
      cases g with
      | true =>
        have h1 := hgo rfl
        have H1 := hide (h1 ▸ HI.out)
        clear hgo hst h1 c0 c1 c2 c3 c4 HX
        go_wp2
        exact ⟨⟨k + 1, out, oo, oc, by omega, by omega, by go_num, rfl, H1, O2, B2⟩, by simp [intOf]; omega⟩
      | false =>
        have h1 := hst rfl
        have H1 := hide (h1 ▸ HI.out)
        clear hgo hst h1
        go_wp2_with (first | (go_at_call 59; refine (HX.out _).mono ?_; rintro e w3 ⟨rfl, b3⟩; have B3 := hide (B2.out.trans (b3.mono B2.out.size)); have O3 := hide (own_below O2.out b3); clear b3) | (at_builtin; refine wpList_append_own _ rfl _ _ 43 rfl w1.heap.size 63 Try.t63 _ 5 64 Try.underlying43 Try.infoRec Try.zeroRec Try.sizeRec Try.bytesRec rfl (by decide) (.slice oo out.length oc) out.length (recCells out) rfl (O3.out.alloc _) ⟨w3.heap.size, 0, none⟩ 1 1 [.int .i64 xo, .string xp, .int .i64 xs, .string xk, .string xv] rfl rfl (World.news_of_block (cs := #[.int .i64 xo, .string xp, .int .i64 xs, .string xk, .string xv]) (t := 63) (fr := (0, 0)) (heap_alloc_new w3 _)) (rec_ones _ _ _ _ _) (by unfold maxLen; omega) (by omega) (by have := B3.out.size; simp; omega) ?_; intro v4 w4 hown hgrow _; obtain ⟨oo4, oc4, rfl⟩ := row_slice hown))
        have hl4 : out.length + 1 = (out ++ [(⟨xo, xp, xs, xk, xv⟩ : Rec)]).length := by simp
        have O4 : Hid (w4.ownsRow w1.heap.size 63 5 (.slice oo4 (out ++ [(⟨xo, xp, xs, xk, xv⟩ : Rec)]).length oc4) (out ++ [(⟨xo, xp, xs, xk, xv⟩ : Rec)]).length (recCells (out ++ [(⟨xo, xp, xs, xk, xv⟩ : Rec)]))) := by
          rw [recCells_snoc, ← hl4]
          exact hown
        have B4 := hide ((B3.out.alloc B3.out.size _).grown hgrow (by have := B3.out.size; simp; omega) (fun j hj => (O3.out.lt j hj).1))
        exact ⟨⟨k + 1, out ++ [(⟨xo, xp, xs, xk, xv⟩ : Rec)], oo4, oc4, by omega, by simp; omega, by go_num, by simp, by rw [List.append_assoc]; exact H1.out, O4, B4⟩, by simp [intOf]; omega⟩
    · have hi1 : ¬ (k : Int) < (l.length : Int) := by omega
      have h1 := HI.out
      rw [List.drop_eq_nil_of_le (by omega)] at h1
      simp only [keepF, List.append_nil] at h1
      have H1 := hide h1.symm
      clear h1
      go_wp2
      go_ret
      rw [H1.out]
      exact ⟨_, rfl, own_base OV.out B1.out.size, B1.out.trans (BV.out.mono B1.out.size)⟩
end Go.Proofs.Ytominplelmbecaa.Y
