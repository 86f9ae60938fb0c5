/-
  CompactKeeps, as it runs.
-/
import Derived.Test.YtobphbncagapfaaE1
import Derived.Laws.AppendOwnNone
namespace Go.Proofs.Ytobphbncagapfaa
open Go.RowKit Go.Maps

theorem recs_news {w : World} {ad : Addr} {n cap : Nat} {l : List Rec} (h : RecsAt w (.slice (some ad) n cap) l) : ∀ (j : Nat) (u : Value), (recCells l)[j]? = some u → w.cell? (ad.add j) = some u := by
  intro j u hj
  have hjl : j < (recCells l).length := (List.getElem?_eq_some_iff.1 hj).1
  rw [recCells_length] at hjl
  have hi : j / 5 < l.length := by omega
  obtain ⟨ao, c, hv, _, ha⟩ := h
  injection hv with h1 _ _
  obtain ⟨b, off, hb, _, hc⟩ := ha (j / 5) hi
  rw [← h1] at hb
  injection hb with hb
  subst hb
  have e : j = j / 5 * 5 + j % 5 := by omega
  have hg := recCells_get l (j / 5) (j % 5) hi (by omega)
  rw [← e, hj] at hg
  have := hc (j % 5) (by omega)
  rw [← hg] at this
  rw [Lib.addr_add, ← this]
  congr 2
  omega
theorem recCells_one (l : List Rec) : ∀ u ∈ recCells l, u.oneCell' = true := by
  intro u hu
  obtain ⟨x, _, hx⟩ := List.mem_flatMap.1 hu
  simp [Rec.cells] at hx
  rcases hx with rfl | rfl | rfl | rfl | rfl <;> rfl
/-- A list that came in, appended to nothing. -/
theorem wpList_append_all {w : World} {ops : Array Oper} {rest : List Oper} {o : Oper} {a : Act} {Q : Exit → Act → World → Prop} (hgd : o.guard = none) (s x : Operand)
    (ho : o.op = .call { callee := .builtin .append, args := #[s, x], argTypes := #[22, 22] }) (hs : a.eval s = .slice none 0 0)
    (xo : Option Addr) (xcap : Nat) (l : List Rec) (hx : a.eval x = .slice xo l.length xcap) (hnil : xo = none → xcap = 0 ∧ l = []) (hat : RecsAt w (.slice xo l.length xcap) l) (hlen : l.length ≤ 1048576)
    (h : ∀ oo oc w', w'.ownsRow w.heap.size 30 5 (.slice oo l.length oc) l.length (recCells l) → Below w.heap.size w w' → wpList Try.prog ops Q rest (a.put o.dst (.slice oo l.length oc)) w') : wpList Try.prog ops Q (o :: rest) a w := by
  cases xo with
  | none =>
    obtain ⟨rfl, rfl⟩ := hnil rfl
    refine wpList_append_own_none hgd s x 22 ho w.heap.size 30 Try.t30 5 Try.underlying22 Try.infoRec (.slice none 0 0) 0 [] hs (nil_own _ _ _ _) hx ?_
    exact h none 0 w (nil_own _ _ _ _) (Below.refl _ _)
  | some ad =>
    refine wpList_append_own w hgd s x 22 ho w.heap.size 30 Try.t30 _ 5 64 Try.underlying22 Try.infoRec Try.zeroRec Try.sizeRec Try.bytesRec rfl (by decide) (.slice none 0 0) 0 [] hs (nil_own _ _ _ _)
      ad l.length xcap (recCells l) hx (recCells_length l) (recs_news hat) (recCells_one l) (by unfold maxLen; omega) (by omega) (Nat.le_refl _) ?_
    intro v' w' h1 h2 _
    rw [Nat.zero_add, List.nil_append] at h1
    obtain ⟨oo, oc, rfl⟩ := row_slice h1
    exact h oo oc w' h1 ((Below.refl _ _).grown h2 (Nat.le_refl _) (fun j hj => by cases hj))
set_option maxHeartbeats 4000000 in
set_option maxRecDepth 100000 in
theorem keeps_walk (l : List Rec) (ao : Option Addr) (ac : Nat) (upto : Int) (w : World) (hl : l.length ≤ 1048576) (hok : ∀ r ∈ l, r.ok) (hat : RecsAt w (.slice ao l.length ac) l) (hnil : ao = none → ac = 0 ∧ l = []) :
    Calls Try.prog 3 #[.slice ao l.length ac, .int .i64 upto] w fun e w' => e = .returned (.bool true) ∧ Below w.heap.size w w' := by
  have HE := hide (examples_any w)
  have HK := hide (fun v W h => keep_any upto l hl hok v W h)
  have HG := hide (fun v W h => gone_any upto l hl hok v W h)
  have HRK := hide (fun v W h => rkeep_any upto l hl v W h)
  have HRG := hide (fun v W h => rgone_any upto l hl v W h)
  have hkl := keepF_length upto l
  have hgl := goneF_length upto l
  generalize keepF upto l = KL at *
  generalize goneF upto l = GL at *
  have HS1 := hide (fun va vb W h1 h2 => records_below KL va vb W (by omega) h1 h2)
  have HS2 := hide (fun va vb W h1 h2 => records_below l va vb W (by omega) h1 h2)
  have HN := hide hnil
  have A0 := hide hat
  clear hat hok hnil
  go_enter Try.func3, Try.ntmps3
  go_wp2_with fail
  refine HE.out.mono ?_
  rintro e w1 ⟨rfl, b1⟩
  have B1 := hide b1
  have A1 := hide (A0.out.below b1)
  clear b1 A0 HE
  go_wp2_with (first | (at_builtin; refine wpList_append_all rfl _ _ rfl rfl _ _ l rfl HN.out A1.out hl ?_; intro oo oc w2 o2 b2; have B2 := hide (B1.out.trans (b2.mono B1.out.size)); have A2 := hide (A1.out.below b2); have R2 := hide (recs_of_own o2); clear o2 b2) | fail)
  refine (HK.out _ _ R2.out).mono ?_
  rintro e w3 ⟨v3, rfl, o3, b3⟩
  have B3 := hide (B2.out.trans (b3.mono B2.out.size))
  have A3 := hide (A2.out.below b3)
  have R3 := hide (R2.out.below b3)
  have K3 := hide (recs_of_own o3)
  obtain ⟨ko, kc, rfl⟩ := row_slice o3
  clear b3 o3 B1 A1 B2 A2 R2 HK
  go_wp2_with fail
  refine (HG.out _ _ R3.out).mono ?_
  rintro e w4 ⟨v4, rfl, o4, b4⟩
  have B4 := hide (B3.out.trans (b4.mono B3.out.size))
  have A4 := hide (A3.out.below b4)
  have R4 := hide (R3.out.below b4)
  have K4 := hide (K3.out.below b4)
  have G4 := hide o4
  obtain ⟨go, gc, rfl⟩ := row_slice o4
  clear b4 o4 B3 A3 R3 K3 HG
  go_wp2_with fail
  refine (HRG.out _ _ A4.out).mono ?_
  rintro e w5 ⟨v5, rfl, o5, b5⟩
  have B5 := hide (B4.out.trans (b5.mono B4.out.size))
  have A5 := hide (A4.out.below b5)
  have R5 := hide (R4.out.below b5)
  have K5 := hide (K4.out.below b5)
  have G5 := hide (own_below G4.out b5)
  have H5 := hide o5
  obtain ⟨ho, hc, rfl⟩ := row_slice o5
  clear b5 o5 B4 A4 R4 K4 G4 HRG
  go_wp2_with fail
  refine (HRK.out _ _ A5.out).mono ?_
  rintro e w6 ⟨v6, rfl, o6, b6⟩
  have B6 := hide (B5.out.trans (b6.mono B5.out.size))
  have A6 := hide (A5.out.below b6)
  have R6 := hide (R5.out.below b6)
  have K6 := hide (K5.out.below b6)
  have G6 := hide (own_below G5.out b6)
  have H6 := hide (own_below H5.out b6)
  have L6 := hide (recs_of_own o6)
  obtain ⟨lo, lc, rfl⟩ := row_slice o6
  clear b6 o6 B5 A5 R5 K5 G5 H5 HRK
  go_wp2_with fail
  refine (HS1.out _ _ _ K6.out L6.out).mono ?_
  rintro e w7 ⟨rfl, b7⟩
  have B7 := hide (B6.out.trans (b7.mono B6.out.size))
  have A7 := hide (A6.out.below b7)
  have R7 := hide (R6.out.below b7)
  have G7 := hide (own_below G6.out b7)
  have H7 := hide (own_below H6.out b7)
  clear b7 B6 A6 R6 K6 L6 G6 H6 HS1
  go_wp2_with fail
  refine (HS2.out _ _ _ R7.out A7.out).mono ?_
  rintro e w8 ⟨rfl, b8⟩
  have B8 := hide (B7.out.trans (b8.mono B7.out.size))
  have G8 := hide (own_below G7.out b8)
  have H8 := hide (own_below H7.out b8)
  clear b8 B7 A7 R7 G7 H7 HS2 HN
  go_wp2
  go_loopw [12] (fun iv wv => ∃ k n : Nat, k ≤ GL.length ∧ iv = .int .i64 k ∧ wv = w8.drewN n) (fun iv _ => GL.length - (intOf iv).toNat)
  case atStart => exact ⟨0, 0, Nat.zero_le _, rfl, rfl⟩
  case round =>
    obtain ⟨k, n, hk, rfl, rfl⟩ := hrel
    by_cases hlt : k < GL.length
    · obtain ⟨b, off, rfl, a0⟩ := ints_at G8.out k hlt
      obtain ⟨b2, off2, rfl, a2⟩ := ints_at H8.out k hlt
      have hi0 : (0 : Int) ≤ (k : Int) := by omega
      have hi1 : (k : Int) < (GL.length : Int) := by omega
      generalize GL[k] = x at *
      go_wp2
      go_quiet (fail)
      go_wp2
      exact ⟨⟨k + 1, n + nq, by omega, by go_num, rfl⟩, by simp [intOf]; omega⟩
    · have hi1 : ¬ (k : Int) < (GL.length : Int) := by omega
      go_wp2
      go_ret
      exact ⟨rfl, B8.out.trans ⟨rfl, rfl, rfl, Nat.le_refl _, fun _ _ => rfl⟩⟩
end Go.Proofs.Ytobphbncagapfaa
