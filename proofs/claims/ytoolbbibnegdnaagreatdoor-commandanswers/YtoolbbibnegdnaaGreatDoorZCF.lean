/-
  Answer (mkcf.py)
-/
import Derived.Test.YtoolbbibnegdnaaGreatDoorZCE
namespace Go.Proofs.YtoolbbibnegdnaaGreatDoor
open Go.RowKit

attribute [local go_sem ↓] Go.wp_at_zero Go.wp_at_succ
set_option linter.unusedSimpArgs false
set_option linter.unusedVariables false
theorem itemsP_ok {a : Int} {r : RP} (ha : askOk a) (h : r.right) : ∀ x ∈ itemsP a r, x.ok := by
  obtain ⟨c1, c2, n1, n2, _, hr⟩ := h
  obtain ⟨a1, a2⟩ := ha
  have z0 : (⟨#[]⟩ : ByteArray).size = 0 := rfl
  intro x hx
  rcases List.mem_cons.1 hx with rfl | hx
  · exact ⟨by simp, by simp, by simp only; omega, by simp only; omega, by simp only [z0] <;> omega⟩
  rcases List.mem_cons.1 hx with rfl | hx
  · exact ⟨by simp, by simp, by simp only; omega, by simp only; omega, by simp only [z0] <;> omega⟩
  rcases List.mem_cons.1 hx with rfl | hx
  · exact ⟨by simp, by simp, by simp only; omega, by simp only; omega, by simp only [z0] <;> omega⟩
  obtain ⟨m, hm, hx⟩ := List.mem_flatMap.1 hx
  exact itemsR_ok (hr m hm) x hx
theorem items_below {w w' : World} {ao : Option Addr} {l : List K.It} (h : K.ItemsAt w ao l) (hb : Below w.heap.size w w') : K.ItemsAt w' ao l := fun i hi => by
  obtain ⟨b, off, e1, e2, e3, e4, e5⟩ := h i hi
  exact ⟨b, off, e1, Nat.lt_of_lt_of_le e2 hb.size, (hb.cell (p := ⟨b, _, none⟩) e2).trans e3, (hb.cell (p := ⟨b, _, none⟩) e2).trans e4, (hb.cell (p := ⟨b, _, none⟩) e2).trans e5⟩
theorem greatB_iff (n : Int) : greatB n = decide (askOk n) := by
  rw [Bool.eq_iff_iff, decide_eq_true_eq]
  simp [greatB, askOk]
/-- What the program's call framed says of a reply's items. -/
theorem frmP_call {ask : Int} {r : RP} (ha : askOk ask) (hr : r.right) (oo : Option Addr) (oc : Nat) (w : World) (hT : Tab w) (h : K.ItemsAt w oo (itemsP ask r)) : Calls Tryz.prog 18 #[.slice oo (itemsP ask r).length oc] w fun e w' => e = .returned (.tuple #[.string ⟨(oneP ask r).toArray⟩, .int .i64 0]) ∧ Below w.heap.size w w' :=
  pframed (its := itemsP ask r) (by have := codeP_le (a := ask) hr; omega : (codeP ask r).length ≤ 400000) _ w hT (fun W hW => by
    have := K.encode_any oo oc (itemsP ask r) W (items_below h hW) (itemsP_ok ha hr) (by rw [itemsP_len]; have := hr.2.2.2.2.1; unfold maxLen; omega)
    rw [encP ha hr] at this
    exact this)
set_option maxHeartbeats 4000000 in
theorem pansw_good (ask : Int) (r : RP) (ha : askOk ask) (hr : r.right) (ao : Option Addr) (cap : Nat) (w : World) (hT : Tab w) (hat : RecsC w ao r.recs) (hok : ∀ x ∈ r.recs, x.ok) :
    Calls Tryz.prog 10 #[.int .i64 ask, r.v ao cap] w fun e w' => e = .returned (.tuple #[.string ⟨(oneP ask r).toArray⟩, .int .i64 0]) ∧ Below w.heap.size w w' := by
  have HN := hide (fun w => pnumber ask w)
  rw [greatB_iff, decide_eq_true ha] at HN
  have HR : Hid (∀ W, Below w.heap.size w W → Calls Tryz.prog 26 #[r.v ao cap] W fun e w' => e = .returned (.bool true) ∧ Below W.heap.size W w') := fun W hW => by
    have := pisreply r ao cap W (hat.below hW (Nat.le_refl _)) hok (by have := hr.2.2.2.2.1; omega)
    rw [decide_eq_true hr] at this
    exact this
  have HI := hide (fun W (hW : Below w.heap.size w W) => preplyitems ask r ha hr ao cap W (hat.below hW (Nat.le_refl _)))
  have HF := hide (fun oo oc W hT h => frmP_call ha hr oo oc W hT h)
  have HT := hide hT
  have HX := hide (heap_alloc_new w (.cells #[.int .i64 r.code, .int .i64 r.n, .slice ao r.recs.length cap] 37))
  have HB := hide ((Below.refl w.heap.size w).alloc (Nat.le_refl _) (.cells #[.int .i64 r.code, .int .i64 r.n, .slice ao r.recs.length cap] 37))
  generalize (oneP ask r).toArray = fr at *
  generalize itemsP ask r = its at *
  obtain ⟨code, n, l⟩ := r
  clear ha hr hat hok hT
  simp only [RP.v] at *
  generalize l.length = ll at *
  go_enter Tryz.func10, Tryz.ntmps10
  go_wp2_with fail
  refine (HN.out _).mono ?_
  rintro e w' ⟨rfl, rfl⟩
  go_wp2_with fail
  refine (HR.out _ HB.out).mono ?_
  rintro e w2 ⟨rfl, b2⟩
  have B2 := hide (HB.out.trans (b2.mono HB.out.size))
  have x2 := (b2.block _ (heap_lt HX.out)).trans HX.out
  have c0 := box_cell x2 0 rfl
  have c1 := box_cell x2 1 rfl
  have c2 := box_cell x2 2 rfl
  clear b2 x2 HR HN
  go_wp2_with fail
  refine (HI.out _ B2.out).mono ?_
  rintro e w3 ⟨oo, oc, rfl, h3, b3⟩
  have B3 := hide (B2.out.trans (b3.mono B2.out.size))
  have HA := hide h3
  clear b3 h3 c0 c1 c2 HI
  go_wp2_with fail
  refine (HF.out _ _ _ (HT.out.below B3.out) HA.out).mono ?_
  rintro e w4 ⟨rfl, b4⟩
  have B4 := hide (B3.out.trans (b4.mono B3.out.size))
  clear b4
  go_wp2
  go_ret2
  exact ⟨rfl, B4.out⟩
set_option maxHeartbeats 4000000 in
theorem pansw_bad (ask : Int) (r : RP) (hbad : ¬ (askOk ask ∧ r.right)) (ao : Option Addr) (cap : Nat) (w : World) (hat : RecsC w ao r.recs) (hok : ∀ x ∈ r.recs, x.ok) (hlen : r.recs.length ≤ 9223372036854775807) :
    Calls Tryz.prog 10 #[.int .i64 ask, r.v ao cap] w fun e w' => e = .returned (.tuple #[.string ⟨#[]⟩, .int .i64 1]) ∧ Below w.heap.size w w' := by
  have HN := hide (fun w => pnumber ask w)
  rw [greatB_iff] at HN
  have HR : Hid (∀ W, Below w.heap.size w W → Calls Tryz.prog 26 #[r.v ao cap] W fun e w' => e = .returned (.bool (decide r.right)) ∧ Below W.heap.size W w') := fun W hW => pisreply r ao cap W (hat.below hW (Nat.le_refl _)) hok hlen
  have HB := hide ((Below.refl w.heap.size w).alloc (Nat.le_refl _) (.cells #[.int .i64 r.code, .int .i64 r.n, .slice ao r.recs.length cap] 37))
  by_cases ha : askOk ask
  · have hr : ¬ r.right := fun h => hbad ⟨ha, h⟩
    rw [decide_eq_true ha] at HN
    rw [decide_eq_false hr] at HR
    obtain ⟨code, n, l⟩ := r
    clear ha hr hat hok hbad hlen
    simp only [RP.v] at *
    generalize l.length = ll at *
    go_enter Tryz.func10, Tryz.ntmps10
    go_wp2_with fail
    refine (HN.out _).mono ?_
    rintro e w' ⟨rfl, rfl⟩
    go_wp2_with fail
    refine (HR.out _ HB.out).mono ?_
    rintro e w2 ⟨rfl, b2⟩
    have B2 := hide (HB.out.trans (b2.mono HB.out.size))
    clear b2
    go_wp2
    go_ret2
    exact ⟨rfl, B2.out⟩
  · rw [decide_eq_false ha] at HN
    obtain ⟨code, n, l⟩ := r
    clear ha hat hok hbad hlen HR
    simp only [RP.v] at *
    generalize l.length = ll at *
    go_enter Tryz.func10, Tryz.ntmps10
    go_wp2_with fail
    refine (HN.out _).mono ?_
    rintro e w' ⟨rfl, rfl⟩
    go_wp2
    go_ret2
    exact ⟨rfl, HB.out⟩
end Go.Proofs.YtoolbbibnegdnaaGreatDoor
