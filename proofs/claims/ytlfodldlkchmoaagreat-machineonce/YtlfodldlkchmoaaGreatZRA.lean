/-
  carillonref14's Word and need (mkrr.py)
-/
import Derived.Test.YtlfodldlkchmoaaGreatZJ15
import Derived.Test.YtlfodldlkchmoaaGreatZJ5
import Derived.Test.YtlfodldlkchmoaaGreatZJ7
import Derived.Test.YtlfodldlkchmoaaGreatZJ8
import Derived.Test.YtlfodldlkchmoaaGreatZPhiS
import Derived.Test.YtlfodldlkchmoaaGreatZJ12
import Derived.Test.YtlfodldlkchmoaaGreatZC6
namespace Go.Proofs.YtlfodldlkchmoaaGreat.Y
open Go.RowKit
set_option maxHeartbeats 8000000
set_option maxRecDepth 100000
attribute [local go_sem ↓] Go.wp_at_zero Go.wp_at_succ
set_option linter.unusedSimpArgs false
set_option linter.unusedVariables false
open Go.Maps
theorem right_fits {cm : CM} (h : cm.right = true) : fitsB cm = true := by
  unfold CM.right at h
  simp only [Bool.and_eq_true] at h
  exact h.2.2.2
theorem right_word {cm : CM} (h : cm.right = true) (hk : cm.kind = 1) : wordB cm.topic = true := by
  have h2 := right_fits h
  unfold fitsB at h2
  simp only [Bool.and_eq_true] at h2
  have h3 := h2.1
  rw [hk] at h3
  exact h3
theorem right_node {cm : CM} (h : cm.right = true) (hk : cm.kind = 10 ∨ cm.kind = 11) : 0 ≤ cm.n ∧ cm.n < 7 := by
  have h2 := right_fits h
  unfold fitsB at h2
  simp only [Bool.and_eq_true] at h2
  have h3 := h2.2.2.2.2.2
  unfold manyB at h3
  rw [if_neg (by omega), if_neg (by omega), if_neg (by omega), if_pos hk] at h3
  simp only [Bool.and_eq_true, decide_eq_true_eq] at h3
  exact h3
theorem do_says (cm : CM) (hx : cm.right = true) : ∃ fk : Nat, (∀ W, (Instr.index 80 (.agg doA) (.int .i64 cm.kind)).run Tryz.prog W = .ok (.func (.func fk) #[] #[]) W) ∧ (∀ args w, (callFunc fk args).run Tryz.prog w = .ok (.enter fk args) w) ∧
    ∀ {w : World} {L : LM} {X : MS} {c : Nat}, MAt w L X → X.Ok c → c + 1 ≤ 100000 → Calls Tryz.prog fk #[.pointer (some ⟨L.b, 0, none⟩), .agg #[.int .i64 cm.kind, .string cm.topic, .string cm.name, .int .i64 cm.seq, .string cm.key, .string cm.val, .int .i64 cm.n, .int .i64 cm.node, .int .i64 cm.ask]] w fun e w' => Gave w L (doM X cm) e w' := by
  have k1 := (CM.small hx).k1
  have k2 := (CM.small hx).k2
  have h11 : cm.kind = 1 ∨ cm.kind = 2 ∨ cm.kind = 3 ∨ cm.kind = 4 ∨ cm.kind = 5 ∨ cm.kind = 6 ∨ cm.kind = 7 ∨ cm.kind = 8 ∨ cm.kind = 9 ∨ cm.kind = 10 ∨ cm.kind = 11 := by omega
  rcases h11 with hk | hk | hk | hk | hk | hk | hk | hk | hk | hk | hk
  · refine ⟨57, fun W => by rw [hk]; exact index_d1 W, enters_of Tryz.func57 (by kernel_rfl) rfl, fun {w L X c} h ho hc => ?_⟩
    have hword := right_word hx hk
    have e : doM X cm = createM X cm := by unfold doM; rw [if_pos hk]
    rw [e]
    exact pmcreate h ho hc cm hx hword
  · refine ⟨58, fun W => by rw [hk]; exact index_d2 W, enters_of Tryz.func58 (by kernel_rfl) rfl, fun {w L X c} h ho hc => ?_⟩
    have e : doM X cm = publishM X cm := by unfold doM; rw [if_neg (by omega), if_pos hk]
    rw [e]
    exact pmpublish h ho hc cm hx
  · refine ⟨59, fun W => by rw [hk]; exact index_d3 W, enters_of Tryz.func59 (by kernel_rfl) rfl, fun {w L X c} h ho hc => ?_⟩
    have e : doM X cm = subscribeM X cm := by unfold doM; rw [if_neg (by omega), if_neg (by omega), if_pos hk]
    rw [e]
    exact pmsubscribe h ho hc cm hx
  · refine ⟨60, fun W => by rw [hk]; exact index_d4 W, enters_of Tryz.func60 (by kernel_rfl) rfl, fun {w L X c} h ho hc => ?_⟩
    have e : doM X cm = attachM X cm := by unfold doM; rw [if_neg (by omega), if_neg (by omega), if_neg (by omega), if_pos hk]
    rw [e]
    exact pmattach h ho hc cm hx
  · refine ⟨61, fun W => by rw [hk]; exact index_d5 W, enters_of Tryz.func61 (by kernel_rfl) rfl, fun {w L X c} h ho hc => ?_⟩
    have e : doM X cm = pollM X cm := by unfold doM; rw [if_neg (by omega), if_neg (by omega), if_neg (by omega), if_neg (by omega), if_pos hk]
    rw [e]
    exact pmpoll h ho hc cm hx (by have := (CM.small hx).n2; omega)
  · refine ⟨62, fun W => by rw [hk]; exact index_d6 W, enters_of Tryz.func62 (by kernel_rfl) rfl, fun {w L X c} h ho hc => ?_⟩
    have e : doM X cm = ackM X cm := by unfold doM; rw [if_neg (by omega), if_neg (by omega), if_neg (by omega), if_neg (by omega), if_neg (by omega), if_pos hk]
    rw [e]
    exact pmack h ho hc cm hx
  · refine ⟨63, fun W => by rw [hk]; exact index_d7 W, enters_of Tryz.func63 (by kernel_rfl) rfl, fun {w L X c} h ho hc => ?_⟩
    have e : doM X cm = seekM X cm := by unfold doM; rw [if_neg (by omega), if_neg (by omega), if_neg (by omega), if_neg (by omega), if_neg (by omega), if_neg (by omega), if_pos hk]
    rw [e]
    exact pmseek h ho hc cm hx
  · refine ⟨64, fun W => by rw [hk]; exact index_d8 W, enters_of Tryz.func64 (by kernel_rfl) rfl, fun {w L X c} h ho hc => ?_⟩
    have e : doM X cm = trimM X cm := by unfold doM; rw [if_neg (by omega), if_neg (by omega), if_neg (by omega), if_neg (by omega), if_neg (by omega), if_neg (by omega), if_neg (by omega), if_pos hk]
    rw [e]
    exact pmtrim h ho hc cm hx
  · refine ⟨65, fun W => by rw [hk]; exact index_d9 W, enters_of Tryz.func65 (by kernel_rfl) rfl, fun {w L X c} h ho hc => ?_⟩
    have e : doM X cm = compactM X cm := by unfold doM; rw [if_neg (by omega), if_neg (by omega), if_neg (by omega), if_neg (by omega), if_neg (by omega), if_neg (by omega), if_neg (by omega), if_neg (by omega), if_pos hk]
    rw [e]
    exact pmcompact h ho hc cm hx
  · refine ⟨66, fun W => by rw [hk]; exact index_d10 W, enters_of Tryz.func66 (by kernel_rfl) rfl, fun {w L X c} h ho hc => ?_⟩
    have hnode := right_node hx (.inl hk)
    have e : doM X cm = joinM X cm := by unfold doM; rw [if_neg (by omega), if_neg (by omega), if_neg (by omega), if_neg (by omega), if_neg (by omega), if_neg (by omega), if_neg (by omega), if_neg (by omega), if_neg (by omega), if_pos hk]
    rw [e]
    exact pmjoin h ho hc cm hx hnode
  · refine ⟨67, fun W => by rw [hk]; exact index_d11 W, enters_of Tryz.func67 (by kernel_rfl) rfl, fun {w L X c} h ho hc => ?_⟩
    have hnode := right_node hx (.inr hk)
    have e : doM X cm = leaveM X cm := by unfold doM; rw [if_neg (by omega), if_neg (by omega), if_neg (by omega), if_neg (by omega), if_neg (by omega), if_neg (by omega), if_neg (by omega), if_neg (by omega), if_neg (by omega), if_neg (by omega)]
    rw [e]
    exact pmleave h ho hc cm hx hnode
def AtDone (rb : Nat) (L : LM) (P : RM × MS) (ao : Option Addr) (cp : Nat) (W w' : World) : Prop :=
  w'.heap[rb]? = some (.cells #[.int .i64 0, .int .i64 0, .slice none 0 0] 37 (0, 0)) ∧ RecsAt w' (.slice ao P.1.recs.length cp) P.1.recs ∧ ∃ L', MAt w' L' P.2 ∧ MStep W w' L L' ∧ ∀ g, (Value.slice ao 0 cp).ownBlock = some g → W.heap.size ≤ g ∧ ¬ L'.own g
theorem papply {w : World} {L : LM} {X : MS} {c : Nat} (h : MAt w L X) (hk : X.Ok c) (hc : c + 1 ≤ 100000) (hcn : X.cnt ≤ 1000000) (sx : ByteArray) (hs : sx.size ≤ 9223372036854775807) :
    Calls Tryz.prog 12 #[.pointer (some ⟨L.b, 0, none⟩), .string sx] w fun e w' => Gave w L (applyM X sx.data.toList) e w' := by
  have b1 : Below w.heap.size w (w.alloc (.cells #[.int .i64 0, .int .i64 0, .slice none 0 0] 37)) := (Below.refl w.heap.size w).alloc (Nat.le_refl _) _
  have r1 : (w.alloc (.cells #[.int .i64 0, .int .i64 0, .slice none 0 0] 37)).heap[w.heap.size]? = some (.cells #[.int .i64 0, .int .i64 0, .slice none 0 0] 37 (0, 0)) := heap_alloc_new w _
  have lb := h.lt.1
  have hX2 := hk.tick sx.data.toList
  go_enter Tryz.func12, Tryz.ntmps12
  refine wp_seq (reg_mono (my_r0 (by kernel_rfl) _ (v := ⟨_, _, _, _, _⟩) ⟨rfl, rfl, rfl, rfl, rfl, rfl, rfl⟩ ?_))
  intro a0 F0
  try dsimp only at F0
  generalize w.alloc (.cells #[.int .i64 0, .int .i64 0, .slice none 0 0] 37) = w1 at *
  have h1 := h.below b1
  have l1 := h1.lt.1
  refine wp_seq (reg_mono (my_r1 (by kernel_rfl) _ F0 rfl h1.cells.1 (h1.free _) hcn ?_))
  intro a1 F1
  have x2 := wset (o := 0) (x := .int .i64 ((X.cnt + 1 : Nat) : Int)) h1.box
  have t2 : Touch (fun j => j = L.b) w1 (w1.setCell ⟨L.b, 0, none⟩ (.int .i64 ((X.cnt + 1 : Nat) : Int))) := (Touch.refl (fun j => j = L.b) w1).setCell ⟨L.b, 0, none⟩ _ fun _ => rfl
  generalize w1.setCell ⟨L.b, 0, none⟩ (.int .i64 ((X.cnt + 1 : Nat) : Int)) = w2 at *
  refine wp_seq (reg_mono (my_r2 (re := X.dig.re) (im := X.dig.im) (by kernel_rfl) _ F1 rfl rfl (box_cell x2 1 rfl) (box_cell x2 2 rfl) (box_free x2 1) (box_free x2 2) (heap_lt x2) (G.On_right X.dig sx hk.dig hs w2) ?_))
  intro a2 w3 F2 b3
  have x3 := Below.at b3 x2
  have x4 := wset (o := 2) (x := .int .i64 (G.onP X.dig sx.data.toList).im) (wset (o := 1) (x := .int .i64 (G.onP X.dig sx.data.toList).re) x3)
  have t4 : Touch (fun j => j = L.b) w1 ((w3.setCell ⟨L.b, 1, none⟩ (.int .i64 (G.onP X.dig sx.data.toList).re)).setCell ⟨L.b, 2, none⟩ (.int .i64 (G.onP X.dig sx.data.toList).im)) := ((t2.below b3).setCell ⟨L.b, 1, none⟩ _ fun _ => rfl).setCell ⟨L.b, 2, none⟩ _ fun _ => rfl
  generalize (w3.setCell ⟨L.b, 1, none⟩ (.int .i64 (G.onP X.dig sx.data.toList).re)).setCell ⟨L.b, 2, none⟩ (.int .i64 (G.onP X.dig sx.data.toList).im) = w4 at *
  obtain ⟨h4, st4⟩ := h1.boxed (X' := X.tick sx.data.toList) t4 x4 rfl rfl rfl rfl
  have r4 := t4.at r1 (fun e => by omega)
  have s4 := t4.size
  refine wp_seq (reg_mono (my_r3 (cm := (decC sx.data.toList).1) (by kernel_rfl) _ F2 rfl (pdec sx hs w4) ?_))
  intro a3 w5 F3 b5
  try dsimp only at F3
  have b6 : Below w4.heap.size w4 (w5.alloc (.cells (decC sx.data.toList).1.cells 31)) := b5.alloc b5.size _
  have c6 := heap_alloc_new w5 (.cells (decC sx.data.toList).1.cells 31)
  have hE : applyM X sx.data.toList = if (decC sx.data.toList).2 ≠ 0 then (codedM 1, X.tick sx.data.toList) else doM (X.tick sx.data.toList) (decC sx.data.toList).1 := rfl
  have hright : (decC sx.data.toList).2 = 0 → (decC sx.data.toList).1.right = true := fun e => (decC_back e).1
  rw [hE]
  clear hE
  generalize decC sx.data.toList = D at *
  obtain ⟨cm, fx⟩ := D
  simp only at F3 b6 c6 hright ⊢
  have c6' : (w5.alloc (.cells #[.int .i64 cm.kind, .string cm.topic, .string cm.name, .int .i64 cm.seq, .string cm.key, .string cm.val, .int .i64 cm.n, .int .i64 cm.node, .int .i64 cm.ask] 31)).heap[w5.heap.size]? = some (.cells #[.int .i64 cm.kind, .string cm.topic, .string cm.name, .int .i64 cm.seq, .string cm.key, .string cm.val, .int .i64 cm.n, .int .i64 cm.node, .int .i64 cm.ask] 31 (0, 0)) := c6
  have b6' : Below w4.heap.size w4 (w5.alloc (.cells #[.int .i64 cm.kind, .string cm.topic, .string cm.name, .int .i64 cm.seq, .string cm.key, .string cm.val, .int .i64 cm.n, .int .i64 cm.node, .int .i64 cm.ask] 31)) := b6
  clear c6 b6
  generalize w5.alloc (.cells #[.int .i64 cm.kind, .string cm.topic, .string cm.name, .int .i64 cm.seq, .string cm.key, .string cm.val, .int .i64 cm.n, .int .i64 cm.node, .int .i64 cm.ask] 31) = w6 at *
  generalize X.tick sx.data.toList = Y at *
  have h6 := h4.below b6'
  have r6 := Below.at b6' r4
  have w16 : w.heap.size < w6.heap.size := heap_lt r6
  refine wp_seq (wp_seq (reg_mono (my_r4 (by kernel_rfl) _ F3 rfl ?_)))
  intro a4 F4 g4
  by_cases h0 : fx = 0
  case neg =>
    rw [if_pos h0]
    rw [beq_eq_false_iff_ne.2 h0] at g4
    refine wp_cond_true g4 ?_
    refine wp_seq (reg_mono (my_r5 (by kernel_rfl) _ F4 rfl r6 ?_))
    intro a5 w7 F5 b7
    refine wp_ret ?_
    simp only [Exit.then]
    obtain ⟨h9, st9⟩ := h.fin (rb := w.heap.size) b1 (Nat.le_refl _) (heap_lt r1) (h6.below b7) ((st4.then b6').then b7) (set3_touch (x0 := .int .i64 1) (x1 := .int .i64 0) (x2 := .slice none 0 0))
    exact my_ret F5 rfl (set3_box (Below.at b7 r6)) (gave0 (P := (codedM 1, Y)) rfl rfl rfl h9 st9)
  subst h0
  rw [if_neg (fun e => e rfl)]
  refine wp_cond_false g4 (wp_skip ?_)
  show Code.wp _ _ _ _ _
  have hx := hright rfl
  obtain ⟨fk, hi, hen, hdo⟩ := do_says cm hx
  have rno : ¬ L.own w.heap.size := fun e => by have := h.lim _ e; omega
  refine wp_seq (reg_mono (my_r6 (x := (doM Y cm).1.code) (y := (doM Y cm).1.n) (ln := (doM Y cm).1.recs.length) (R := AtDone w.heap.size L (doM Y cm)) (by kernel_rfl) _ F4 rfl rfl rfl c6' hi hen (fun ao cp W u u' q b => ⟨Below.at b q.1, q.2.1.below b, by obtain ⟨L', q1, q2, q3⟩ := q.2.2; exact ⟨L', q1.below b, q2.then b, q3⟩⟩) (fun ao cp W u q => q.1) (fun W hW => (hdo (h6.below hW) hX2 hc).mono fun e u q => ?_) ?_))
  · obtain ⟨ao, cp, q1, q2, L', q3, q4, q5⟩ := q
    exact ⟨ao, cp, q1, q4.touch.at (Below.at hW r6) rno, q2, L', q3, q4, q5⟩
  rintro a6 W w7 ao cp F6 bW ⟨q1, q2, L', q3, q4, q5⟩
  refine wp_ret ?_
  have t9 : Touch (fun j => j = w.heap.size) w7 (set3 w7 w.heap.size (.int .i64 (doM Y cm).1.code) (.int .i64 (doM Y cm).1.n) (.slice ao (doM Y cm).1.recs.length cp)) := set3_touch
  obtain ⟨h9, st9⟩ := h.fin (rb := w.heap.size) b1 (Nat.le_refl _) (heap_lt r1) q3 (((st4.then b6').then bW).trans q4) t9
  have hsz := bW.size
  exact my_ret F6 rfl (set3_box q1) ⟨ao, cp, rfl, RecsAt.keep q2 t9 (fun z e1 e2 => by have := (q5 z e1).1; omega), L', h9, st9, fun z e => ⟨by have := (q5 z e).1; omega, (q5 z e).2⟩⟩
end Go.Proofs.YtlfodldlkchmoaaGreat.Y
namespace Go.Proofs.YtlfodldlkchmoaaGreat
open Go.RowKit
set_option maxHeartbeats 4000000
set_option maxRecDepth 100000
attribute [local go_sem ↓] Go.wp_at_zero Go.wp_at_succ
set_option linter.unusedSimpArgs false
set_option linter.unusedVariables false
theorem rword (s : ByteArray) (h63 : s.size ≤ 9223372036854775807) (w : World) :
    Calls Tryz.prog 91 #[.string s] w fun e w' => e = .returned (.bool (wordB s)) ∧ w' = w := by
  have HG := hide (fun h1 h2 hh => word_good (s := s) h1 h2 hh)
  have HB := hide (fun k (hk : k < s.size) hb => word_bad (s := s) hk hb)
  have H0 := hide (@word_short s)
  have H20 := hide (@word_long s)
  generalize wordB s = r at *
  go_enter Tryz.func91, Tryz.ntmps91
  go_wp2
  go_loopw [3] (fun iv wv => ∃ k : Nat, k ≤ s.size ∧ iv = .int .i64 k ∧ wv = w ∧ Hid (((s.data.toList.take k).all fun b => letB b.toNat) = true)) (fun iv _ => s.size - (intOf iv).toNat)
  case atStart => exact ⟨0, Nat.zero_le _, rfl, rfl, rfl⟩
  case round =>
    obtain ⟨k, hk, rfl, rfl, HJ⟩ := hrel
    by_cases hlt : k < s.size
    · have hlt2 : (k : Int) < (s.size : Int) := by omega
      have HX : Hid (letB s[k].toNat = true → ((s.data.toList.take (k + 1)).all fun b => letB b.toNat) = true) := fun hb => by
        rw [take_snocC s k hlt, List.all_append, HJ.out]
        simp [hb]
      have HY := hide (HB.out k hlt)
      clear HB HJ HG H0 H20
      by_cases g1 : (97 : Int) ≤ (s[k].toNat : Int)
      · by_cases g2 : (s[k].toNat : Int) ≤ 122
        · have HZ := hide (HX.out (by unfold letB; simp; omega))
          clear HX HY
          go_wp2
          exact ⟨⟨k + 1, by omega, by go_num, trivial, HZ⟩, by simp [intOf]; omega⟩
        · have HR := hide (HY.out (by unfold letB; simp; omega))
          have g3 : (48 : Int) ≤ (s[k].toNat : Int) := by omega
          have g4 : ¬ (s[k].toNat : Int) ≤ 57 := by omega
          clear HX HY
          go_wp2
          go_ret
          exact ⟨by rw [HR.out]; rfl, rfl⟩
      · by_cases g3 : (48 : Int) ≤ (s[k].toNat : Int)
        · by_cases g4 : (s[k].toNat : Int) ≤ 57
          · have HZ := hide (HX.out (by unfold letB; simp; omega))
            clear HX HY
            go_wp2
            exact ⟨⟨k + 1, by omega, by go_num, trivial, HZ⟩, by simp [intOf]; omega⟩
          · have HR := hide (HY.out (by unfold letB; simp; omega))
            clear HX HY
            go_wp2
            go_ret
            exact ⟨by rw [HR.out]; rfl, rfl⟩
        · have HR := hide (HY.out (by unfold letB; simp; omega))
          clear HX HY
          go_wp2
          go_ret
          exact ⟨by rw [HR.out]; rfl, rfl⟩
    · have hlt2 : ¬ (k : Int) < (s.size : Int) := by omega
      have e : s.data.toList.take k = s.data.toList := List.take_of_length_le (by simp; omega)
      have HJ2 := HJ.out
      rw [e] at HJ2
      by_cases f1 : (s.size : Int) ≥ 1
      · by_cases f2 : (s.size : Int) ≤ 20
        · have HR := hide (HG.out (by omega) (by omega) HJ2)
          clear e HJ HB HG H0 H20 HJ2
          go_wp2
          go_ret
          exact ⟨by rw [HR.out]; rfl, rfl⟩
        · have HR := hide (H20.out (by omega))
          clear e HJ HB HG H0 H20 HJ2
          go_wp2
          go_ret
          exact ⟨by rw [HR.out]; rfl, rfl⟩
      · have HR := hide (H0.out (by omega))
        clear e HJ HB HG H0 H20 HJ2
        go_wp2
        go_ret
        exact ⟨by rw [HR.out]; rfl, rfl⟩
def hasN (k : Int) : Bool := decide (k = 3) || decide (5 ≤ k ∧ k ≤ 11)
theorem rneed (k : Int) (w : World) :
    Calls Tryz.prog 90 #[.int .i64 k] w fun e w' => e = .returned (.tuple #[.bool (hasTopic k), .bool (hasName k), .bool (decide (k = 2)), .bool (hasN k), .bool (kindOk k)]) ∧ w' = w := by
  by_cases hk : k = 1 ∨ k = 2 ∨ k = 3 ∨ k = 4 ∨ k = 5 ∨ k = 6 ∨ k = 7 ∨ k = 8 ∨ k = 9 ∨ k = 10 ∨ k = 11
  · rcases hk with rfl | rfl | rfl | rfl | rfl | rfl | rfl | rfl | rfl | rfl | rfl
    · go_enter Tryz.func90, Tryz.ntmps90
      go_wp2
      refine bodyPost_ret (v := .tuple #[.bool (hasTopic 1), .bool (hasName 1), .bool (decide ((1 : Int) = 2)), .bool (hasN 1), .bool (kindOk 1)]) (by simp [results, Tryz.results90, go_sem, hasTopic, hasName, hasN, kindOk]) rfl ⟨rfl, rfl⟩
    · go_enter Tryz.func90, Tryz.ntmps90
      go_wp2
      refine bodyPost_ret (v := .tuple #[.bool (hasTopic 2), .bool (hasName 2), .bool (decide ((2 : Int) = 2)), .bool (hasN 2), .bool (kindOk 2)]) (by simp [results, Tryz.results90, go_sem, hasTopic, hasName, hasN, kindOk]) rfl ⟨rfl, rfl⟩
    · go_enter Tryz.func90, Tryz.ntmps90
      go_wp2
      refine bodyPost_ret (v := .tuple #[.bool (hasTopic 3), .bool (hasName 3), .bool (decide ((3 : Int) = 2)), .bool (hasN 3), .bool (kindOk 3)]) (by simp [results, Tryz.results90, go_sem, hasTopic, hasName, hasN, kindOk]) rfl ⟨rfl, rfl⟩
    · go_enter Tryz.func90, Tryz.ntmps90
      go_wp2
      refine bodyPost_ret (v := .tuple #[.bool (hasTopic 4), .bool (hasName 4), .bool (decide ((4 : Int) = 2)), .bool (hasN 4), .bool (kindOk 4)]) (by simp [results, Tryz.results90, go_sem, hasTopic, hasName, hasN, kindOk]) rfl ⟨rfl, rfl⟩
    · go_enter Tryz.func90, Tryz.ntmps90
      go_wp2
      refine bodyPost_ret (v := .tuple #[.bool (hasTopic 5), .bool (hasName 5), .bool (decide ((5 : Int) = 2)), .bool (hasN 5), .bool (kindOk 5)]) (by simp [results, Tryz.results90, go_sem, hasTopic, hasName, hasN, kindOk]) rfl ⟨rfl, rfl⟩
    · go_enter Tryz.func90, Tryz.ntmps90
      go_wp2
      refine bodyPost_ret (v := .tuple #[.bool (hasTopic 6), .bool (hasName 6), .bool (decide ((6 : Int) = 2)), .bool (hasN 6), .bool (kindOk 6)]) (by simp [results, Tryz.results90, go_sem, hasTopic, hasName, hasN, kindOk]) rfl ⟨rfl, rfl⟩
    · go_enter Tryz.func90, Tryz.ntmps90
      go_wp2
      refine bodyPost_ret (v := .tuple #[.bool (hasTopic 7), .bool (hasName 7), .bool (decide ((7 : Int) = 2)), .bool (hasN 7), .bool (kindOk 7)]) (by simp [results, Tryz.results90, go_sem, hasTopic, hasName, hasN, kindOk]) rfl ⟨rfl, rfl⟩
    · go_enter Tryz.func90, Tryz.ntmps90
      go_wp2
      refine bodyPost_ret (v := .tuple #[.bool (hasTopic 8), .bool (hasName 8), .bool (decide ((8 : Int) = 2)), .bool (hasN 8), .bool (kindOk 8)]) (by simp [results, Tryz.results90, go_sem, hasTopic, hasName, hasN, kindOk]) rfl ⟨rfl, rfl⟩
    · go_enter Tryz.func90, Tryz.ntmps90
      go_wp2
      refine bodyPost_ret (v := .tuple #[.bool (hasTopic 9), .bool (hasName 9), .bool (decide ((9 : Int) = 2)), .bool (hasN 9), .bool (kindOk 9)]) (by simp [results, Tryz.results90, go_sem, hasTopic, hasName, hasN, kindOk]) rfl ⟨rfl, rfl⟩
    · go_enter Tryz.func90, Tryz.ntmps90
      go_wp2
      refine bodyPost_ret (v := .tuple #[.bool (hasTopic 10), .bool (hasName 10), .bool (decide ((10 : Int) = 2)), .bool (hasN 10), .bool (kindOk 10)]) (by simp [results, Tryz.results90, go_sem, hasTopic, hasName, hasN, kindOk]) rfl ⟨rfl, rfl⟩
    · go_enter Tryz.func90, Tryz.ntmps90
      go_wp2
      refine bodyPost_ret (v := .tuple #[.bool (hasTopic 11), .bool (hasName 11), .bool (decide ((11 : Int) = 2)), .bool (hasN 11), .bool (kindOk 11)]) (by simp [results, Tryz.results90, go_sem, hasTopic, hasName, hasN, kindOk]) rfl ⟨rfl, rfl⟩
  · have e1 : hasTopic k = false := by unfold hasTopic; simp; omega
    have e2 : hasName k = false := by unfold hasName; simp; omega
    have e3 : decide (k = 2) = false := by simp; omega
    have e4 : hasN k = false := by unfold hasN; simp; omega
    have e5 : kindOk k = false := by unfold kindOk; simp; omega
    rw [e1, e2, e3, e4, e5]
    clear e1 e2 e3 e4 e5
    have n1 : (k == 1) = false := by rw [beq_eq_false_iff_ne]; omega
    have n2 : (k == 2) = false := by rw [beq_eq_false_iff_ne]; omega
    have n3 : (k == 3) = false := by rw [beq_eq_false_iff_ne]; omega
    have n4 : (k == 4) = false := by rw [beq_eq_false_iff_ne]; omega
    have n5 : (k == 5) = false := by rw [beq_eq_false_iff_ne]; omega
    have n6 : (k == 6) = false := by rw [beq_eq_false_iff_ne]; omega
    have n7 : (k == 7) = false := by rw [beq_eq_false_iff_ne]; omega
    have n8 : (k == 8) = false := by rw [beq_eq_false_iff_ne]; omega
    have n9 : (k == 9) = false := by rw [beq_eq_false_iff_ne]; omega
    have n10 : (k == 10) = false := by rw [beq_eq_false_iff_ne]; omega
    have n11 : (k == 11) = false := by rw [beq_eq_false_iff_ne]; omega
    clear hk
    go_enter Tryz.func90, Tryz.ntmps90
    go_wp2
    refine bodyPost_ret (v := .tuple #[.bool false, .bool false, .bool false, .bool false, .bool false]) (by simp [results, Tryz.results90, go_sem]) rfl ⟨rfl, rfl⟩
end Go.Proofs.YtlfodldlkchmoaaGreat
