/-
  framed, Encode, Request (mkc7.py)
-/
import Derived.Test.YtoolbbibnegdnaaGreatDoorZC7
import Derived.Test.YtoolbbibnegdnaaGreatDoorZC2
namespace Go.Proofs.YtoolbbibnegdnaaGreatDoor
open Go.RowKit

attribute [local go_sem ↓] Go.wp_at_zero Go.wp_at_succ
set_option linter.unusedSimpArgs false
set_option linter.unusedVariables false
theorem encC_call {cm : CM} (hS : cm.Small) (g : Nat) (w : World) (h : K.ItemsAt w (some ⟨g, 0, none⟩) (itemsC cm)) : Calls Tryz.prog 36 #[.slice (some ⟨g, 0, none⟩) 9 9] w fun e w' => e = .returned (.tuple #[.string ⟨(codeC cm).toArray⟩, .int .i64 0]) ∧ Below w.heap.size w w' := by
  have := K.encode_any _ 9 (itemsC cm) w h (itemsC_ok hS) (by unfold maxLen; simp [itemsC])
  rw [encC hS] at this
  exact this
theorem frm_call {code : List UInt8} (hl : code.length ≤ 400000) (w : World) (hT : Tab w) : Calls Tryz.prog 40 #[.string ⟨code.toArray⟩] w fun e w' => e = .returned (.tuple #[.string ⟨(frameB code).toArray⟩, .int .i64 0]) ∧ Below w.heap.size w w' := by
  have := frame_any ⟨code.toArray⟩ w hT (by show code.toArray.size ≤ _; simp; omega)
  have e : frameF code = (frameB code, 0) := by
    unfold frameF
    rw [if_neg (by omega)]
  rw [show ((⟨code.toArray⟩ : ByteArray).data.toList) = code by simp, e] at this
  exact this
/-- framed, of items whose code is known. -/
theorem pframed {its : List K.It} {code : List UInt8} (hl : code.length ≤ 400000) (sv : Value) (w : World) (hT : Tab w) (hE : ∀ W, Below w.heap.size w W → Calls Tryz.prog 36 #[sv] W fun e w' => e = .returned (.tuple #[.string ⟨code.toArray⟩, .int .i64 0]) ∧ Below W.heap.size W w') :
    Calls Tryz.prog 18 #[sv] w fun e w' => e = .returned (.tuple #[.string ⟨(frameB code).toArray⟩, .int .i64 0]) ∧ Below w.heap.size w w' := by
  have HE := hide (hE w (Below.refl _ _))
  have HF := hide (fun w hT => frm_call hl w hT)
  have HT := hide hT
  generalize (frameB code).toArray = fr at *
  generalize code.toArray = cd at *
  clear hE hT hl
  go_enter Tryz.func18, Tryz.ntmps18
  go_wp2_with fail
  refine HE.out.mono ?_
  rintro e w1 ⟨rfl, b1⟩
  have B1 := hide b1
  clear b1 HE
  go_wp2_with fail
  refine (HF.out _ (HT.out.below B1.out)).mono ?_
  rintro e w2 ⟨rfl, b2⟩
  have B2 := hide (B1.out.trans (b2.mono B1.out.size))
  clear b2
  go_wp2
  go_ret2
  exact ⟨rfl, B2.out⟩
/-- A command's box behind a call. -/
structure CB (w w' : World) (b : Nat) (c : CM) : Prop where
  below : Below w.heap.size w w'
  box : w'.heap[b]? = some (.cells c.cells 23 (0, 0))
theorem CB.to {w w1 w2 : World} {b : Nat} {c : CM} (h : CB w w1 b c) (hb : Below w1.heap.size w1 w2) : CB w w2 b c := ⟨h.below.trans (hb.mono h.below.size), (hb.block _ (heap_lt h.box)).trans h.box⟩
theorem CB.new (w : World) (c : CM) : CB w (w.alloc (.cells c.cells 23)) w.heap.size c := ⟨(Below.refl _ w).alloc (Nat.le_refl _) _, heap_alloc_new w _⟩
theorem CB.cells {w w' : World} {b : Nat} {c : CM} (h : CB w w' b c) : w'.cell? ⟨b, 0, none⟩ = some (.int .i64 c.kind) ∧ w'.cell? ⟨b, 1, none⟩ = some (.string c.topic) ∧ w'.cell? ⟨b, 2, none⟩ = some (.string c.name) ∧ w'.cell? ⟨b, 3, none⟩ = some (.int .i64 c.seq) ∧ w'.cell? ⟨b, 4, none⟩ = some (.string c.key) ∧ w'.cell? ⟨b, 5, none⟩ = some (.string c.val) ∧ w'.cell? ⟨b, 6, none⟩ = some (.int .i64 c.n) ∧ w'.cell? ⟨b, 7, none⟩ = some (.int .i64 c.node) ∧ w'.cell? ⟨b, 8, none⟩ = some (.int .i64 c.ask) :=
  ⟨box_cell h.box 0 rfl, box_cell h.box 1 rfl, box_cell h.box 2 rfl, box_cell h.box 3 rfl, box_cell h.box 4 rfl, box_cell h.box 5 rfl, box_cell h.box 6 rfl, box_cell h.box 7 rfl, box_cell h.box 8 rfl⟩
set_option maxHeartbeats 2000000 in
theorem penc_bad (cm : CM) (hc : cm.ok) (hr : cm.right = false) (w : World) :
    Calls Tryz.prog 15 #[cm.v] w fun e w' => e = .returned (.tuple #[.string ⟨#[]⟩, .int .i64 1]) ∧ Below w.heap.size w w' := by
  have HR := hide (pright cm hc)
  rw [hr] at HR
  have K0 := hide (CB.new w cm)
  obtain ⟨k, t, m, s, y, v, n, o, a⟩ := cm
  clear hc hr
  simp only [CM.v, CM.cells] at *
  go_enter Tryz.func15, Tryz.ntmps15
  go_wp2_with fail
  refine (HR.out _).mono ?_
  rintro e w1 ⟨rfl, b1⟩
  have K1 := hide (K0.out.to b1)
  clear b1
  go_wp2
  go_ret2
  exact ⟨rfl, K1.out.below⟩
set_option maxHeartbeats 2000000 in
theorem penc_good (cm : CM) (hr : cm.right = true) (w : World) :
    Calls Tryz.prog 15 #[cm.v] w fun e w' => e = .returned (.tuple #[.string ⟨(codeC cm).toArray⟩, .int .i64 0]) ∧ Below w.heap.size w w' := by
  have hS := cm.small hr
  have HR := hide (pright cm hS.ok)
  rw [hr] at HR
  have HI := hide (pitems cm hS)
  have HE := hide (fun g w h => encC_call hS g w h)
  have K0 := hide (CB.new w cm)
  generalize (codeC cm).toArray = cd at *
  generalize itemsC cm = its at *
  obtain ⟨k, t, m, s, y, v, n, o, a⟩ := cm
  clear hS hr
  simp only [CM.v, CM.cells] at *
  go_enter Tryz.func15, Tryz.ntmps15
  go_wp2_with fail
  refine (HR.out _).mono ?_
  rintro e w1 ⟨rfl, b1⟩
  have K1 := hide (K0.out.to b1)
  obtain ⟨c0, c1, c2, c3, c4, c5, c6, c7, c8⟩ := K1.out.cells
  clear b1 K0 HR
  go_wp2_with fail
  refine (HI.out _).mono ?_
  rintro e w2 ⟨g, rfl, hat, b2⟩
  have HA := hide hat
  have K2 := hide (K1.out.to b2)
  clear b2 hat HI K1 c0 c1 c2 c3 c4 c5 c6 c7 c8
  go_wp2_with fail
  refine (HE.out _ _ HA.out).mono ?_
  rintro e w3 ⟨rfl, b3⟩
  have K3 := hide (K2.out.to b3)
  clear b3
  go_wp2
  go_ret2
  exact ⟨rfl, K3.out.below⟩
set_option maxHeartbeats 2000000 in
theorem preq_bad (cm : CM) (hc : cm.ok) (hr : cm.right = false ∨ cm.node ≠ 0) (w : World) :
    Calls Tryz.prog 6 #[cm.v] w fun e w' => e = .returned (.tuple #[.string ⟨#[]⟩, .int .i64 1]) ∧ Below w.heap.size w w' := by
  have HR := hide (pright cm hc)
  have K0 := hide (CB.new w cm)
  generalize cm.right = rr at *
  obtain ⟨k, t, m, s, y, v, n, o, a⟩ := cm
  clear hc
  simp only [CM.v, CM.cells] at *
  cases rr
  · clear hr
    go_enter Tryz.func6, Tryz.ntmps6
    go_wp2_with fail
    refine (HR.out _).mono ?_
    rintro e w1 ⟨rfl, b1⟩
    have K1 := hide (K0.out.to b1)
    clear b1
    go_wp2
    go_ret2
    exact ⟨rfl, K1.out.below⟩
  · have ho : (o != 0) = true := by
      rw [bne_iff_ne]
      exact hr.resolve_left (by simp)
    clear hr
    go_enter Tryz.func6, Tryz.ntmps6
    go_wp2_with fail
    refine (HR.out _).mono ?_
    rintro e w1 ⟨rfl, b1⟩
    have K1 := hide (K0.out.to b1)
    obtain ⟨c0, c1, c2, c3, c4, c5, c6, c7, c8⟩ := K1.out.cells
    clear b1
    go_wp2
    go_ret2
    exact ⟨rfl, K1.out.below⟩
set_option maxHeartbeats 2000000 in
theorem preq_good (cm : CM) (hr : cm.right = true) (h0 : cm.node = 0) (w : World) (hT : Tab w) :
    Calls Tryz.prog 6 #[cm.v] w fun e w' => e = .returned (.tuple #[.string ⟨(oneC cm).toArray⟩, .int .i64 0]) ∧ Below w.heap.size w w' := by
  have hS := cm.small hr
  have HR := hide (pright cm hS.ok)
  rw [hr] at HR
  have HI := hide (pitems cm hS)
  have HE := hide (fun g w (hT : Tab w) (h : K.ItemsAt w (some ⟨g, 0, none⟩) (itemsC cm)) => pframed (its := itemsC cm) (by have := codeC_le hS; omega : (codeC cm).length ≤ 400000) (.slice (some ⟨g, 0, none⟩) 9 9) w hT (fun W hW => encC_call hS g W (fun i hi => by
    obtain ⟨b, off, e1, e2, e3, e4, e5⟩ := h i hi
    exact ⟨b, off, e1, Nat.lt_of_lt_of_le e2 hW.size, (hW.cell (p := ⟨b, _, none⟩) e2).trans e3, (hW.cell (p := ⟨b, _, none⟩) e2).trans e4, (hW.cell (p := ⟨b, _, none⟩) e2).trans e5⟩)))
  have HE2 : Hid (∀ g w, Tab w → K.ItemsAt w (some ⟨g, 0, none⟩) (itemsC cm) → Calls Tryz.prog 18 #[.slice (some ⟨g, 0, none⟩) 9 9] w fun e w' => e = .returned (.tuple #[.string ⟨(oneC cm).toArray⟩, .int .i64 0]) ∧ Below w.heap.size w w') := HE.out
  clear HE
  have K0 := hide (CB.new w cm)
  have HT := hide hT
  generalize (oneC cm).toArray = cd at *
  generalize itemsC cm = its at *
  obtain ⟨k, t, m, s, y, v, n, o, a⟩ := cm
  simp only at h0
  subst h0
  clear hS hr hT
  simp only [CM.v, CM.cells] at *
  go_enter Tryz.func6, Tryz.ntmps6
  go_wp2_with fail
  refine (HR.out _).mono ?_
  rintro e w1 ⟨rfl, b1⟩
  have K1 := hide (K0.out.to b1)
  obtain ⟨c0, c1, c2, c3, c4, c5, c6, c7, c8⟩ := K1.out.cells
  clear b1 K0 HR
  go_wp2_with fail
  refine (HI.out _).mono ?_
  rintro e w2 ⟨g, rfl, hat, b2⟩
  have HA := hide hat
  have K2 := hide (K1.out.to b2)
  clear b2 hat HI K1 c0 c1 c2 c3 c4 c5 c6 c7 c8
  go_wp2_with fail
  refine (HE2.out _ _ (HT.out.below K2.out.below) HA.out).mono ?_
  rintro e w3 ⟨rfl, b3⟩
  have K3 := hide (K2.out.to b3)
  clear b3
  go_wp2
  go_ret2
  exact ⟨rfl, K3.out.below⟩
end Go.Proofs.YtoolbbibnegdnaaGreatDoor
/-
  isReply (mkcc.py)
-/
namespace Go.Proofs.YtoolbbibnegdnaaGreatDoor
open Go.RowKit

attribute [local go_sem ↓] Go.wp_at_zero Go.wp_at_succ
set_option linter.unusedSimpArgs false
set_option linter.unusedVariables false
/-- Records that lie somewhere. -/
def RecsC (w : World) (ao : Option Addr) (l : List Rec) : Prop := ∀ i (h : i < l.length), ∃ b off, ao = some ⟨b, off, none⟩ ∧ b < w.heap.size ∧ w.cell? ⟨b, off + i * 5, none⟩ = some (.int .i64 l[i].off) ∧ w.cell? ⟨b, off + i * 5 + 1, none⟩ = some (.string l[i].prod) ∧ w.cell? ⟨b, off + i * 5 + 2, none⟩ = some (.int .i64 l[i].seq) ∧ w.cell? ⟨b, off + i * 5 + 3, none⟩ = some (.string l[i].key) ∧ w.cell? ⟨b, off + i * 5 + 4, none⟩ = some (.string l[i].val)
theorem RecsC.below {w w' : World} {ao : Option Addr} {l : List Rec} (h : RecsC w ao l) {B : Nat} (hb : Below B w w') (hB : w.heap.size ≤ B) : RecsC w' ao l := fun i hi => by
  obtain ⟨b, off, e1, e2, e3, e4, e5, e6, e7⟩ := h i hi
  have hc := fun k => hb.cell (p := ⟨b, k, none⟩) (Nat.lt_of_lt_of_le e2 hB)
  exact ⟨b, off, e1, Nat.lt_of_lt_of_le e2 hb.size, (hc _).trans e3, (hc _).trans e4, (hc _).trans e5, (hc _).trans e6, (hc _).trans e7⟩
def RP.v (r : RP) (ao : Option Addr) (cap : Nat) : Value := .agg #[.int .i64 r.code, .int .i64 r.n, .slice ao r.recs.length cap]
theorem minusB_iff (n : Int) : minusB n = decide (-1 ≤ n ∧ n ≤ 9007199254740991) := by
  unfold minusB greatB
  by_cases h : n = -1
  · subst h; rfl
  · have e : (n == -1) = false := by simpa using h
    rw [e, Bool.false_or, ← Bool.decide_and, decide_eq_decide]
    omega
theorem RP.no {r : RP} (h : ¬ (0 ≤ r.code ∧ r.code ≤ 255 ∧ (-1 ≤ r.n ∧ r.n ≤ 9007199254740991) ∧ r.recs.length ≤ 50)) : decide r.right = false := decide_eq_false fun e => h ⟨e.1, e.2.1, ⟨e.2.2.1, e.2.2.2.1⟩, e.2.2.2.2.1⟩
/-- A row of records, as far as it was gone over. -/
structure RecGo (w W : World) (l : List Rec) (k : Nat) : Prop where
  below : Below w.heap.size w W
  right : ∀ j (h : j < l.length), j < k → RightP l[j]
set_option maxHeartbeats 4000000 in
set_option maxRecDepth 100000 in
theorem pisreply (r : RP) (ao : Option Addr) (cap : Nat) (w : World) (hat : RecsC w ao r.recs) (hok : ∀ x ∈ r.recs, x.ok) (hlen : r.recs.length ≤ 9223372036854775807) :
    Calls Tryz.prog 26 #[r.v ao cap] w fun e w' => e = .returned (.bool (decide r.right)) ∧ Below w.heap.size w w' := by
  have HM := hide (fun w => pminus r.n w)
  rw [minusB_iff] at HM
  have hno := @RP.no r
  have hyes : 0 ≤ r.code → r.code ≤ 255 → (-1 ≤ r.n ∧ r.n ≤ 9007199254740991) → r.recs.length ≤ 50 → (∀ x ∈ r.recs, RightP x) → decide r.right = true := fun a b c d e => decide_eq_true ⟨a, b, c.1, c.2, d, e⟩
  have hbad : (∃ x ∈ r.recs, ¬ RightP x) → decide r.right = false := fun ⟨x, hx, hn⟩ => decide_eq_false fun e => hn (e.2.2.2.2.2 x hx)
  generalize decide r.right = rr at *
  obtain ⟨code, n, l⟩ := r
  simp only [RP.v] at *
  by_cases h1 : code < 0
  · rw [hno (by omega)]
    clear hno hyes hbad HM
    go_enter Tryz.func26, Tryz.ntmps26
    go_wp2
    go_ret
    exact ⟨rfl, (Below.refl _ _).alloc (Nat.le_refl _) _⟩
  · by_cases h2 : code > 255
    · rw [hno (by omega)]
      clear hno hyes hbad HM
      go_enter Tryz.func26, Tryz.ntmps26
      go_wp2
      go_ret
      exact ⟨rfl, (Below.refl _ _).alloc (Nat.le_refl _) _⟩
    · by_cases h3 : -1 ≤ n ∧ n ≤ 9007199254740991
      · rw [decide_eq_true h3] at HM
        by_cases h4 : (l.length : Int) > 50
        · rw [hno (by omega)]
          clear hno hyes hbad h3
          go_enter Tryz.func26, Tryz.ntmps26
          go_wp2_with (go_at_call 47; refine (HM.out _).mono ?_; rintro e w' ⟨rfl, rfl⟩)
          go_ret
          exact ⟨rfl, (Below.refl _ _).alloc (Nat.le_refl _) _⟩
        · have HY := hide (hyes (by omega) (by omega) h3 (by omega))
          have HN := hide hbad
          have HA := hide hat
          have HO := hide hok
          have HB := hide ((Below.refl w.heap.size w).alloc (Nat.le_refl _) (.cells #[.int .i64 code, .int .i64 n, .slice ao l.length cap] 37))
          have hle : (l.length : Int) ≤ 50 := by omega
          clear hno hyes hbad h3 hat hok
          go_enter Tryz.func26, Tryz.ntmps26
          go_wp2_with (go_at_call 47; refine (HM.out _).mono ?_; rintro e w' ⟨rfl, rfl⟩)
          go_loopw [28] (fun iv wv => ∃ k : Nat, k ≤ l.length ∧ iv = .int .i64 k ∧ Hid (RecGo w wv l k)) (fun iv _ => l.length - (intOf iv).toNat)
          case atStart => exact ⟨0, Nat.zero_le _, rfl, HB.out, fun j h hj => absurd hj (Nat.not_lt_zero _)⟩
          case round =>
            obtain ⟨k, hk, rfl, HJ⟩ := hrel
            rename_i wv
            by_cases hlt : k < l.length
            · have hlt2 : (k : Int) < (l.length : Int) := by omega
              obtain ⟨b, off, rfl, gl, y0, y1, y2, y3, y4⟩ := (HA.out.below HJ.out.below (Nat.le_refl _)) k hlt
              have HR := hide (right_any l[k] (HO.out _ (List.getElem_mem _)))
              have HX : Hid (RightP l[k] → ∀ W, Below w.heap.size w W → RecGo w W l (k + 1)) := fun hr W hW => ⟨hW, fun j h hj => by
                rcases Nat.lt_or_ge j k with h2 | h2
                · exact HJ.out.right j h h2
                · obtain rfl : j = k := by omega
                  exact hr⟩
              have HZ : Hid (¬ RightP l[k] → rr = false) := fun hr => HN.out ⟨_, List.getElem_mem _, hr⟩
              have hd := @decide_eq_true_iff (RightP l[k]) _
              generalize l[k] = x at *
              obtain ⟨xo, xp, xs, xk, xv⟩ := x
              simp only [Rec.v] at HR y0 y1 y2 y3 y4
              have HW := hide (HJ.out.below.alloc HJ.out.below.size (.cells #[.int .i64 xo, .string xp, .int .i64 xs, .string xk, .string xv] 46))
              clear HJ HA HO
              by_cases hr : RightP ⟨xo, xp, xs, xk, xv⟩
              · rw [decide_eq_true hr] at HR
                have HQ := hide (HX.out hr)
                clear hr HX HZ hd
                go_wp2_with (go_at_call 48; refine (HR.out _).mono ?_; rintro e w4 ⟨rfl, b4⟩; have HW4 := hide (HW.out.trans (b4.mono HW.out.size)); clear b4)
                exact ⟨⟨k + 1, by omega, by go_num, HQ.out _ HW4.out⟩, by simp [intOf]; omega⟩
              · rw [decide_eq_false hr] at HR
                have HQ := hide (HZ.out hr)
                clear hr HX HZ hd
                go_wp2_with fail
                refine (HR.out _).mono ?_
                rintro e w4 ⟨rfl, b4⟩
                have HW4 := hide (HW.out.trans (b4.mono HW.out.size))
                clear b4
                go_wp2
                go_ret
                exact ⟨by rw [HQ.out]; rfl, HW4.out⟩
            · have hlt2 : ¬ (k : Int) < (l.length : Int) := by omega
              have HQ := hide (HY.out fun x hx => by
                obtain ⟨j, hj, rfl⟩ := List.mem_iff_getElem.1 hx
                exact HJ.out.right j hj (by omega))
              have HW := hide HJ.out.below
              clear HJ
              go_wp2
              go_ret
              exact ⟨by rw [HQ.out]; rfl, HW.out⟩
      · rw [decide_eq_false h3] at HM
        rw [hno (fun e => h3 e.2.2.1)]
        clear hno hyes hbad h3
        go_enter Tryz.func26, Tryz.ntmps26
        go_wp2_with (go_at_call 47; refine (HM.out _).mono ?_; rintro e w' ⟨rfl, rfl⟩)
        go_ret
        exact ⟨rfl, (Below.refl _ _).alloc (Nat.le_refl _) _⟩
end Go.Proofs.YtoolbbibnegdnaaGreatDoor
