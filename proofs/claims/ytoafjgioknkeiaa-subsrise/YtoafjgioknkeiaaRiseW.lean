/-
  SubsRise's walk (mkri2.py).
-/
import Derived.Test.YtoafjgioknkeiaaRiS
import Derived.Test.YtoafjgioknkeiaaTKD
namespace Go.Proofs.Ytoafjgioknkeiaa.Y
open Go.RowKit

attribute [local go_sem ↓] Go.wp_at_zero Go.wp_at_succ
set_option linter.unusedSimpArgs false
set_option linter.unusedVariables false
theorem pub_fin (G : TG) (p : ByteArray) (q : Int) (k v : ByteArray) : G.fin ≤ (pubF G p q k v).2.2.fin ∧ (pubF G p q k v).2.2.fin ≤ G.fin + 1 ∧ (pubF G p q k v).2.2.name = G.name := by
  have ha : ∀ r, G.fin ≤ (addF G r).fin ∧ (addF G r).fin ≤ G.fin + 1 ∧ (addF G r).name = G.name := fun r => ⟨Nat.le_succ _, Nat.le_refl _, rfl⟩
  have hg : G.fin ≤ G.fin ∧ G.fin ≤ G.fin + 1 ∧ G.name = G.name := ⟨Nat.le_refl _, Nat.le_succ _, rfl⟩
  unfold pubF
  split
  · split
    · split
      · exact hg
      · split
        · exact hg
        · exact ha _
    · exact ha _
  · exact hg
theorem trim_fin (G : TG) (n : Int) : (trimF G n).2.fin = G.fin ∧ (trimF G n).2.name = G.name := by
  unfold trimF
  split
  · exact ⟨rfl, rfl⟩
  · split
    · exact ⟨rfl, rfl⟩
    · exact ⟨rfl, rfl⟩
theorem gs_right {c x : Int} (h0 : 0 ≤ c) (h1 : c ≤ x) (h2 : x ≤ 1000000) : SB.right ⟨sBy, tB, c, x⟩ = true := by
  unfold SB.right
  simp only
  rw [show wordB sBy = true by kernel_rfl, show wordB tB = true by kernel_rfl, decide_eq_true h0, decide_eq_true h1, decide_eq_true (show x ≤ 9007199254740991 by omega)]
  rfl
theorem gs_seek {G : TG} (hn : G.name = tB) {c x : Int} (hr : SB.right ⟨sBy, tB, c, x⟩ = true) (m : Int) : seekF ⟨sBy, tB, c, x⟩ G m = if 0 ≤ m ∧ m ≤ (G.fin : Int) then (⟨sBy, tB, m, m⟩, 0) else (⟨sBy, tB, c, x⟩, 7) := by
  have ht : (tB.toList == G.name.toList) = true := by rw [hn]; kernel_rfl
  by_cases h : 0 ≤ m ∧ m ≤ (G.fin : Int)
  · have e : seekI ⟨sBy, tB, c, x⟩ G m = (⟨sBy, tB, m, m⟩, true) := by rw [seekI, if_pos ⟨ht, h⟩]
    rw [if_pos h, seekF, e, hr]
    rfl
  · have e : seekI ⟨sBy, tB, c, x⟩ G m = (⟨sBy, tB, c, x⟩, false) := by rw [seekI, if_neg (fun q => h q.2)]
    rw [if_neg h, seekF, e]
    simp
theorem gs_new {G : TG} (hn : G.name = tB) {x : Int} (h0 : 0 ≤ x) (h1 : x ≤ (G.fin : Int)) : newF sBy G x = (⟨sBy, tB, x, x⟩, 0) := by
  have e1 : seekF ⟨sBy, G.name, 0, 0⟩ G x = (⟨sBy, tB, x, x⟩, 0) := by
    rw [hn, gs_seek hn (by kernel_rfl), if_pos ⟨h0, h1⟩]
  have e0 : (if x < 0 then (G.fin : Int) else x) = x := if_neg (by omega)
  unfold newF
  rw [e0, e1]
  rfl
theorem gs_ack {c x : Int} (h0 : 0 ≤ c) (h1 : c ≤ x) (h2 : x ≤ 1000000) (m : Int) : ∃ c' cd : Int, ackF ⟨sBy, tB, c, x⟩ m = (⟨sBy, tB, c', x⟩, cd) ∧ 0 ≤ c' ∧ c' ≤ x := by
  by_cases h : 0 ≤ m ∧ m < x
  · refine ⟨max c (m + 1), 0, ?_, by omega, by omega⟩
    have e : ackI ⟨sBy, tB, c, x⟩ m = (⟨sBy, tB, max c (m + 1), x⟩, true) := by rw [ackI, if_pos h]
    rw [ackF, e, gs_right h0 h1 h2]
    rfl
  · refine ⟨c, 7, ?_, h0, h1⟩
    have e : ackI ⟨sBy, tB, c, x⟩ m = (⟨sBy, tB, c, x⟩, false) := by rw [ackI, if_neg h]
    rw [ackF, e]
    simp
/-- The offset that was told last. -/
def lastF (l : List Rec) (y : Int) : Nat → Int
  | 0 => y
  | k + 1 => match l[k]? with
    | some r => r.off
    | none => y
theorem lastF_succ {l : List Rec} {y : Int} {k : Nat} (h : k < l.length) : lastF l y (k + 1) = l[k].off := by
  show (match l[k]? with
    | some r => r.off
    | none => y) = _
  rw [List.getElem?_eq_getElem h]
theorem gs_poll {G : TG} {n : Nat} (hk : G.Ok n) (hn : G.name = tB) {c y : Int} (h0 : 0 ≤ c) (h1 : c ≤ y + 1) (h2 : y + 1 ≤ (G.fin : Int)) (h3 : G.fin ≤ 1000000) (m : Nat) (m1 : 1 ≤ m) (m2 : m ≤ 50) :
    ∃ l, pollF ⟨sBy, tB, c, y + 1⟩ G (m : Int) = (⟨sBy, tB, c, lastF l y l.length + 1⟩, l, 0) ∧ (∃ t, l = (readF G.recs (y + 1) 1000).take t) ∧ (∀ k (h : k < l.length), lastF l y k < l[k].off ∧ l[k].off < (G.fin : Int)) := by
  refine ⟨grantF G ⟨sBy, tB, c, y + 1⟩ m, ?_, ?_, ?_⟩
  · have ok : pollOk ⟨sBy, tB, c, y + 1⟩ G (m : Int) = true := by
      unfold pollOk
      simp only
      rw [hn, decide_eq_true h2, decide_eq_true (show (1 : Int) ≤ (m : Int) by omega), decide_eq_true (show (m : Int) ≤ 50 by omega)]
      kernel_rfl
    have e : pollI ⟨sBy, tB, c, y + 1⟩ G (m : Int) = (⟨sBy, tB, c, nextF ⟨sBy, tB, c, y + 1⟩ (grantF G ⟨sBy, tB, c, y + 1⟩ m)⟩, grantF G ⟨sBy, tB, c, y + 1⟩ m, true) := by rw [pollI, if_pos ok]
    have nx : nextF ⟨sBy, tB, c, y + 1⟩ (grantF G ⟨sBy, tB, c, y + 1⟩ m) = lastF (grantF G ⟨sBy, tB, c, y + 1⟩ m) y (grantF G ⟨sBy, tB, c, y + 1⟩ m).length + 1 := by
      generalize grantF G ⟨sBy, tB, c, y + 1⟩ m = l at *
      cases hl : l.length with
      | zero =>
        obtain rfl := List.eq_nil_of_length_eq_zero hl
        rfl
      | succ k => rw [nextF_last _ hl (by omega), lastF_succ (by omega)]
    rw [pollF, e, gs_right h0 h1 (by omega)]
    simp only [Bool.and_self, if_true]
    rw [nx]
  · unfold grantF readF
    simp only
    generalize placeF _ _ = q
    refine ⟨min q m, ?_⟩
    rw [show ((m : Int)).toNat = m by omega, List.take_take, List.take_take, show min (min q m) (1000 : Int).toNat = min q m by omega]
  · have hr : Rises (grantF G ⟨sBy, tB, c, y + 1⟩ m) := List.Pairwise.sublist (List.take_sublist _ _) (Rises.read hk.rises _ _)
    have hge : ∀ r ∈ grantF G ⟨sBy, tB, c, y + 1⟩ m, y + 1 ≤ r.off := fun r hq => drop_ge hk.rises r (List.mem_of_mem_take (List.mem_of_mem_take hq))
    have hlt : ∀ r ∈ grantF G ⟨sBy, tB, c, y + 1⟩ m, r.off < (G.fin : Int) := fun r hq => (hk.right r (grant_mem hq)).hi
    generalize grantF G ⟨sBy, tB, c, y + 1⟩ m = l at *
    intro k hkl
    refine ⟨?_, hlt _ (List.getElem_mem hkl)⟩
    cases k with
    | zero =>
      have := hge _ (List.getElem_mem hkl)
      show y < _
      omega
    | succ k =>
      rw [lastF_succ (by omega)]
      exact hr.lt (Nat.lt_succ_self k) hkl
theorem lastF_le {l : List Rec} {y f : Int} (h0 : y < f) (h : ∀ k (h : k < l.length), lastF l y k < l[k].off ∧ l[k].off < f) : ∀ k, k ≤ l.length → y ≤ lastF l y k ∧ lastF l y k < f
  | 0, _ => ⟨Int.le_refl _, h0⟩
  | k + 1, hk => by
    obtain ⟨h1, h2⟩ := h k hk
    have := lastF_le h0 h k (Nat.le_of_succ_le hk)
    rw [lastF_succ hk]
    exact ⟨by omega, h2⟩
theorem dbox {W : World} {b : Nat} {t : TypeId} {v0 v1 : Value} (h : W.heap[b]? = some (.cells #[v0, v1] t (0, 0))) : W.cell? ⟨b, 0, none⟩ = some v0 ∧ W.cell? ⟨b, 1, none⟩ = some v1 := ⟨box_cell h 0 rfl, box_cell h 1 rfl⟩
theorem HSB.step {B : Nat} {w0 w w' : World} {L L' : LOC} {G G' : TG} {c c' sb : Nat} {S : SB} (h : HSB B w0 w L G c sb S) (H : Held B w0 w' L' G' c') (s : TStep w w' L L') : HSB B w0 w' L' G' c' sb S :=
  ⟨H, s.touch.at h.box (h.held.at_.apart h.box), h.new⟩
/-- The law's state. -/
structure RS (B : Nat) (w0 W : World) (sb sq : Nat) (L : LOC) (G : TG) (c y : Int) : Prop where
  hsb : HSB B w0 W L G sq sb ⟨sBy, tB, c, y + 1⟩
  name : G.name = tB
  fin : G.fin ≤ sq
  c0 : 0 ≤ c
  c1 : c ≤ y + 1
  c2 : y + 1 ≤ (G.fin : Int)
theorem RS.to {B : Nat} {w0 w w' : World} {sb sq : Nat} {L : LOC} {G : TG} {c y : Int} (h : RS B w0 w sb sq L G c y) (hb : Below w.heap.size w w') : RS B w0 w' sb sq L G c y := ⟨h.hsb.to hb, h.name, h.fin, h.c0, h.c1, h.c2⟩
theorem ri_ret {W : World} {a : Act} {v : Vri} {R : Ending → World → Prop} (hF : Fri a v) (h2 : v.v6 = .bool true) (h : R (.returned (.bool true)) W) :
    bodyPost Try.prog Try.f3 R .ret a W := by
  have g2 := slot_get (hF.s6.trans h2)
  refine bodyPost_ret (v := .bool true) ?_ hF.defers h
  simp [results, Try.results3, go_sem, g2]
set_option maxHeartbeats 8000000 in
set_option maxRecDepth 100000 in
theorem rise_walk (c0 c1 : Int) (ao : Option Addr) (cap : Nat) (us : List DE) (p0 : -9223372036854775808 ≤ c0 ∧ c0 ≤ 9223372036854775807) (p1 : -9223372036854775808 ≤ c1 ∧ c1 ≤ 9223372036854775807) (w : World) (hus : DEs w ao us) :
    Calls Try.prog 3 #[.int .i64 c0, .int .i64 c1, .slice ao us.length cap] w fun e w' => e = .returned (.bool true) ∧ Below w.heap.size w w' := by
  obtain ⟨n, hn⟩ : ∃ n : Nat, pickF c0 100 = (n : Int) := ⟨(pickF c0 100).toNat, by have := pickF_range c0 100 (by omega); omega⟩
  have hn2 : n < 100 := by have := pickF_range c0 100 (by omega); omega
  go_enter Try.func3, Try.ntmps3
  refine wp_seq (reg_mono (ri_r0 (by kernel_rfl) _ (v := ⟨_, _, _, _, _, _, _, _, _, _, _, _, _, _, _, _, _⟩) ⟨rfl, rfl, rfl, rfl, rfl, rfl, rfl, rfl, rfl, rfl, rfl, rfl, rfl, rfl, rfl, rfl, rfl, rfl, rfl⟩ ?_))
  intro a0 F0
  try dsimp only at F0
  refine wp_seq (reg_mono (ri_r1 (by kernel_rfl) _ F0 (examples_any w) ?_))
  intro a1 w1 F1 b1
  try dsimp only at F1
  refine wp_seq (reg_mono (ri_r2 (by kernel_rfl) _ F1 (held_new tB (z1 _) ex_w b1 (Nat.le_refl _)) ?_))
  rintro a2 w2 L F2 ⟨H2, _, _⟩
  try dsimp only at F2
  refine wp_seq (wp_seq (reg_mono (ri_r3 (by kernel_rfl) _ F2 rfl ?_)))
  intro a3 F3 g3
  refine wp_cond_false g3 (wp_skip ?_)
  show Code.wp _ _ _ _ _
  refine wp_seq (reg_mono (ri_r5 (by kernel_rfl) _ F3 ?_))
  intro a5 F5
  try dsimp only at F5
  refine wp_seq (wp_block (wp_loop (fun a W => ∃ (sq : Nat) (v : Vri) (L : LOC) (G : TG), sq ≤ n ∧ Fri a v ∧ v.v0 = .int .i64 c0 ∧ v.v1 = .int .i64 c1 ∧ v.v2 = .slice ao us.length cap ∧ v.v7 = .bool true ∧ v.v8 = .pointer (some ⟨L.b, 0, none⟩) ∧ v.v10 = .int .i64 (sq : Int) ∧ Held w.heap.size w W L G sq ∧ G.name = tB ∧ G.fin ≤ sq) (fun a _ => n - (intOf (a.tmps.getD 10 undef)).toNat) ⟨0, _, L, _, Nat.zero_le _, F5, rfl, rfl, rfl, rfl, rfl, rfl, H2, rfl, Nat.le_refl _⟩ ?_))
  clear F0 F1 F2 F3 F5 g3 H2 b1
  rintro a W ⟨sq, v, L, G, hi, F, q0, q1, q2, q7, q8, q10, M, gn, gf⟩
  have hmi : (intOf (a.tmps.getD 10 undef)).toNat = sq := by rw [F.s10, q10]; simp [intOf]
  refine wp_seq (wp_seq (reg_mono (ri_r6 (n := n) (by kernel_rfl) _ F q0 q10 (by rw [← hn]; exact pick_any c0 100 p0.1 p0.2 (by omega) (by omega) W) ?_)))
  intro a6 W6 F6 g6 hw6
  obtain rfl := hw6.symm
  by_cases hlt : sq < n
  case pos =>
    rw [decide_eq_true hlt] at g6
    refine wp_cond_true g6 (wp_skip ?_)
    show Code.wp _ _ _ _ _
    have EP : ∀ W1 kk, kk.size ≤ 100 → Below W.heap.size W W1 → Calls Try.prog 10 #[.pointer (some ⟨L.b, 0, none⟩), .string ⟨#[112]⟩, .int .i64 (sq : Int), .string kk, .string ⟨#[]⟩] W1 fun e w' => (∃ x y : Int, e = .returned (.tuple #[.int .i64 x, .int .i64 y])) ∧ ∃ L' G', LOC.b L' = L.b ∧ Held w.heap.size w w' L' G' (sq + 1) ∧ G'.name = tB ∧ G'.fin ≤ sq + 1 := fun W1 kk hkk hW1 => by
      have z100 : kk.size ≤ 281474976710656 := by omega
      refine (held_pub (M.to hW1) (by omega) ⟨#[112]⟩ (sq : Int) kk ⟨#[]⟩ (by decide) z100 (by decide)).mono fun e w' ⟨h1, L', h2, h3, _⟩ => ⟨⟨_, _, h1⟩, L', _, h2, h3, ?_, ?_⟩
      · exact (pub_fin G _ _ _ _).2.2.trans gn
      · have := (pub_fin G ⟨#[112]⟩ (sq : Int) kk ⟨#[]⟩).2.1
        omega
    refine wp_block (wp_seq (reg_mono (ri_r7 (by kernel_rfl) _ F6 q8 q10 EP ?_)))
    rintro a7 w7 F7 ⟨L7, G7, e7, H7, n7, f7⟩
    try dsimp only at F7
    refine reg_all (ri_r8 (by kernel_rfl) _ F7 q10 (by omega) ?_)
    intro a8 F8
    try dsimp only at F8
    refine ⟨⟨sq + 1, _, L7, G7, by omega, F8, q0, q1, q2, q7, by rw [e7]; exact q8, rfl, H7, n7, f7⟩, ?_⟩
    rw [hmi, F8.s10]
    simp [intOf]
    omega
  obtain rfl : n = sq := by omega
  rw [decide_eq_false hlt] at g6
  refine wp_cond_false g6 (wp_exit ?_)
  show Code.wp _ _ _ _ _
  obtain ⟨v0, v1, v2, v6, v7, v8, v10, v11, v12, v13, v14, v15, v16, v17, v18, v19, v72⟩ := v
  simp only at q0 q1 q2 q7 q8 q10
  subst q0 q1 q2 q7 q8 q10
  clear hmi hlt hi F
  obtain ⟨x, hx⟩ : ∃ x : Int, pickF c1 ((G.fin : Int) + 1) = x := ⟨_, rfl⟩
  have hx2 : 0 ≤ x ∧ x ≤ (G.fin : Int) := by have := pickF_range c1 ((G.fin : Int) + 1) (by omega); omega
  have EN := snew M.at_ M.ok sBy (z1 _) x
  rw [gs_new gn hx2.1 hx2.2] at EN
  simp only [SB.v] at EN
  refine wp_seq (reg_mono (ri_r9 (xf := (G.fin : Int)) (xp := x) (by kernel_rfl) _ F6 rfl rfl (by omega) (by omega) (tend M.at_) (by rw [← hx]; exact pick_any c1 _ p1.1 p1.2 (by omega) (by omega) W) EN ?_))
  intro a9 w9 F9 b9
  try dsimp only at F9
  have H9 := HSB.mk' (M.to b9) ⟨sBy, tB, x, x⟩
  dsimp only at H9
  generalize w9.heap.size = sb at *
  generalize hw9 : w9.alloc _ = W9 at *
  clear hw9
  refine wp_seq (wp_seq (reg_mono (ri_r10 (by kernel_rfl) _ F9 rfl ?_)))
  intro a10 F10 g10
  refine wp_cond_false g10 (wp_skip ?_)
  show Code.wp _ _ _ _ _
  obtain ⟨y, rfl⟩ : ∃ y, x = y + 1 := ⟨x - 1, by omega⟩
  refine wp_seq (reg_mono (ri_r12 (by kernel_rfl) _ F10 rfl H9.box (by omega) (by omega) ?_))
  intro a12 F12
  try dsimp only at F12
  refine wp_seq (wp_seq (reg_mono (ri_r13 (by kernel_rfl) _ F12 ?_)))
  intro a13 F13
  try dsimp only at F13
  refine wp_block (wp_loop (fun a W => ∃ (i sq : Nat) (L : LOC) (G : TG) (c y : Int) (v : Vri), i ≤ us.length ∧ i ≤ 100 ∧ sq ≤ 100 + i ∧ Fri a v ∧ v.v2 = .slice ao us.length cap ∧ v.v7 = .bool true ∧ v.v8 = .pointer (some ⟨L.b, 0, none⟩) ∧ v.v10 = .int .i64 (sq : Int) ∧ v.v11 = .pointer (some ⟨sb, 0, none⟩) ∧ v.v13 = .int .i64 y ∧ v.v14 = .int .i64 (i : Int) ∧ RS w.heap.size w W sb sq L G c y) (fun a _ => us.length - (intOf (a.tmps.getD 14 undef)).toNat) ⟨0, n, L, G, y + 1, y, _, Nat.zero_le _, Nat.zero_le _, by omega, F13, rfl, rfl, rfl, rfl, rfl, rfl, rfl, H9, gn, gf, hx2.1, Int.le_refl _, hx2.2⟩ ?_)
  clear F6 F9 F10 F12 F13 g6 g10 H9 b9 EN M gn gf hx hx2
  rintro a W ⟨i, sq, L, G, c, y, v, hi, hi2, hsq, F, q2, q7, q8, q10, q11, q13, q14, M⟩
  have hmi : (intOf (a.tmps.getD 14 undef)).toNat = i := by rw [F.s14, q14]; simp [intOf]
  obtain ⟨v0, v1, v2, v6, v7, v8, v10, v11, v12, v13, v14, v15, v16, v17, v18, v19, v72⟩ := v
  simp only at q2 q7 q8 q10 q11 q13 q14
  subst q2 q7 q8 q10 q11 q13 q14
  refine wp_seq (wp_seq (reg_mono (ri_r14 (by kernel_rfl) _ F rfl rfl ?_)))
  intro a14 F14 g14
  by_cases hlt : i < us.length ∧ i < 100
  case pos =>
    rw [show (decide (i < us.length) && decide (i < 100)) = true by rw [decide_eq_true hlt.1, decide_eq_true hlt.2]; rfl] at g14
    refine wp_cond_true g14 (wp_skip ?_)
    show Code.wp _ _ _ _ _
    obtain ⟨bq, oq, hao, hbq, hd⟩ := hus.all i hlt.1
    have hdk := hus.ok _ (List.getElem_mem hlt.1)
    generalize us[i] = d at *
    have hc0 := (M.hsb.held.below.cell (p := ⟨bq, oq + i * 2, none⟩) hbq).trans hd.c0
    have hc1 := (M.hsb.held.below.cell (p := ⟨bq, oq + i * 2 + 1, none⟩) hbq).trans hd.c1
    obtain ⟨kk, nn⟩ := d
    obtain ⟨hk1, hk2⟩ := hdk
    simp only at hk1 hk2 hc0 hc1
    clear hd
    have hk2b : nn ≤ 9223372036854775807 := hk2.2
    refine wp_seq (wp_block ?_)
    rw [hao] at F14
    refine wp_seq (reg_mono (ri_r16 (by kernel_rfl) _ F14 rfl rfl hlt.1 hc0 hc1 ?_))
    intro a16 F16
    try dsimp only at F16
    rw [← hao] at F16
    have D := heap_alloc_new W (.cells #[.int .i64 kk, .int .i64 nn] 38)
    have M := M.to ((Below.refl _ _).alloc (Nat.le_refl _) (.cells #[.int .i64 kk, .int .i64 nn] 38))
    generalize W.heap.size = db at *
    generalize W.alloc _ = W at *
    clear hc0 hc1
    have hdl : db < W.heap.size := heap_lt D
    obtain ⟨hD0, hD1⟩ := dbox D
    refine wp_mid (fun a W => ∃ (sq : Nat) (L : LOC) (G : TG) (c y : Int) (v : Vri), sq ≤ 100 + (i + 1) ∧ Fri a v ∧ v.v2 = .slice ao us.length cap ∧ v.v7 = .bool true ∧ v.v8 = .pointer (some ⟨L.b, 0, none⟩) ∧ v.v10 = .int .i64 (sq : Int) ∧ v.v11 = .pointer (some ⟨sb, 0, none⟩) ∧ v.v13 = .int .i64 y ∧ v.v14 = .int .i64 (i : Int) ∧ RS w.heap.size w W sb sq L G c y) ?sw ?_
    case sw =>
      refine wp_seq (reg_mono (ri_r17 (pk := pickF kk 7) (by kernel_rfl) _ F16 rfl hD0 (pick_any kk 7 hk1.1 hk1.2 (by omega) (by omega) W) ?_))
      rintro a17 Wr F17 hwr
      obtain rfl := hwr.symm
      try dsimp only at F17
      generalize pickF kk 7 = pk at *
      refine wp_block ?_
      refine wp_seq (reg_mono (ri_r19 (by kernel_rfl) _ F17 rfl ?_))
      intro a19 F19 g19
      by_cases e0 : pk = 0
      case pos =>
        subst e0
        refine wp_cond_true g19 ?_
        have EP : ∀ W1 kk, kk.size ≤ 100 → Below W.heap.size W W1 → Calls Try.prog 10 #[.pointer (some ⟨L.b, 0, none⟩), .string ⟨#[112]⟩, .int .i64 (sq : Int), .string kk, .string ⟨#[]⟩] W1 fun e w' => (∃ x y : Int, e = .returned (.tuple #[.int .i64 x, .int .i64 y])) ∧ ∃ L' G', LOC.b L' = L.b ∧ RS w.heap.size w w' sb (sq + 1) L' G' c y := fun W1 kk hkk hW1 => by
          have z100 : kk.size ≤ 281474976710656 := by omega
          refine (held_pub (M.to hW1).hsb.held (by omega) ⟨#[112]⟩ (sq : Int) kk ⟨#[]⟩ (by decide) z100 (by decide)).mono fun e w' ⟨h1, L', h2, h3, h4⟩ => ⟨⟨_, _, h1⟩, L', _, h2, (M.to hW1).hsb.step h3 h4, ?_, ?_, M.c0, M.c1, ?_⟩
          · exact (pub_fin G _ _ _ _).2.2.trans M.name
          · have := (pub_fin G ⟨#[112]⟩ (sq : Int) kk ⟨#[]⟩).2.1
            have := M.fin
            omega
          · have := (pub_fin G ⟨#[112]⟩ (sq : Int) kk ⟨#[]⟩).1
            have := M.c2
            omega
        refine wp_seq (reg_mono (ri_r20 (by kernel_rfl) _ F19 rfl rfl EP ?_))
        rintro a20 w20 F20 ⟨L20, G20, e20, M20⟩
        try dsimp only at F20
        refine reg_all (ri_r21 (by kernel_rfl) _ F20 rfl (by omega) ?_)
        intro a21 F21
        try dsimp only at F21
        exact ⟨sq + 1, L20, G20, c, y, _, by omega, F21, rfl, rfl, by rw [e20], rfl, rfl, rfl, rfl, M20⟩
      rw [show (pk == 0) = false from beq_eq_false_iff_ne.2 e0] at g19
      refine wp_cond_false g19 ?_
      refine wp_seq (reg_mono (ri_r22 (by kernel_rfl) _ F19 rfl ?_))
      intro a22 F22 g22
      by_cases e1 : pk = 1
      case pos =>
        subst e1
        refine wp_cond_true g22 ?_
        have E23 := sattach (w := W) ⟨sBy, tB, c, y + 1⟩ sok
        simp only [SB.v] at E23
        refine wp_seq (reg_mono (ri_r23 (by kernel_rfl) _ F22 rfl M.hsb.box E23 ?_))
        intro a23 w23 F23 b23
        try dsimp only at F23
        have M23 := (M.hsb.to b23).put ⟨sBy, tB, c, c⟩
        dsimp only at M23
        generalize set4 w23 sb _ _ _ _ = W23 at *
        have hc0 := M.c0
        have hc1 := M.c1
        have hc2 := M.c2
        have hgf := M.fin
        obtain ⟨u, rfl⟩ : ∃ u, c = u + 1 := ⟨c - 1, by omega⟩
        refine reg_all (ri_r24 (by kernel_rfl) _ F23 rfl M23.box (by omega) (by omega) ?_)
        intro a24 F24
        try dsimp only at F24
        exact ⟨sq, L, G, u + 1, u, _, by omega, F24, rfl, rfl, rfl, rfl, rfl, rfl, rfl, M23, M.name, M.fin, hc0, Int.le_refl _, by omega⟩
      rw [show (pk == 1) = false from beq_eq_false_iff_ne.2 e1] at g22
      refine wp_cond_false g22 ?_
      refine wp_seq (reg_mono (ri_r25 (by kernel_rfl) _ F22 rfl ?_))
      intro a25 F25 g25
      by_cases e2 : pk = 2
      case pos =>
        subst e2
        refine wp_cond_true g25 ?_
        have hc0 := M.c0
        have hc1 := M.c1
        have hc2 := M.c2
        have hgf := M.fin
        have E26 := held_read M.hsb.held (y + 1) 1000 (by omega)
        refine wp_seq (reg_mono (ri_r26 (R := fun ao ln cp w' => ln = (readF G.recs (y + 1) 1000).length ∧ RecsAt w' (.slice ao (readF G.recs (y + 1) 1000).length cp) (readF G.recs (y + 1) 1000) ∧ (∀ j, (Value.slice ao (readF G.recs (y + 1) 1000).length cp).ownBlock = some j → W.heap.size ≤ j) ∧ Below W.heap.size W w') (by kernel_rfl) _ F25 rfl rfl (by omega) (by omega) (E26.mono fun e w' ⟨ao, cp, h1, h2, _, h4⟩ => ⟨ao, _, cp, h1, rfl, recs_of_q (OwnsQ.of_row h2), fun j hj => (h2.lt j hj).1, h4⟩) ?_))
        rintro a26 w26 ao26 ln26 cp26 F26 ⟨rfl, r26, n26, b26⟩
        try dsimp only at F26
        refine wp_seq (reg_mono (ri_r27 (by kernel_rfl) _ F26 ?_))
        intro a27 F27
        try dsimp only at F27
        have M26 := M.to b26
        obtain ⟨m, hm⟩ : ∃ m : Nat, pickF nn 50 = (m : Int) := ⟨(pickF nn 50).toNat, by have := pickF_range nn 50 (by omega); omega⟩
        have hm2 : m < 50 := by have := pickF_range nn 50 (by omega); omega
        obtain ⟨RL, e28, ⟨tt, ht⟩, ho28⟩ := gs_poll M26.hsb.held.ok M.name hc0 hc1 hc2 (by omega) (1 + m) (by omega) (by omega)
        have hlast := lastF_le (f := (G.fin : Int)) (by omega) ho28
        have E28 : ∀ W', Below w26.heap.size w26 W' → Calls Try.prog 15 #[.agg #[.string sBy, .string tB, .int .i64 c, .int .i64 (y + 1)], .pointer (some ⟨L.b, 0, none⟩), .int .i64 (1 + (m : Int))] W' fun e w' => ∃ ao cp, e = .returned (.tuple #[.agg #[.string sBy, .string tB, .int .i64 c, .int .i64 (lastF RL y RL.length + 1)], .slice ao RL.length cp, .int .i64 0]) ∧ RecsAt w' (.slice ao RL.length cp) RL ∧ Below W'.heap.size W' w' ∧ ∀ g, (Value.slice ao 0 cp).ownBlock = some g → w26.heap.size ≤ g := fun W' hW => by
          have E := spoll (M26.hsb.held.to hW).at_ M26.hsb.held.ok ⟨sBy, tB, c, y + 1⟩ sok ((1 + m : Nat) : Int) (by omega)
          rw [e28] at E
          simp only [SB.v] at E
          rw [show ((1 + m : Nat) : Int) = 1 + (m : Int) by omega] at E
          exact E.mono fun e w' ⟨ao, cp, h1, h2, h3, h4⟩ => ⟨ao, cp, h1, h2, h3, fun g hg => Nat.le_trans hW.size (h4 g hg)⟩
        refine wp_seq (reg_mono (ri_r28 (RL := RL) (by kernel_rfl) _ F27 rfl rfl rfl M26.hsb.box (Nat.lt_of_lt_of_le hdl b26.size) ((b26.cell (p := ⟨db, 1, none⟩) hdl).trans hD1) (pk := (m : Int)) (fun W' => by rw [← hm]; exact pick_any nn 50 hk2.1 hk2.2 (by omega) (by omega) W') (by omega) (by omega) E28 ?_))
        intro a28 w28 ao28 cp28 F28 t28 x28 r28
        try dsimp only at F28
        have hsbl : sb < W.heap.size := heap_lt M.hsb.box
        have R26 : RecsAt w28 (.slice ao26 (readF G.recs (y + 1) 1000).length cp26) (readF G.recs (y + 1) 1000) := recs_touch r26 t28 fun j hj e => by
          have := n26 j hj
          omega
        have M28 : HSB w.heap.size w w28 L G sq sb ⟨sBy, tB, c, lastF RL y RL.length + 1⟩ := ⟨M26.hsb.held.touch t28 (fun j hj e => by subst e; exact M26.hsb.held.at_.apart M26.hsb.box hj) (fun j e => by subst e; exact M.hsb.new), x28, M.hsb.new⟩
        have hBL : (readF G.recs (y + 1) 1000).length ≤ 1000 := by
          unfold readF
          rw [List.length_take]
          omega
        generalize readF G.recs (y + 1) 1000 = BL at *
        refine wp_seq (wp_seq (reg_mono (ri_r29 (by kernel_rfl) _ F28 rfl ?_)))
        intro a29 F29 g29
        refine wp_cond_false g29 (wp_skip ?_)
        show Code.wp _ _ _ _ _
        refine wp_seq (reg_mono (ri_r31 (by kernel_rfl) _ F29 ?_))
        intro a31 F31
        try dsimp only at F31
        refine wp_block (wp_loop (fun a W' => ∃ (k : Nat) (v : Vri), k ≤ RL.length ∧ Fri a v ∧ v.v2 = .slice ao us.length cap ∧ v.v7 = .bool true ∧ v.v8 = .pointer (some ⟨L.b, 0, none⟩) ∧ v.v10 = .int .i64 (sq : Int) ∧ v.v11 = .pointer (some ⟨sb, 0, none⟩) ∧ v.v13 = .int .i64 (lastF RL y k) ∧ v.v14 = .int .i64 (i : Int) ∧ v.v16 = .slice ao26 BL.length cp26 ∧ v.v17 = .slice ao28 RL.length cp28 ∧ v.v18 = .int .i64 (k : Int) ∧ Below w28.heap.size w28 W') (fun a _ => RL.length - (intOf (a.tmps.getD 18 undef)).toNat) ⟨0, _, Nat.zero_le _, F31, rfl, rfl, rfl, rfl, rfl, rfl, rfl, rfl, rfl, rfl, Below.refl _ _⟩ ?_)
        clear F F14 F16 F17 F19 F22 F25 F26 F27 F28 F29 F31 g14 g19 g22 g25 g29
        rintro a W' ⟨k, v, hk, F, q2, q7, q8, q10, q11, q13, q14, q16, q17, q18, bW⟩
        have hmk : (intOf (a.tmps.getD 18 undef)).toNat = k := by rw [F.s18, q18]; simp [intOf]
        obtain ⟨v0, v1, v2, v6, v7, v8, v10, v11, v12, v13, v14, v15, v16, v17, v18, v19, v72⟩ := v
        simp only at q2 q7 q8 q10 q11 q13 q14 q16 q17 q18
        subst q2 q7 q8 q10 q11 q13 q14 q16 q17 q18
        refine wp_seq (wp_seq (reg_mono (ri_r32 (by kernel_rfl) _ F rfl rfl ?_)))
        intro a32 F32 g32
        by_cases hkl : k < RL.length
        case pos =>
          rw [decide_eq_true hkl] at g32
          refine wp_cond_true g32 (wp_skip ?_)
          show Code.wp _ _ _ _ _
          have hkb : k < BL.length := by have := hkl; rw [ht, List.length_take] at this; omega
          have hkk : RL[k] = BL[k] := by simp only [ht, List.getElem_take]
          obtain ⟨_, ba, oa, hea, hba, a0', a1', a2', a3', a4'⟩ := (r28.below bW).five k hkl
          obtain ⟨_, bb, ob, heb, hbb, b0', b1', b2', b3', b4'⟩ := (R26.below bW).five k hkb
          rw [← hkk] at b0' b1' b2' b3' b4'
          have hof := ho28 k hkl
          have hls := lastF_succ (y := y) hkl
          generalize RL[k] = r at *
          rw [hea, heb] at F32
          refine wp_seq (wp_block ?_)
          refine wp_seq (wp_seq (reg_mono (ri_r34 (by kernel_rfl) _ F32 rfl rfl rfl rfl hof.1 hkl hba a0' a1' a2' a3' a4' hkb hbb b0' b1' b2' b3' b4' ?_)))
          intro a34 w34 F34 g34 b34
          refine wp_cond_false g34 (wp_skip ?_)
          show Code.wp _ _ _ _ _
          refine reg_all (ri_r36 (x := r.off) (by kernel_rfl) _ F34 rfl rfl hkl ((b34.cell (p := ⟨ba, oa + k * 5, none⟩) hba).trans a0') ?_)
          intro a36 F36
          try dsimp only at F36
          show Code.wp _ _ _ _ _
          refine reg_mono (ri_r33 (by kernel_rfl) _ F36 rfl (by omega) ?_)
          intro a33 F33
          try dsimp only at F33
          refine ⟨⟨k + 1, _, by omega, F33, rfl, rfl, rfl, rfl, rfl, by rw [hls], rfl, by rw [heb], by rw [hea], rfl, bW.trans (b34.mono bW.size)⟩, ?_⟩
          rw [hmk, F33.s18]
          simp [intOf]
          omega
        obtain rfl : k = RL.length := by omega
        rw [decide_eq_false hkl] at g32
        refine wp_cond_false g32 (wp_exit ?_)
        have h9 := hlast RL.length (Nat.le_refl _)
        exact ⟨sq, L, G, c, lastF RL y RL.length, _, by omega, F32, rfl, rfl, rfl, rfl, rfl, rfl, rfl, M28.to bW, M.name, M.fin, hc0, by omega, by omega⟩
      rw [show (pk == 2) = false from beq_eq_false_iff_ne.2 e2] at g25
      refine wp_cond_false g25 ?_
      refine wp_seq (reg_mono (ri_r37 (by kernel_rfl) _ F25 rfl ?_))
      intro a37 F37 g37
      by_cases e3 : pk = 3
      case pos =>
        subst e3
        refine wp_cond_true g37 ?_
        have hc2 := M.c2
        have hgf := M.fin
        obtain ⟨c', cd, e38, k1, k2⟩ := gs_ack M.c0 M.c1 (by omega) nn
        have E38 := sackP (w := W) ⟨sBy, tB, c, y + 1⟩ sok nn
        rw [e38] at E38
        simp only [SB.v] at E38
        refine reg_all (ri_r38 (by kernel_rfl) _ F37 rfl rfl hD1 M.hsb.box E38 ?_)
        intro a38 w38 F38 b38
        try dsimp only at F38
        exact ⟨sq, L, G, c', y, _, by omega, F38, rfl, rfl, rfl, rfl, rfl, rfl, rfl, (M.hsb.to b38).put ⟨sBy, tB, c', y + 1⟩, M.name, M.fin, k1, k2, hc2⟩
      rw [show (pk == 3) = false from beq_eq_false_iff_ne.2 e3] at g37
      refine wp_cond_false g37 ?_
      refine wp_seq (reg_mono (ri_r39 (by kernel_rfl) _ F37 rfl ?_))
      intro a39 F39 g39
      by_cases e4 : pk = 4
      case pos =>
        subst e4
        refine wp_cond_true g39 ?_
        have hc0 := M.c0
        have hc1 := M.c1
        have hc2 := M.c2
        have hgf := M.fin
        refine wp_seq (reg_mono (ri_r40 (by kernel_rfl) _ F39 ?_))
        intro a40 F40
        try dsimp only at F40
        have E41 := sseekP M.hsb.held.at_ M.hsb.held.ok ⟨sBy, tB, c, y + 1⟩ sok nn
        rw [gs_seek M.name (gs_right hc0 hc1 (by omega))] at E41
        by_cases hs : 0 ≤ nn ∧ nn ≤ (G.fin : Int)
        case pos =>
          rw [if_pos hs] at E41
          simp only [SB.v] at E41
          refine wp_seq (reg_mono (ri_r41 (by kernel_rfl) _ F40 rfl rfl rfl hD1 M.hsb.box E41 ?_))
          intro a41 w41 F41 b41
          try dsimp only at F41
          have M41 := (M.hsb.to b41).put ⟨sBy, tB, nn, nn⟩
          have hD41 : (set4 w41 sb (.string sBy) (.string tB) (.int .i64 nn) (.int .i64 nn)).cell? ⟨db, 1, none⟩ = some (.int .i64 nn) := by
            refine Touch.cell (own := fun j => j = sb) (set4_touch _ _) ⟨db, 1, none⟩ ((b41.cell (p := ⟨db, 1, none⟩) hdl).trans hD1) fun e => ?_
            have e' : db = sb := e
            subst e'
            have := D.symm.trans M.hsb.box
            simp at this
          dsimp only at M41
          generalize set4 w41 sb _ _ _ _ = W41 at *
          refine wp_seq (reg_mono (ri_r42 (by kernel_rfl) _ F41 rfl ?_))
          intro a42 F42 g42
          refine wp_cond_true g42 ?_
          refine reg_all (ri_r43 (by kernel_rfl) _ F42 rfl hD41 hs.1 (by omega) ?_)
          intro a43 F43
          try dsimp only at F43
          exact ⟨sq, L, G, nn, nn - 1, _, by omega, F43, rfl, rfl, rfl, rfl, rfl, rfl, rfl, by rw [Int.sub_add_cancel]; exact M41, M.name, M.fin, hs.1, by omega, by omega⟩
        rw [if_neg hs] at E41
        simp only [SB.v] at E41
        refine wp_seq (reg_mono (ri_r41 (by kernel_rfl) _ F40 rfl rfl rfl hD1 M.hsb.box E41 ?_))
        intro a41 w41 F41 b41
        try dsimp only at F41
        have M41 := (M.hsb.to b41).put ⟨sBy, tB, c, y + 1⟩
        dsimp only at M41
        generalize set4 w41 sb _ _ _ _ = W41 at *
        refine wp_seq (reg_mono (ri_r42 (by kernel_rfl) _ F41 rfl ?_))
        intro a42 F42 g42
        refine wp_cond_false g42 (wp_skip ?_)
        exact ⟨sq, L, G, c, y, _, by omega, F42, rfl, rfl, rfl, rfl, rfl, rfl, rfl, M41, M.name, M.fin, hc0, hc1, hc2⟩
      rw [show (pk == 4) = false from beq_eq_false_iff_ne.2 e4] at g39
      refine wp_cond_false g39 ?_
      refine wp_seq (reg_mono (ri_r44 (by kernel_rfl) _ F39 rfl ?_))
      intro a44 F44 g44
      by_cases e5 : pk = 5
      case pos =>
        subst e5
        refine wp_cond_true g44 ?_
        have hgf := M.fin
        refine reg_all (ri_r45 (xf := (G.fin : Int)) (xp := pickF nn ((G.fin : Int) + 1)) (R := fun w' => ∃ L' G', LOC.b L' = L.b ∧ RS w.heap.size w w' sb sq L' G' c y) (by kernel_rfl) _ F44 rfl rfl (by omega) (by omega) hdl hD1 (fun w1 w2 ⟨L', G', h1, h2⟩ hb => ⟨L', G', h1, h2.to hb⟩) (fun W' hW => tend (M.hsb.held.to hW).at_) (fun W' => pick_any nn _ hk2.1 hk2.2 (by omega) (by omega) W') (fun W' hW => (held_trim (M.to hW).hsb.held _).mono fun e w' ⟨h1, L', h2, h3, h4⟩ => ⟨⟨_, h1⟩, L', (trimF G (pickF nn ((G.fin : Int) + 1))).2, h2, ⟨(M.to hW).hsb.step h3 h4, (trim_fin G _).2.trans M.name, by rw [(trim_fin G _).1]; exact M.fin, M.c0, M.c1, by rw [(trim_fin G _).1]; exact M.c2⟩⟩) ?_)
        rintro a45 w45 F45 ⟨L', G', h1, h2⟩
        try dsimp only at F45
        exact ⟨sq, L', G', c, y, _, by omega, F45, rfl, rfl, by rw [h1], rfl, rfl, rfl, rfl, h2⟩
      rw [show (pk == 5) = false from beq_eq_false_iff_ne.2 e5] at g44
      refine wp_cond_false g44 ?_
      refine reg_all (ri_r18 (R := fun w' => ∃ L' G', LOC.b L' = L.b ∧ RS w.heap.size w w' sb sq L' G' c y) (by kernel_rfl) _ F44 rfl rfl hD1 ((held_comp M.hsb.held nn).mono fun e w' ⟨h1, L', h2, h3, h4⟩ => ⟨h1, L', _, h2, M.hsb.step h3 h4, M.name, M.fin, M.c0, M.c1, M.c2⟩) ?_)
      rintro a18 w18 F18 ⟨L', G', h1, h2⟩
      try dsimp only at F18
      exact ⟨sq, L', G', c, y, _, by omega, F18, rfl, rfl, by rw [h1], rfl, rfl, rfl, rfl, h2⟩
    clear F F14 F16 g14 M D hD0 hD1 hdl hsq
    rintro a1 W1 ⟨sq, L, G, c, y, v, hsq, F1, q2, q7, q8, q10, q11, q13, q14, M⟩
    obtain ⟨v0, v1, v2, v6, v7, v8, v10, v11, v12, v13, v14, v15, v16, v17, v18, v19, v72⟩ := v
    simp only at q2 q7 q8 q10 q11 q13 q14
    subst q2 q7 q8 q10 q11 q13 q14
    have hc0 := M.c0
    have hc1 := M.c1
    have hc2 := M.c2
    have hgf := M.fin
    have E46 := srightP ⟨sBy, tB, c, y + 1⟩ sok W1
    rw [gs_right hc0 hc1 (by omega)] at E46
    simp only [SB.v] at E46
    refine wp_seq (reg_mono (ri_r46 (by kernel_rfl) _ F1 rfl rfl M.hsb.box (by omega) (by omega) E46 ?_))
    intro a46 w46 F46 g46 b46
    refine wp_cond_false g46 (wp_skip ?_)
    show Code.wp _ _ _ _ _
    refine reg_mono (ri_r15 (by kernel_rfl) _ F46 rfl (by omega) ?_)
    intro a15 F15
    try dsimp only at F15
    refine ⟨⟨i + 1, sq, L, G, c, y, _, by omega, by omega, by omega, F15, rfl, rfl, rfl, rfl, rfl, rfl, rfl, M.to b46⟩, ?_⟩
    rw [hmi, F15.s14]
    simp [intOf]
    omega
  have e : (decide (i < us.length) && decide (i < 100)) = false := by
    rw [Bool.and_eq_false_iff]
    by_cases h1 : i < us.length
    · right; exact decide_eq_false (fun h2 => hlt ⟨h1, h2⟩)
    · left; exact decide_eq_false h1
  rw [e] at g14
  refine wp_cond_false g14 (wp_exit ?_)
  show Code.wp _ _ _ _ _
  refine wp_seq (reg_mono (ri_r48 (by kernel_rfl) _ F14 rfl ?_))
  intro a48 F48
  try dsimp only at F48
  exact wp_ret (ri_ret F48 rfl ⟨rfl, M.hsb.held.below⟩)
end Go.Proofs.Ytoafjgioknkeiaa.Y
