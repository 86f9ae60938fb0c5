/-
  TopicPlays: for all names and deeds the law's call returns true and leaves them as they were; no condition.
-/
import Derived.Test.YtmkkcgkakomacaaGreatZPlR
import Derived.Test.YtmkkcgkakomacaaGreatZXJ
import Derived.Test.YtmkkcgkakomacaaGreatZSh
import Derived.Test.YtmkkcgkakomacaaGreatZYC7
import Derived.Test.YtmkkcgkakomacaaGreatZTK
namespace Go.Proofs.YtmkkcgkakomacaaGreat.Y
open Go.RowKit
set_option maxHeartbeats 16000000
set_option maxRecDepth 100000
attribute [local go_sem ↓] Go.wp_at_zero Go.wp_at_succ
set_option linter.unusedSimpArgs false
set_option linter.unusedVariables false
open Go.Maps Go.Sort
theorem TG.Ok.name {c : Nat} {G : TG} (h : G.Ok c) : G.name.size ≤ 20 := by
  have h6 := h.word
  unfold wordB at h6
  have := (wordL_out h6).2.1
  simpa using this
theorem tname {w : World} {L : LOC} {G : TG} {c : Nat} (h : TAt w L G) (hk : G.Ok c) : Calls Tryz.prog 22 #[.pointer (some ⟨L.b, 0, none⟩)] w fun e w' => e = .returned (.string G.name) ∧ Below w.heap.size w w' := by
  obtain ⟨c0, c1, c2, c3, c4⟩ := h.cells
  have HC := hide (fun W => clone_any G.name W (by have := hk.name; omega))
  clear h hk
  go_enter Tryz.func22, Tryz.ntmps22
  go_wp2_with (go_at_call 27; refine (HC.out _).mono ?_; rintro e w' ⟨rfl, b2⟩)
  go_ret
  exact ⟨rfl, b2⟩
theorem wp_midR {P : Program} {c1 c2 : Code} {Q : Exit → Act → World → Prop} {a : Act} {w : World} (Mid : Act → World → Prop) (h1 : Code.wp P c1 (Exit.then Mid Q) a w) (h2 : ∀ a w, Mid a w → Code.wp P c2 Q a w) : Code.wp P (c1.seq c2) Q a w :=
  wp_seq (wp_mono h1 fun e a w q => by
    cases e with
    | normal => exact h2 a w q
    | _ => exact q)
structure PM (B : Nat) (w0 w : World) (L : LOC) (X : XL) (G : TG) (Y : XG) (c : Nat) : Prop where
  t : Held B w0 w L G c
  x : XAt w X Y
  ap : ∀ j, L.own j → ¬ X.own j
  xo : ∀ j, X.own j → B ≤ j
section
variable {B : Nat} {w0 w w' : World} {L L' : LOC} {X X' : XL} {G G' : TG} {Y Y' : XG} {c c' : Nat}
theorem PM.to (h : PM B w0 w L X G Y c) (b : Below w.heap.size w w') : PM B w0 w' L X G Y c := ⟨h.t.to b, h.x.below b, h.ap, h.xo⟩
theorem PM.le (h : PM B w0 w L X G Y c) : B ≤ w.heap.size := Nat.le_trans h.t.le h.t.below.size
theorem PM.mono (h : PM B w0 w L X G Y c) (hd : c ≤ c') (hb : c' ≤ 100000) : PM B w0 w L X G Y c' := ⟨⟨h.t.at_, h.t.ok.mono hd hb, h.t.below, h.t.new, h.t.le⟩, h.x, h.ap, h.xo⟩
theorem PM.stepT (h : PM B w0 w L X G Y c) (hh : Held B w0 w' L' G' c') (s : TStep w w' L L') : PM B w0 w' L' X G' Y c' :=
  ⟨hh, h.x.keep s.touch fun j e e2 => h.ap j e2 e, fun j e e2 => by
    rcases s.own j e with e3 | e3
    · exact h.ap j e3 e2
    · have := h.x.lt e2; omega, h.xo⟩
theorem PM.stepX (h : PM B w0 w L X G Y c) (hx : XAt w' X' Y') (s : XStep w w' X X') : PM B w0 w' L X' G Y' c :=
  ⟨⟨h.t.at_.keep s.touch fun j e e2 => h.ap j e (.inl e2), h.t.ok, h.t.below.trans (s.touch.toBelow h.le fun k hk e => by have := h.xo X.b (.inl rfl); omega), h.t.new, h.t.le⟩, hx, fun j e e2 => by
    rcases s.own j e2 with e3 | e3
    · exact h.ap j e e3
    · have := h.t.at_.lt e; omega, fun j e => by
    rcases s.own j e with e3 | e3
    · exact h.xo j e3
    · exact Nat.le_trans h.le e3⟩
theorem PM.row (h : PM B w0 w L X G Y c) {lb : Nat} (t : Touch (fun j => j = lb) w w') (h1 : ¬ L.own lb) (h2 : ¬ X.own lb) (h3 : B ≤ lb) : PM B w0 w' L X G Y c :=
  ⟨⟨h.t.at_.keep t fun j e e2 => h1 (e2 ▸ e), h.t.ok, h.t.below.trans (t.toBelow h.le fun k hk e => by omega), h.t.new, h.t.le⟩, h.x.keep t fun j e e2 => h2 (e2 ▸ e), h.ap, h.xo⟩
end
structure DX (w : World) (L : LOC) (X : XL) (db : Nat) (d : DE) : Prop where
  at_ : w.heap[db]? = some (.cells #[.int .i64 d.kind, .string d.prod, .int .i64 d.seq, .string d.key, .string d.val, .int .i64 d.n, .int .i64 d.most] 31 (0, 0))
  l : ¬ L.own db
  x : ¬ X.own db
section
variable {w w' : World} {L L' : LOC} {X X' : XL} {db : Nat} {d : DE}
theorem DX.to (h : DX w L X db d) (b : Below w.heap.size w w') : DX w' L X db d := ⟨Below.at b h.at_, h.l, h.x⟩
theorem DX.stepT (h : DX w L X db d) (s : TStep w w' L L') : DX w' L' X db d := ⟨s.touch.at h.at_ h.l, fun e => by
  rcases s.own _ e with e | e
  · exact h.l e
  · have := heap_lt h.at_; omega, h.x⟩
theorem DX.stepX (h : DX w L X db d) (s : XStep w w' X X') : DX w' L X' db d := ⟨s.touch.at h.at_ (fun e => h.x (.inl e)), h.l, fun e => by
  rcases s.own _ e with e | e
  · exact h.x e
  · have := heap_lt h.at_; omega⟩
end
theorem pub_finP (G : TG) (p : ByteArray) (q : Int) (k v : ByteArray) : (pubF G p q k v).2.2.fin ≤ G.fin + 1 := by
  unfold pubF
  split
  · split
    · split
      · exact Nat.le_succ _
      · split
        · exact Nat.le_succ _
        · exact Nat.le_refl _
    · exact Nat.le_refl _
  · exact Nat.le_succ _
theorem trim_finP (G : TG) (n : Int) : (trimF G n).2.fin = G.fin := by
  unfold trimF
  split
  · rfl
  · split <;> rfl
def PV (w : World) (ao : Option Addr) (n cp k c : Nat) (good : Bool) (a : Act) (W : World) : Prop :=
  ∃ (v : Vpl) (L : LOC) (X : XL) (G : TG) (Y : XG), Fpl a v ∧ v.v1 = .slice ao n cp ∧ v.v5 = .bool true ∧ v.v6 = .pointer (some ⟨L.b, 0, none⟩) ∧ v.v8 = .pointer (some ⟨X.b, 0, none⟩) ∧ v.v9 = .int .i64 (k : Int) ∧ (good = true → v.v11 = .bool true) ∧ PM w.heap.size w W L X G Y c ∧ PQ G Y ∧ Tell G ∧ G.fin ≤ c
theorem pl_r9 {K : Act → World → Prop} {c : Code} (hc : regOf (Tryz.f3.body.getD .skip) 9 = some c) (a : Act) {v : Vpl} {wq : World} {ao : Option Addr} {n cp k : Nat} (hF : Fpl a v) (h1 : v.v1 = .slice ao n cp) (h2 : v.v9 = .int .i64 (k : Int)) (hQ : ∀ a', Fpl a' v → a'.tmps.getD 55 undef = .bool (decide (k < n ∧ k < 80)) → K a' wq) : Code.wp Tryz.prog c (Exit.then K fun _ _ _ => False) a wq := by
  by_cases hk : k < n
  · refine pl_r9y hc a hF h1 h2 (by omega) fun a' F g => hQ a' F ?_
    rw [g]
    by_cases h8 : k < 80
    · rw [decide_eq_true (show (k : Int) < 80 by omega), decide_eq_true (⟨hk, h8⟩ : k < n ∧ k < 80)]
    · rw [decide_eq_false (show ¬ (k : Int) < 80 by omega), decide_eq_false (fun e : k < n ∧ k < 80 => h8 e.2)]
  · refine pl_r9n hc a hF h1 h2 (by omega) fun a' F g => hQ a' F ?_
    rw [g, decide_eq_false (fun e : k < n ∧ k < 80 => hk e.1)]
theorem readF_le (l : List Rec) (off most : Int) : (readF l off most).length ≤ l.length := by
  unfold readF
  rw [List.length_take, List.length_drop]
  omega
theorem plays_walk (s : ByteArray) (hs : s.size ≤ 281474976710656) (ao : Option Addr) (cp : Nat) (us : List DE) (w : World) (h : DEs w ao us) :
    Calls Tryz.prog 3 #[.string s, .slice ao us.length cp] w fun e w' => e = .returned (.bool true) ∧ Below w.heap.size w w' := by
  go_enter Tryz.func3, Tryz.ntmps3
  refine wp_seq (reg_mono (pl_r0 (by kernel_rfl) _ (v := ⟨_, _, _, _, _, _, _, _, _, _, _, _, _, _, _, _, _, _, _, _, _, _⟩) ⟨rfl, rfl, rfl, rfl, rfl, rfl, rfl, rfl, rfl, rfl, rfl, rfl, rfl, rfl, rfl, rfl, rfl, rfl, rfl, rfl, rfl, rfl, rfl, rfl⟩ ?_))
  intro a0 F0
  try dsimp only at F0
  refine wp_seq (reg_mono (pl_r1 (by kernel_rfl) _ F0 (examples_any w) ?_))
  intro a1 w1 F1 b1
  try dsimp only at F1
  have HT := tnew s hs w1
  cases hw : wordB s with
  | false =>
    refine wp_seq (reg_mono (pl_r2 (ec := 5) (R := fun po u => po = none ∧ Below w1.heap.size w1 u) (by kernel_rfl) _ F1 rfl (HT.mono fun e u q => ?_) ?_))
    · obtain ⟨q1, ⟨_, q2⟩ | ⟨q2, _⟩⟩ := q
      · exact ⟨_, q2, rfl, q1⟩
      · rw [hw] at q2; cases q2
    rintro a2 w2 _ F2 ⟨rfl, b2⟩
    try dsimp only at F2
    refine wp_seq (reg_mono (pl_r3 (R := fun po u => po = none ∧ u = w2) (by kernel_rfl) _ F2 rfl ((xnew s hs w2).mono fun e u q => ?_) ?_))
    · rcases q with ⟨_, q2, q3⟩ | ⟨q2, _⟩
      · exact ⟨_, q2, rfl, q3⟩
      · rw [hw] at q2; cases q2
    rintro a3 w3 _ F3 ⟨rfl, rfl⟩
    try dsimp only at F3
    refine wp_seq (wp_seq (reg_mono (pl_r4n (by kernel_rfl) _ F3 rfl ?_)))
    intro a4 F4 g4
    refine wp_cond_true g4 ?_
    show Code.wp _ _ _ _ _
    refine wp_seq (reg_mono (pl_r5 (by kernel_rfl) _ F4 rfl rfl rfl ?_))
    intro a5 F5
    try dsimp only at F5
    refine wp_ret ?_
    simp only [Exit.then]
    exact pl_ret F5 rfl ⟨rfl, b1.trans (b2.mono b1.size)⟩
  | true =>
  refine wp_seq (reg_mono (pl_r2 (ec := 0) (R := fun po u => ∃ L : LOC, po = some ⟨L.b, 0, none⟩ ∧ TAt u L (TG.new s) ∧ (∀ j, L.own j → w1.heap.size ≤ j) ∧ Below w1.heap.size w1 u) (by kernel_rfl) _ F1 rfl (HT.mono fun e u q => ?_) ?_))
  · obtain ⟨q1, ⟨q2, _⟩ | ⟨_, L, q3, q4, q5⟩⟩ := q
    · rw [hw] at q2; cases q2
    · exact ⟨_, q3, L, rfl, q4, q5, q1⟩
  rintro a2 w2 _ F2 ⟨L0, rfl, t2, o2, b2⟩
  try dsimp only at F2
  refine wp_seq (reg_mono (pl_r3 (R := fun po u => ∃ X : XL, po = some ⟨X.b, 0, none⟩ ∧ XAt u X ⟨s, 0, 0, [], []⟩ ∧ (∀ j, X.own j → w2.heap.size ≤ j) ∧ Below w2.heap.size w2 u) (by kernel_rfl) _ F2 rfl ((xnew s hs w2).mono fun e u q => ?_) ?_))
  · rcases q with ⟨q2, _⟩ | ⟨_, X, q3, q4, q5, q6⟩
    · rw [hw] at q2; cases q2
    · exact ⟨_, q3, X, rfl, q4, q6, q5⟩
  rintro a3 w3 _ F3 ⟨X0, rfl, x3, o3, b3⟩
  try dsimp only at F3
  have bw2 := b1.trans (b2.mono b1.size)
  have P0 : PM w.heap.size w w3 L0 X0 (TG.new s) ⟨s, 0, 0, [], []⟩ 0 := ⟨⟨t2.below b3, ⟨hw, List.Pairwise.nil, (fun r hr => by cases hr), Nat.le_refl _, Nat.zero_le _, Nat.le_refl _, Nat.le_refl _, Nat.zero_le _⟩, bw2.trans (b3.mono bw2.size), fun j e => Nat.le_trans b1.size (o2 j e), Nat.le_refl _⟩, x3, fun j e e2 => by have := t2.lt e; have := o3 j e2; omega, fun j e => Nat.le_trans bw2.size (o3 j e)⟩
  refine wp_seq (wp_seq (reg_mono (pl_r4s (by kernel_rfl) _ F3 rfl ?_)))
  intro a4 F4 g4
  refine wp_cond_false g4 (wp_skip ?_)
  show Code.wp _ _ _ _ _
  refine wp_seq (wp_seq (reg_mono (pl_r6 (by kernel_rfl) _ F4 rfl rfl ?_)))
  intro a6 F6 g6
  refine wp_cond_false g6 (wp_skip ?_)
  show Code.wp _ _ _ _ _
  refine wp_seq (wp_seq (reg_mono (pl_r8 (by kernel_rfl) _ F6 ?_)))
  intro a8 F8
  try dsimp only at F8
  refine wp_block (wp_loop (fun a W => ∃ k : Nat, k ≤ us.length ∧ k ≤ 80 ∧ PV w ao us.length cp k k false a W) (fun a _ => us.length - (intOf (a.tmps.getD 9 undef)).toNat) ⟨0, Nat.zero_le _, Nat.zero_le _, _, L0, X0, _, _, F8, rfl, rfl, rfl, rfl, rfl, (fun e => by cases e), P0, pq_new s, tell_new s, Nat.le_refl _⟩ ?_)
  clear F0 F1 F2 F3 F4 F6 F8 P0 t2 o2 x3 o3 b3 b2 bw2 b1 g4 g6 HT
  rintro a W ⟨k, hk, hk80, v, L, X, G, Y, F, q1, q5, q6, q8, q9, _, P, Q, TG_, hfin⟩
  have hmk : (intOf (a.tmps.getD 9 undef)).toNat = k := by rw [F.s9, q9]; simp [intOf]
  refine wp_seq (wp_seq (reg_mono (pl_r9 (by kernel_rfl) _ F q1 q9 ?_)))
  intro a9 F9 g9
  by_cases hlt : k < us.length ∧ k < 80
  case neg =>
    rw [decide_eq_false hlt] at g9
    refine wp_cond_false g9 (wp_exit ?_)
    show Code.wp _ _ _ _ _
    have hlen := P.t.ok.len
    refine wp_seq (reg_mono (pl_r37 (R := fun ro rc u => u.ownsRow W.heap.size 39 5 (.slice ro (readF G.recs 0 1000).length rc) (readF G.recs 0 1000).length (recCells (readF G.recs 0 1000)) ∧ Below W.heap.size W u) (by kernel_rfl) _ F9 q6 ((held_read P.t 0 1000 (by omega)).mono fun e u ⟨ro, rc, e1, e2, _, e4⟩ => ⟨ro, rc, e1, e2, e4⟩) ?_))
    rintro a37 w37 ro rc F37 ⟨row37, b37⟩
    have P37 := P.to b37
    have HX := P37.x
    have XR := xread (box_cell HX.box 4 rfl) (heap_lt HX.box) HX.row (by rw [Q.recs]; omega) 0 1000
    rw [Q.recs, read_eqX P.t.ok.rises] at XR
    refine wp_seq (reg_mono (pl_r38 (Q := fun xo xc u => u.ownsRow w37.heap.size 39 5 (.slice xo (readF G.recs 0 1000).length xc) (readF G.recs 0 1000).length (recCells (readF G.recs 0 1000)) ∧ Below w37.heap.size w37 u) (R := fun u => Below w37.heap.size w37 u) (by kernel_rfl) _ F37 (by first | exact q8 | rfl) rfl (XR.mono fun e u ⟨xo, xc, e1, e2, e3⟩ => ⟨xo, xc, e1, e2, e3⟩) (fun xo xc u ⟨o1, o2⟩ => (records_same _ _ _ u (by have := readF_le G.recs 0 1000; omega) (recs_of_own (below_row o2 row37)) (recs_of_own o1)).mono fun e u2 ⟨e1, nn, e2⟩ => ⟨e1, by rw [e2]; exact below_drewN o2 nn⟩) ?_))
    intro a38 w38 F38 b38
    refine wp_seq (reg_mono (pl_r39 (by kernel_rfl) _ F38 (by first | exact q5 | rfl) rfl ?_))
    intro a39 F39
    refine wp_ret ?_
    exact pl_ret F39 rfl ⟨rfl, (P37.to b38).t.below⟩
  rw [decide_eq_true hlt] at g9
  refine wp_cond_true g9 (wp_skip ?_)
  show Code.wp _ _ _ _ _
  refine wp_seq (wp_block ?_)
  obtain ⟨b, off, hao, hb, hD⟩ := (h.all.below P.t.below) k hlt.1
  obtain ⟨y0, y1, y2, y3, y4, y5, y6⟩ := h.ok _ (List.getElem_mem hlt.1)
  generalize us[k] = d at *
  have q1' := q1
  rw [hao] at q1'
  refine wp_seq (reg_mono (pl_r11 (by kernel_rfl) _ F9 q1' q9 hlt.1 hD ?_))
  intro a11 F11
  have bu := (Below.refl W.heap.size W).alloc (Nat.le_refl _) (.cells #[.int .i64 d.kind, .string d.prod, .int .i64 d.seq, .string d.key, .string d.val, .int .i64 d.n, .int .i64 d.most] 31)
  have P11 := P.to bu
  have D11 : DX (W.alloc (.cells #[.int .i64 d.kind, .string d.prod, .int .i64 d.seq, .string d.key, .string d.val, .int .i64 d.n, .int .i64 d.most] 31)) L X W.heap.size d := ⟨heap_alloc_new _ _, fun e => by have := P.t.at_.lt e; omega, fun e => by have := P.x.lt e; omega⟩
  generalize W.alloc (.cells #[.int .i64 d.kind, .string d.prod, .int .i64 d.seq, .string d.key, .string d.val, .int .i64 d.n, .int .i64 d.most] 31) = w11 at *
  generalize W.heap.size = db at *
  refine wp_seq (reg_mono (pl_r12 (by kernel_rfl) _ F11 ?_))
  intro a12 F12
  obtain ⟨v0, v1, v4, v5, v6, v7, v8, v9, v10, v11, v12, v13, v14, v15, v16, v17, v18, v19, v20, v21, v22, v64⟩ := v
  simp only at q1 q5 q6 q8 q9 F12
  subst q1 q5 q6 q8 q9
  clear F F9 F11 P q1' hD hb bu
  refine wp_midR (PV w ao us.length cp k (k + 1) true) ?_ ?_
  case refine_2 =>
    rintro a34 w34 ⟨v, L, X, G, Y, F, q1, q5, q6, q8, q9, q11, P, Q, TG_, hfin⟩
    have hbx := P.x.box
    rw [Q.name, Q.low, Q.fin] at hbx
    refine wp_seq (reg_mono (pl_r35 (nm := G.name) (lo := (G.low : Int)) (fi := (G.fin : Int)) (by kernel_rfl) _ F q6 q8 (q11 rfl) hbx (fun u bb => tname (P.to bb).t.at_ P.t.ok) (fun u bb => (tlow (P.to bb).t.at_).mono fun e u2 ⟨e1, e2⟩ => ⟨e1, e2 ▸ Below.refl _ _⟩) (fun u bb => (tend (P.to bb).t.at_).mono fun e u2 ⟨e1, e2⟩ => ⟨e1, e2 ▸ Below.refl _ _⟩) ?_))
    intro a35 w35 F35 g35 b35
    refine wp_cond_false g35 (wp_skip ?_)
    show Code.wp _ _ _ _ _
    refine reg_mono (pl_r10 (by kernel_rfl) _ F35 q9 (by omega) ?_)
    intro a10 F10
    refine ⟨⟨k + 1, hlt.1, hlt.2, _, L, X, G, Y, F10, q1, q5, q6, q8, rfl, (fun e => by cases e), P.to b35, Q, TG_, hfin⟩, ?_⟩
    rw [hmk, F10.s9]
    simp [intOf]
    omega
  have hyp := pickF_range d.kind 5 (by omega)
  refine wp_seq (reg_mono (pl_r13 (by kernel_rfl) _ F12 rfl D11.at_ (pick_any d.kind 5 y0.1 y0.2 (by omega) (by omega) w11) ?_))
  intro a13 F13
  generalize pickF d.kind 5 = y at *
  refine wp_block ?_
  by_cases e0 : y = 0
  · subst e0
    refine wp_seq (reg_mono (pl_r20t (by kernel_rfl) _ F13 rfl ?_))
    intro a20 F20 g20
    refine wp_cond_true g20 ?_
    have E21 := held_pub P11.t (by omega) d.prod d.seq d.key d.val (by omega) (by omega) (by omega)
    refine wp_seq (reg_mono (pl_r21 (R := fun u => ∃ L', L'.b = L.b ∧ Held w.heap.size w u L' (pubF G d.prod d.seq d.key d.val).2.2 (k + 1) ∧ TStep w11 u L L') (by kernel_rfl) _ F20 rfl rfl D11.at_ (E21.mono fun e u ⟨h1, L', h2, h3, h4⟩ => ⟨h1, L', h2, h3, h4⟩) ?_))
    rintro a21 w21 F21 ⟨L', eL, H21, s21⟩
    have P21 := P11.stepT H21 s21
    have D21 := D11.stepT s21
    have hpl : Y.prods.length ≤ 100000 := by
      have h1 := congrArg List.length (pq_prods Q TG_ P11.t.at_)
      rw [List.length_map, prods_len _ TG_.isMap] at h1
      have h2 := lsize_le P11.t.at_.map
      have h3 := P11.t.ok.cnt
      omega
    have E22 := xpub P21.x hpl (by rw [Q.recs]; have := P11.t.ok.len; omega) (by rw [Q.fin]; omega) (by rw [Q.fin]; omega) d.prod d.seq d.key d.val (by omega) (by omega) (by omega)
    obtain ⟨z1, z2, z3⟩ := pq_pub Q d.prod d.seq d.key d.val
    refine wp_seq (reg_mono (pl_r22 (R := fun u => ∃ X', XAt u X' (xpubF Y d.prod d.seq d.key d.val).2.2 ∧ XStep w21 u X X') (by kernel_rfl) _ F21 rfl rfl D21.at_ (E22.mono fun e u ⟨h1, X', h2, h3⟩ => ⟨h1, X', h2, h3⟩) ?_))
    rintro a22 w22 F22 ⟨X', x22, s22⟩
    have P22 := P21.stepX x22 s22
    have eX := s22.b
    rw [← z1, ← z2] at F22
    refine reg_all (pl_r23 (by kernel_rfl) _ F22 rfl rfl rfl rfl ?_)
    intro a23 F23
    show PV _ _ _ _ _ _ _ _ _
    exact ⟨_, L', X', _, _, F23, rfl, rfl, by rw [eL], by rw [eX], rfl, fun _ => rfl, P22, z3, tell_pub TG_ _ _ _ _, by have := pub_finP G d.prod d.seq d.key d.val; omega⟩
  refine wp_seq (reg_mono (pl_r20f (by kernel_rfl) _ F13 rfl e0 ?_))
  intro a20 F20 g20
  refine wp_cond_false g20 ?_
  by_cases e1 : y = 1
  · subst e1
    refine wp_seq (reg_mono (pl_r24t (by kernel_rfl) _ F20 rfl ?_))
    intro a24 F24 g24
    refine wp_cond_true g24 ?_
    have hlen := P11.t.ok.len
    have hrl := readF_le G.recs d.n d.most
    refine wp_seq (reg_mono (pl_r25 (R := fun ro rc u => u.ownsRow w11.heap.size 39 5 (.slice ro (readF G.recs d.n d.most).length rc) (readF G.recs d.n d.most).length (recCells (readF G.recs d.n d.most)) ∧ Below w11.heap.size w11 u) (by kernel_rfl) _ F24 rfl rfl D11.at_ ((held_read P11.t d.n d.most y6.2).mono fun e u ⟨ro, rc, e1, e2, _, e4⟩ => ⟨ro, rc, e1, e2, e4⟩) ?_))
    rintro a25 w25 ro rc F25 ⟨row25, b25⟩
    have P25 := P11.to b25
    have D25 := D11.to b25
    have HX := P25.x
    have XR := xread (box_cell HX.box 4 rfl) (heap_lt HX.box) HX.row (by rw [Q.recs]; omega) d.n d.most
    rw [Q.recs, read_eqX P11.t.ok.rises] at XR
    have hb11 := P11.le
    have hlo : ∀ j, L.own j → j < w11.heap.size := fun j e => P11.t.at_.lt e
    have hxo : ∀ j, X.own j → j < w11.heap.size := fun j e => P11.x.lt e
    generalize readF G.recs d.n d.most = RL at *
    refine wp_seq (reg_mono (pl_r26 (Q := fun xo xc u => u.ownsRow w25.heap.size 39 5 (.slice xo RL.length xc) RL.length (recCells RL) ∧ Below w25.heap.size w25 u) (R := fun u => Below w25.heap.size w25 u) (by kernel_rfl) _ F25 rfl rfl rfl D25.at_ (XR.mono fun e u ⟨xo, xc, e1, e2, e3⟩ => ⟨xo, xc, e1, e2, e3⟩) (fun xo xc u ⟨o1, o2⟩ => (records_same _ _ _ u (by omega) (recs_of_own (below_row o2 row25)) (recs_of_own o1)).mono fun e u2 ⟨e1, nn, e2⟩ => ⟨e1, by rw [e2]; exact below_drewN o2 nn⟩) ?_))
    intro a26 w26 F26 b26
    have P26 := P25.to b26
    have row26 := below_row b26 row25
    refine wp_seq (reg_mono (pl_r27 (by kernel_rfl) _ F26 ?_))
    intro a27 F27
    have hr : RL.length = 0 ∨ ∃ lb cs, ro = some ⟨lb, 0, none⟩ ∧ w11.heap.size ≤ lb ∧ w26.heap[lb]? = some (.cells cs 39 (0, 0)) ∧ RL.length * 5 ≤ cs.size := by
      rcases row26.2 with ⟨h1, h2⟩ | ⟨g, cap, cur, hv, hg, hh, hn, hc, hsz, ht⟩
      · exact .inl h2
      · cases hv
        exact .inr ⟨g, cur, rfl, hg, hh, by rw [hsz]; exact Nat.mul_le_mul_right _ hn⟩
    refine wp_block (wp_loop (fun a' W' => ∃ (t : Nat) (v17 : Value), t ≤ RL.length ∧ v17 = .int .i64 (t : Int) ∧ Fpl a' ⟨v0, .slice ao us.length cp, v4, .bool true, .pointer (some ⟨L.b, 0, none⟩), v7, .pointer (some ⟨X.b, 0, none⟩), .int .i64 (k : Int), .pointer (some ⟨db, 0, none⟩), .bool true, v12, v13, v14, v15, .slice ro RL.length rc, v17, v18, v19, v20, v21, v22, .int .i64 1⟩ ∧ PM w.heap.size w W' L X G Y k ∧ (RL.length = 0 ∨ ∃ lb cs, ro = some ⟨lb, 0, none⟩ ∧ w11.heap.size ≤ lb ∧ W'.heap[lb]? = some (.cells cs 39 (0, 0)) ∧ RL.length * 5 ≤ cs.size)) (fun a' _ => RL.length - (intOf (a'.tmps.getD 17 undef)).toNat) ⟨0, _, Nat.zero_le _, rfl, F27, P26, hr⟩ ?_)
    rintro ai Wi ⟨t, _, ht, rfl, Fi, Pi, hri⟩
    have hmt : (intOf (ai.tmps.getD 17 undef)).toNat = t := by rw [Fi.s17]; simp [intOf]
    refine wp_seq (wp_seq (reg_mono (pl_r28 (by kernel_rfl) _ Fi rfl rfl ?_)))
    intro a28 F28 g28
    by_cases htl : t < RL.length
    case neg =>
      rw [decide_eq_false (show ¬ (t : Int) < (RL.length : Int) by omega)] at g28
      refine wp_cond_false g28 (wp_exit ?_)
      show PV _ _ _ _ _ _ _ _ _
      exact ⟨_, L, X, _, _, F28, rfl, rfl, rfl, rfl, rfl, fun _ => rfl, Pi.mono (Nat.le_succ _) (by omega), Q, TG_, by omega⟩
    rw [decide_eq_true (show (t : Int) < (RL.length : Int) by omega)] at g28
    refine wp_cond_true g28 (wp_skip ?_)
    show Code.wp _ _ _ _ _
    obtain ⟨lb, cs, rfl, hlb, hcs, hsz⟩ := hri.resolve_left (by omega)
    have cj : ∀ j, j < 5 → ∃ x, Wi.cell? ⟨lb, 0 + t * 5 + j, none⟩ = some x := fun j hj => ⟨cs[0 + t * 5 + j]'(by omega), box_cell hcs _ (Array.getElem?_eq_getElem (by omega))⟩
    have fj : ∀ o, Wi.frozen? ⟨lb, o, none⟩ = false := fun o => box_free hcs o
    obtain ⟨o0, c0⟩ := cj 0 (by omega)
    obtain ⟨o1, c1⟩ := cj 1 (by omega)
    obtain ⟨o2, c2⟩ := cj 2 (by omega)
    obtain ⟨o3, c3⟩ := cj 3 (by omega)
    obtain ⟨o4, c4⟩ := cj 4 (by omega)
    refine wp_seq (wp_block (reg_all (pl_r30 (by kernel_rfl) _ F28 rfl rfl htl c0 (fj _) c1 (fj _) c2 (fj _) c3 (fj _) c4 (fj _) ?_)))
    intro a30 F30
    show Code.wp _ _ _ _ _
    have tt : Touch (fun j => j = lb) Wi (((((Wi.setCell ⟨lb, 0 + t * 5, none⟩ (.int .i64 0)).setCell ⟨lb, 0 + t * 5 + 1, none⟩ (.string ⟨#[]⟩)).setCell ⟨lb, 0 + t * 5 + 2, none⟩ (.int .i64 0)).setCell ⟨lb, 0 + t * 5 + 3, none⟩ (.string ⟨#[]⟩)).setCell ⟨lb, 0 + t * 5 + 4, none⟩ (.string ⟨#[]⟩)) := ((((((Touch.refl (fun j => j = lb) Wi).setCell _ _ (fun _ => rfl)).setCell _ _ (fun _ => rfl)).setCell _ _ (fun _ => rfl)).setCell _ _ (fun _ => rfl)).setCell _ _ (fun _ => rfl))
    have hx2 := box_set (box_set (box_set (box_set (box_set hcs (0 + t * 5) (.int .i64 0)) (0 + t * 5 + 1) (.string ⟨#[]⟩)) (0 + t * 5 + 2) (.int .i64 0)) (0 + t * 5 + 3) (.string ⟨#[]⟩)) (0 + t * 5 + 4) (.string ⟨#[]⟩)
    have P30 := Pi.row tt (fun e => by have := hlo _ e; omega) (fun e => by have := hxo _ e; omega) (by omega)
    refine reg_mono (pl_r29 (by kernel_rfl) _ F30 rfl (by omega) ?_)
    intro a29 F29
    refine ⟨⟨t + 1, _, htl, rfl, F29, P30, .inr ⟨lb, _, rfl, hlb, hx2, by simp only [Array.size_setIfInBounds]; exact hsz⟩⟩, ?_⟩
    rw [hmt, F29.s17]
    simp [intOf]
    omega
  refine wp_seq (reg_mono (pl_r24f (by kernel_rfl) _ F20 rfl e1 ?_))
  intro a24 F24 g24
  refine wp_cond_false g24 ?_
  by_cases e2 : y = 2
  · subst e2
    refine wp_seq (reg_mono (pl_r31t (by kernel_rfl) _ F24 rfl ?_))
    intro a31 F31 g31
    refine wp_cond_true g31 ?_
    obtain ⟨z1, z2⟩ := pq_trim Q P11.t.ok d.n
    have hfi := trim_finP G d.n
    refine reg_all (pl_r32 (cx := (trimF G d.n).1) (S := fun b1 b2 u => ∃ L1 X1, LOC.b L1 = L.b ∧ XL.b X1 = X.b ∧ PM w.heap.size w u L1 X1 (bif b1 then (trimF G d.n).2 else G) (bif b2 then (xtrimF Y d.n).2 else Y) k ∧ DX u L1 X1 db d) (by kernel_rfl) _ F31 rfl rfl rfl ⟨L, X, rfl, rfl, P11.to (Below.refl _ _).drew, D11.to (Below.refl _ _).drew⟩ (fun b1 b2 u ⟨L1, X1, _, _, _, D1⟩ => box_cell D1.at_ 5 rfl) (fun b2 u ⟨L1, X1, c1, c2, P1, D1⟩ => ?_) (fun b1 u ⟨L1, X1, c1, c2, P1, D1⟩ => ?_) ?_)
    · rw [← c1]
      exact (held_trim P1.t d.n).mono fun e u2 ⟨h1, L', h2, h3, h4⟩ => ⟨h1, L', X1, h2.trans rfl, c2, P1.stepT h3 h4, D1.stepT h4⟩
    · rw [← c2, z1]
      exact (xtrim P1.x (by show Y.recs.length ≤ _; rw [Q.recs]; have := P11.t.ok.len; omega) d.n).mono fun e u2 ⟨h1, X', h2, h3⟩ => ⟨h1, L1, X', c1, h3.b.trans rfl, P1.stepX h2 h3, D1.stepX h3⟩
    rintro a32 w32 F32 ⟨L1, X1, c1, c2, P1, _⟩
    show PV _ _ _ _ _ _ _ _ _
    exact ⟨_, L1, X1, _, _, F32, rfl, rfl, by rw [c1], by rw [c2], rfl, fun _ => rfl, P1.mono (Nat.le_succ _) (by omega), z2, tell_trim TG_ _, by show (trimF G d.n).2.fin ≤ _; omega⟩
  refine wp_seq (reg_mono (pl_r31f (by kernel_rfl) _ F24 rfl e2 ?_))
  intro a31 F31 g31
  refine wp_cond_false g31 ?_
  by_cases e3 : y = 3
  · subst e3
    refine wp_seq (reg_mono (pl_r33t (by kernel_rfl) _ F31 rfl ?_))
    intro a33 F33 g33
    refine wp_cond_true g33 ?_
    have z2 := pq_comp Q d.n
    refine reg_all (pl_r34 (cx := 0) (S := fun b1 b2 u => ∃ L1 X1, LOC.b L1 = L.b ∧ XL.b X1 = X.b ∧ PM w.heap.size w u L1 X1 (bif b1 then compF G d.n else G) (bif b2 then xcompF Y d.n else Y) k ∧ DX u L1 X1 db d) (by kernel_rfl) _ F33 rfl rfl rfl ⟨L, X, rfl, rfl, P11.to (Below.refl _ _).drew, D11.to (Below.refl _ _).drew⟩ (fun b1 b2 u ⟨L1, X1, _, _, _, D1⟩ => box_cell D1.at_ 5 rfl) (fun b2 u ⟨L1, X1, c1, c2, P1, D1⟩ => ?_) (fun b1 u ⟨L1, X1, c1, c2, P1, D1⟩ => ?_) ?_)
    · rw [← c1]
      exact (held_comp P1.t d.n).mono fun e u2 ⟨h1, L', h2, h3, h4⟩ => ⟨h1, L', X1, h2.trans rfl, c2, P1.stepT h3 h4, D1.stepT h4⟩
    · rw [← c2]
      exact (xcomp P1.x (by show Y.recs.length ≤ _; rw [Q.recs]; have := P11.t.ok.len; omega) d.n).mono fun e u2 ⟨h1, X', h2, h3⟩ => ⟨h1, L1, X', c1, h3.b.trans rfl, P1.stepX h2 h3, D1.stepX h3⟩
    rintro a34 w34 F34 ⟨L1, X1, c1, c2, P1, _⟩
    show PV _ _ _ _ _ _ _ _ _
    exact ⟨_, L1, X1, _, _, F34, rfl, rfl, by rw [c1], by rw [c2], rfl, fun _ => rfl, P1.mono (Nat.le_succ _) (by omega), z2, tell_comp TG_ _, by show G.fin ≤ _; omega⟩
  refine wp_seq (reg_mono (pl_r33f (by kernel_rfl) _ F31 rfl e3 ?_))
  intro a33 F33 g33
  refine wp_cond_false g33 ?_
  obtain ⟨hne, _⟩ := tback TG_ P11.t.at_ P11.t.ok (by omega) (by omega) w11
  refine wp_seq (reg_mono (pl_r14 (s := dumpF G) (R := fun u => Below w11.heap.size w11 u) (by kernel_rfl) _ F33 rfl (tdump P11.t.at_ P11.t.ok (tell_prods TG_ P11.t.at_)) ?_))
  intro a14 w14 F14 b14
  have P14 := P11.to b14
  have HL := (tback TG_ P14.t.at_ P14.t.ok (by omega) (by omega) w14).2
  refine wp_seq (reg_mono (pl_r15 (R := fun po u => ∃ M : LOC, po = some ⟨M.b, 0, none⟩ ∧ Below w14.heap.size w14 u ∧ TAt u M (backG G) ∧ ∀ j, M.own j → w14.heap.size ≤ j) (by kernel_rfl) _ F14 rfl (HL.mono fun e u ⟨q1, M, q2, q3, q4⟩ => ⟨_, q2, M, rfl, q1, q3, q4⟩) ?_))
  rintro a15 w15 _ F15 ⟨M, rfl, b15, tM, oM⟩
  have P15 := P14.to b15
  have EQ := back_eq TG_ P14.t.at_
  have TM := back_tell TG_ P14.t.at_
  have okM := back_ok TG_ P14.t.at_ P14.t.ok
  have hdp := pq_dump Q TG_ P14.t.at_
  have hfx := pq_fine Q TG_ P14.t.at_ P14.t.ok (by omega) (by omega)
  refine wp_seq (wp_seq (reg_mono (pl_r16 (R := fun u => Below w15.heap.size w15 u) (by kernel_rfl) _ F15 rfl rfl rfl rfl hne ((xdump P15.x hfx).mono fun e u ⟨e1, e2⟩ => ⟨by rw [e1, hdp], e2⟩) ?_)))
  intro a16 w16 F16 g16 b16
  refine wp_cond_false g16 (wp_skip ?_)
  show Code.wp _ _ _ _ _
  refine wp_seq (reg_mono (pl_r18 (by kernel_rfl) _ F16 rfl hne ?_))
  intro a18 F18 g18
  refine wp_cond_true g18 ?_
  refine reg_all (pl_r19 (by kernel_rfl) _ F18 rfl ?_)
  intro a19 F19
  show PV _ _ _ _ _ _ _ _ _
  have P16 := P15.to b16
  have PM16 : PM w.heap.size w w16 M X (backG G) Y k := ⟨⟨tM.below b16, okM, P16.t.below, fun j e => Nat.le_trans P14.le (oM j e), Nat.le_refl _⟩, P16.x, fun j e e2 => by have := P14.x.lt e2; have := oM j e; omega, P16.xo⟩
  exact ⟨_, M, X, _, _, F19, rfl, rfl, rfl, rfl, rfl, fun _ => rfl, PM16.mono (Nat.le_succ _) (by omega), pq_eqT Q EQ TM.isMap, TM, by show G.fin ≤ _; omega⟩
end Go.Proofs.YtmkkcgkakomacaaGreat.Y
namespace Go.Proofs.YtmkkcgkakomacaaGreat
open Go.ChangeShapes Go.WideShapes Go.ChangeAt Go.RowKit
set_option maxRecDepth 100000
open Go.ChangeMaps (open_string shut_string)
theorem topicPlays_lifted (os : Os) (started : os.Started) (H : Type) (enc : TypeId × Value → H) :
    ReturnsInHanded {} Tryz.checked os 3 .any (Rows.topicPlaysSpec.pre6 enc Tryz.prog Tryz.f3 Rows.topicPlaysRow.domain false) (Rows.topicPlaysSpec.post enc Tryz.prog Tryz.f3 false true false false) := by
  refine returnsInHanded_of_change_sized (C := Tryz.checked) own started (by kernel_rfl) Tryz.func3
    (ChangeSpec.witness6 (enc := enc) (C := Tryz.checked) false ⟨#[], #[.string .empty, .slice none 0 0], []⟩ 8 (by kernel_rfl) (by kernel_rfl) (by kernel_rfl) (by kernel_rfl)) ?_
  intro W base args ds gs before hval0 hW hcnd hsz0 _
  have hval : ∀ (j : Nat) t v, Tryz.f3.params[j]? = some t → args[j]? = some v → Value.okWide Tryz.prog W .any base t v := hval0
  have hsz : (DataW.weightsEach Tryz.prog (Tryz.f3.params.toList ++ Rows.topicPlaysSpec.plain.varTypes Tryz.prog) (ds ++ gs)).all (· ≤ reachBytes) = true := hsz0
  have hW' := hW
  obtain ⟨p, q, hA0, hV, rfl, hfz, hnd⟩ := hW
  have hA : DataW.TrodAll enc Tryz.prog W 0 (fun _ => true) true Tryz.f3.params.toList args.toList ds p := hA0
  rw [Tryz.params3] at hA hval hsz
  obtain ⟨v0, vs0, d0, ds0, p0, q0, hargs, rfl, rfl, h0, r0⟩ := trodAll_cons hA
  obtain ⟨v1, vs1, d1, ds1, p1, q1, rfl, rfl, rfl, h1, r1⟩ := trodAll_cons r0
  obtain ⟨rfl, rfl, rfl⟩ := trodAll_nil r1
  obtain rfl : args = #[v0, v1] := by cases args; simp_all
  obtain ⟨rfl, rfl⟩ := trodVars_none hV
  obtain ⟨a0, rfl, rfl, rfl, w0⟩ := open_string Tryz.underlying9 (hval 0 9 v0 rfl rfl) h0
  have l0 : a0.size ≤ 140737488351232 := by
    have h := sized_string hsz (j := 0) rfl rfl
    rw [show a0.data.toList.length = a0.size by simp] at h
    simp only [reachBytes] at h
    omega
  have k1 := h1
  have lt1 : ∀ x ∈ p1, x.block < W.heap.size := by obtain ⟨m, hm⟩ := k1; exact DataW.trod_lt m _ _ _ hm
  obtain ⟨a1, len1, cap1, rfl⟩ := okWide_slice Tryz.underlying22 (hval 1 22 v1 rfl rfl)
  obtain ⟨us1, rfl, cm1⟩ := des_open h1 hsz (j := 1) rfl rfl
  clear hA0 hval0
  refine (Y.plays_walk a0 (by omega) a1 cap1 us1 W cm1).mono fun e W' ⟨he, bel⟩ => ?_
  subst he
  exact ⟨_, rfl, _, _, _, [], _, [], hW', trodAll_mk1 (shut_bool Tryz.underlying4 _), (trodAll_cons_mk (shut_string Tryz.underlying9 w0) (trodAll_cons_mk (Below.trod laidOut (by kernel_rfl) (of_decide_eq_true (by kernel_rfl)) k1 bel lt1) trodAll_mk0)), rfl, bel.frame _, fun h => by cases h⟩
theorem topicPlays_holds : Rows.TopicPlaysSaid :=
  OpenClaim.holds_of_wide 3 Tryz.f3 rfl rfl rfl rfl rfl rfl rfl ⟨rfl, rfl, rfl, rfl, rfl⟩ rfl rfl rfl rfl rfl (by kernel_rfl) Tryz.func3 (by kernel_rfl)
    (of_decide_eq_true (by kernel_rfl)) (by unfold Func.isWrapper; first | (rw [if_pos (by decide +kernel)]; kernel_rfl) | (rw [if_neg (by decide +kernel)]; exact ⟨rfl, rfl⟩))
    (fun os started H enc _ => topicPlays_lifted os started H enc)
#print axioms topicPlays_holds
end Go.Proofs.YtmkkcgkakomacaaGreat
