/-
  turn, as it runs (mkturn3.py).
-/
import Derived.Test.YthgfijmpofbchaaZTRa
import Derived.Test.YthgfijmpofbchaaZTRb
import Derived.Test.YthgfijmpofbchaaZTRc
import Derived.Test.YthgfijmpofbchaaZTRd
import Derived.Test.YthgfijmpofbchaaZTRe
import Derived.Test.YthgfijmpofbchaaZTRf
import Derived.Test.YthgfijmpofbchaaZTRg
import Derived.Test.YthgfijmpofbchaaZTRh
import Derived.Test.YthgfijmpofbchaaZTRi
import Derived.Test.YthgfijmpofbchaaZTRj
import Derived.Test.YthgfijmpofbchaaZTRk
import Derived.Test.YthgfijmpofbchaaZTRl
import Derived.Deep.DeepCutAuto
namespace Go.Proofs.Ythgfijmpofbchaa
open Go.RowKit

theorem PT.fresh {B : BE} {w : World} {G : PG} {r : Nat → Nat} {p : PR} {d : Nat} {t : TN} (h : PT B w G r p d t) : PT B w G (upd r w.heap.size none 0) p d t :=
  ⟨h.pa.fresh, h.tn, by rw [upd_old (heap_lt h.tn)]; exact h.rd, h.dB⟩
def PR.lose (p : PR) (x : Bool) (i : Nat) : PR := { p with way := set p.way x ((p.way x).take i ++ (p.way x).drop (i + 1)) }
def PR.take (p : PR) (x : Bool) (f : FR) : PR := { p with l := set p.l x ((p.l x).take f).2, told := set p.told x (p.told x ++ ((p.l x).take f).1.1) }
/-- What a turn does. -/
def PR.turn (p : PR) (x : Bool) (kind : Nat) (i : Int) (s : ByteArray) : PR :=
  if kind = 0 then { p with l := set p.l x ((p.l x).send s).2, sent := if ((p.l x).send s).1 = 0 then set p.sent x (p.sent x ++ [s]) else p.sent }
  else if kind = 1 then p.pt x
  else if kind = 2 then p.tk x
  else match (p.way x)[(pickZ i (p.way x).length).toNat]? with
    | none => p
    | some f => if kind = 3 then (p.lose x (pickZ i (p.way x).length).toNat).take x f else if kind = 4 then p.lose x (pickZ i (p.way x).length).toNat else p.take x f
def TN.ok (t : TN) : Prop := (-9223372036854775808 ≤ t.kind ∧ t.kind ≤ 9223372036854775807) ∧ (-9223372036854775808 ≤ t.who ∧ t.who ≤ 9223372036854775807) ∧ (-9223372036854775808 ≤ t.i ∧ t.i ≤ 9223372036854775807) ∧ t.s.size ≤ 281474976710656
def TN.x (t : TN) : Bool := decide (pickZ t.who 2 = 1)
def TN.k (t : TN) : Nat := (pickZ t.kind 6).toNat
/-- What the lists may be. -/
structure Lens (p : PR) : Prop where
  way : ∀ x, (p.way x).length ≤ 90000
  sent : ∀ x, (p.sent x).length ≤ 90000
  told : ∀ x, (p.told x).length ≤ 90000
theorem outs_len (l : LK) : l.outs.length ≤ 8 := by
  unfold LK.outs
  split
  · simp
  · rw [← dueL_fr, List.length_map]; exact dueL_len
set_option maxHeartbeats 8000000 in
set_option maxRecDepth 100000 in
/-- The end: true is told. -/
theorem turn_end {w0 w : World} {B : BE} {G G' : PG} {r : Nat → Nat} {p' : PR} {a : Act} {d : Nat} {t : TN} {k o : Nat} {v7 v8 v9 v10 v11 v19 : Value} (hF : FT a G.pb d k o v7 v8 v9 v10 v11 v19) (h4 : a.tmps.getD 4 undef = .bool true) (hP : PT B w G' r p' d t) (hpb : G'.pb = G.pb) (hB : Below B w0 w) :
    bodyPost Try.prog Try.f22 (fun e w' => e = .returned (.bool true) ∧ ∃ G' r', PA B w' G' r' p' ∧ G'.pb = G.pb ∧ Below B w0 w') .ret a w := by
  have h5 : a.tmps[4]?.getD undef = .bool true := by
    have := h4
    rw [Array.getD_eq_getD_getElem?] at this
    exact this
  refine bodyPost_ret (v := .bool true) ?_ hF.defers ⟨rfl, G', r, hP.pa, hpb, hB⟩
  simp [results, Try.results22, go_sem, h5]
set_option maxHeartbeats 8000000 in
set_option maxRecDepth 100000 in
theorem turn_send {B : BE} {w : World} {G : PG} {r : Nat → Nat} {p : PR} (t : TN) (ht : t.ok) (hP : PA B w G r p) (hL : Lens p) (hkind : t.k = 0) :
    Calls Try.prog 22 #[.pointer (some ⟨G.pb, 0, none⟩), t.v] w fun e w' => e = .returned (.bool true) ∧ ∃ G' r', PA B w' G' r' (p.turn t.x t.k t.i t.s) ∧ G'.pb = G.pb ∧ Below B w w' := by
  obtain ⟨htk, htw, hti, hts⟩ := ht
  have HL := hide hL
  have hx2 := pickZ_range t.who 2 (by omega)
  have hk6 := pickZ_range t.kind 6 (by omega)
  have HP2 := hide (fun W => pick_any t.who 2 W htw (by omega))
  have HP6 := hide (fun W => pick_any t.kind 6 W htk (by omega))
  have hxk : pickZ t.who 2 = (ix t.x : Int) := by
    unfold TN.x
    by_cases e : pickZ t.who 2 = 1
    · rw [decide_eq_true e, e]; rfl
    · rw [decide_eq_false e]; show _ = (0 : Int); omega
  have hkk : pickZ t.kind 6 = (t.k : Int) := by unfold TN.k; omega
  have hk6' : t.k < 6 := by omega
  rw [hxk] at HP2
  rw [hkk] at HP6
  have P0 : Hid (PT B (w.alloc (.cells t.c 52)) G (upd r w.heap.size none 0) p w.heap.size t) := ⟨hP.fresh.alloc _, heap_alloc_new w _, by unfold upd; rw [if_pos (Nat.le_refl _), if_neg (by simp)], hP.size⟩
  have BB : Hid (Below B w (w.alloc (.cells t.c 52))) := (Below.refl _ _).alloc hP.size _
  obtain ⟨oi, hoi⟩ : ∃ oi, ix (!t.x) = oi := ⟨_, rfl⟩
  have hoo : (1 : Int) - (ix t.x : Int) = (oi : Int) := by have h1 := ix_lt t.x; have h2 := ix_not t.x; omega
  have HOI := hide hoi
  have hib := ix_lt t.x
  have HXK := hide hxk
  have HKK := hide hkk
  obtain ⟨kk, hkn⟩ : ∃ kk, t.k = kk := ⟨_, rfl⟩
  rw [hkn] at HP6 hk6'
  have HKN := hide hkn
  obtain ⟨xi, hxi⟩ : ∃ xi, ix t.x = xi := ⟨_, rfl⟩
  rw [hxi] at HP2 hoo hib
  have HXI := hide hxi
  clear hP hL htw hxk hkk hkn hxi hx2 hk6 hoi
  obtain rfl : kk = 0 := by have := HKN.out; omega
  obtain ⟨tk, tw, ti, ts⟩ := t
  simp only [TN.v, TN.c] at *
  go_enter Try.func22, Try.ntmps22
  go_wp2_with fail
  refine (HP2.out _).mono ?_
  rintro e w1 ⟨rfl, hw1⟩
  obtain rfl := hw1.symm
  clear hw1
  go_wp2_with fail
  refine (HP6.out _).mono ?_
  rintro e w1 ⟨rfl, hw1⟩
  obtain rfl := hw1.symm
  clear hw1
  go_upto_region 22 with fail
  rename_i Ko hKo Ki hKi
  refine reg_mono (turn_r22 (by kernel_rfl) _ ⟨rfl, rfl, rfl, rfl, rfl, rfl, rfl, rfl, rfl, rfl, rfl, rfl⟩ _ HXI.out.symm HOI.out.symm P0.out hts ?_)
  intro a1 w1 v1 F1 h177 P1 B1
  refine hKi _ _ ?_
  have hL1 := HL.out
  by_cases hs : ((p.l (TN.mk tk tw ti ts).x).send ts).1 = 0
  · rw [show (((p.l (TN.mk tk tw ti ts).x).send ts).1 == 0) = true by rw [hs]; rfl] at h177
    refine wp_cond_true h177 ?_
    refine reg_all (turn_r23 (G := { G with v := set G.v (TN.mk tk tw ti ts).x v1 }) (by kernel_rfl) _ F1 _ HXI.out.symm HOI.out.symm P1 (by have := hL1.sent (TN.mk tk tw ti ts).x; show (p.sent _).length ≤ _; omega) ?_)
    intro a2 w2 v2 F2 P2 B2
    show Ko _ _
    refine hKo _ _ ?_
    refine wp_seq (reg_mono (turn_r28 (by kernel_rfl) _ F2 ?_))
    intro a3 F3 h4
    refine wp_ret ?_
    have e1 : p.turn (TN.mk tk tw ti ts).x (TN.mk tk tw ti ts).k ti ts = { p with l := set p.l (TN.mk tk tw ti ts).x ((p.l (TN.mk tk tw ti ts).x).send ts).2, sent := set p.sent (TN.mk tk tw ti ts).x (p.sent (TN.mk tk tw ti ts).x ++ [ts]) } := by
      unfold PR.turn; rw [if_pos hkind, if_pos hs]
    show bodyPost _ _ (fun e w' => e = .returned (.bool true) ∧ ∃ G' r', PA B w' G' r' (p.turn (TN.mk tk tw ti ts).x (TN.mk tk tw ti ts).k ti ts) ∧ G'.pb = G.pb ∧ Below B w w') _ _ _
    rw [e1]
    exact turn_end F3 h4 P2 rfl (BB.out.trans (B1.trans B2))
  · rw [show (((p.l (TN.mk tk tw ti ts).x).send ts).1 == 0) = false by rw [beq_eq_false_iff_ne]; exact hs] at h177
    refine wp_cond_false h177 (wp_skip ?_)
    show Ko _ _
    refine hKo _ _ ?_
    refine wp_seq (reg_mono (turn_r28 (by kernel_rfl) _ F1 ?_))
    intro a3 F3 h4
    refine wp_ret ?_
    have e1 : p.turn (TN.mk tk tw ti ts).x (TN.mk tk tw ti ts).k ti ts = { p with l := set p.l (TN.mk tk tw ti ts).x ((p.l (TN.mk tk tw ti ts).x).send ts).2 } := by
      unfold PR.turn; rw [if_pos hkind, if_neg hs]
    show bodyPost _ _ (fun e w' => e = .returned (.bool true) ∧ ∃ G' r', PA B w' G' r' (p.turn (TN.mk tk tw ti ts).x (TN.mk tk tw ti ts).k ti ts) ∧ G'.pb = G.pb ∧ Below B w w') _ _ _
    rw [e1]
    exact turn_end F3 h4 P1 rfl (BB.out.trans B1)
set_option maxHeartbeats 8000000 in
set_option maxRecDepth 100000 in
theorem turn_out {B : BE} {w : World} {G : PG} {r : Nat → Nat} {p : PR} (t : TN) (ht : t.ok) (hP : PA B w G r p) (hL : Lens p) (hkind : t.k = 1) :
    Calls Try.prog 22 #[.pointer (some ⟨G.pb, 0, none⟩), t.v] w fun e w' => e = .returned (.bool true) ∧ ∃ G' r', PA B w' G' r' (p.turn t.x t.k t.i t.s) ∧ G'.pb = G.pb ∧ Below B w w' := by
  obtain ⟨htk, htw, _, _⟩ := ht
  have HL := hide hL
  have hx2 := pickZ_range t.who 2 (by omega)
  have hk6 := pickZ_range t.kind 6 (by omega)
  have HP2 := hide (fun W => pick_any t.who 2 W htw (by omega))
  have HP6 := hide (fun W => pick_any t.kind 6 W htk (by omega))
  have hxk : pickZ t.who 2 = (ix t.x : Int) := by
    unfold TN.x
    by_cases e : pickZ t.who 2 = 1
    · rw [decide_eq_true e, e]; rfl
    · rw [decide_eq_false e]; show _ = (0 : Int); omega
  have hkk : pickZ t.kind 6 = (t.k : Int) := by unfold TN.k; omega
  have hk6' : t.k < 6 := by omega
  rw [hxk] at HP2
  rw [hkk] at HP6
  have P0 : Hid (PT B (w.alloc (.cells t.c 52)) G (upd r w.heap.size none 0) p w.heap.size t) := ⟨hP.fresh.alloc _, heap_alloc_new w _, by unfold upd; rw [if_pos (Nat.le_refl _), if_neg (by simp)], hP.size⟩
  have BB : Hid (Below B w (w.alloc (.cells t.c 52))) := (Below.refl _ _).alloc hP.size _
  obtain ⟨oi, hoi⟩ : ∃ oi, ix (!t.x) = oi := ⟨_, rfl⟩
  have hoo : (1 : Int) - (ix t.x : Int) = (oi : Int) := by have h1 := ix_lt t.x; have h2 := ix_not t.x; omega
  have HOI := hide hoi
  have hib := ix_lt t.x
  have HXK := hide hxk
  have HKK := hide hkk
  obtain ⟨kk, hkn⟩ : ∃ kk, t.k = kk := ⟨_, rfl⟩
  rw [hkn] at HP6 hk6'
  have HKN := hide hkn
  obtain ⟨xi, hxi⟩ : ∃ xi, ix t.x = xi := ⟨_, rfl⟩
  rw [hxi] at HP2 hoo hib
  have HXI := hide hxi
  clear hP hL htw hxk hkk hkn hxi hx2 hk6 hoi
  obtain rfl : kk = 1 := by have := HKN.out; omega
  obtain ⟨tk, tw, ti, ts⟩ := t
  simp only [TN.v, TN.c] at *
  go_enter Try.func22, Try.ntmps22
  go_wp2_with fail
  refine (HP2.out _).mono ?_
  rintro e w1 ⟨rfl, hw1⟩
  obtain rfl := hw1.symm
  clear hw1
  go_wp2_with fail
  refine (HP6.out _).mono ?_
  rintro e w1 ⟨rfl, hw1⟩
  obtain rfl := hw1.symm
  clear hw1
  go_upto_region 25 with fail
  rename_i Ko hKo
  refine reg_all (turn_r25 (by kernel_rfl) _ ⟨rfl, rfl, rfl, rfl, rfl, rfl, rfl, rfl, rfl, rfl, rfl, rfl⟩ _ HXI.out.symm HOI.out.symm P0.out (by have := HL.out.way (!(TN.mk tk tw ti ts).x); omega) (by have := outs_len (p.l (TN.mk tk tw ti ts).x); omega) ?_)
  intro a1 w1 v1 rr F1 P1 B1
  show Ko _ _
  refine hKo _ _ ?_
  refine wp_seq (reg_mono (turn_r28 (by kernel_rfl) _ F1 ?_))
  intro a3 F3 h4
  refine wp_ret ?_
  have e1 : p.turn (TN.mk tk tw ti ts).x (TN.mk tk tw ti ts).k ti ts = p.pt (TN.mk tk tw ti ts).x := by
    unfold PR.turn; rw [if_neg (by rw [hkind]; decide), if_pos hkind]
  show bodyPost _ _ (fun e w' => e = .returned (.bool true) ∧ ∃ G' r', PA B w' G' r' (p.turn (TN.mk tk tw ti ts).x (TN.mk tk tw ti ts).k ti ts) ∧ G'.pb = G.pb ∧ Below B w w') _ _ _
  rw [e1]
  exact turn_end F3 h4 P1 rfl (BB.out.trans B1)
set_option maxHeartbeats 8000000 in
set_option maxRecDepth 100000 in
theorem turn_tick {B : BE} {w : World} {G : PG} {r : Nat → Nat} {p : PR} (t : TN) (ht : t.ok) (hP : PA B w G r p) (hL : Lens p) (hkind : t.k = 2) :
    Calls Try.prog 22 #[.pointer (some ⟨G.pb, 0, none⟩), t.v] w fun e w' => e = .returned (.bool true) ∧ ∃ G' r', PA B w' G' r' (p.turn t.x t.k t.i t.s) ∧ G'.pb = G.pb ∧ Below B w w' := by
  obtain ⟨htk, htw, _, _⟩ := ht
  have HL := hide hL
  have hx2 := pickZ_range t.who 2 (by omega)
  have hk6 := pickZ_range t.kind 6 (by omega)
  have HP2 := hide (fun W => pick_any t.who 2 W htw (by omega))
  have HP6 := hide (fun W => pick_any t.kind 6 W htk (by omega))
  have hxk : pickZ t.who 2 = (ix t.x : Int) := by
    unfold TN.x
    by_cases e : pickZ t.who 2 = 1
    · rw [decide_eq_true e, e]; rfl
    · rw [decide_eq_false e]; show _ = (0 : Int); omega
  have hkk : pickZ t.kind 6 = (t.k : Int) := by unfold TN.k; omega
  have hk6' : t.k < 6 := by omega
  rw [hxk] at HP2
  rw [hkk] at HP6
  have P0 : Hid (PT B (w.alloc (.cells t.c 52)) G (upd r w.heap.size none 0) p w.heap.size t) := ⟨hP.fresh.alloc _, heap_alloc_new w _, by unfold upd; rw [if_pos (Nat.le_refl _), if_neg (by simp)], hP.size⟩
  have BB : Hid (Below B w (w.alloc (.cells t.c 52))) := (Below.refl _ _).alloc hP.size _
  obtain ⟨oi, hoi⟩ : ∃ oi, ix (!t.x) = oi := ⟨_, rfl⟩
  have hoo : (1 : Int) - (ix t.x : Int) = (oi : Int) := by have h1 := ix_lt t.x; have h2 := ix_not t.x; omega
  have HOI := hide hoi
  have hib := ix_lt t.x
  have HXK := hide hxk
  have HKK := hide hkk
  obtain ⟨kk, hkn⟩ : ∃ kk, t.k = kk := ⟨_, rfl⟩
  rw [hkn] at HP6 hk6'
  have HKN := hide hkn
  obtain ⟨xi, hxi⟩ : ∃ xi, ix t.x = xi := ⟨_, rfl⟩
  rw [hxi] at HP2 hoo hib
  have HXI := hide hxi
  clear hP hL htw hxk hkk hkn hxi hx2 hk6 hoi
  obtain rfl : kk = 2 := by have := HKN.out; omega
  obtain ⟨tk, tw, ti, ts⟩ := t
  simp only [TN.v, TN.c] at *
  go_enter Try.func22, Try.ntmps22
  go_wp2_with fail
  refine (HP2.out _).mono ?_
  rintro e w1 ⟨rfl, hw1⟩
  obtain rfl := hw1.symm
  clear hw1
  go_wp2_with fail
  refine (HP6.out _).mono ?_
  rintro e w1 ⟨rfl, hw1⟩
  obtain rfl := hw1.symm
  clear hw1
  go_upto_region 27 with fail
  rename_i Ko hKo
  refine reg_all (turn_r27 (by kernel_rfl) _ ⟨rfl, rfl, rfl, rfl, rfl, rfl, rfl, rfl, rfl, rfl, rfl, rfl⟩ _ HXI.out.symm HOI.out.symm P0.out ?_)
  intro a1 w1 rr F1 P1 B1
  show Ko _ _
  refine hKo _ _ ?_
  refine wp_seq (reg_mono (turn_r28 (by kernel_rfl) _ F1 ?_))
  intro a3 F3 h4
  refine wp_ret ?_
  have e1 : p.turn (TN.mk tk tw ti ts).x (TN.mk tk tw ti ts).k ti ts = p.tk (TN.mk tk tw ti ts).x := by
    unfold PR.turn; rw [if_neg (by rw [hkind]; decide), if_neg (by rw [hkind]; decide), if_pos hkind]
  show bodyPost _ _ (fun e w' => e = .returned (.bool true) ∧ ∃ G' r', PA B w' G' r' (p.turn (TN.mk tk tw ti ts).x (TN.mk tk tw ti ts).k ti ts) ∧ G'.pb = G.pb ∧ Below B w w') _ _ _
  rw [e1]
  exact turn_end F3 h4 P1 rfl (BB.out.trans B1)
end Go.Proofs.Ythgfijmpofbchaa
