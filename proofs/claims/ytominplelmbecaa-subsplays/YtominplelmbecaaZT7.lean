/-
  A topic that a call has made, held beside all that was there; pick, records.
-/
import Derived.Test.YtominplelmbecaaZT6
import Derived.Laws.StructEq
import Derived.Deep.QuietTactic
namespace Go.Proofs.Ytominplelmbecaa.Y
open Go.RowKit Go.Maps
set_option maxRecDepth 100000

set_option linter.unusedVariables false
set_option linter.unusedSimpArgs false
/-- A topic whose blocks lie from B on; below B all is as in w0. -/
structure Held (B : Nat) (w0 w : World) (L : LOC) (G : TG) (c : Nat) : Prop where
  at_ : TAt w L G
  ok : G.Ok c
  below : Below B w0 w
  new : ∀ j, L.own j → B ≤ j
  le : B ≤ w0.heap.size
theorem Held.to {B : Nat} {w0 w w' : World} {L : LOC} {G : TG} {c : Nat} (h : Held B w0 w L G c) (hb : Below w.heap.size w w') : Held B w0 w' L G c := ⟨h.at_.below hb, h.ok, h.below.trans (hb.mono (Nat.le_trans h.le h.below.size)), h.new, h.le⟩
theorem Held.step {B : Nat} {w0 w w' : World} {L L' : LOC} {G G' : TG} {c c' : Nat} (h : Held B w0 w L G c) (ha : TAt w' L' G') (hk : G'.Ok c') (s : TStep w w' L L') : Held B w0 w' L' G' c' := by
  have hB : B ≤ w.heap.size := Nat.le_trans h.le h.below.size
  refine ⟨ha, hk, h.below.trans (s.touch.toBelow hB fun k hk e => ?_), fun j hj => ?_, h.le⟩
  · have := h.new k e; omega
  · rcases s.own j hj with e | e
    · exact h.new j e
    · omega
theorem held_pub {B : Nat} {w0 w : World} {L : LOC} {G : TG} {c : Nat} (h : Held B w0 w L G c) (hc : c + 1 ≤ 100000) (p : ByteArray) (seq : Int) (k v : ByteArray) (hp : p.size ≤ 281474976710656) (hy : k.size ≤ 281474976710656) (hv : v.size ≤ 281474976710656) :
    Calls Try.prog 9 #[.pointer (some ⟨L.b, 0, none⟩), .string p, .int .i64 seq, .string k, .string v] w fun e w' =>
    e = .returned (.tuple #[.int .i64 (pubF G p seq k v).1, .int .i64 (pubF G p seq k v).2.1]) ∧ ∃ L', L'.b = L.b ∧ Held B w0 w' L' (pubF G p seq k v).2.2 (c + 1) ∧ TStep w w' L L' :=
  (tpub h.at_ h.ok hc p seq k v hp hy hv).mono fun e w' ⟨h1, L', h2, h3⟩ => ⟨h1, L', h3.b, h.step h2 (pub_ok h.ok hc _ _ _ _) h3, h3⟩
theorem held_trim {B : Nat} {w0 w : World} {L : LOC} {G : TG} {c : Nat} (h : Held B w0 w L G c) (n : Int) : Calls Try.prog 22 #[.pointer (some ⟨L.b, 0, none⟩), .int .i64 n] w fun e w' =>
    e = .returned (.int .i64 (trimF G n).1) ∧ ∃ L', L'.b = L.b ∧ Held B w0 w' L' (trimF G n).2 c ∧ TStep w w' L L' :=
  (ttrim h.at_ h.ok n).mono fun e w' ⟨h1, L', h2, h3⟩ => ⟨h1, L', h3.b, h.step h2 (trim_ok h.ok _) h3, h3⟩
theorem held_comp {B : Nat} {w0 w : World} {L : LOC} {G : TG} {c : Nat} (h : Held B w0 w L G c) (n : Int) : Calls Try.prog 29 #[.pointer (some ⟨L.b, 0, none⟩), .int .i64 n] w fun e w' =>
    e = .returned (.int .i64 0) ∧ ∃ L', L'.b = L.b ∧ Held B w0 w' L' (compF G n) c ∧ TStep w w' L L' :=
  (tcompact h.at_ h.ok n).mono fun e w' ⟨h1, L', h2, h3⟩ => ⟨h1, L', h3.b, h.step h2 (comp_ok h.ok _) h3, h3⟩
theorem held_read {B : Nat} {w0 w : World} {L : LOC} {G : TG} {c : Nat} (h : Held B w0 w L G c) (off most : Int) (h64 : most ≤ 9223372036854775807) : Calls Try.prog 28 #[.pointer (some ⟨L.b, 0, none⟩), .int .i64 off, .int .i64 most] w fun e w' =>
    ∃ ao cp, e = .returned (.slice ao (readF G.recs off most).length cp) ∧ w'.ownsRow w.heap.size 63 5 (.slice ao (readF G.recs off most).length cp) (readF G.recs off most).length (recCells (readF G.recs off most)) ∧ Held B w0 w' L G c ∧ Below w.heap.size w w' :=
  (tread h.at_ h.ok off most h64).mono fun e w' ⟨v', h1, h2, h3⟩ => by
    obtain ⟨ao, cp, rfl⟩ := row_slice h2
    exact ⟨ao, cp, h1, h2, h.to h3, h3⟩
theorem held_new (s : ByteArray) (hs : s.size ≤ 281474976710656) (hw : wordB s = true) {B : Nat} {w0 w : World} (hb : Below B w0 w) (hB : B ≤ w0.heap.size) : Calls Try.prog 6 #[.string s] w fun e w' =>
    ∃ L, e = .returned (.tuple #[.pointer (some ⟨LOC.b L, 0, none⟩), .int .i64 0]) ∧ Held B w0 w' L (TG.new s) 0 ∧ Below w.heap.size w w' ∧ ∀ j, L.own j → w.heap.size ≤ j :=
  (tnew s hs w).mono fun e w' ⟨h1, h2⟩ => by
    rcases h2 with ⟨h2, _⟩ | ⟨_, L, h3, h4, h5⟩
    · rw [hw] at h2; cases h2
    · have hB2 : B ≤ w.heap.size := Nat.le_trans hB hb.size
      exact ⟨L, h3, ⟨h4, ⟨hw, List.Pairwise.nil, (fun r hr => by cases hr), Nat.le_refl _, Nat.zero_le _, Nat.le_refl _, Nat.le_refl _, Nat.zero_le _⟩, hb.trans (h1.mono hB2), fun j hj => Nat.le_trans hB2 (h5 j hj), hB⟩, h1, h5⟩
/-- A number c, round about of n. -/
def pickF (c n : Int) : Int := (if c < 0 then -(c + 1) else c) % n
set_option maxHeartbeats 1000000 in
theorem pick_any (c n : Int) (h0 : -9223372036854775808 ≤ c) (h1 : c ≤ 9223372036854775807) (hn : 0 < n) (hn2 : n ≤ 9223372036854775807) (w : World) : Calls Try.prog 8 #[.int .i64 c, .int .i64 n] w fun e w' => e = .returned (.int .i64 (pickF c n)) ∧ w' = w := by
  have hz : (n == 0) = false := by simp; omega
  have hz2 : ¬ n = 0 := by omega
  unfold pickF
  by_cases h : c < 0
  · rw [if_pos h]
    have e1 : (-(c + 1)).tmod n = -(c + 1) % n := Int.tmod_eq_emod_of_nonneg (by omega)
    have q0 : 0 ≤ -(c + 1) % n := Int.emod_nonneg _ hz2
    have q1 : -(c + 1) % n < n := Int.emod_lt_of_pos _ hn
    go_enter Try.func8, Try.ntmps8
    go_wp2
    go_ret
    exact ⟨rfl, rfl⟩
  · rw [if_neg h]
    have e1 : c.tmod n = c % n := Int.tmod_eq_emod_of_nonneg (by omega)
    have q0 : 0 ≤ c % n := Int.emod_nonneg _ hz2
    have q1 : c % n < n := Int.emod_lt_of_pos _ hn
    go_enter Try.func8, Try.ntmps8
    go_wp2
    go_ret
    exact ⟨rfl, rfl⟩
theorem pickF_range (c n : Int) (hn : 0 < n) : 0 ≤ pickF c n ∧ pickF c n < n := ⟨Int.emod_nonneg _ (by omega), Int.emod_lt_of_pos _ hn⟩
set_option maxHeartbeats 2000000 in
theorem records_same (l : List Rec) (va vb : Value) (w : World) (hl : l.length ≤ 1099511627776) (ha : RecsAt w va l) (hb : RecsAt w vb l) :
    Calls Try.prog 24 #[va, vb] w fun e w' => e = .returned (.bool true) ∧ ∃ n, w' = w.drewN n := by
  obtain ⟨ao, ac, rfl, _, _⟩ := id ha
  obtain ⟨bo, bc, rfl, _, _⟩ := id hb
  have HA := hide ha
  have HB := hide hb
  clear ha hb
  go_enter Try.func24, Try.ntmps24
  go_wp2
  go_loopw [5] (fun iv wv => ∃ k n : Nat, k ≤ l.length ∧ iv = .int .i64 k ∧ wv = w.drewN n) (fun iv _ => l.length - (intOf iv).toNat)
  case atStart => exact ⟨0, 0, Nat.zero_le _, rfl, rfl⟩
  case round =>
    obtain ⟨k, n, hk, rfl, rfl⟩ := hrel
    by_cases hlt : k < l.length
    · obtain ⟨_, b, off, rfl, _, a0, a1, a2, a3, a4⟩ := HA.out.five k hlt
      obtain ⟨_, b2, off2, rfl, _, b0, b1, b2', b3, b4⟩ := HB.out.five k hlt
      have hi0 : (0 : Int) ≤ (k : Int) := by omega
      have hi1 : (k : Int) < (l.length : Int) := by omega
      generalize l[k] = x at *
      obtain ⟨xo, xp, xs, xk, xv⟩ := x
      simp only at a0 a1 a2 a3 a4 b0 b1 b2' b3 b4
      go_wp2
      go_quiet (fail)
      go_wp2
      exact ⟨⟨k + 1, n + nq, by omega, by go_num, rfl⟩, by simp [intOf]; omega⟩
    · have hi1 : ¬ (k : Int) < (l.length : Int) := by omega
      go_wp2
      go_ret
      exact ⟨rfl, n, rfl⟩
theorem records_below (l : List Rec) (va vb : Value) (w : World) (hl : l.length ≤ 1099511627776) (ha : RecsAt w va l) (hb : RecsAt w vb l) :
    Calls Try.prog 24 #[va, vb] w fun e w' => e = .returned (.bool true) ∧ Below w.heap.size w w' := by
  refine (records_same l va vb w hl ha hb).mono ?_
  rintro e w' ⟨rfl, n, rfl⟩
  exact ⟨rfl, ⟨rfl, rfl, rfl, Nat.le_refl _, fun _ _ => rfl⟩⟩
end Go.Proofs.Ytominplelmbecaa.Y
