/-
  A topic that a call has made, held beside all that was there; pick, records.
-/
import Derived.Test.YtoafjgioknkeiaaT6
import Derived.Laws.StructEq
import Derived.Deep.QuietTactic
namespace Go.Proofs.Ytoafjgioknkeiaa.Y
open Go.RowKit Go.Maps

set_option linter.unusedVariables false
set_option linter.unusedSimpArgs false
/-- A topic whose blocks lie from B on; below B all is as in w0. -/
structure Held (B : Nat) (w0 w : World) (L : LOC) (G : TG) (c : Nat) : Prop where
  at_ : TAt w L G
  ok : G.Ok c
  below : Below B w0 w
  new : ∀ j, L.own j → B ≤ j
  le : B ≤ w0.heap.size
theorem Held.to {B : Nat} {w0 w w' : World} {L : LOC} {G : TG} {c : Nat} (h : Held B w0 w L G c) (hb : Below w.heap.size w w') : Held B w0 w' L G c := ⟨h.at_.below hb, h.ok, h.below.trans (hb.mono (Nat.le_trans h.le h.below.size)), h.new, h.le⟩
theorem Held.step {B : Nat} {w0 w w' : World} {L L' : LOC} {G G' : TG} {c c' : Nat} (h : Held B w0 w L G c) (ha : TAt w' L' G') (hk : G'.Ok c') (s : TStep w w' L L') : Held B w0 w' L' G' c' := by
  have hB : B ≤ w.heap.size := Nat.le_trans h.le h.below.size
  refine ⟨ha, hk, h.below.trans (s.touch.toBelow hB fun k hk e => ?_), fun j hj => ?_, h.le⟩
  · have := h.new k e; omega
  · rcases s.own j hj with e | e
    · exact h.new j e
    · omega
theorem held_pub {B : Nat} {w0 w : World} {L : LOC} {G : TG} {c : Nat} (h : Held B w0 w L G c) (hc : c + 1 ≤ 100000) (p : ByteArray) (seq : Int) (k v : ByteArray) (hp : p.size ≤ 281474976710656) (hy : k.size ≤ 281474976710656) (hv : v.size ≤ 281474976710656) :
    Calls Try.prog 10 #[.pointer (some ⟨L.b, 0, none⟩), .string p, .int .i64 seq, .string k, .string v] w fun e w' =>
    e = .returned (.tuple #[.int .i64 (pubF G p seq k v).1, .int .i64 (pubF G p seq k v).2.1]) ∧ ∃ L', L'.b = L.b ∧ Held B w0 w' L' (pubF G p seq k v).2.2 (c + 1) ∧ TStep w w' L L' :=
  (tpub h.at_ h.ok hc p seq k v hp hy hv).mono fun e w' ⟨h1, L', h2, h3⟩ => ⟨h1, L', h3.b, h.step h2 (pub_ok h.ok hc _ _ _ _) h3, h3⟩
theorem held_trim {B : Nat} {w0 w : World} {L : LOC} {G : TG} {c : Nat} (h : Held B w0 w L G c) (n : Int) : Calls Try.prog 18 #[.pointer (some ⟨L.b, 0, none⟩), .int .i64 n] w fun e w' =>
    e = .returned (.int .i64 (trimF G n).1) ∧ ∃ L', L'.b = L.b ∧ Held B w0 w' L' (trimF G n).2 c ∧ TStep w w' L L' :=
  (ttrim h.at_ h.ok n).mono fun e w' ⟨h1, L', h2, h3⟩ => ⟨h1, L', h3.b, h.step h2 (trim_ok h.ok _) h3, h3⟩
theorem held_comp {B : Nat} {w0 w : World} {L : LOC} {G : TG} {c : Nat} (h : Held B w0 w L G c) (n : Int) : Calls Try.prog 19 #[.pointer (some ⟨L.b, 0, none⟩), .int .i64 n] w fun e w' =>
    e = .returned (.int .i64 0) ∧ ∃ L', L'.b = L.b ∧ Held B w0 w' L' (compF G n) c ∧ TStep w w' L L' :=
  (tcompact h.at_ h.ok n).mono fun e w' ⟨h1, L', h2, h3⟩ => ⟨h1, L', h3.b, h.step h2 (comp_ok h.ok _) h3, h3⟩
theorem held_read {B : Nat} {w0 w : World} {L : LOC} {G : TG} {c : Nat} (h : Held B w0 w L G c) (off most : Int) (h64 : most ≤ 9223372036854775807) : Calls Try.prog 14 #[.pointer (some ⟨L.b, 0, none⟩), .int .i64 off, .int .i64 most] w fun e w' =>
    ∃ ao cp, e = .returned (.slice ao (readF G.recs off most).length cp) ∧ w'.ownsRow w.heap.size 45 5 (.slice ao (readF G.recs off most).length cp) (readF G.recs off most).length (recCells (readF G.recs off most)) ∧ Held B w0 w' L G c ∧ Below w.heap.size w w' :=
  (tread h.at_ h.ok off most h64).mono fun e w' ⟨v', h1, h2, h3⟩ => by
    obtain ⟨ao, cp, rfl⟩ := row_slice h2
    exact ⟨ao, cp, h1, h2, h.to h3, h3⟩
theorem held_new (s : ByteArray) (hs : s.size ≤ 281474976710656) (hw : wordB s = true) {B : Nat} {w0 w : World} (hb : Below B w0 w) (hB : B ≤ w0.heap.size) : Calls Try.prog 8 #[.string s] w fun e w' =>
    ∃ L, e = .returned (.tuple #[.pointer (some ⟨LOC.b L, 0, none⟩), .int .i64 0]) ∧ Held B w0 w' L (TG.new s) 0 ∧ Below w.heap.size w w' ∧ ∀ j, L.own j → w.heap.size ≤ j :=
  (tnew s hs w).mono fun e w' ⟨h1, h2⟩ => by
    rcases h2 with ⟨h2, _⟩ | ⟨_, L, h3, h4, h5⟩
    · rw [hw] at h2; cases h2
    · have hB2 : B ≤ w.heap.size := Nat.le_trans hB hb.size
      exact ⟨L, h3, ⟨h4, ⟨hw, List.Pairwise.nil, (fun r hr => by cases hr), Nat.le_refl _, Nat.zero_le _, Nat.le_refl _, Nat.le_refl _, Nat.zero_le _⟩, hb.trans (h1.mono hB2), fun j hj => Nat.le_trans hB2 (h5 j hj), hB⟩, h1, h5⟩
/-- A number c, round about of n. -/
def pickF (c n : Int) : Int := (if c < 0 then -(c + 1) else c) % n
set_option maxHeartbeats 1000000 in
theorem pick_any (c n : Int) (h0 : -9223372036854775808 ≤ c) (h1 : c ≤ 9223372036854775807) (hn : 0 < n) (hn2 : n ≤ 9223372036854775807) (w : World) : Calls Try.prog 9 #[.int .i64 c, .int .i64 n] w fun e w' => e = .returned (.int .i64 (pickF c n)) ∧ w' = w := by
  have hz : (n == 0) = false := by simp; omega
  have hz2 : ¬ n = 0 := by omega
  unfold pickF
  by_cases h : c < 0
  · rw [if_pos h]
    have e1 : (-(c + 1)).tmod n = -(c + 1) % n := Int.tmod_eq_emod_of_nonneg (by omega)
    have q0 : 0 ≤ -(c + 1) % n := Int.emod_nonneg _ hz2
    have q1 : -(c + 1) % n < n := Int.emod_lt_of_pos _ hn
    go_enter Try.func9, Try.ntmps9
    go_wp2
    go_ret
    exact ⟨rfl, rfl⟩
  · rw [if_neg h]
    have e1 : c.tmod n = c % n := Int.tmod_eq_emod_of_nonneg (by omega)
    have q0 : 0 ≤ c % n := Int.emod_nonneg _ hz2
    have q1 : c % n < n := Int.emod_lt_of_pos _ hn
    go_enter Try.func9, Try.ntmps9
    go_wp2
    go_ret
    exact ⟨rfl, rfl⟩
theorem pickF_range (c n : Int) (hn : 0 < n) : 0 ≤ pickF c n ∧ pickF c n < n := ⟨Int.emod_nonneg _ (by omega), Int.emod_lt_of_pos _ hn⟩
end Go.Proofs.Ytoafjgioknkeiaa.Y
