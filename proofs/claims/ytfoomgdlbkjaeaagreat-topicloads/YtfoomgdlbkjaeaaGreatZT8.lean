/-
  The laws' examples: regions (mkt8.py).
-/
import Derived.Test.YtfoomgdlbkjaeaaGreatZT5
import Derived.Laws.StructEq
import Derived.Deep.QuietTactic
namespace Go.Proofs.YtfoomgdlbkjaeaaGreat.Y
open Go.RowKit Go.Maps
set_option maxHeartbeats 4000000
set_option maxRecDepth 100000
set_option linter.unusedVariables false
set_option linter.unusedSimpArgs false
def pubOk (p : ByteArray) (seq : Int) (k v : ByteArray) : Bool := wordB p && (greatB seq && (decide (k.size ≤ 100) && decide (v.size ≤ 1000)))
theorem right_pub {name p : ByteArray} {seq : Int} {k v : ByteArray} (h : wordB name = true) : CM.right ⟨2, name, p, seq, k, v, 0, 0, 0⟩ = pubOk p seq k v := by
  have h1 : manyB 2 0 = true := by decide
  have h2 : nodeB 0 = true := by decide
  have h3 : greatB 0 = true := by decide
  have h4 : kindOk 2 = true := by decide
  have h5 : hasTopic 2 = true := by decide
  have h6 : hasName 2 = true := by decide
  simp only [CM.right, fitsB, h1, h2, h3, h4, h5, h6, Bool.true_and, textB, if_true, h, seqB, keyB, valB, pubOk, Bool.and_true]
def pubF (G : TG) (p : ByteArray) (seq : Int) (k v : ByteArray) : Int × Int × TG :=
  if pubOk p seq k v = true then
    match pget G.D p.data.toList with
    | some (o, s) => if s = seq then (o, 0, G) else if seq < s then (0, 6, G) else (G.fin, 0, addF G ⟨0, p, seq, k, v⟩)
    | none => (G.fin, 0, addF G ⟨0, p, seq, k, v⟩)
  else (0, 7, G)
theorem pubOk_out {p : ByteArray} {seq : Int} {k v : ByteArray} (h : pubOk p seq k v = true) : p.size ≤ 20 ∧ 0 ≤ seq ∧ seq ≤ 9007199254740991 ∧ k.size ≤ 100 ∧ v.size ≤ 1000 := by
  simp only [pubOk, Bool.and_eq_true, decide_eq_true_eq] at h
  obtain ⟨h1, h2, h3, h4⟩ := h
  have := wordL_out h1
  have := greatB_out h2
  have e := size_listC p
  exact ⟨by omega, this.1, this.2, h3, h4⟩
theorem add_ok {c : Nat} {G : TG} (h : G.Ok c) (hc : c + 1 ≤ 100000) {p : ByteArray} {seq : Int} {k v : ByteArray} (hp : pubOk p seq k v = true) : (addF G ⟨0, p, seq, k, v⟩).Ok (c + 1) := by
  obtain ⟨h1, h2, h3, h4, h5⟩ := pubOk_out hp
  have hl := h.low
  have hf := h.fin
  have hn := h.len
  have hm := h.cnt
  refine ⟨h.word, ?_, ?_, ?_, ?_, ?_, ?_, hc⟩
  · show Rises (G.recs ++ [_])
    unfold Rises
    rw [List.pairwise_append]
    refine ⟨h.rises, List.pairwise_singleton _ _, fun a ha b hb => ?_⟩
    rw [List.mem_singleton] at hb
    subst hb
    exact (h.right a ha).hi
  · intro r hr
    rcases List.mem_append.1 hr with hr | hr
    · have q := h.right r hr
      exact ⟨q.lo, by have := q.hi; show r.off < ((G.fin + 1 : Nat) : Int); omega, q.s0, q.s1, q.p, q.k, q.v⟩
    · rw [List.mem_singleton] at hr
      subst hr
      exact ⟨by show (G.low : Int) ≤ (G.fin : Int); omega, by show (G.fin : Int) < ((G.fin + 1 : Nat) : Int); omega, h2, h3, h1, h4, h5⟩
  · show G.low ≤ G.fin + 1; omega
  · show G.fin + 1 ≤ _; omega
  · show (G.recs ++ [_]).length ≤ _; rw [List.length_append]; simp; omega
  · show G.n + 1 ≤ _; omega
theorem pub_ok {c : Nat} {G : TG} (h : G.Ok c) (hc : c + 1 ≤ 100000) (p : ByteArray) (seq : Int) (k v : ByteArray) : (pubF G p seq k v).2.2.Ok (c + 1) := by
  unfold pubF
  split
  · rename_i hp
    split
    · split
      · exact h.mono (by omega) hc
      · split
        · exact h.mono (by omega) hc
        · exact add_ok h hc hp
    · exact add_ok h hc hp
  · exact h.mono (by omega) hc
theorem tpub {w : World} {L : LOC} {G : TG} {c : Nat} (h : TAt w L G) (hk : G.Ok c) (hc : c + 1 ≤ 100000) (p : ByteArray) (seq : Int) (k v : ByteArray) (hp : p.size ≤ 281474976710656) (hy : k.size ≤ 281474976710656) (hv : v.size ≤ 281474976710656) :
    Calls Tryz.prog 10 #[.pointer (some ⟨L.b, 0, none⟩), .string p, .int .i64 seq, .string k, .string v] w fun e w' =>
    e = .returned (.tuple #[.int .i64 (pubF G p seq k v).1, .int .i64 (pubF G p seq k v).2.1]) ∧ ∃ L', TAt w' L' (pubF G p seq k v).2.2 ∧ TStep w w' L L' := by
  obtain ⟨c0, c1, c2, c3, c4⟩ := h.cells
  have hw := wordL_out hk.word
  have e20 := size_listC G.name
  have HR : Hid (∀ w, Calls Tryz.prog 29 #[.agg #[.int .i64 2, .string G.name, .string p, .int .i64 seq, .string k, .string v, .int .i64 0, .int .i64 0, .int .i64 0]] w fun e w' => e = .returned (.bool (pubOk p seq k v)) ∧ Below w.heap.size w w') := fun w => by
    have := pright ⟨2, G.name, p, seq, k, v, 0, 0, 0⟩ ⟨by simp only; omega, by simp only; omega, by simp only; omega, by simp only; omega⟩ w
    rw [right_pub hk.word] at this
    exact this
  have B1 := hide ((Below.refl w.heap.size w).alloc (Nat.le_refl _) (.cells #[.int .i64 2, .string G.name, .string p, .int .i64 seq, .string k, .string v, .int .i64 0, .int .i64 0, .int .i64 0] 54))
  have HK := hide hk
  have H0 := hide h
  clear h hk hw e20
  cases hb : pubOk p seq k v with
  | false =>
    have e : pubF G p seq k v = (0, 7, G) := by unfold pubF; rw [if_neg (by rw [hb]; decide)]
    rw [e]
    rw [hb] at HR
    clear e hb c1 c2 c3 c4
    go_enter Tryz.func10, Tryz.ntmps10
    go_wp2_with (go_at_call 29; refine (HR.out _).mono ?_; rintro e w2 ⟨rfl, b2⟩)
    go_ret2
    have b3 := B1.out.trans (b2.mono B1.out.size)
    exact ⟨rfl, L, H0.out.below b3, TStep.below b3⟩
  | true =>
    have HPB := hide hb
    rw [hb] at HR
    have hps := hide (pubOk_out hb).1
    have HX : Hid (∀ w, Calls Tryz.prog 31 #[.agg #[.int .i64 0, .string p, .int .i64 seq, .string k, .string v]] w fun e w' => e = .returned (.agg #[.int .i64 0, .string p, .int .i64 seq, .string k, .string v]) ∧ Below w.heap.size w w') := fun w => by
      obtain ⟨q1, q2, q3, q4, q5⟩ := pubOk_out hb
      exact town_any ⟨0, p, seq, k, v⟩ ⟨by simp only; omega, by simp only; omega, by simp only; omega, by simp only; omega, by simp only; omega, by simp only; omega, by simp only; omega⟩ w
    have HA : Hid (∀ w1, Below w.heap.size w w1 → Calls Tryz.prog 30 #[.pointer (some ⟨L.b, 0, none⟩), .agg #[.int .i64 0, .string p, .int .i64 seq, .string k, .string v]] w1 fun e w' => e = .returned (.int .i64 G.fin) ∧ ∃ L', TAt w' L' (addF G ⟨0, p, seq, k, v⟩) ∧ TStep w w' L L') := fun w1 b1 =>
      (tadd (H0.out.below b1) HK.out hc ⟨0, p, seq, k, v⟩ hps.out).mono fun e w' ⟨h1, L', h2, h3⟩ => ⟨h1, L', h2, (TStep.below b1).trans h3⟩
    have HLK : Hid (∀ w1, Below w.heap.size w w1 → (Instr.lookup 50 (.map (some L.mb)) (.string p) true).run Tryz.prog w1 = .ok (.tuple #[.agg #[.int .i64 (gotA (pget G.D p.data.toList)), .int .i64 (gotB (pget G.D p.data.toList))], .bool (pget G.D p.data.toList).isSome]) w1 ∧ w1.cell? ⟨L.b, 4, none⟩ = some (.map (some L.mb))) := fun w1 b1 =>
      ⟨plook (H0.out.below b1).map p (by unfold maxLen; omega), (H0.out.below b1).cells.2.2.2.2⟩
    have hpF : pubF G p seq k v = match pget G.D p.data.toList with
      | some (o, s) => if s = seq then (o, 0, G) else if seq < s then (0, 6, G) else (G.fin, 0, addF G ⟨0, p, seq, k, v⟩)
      | none => (G.fin, 0, addF G ⟨0, p, seq, k, v⟩) := by unfold pubF; rw [if_pos hb]
    rw [hpF]
    generalize pget G.D p.data.toList = g at *
    clear hb hpF c1 c2 c3 c4
    cases g with
    | none =>
      simp only [gotA, gotB, Option.getD_none, Option.isSome_none] at HLK
      go_enter Tryz.func10, Tryz.ntmps10
      go_wp2_with (first | (go_at_call 29; refine (HR.out _).mono ?_; rintro e w2 ⟨rfl, b2⟩; have B2 := hide (B1.out.trans (b2.mono B1.out.size)); obtain ⟨lk, l4⟩ := HLK.out _ B2.out; clear b2) | (go_at_call 31; refine (HX.out _).mono ?_; rintro e w3 ⟨rfl, b3⟩; have B3 := hide ((B2.out.alloc B2.out.size _).trans (b3.mono (B2.out.alloc B2.out.size _).size)); clear b3) | (go_at_call 30; refine (HA.out _ B3.out).mono ?_; rintro e w4 ⟨rfl, L', t4, s4⟩))
      go_ret2
      exact ⟨rfl, L', t4, s4⟩
    | some g =>
      obtain ⟨o, s⟩ := g
      simp only [gotA, gotB, Option.getD_some, Option.isSome_some] at HLK ⊢
      by_cases h1 : s = seq
      · rw [if_pos h1]
        have g1 : (s == seq) = true := by simpa using h1
        clear h1
        go_enter Tryz.func10, Tryz.ntmps10
        go_wp2_with (go_at_call 29; refine (HR.out _).mono ?_; rintro e w2 ⟨rfl, b2⟩; have B2 := hide (B1.out.trans (b2.mono B1.out.size)); obtain ⟨lk, l4⟩ := HLK.out _ B2.out; clear b2)
        go_ret2
        have b3 := B2.out.alloc B2.out.size (.cells #[.int .i64 o, .int .i64 s] 57)
        exact ⟨rfl, L, H0.out.below b3, TStep.below b3⟩
      · rw [if_neg h1]
        have g1 : (s == seq) = false := by simpa using h1
        clear h1
        by_cases h2 : seq < s
        · rw [if_pos h2]
          go_enter Tryz.func10, Tryz.ntmps10
          go_wp2_with (go_at_call 29; refine (HR.out _).mono ?_; rintro e w2 ⟨rfl, b2⟩; have B2 := hide (B1.out.trans (b2.mono B1.out.size)); obtain ⟨lk, l4⟩ := HLK.out _ B2.out; clear b2)
          go_ret2
          have b3 := B2.out.alloc B2.out.size (.cells #[.int .i64 o, .int .i64 s] 57)
          exact ⟨rfl, L, H0.out.below b3, TStep.below b3⟩
        · rw [if_neg h2]
          have g2 : decide (seq < s) = false := by simpa using h2
          go_enter Tryz.func10, Tryz.ntmps10
          go_wp2_with (first | (go_at_call 29; refine (HR.out _).mono ?_; rintro e w2 ⟨rfl, b2⟩; have B2 := hide (B1.out.trans (b2.mono B1.out.size)); obtain ⟨lk, l4⟩ := HLK.out _ B2.out; clear b2) | (go_at_call 31; refine (HX.out _).mono ?_; rintro e w3 ⟨rfl, b3⟩; have B3 := hide ((B2.out.alloc B2.out.size _).trans (b3.mono (B2.out.alloc B2.out.size _).size)); clear b3) | (go_at_call 30; refine (HA.out _ B3.out).mono ?_; rintro e w4 ⟨rfl, L', t4, s4⟩))
          go_ret2
          exact ⟨rfl, L', t4, s4⟩
end Go.Proofs.YtfoomgdlbkjaeaaGreat.Y
namespace Go.Proofs.YtfoomgdlbkjaeaaGreat.Y
open Go.RowKit Go.Maps
set_option maxHeartbeats 2000000
set_option maxRecDepth 100000
set_option linter.unusedVariables false
set_option linter.unusedSimpArgs false
structure Held (B : Nat) (w0 w : World) (L : LOC) (G : TG) (c : Nat) : Prop where
  at_ : TAt w L G
  ok : G.Ok c
  below : Below B w0 w
  new : ∀ j, L.own j → B ≤ j
  le : B ≤ w0.heap.size
theorem Held.to {B : Nat} {w0 w w' : World} {L : LOC} {G : TG} {c : Nat} (h : Held B w0 w L G c) (hb : Below w.heap.size w w') : Held B w0 w' L G c := ⟨h.at_.below hb, h.ok, h.below.trans (hb.mono (Nat.le_trans h.le h.below.size)), h.new, h.le⟩
theorem Held.step {B : Nat} {w0 w w' : World} {L L' : LOC} {G G' : TG} {c c' : Nat} (h : Held B w0 w L G c) (ha : TAt w' L' G') (hk : G'.Ok c') (s : TStep w w' L L') : Held B w0 w' L' G' c' := by
  have hB : B ≤ w.heap.size := Nat.le_trans h.le h.below.size
  refine ⟨ha, hk, h.below.trans (s.touch.toBelow hB fun k hk e => ?_), fun j hj => ?_, h.le⟩
  · have := h.new k e; omega
  · rcases s.own j hj with e | e
    · exact h.new j e
    · omega
theorem held_pub {B : Nat} {w0 w : World} {L : LOC} {G : TG} {c : Nat} (h : Held B w0 w L G c) (hc : c + 1 ≤ 100000) (p : ByteArray) (seq : Int) (k v : ByteArray) (hp : p.size ≤ 281474976710656) (hy : k.size ≤ 281474976710656) (hv : v.size ≤ 281474976710656) :
    Calls Tryz.prog 10 #[.pointer (some ⟨L.b, 0, none⟩), .string p, .int .i64 seq, .string k, .string v] w fun e w' =>
    e = .returned (.tuple #[.int .i64 (pubF G p seq k v).1, .int .i64 (pubF G p seq k v).2.1]) ∧ ∃ L', L'.b = L.b ∧ Held B w0 w' L' (pubF G p seq k v).2.2 (c + 1) ∧ TStep w w' L L' :=
  (tpub h.at_ h.ok hc p seq k v hp hy hv).mono fun e w' ⟨h1, L', h2, h3⟩ => ⟨h1, L', h3.b, h.step h2 (pub_ok h.ok hc _ _ _ _) h3, h3⟩
theorem held_trim {B : Nat} {w0 w : World} {L : LOC} {G : TG} {c : Nat} (h : Held B w0 w L G c) (n : Int) : Calls Tryz.prog 15 #[.pointer (some ⟨L.b, 0, none⟩), .int .i64 n] w fun e w' =>
    e = .returned (.int .i64 (trimF G n).1) ∧ ∃ L', L'.b = L.b ∧ Held B w0 w' L' (trimF G n).2 c ∧ TStep w w' L L' :=
  (ttrim h.at_ h.ok n).mono fun e w' ⟨h1, L', h2, h3⟩ => ⟨h1, L', h3.b, h.step h2 (trim_ok h.ok _) h3, h3⟩
theorem held_comp {B : Nat} {w0 w : World} {L : LOC} {G : TG} {c : Nat} (h : Held B w0 w L G c) (n : Int) : Calls Tryz.prog 17 #[.pointer (some ⟨L.b, 0, none⟩), .int .i64 n] w fun e w' =>
    e = .returned (.int .i64 0) ∧ ∃ L', L'.b = L.b ∧ Held B w0 w' L' (compF G n) c ∧ TStep w w' L L' :=
  (tcompact h.at_ h.ok n).mono fun e w' ⟨h1, L', h2, h3⟩ => ⟨h1, L', h3.b, h.step h2 (comp_ok h.ok _) h3, h3⟩
theorem held_read {B : Nat} {w0 w : World} {L : LOC} {G : TG} {c : Nat} (h : Held B w0 w L G c) (off most : Int) (h64 : most ≤ 9223372036854775807) : Calls Tryz.prog 12 #[.pointer (some ⟨L.b, 0, none⟩), .int .i64 off, .int .i64 most] w fun e w' =>
    ∃ ao cp, e = .returned (.slice ao (readF G.recs off most).length cp) ∧ w'.ownsRow w.heap.size 39 5 (.slice ao (readF G.recs off most).length cp) (readF G.recs off most).length (recCells (readF G.recs off most)) ∧ Held B w0 w' L G c ∧ Below w.heap.size w w' :=
  (tread h.at_ h.ok off most h64).mono fun e w' ⟨v', h1, h2, h3⟩ => by
    obtain ⟨ao, cp, rfl⟩ := row_slice h2
    exact ⟨ao, cp, h1, h2, h.to h3, h3⟩
theorem held_new (s : ByteArray) (hs : s.size ≤ 281474976710656) (hw : wordB s = true) {B : Nat} {w0 w : World} (hb : Below B w0 w) (hB : B ≤ w0.heap.size) : Calls Tryz.prog 7 #[.string s] w fun e w' =>
    ∃ L, e = .returned (.tuple #[.pointer (some ⟨LOC.b L, 0, none⟩), .int .i64 0]) ∧ Held B w0 w' L (TG.new s) 0 ∧ Below w.heap.size w w' ∧ ∀ j, L.own j → w.heap.size ≤ j :=
  (tnew s hs w).mono fun e w' ⟨h1, h2⟩ => by
    rcases h2 with ⟨h2, _⟩ | ⟨_, L, h3, h4, h5⟩
    · rw [hw] at h2; cases h2
    · have hB2 : B ≤ w.heap.size := Nat.le_trans hB hb.size
      exact ⟨L, h3, ⟨h4, ⟨hw, List.Pairwise.nil, (fun r hr => by cases hr), Nat.le_refl _, Nat.zero_le _, Nat.le_refl _, Nat.le_refl _, Nat.zero_le _⟩, hb.trans (h1.mono hB2), fun j hj => Nat.le_trans hB2 (h5 j hj), hB⟩, h1, h5⟩
theorem records_same (l : List Rec) (va vb : Value) (w : World) (hl : l.length ≤ 1099511627776) (ha : RecsAt w va l) (hb : RecsAt w vb l) :
    Calls Tryz.prog 13 #[va, vb] w fun e w' => e = .returned (.bool true) ∧ ∃ n, w' = w.drewN n := by
  obtain ⟨ao, ac, rfl, _, _⟩ := id ha
  obtain ⟨bo, bc, rfl, _, _⟩ := id hb
  have HA := hide ha
  have HB := hide hb
  clear ha hb
  go_enter Tryz.func13, Tryz.ntmps13
  go_wp2
  go_loopw [5] (fun iv wv => ∃ k n : Nat, k ≤ l.length ∧ iv = .int .i64 k ∧ wv = w.drewN n) (fun iv _ => l.length - (intOf iv).toNat)
  case atStart => exact ⟨0, 0, Nat.zero_le _, rfl, rfl⟩
  case round =>
    obtain ⟨k, n, hk, rfl, rfl⟩ := hrel
    by_cases hlt : k < l.length
    · obtain ⟨_, b, off, rfl, _, a0, a1, a2, a3, a4⟩ := HA.out.five k hlt
      obtain ⟨_, b2, off2, rfl, _, b0, b1, b2', b3, b4⟩ := HB.out.five k hlt
      have hi0 : (0 : Int) ≤ (k : Int) := by omega
      have hi1 : (k : Int) < (l.length : Int) := by omega
      generalize l[k] = x at *
      obtain ⟨xo, xp, xs, xk, xv⟩ := x
      simp only at a0 a1 a2 a3 a4 b0 b1 b2' b3 b4
      go_wp2
      go_quiet (fail)
      go_wp2
      exact ⟨⟨k + 1, n + nq, by omega, by go_num, rfl⟩, by simp [intOf]; omega⟩
    · have hi1 : ¬ (k : Int) < (l.length : Int) := by omega
      go_wp2
      go_ret
      exact ⟨rfl, n, rfl⟩
end Go.Proofs.YtfoomgdlbkjaeaaGreat.Y
namespace Go.Proofs.YtfoomgdlbkjaeaaGreat.Y
open Go.RowKit
set_option maxHeartbeats 8000000
set_option maxRecDepth 100000
attribute [local go_sem ↓] Go.wp_at_zero Go.wp_at_succ
set_option linter.unusedSimpArgs false
set_option linter.unusedVariables false
theorem frame_ex (t : Array Value) (h : t.size = 118) : ∃ u : Nat → Value, t = List.toArray (u 0 :: u 1 :: u 2 :: u 3 :: u 4 :: u 5 :: u 6 :: u 7 :: u 8 :: u 9 :: u 10 :: u 11 :: u 12 :: u 13 :: u 14 :: u 15 :: u 16 :: u 17 :: u 18 :: u 19 :: u 20 :: u 21 :: u 22 :: u 23 :: u 24 :: u 25 :: u 26 :: u 27 :: u 28 :: u 29 :: u 30 :: u 31 :: u 32 :: u 33 :: u 34 :: u 35 :: u 36 :: u 37 :: u 38 :: u 39 :: u 40 :: u 41 :: u 42 :: u 43 :: u 44 :: u 45 :: u 46 :: u 47 :: u 48 :: u 49 :: u 50 :: u 51 :: u 52 :: u 53 :: u 54 :: u 55 :: u 56 :: u 57 :: u 58 :: u 59 :: u 60 :: u 61 :: u 62 :: u 63 :: u 64 :: u 65 :: u 66 :: u 67 :: u 68 :: u 69 :: u 70 :: u 71 :: u 72 :: u 73 :: u 74 :: u 75 :: u 76 :: u 77 :: u 78 :: u 79 :: u 80 :: u 81 :: u 82 :: u 83 :: u 84 :: u 85 :: u 86 :: u 87 :: u 88 :: u 89 :: u 90 :: u 91 :: u 92 :: u 93 :: u 94 :: u 95 :: u 96 :: u 97 :: u 98 :: u 99 :: u 100 :: u 101 :: u 102 :: u 103 :: u 104 :: u 105 :: u 106 :: u 107 :: u 108 :: u 109 :: u 110 :: u 111 :: u 112 :: u 113 :: u 114 :: u 115 :: u 116 :: u 117 :: []) := by
  refine ⟨fun i => t.getD i undef, ?_⟩
  refine Eq.trans (b := ((List.range 118).map fun i => t.getD i undef).toArray) ?_ rfl
  apply Array.ext
  · simp [h]
  · intro k h1 h2
    simp [Array.getD, h1]
structure Vex where
  v0 : Value
  v1 : Value
  v2 : Value
  v4 : Value
  v5 : Value
  v6 : Value
  v7 : Value
  v8 : Value
  v10 : Value
  v11 : Value
  v12 : Value
  v13 : Value
  v14 : Value
  v15 : Value
structure Fex (a : Act) (v : Vex) : Prop where
  size : a.tmps.size = 118
  defers : a.defers = []
  s0 : a.tmps.getD 0 undef = v.v0
  s1 : a.tmps.getD 1 undef = v.v1
  s2 : a.tmps.getD 2 undef = v.v2
  s4 : a.tmps.getD 4 undef = v.v4
  s5 : a.tmps.getD 5 undef = v.v5
  s6 : a.tmps.getD 6 undef = v.v6
  s7 : a.tmps.getD 7 undef = v.v7
  s8 : a.tmps.getD 8 undef = v.v8
  s10 : a.tmps.getD 10 undef = v.v10
  s11 : a.tmps.getD 11 undef = v.v11
  s12 : a.tmps.getD 12 undef = v.v12
  s13 : a.tmps.getD 13 undef = v.v13
  s14 : a.tmps.getD 14 undef = v.v14
  s15 : a.tmps.getD 15 undef = v.v15
theorem frx_ex {a : Act} {v0 v1 v2 v4 v5 v6 v7 v8 v10 v11 v12 v13 v14 v15 : Value} (h : Fex a ⟨v0, v1, v2, v4, v5, v6, v7, v8, v10, v11, v12, v13, v14, v15⟩) : ∃ u : Nat → Value, a = ⟨List.toArray (v0 :: v1 :: v2 :: u 3 :: v4 :: v5 :: v6 :: v7 :: v8 :: u 9 :: v10 :: v11 :: v12 :: v13 :: v14 :: v15 :: u 16 :: u 17 :: u 18 :: u 19 :: u 20 :: u 21 :: u 22 :: u 23 :: u 24 :: u 25 :: u 26 :: u 27 :: u 28 :: u 29 :: u 30 :: u 31 :: u 32 :: u 33 :: u 34 :: u 35 :: u 36 :: u 37 :: u 38 :: u 39 :: u 40 :: u 41 :: u 42 :: u 43 :: u 44 :: u 45 :: u 46 :: u 47 :: u 48 :: u 49 :: u 50 :: u 51 :: u 52 :: u 53 :: u 54 :: u 55 :: u 56 :: u 57 :: u 58 :: u 59 :: u 60 :: u 61 :: u 62 :: u 63 :: u 64 :: u 65 :: u 66 :: u 67 :: u 68 :: u 69 :: u 70 :: u 71 :: u 72 :: u 73 :: u 74 :: u 75 :: u 76 :: u 77 :: u 78 :: u 79 :: u 80 :: u 81 :: u 82 :: u 83 :: u 84 :: u 85 :: u 86 :: u 87 :: u 88 :: u 89 :: u 90 :: u 91 :: u 92 :: u 93 :: u 94 :: u 95 :: u 96 :: u 97 :: u 98 :: u 99 :: u 100 :: u 101 :: u 102 :: u 103 :: u 104 :: u 105 :: u 106 :: u 107 :: u 108 :: u 109 :: u 110 :: u 111 :: u 112 :: u 113 :: u 114 :: u 115 :: u 116 :: u 117 :: []), []⟩ := by
  obtain ⟨t', d'⟩ := a
  obtain ⟨hs, hd, q0, q1, q2, q4, q5, q6, q7, q8, q10, q11, q12, q13, q14, q15⟩ := h
  obtain ⟨u, hu⟩ := frame_ex t' hs
  simp only at hd q0 q1 q2 q4 q5 q6 q7 q8 q10 q11 q12 q13 q14 q15
  subst hu hd
  have e0 : u 0 = v0 := q0
  have e1 : u 1 = v1 := q1
  have e2 : u 2 = v2 := q2
  have e4 : u 4 = v4 := q4
  have e5 : u 5 = v5 := q5
  have e6 : u 6 = v6 := q6
  have e7 : u 7 = v7 := q7
  have e8 : u 8 = v8 := q8
  have e10 : u 10 = v10 := q10
  have e11 : u 11 = v11 := q11
  have e12 : u 12 = v12 := q12
  have e13 : u 13 = v13 := q13
  have e14 : u 14 = v14 := q14
  have e15 : u 15 = v15 := q15
  refine ⟨u, ?_⟩
  rw [e0, e1, e2, e4, e5, e6, e7, e8, e10, e11, e12, e13, e14, e15]
theorem ex_r0 {K : Act → World → Prop} {c : Code} (hc : regOf (Tryz.f6.body.getD .skip) 0 = some c) (a : Act) {v : Vex} {wq : World}  (hF : Fex a v) (hQ : ∀ a', Fex a' { v with v0 := .bool false } → K a' wq) :
    Code.wp Tryz.prog c (Exit.then K fun _ _ _ => False) a wq := by
  have HQ := hide hQ
  clear hQ
  obtain ⟨v0, v1, v2, v4, v5, v6, v7, v8, v10, v11, v12, v13, v14, v15⟩ := v
  obtain ⟨u, rfl⟩ := frx_ex hF
  clear hF
  simp only [Tryz.f6, Option.getD_some, regOf] at hc
  injection hc with hc
  subst hc
  go_wp2
  exact HQ.out _ ⟨rfl, rfl, rfl, rfl, rfl, rfl, rfl, rfl, rfl, rfl, rfl, rfl, rfl, rfl, rfl, rfl⟩
theorem ex_r1 {K : Act → World → Prop} {c : Code} (hc : regOf (Tryz.f6.body.getD .skip) 1 = some c) (a : Act) {v : Vex} {wq : World} {R : LOC → World → Prop} (hF : Fex a v) (hE : Calls Tryz.prog 7 #[.string ⟨#[116]⟩] wq fun e w' => ∃ L : LOC, e = .returned (.tuple #[.pointer (some ⟨L.b, 0, none⟩), .int .i64 0]) ∧ R L w')
    (hQ : ∀ a' w' (L : LOC), Fex a' { v with v1 := .pointer (some ⟨L.b, 0, none⟩), v2 := .int .i64 0 } → R L w' → K a' w') :
    Code.wp Tryz.prog c (Exit.then K fun _ _ _ => False) a wq := by
  have HQ := hide hQ
  clear hQ
  obtain ⟨v0, v1, v2, v4, v5, v6, v7, v8, v10, v11, v12, v13, v14, v15⟩ := v
  obtain ⟨u, rfl⟩ := frx_ex hF
  clear hF
  simp only [Tryz.f6, Option.getD_some, regOf] at hc
  injection hc with hc
  subst hc
  have HE := hide hE
  clear hE
  go_wp2_with fail
  refine HE.out.mono ?_
  rintro e w1 ⟨L, rfl, r1⟩
  have R1 := hide r1
  clear r1 HE
  go_wp2
  exact HQ.out _ _ L ⟨rfl, rfl, rfl, rfl, rfl, rfl, rfl, rfl, rfl, rfl, rfl, rfl, rfl, rfl, rfl, rfl⟩ R1.out
theorem ex_r2 {K : Act → World → Prop} {c : Code} (hc : regOf (Tryz.f6.body.getD .skip) 2 = some c) (a : Act) {v : Vex} {wq : World} {R : World → Prop} (hF : Fex a v) (hE : Calls Tryz.prog 7 #[.string ⟨#[84]⟩] wq fun e w' => e = .returned (.tuple #[.pointer none, .int .i64 5]) ∧ R w')
    (hQ : ∀ a' w' , Fex a' { v with v4 := .int .i64 5 } → R w' → K a' w') :
    Code.wp Tryz.prog c (Exit.then K fun _ _ _ => False) a wq := by
  have HQ := hide hQ
  clear hQ
  obtain ⟨v0, v1, v2, v4, v5, v6, v7, v8, v10, v11, v12, v13, v14, v15⟩ := v
  obtain ⟨u, rfl⟩ := frx_ex hF
  clear hF
  simp only [Tryz.f6, Option.getD_some, regOf] at hc
  injection hc with hc
  subst hc
  have HE := hide hE
  clear hE
  go_wp2_with fail
  refine HE.out.mono ?_
  rintro e w1 ⟨rfl, r1⟩
  have R1 := hide r1
  clear r1 HE
  go_wp2
  exact HQ.out _ _ ⟨rfl, rfl, rfl, rfl, rfl, rfl, rfl, rfl, rfl, rfl, rfl, rfl, rfl, rfl, rfl, rfl⟩ R1.out
theorem ex_r3 {K : Act → World → Prop} {c : Code} (hc : regOf (Tryz.f6.body.getD .skip) 3 = some c) (a : Act) {v : Vex} {wq : World} {tb : Nat} (hF : Fex a v) (h1v : v.v1 = .pointer (some ⟨tb, 0, none⟩)) (h2v : v.v2 = .int .i64 0) (h4v : v.v4 = .int .i64 5) (hQ : ∀ a', Fex a' v → a'.tmps.getD 33 undef = .bool false → K a' wq) :
    Code.wp Tryz.prog c (Exit.then K fun _ _ _ => False) a wq := by
  have HQ := hide hQ
  clear hQ
  obtain ⟨v0, v1, v2, v4, v5, v6, v7, v8, v10, v11, v12, v13, v14, v15⟩ := v
  simp only at h1v h2v h4v HQ
  subst h1v h2v h4v
  obtain ⟨u, rfl⟩ := frx_ex hF
  clear hF
  simp only [Tryz.f6, Option.getD_some, regOf] at hc
  injection hc with hc
  subst hc
  go_wp2
  exact HQ.out _ ⟨rfl, rfl, rfl, rfl, rfl, rfl, rfl, rfl, rfl, rfl, rfl, rfl, rfl, rfl, rfl, rfl⟩ (by first | rfl | (simp; done))
theorem ex_r5 {K : Act → World → Prop} {c : Code} (hc : regOf (Tryz.f6.body.getD .skip) 5 = some c) (a : Act) {v : Vex} {wq : World} {tb : Nat} {x y : Int} {R : World → Prop} (hF : Fex a v) (h1v : v.v1 = .pointer (some ⟨tb, 0, none⟩)) (hE : Calls Tryz.prog 10 #[.pointer (some ⟨tb, 0, none⟩), .string ⟨#[112]⟩, .int .i64 1, .string ⟨#[107]⟩, .string ⟨#[118]⟩] wq fun e w' => e = .returned (.tuple #[.int .i64 x, .int .i64 y]) ∧ R w')
    (hQ : ∀ a' w' , Fex a' { v with v5 := .int .i64 x, v6 := .int .i64 y } → R w' → K a' w') :
    Code.wp Tryz.prog c (Exit.then K fun _ _ _ => False) a wq := by
  have HQ := hide hQ
  clear hQ
  obtain ⟨v0, v1, v2, v4, v5, v6, v7, v8, v10, v11, v12, v13, v14, v15⟩ := v
  simp only at h1v HQ
  subst h1v
  obtain ⟨u, rfl⟩ := frx_ex hF
  clear hF
  simp only [Tryz.f6, Option.getD_some, regOf] at hc
  injection hc with hc
  subst hc
  have HE := hide hE
  clear hE
  go_wp2_with fail
  refine HE.out.mono ?_
  rintro e w1 ⟨rfl, r1⟩
  have R1 := hide r1
  clear r1 HE
  go_wp2
  exact HQ.out _ _ ⟨rfl, rfl, rfl, rfl, rfl, rfl, rfl, rfl, rfl, rfl, rfl, rfl, rfl, rfl, rfl, rfl⟩ R1.out
theorem ex_r6 {K : Act → World → Prop} {c : Code} (hc : regOf (Tryz.f6.body.getD .skip) 6 = some c) (a : Act) {v : Vex} {wq : World} {tb : Nat} {x y : Int} {R : World → Prop} (hF : Fex a v) (h1v : v.v1 = .pointer (some ⟨tb, 0, none⟩)) (hE : Calls Tryz.prog 10 #[.pointer (some ⟨tb, 0, none⟩), .string ⟨#[112]⟩, .int .i64 1, .string ⟨#[107]⟩, .string ⟨#[119]⟩] wq fun e w' => e = .returned (.tuple #[.int .i64 x, .int .i64 y]) ∧ R w')
    (hQ : ∀ a' w' , Fex a' { v with v7 := .int .i64 x, v8 := .int .i64 y } → R w' → K a' w') :
    Code.wp Tryz.prog c (Exit.then K fun _ _ _ => False) a wq := by
  have HQ := hide hQ
  clear hQ
  obtain ⟨v0, v1, v2, v4, v5, v6, v7, v8, v10, v11, v12, v13, v14, v15⟩ := v
  simp only at h1v HQ
  subst h1v
  obtain ⟨u, rfl⟩ := frx_ex hF
  clear hF
  simp only [Tryz.f6, Option.getD_some, regOf] at hc
  injection hc with hc
  subst hc
  have HE := hide hE
  clear hE
  go_wp2_with fail
  refine HE.out.mono ?_
  rintro e w1 ⟨rfl, r1⟩
  have R1 := hide r1
  clear r1 HE
  go_wp2
  exact HQ.out _ _ ⟨rfl, rfl, rfl, rfl, rfl, rfl, rfl, rfl, rfl, rfl, rfl, rfl, rfl, rfl, rfl, rfl⟩ R1.out
theorem ex_r7 {K : Act → World → Prop} {c : Code} (hc : regOf (Tryz.f6.body.getD .skip) 7 = some c) (a : Act) {v : Vex} {wq : World} {tb : Nat} {x y : Int} {R : World → Prop} (hF : Fex a v) (h1v : v.v1 = .pointer (some ⟨tb, 0, none⟩)) (hE : Calls Tryz.prog 10 #[.pointer (some ⟨tb, 0, none⟩), .string ⟨#[112]⟩, .int .i64 0, .string ⟨#[107]⟩, .string ⟨#[119]⟩] wq fun e w' => e = .returned (.tuple #[.int .i64 x, .int .i64 y]) ∧ R w')
    (hQ : ∀ a' w' , Fex a' { v with v10 := .int .i64 y } → R w' → K a' w') :
    Code.wp Tryz.prog c (Exit.then K fun _ _ _ => False) a wq := by
  have HQ := hide hQ
  clear hQ
  obtain ⟨v0, v1, v2, v4, v5, v6, v7, v8, v10, v11, v12, v13, v14, v15⟩ := v
  simp only at h1v HQ
  subst h1v
  obtain ⟨u, rfl⟩ := frx_ex hF
  clear hF
  simp only [Tryz.f6, Option.getD_some, regOf] at hc
  injection hc with hc
  subst hc
  have HE := hide hE
  clear hE
  go_wp2_with fail
  refine HE.out.mono ?_
  rintro e w1 ⟨rfl, r1⟩
  have R1 := hide r1
  clear r1 HE
  go_wp2
  exact HQ.out _ _ ⟨rfl, rfl, rfl, rfl, rfl, rfl, rfl, rfl, rfl, rfl, rfl, rfl, rfl, rfl, rfl, rfl⟩ R1.out
theorem ex_r8 {K : Act → World → Prop} {c : Code} (hc : regOf (Tryz.f6.body.getD .skip) 8 = some c) (a : Act) {v : Vex} {wq : World} {tb : Nat} {x y : Int} {R : World → Prop} (hF : Fex a v) (h1v : v.v1 = .pointer (some ⟨tb, 0, none⟩)) (hE : Calls Tryz.prog 10 #[.pointer (some ⟨tb, 0, none⟩), .string ⟨#[112]⟩, .int .i64 5, .string ⟨#[107]⟩, .string ⟨#[120]⟩] wq fun e w' => e = .returned (.tuple #[.int .i64 x, .int .i64 y]) ∧ R w')
    (hQ : ∀ a' w' , Fex a' { v with v11 := .int .i64 x, v12 := .int .i64 y } → R w' → K a' w') :
    Code.wp Tryz.prog c (Exit.then K fun _ _ _ => False) a wq := by
  have HQ := hide hQ
  clear hQ
  obtain ⟨v0, v1, v2, v4, v5, v6, v7, v8, v10, v11, v12, v13, v14, v15⟩ := v
  simp only at h1v HQ
  subst h1v
  obtain ⟨u, rfl⟩ := frx_ex hF
  clear hF
  simp only [Tryz.f6, Option.getD_some, regOf] at hc
  injection hc with hc
  subst hc
  have HE := hide hE
  clear hE
  go_wp2_with fail
  refine HE.out.mono ?_
  rintro e w1 ⟨rfl, r1⟩
  have R1 := hide r1
  clear r1 HE
  go_wp2
  exact HQ.out _ _ ⟨rfl, rfl, rfl, rfl, rfl, rfl, rfl, rfl, rfl, rfl, rfl, rfl, rfl, rfl, rfl, rfl⟩ R1.out
theorem ex_r9 {K : Act → World → Prop} {c : Code} (hc : regOf (Tryz.f6.body.getD .skip) 9 = some c) (a : Act) {v : Vex} {wq : World} {tb : Nat} {R : World → Prop} (hF : Fex a v) (h1v : v.v1 = .pointer (some ⟨tb, 0, none⟩)) (hE : Calls Tryz.prog 17 #[.pointer (some ⟨tb, 0, none⟩), .int .i64 9] wq fun e w' => e = .returned (.int .i64 0) ∧ R w')
    (hQ : ∀ a' w' , Fex a' v → R w' → K a' w') :
    Code.wp Tryz.prog c (Exit.then K fun _ _ _ => False) a wq := by
  have HQ := hide hQ
  clear hQ
  obtain ⟨v0, v1, v2, v4, v5, v6, v7, v8, v10, v11, v12, v13, v14, v15⟩ := v
  simp only at h1v HQ
  subst h1v
  obtain ⟨u, rfl⟩ := frx_ex hF
  clear hF
  simp only [Tryz.f6, Option.getD_some, regOf] at hc
  injection hc with hc
  subst hc
  have HE := hide hE
  clear hE
  go_wp2_with fail
  refine HE.out.mono ?_
  rintro e w1 ⟨rfl, r1⟩
  have R1 := hide r1
  clear r1 HE
  go_wp2
  exact HQ.out _ _ ⟨rfl, rfl, rfl, rfl, rfl, rfl, rfl, rfl, rfl, rfl, rfl, rfl, rfl, rfl, rfl, rfl⟩ R1.out
theorem ex_r10 {K : Act → World → Prop} {c : Code} (hc : regOf (Tryz.f6.body.getD .skip) 10 = some c) (a : Act) {v : Vex} {wq : World} {tb n : Nat} {R : Option Addr → Nat → World → Prop} (hF : Fex a v) (h1v : v.v1 = .pointer (some ⟨tb, 0, none⟩)) (hE : Calls Tryz.prog 12 #[.pointer (some ⟨tb, 0, none⟩), .int .i64 0, .int .i64 9] wq fun e w' => ∃ ao cp, e = .returned (.slice ao n cp) ∧ R ao cp w')
    (hQ : ∀ a' w' ao cp, Fex a' { v with v13 := .slice ao n cp } → R ao cp w' → K a' w') :
    Code.wp Tryz.prog c (Exit.then K fun _ _ _ => False) a wq := by
  have HQ := hide hQ
  clear hQ
  obtain ⟨v0, v1, v2, v4, v5, v6, v7, v8, v10, v11, v12, v13, v14, v15⟩ := v
  simp only at h1v HQ
  subst h1v
  obtain ⟨u, rfl⟩ := frx_ex hF
  clear hF
  simp only [Tryz.f6, Option.getD_some, regOf] at hc
  injection hc with hc
  subst hc
  have HE := hide hE
  clear hE
  go_wp2_with fail
  refine HE.out.mono ?_
  rintro e w1 ⟨ao, cp, rfl, r1⟩
  have R1 := hide r1
  clear r1 HE
  go_wp2
  exact HQ.out _ _ ao cp ⟨rfl, rfl, rfl, rfl, rfl, rfl, rfl, rfl, rfl, rfl, rfl, rfl, rfl, rfl, rfl, rfl⟩ R1.out
theorem ex_r11 {K : Act → World → Prop} {c : Code} (hc : regOf (Tryz.f6.body.getD .skip) 11 = some c) (a : Act) {v : Vex} {wq : World} {tb : Nat} {x : Int} {R : World → Prop} (hF : Fex a v) (h1v : v.v1 = .pointer (some ⟨tb, 0, none⟩)) (hE : Calls Tryz.prog 15 #[.pointer (some ⟨tb, 0, none⟩), .int .i64 3] wq fun e w' => e = .returned (.int .i64 x) ∧ R w')
    (hQ : ∀ a' w' , Fex a' { v with v14 := .int .i64 x } → R w' → K a' w') :
    Code.wp Tryz.prog c (Exit.then K fun _ _ _ => False) a wq := by
  have HQ := hide hQ
  clear hQ
  obtain ⟨v0, v1, v2, v4, v5, v6, v7, v8, v10, v11, v12, v13, v14, v15⟩ := v
  simp only at h1v HQ
  subst h1v
  obtain ⟨u, rfl⟩ := frx_ex hF
  clear hF
  simp only [Tryz.f6, Option.getD_some, regOf] at hc
  injection hc with hc
  subst hc
  have HE := hide hE
  clear hE
  go_wp2_with fail
  refine HE.out.mono ?_
  rintro e w1 ⟨rfl, r1⟩
  have R1 := hide r1
  clear r1 HE
  go_wp2
  exact HQ.out _ _ ⟨rfl, rfl, rfl, rfl, rfl, rfl, rfl, rfl, rfl, rfl, rfl, rfl, rfl, rfl, rfl, rfl⟩ R1.out
theorem ex_r12 {K : Act → World → Prop} {c : Code} (hc : regOf (Tryz.f6.body.getD .skip) 12 = some c) (a : Act) {v : Vex} {wq : World} {tb : Nat} {x : Int} {R : World → Prop} (hF : Fex a v) (h1v : v.v1 = .pointer (some ⟨tb, 0, none⟩)) (hE : Calls Tryz.prog 15 #[.pointer (some ⟨tb, 0, none⟩), .int .i64 2] wq fun e w' => e = .returned (.int .i64 x) ∧ R w')
    (hQ : ∀ a' w' , Fex a' { v with v15 := .int .i64 x } → R w' → K a' w') :
    Code.wp Tryz.prog c (Exit.then K fun _ _ _ => False) a wq := by
  have HQ := hide hQ
  clear hQ
  obtain ⟨v0, v1, v2, v4, v5, v6, v7, v8, v10, v11, v12, v13, v14, v15⟩ := v
  simp only at h1v HQ
  subst h1v
  obtain ⟨u, rfl⟩ := frx_ex hF
  clear hF
  simp only [Tryz.f6, Option.getD_some, regOf] at hc
  injection hc with hc
  subst hc
  have HE := hide hE
  clear hE
  go_wp2_with fail
  refine HE.out.mono ?_
  rintro e w1 ⟨rfl, r1⟩
  have R1 := hide r1
  clear r1 HE
  go_wp2
  exact HQ.out _ _ ⟨rfl, rfl, rfl, rfl, rfl, rfl, rfl, rfl, rfl, rfl, rfl, rfl, rfl, rfl, rfl, rfl⟩ R1.out
theorem ex_r13 {K : Act → World → Prop} {c : Code} (hc : regOf (Tryz.f6.body.getD .skip) 13 = some c) (a : Act) {v : Vex} {wq : World} {tb cp : Nat} {ad : Addr} (hF : Fex a v) (h1v : v.v1 = .pointer (some ⟨tb, 0, none⟩)) (h5v : v.v5 = .int .i64 0) (h6v : v.v6 = .int .i64 0) (h7v : v.v7 = .int .i64 0) (h8v : v.v8 = .int .i64 0) (h10v : v.v10 = .int .i64 6) (h11v : v.v11 = .int .i64 1) (h12v : v.v12 = .int .i64 0) (h13v : v.v13 = .slice (some ad) 1 cp) (h14v : v.v14 = .int .i64 7) (h15v : v.v15 = .int .i64 0) (hc0 : wq.cell? ad = some (.int .i64 1)) (hL : Calls Tryz.prog 23 #[.pointer (some ⟨tb, 0, none⟩)] wq fun e w' => e = .returned (.int .i64 2) ∧ w' = wq) (hM : Calls Tryz.prog 24 #[.pointer (some ⟨tb, 0, none⟩)] wq fun e w' => e = .returned (.int .i64 2) ∧ w' = wq)
    (hQ : ∀ a', Fex a' { v with v0 := .bool true } → K a' wq) :
    Code.wp Tryz.prog c (Exit.then K fun _ _ _ => False) a wq := by
  have HQ := hide hQ
  clear hQ
  obtain ⟨v0, v1, v2, v4, v5, v6, v7, v8, v10, v11, v12, v13, v14, v15⟩ := v
  simp only at h1v h5v h6v h7v h8v h10v h11v h12v h13v h14v h15v HQ
  subst h1v h5v h6v h7v h8v h10v h11v h12v h13v h14v h15v
  obtain ⟨u, rfl⟩ := frx_ex hF
  clear hF
  simp only [Tryz.f6, Option.getD_some, regOf] at hc
  injection hc with hc
  subst hc
  have HL := hide hL
  have HM := hide hM
  clear hL hM
  go_wp2_with (first | (go_at_call 23; refine HL.out.mono ?_; rintro e w' ⟨rfl, rfl⟩) | (go_at_call 24; refine HM.out.mono ?_; rintro e w' ⟨rfl, rfl⟩))
  exact HQ.out _ ⟨rfl, rfl, rfl, rfl, rfl, rfl, rfl, rfl, rfl, rfl, rfl, rfl, rfl, rfl, rfl, rfl⟩
end Go.Proofs.YtfoomgdlbkjaeaaGreat.Y
