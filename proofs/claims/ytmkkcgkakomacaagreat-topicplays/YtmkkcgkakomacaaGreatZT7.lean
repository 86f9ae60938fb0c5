/-
  A topic that a call has made, held beside all that was there; pick, records.
-/
import Derived.Test.YtmkkcgkakomacaaGreatZT5
import Derived.Laws.StructEq
import Derived.Deep.QuietTactic
namespace Go.Proofs.YtmkkcgkakomacaaGreat.Y
open Go.RowKit Go.Maps
set_option maxHeartbeats 4000000
set_option maxRecDepth 100000
set_option linter.unusedVariables false
set_option linter.unusedSimpArgs false
def pubOk (p : ByteArray) (seq : Int) (k v : ByteArray) : Bool := wordB p && (greatB seq && (decide (k.size ≤ 100) && decide (v.size ≤ 1000)))
theorem right_pub {name p : ByteArray} {seq : Int} {k v : ByteArray} (h : wordB name = true) : CM.right ⟨2, name, p, seq, k, v, 0, 0, 0⟩ = pubOk p seq k v := by
  have h1 : manyB 2 0 = true := by decide
  have h2 : nodeB 0 = true := by decide
  have h3 : greatB 0 = true := by decide
  have h4 : kindOk 2 = true := by decide
  have h5 : hasTopic 2 = true := by decide
  have h6 : hasName 2 = true := by decide
  simp only [CM.right, fitsB, h1, h2, h3, h4, h5, h6, Bool.true_and, textB, if_true, h, seqB, keyB, valB, pubOk, Bool.and_true]
def pubF (G : TG) (p : ByteArray) (seq : Int) (k v : ByteArray) : Int × Int × TG :=
  if pubOk p seq k v = true then
    match pget G.D p.data.toList with
    | some (o, s) => if s = seq then (o, 0, G) else if seq < s then (0, 6, G) else (G.fin, 0, addF G ⟨0, p, seq, k, v⟩)
    | none => (G.fin, 0, addF G ⟨0, p, seq, k, v⟩)
  else (0, 7, G)
theorem pubOk_out {p : ByteArray} {seq : Int} {k v : ByteArray} (h : pubOk p seq k v = true) : p.size ≤ 20 ∧ 0 ≤ seq ∧ seq ≤ 9007199254740991 ∧ k.size ≤ 100 ∧ v.size ≤ 1000 := by
  simp only [pubOk, Bool.and_eq_true, decide_eq_true_eq] at h
  obtain ⟨h1, h2, h3, h4⟩ := h
  have := wordL_out h1
  have := greatB_out h2
  have e := size_listC p
  exact ⟨by omega, this.1, this.2, h3, h4⟩
theorem add_ok {c : Nat} {G : TG} (h : G.Ok c) (hc : c + 1 ≤ 100000) {p : ByteArray} {seq : Int} {k v : ByteArray} (hp : pubOk p seq k v = true) : (addF G ⟨0, p, seq, k, v⟩).Ok (c + 1) := by
  obtain ⟨h1, h2, h3, h4, h5⟩ := pubOk_out hp
  have hl := h.low
  have hf := h.fin
  have hn := h.len
  have hm := h.cnt
  refine ⟨h.word, ?_, ?_, ?_, ?_, ?_, ?_, hc⟩
  · show Rises (G.recs ++ [_])
    unfold Rises
    rw [List.pairwise_append]
    refine ⟨h.rises, List.pairwise_singleton _ _, fun a ha b hb => ?_⟩
    rw [List.mem_singleton] at hb
    subst hb
    exact (h.right a ha).hi
  · intro r hr
    rcases List.mem_append.1 hr with hr | hr
    · have q := h.right r hr
      exact ⟨q.lo, by have := q.hi; show r.off < ((G.fin + 1 : Nat) : Int); omega, q.s0, q.s1, q.p, q.k, q.v⟩
    · rw [List.mem_singleton] at hr
      subst hr
      exact ⟨by show (G.low : Int) ≤ (G.fin : Int); omega, by show (G.fin : Int) < ((G.fin + 1 : Nat) : Int); omega, h2, h3, h1, h4, h5⟩
  · show G.low ≤ G.fin + 1; omega
  · show G.fin + 1 ≤ _; omega
  · show (G.recs ++ [_]).length ≤ _; rw [List.length_append]; simp; omega
  · show G.n + 1 ≤ _; omega
theorem pub_ok {c : Nat} {G : TG} (h : G.Ok c) (hc : c + 1 ≤ 100000) (p : ByteArray) (seq : Int) (k v : ByteArray) : (pubF G p seq k v).2.2.Ok (c + 1) := by
  unfold pubF
  split
  · rename_i hp
    split
    · split
      · exact h.mono (by omega) hc
      · split
        · exact h.mono (by omega) hc
        · exact add_ok h hc hp
    · exact add_ok h hc hp
  · exact h.mono (by omega) hc
theorem tpub {w : World} {L : LOC} {G : TG} {c : Nat} (h : TAt w L G) (hk : G.Ok c) (hc : c + 1 ≤ 100000) (p : ByteArray) (seq : Int) (k v : ByteArray) (hp : p.size ≤ 281474976710656) (hy : k.size ≤ 281474976710656) (hv : v.size ≤ 281474976710656) :
    Calls Tryz.prog 10 #[.pointer (some ⟨L.b, 0, none⟩), .string p, .int .i64 seq, .string k, .string v] w fun e w' =>
    e = .returned (.tuple #[.int .i64 (pubF G p seq k v).1, .int .i64 (pubF G p seq k v).2.1]) ∧ ∃ L', TAt w' L' (pubF G p seq k v).2.2 ∧ TStep w w' L L' := by
  obtain ⟨c0, c1, c2, c3, c4⟩ := h.cells
  have hw := wordL_out hk.word
  have e20 := size_listC G.name
  have HR : Hid (∀ w, Calls Tryz.prog 29 #[.agg #[.int .i64 2, .string G.name, .string p, .int .i64 seq, .string k, .string v, .int .i64 0, .int .i64 0, .int .i64 0]] w fun e w' => e = .returned (.bool (pubOk p seq k v)) ∧ Below w.heap.size w w') := fun w => by
    have := pright ⟨2, G.name, p, seq, k, v, 0, 0, 0⟩ ⟨by simp only; omega, by simp only; omega, by simp only; omega, by simp only; omega⟩ w
    rw [right_pub hk.word] at this
    exact this
  have B1 := hide ((Below.refl w.heap.size w).alloc (Nat.le_refl _) (.cells #[.int .i64 2, .string G.name, .string p, .int .i64 seq, .string k, .string v, .int .i64 0, .int .i64 0, .int .i64 0] 54))
  have HK := hide hk
  have H0 := hide h
  clear h hk hw e20
  cases hb : pubOk p seq k v with
  | false =>
    have e : pubF G p seq k v = (0, 7, G) := by unfold pubF; rw [if_neg (by rw [hb]; decide)]
    rw [e]
    rw [hb] at HR
    clear e hb c1 c2 c3 c4
    go_enter Tryz.func10, Tryz.ntmps10
    go_wp2_with (go_at_call 29; refine (HR.out _).mono ?_; rintro e w2 ⟨rfl, b2⟩)
    go_ret2
    have b3 := B1.out.trans (b2.mono B1.out.size)
    exact ⟨rfl, L, H0.out.below b3, TStep.below b3⟩
  | true =>
    have HPB := hide hb
    rw [hb] at HR
    have hps := hide (pubOk_out hb).1
    have HX : Hid (∀ w, Calls Tryz.prog 31 #[.agg #[.int .i64 0, .string p, .int .i64 seq, .string k, .string v]] w fun e w' => e = .returned (.agg #[.int .i64 0, .string p, .int .i64 seq, .string k, .string v]) ∧ Below w.heap.size w w') := fun w => by
      obtain ⟨q1, q2, q3, q4, q5⟩ := pubOk_out hb
      exact town_any ⟨0, p, seq, k, v⟩ ⟨by simp only; omega, by simp only; omega, by simp only; omega, by simp only; omega, by simp only; omega, by simp only; omega, by simp only; omega⟩ w
    have HA : Hid (∀ w1, Below w.heap.size w w1 → Calls Tryz.prog 30 #[.pointer (some ⟨L.b, 0, none⟩), .agg #[.int .i64 0, .string p, .int .i64 seq, .string k, .string v]] w1 fun e w' => e = .returned (.int .i64 G.fin) ∧ ∃ L', TAt w' L' (addF G ⟨0, p, seq, k, v⟩) ∧ TStep w w' L L') := fun w1 b1 =>
      (tadd (H0.out.below b1) HK.out hc ⟨0, p, seq, k, v⟩ hps.out).mono fun e w' ⟨h1, L', h2, h3⟩ => ⟨h1, L', h2, (TStep.below b1).trans h3⟩
    have HLK : Hid (∀ w1, Below w.heap.size w w1 → (Instr.lookup 50 (.map (some L.mb)) (.string p) true).run Tryz.prog w1 = .ok (.tuple #[.agg #[.int .i64 (gotA (pget G.D p.data.toList)), .int .i64 (gotB (pget G.D p.data.toList))], .bool (pget G.D p.data.toList).isSome]) w1 ∧ w1.cell? ⟨L.b, 4, none⟩ = some (.map (some L.mb))) := fun w1 b1 =>
      ⟨plook (H0.out.below b1).map p (by unfold maxLen; omega), (H0.out.below b1).cells.2.2.2.2⟩
    have hpF : pubF G p seq k v = match pget G.D p.data.toList with
      | some (o, s) => if s = seq then (o, 0, G) else if seq < s then (0, 6, G) else (G.fin, 0, addF G ⟨0, p, seq, k, v⟩)
      | none => (G.fin, 0, addF G ⟨0, p, seq, k, v⟩) := by unfold pubF; rw [if_pos hb]
    rw [hpF]
    generalize pget G.D p.data.toList = g at *
    clear hb hpF c1 c2 c3 c4
    cases g with
    | none =>
      simp only [gotA, gotB, Option.getD_none, Option.isSome_none] at HLK
      go_enter Tryz.func10, Tryz.ntmps10
      go_wp2_with (first | (go_at_call 29; refine (HR.out _).mono ?_; rintro e w2 ⟨rfl, b2⟩; have B2 := hide (B1.out.trans (b2.mono B1.out.size)); obtain ⟨lk, l4⟩ := HLK.out _ B2.out; clear b2) | (go_at_call 31; refine (HX.out _).mono ?_; rintro e w3 ⟨rfl, b3⟩; have B3 := hide ((B2.out.alloc B2.out.size _).trans (b3.mono (B2.out.alloc B2.out.size _).size)); clear b3) | (go_at_call 30; refine (HA.out _ B3.out).mono ?_; rintro e w4 ⟨rfl, L', t4, s4⟩))
      go_ret2
      exact ⟨rfl, L', t4, s4⟩
    | some g =>
      obtain ⟨o, s⟩ := g
      simp only [gotA, gotB, Option.getD_some, Option.isSome_some] at HLK ⊢
      by_cases h1 : s = seq
      · rw [if_pos h1]
        have g1 : (s == seq) = true := by simpa using h1
        clear h1
        go_enter Tryz.func10, Tryz.ntmps10
        go_wp2_with (go_at_call 29; refine (HR.out _).mono ?_; rintro e w2 ⟨rfl, b2⟩; have B2 := hide (B1.out.trans (b2.mono B1.out.size)); obtain ⟨lk, l4⟩ := HLK.out _ B2.out; clear b2)
        go_ret2
        have b3 := B2.out.alloc B2.out.size (.cells #[.int .i64 o, .int .i64 s] 57)
        exact ⟨rfl, L, H0.out.below b3, TStep.below b3⟩
      · rw [if_neg h1]
        have g1 : (s == seq) = false := by simpa using h1
        clear h1
        by_cases h2 : seq < s
        · rw [if_pos h2]
          go_enter Tryz.func10, Tryz.ntmps10
          go_wp2_with (go_at_call 29; refine (HR.out _).mono ?_; rintro e w2 ⟨rfl, b2⟩; have B2 := hide (B1.out.trans (b2.mono B1.out.size)); obtain ⟨lk, l4⟩ := HLK.out _ B2.out; clear b2)
          go_ret2
          have b3 := B2.out.alloc B2.out.size (.cells #[.int .i64 o, .int .i64 s] 57)
          exact ⟨rfl, L, H0.out.below b3, TStep.below b3⟩
        · rw [if_neg h2]
          have g2 : decide (seq < s) = false := by simpa using h2
          go_enter Tryz.func10, Tryz.ntmps10
          go_wp2_with (first | (go_at_call 29; refine (HR.out _).mono ?_; rintro e w2 ⟨rfl, b2⟩; have B2 := hide (B1.out.trans (b2.mono B1.out.size)); obtain ⟨lk, l4⟩ := HLK.out _ B2.out; clear b2) | (go_at_call 31; refine (HX.out _).mono ?_; rintro e w3 ⟨rfl, b3⟩; have B3 := hide ((B2.out.alloc B2.out.size _).trans (b3.mono (B2.out.alloc B2.out.size _).size)); clear b3) | (go_at_call 30; refine (HA.out _ B3.out).mono ?_; rintro e w4 ⟨rfl, L', t4, s4⟩))
          go_ret2
          exact ⟨rfl, L', t4, s4⟩
end Go.Proofs.YtmkkcgkakomacaaGreat.Y
namespace Go.Proofs.YtmkkcgkakomacaaGreat.Y
open Go.RowKit Go.Maps
set_option maxHeartbeats 2000000
set_option maxRecDepth 100000
set_option linter.unusedVariables false
set_option linter.unusedSimpArgs false
structure Held (B : Nat) (w0 w : World) (L : LOC) (G : TG) (c : Nat) : Prop where
  at_ : TAt w L G
  ok : G.Ok c
  below : Below B w0 w
  new : ∀ j, L.own j → B ≤ j
  le : B ≤ w0.heap.size
theorem Held.to {B : Nat} {w0 w w' : World} {L : LOC} {G : TG} {c : Nat} (h : Held B w0 w L G c) (hb : Below w.heap.size w w') : Held B w0 w' L G c := ⟨h.at_.below hb, h.ok, h.below.trans (hb.mono (Nat.le_trans h.le h.below.size)), h.new, h.le⟩
theorem Held.step {B : Nat} {w0 w w' : World} {L L' : LOC} {G G' : TG} {c c' : Nat} (h : Held B w0 w L G c) (ha : TAt w' L' G') (hk : G'.Ok c') (s : TStep w w' L L') : Held B w0 w' L' G' c' := by
  have hB : B ≤ w.heap.size := Nat.le_trans h.le h.below.size
  refine ⟨ha, hk, h.below.trans (s.touch.toBelow hB fun k hk e => ?_), fun j hj => ?_, h.le⟩
  · have := h.new k e; omega
  · rcases s.own j hj with e | e
    · exact h.new j e
    · omega
theorem held_pub {B : Nat} {w0 w : World} {L : LOC} {G : TG} {c : Nat} (h : Held B w0 w L G c) (hc : c + 1 ≤ 100000) (p : ByteArray) (seq : Int) (k v : ByteArray) (hp : p.size ≤ 281474976710656) (hy : k.size ≤ 281474976710656) (hv : v.size ≤ 281474976710656) :
    Calls Tryz.prog 10 #[.pointer (some ⟨L.b, 0, none⟩), .string p, .int .i64 seq, .string k, .string v] w fun e w' =>
    e = .returned (.tuple #[.int .i64 (pubF G p seq k v).1, .int .i64 (pubF G p seq k v).2.1]) ∧ ∃ L', L'.b = L.b ∧ Held B w0 w' L' (pubF G p seq k v).2.2 (c + 1) ∧ TStep w w' L L' :=
  (tpub h.at_ h.ok hc p seq k v hp hy hv).mono fun e w' ⟨h1, L', h2, h3⟩ => ⟨h1, L', h3.b, h.step h2 (pub_ok h.ok hc _ _ _ _) h3, h3⟩
theorem held_trim {B : Nat} {w0 w : World} {L : LOC} {G : TG} {c : Nat} (h : Held B w0 w L G c) (n : Int) : Calls Tryz.prog 15 #[.pointer (some ⟨L.b, 0, none⟩), .int .i64 n] w fun e w' =>
    e = .returned (.int .i64 (trimF G n).1) ∧ ∃ L', L'.b = L.b ∧ Held B w0 w' L' (trimF G n).2 c ∧ TStep w w' L L' :=
  (ttrim h.at_ h.ok n).mono fun e w' ⟨h1, L', h2, h3⟩ => ⟨h1, L', h3.b, h.step h2 (trim_ok h.ok _) h3, h3⟩
theorem held_comp {B : Nat} {w0 w : World} {L : LOC} {G : TG} {c : Nat} (h : Held B w0 w L G c) (n : Int) : Calls Tryz.prog 17 #[.pointer (some ⟨L.b, 0, none⟩), .int .i64 n] w fun e w' =>
    e = .returned (.int .i64 0) ∧ ∃ L', L'.b = L.b ∧ Held B w0 w' L' (compF G n) c ∧ TStep w w' L L' :=
  (tcompact h.at_ h.ok n).mono fun e w' ⟨h1, L', h2, h3⟩ => ⟨h1, L', h3.b, h.step h2 (comp_ok h.ok _) h3, h3⟩
theorem held_read {B : Nat} {w0 w : World} {L : LOC} {G : TG} {c : Nat} (h : Held B w0 w L G c) (off most : Int) (h64 : most ≤ 9223372036854775807) : Calls Tryz.prog 12 #[.pointer (some ⟨L.b, 0, none⟩), .int .i64 off, .int .i64 most] w fun e w' =>
    ∃ ao cp, e = .returned (.slice ao (readF G.recs off most).length cp) ∧ w'.ownsRow w.heap.size 39 5 (.slice ao (readF G.recs off most).length cp) (readF G.recs off most).length (recCells (readF G.recs off most)) ∧ Held B w0 w' L G c ∧ Below w.heap.size w w' :=
  (tread h.at_ h.ok off most h64).mono fun e w' ⟨v', h1, h2, h3⟩ => by
    obtain ⟨ao, cp, rfl⟩ := row_slice h2
    exact ⟨ao, cp, h1, h2, h.to h3, h3⟩
theorem held_new (s : ByteArray) (hs : s.size ≤ 281474976710656) (hw : wordB s = true) {B : Nat} {w0 w : World} (hb : Below B w0 w) (hB : B ≤ w0.heap.size) : Calls Tryz.prog 7 #[.string s] w fun e w' =>
    ∃ L, e = .returned (.tuple #[.pointer (some ⟨LOC.b L, 0, none⟩), .int .i64 0]) ∧ Held B w0 w' L (TG.new s) 0 ∧ Below w.heap.size w w' ∧ ∀ j, L.own j → w.heap.size ≤ j :=
  (tnew s hs w).mono fun e w' ⟨h1, h2⟩ => by
    rcases h2 with ⟨h2, _⟩ | ⟨_, L, h3, h4, h5⟩
    · rw [hw] at h2; cases h2
    · have hB2 : B ≤ w.heap.size := Nat.le_trans hB hb.size
      exact ⟨L, h3, ⟨h4, ⟨hw, List.Pairwise.nil, (fun r hr => by cases hr), Nat.le_refl _, Nat.zero_le _, Nat.le_refl _, Nat.le_refl _, Nat.zero_le _⟩, hb.trans (h1.mono hB2), fun j hj => Nat.le_trans hB2 (h5 j hj), hB⟩, h1, h5⟩
def pickF (c n : Int) : Int := (if c < 0 then -(c + 1) else c) % n
theorem pick_any (c n : Int) (h0 : -9223372036854775808 ≤ c) (h1 : c ≤ 9223372036854775807) (hn : 0 < n) (hn2 : n ≤ 9223372036854775807) (w : World) : Calls Tryz.prog 9 #[.int .i64 c, .int .i64 n] w fun e w' => e = .returned (.int .i64 (pickF c n)) ∧ w' = w := by
  have hz : (n == 0) = false := by simp; omega
  have hz2 : ¬ n = 0 := by omega
  unfold pickF
  by_cases h : c < 0
  · rw [if_pos h]
    have e1 : (-(c + 1)).tmod n = -(c + 1) % n := Int.tmod_eq_emod_of_nonneg (by omega)
    have q0 : 0 ≤ -(c + 1) % n := Int.emod_nonneg _ hz2
    have q1 : -(c + 1) % n < n := Int.emod_lt_of_pos _ hn
    go_enter Tryz.func9, Tryz.ntmps9
    go_wp2
    go_ret
    exact ⟨rfl, rfl⟩
  · rw [if_neg h]
    have e1 : c.tmod n = c % n := Int.tmod_eq_emod_of_nonneg (by omega)
    have q0 : 0 ≤ c % n := Int.emod_nonneg _ hz2
    have q1 : c % n < n := Int.emod_lt_of_pos _ hn
    go_enter Tryz.func9, Tryz.ntmps9
    go_wp2
    go_ret
    exact ⟨rfl, rfl⟩
theorem pickF_range (c n : Int) (hn : 0 < n) : 0 ≤ pickF c n ∧ pickF c n < n := ⟨Int.emod_nonneg _ (by omega), Int.emod_lt_of_pos _ hn⟩
theorem records_same (l : List Rec) (va vb : Value) (w : World) (hl : l.length ≤ 1099511627776) (ha : RecsAt w va l) (hb : RecsAt w vb l) :
    Calls Tryz.prog 13 #[va, vb] w fun e w' => e = .returned (.bool true) ∧ ∃ n, w' = w.drewN n := by
  obtain ⟨ao, ac, rfl, _, _⟩ := id ha
  obtain ⟨bo, bc, rfl, _, _⟩ := id hb
  have HA := hide ha
  have HB := hide hb
  clear ha hb
  go_enter Tryz.func13, Tryz.ntmps13
  go_wp2
  go_loopw [5] (fun iv wv => ∃ k n : Nat, k ≤ l.length ∧ iv = .int .i64 k ∧ wv = w.drewN n) (fun iv _ => l.length - (intOf iv).toNat)
  case atStart => exact ⟨0, 0, Nat.zero_le _, rfl, rfl⟩
  case round =>
    obtain ⟨k, n, hk, rfl, rfl⟩ := hrel
    by_cases hlt : k < l.length
    · obtain ⟨_, b, off, rfl, _, a0, a1, a2, a3, a4⟩ := HA.out.five k hlt
      obtain ⟨_, b2, off2, rfl, _, b0, b1, b2', b3, b4⟩ := HB.out.five k hlt
      have hi0 : (0 : Int) ≤ (k : Int) := by omega
      have hi1 : (k : Int) < (l.length : Int) := by omega
      generalize l[k] = x at *
      obtain ⟨xo, xp, xs, xk, xv⟩ := x
      simp only at a0 a1 a2 a3 a4 b0 b1 b2' b3 b4
      go_wp2
      go_quiet (fail)
      go_wp2
      exact ⟨⟨k + 1, n + nq, by omega, by go_num, rfl⟩, by simp [intOf]; omega⟩
    · have hi1 : ¬ (k : Int) < (l.length : Int) := by omega
      go_wp2
      go_ret
      exact ⟨rfl, n, rfl⟩
end Go.Proofs.YtmkkcgkakomacaaGreat.Y
