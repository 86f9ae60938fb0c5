/-
  slices.DeleteFunc at records that rise and the closure of granted; granted, as they run.
-/
import Derived.Test.YtlfodldlkchmoaaGreatZT5
import Derived.Laws.StructEq
import Derived.Deep.QuietTactic
namespace Go.Proofs.YtlfodldlkchmoaaGreat.Y
open Go.RowKit Go.Maps
set_option maxHeartbeats 4000000
set_option maxRecDepth 100000
set_option linter.unusedVariables false
set_option linter.unusedSimpArgs false
def pubOk (p : ByteArray) (seq : Int) (k v : ByteArray) : Bool := wordB p && (greatB seq && (decide (k.size ≤ 100) && decide (v.size ≤ 1000)))
theorem right_pub {name p : ByteArray} {seq : Int} {k v : ByteArray} (h : wordB name = true) : CM.right ⟨2, name, p, seq, k, v, 0, 0, 0⟩ = pubOk p seq k v := by
  have h1 : manyB 2 0 = true := by decide
  have h2 : nodeB 0 = true := by decide
  have h3 : greatB 0 = true := by decide
  have h4 : kindOk 2 = true := by decide
  have h5 : hasTopic 2 = true := by decide
  have h6 : hasName 2 = true := by decide
  simp only [CM.right, fitsB, h1, h2, h3, h4, h5, h6, Bool.true_and, textB, if_true, h, seqB, keyB, valB, pubOk, Bool.and_true]
def pubF (G : TG) (p : ByteArray) (seq : Int) (k v : ByteArray) : Int × Int × TG :=
  if pubOk p seq k v = true then
    match pget G.D p.data.toList with
    | some (o, s) => if s = seq then (o, 0, G) else if seq < s then (0, 6, G) else (G.fin, 0, addF G ⟨0, p, seq, k, v⟩)
    | none => (G.fin, 0, addF G ⟨0, p, seq, k, v⟩)
  else (0, 7, G)
theorem pubOk_out {p : ByteArray} {seq : Int} {k v : ByteArray} (h : pubOk p seq k v = true) : p.size ≤ 20 ∧ 0 ≤ seq ∧ seq ≤ 9007199254740991 ∧ k.size ≤ 100 ∧ v.size ≤ 1000 := by
  simp only [pubOk, Bool.and_eq_true, decide_eq_true_eq] at h
  obtain ⟨h1, h2, h3, h4⟩ := h
  have := wordL_out h1
  have := greatB_out h2
  have e := size_listC p
  exact ⟨by omega, this.1, this.2, h3, h4⟩
theorem add_ok {c : Nat} {G : TG} (h : G.Ok c) (hc : c + 1 ≤ 100000) {p : ByteArray} {seq : Int} {k v : ByteArray} (hp : pubOk p seq k v = true) : (addF G ⟨0, p, seq, k, v⟩).Ok (c + 1) := by
  obtain ⟨h1, h2, h3, h4, h5⟩ := pubOk_out hp
  have hl := h.low
  have hf := h.fin
  have hn := h.len
  have hm := h.cnt
  refine ⟨h.word, ?_, ?_, ?_, ?_, ?_, ?_, hc⟩
  · show Rises (G.recs ++ [_])
    unfold Rises
    rw [List.pairwise_append]
    refine ⟨h.rises, List.pairwise_singleton _ _, fun a ha b hb => ?_⟩
    rw [List.mem_singleton] at hb
    subst hb
    exact (h.right a ha).hi
  · intro r hr
    rcases List.mem_append.1 hr with hr | hr
    · have q := h.right r hr
      exact ⟨q.lo, by have := q.hi; show r.off < ((G.fin + 1 : Nat) : Int); omega, q.s0, q.s1, q.p, q.k, q.v⟩
    · rw [List.mem_singleton] at hr
      subst hr
      exact ⟨by show (G.low : Int) ≤ (G.fin : Int); omega, by show (G.fin : Int) < ((G.fin + 1 : Nat) : Int); omega, h2, h3, h1, h4, h5⟩
  · show G.low ≤ G.fin + 1; omega
  · show G.fin + 1 ≤ _; omega
  · show (G.recs ++ [_]).length ≤ _; rw [List.length_append]; simp; omega
  · show G.n + 1 ≤ _; omega
theorem pub_ok {c : Nat} {G : TG} (h : G.Ok c) (hc : c + 1 ≤ 100000) (p : ByteArray) (seq : Int) (k v : ByteArray) : (pubF G p seq k v).2.2.Ok (c + 1) := by
  unfold pubF
  split
  · rename_i hp
    split
    · split
      · exact h.mono (by omega) hc
      · split
        · exact h.mono (by omega) hc
        · exact add_ok h hc hp
    · exact add_ok h hc hp
  · exact h.mono (by omega) hc
theorem tpub {w : World} {L : LOC} {G : TG} {c : Nat} (h : TAt w L G) (hk : G.Ok c) (hc : c + 1 ≤ 100000) (p : ByteArray) (seq : Int) (k v : ByteArray) (hp : p.size ≤ 281474976710656) (hy : k.size ≤ 281474976710656) (hv : v.size ≤ 281474976710656) :
    Calls Tryz.prog 103 #[.pointer (some ⟨L.b, 0, none⟩), .string p, .int .i64 seq, .string k, .string v] w fun e w' =>
    e = .returned (.tuple #[.int .i64 (pubF G p seq k v).1, .int .i64 (pubF G p seq k v).2.1]) ∧ ∃ L', TAt w' L' (pubF G p seq k v).2.2 ∧ TStep w w' L L' := by
  obtain ⟨c0, c1, c2, c3, c4⟩ := h.cells
  have hw := wordL_out hk.word
  have e20 := size_listC G.name
  have HR : Hid (∀ w, Calls Tryz.prog 56 #[.agg #[.int .i64 2, .string G.name, .string p, .int .i64 seq, .string k, .string v, .int .i64 0, .int .i64 0, .int .i64 0]] w fun e w' => e = .returned (.bool (pubOk p seq k v)) ∧ Below w.heap.size w w') := fun w => by
    have := pright ⟨2, G.name, p, seq, k, v, 0, 0, 0⟩ ⟨by simp only; omega, by simp only; omega, by simp only; omega, by simp only; omega⟩ w
    rw [right_pub hk.word] at this
    exact this
  have B1 := hide ((Below.refl w.heap.size w).alloc (Nat.le_refl _) (.cells #[.int .i64 2, .string G.name, .string p, .int .i64 seq, .string k, .string v, .int .i64 0, .int .i64 0, .int .i64 0] 31))
  have HK := hide hk
  have H0 := hide h
  clear h hk hw e20
  cases hb : pubOk p seq k v with
  | false =>
    have e : pubF G p seq k v = (0, 7, G) := by unfold pubF; rw [if_neg (by rw [hb]; decide)]
    rw [e]
    rw [hb] at HR
    clear e hb c1 c2 c3 c4
    go_enter Tryz.func103, Tryz.ntmps103
    go_wp2_with (go_at_call 56; refine (HR.out _).mono ?_; rintro e w2 ⟨rfl, b2⟩)
    go_ret2
    have b3 := B1.out.trans (b2.mono B1.out.size)
    exact ⟨rfl, L, H0.out.below b3, TStep.below b3⟩
  | true =>
    have HPB := hide hb
    rw [hb] at HR
    have hps := hide (pubOk_out hb).1
    have HX : Hid (∀ w, Calls Tryz.prog 44 #[.agg #[.int .i64 0, .string p, .int .i64 seq, .string k, .string v]] w fun e w' => e = .returned (.agg #[.int .i64 0, .string p, .int .i64 seq, .string k, .string v]) ∧ Below w.heap.size w w') := fun w => by
      obtain ⟨q1, q2, q3, q4, q5⟩ := pubOk_out hb
      exact town_any ⟨0, p, seq, k, v⟩ ⟨by simp only; omega, by simp only; omega, by simp only; omega, by simp only; omega, by simp only; omega, by simp only; omega, by simp only; omega⟩ w
    have HA : Hid (∀ w1, Below w.heap.size w w1 → Calls Tryz.prog 130 #[.pointer (some ⟨L.b, 0, none⟩), .agg #[.int .i64 0, .string p, .int .i64 seq, .string k, .string v]] w1 fun e w' => e = .returned (.int .i64 G.fin) ∧ ∃ L', TAt w' L' (addF G ⟨0, p, seq, k, v⟩) ∧ TStep w w' L L') := fun w1 b1 =>
      (tadd (H0.out.below b1) HK.out hc ⟨0, p, seq, k, v⟩ hps.out).mono fun e w' ⟨h1, L', h2, h3⟩ => ⟨h1, L', h2, (TStep.below b1).trans h3⟩
    have HLK : Hid (∀ w1, Below w.heap.size w w1 → (Instr.lookup 100 (.map (some L.mb)) (.string p) true).run Tryz.prog w1 = .ok (.tuple #[.agg #[.int .i64 (gotA (pget G.D p.data.toList)), .int .i64 (gotB (pget G.D p.data.toList))], .bool (pget G.D p.data.toList).isSome]) w1 ∧ w1.cell? ⟨L.b, 4, none⟩ = some (.map (some L.mb))) := fun w1 b1 =>
      ⟨plook (H0.out.below b1).map p (by unfold maxLen; omega), (H0.out.below b1).cells.2.2.2.2⟩
    have hpF : pubF G p seq k v = match pget G.D p.data.toList with
      | some (o, s) => if s = seq then (o, 0, G) else if seq < s then (0, 6, G) else (G.fin, 0, addF G ⟨0, p, seq, k, v⟩)
      | none => (G.fin, 0, addF G ⟨0, p, seq, k, v⟩) := by unfold pubF; rw [if_pos hb]
    rw [hpF]
    generalize pget G.D p.data.toList = g at *
    clear hb hpF c1 c2 c3 c4
    cases g with
    | none =>
      simp only [gotA, gotB, Option.getD_none, Option.isSome_none] at HLK
      go_enter Tryz.func103, Tryz.ntmps103
      go_wp2_with (first | (go_at_call 56; refine (HR.out _).mono ?_; rintro e w2 ⟨rfl, b2⟩; have B2 := hide (B1.out.trans (b2.mono B1.out.size)); obtain ⟨lk, l4⟩ := HLK.out _ B2.out; clear b2) | (go_at_call 44; refine (HX.out _).mono ?_; rintro e w3 ⟨rfl, b3⟩; have B3 := hide ((B2.out.alloc B2.out.size _).trans (b3.mono (B2.out.alloc B2.out.size _).size)); clear b3) | (go_at_call 130; refine (HA.out _ B3.out).mono ?_; rintro e w4 ⟨rfl, L', t4, s4⟩))
      go_ret2
      exact ⟨rfl, L', t4, s4⟩
    | some g =>
      obtain ⟨o, s⟩ := g
      simp only [gotA, gotB, Option.getD_some, Option.isSome_some] at HLK ⊢
      by_cases h1 : s = seq
      · rw [if_pos h1]
        have g1 : (s == seq) = true := by simpa using h1
        clear h1
        go_enter Tryz.func103, Tryz.ntmps103
        go_wp2_with (go_at_call 56; refine (HR.out _).mono ?_; rintro e w2 ⟨rfl, b2⟩; have B2 := hide (B1.out.trans (b2.mono B1.out.size)); obtain ⟨lk, l4⟩ := HLK.out _ B2.out; clear b2)
        go_ret2
        have b3 := B2.out.alloc B2.out.size (.cells #[.int .i64 o, .int .i64 s] 187)
        exact ⟨rfl, L, H0.out.below b3, TStep.below b3⟩
      · rw [if_neg h1]
        have g1 : (s == seq) = false := by simpa using h1
        clear h1
        by_cases h2 : seq < s
        · rw [if_pos h2]
          go_enter Tryz.func103, Tryz.ntmps103
          go_wp2_with (go_at_call 56; refine (HR.out _).mono ?_; rintro e w2 ⟨rfl, b2⟩; have B2 := hide (B1.out.trans (b2.mono B1.out.size)); obtain ⟨lk, l4⟩ := HLK.out _ B2.out; clear b2)
          go_ret2
          have b3 := B2.out.alloc B2.out.size (.cells #[.int .i64 o, .int .i64 s] 187)
          exact ⟨rfl, L, H0.out.below b3, TStep.below b3⟩
        · rw [if_neg h2]
          have g2 : decide (seq < s) = false := by simpa using h2
          go_enter Tryz.func103, Tryz.ntmps103
          go_wp2_with (first | (go_at_call 56; refine (HR.out _).mono ?_; rintro e w2 ⟨rfl, b2⟩; have B2 := hide (B1.out.trans (b2.mono B1.out.size)); obtain ⟨lk, l4⟩ := HLK.out _ B2.out; clear b2) | (go_at_call 44; refine (HX.out _).mono ?_; rintro e w3 ⟨rfl, b3⟩; have B3 := hide ((B2.out.alloc B2.out.size _).trans (b3.mono (B2.out.alloc B2.out.size _).size)); clear b3) | (go_at_call 130; refine (HA.out _ B3.out).mono ?_; rintro e w4 ⟨rfl, L', t4, s4⟩))
          go_ret2
          exact ⟨rfl, L', t4, s4⟩
end Go.Proofs.YtlfodldlkchmoaaGreat.Y
namespace Go.Proofs.YtlfodldlkchmoaaGreat.Y
open Go.RowKit Go.Maps
set_option maxRecDepth 100000
set_option linter.unusedVariables false
set_option linter.unusedSimpArgs false
structure Held (B : Nat) (w0 w : World) (L : LOC) (G : TG) (c : Nat) : Prop where
  at_ : TAt w L G
  ok : G.Ok c
  below : Below B w0 w
  new : ∀ j, L.own j → B ≤ j
  le : B ≤ w0.heap.size
theorem Held.to {B : Nat} {w0 w w' : World} {L : LOC} {G : TG} {c : Nat} (h : Held B w0 w L G c) (hb : Below w.heap.size w w') : Held B w0 w' L G c := ⟨h.at_.below hb, h.ok, h.below.trans (hb.mono (Nat.le_trans h.le h.below.size)), h.new, h.le⟩
theorem Held.step {B : Nat} {w0 w w' : World} {L L' : LOC} {G G' : TG} {c c' : Nat} (h : Held B w0 w L G c) (ha : TAt w' L' G') (hk : G'.Ok c') (s : TStep w w' L L') : Held B w0 w' L' G' c' := by
  have hB : B ≤ w.heap.size := Nat.le_trans h.le h.below.size
  refine ⟨ha, hk, h.below.trans (s.touch.toBelow hB fun k hk e => ?_), fun j hj => ?_, h.le⟩
  · have := h.new k e; omega
  · rcases s.own j hj with e | e
    · exact h.new j e
    · omega
end Go.Proofs.YtlfodldlkchmoaaGreat.Y
namespace Go.Proofs.YtlfodldlkchmoaaGreat.Y
open Go.RowKit Go.Maps
set_option maxHeartbeats 4000000
set_option maxRecDepth 100000
set_option linter.unusedVariables false
set_option linter.unusedSimpArgs false
structure SB where
  name : ByteArray
  top : ByteArray
  cur : Int
  next : Int
def SB.v (S : SB) : Value := .agg #[.string S.name, .string S.top, .int .i64 S.cur, .int .i64 S.next]
structure SB.ok (S : SB) : Prop where
  nm : S.name.size ≤ 281474976710656
  tp : S.top.size ≤ 281474976710656
def SB.right (S : SB) : Bool := wordB S.name && wordB S.top && decide (0 ≤ S.cur) && decide (S.cur ≤ S.next) && decide (S.next ≤ 9007199254740991)
theorem box4 {W : World} {b : Nat} {t : TypeId} {v0 v1 v2 v3 : Value} (h : W.heap[b]? = some (.cells #[v0, v1, v2, v3] t (0, 0))) :
    (W.cell? ⟨b, 0, none⟩ = some v0 ∧ W.cell? ⟨b, 1, none⟩ = some v1 ∧ W.cell? ⟨b, 2, none⟩ = some v2 ∧ W.cell? ⟨b, 3, none⟩ = some v3) ∧
    (W.frozen? ⟨b, 0, none⟩ = false ∧ W.frozen? ⟨b, 1, none⟩ = false ∧ W.frozen? ⟨b, 2, none⟩ = false ∧ W.frozen? ⟨b, 3, none⟩ = false) :=
  ⟨⟨box_cell h 0 rfl, box_cell h 1 rfl, box_cell h 2 rfl, box_cell h 3 rfl⟩, box_free h 0, box_free h 1, box_free h 2, box_free h 3⟩
def set4 (W : World) (b : Nat) (x0 x1 x2 x3 : Value) : World := (((W.setCell ⟨b, 0, none⟩ x0).setCell ⟨b, 1, none⟩ x1).setCell ⟨b, 2, none⟩ x2).setCell ⟨b, 3, none⟩ x3
theorem set4_box {W : World} {b : Nat} {t : TypeId} {v0 v1 v2 v3 x0 x1 x2 x3 : Value} (h : W.heap[b]? = some (.cells #[v0, v1, v2, v3] t (0, 0))) : (set4 W b x0 x1 x2 x3).heap[b]? = some (.cells #[x0, x1, x2, x3] t (0, 0)) := by
  simp [set4, World.setCell, Array.getElem?_modify, h]
theorem set4_below {B : Nat} {w W : World} {b : Nat} {x0 x1 x2 x3 : Value} (h : Below B w W) (hb : B ≤ b) : Below B w (set4 W b x0 x1 x2 x3) :=
  (((h.setCell hb _).setCell hb _).setCell hb _).setCell hb _
theorem sfrom (S : SB) (n : Int) (w : World) : Calls Tryz.prog 132 #[S.v, .int .i64 n] w fun e w' => e = .returned (SB.v { S with next := n }) ∧ Below w.heap.size w w' := by
  obtain ⟨xn, xt, xc, xx⟩ := S
  simp only [SB.v]
  go_enter Tryz.func132, Tryz.ntmps132
  go_wp2
  have X : ((w.alloc (.cells #[.string xn, .string xt, .int .i64 xc, .int .i64 n] 190)).alloc (.cells #[.string xn, .string xt, .int .i64 xc, .int .i64 n] 190)).heap[w.heap.size + 1]? = some (.cells #[.string xn, .string xt, .int .i64 xc, .int .i64 n] 190 (0, 0)) := by
    have := heap_alloc_new (w.alloc (.cells #[.string xn, .string xt, .int .i64 xc, .int .i64 n] 190)) (.cells #[.string xn, .string xt, .int .i64 xc, .int .i64 n] 190)
    simpa using this
  obtain ⟨⟨e0, e1, e2, e3⟩, _⟩ := box4 X
  exact bodyPost_ret (v := .agg #[.string xn, .string xt, .int .i64 xc, .int .i64 n]) (by simp [results, Tryz.results132, go_sem, e0, e1, e2, e3]) rfl ⟨rfl, ((Below.refl _ _).alloc (Nat.le_refl _) _).alloc (by simp) _⟩
theorem sright (S : SB) (hk : S.ok) (w : World) : Calls Tryz.prog 165 #[S.v] w fun e w' => e = .returned (.bool S.right) ∧ Below w.heap.size w w' := by
  have HW : Hid (∀ s : ByteArray, s.size ≤ 281474976710656 → ∀ w, Calls Tryz.prog 129 #[.string s] w fun e w' => e = .returned (.bool (wordB s)) ∧ w' = w) := fun s hs w => pword s (by omega) w
  obtain ⟨xn, xt, xc, xx⟩ := S
  obtain ⟨h1, h2⟩ := hk
  have HB := hide ((Below.refl w.heap.size w).alloc (Nat.le_refl _) (.cells #[.string xn, .string xt, .int .i64 xc, .int .i64 xx] 190))
  simp only [SB.v, SB.right] at *
  cases a1 : wordB xn with
  | false =>
    simp only [Bool.false_and]
    go_enter Tryz.func165, Tryz.ntmps165
    go_wp2_with (go_at_call 129; refine (HW.out _ (by first | exact h1 | exact h2) _).mono ?_; rintro e w' ⟨rfl, rfl⟩)
    go_ret
    exact ⟨rfl, HB.out⟩
  | true =>
  cases a2 : wordB xt with
  | false =>
    simp only [Bool.true_and, Bool.false_and]
    go_enter Tryz.func165, Tryz.ntmps165
    go_wp2_with (go_at_call 129; refine (HW.out _ (by first | exact h1 | exact h2) _).mono ?_; rintro e w' ⟨rfl, rfl⟩)
    go_ret
    exact ⟨rfl, HB.out⟩
  | true =>
  simp only [Bool.true_and]
  go_enter Tryz.func165, Tryz.ntmps165
  by_cases a3 : 0 ≤ xc
  · by_cases a4 : xc ≤ xx
    · go_wp2_with (go_at_call 129; refine (HW.out _ (by first | exact h1 | exact h2) _).mono ?_; rintro e w' ⟨rfl, rfl⟩)
      go_ret
      exact ⟨by simp [a3, a4], HB.out⟩
    · go_wp2_with (go_at_call 129; refine (HW.out _ (by first | exact h1 | exact h2) _).mono ?_; rintro e w' ⟨rfl, rfl⟩)
      go_ret
      exact ⟨by simp [a3, a4]; intros; omega, HB.out⟩
  · go_wp2_with (go_at_call 129; refine (HW.out _ (by first | exact h1 | exact h2) _).mono ?_; rintro e w' ⟨rfl, rfl⟩)
    go_ret
    exact ⟨by simp [a3]; intros; omega, HB.out⟩
structure OwnS (w : World) (S : SB) (w' : World) : Prop where
  below : Below w.heap.size w w'
  one : w'.heap[w.heap.size]? = some (.cells #[.string S.name, .string S.top, .int .i64 S.cur, .int .i64 S.next] 190 (0, 0))
  two : w'.heap[w.heap.size + 1]? = some (.cells #[.string ⟨#[]⟩, .string ⟨#[]⟩, .int .i64 0, .int .i64 0] 190 (0, 0))
theorem OwnS.to {w w1 w2 : World} {r : SB} (h : OwnS w r w1) (hb : Below w1.heap.size w1 w2) : OwnS w r w2 :=
  ⟨h.below.trans (hb.mono h.below.size), Below.at hb h.one, Below.at hb h.two⟩
theorem OwnS.drew {w w1 : World} {r : SB} (h : OwnS w r w1) : OwnS w r w1.drew := ⟨h.below.drew, h.one, h.two⟩
theorem OwnS.set {w w1 : World} {r : SB} (h : OwnS w r w1) (o : Nat) (v : Value) (hv : (#[.string r.name, .string r.top, .int .i64 r.cur, .int .i64 r.next] : Array Value).setIfInBounds o v = #[.string r.name, .string r.top, .int .i64 r.cur, .int .i64 r.next]) : OwnS w r (w1.setCell ⟨w.heap.size, o, none⟩ v) := by
  refine ⟨h.below.setCell (Nat.le_refl _) _, ?_, box_apart h.two (by omega) _ _⟩
  rw [box_set h.one, hv]
theorem OwnS.set0 {w w1 : World} {r : SB} (h : OwnS w r w1) : OwnS w r (w1.setCell ⟨w.heap.size, 0, none⟩ (.string r.name)) := h.set 0 _ (by rfl)
theorem OwnS.set1 {w w1 : World} {r : SB} (h : OwnS w r w1) : OwnS w r (w1.setCell ⟨w.heap.size, 1, none⟩ (.string r.top)) := h.set 1 _ (by rfl)
theorem OwnS.cells {w w1 : World} {r : SB} (h : OwnS w r w1) : w1.cell? ⟨w.heap.size, 0, none⟩ = some (.string r.name) ∧ w1.cell? ⟨w.heap.size, 1, none⟩ = some (.string r.top) :=
  ⟨box_cell h.one 0 rfl, box_cell h.one 1 rfl⟩
theorem OwnS.free {w w1 : World} {r : SB} (h : OwnS w r w1) (o : Nat) : w1.frozen? ⟨w.heap.size, o, none⟩ = false := box_free h.one o
theorem sown (r : SB) (hr : r.ok) (w : World) :
    Calls Tryz.prog 133 #[r.v] w fun e w' => e = .returned r.v ∧ Below w.heap.size w w' := by
  have HC1 := hide (fun W => clone_any r.name W hr.nm)
  have HC3 := hide (fun W => clone_any r.top W hr.tp)
  have K1 : Hid (OwnS w r ((w.alloc (.cells #[.string r.name, .string r.top, .int .i64 r.cur, .int .i64 r.next] 190)).alloc (.cells #[.string ⟨#[]⟩, .string ⟨#[]⟩, .int .i64 0, .int .i64 0] 190))) := by
    refine ⟨((Below.refl _ _).alloc (Nat.le_refl _) _).alloc (by simp) _, ?_, ?_⟩
    · exact box_alloc (heap_alloc_new w _) _
    · have := heap_alloc_new (w.alloc (.cells #[.string r.name, .string r.top, .int .i64 r.cur, .int .i64 r.next] 190)) (.cells #[.string ⟨#[]⟩, .string ⟨#[]⟩, .int .i64 0, .int .i64 0] 190)
      simpa using this
  obtain ⟨xn, xt, xc, xx⟩ := r
  simp only [SB.v] at *
  clear hr
  go_enter Tryz.func133, Tryz.ntmps133
  go_wp2_with fail
  generalize (w.alloc (.cells #[.string xn, .string xt, .int .i64 xc, .int .i64 xx] 190)).alloc (.cells #[.string ⟨#[]⟩, .string ⟨#[]⟩, .int .i64 0, .int .i64 0] 190) = w1 at *
  have HX : Hid (∀ {W : World}, OwnS w ⟨xn, xt, xc, xx⟩ W → W.cell? ⟨w.heap.size, 0, none⟩ = some (.string xn) ∧ W.cell? ⟨w.heap.size, 1, none⟩ = some (.string xt) ∧ W.frozen? ⟨w.heap.size, 0, none⟩ = false ∧ W.frozen? ⟨w.heap.size, 1, none⟩ = false) := fun h => ⟨h.cells.1, h.cells.2, h.free 0, h.free 1⟩
  obtain ⟨c1, c3, f1, f3⟩ := HX.out K1.out
  go_region_held (fun w' => OwnS w ⟨xn, xt, xc, xx⟩ w' ∧ w'.cell? ⟨w.heap.size, 0, none⟩ = some (.string xn) ∧ w'.cell? ⟨w.heap.size, 1, none⟩ = some (.string xt))
    (first | exact ⟨K1.out.drew, K1.out.drew.cells⟩ | exact ⟨K2.out, K2.out.cells⟩ | exact ⟨K2.out.set0, K2.out.set0.cells⟩ | exact ⟨K2.out.set1, K2.out.set1.cells⟩ | exact ⟨K2.out.set0.set1, K2.out.set0.set1.cells⟩)
    ((go_at_call 42; first | refine (HC1.out _).mono ?_ | refine (HC3.out _).mono ?_) <;> rintro e w2 ⟨rfl, hb⟩ <;> (have K2 := hide ((by first | exact K1.out.drew | exact K2.out | exact K2.out.set0 : OwnS w ⟨xn, xt, xc, xx⟩ _).to hb)) <;> obtain ⟨c1, c3, f1, f3⟩ := HX.out K2.out <;> clear hb)
  all_goals
    rename_i hH
    have K3 := hide hH.1
    clear hH c1 c3 f1 f3 K2
    generalize (w2.setCell _ _).setCell _ _ = W at *
    obtain ⟨⟨c0, c1, c2, c3⟩, _⟩ := box4 K3.out.one
    obtain ⟨⟨d0, d1, d2, d3⟩, f0, f1, f2, f3⟩ := box4 K3.out.two
    have x5 := set4_box (x0 := .string xn) (x1 := .string xt) (x2 := .int .i64 xc) (x3 := .int .i64 xx) K3.out.two
    have b5 := set4_below (b := w.heap.size + 1) (x0 := .string xn) (x1 := .string xt) (x2 := .int .i64 xc) (x3 := .int .i64 xx) K3.out.below (by omega)
    unfold set4 at x5 b5
    have X5 := hide x5
    have B5 := hide b5
    clear x5 b5
    go_wp2
    obtain ⟨⟨e0, e1, e2, e3⟩, _⟩ := box4 X5.out
    refine bodyPost_ret (v := .agg #[.string xn, .string xt, .int .i64 xc, .int .i64 xx]) (by simp [results, Tryz.results133, go_sem, e0, e1, e2, e3]) rfl ⟨rfl, B5.out⟩
end Go.Proofs.YtlfodldlkchmoaaGreat.Y
namespace Go.Proofs.YtlfodldlkchmoaaGreat.Y
open Go.RowKit Go.Maps
set_option maxHeartbeats 4000000
set_option maxRecDepth 100000
set_option linter.unusedVariables false
set_option linter.unusedSimpArgs false
theorem TG.Ok.name {c : Nat} {G : TG} (h : G.Ok c) : G.name.size ≤ 20 := textB_le (b := true) h.word
theorem tname {w : World} {L : LOC} {G : TG} {c : Nat} (h : TAt w L G) (hk : G.Ok c) : Calls Tryz.prog 131 #[.pointer (some ⟨L.b, 0, none⟩)] w fun e w' => e = .returned (.string G.name) ∧ Below w.heap.size w w' := by
  obtain ⟨c0, c1, c2, c3, c4⟩ := h.cells
  have HC := hide (fun W => clone_any G.name W (by have := hk.name; omega))
  clear h hk
  go_enter Tryz.func131, Tryz.ntmps131
  go_wp2_with (go_at_call 42; refine (HC.out _).mono ?_; rintro e w' ⟨rfl, b2⟩)
  go_ret
  exact ⟨rfl, b2⟩
theorem gclo (r : Rec) (eb : Nat) (en : Int) (w : World) (he : w.heap[eb]? = some (.cells #[.int .i64 en] 3 (0, 0))) : Calls Tryz.prog 181 #[r.v, .pointer (some ⟨eb, 0, none⟩)] w fun e w' => e = .returned (.bool (decide (r.off ≥ en))) ∧ Below w.heap.size w w' := by
  obtain ⟨xo, xp, xs, xk, xv⟩ := r
  simp only [Rec.v]
  have HB := hide ((Below.refl w.heap.size w).alloc (Nat.le_refl _) (.cells #[.int .i64 xo, .string xp, .int .i64 xs, .string xk, .string xv] 42))
  have c0 := box_cell (box_alloc he (.cells #[.int .i64 xo, .string xp, .int .i64 xs, .string xk, .string xv] 42)) 0 rfl
  clear he
  go_enter Tryz.func181, Tryz.ntmps181
  go_wp2
  go_ret
  exact ⟨rfl, HB.out⟩
def idxF (l : List Rec) (en : Int) : Int := if placeF l en < l.length then placeF l en else -1
theorem gidx (l : List Rec) (hr : Rises l) (en : Int) (eb : Nat) (v : Value) (w : World) (hat : RecsAt w v l) (he : w.heap[eb]? = some (.cells #[.int .i64 en] 3 (0, 0))) (hl : l.length ≤ 1048576) :
    Calls Tryz.prog 185 #[v, .func (.func 181) #[] #[.pointer (some ⟨eb, 0, none⟩)]] w fun e w' => e = .returned (.int .i64 (idxF l en)) ∧ Below w.heap.size w w' := by
  obtain ⟨ao, ac, rfl, _, _⟩ := id hat
  have HA := hide hat
  have HR := hide hr
  have HE := hide he
  clear hat hr he
  generalize hp : idxF l en = pl
  have HP := hide hp
  clear hp
  go_enter Tryz.func185, Tryz.ntmps185
  go_wp2
  go_loopw [8] (fun iv wv => ∃ k : Nat, k ≤ l.length ∧ iv = .int .i64 k ∧ Hid (Below w.heap.size w wv) ∧ Hid (k ≤ placeF l en)) (fun iv _ => l.length - (intOf iv).toNat)
  case atStart => exact ⟨0, Nat.zero_le _, rfl, Below.refl _ _, Nat.zero_le _⟩
  case round =>
    obtain ⟨k, hk, rfl, BV, HI⟩ := hrel
    by_cases hlt : k < l.length
    · have HPL := hide (place_lt HR.out (off := en) k hlt)
      obtain ⟨_, b, of, rfl, hb, a0, a1, a2, a3, a4⟩ := (HA.out.below BV.out).five k hlt
      have HC := hide (fun W hW => gclo l[k] eb en W hW)
      have HEV := hide (Below.at BV.out HE.out)
      have hi1 : (k : Int) < (l.length : Int) := by omega
      generalize l[k] = x at *
      obtain ⟨xo, xp, xs, xk, xv⟩ := x
      simp only [Rec.v] at a0 a1 a2 a3 a4 HPL HC
      by_cases hyx : xo < en
      · have h5 := HPL.out.2 hyx
        have H5 := hide h5
        clear h5
        have hd : decide (xo ≥ en) = false := by simp; omega
        go_wp2_with (go_at_call 181; refine (HC.out _ HEV.out).mono ?_; rintro e w' ⟨rfl, b2⟩)
        exact ⟨⟨k + 1, by omega, by go_num, BV.out.trans (b2.mono BV.out.size), H5.out⟩, by simp [intOf]; omega⟩
      · have h5 : ¬ k < placeF l en := fun h => hyx (HPL.out.1 h)
        have H5 := hide h5
        clear h5
        have hd : decide (xo ≥ en) = true := by simp; omega
        go_wp2_with (go_at_call 181; refine (HC.out _ HEV.out).mono ?_; rintro e w' ⟨rfl, b2⟩)
        go_ret
        refine ⟨?_, BV.out.trans (b2.mono BV.out.size)⟩
        have e5 : placeF l en = k := by have := HI.out; have := H5.out; omega
        rw [← HP.out, idxF, e5, if_pos hlt]
        rfl
    · have hi1 : ¬ (k : Int) < (l.length : Int) := by omega
      go_wp2
      go_ret
      refine ⟨?_, BV.out⟩
      rw [← HP.out, idxF, if_neg (by have := HI.out; omega)]
      rfl
end Go.Proofs.YtlfodldlkchmoaaGreat.Y
namespace Go.Proofs.YtlfodldlkchmoaaGreat.Y
open Go.RowKit Go.Maps
set_option maxHeartbeats 4000000
set_option maxRecDepth 100000
set_option linter.unusedVariables false
set_option linter.unusedSimpArgs false
theorem setCells_ahead (g : Nat) {e : TypeId} : ∀ (vs : List Value) (o : Nat) (w : World) (cur : Array Value), w.heap[g]? = some (.cells cur e (0, 0)) → ∃ cur', (w.setCells g o vs).heap[g]? = some (.cells cur' e (0, 0)) ∧ ∀ j, j < o → cur'[j]? = cur[j]?
  | [], _, _, cur, h => ⟨cur, h, fun _ _ => rfl⟩
  | v :: r, o, w, cur, h => by
    obtain ⟨c, h1, h2⟩ := setCells_ahead g r (o + 1) (w.setCell ⟨g, o, none⟩ v) _ (box_set h o v)
    refine ⟨c, h1, fun j hj => ?_⟩
    rw [h2 j (by omega), Array.getElem?_setIfInBounds_ne (by omega)]
theorem clear_tail {w : World} {ao : Option Addr} {cap : Nat} {l : List Rec} (h : OwnsQ w 42 5 (.slice ao l.length cap) l.length (recCells l)) (k : Nat) (hk : k < l.length) :
    ∃ ao' cap' w', (∀ W, (Instr.slice 35 (.slice ao l.length cap) (some (.int .i64 k)) none none).run Tryz.prog W = .ok (.slice ao' (l.length - k) cap') W) ∧ (∀ ty, (Builtin.clear_ #[35] ty #[.slice ao' (l.length - k) cap']).run Tryz.prog w = .ok (.tuple #[]) w') ∧ w.grownBy w' (Value.slice ao l.length cap).ownBlock ∧ w'.heap.size = w.heap.size ∧
      (∀ W, (Instr.slice 35 (.slice ao l.length cap) none (some (.int .i64 k)) none).run Tryz.prog W = .ok (.slice ao k cap) W) ∧ RecsAt w' (.slice ao k cap) (l.take k) := by
  obtain ⟨ao', cap', h1, h2, h3⟩ := slice_from h k (by omega)
  have hrec := recs_of_q h
  have hcap := q_cap h
  obtain ⟨s1, s2⟩ := slice_upto hrec k (by omega) hcap.1
  rcases h.2 with ⟨hv, hn⟩ | ⟨g, off, c, cur, hv, hg, h4, h5, h6, h7⟩
  · omega
  injection hv with e1 e2 e3
  subst e1 e3
  have hk5 : k * 5 < l.length * 5 := by omega
  have hl5 : l.length * 5 ≤ cap * 5 := Nat.mul_le_mul_right _ h4
  have hck : ¬ cap = k := by omega
  have h2b := h.cut k (by omega)
  rw [if_neg hck] at h2b
  have hr : ∀ W, (Instr.slice 35 (.slice (some ⟨g, off, none⟩) l.length cap) (some (.int .i64 k)) none none).run Tryz.prog W = .ok (.slice (some ⟨g, off + k * 5, none⟩) (l.length - k) (cap - k)) W := by
    intro W
    rw [run_slice_l (P := Tryz.prog) W 35 _ l.length cap underRecs .i64 k (by omega) (by omega), elemRecs, sizeOfRec]
    show Result.ok (sliced _ k l.length cap 5) W = _
    rw [sliced, if_neg hck, Option.map_some, Addr.add_lit]
  have hc := fun ty => run_clear_rec w ty g (off + k * 5) (l.length - k) (cap - k) (by omega) (fun j hj => by
        have hj2 : j < l.length * 5 - k * 5 := by rw [← Nat.sub_mul]; exact hj
        rw [Lib.cell_of_heap hg, Array.getElem?_eq_getElem (by omega)]
        rfl) (fun j _ => box_free hg _)
  obtain ⟨cur', hg', hs'⟩ := setCells_ahead g (zeroL (l.length - k)) (off + k * 5) w cur hg
  obtain ⟨hgr, hsz⟩ := setCells_grown g (zeroL (l.length - k)) (off + k * 5) w
  refine ⟨_, _, _, hr, hc, hgr, hsz, s1, ?_⟩
  obtain ⟨ao1, cap1, q1, q2, q3⟩ := s2
  injection q1 with q1 q4 q5
  subst q1 q5
  refine ⟨some ⟨g, off, none⟩, cap, congrArg (fun x => Value.slice (some ⟨g, off, none⟩) x cap) q4, q2, fun i hi => ?_⟩
  obtain ⟨b, of, r1, r2, r3⟩ := q3 i hi
  injection r1 with r1
  injection r1 with r1 r4 _
  subst r1 r4
  refine ⟨g, off, rfl, by rw [hsz]; exact r2, fun j hj => ?_⟩
  rw [← r3 j hj, Lib.cell_of_heap hg', Lib.cell_of_heap hg]
  have hik : i < k := by rw [List.length_take] at hi; omega
  have : i * 5 + 5 ≤ k * 5 := by omega
  exact hs' _ (by omega)
theorem gdel (l : List Rec) (hr : Rises l) (en : Int) (eb : Nat) (ao : Option Addr) (cap : Nat) (w : World) (hq : OwnsQ w 42 5 (.slice ao l.length cap) l.length (recCells l)) (he : w.heap[eb]? = some (.cells #[.int .i64 en] 3 (0, 0))) (hl : l.length ≤ 1048576) :
    Calls Tryz.prog 180 #[.slice ao l.length cap, .func (.func 181) #[] #[.pointer (some ⟨eb, 0, none⟩)]] w fun e w' => e = .returned (.slice ao (placeF l en) cap) ∧ RecsAt w' (.slice ao (placeF l en) cap) (l.take (placeF l en)) ∧ Touch (fun j => (Value.slice ao l.length cap).ownBlock = some j) w w' := by
  have hra := recs_of_q hq
  have HX := hide (gidx l hr en eb _ w hra he hl)
  have hple := placeF_le l en
  by_cases hm : placeF l en < l.length
  · have HP := hide (fun k hk => (place_lt hr (off := en) k hk))
    have HQ := hide hq
    have HE := hide he
    have HR := hide hra
    have HXE : idxF l en = (placeF l en : Nat) := by rw [idxF, if_pos hm]
    rw [HXE] at HX
    clear HXE hq he hra hr
    generalize hpm : placeF l en = m at *
    have HPM := hide hpm
    clear hpm
    have hne : ((m : Int) == -1) = false := beq_eq_false_iff_ne.2 (by omega)
    go_enter Tryz.func180, Tryz.ntmps180
    go_wp2_with (go_at_call 185; refine HX.out.mono ?_; rintro e w1 ⟨rfl, hb1⟩)
    have B1 := hide hb1
    clear hb1
    go_loopw [5, 6, 7] (fun iv jv xv wv => iv = .int .i64 m ∧ ∃ k : Nat, m + 1 ≤ k ∧ k ≤ l.length ∧ jv = .int .i64 k ∧ Hid (Below w.heap.size w wv)) (fun _ jv _ _ => l.length - (intOf jv).toNat)
    case atStart => exact ⟨rfl, m + 1, Nat.le_refl _, hm, by go_num, B1⟩
    case round =>
      obtain ⟨rfl, k, hk1, hk2, rfl, BV⟩ := hrel
      by_cases hlt : k < l.length
      · have HPL := hide (HP.out k hlt)
        obtain ⟨_, b, of, rfl, hb, a0, a1, a2, a3, a4⟩ := (HR.out.below BV.out).five k hlt
        have HC := hide (fun W hW => gclo l[k] eb en W hW)
        have hi1 : (k : Int) < (l.length : Int) := by omega
        generalize l[k] = x at *
        obtain ⟨xo, xp, xs, xk, xv⟩ := x
        simp only [Rec.v] at a0 a1 a2 a3 a4 HPL HC
        have hyx : ¬ xo < en := fun h => by have := HPL.out.2 h; omega
        have hd : decide (xo ≥ en) = true := by simp; omega
        have BA := hide (BV.out.alloc BV.out.size (.cells #[.int .i64 xo, .string xp, .int .i64 xs, .string xk, .string xv] 42))
        have HEV := hide (Below.at BA.out HE.out)
        go_wp2_with (go_at_call 181; refine (HC.out _ HEV.out).mono ?_; rintro e w' ⟨rfl, b2⟩)
        exact ⟨⟨rfl, k + 1, by omega, by omega, by go_num, BA.out.trans (b2.mono BA.out.size)⟩, by simp [intOf]; omega⟩
      · have hi1 : ¬ (k : Int) < (l.length : Int) := by omega
        obtain ⟨ao', cap', w', s1, s2, s3, s4, s5, s6⟩ := clear_tail (HQ.out.keep (own := fun _ => False) (Touch.of_below BV.out) fun _ _ e => e) m hm
        have S3 := hide s3
        have S4 := hide s4
        have S6 := hide s6
        clear s3 s4 s6
        go_wp2
        go_ret
        refine ⟨rfl, S6.out, ?_⟩
        exact (Touch.of_below BV.out).grown S3.out fun k e _ => e
  · have em : placeF l en = l.length := by omega
    have HXE : idxF l en = -1 := by rw [idxF, if_neg hm]
    rw [HXE] at HX
    rw [em, List.take_length]
    have HR := hide hra
    clear HXE hq he hra hr em hm hple
    go_enter Tryz.func180, Tryz.ntmps180
    go_wp2_with (go_at_call 185; refine HX.out.mono ?_; rintro e w1 ⟨rfl, hb1⟩)
    go_ret
    exact ⟨rfl, HR.out.below hb1, Touch.of_below hb1⟩
end Go.Proofs.YtlfodldlkchmoaaGreat.Y
