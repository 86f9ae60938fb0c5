/-
  TopicLoads: for all texts the law's call returns true and leaves them as they were; no condition.
-/
import Derived.Test.YtfoomgdlbkjaeaaGreatZVI
import Derived.Test.YtfoomgdlbkjaeaaGreatZVB
import Derived.Test.YtfoomgdlbkjaeaaGreatZLdR
import Derived.Test.YtfoomgdlbkjaeaaGreatZKPure
import Derived.Test.YtfoomgdlbkjaeaaGreatZTK
namespace Go.Proofs.YtfoomgdlbkjaeaaGreat.Y
open Go.RowKit
set_option maxHeartbeats 4000000
attribute [local go_sem ↓] Go.wp_at_zero Go.wp_at_succ
set_option linter.unusedSimpArgs false
set_option linter.unusedVariables false
open Go.Maps
theorem Dump.long {s nm : ByteArray} {lo fi : Int} {P : List PU} {R : List Rec} (h : Dump s nm lo fi P R) : 4 + nm.size + 24 ≤ s.size := by
  have e : s.size = s.data.toList.length := by rw [Array.length_toList]; rfl
  rw [e, h.text]
  unfold loadItems itemsHd
  simp only [List.flatMap_cons, List.flatMap_nil, List.flatMap_append, List.cons_append, List.nil_append, List.length_append, List.length_nil, iB_len]
  have w4 : K.widthN 4 = 4 := by decide
  have w3 : K.widthN 3 = 8 := by decide
  have z0 : (⟨#[]⟩ : ByteArray).size = 0 := rfl
  rw [w4, w3, z0]
  omega
theorem Dump.word {s nm : ByteArray} {lo fi : Int} {P : List PU} {R : List Rec} (h : Dump s nm lo fi P R) : headW s = ([⟨2, (nm.size : Int), ⟨#[]⟩⟩], 0) := by
  have hn := h.name
  unfold headW
  rw [h.text]
  exact word_dec2 hn
theorem ofB_small {nm : ByteArray} {lo fi : Int} {P : List PU} {R : List Rec} (h : ofB nm lo fi P R = true) : nm.size ≤ 20 := by
  unfold ofB at h
  simp only [Bool.and_eq_true] at h
  have h6 := h.1.1.1.1
  unfold wordB at h6
  have := (wordL_out h6).2.1
  simpa using this
theorem xload_dump {s nm : ByteArray} {lo fi : Int} {P : List PU} {R : List Rec} (hD : Dump s nm lo fi P R) (hs : s.size ≤ 9223372036854775807) (w : World) :
    Calls Tryz.prog 25 #[.string s] w fun e w' => Below w.heap.size w w' ∧ ((ofB nm lo fi P R = false ∧ e = .returned (.pointer none)) ∨ (ofB nm lo fi P R = true ∧ ∃ X : XL, e = .returned (.pointer (some ⟨X.b, 0, none⟩)) ∧ XAt w' X ⟨nm, lo, fi, P.map prPR, R⟩ ∧ ∀ j, X.own j → w.heap.size ≤ j)) := by
  have hlong := hD.long
  have hPl := hD.few
  have hRl := hD.recs
  go_enter Tryz.func25, Tryz.ntmps25
  refine wp_seq (reg_mono (xl_r0 (by kernel_rfl) _ (v := ⟨_, _, _, _, _, _, _, _, _, _⟩) ⟨rfl, rfl, rfl, rfl, rfl, rfl, rfl, rfl, rfl, rfl, rfl, rfl⟩ ?_))
  intro a0 F0
  try dsimp only at F0
  refine wp_seq (wp_seq (reg_mono (xl_r1 (by kernel_rfl) _ F0 rfl hs ?_)))
  intro a1 F1 g1
  rw [decide_eq_false (show ¬ (s.size : Int) < 4 by omega)] at g1
  refine wp_cond_false g1 (wp_skip ?_)
  show Code.wp _ _ _ _ _
  have m0 : 0 < s.size := by omega
  have m1 : 1 < s.size := by omega
  have m2 : 2 < s.size := by omega
  have m3 : 3 < s.size := by omega
  have hw := headW_num s m0 m1 m2 m3
  have hn : s[0].toNat * 16777216 + s[1].toNat * 65536 + s[2].toNat * 256 + s[3].toNat < 4294967296 := by
    have b0 := s[0].toNat_lt
    have b1 := s[1].toNat_lt
    have b2 := s[2].toNat_lt
    have b3 := s[3].toNat_lt
    omega
  generalize hN : s[0].toNat * 16777216 + s[1].toNat * 65536 + s[2].toNat * 256 + s[3].toNat = N at hw hn
  have en : N = nm.size := by
    rw [hD.word] at hw
    have e1 := congrArg (fun r : List K.It × Int => r.1.map fun x => x.n) hw
    simp only [List.map_cons, List.map_nil, List.cons.injEq, and_true] at e1
    omega
  refine wp_seq (reg_mono (xl_r3 (by kernel_rfl) _ F1 rfl hs m0 m1 m2 m3 hN.symm ?_))
  intro a3 nq F3
  try dsimp only at F3
  have B3 : Below w.heap.size w (w.drewN nq) := ⟨rfl, rfl, rfl, Nat.le_refl _, fun _ _ => rfl⟩
  generalize w.drewN nq = w3 at B3
  subst en
  have hh : headT s nm = s.extract 0 ((4 : Int) + (nm.size : Int) + 24).toNat := by
    unfold headT
    rw [show (min (4 + (nm.size : Int) + 24) (s.size : Int)).toNat = ((4 : Int) + (nm.size : Int) + 24).toNat by omega]
  have hd := hD.head
  have hda := hD.all
  have hsz : (headT s nm).size ≤ 9223372036854775807 := Nat.le_trans headT_size hs
  by_cases h20 : (nm.size : Int) > 20
  · refine wp_seq (wp_seq (reg_mono (xl_r4a (by kernel_rfl) _ F3 rfl rfl h20 hn hs ?_)))
    intro a4 F4 g4
    refine wp_cond_true g4 ?_
    show Code.wp _ _ _ _ _
    refine wp_seq (reg_mono (xl_r5 (by kernel_rfl) _ F4 ?_))
    intro a5 F5
    try dsimp only at F5
    refine wp_ret ?_
    simp only [Exit.then]
    refine xl_ret F5 rfl ⟨B3, .inl ⟨?_, rfl⟩⟩
    cases hb : ofB nm lo fi P R with
    | false => rfl
    | true =>
      have := ofB_small hb
      omega
  refine wp_seq (wp_seq (reg_mono (xl_r4b (by kernel_rfl) _ F3 rfl rfl h20 hs ?_)))
  intro a4 F4 g4
  rw [decide_eq_false (show ¬ (s.size : Int) < 4 + (nm.size : Int) + 24 by omega)] at g4
  refine wp_cond_false g4 (wp_skip ?_)
  show Code.wp _ _ _ _ _
  have HD := K.rdecode_any ⟨#[116, 108, 108, 108]⟩ (headT s nm) w3 (by decide) hsz (K.decF [116, 108, 108, 108] (headT s nm).data.toList) rfl
  rw [hd] at HD
  refine wp_seq (reg_mono (xl_r6 (n4 := 4) (er := 0) (R := fun ao cp u => (∃ g, ao = some ⟨g, 0, none⟩ ∧ u.cell? ⟨g, 10, none⟩ = some (.int .u64 (P.length : Int))) ∧ Below w3.heap.size w3 u) (by kernel_rfl) _ F4 rfl rfl (by omega) hs (by omega) (by
    rw [← hh]
    refine HD.mono fun e u q => ?_
    obtain ⟨v, rfl, ho, b⟩ := q
    obtain ⟨g, cp, rfl, _, _, _, _, hcl⟩ := own_list (l := itemsHd nm lo fi (P.length : Int)) ho (by unfold itemsHd; simp)
    exact ⟨_, _, rfl, ⟨g, rfl, hcl 10 _ rfl⟩, b⟩) ?_))
  rintro a6 w6 _ cp F6 ⟨⟨g, rfl, c10⟩, b6⟩
  try dsimp only at F6
  refine wp_seq (wp_seq (reg_mono (xl_r7b (by kernel_rfl) _ F6 rfl rfl c10 ?_)))
  intro a7 F7 g7
  rw [decide_eq_false (show ¬ (P.length : Int) > 333 by omega)] at g7
  refine wp_cond_false g7 (wp_skip ?_)
  show Code.wp _ _ _ _ _
  refine wp_seq (reg_mono (xl_r9 (by kernel_rfl) _ F7 rfl c10 ?_))
  intro a9 F9
  try dsimp only at F9
  rw [show wrap64 (P.length : Int) = (P.length : Int) by unfold wrap64; omega] at F9
  have HS := K.rdecode_any (shapeS P.length) s w6 (by rw [shape_size]; omega) hs (K.decF (shapeT P.length) s.data.toList) (by simp [shapeS])
  rw [hda] at HS
  refine wp_seq (reg_mono (xl_r10 (n7 := (loadItems nm lo fi (P.length : Int) P R).length) (er := 0) (R := fun ao cp u => (∃ g, ao = some ⟨g, 0, none⟩ ∧ g < u.heap.size ∧ ∀ k v, (K.itemCells (loadItems nm lo fi (P.length : Int) P R))[k]? = some v → u.cell? ⟨g, k, none⟩ = some v) ∧ Below w6.heap.size w6 u) (by kernel_rfl) _ F9 rfl rfl (by omega) (HS.mono fun e u q => by
    obtain ⟨v, rfl, ho, b⟩ := q
    obtain ⟨g, cp, rfl, _, _, _, ⟨ct, hct⟩, hcl⟩ := own_list (l := loadItems nm lo fi (P.length : Int) P R) ho (by unfold loadItems itemsHd; simp)
    exact ⟨_, _, rfl, ⟨g, rfl, heap_lt hct, hcl⟩, b⟩) ?_))
  rintro a10 w10 _ cp2 F10 ⟨⟨g2, rfl, hg2, hcl⟩, b10⟩
  try dsimp only at F10
  have B10 : Below w.heap.size w w10 := B3.trans ((b6.trans (b10.mono b6.size)).mono B3.size)
  refine wp_seq (wp_seq (reg_mono (xl_r11 (by kernel_rfl) _ F10 rfl ?_)))
  intro a11 F11 g11
  refine wp_cond_false (show _ = Value.bool false from g11) (wp_skip ?_)
  show Code.wp _ _ _ _ _
  have HO := rof hD w10 (n := (loadItems nm lo fi (P.length : Int) P R).length) (cp := cp2) (li_len nm lo fi (P.length : Int) P R) hg2 hcl
  cases hb : ofB nm lo fi P R with
  | false =>
    refine wp_seq (reg_mono (xl_r13 (ok := false) (R := fun po u => po = none ∧ Below w10.heap.size w10 u) (by kernel_rfl) _ F11 rfl rfl (HO.mono fun e u q => by
      obtain ⟨b, ⟨_, rfl⟩ | ⟨h, _⟩⟩ := q
      · exact ⟨_, rfl, rfl, b⟩
      · rw [hb] at h; cases h) ?_))
    rintro a13 w13 _ F13 ⟨rfl, b13⟩
    try dsimp only at F13
    refine wp_seq (wp_seq (reg_mono (xl_r14 (by kernel_rfl) _ F13 rfl ?_)))
    intro a14 F14 g14
    refine wp_cond_true (show _ = Value.bool true from g14) ?_
    show Code.wp _ _ _ _ _
    refine wp_seq (reg_mono (xl_r15 (by kernel_rfl) _ F14 ?_))
    intro a15 F15
    try dsimp only at F15
    refine wp_ret ?_
    simp only [Exit.then]
    exact xl_ret F15 rfl ⟨B10.trans (b13.mono B10.size), .inl ⟨trivial, rfl⟩⟩
  | true =>
    refine wp_seq (reg_mono (xl_r13 (ok := true) (R := fun po u => (∃ X : XL, po = some ⟨X.b, 0, none⟩ ∧ XAt u X ⟨nm, lo, fi, P.map prPR, R⟩ ∧ ∀ j, X.own j → w10.heap.size ≤ j) ∧ Below w10.heap.size w10 u) (by kernel_rfl) _ F11 rfl rfl (HO.mono fun e u q => by
      obtain ⟨b, ⟨h, _⟩ | ⟨_, X, rfl, hX, ho⟩⟩ := q
      · rw [hb] at h; cases h
      · exact ⟨_, rfl, ⟨X, rfl, hX, ho⟩, b⟩) ?_))
    rintro a13 w13 _ F13 ⟨⟨X, rfl, hX, ho⟩, b13⟩
    try dsimp only at F13
    refine wp_seq (wp_seq (reg_mono (xl_r14 (by kernel_rfl) _ F13 rfl ?_)))
    intro a14 F14 g14
    refine wp_cond_false (show _ = Value.bool false from g14) (wp_skip ?_)
    show Code.wp _ _ _ _ _
    refine wp_seq (reg_mono (xl_r16 (by kernel_rfl) _ F14 ?_))
    intro a16 F16
    try dsimp only at F16
    refine wp_ret ?_
    simp only [Exit.then]
    exact xl_ret F16 rfl ⟨B10.trans (b13.mono B10.size), .inr ⟨trivial, X, rfl, hX, fun j hj => Nat.le_trans B10.size (ho j hj)⟩⟩
end Go.Proofs.YtfoomgdlbkjaeaaGreat.Y
namespace Go.Proofs.YtfoomgdlbkjaeaaGreat.Y
open Go.RowKit
set_option linter.unusedSimpArgs false
set_option linter.unusedVariables false
open Go.Maps
theorem riseB_lt {a b : ByteArray} (h : riseB (some a) b = true) : a.data.toList < b.data.toList := by
  have h1 : (!(Op.bytesLess b.toList a.toList || b.toList == a.toList)) = true := h
  rw [ByteArray.toList_eq, ByteArray.toList_eq, bytesLess_eq] at h1
  simp only [Bool.not_eq_true', Bool.or_eq_false_iff, decide_eq_false_iff_not, beq_eq_false_iff_ne] at h1
  obtain ⟨h2, h3⟩ := h1
  rcases List.le_iff_lt_or_eq.1 (List.not_lt.1 h2) with h4 | h4
  · exact h4
  · exact absurd h4.symm h3
theorem ofP_out (fi : Int) : ∀ (q : Option ByteArray) (l : List PU), ofP fi q l = true → (∀ p ∈ l, wordB p.name = true ∧ p.seq ≤ topN ∧ p.off < fi) ∧ RiseL (l.map fun p => p.name.data.toList) ∧ ∀ a, q = some a → ∀ p ∈ l, a.data.toList < p.name.data.toList
  | q, [], _ => ⟨fun _ h => by simp at h, List.Pairwise.nil, fun _ _ _ h => by simp at h⟩
  | q, p :: l, hb => by
    rw [ofP_cons] at hb
    simp only [Bool.and_eq_true, Bool.not_eq_true', decide_eq_false_iff_not] at hb
    obtain ⟨⟨⟨⟨b0, b1⟩, b2⟩, b3⟩, b4⟩ := hb
    obtain ⟨g1, g2, g3⟩ := ofP_out fi _ l b4
    have g4 := g3 p.name rfl
    refine ⟨fun x hx => ?_, List.pairwise_cons.2 ⟨fun x hx => ?_, g2⟩, fun a ha x hx => ?_⟩
    · rcases List.mem_cons.1 hx with rfl | hx
      · exact ⟨b0, by omega, by omega⟩
      · exact g1 x hx
    · obtain ⟨y, hy, rfl⟩ := List.mem_map.1 hx
      exact g4 y hy
    · subst ha
      have h5 := riseB_lt b3
      rcases List.mem_cons.1 hx with rfl | hx
      · exact h5
      · exact List.lt_trans h5 (g4 x hx)
theorem ofY_out (lo fi : Int) : ∀ (q : Option Int) (l : List Rec), ofY lo fi q l = true → (∀ r ∈ l, RightP r ∧ lo ≤ r.off ∧ r.off < fi) ∧ Rises l ∧ ∀ x, q = some x → ∀ r ∈ l, x < r.off
  | q, [], _ => ⟨fun _ h => by simp at h, List.Pairwise.nil, fun _ _ _ h => by simp at h⟩
  | q, r :: l, hb => by
    rw [ofY_cons] at hb
    simp only [Bool.and_eq_true, Bool.not_eq_true', decide_eq_false_iff_not, decide_eq_true_eq] at hb
    obtain ⟨⟨⟨⟨⟨⟨b1, b2⟩, b3⟩, b4⟩, b5⟩, b6⟩, b7⟩ := hb
    obtain ⟨g1, g2, g3⟩ := ofY_out lo fi _ l b7
    have g4 := g3 r.off rfl
    refine ⟨fun x hx => ?_, List.pairwise_cons.2 ⟨g4, g2⟩, fun a ha x hx => ?_⟩
    · rcases List.mem_cons.1 hx with rfl | hx
      · exact ⟨b3, by omega, by omega⟩
      · exact g1 x hx
    · subst ha
      have h5 : ¬ r.off ≤ a := by simpa [offB] using b6
      rcases List.mem_cons.1 hx with rfl | hx
      · omega
      · have := g4 x hx
        omega
section
variable {s nm : ByteArray} {lo fi : Int} {P : List PU} {R : List Rec}
theorem prods_back (hr : RiseL (P.map fun p => p.name.data.toList)) (hn : dnames (knowD (.map []) P) = P.map fun p => p.name.data.toList) : prodsF (knowD (.map []) P) = P := by
  unfold prodsF
  rw [hn, List.map_map]
  refine (List.map_congr_left fun p hp => ?_).trans (List.map_id _)
  show PU.mk ⟨p.name.data.toList.toArray⟩ (gotB (pget (knowD (.map []) P) p.name.data.toList)) (gotA (pget (knowD (.map []) P) p.name.data.toList)) = id p
  rw [know_in _ isMap_empty (rise_nodup hr) p hp]
  simp [gotA, gotB]
theorem know_some {k : List UInt8} {o q : Int} (hr : RiseL (P.map fun p => p.name.data.toList)) (h : pget (knowD (.map []) P) k = some (o, q)) : ∃ p ∈ P, p.name.data.toList = k ∧ p.off = o ∧ p.seq = q := by
  by_cases hk : ∃ p ∈ P, p.name.data.toList = k
  · obtain ⟨p, hp, rfl⟩ := hk
    rw [know_in _ isMap_empty (rise_nodup hr) p hp] at h
    injection h with h
    injection h with h1 h2
    exact ⟨p, hp, rfl, h1, h2⟩
  · rw [know_not _ _ fun p hp e => hk ⟨p, hp, e⟩] at h
    cases h
theorem Dump.loaded (hD : Dump s nm lo fi P R) (hb : ofB nm lo fi P R = true) {w : World} {L : LOC} (hA : TAt w L (loadG nm lo fi P R)) :
    ((loadG nm lo fi P R).low : Int) = lo ∧ ((loadG nm lo fi P R).fin : Int) = fi ∧ (loadG nm lo fi P R).recs = R ∧ (loadG nm lo fi P R).Ok 1000 ∧ ProdsOk (loadG nm lo fi P R) ∧ dumpF (loadG nm lo fi P R) = s := by
  have hb0 := hb
  unfold ofB at hb
  simp only [Bool.and_eq_true, Bool.not_eq_true', decide_eq_false_iff_not] at hb
  obtain ⟨⟨⟨⟨b0, b1⟩, b2⟩, b3⟩, b4⟩ := hb
  have eP := ofP_same fi none P (by omega) hD.prods64 b3
  have eR := ofY_same lo fi none R hD.recs64 b4
  obtain ⟨p1, p2, _⟩ := ofP_out fi none P b3
  obtain ⟨r1, r2, _⟩ := ofY_out lo fi none R b4
  obtain ⟨l0, l1⟩ := hD.low64
  obtain ⟨f0, f1⟩ := hD.fin64
  have el : IntKind.i64.wrap lo = lo := wrap_same ⟨l0, l1⟩ (by omega)
  have ef : IntKind.i64.wrap fi = fi := wrap_same ⟨f0, f1⟩ (by omega)
  have eG : loadG nm lo fi P R = ⟨nm, lo.toNat, fi.toNat, R, knowD (.map []) P, P.length⟩ := by
    unfold loadG
    rw [el, ef, eP, eR]
  rw [eG] at hA ⊢
  have elo : ((lo.toNat : Nat) : Int) = lo := by omega
  have efi : ((fi.toNat : Nat) : Int) = fi := by omega
  have hfull : LFull (knowD (.map []) P) := know_full _ isMap_empty lfull_empty
  have hn : dnames (knowD (.map []) P) = P.map fun p => p.name.data.toList := rise_eq (names_rise hA.map) p2 fun x => by
    rw [names_mem hA.map hfull]
    refine ⟨fun h => ?_, fun h => ?_⟩
    · cases hg : pget (knowD (.map []) P) x with
      | none => exact absurd hg h
      | some g =>
        obtain ⟨o, q⟩ := g
        obtain ⟨p, hp, e, _⟩ := know_some p2 hg
        exact List.mem_map.2 ⟨p, hp, e⟩
    · obtain ⟨p, hp, rfl⟩ := List.mem_map.1 h
      rw [know_in _ isMap_empty (rise_nodup p2) p hp]
      exact fun e => by cases e
  have hpf := prods_back p2 hn
  have hfew := hD.few
  have hrec := hD.recs
  unfold topN at *
  refine ⟨elo, efi, rfl, ⟨b0, r2, fun r hr => ?_, by show lo.toNat ≤ fi.toNat; omega, by show fi.toNat ≤ _; omega, hrec, by show P.length ≤ 1000; omega, by omega⟩, fun p hp => ?_, ?_⟩
  · obtain ⟨⟨c1, c2, c3, c4, c5, c6, c7⟩, c8, c9⟩ := r1 r hr
    exact ⟨by show ((lo.toNat : Nat) : Int) ≤ _; omega, by show _ < ((fi.toNat : Nat) : Int); omega, c3, c4, c5, c6, c7⟩
  · have hp : p ∈ P := by
      have : p ∈ prodsF (knowD (.map []) P) := hp
      rwa [hpf] at this
    obtain ⟨c1, c2, c3⟩ := p1 p hp
    obtain ⟨⟨d1, _⟩, d2, _⟩ := hD.prods64 p hp
    have h6 := c1
    unfold wordB at h6
    have := (wordL_out h6).2.1
    exact ⟨by simpa using this, d1, c2, d2, by show _ < ((fi.toNat : Nat) : Int); omega⟩
  · have hi : dumpItems ⟨nm, lo.toNat, fi.toNat, R, knowD (.map []) P, P.length⟩ = loadItems nm lo fi (P.length : Int) P R := by
      unfold dumpItems loadItems
      show itemsHd nm ((lo.toNat : Nat) : Int) ((fi.toNat : Nat) : Int) (Maps.size (knowD (.map []) P)) ++ (prodsF (knowD (.map []) P)).flatMap itemsPr ++ _ = _
      rw [← prods_len _ (know_isMap _ isMap_empty), hpf, elo, efi]
    unfold dumpF
    rw [hi, fine_enc hD.fine]
    show (⟨((loadItems nm lo fi (P.length : Int) P R).flatMap K.itemB).toArray⟩ : ByteArray) = s
    rw [← hD.text]
end
end Go.Proofs.YtfoomgdlbkjaeaaGreat.Y
namespace Go.Proofs.YtfoomgdlbkjaeaaGreat.Y
open Go.RowKit
set_option maxHeartbeats 8000000
set_option maxRecDepth 100000
attribute [local go_sem ↓] Go.wp_at_zero Go.wp_at_succ
set_option linter.unusedSimpArgs false
set_option linter.unusedVariables false
open Go.Maps
theorem readF_all (l : List Rec) (h : ∀ r ∈ l, 0 ≤ r.off) (hl : l.length ≤ 1000) : readF l 0 1000 = l := by
  have h0 : placeF l 0 = 0 := by
    unfold placeF
    rw [List.countP_eq_zero]
    intro r hr
    have := h r hr
    simp
    omega
  unfold readF
  rw [h0, List.drop_zero]
  exact List.take_of_length_le (by show l.length ≤ 1000; omega)
theorem loads_walk (s : ByteArray) (hs : s.size ≤ 281474976710656) (w : World) :
    Calls Tryz.prog 4 #[.string s] w fun e w' => e = .returned (.bool true) ∧ Below w.heap.size w w' := by
  go_enter Tryz.func4, Tryz.ntmps4
  refine wp_seq (reg_mono (zl_r0 (by kernel_rfl) _ (v := ⟨_, _, _, _, _, _, _⟩) ⟨rfl, rfl, rfl, rfl, rfl, rfl, rfl, rfl, rfl⟩ ?_))
  intro a0 F0
  try dsimp only at F0
  refine wp_seq (reg_mono (zl_r1 (by kernel_rfl) _ F0 (examples_any w) ?_))
  intro a1 w1 F1 b1
  try dsimp only at F1
  by_cases hd : ∃ nm lo fi P R, Dump s nm lo fi P R
  case neg =>
    have hno : ∀ nm lo fi P R, ¬ Dump s nm lo fi P R := fun nm lo fi P R e => hd ⟨_, _, _, _, _, e⟩
    refine wp_seq (reg_mono (zl_r2 (ec := 10) (R := fun po u => po = none ∧ Below w1.heap.size w1 u) (by kernel_rfl) _ F1 rfl ((tload_no s (by omega) hno w1).mono fun e u q => ⟨_, q.2, rfl, q.1⟩) ?_))
    rintro a2 w2 _ F2 ⟨rfl, b2⟩
    try dsimp only at F2
    refine wp_seq (reg_mono (zl_r3 (R := fun po u => po = none ∧ Below w2.heap.size w2 u) (by kernel_rfl) _ F2 rfl ((xload_no s (by omega) hno w2).mono fun e u q => ⟨_, q.2, rfl, q.1⟩) ?_))
    rintro a3 w3 _ F3 ⟨rfl, b3⟩
    try dsimp only at F3
    refine wp_seq (wp_seq (reg_mono (zl_r4n (by kernel_rfl) _ F3 rfl ?_)))
    intro a4 F4 g4
    refine wp_cond_true g4 ?_
    show Code.wp _ _ _ _ _
    refine wp_seq (reg_mono (zl_r5 (by kernel_rfl) _ F4 rfl rfl rfl ?_))
    intro a5 F5
    try dsimp only at F5
    refine wp_ret ?_
    simp only [Exit.then]
    exact zl_ret F5 rfl ⟨rfl, b1.trans ((b2.trans (b3.mono b2.size)).mono b1.size)⟩
  obtain ⟨nm, lo, fi, P, R, hD⟩ := hd
  have HT := tload_dump hD (by omega) w1
  have HX := fun w => xload_dump hD (by omega) w
  rw [hD.loadB] at HT
  cases hb : ofB nm lo fi P R with
  | false =>
    refine wp_seq (reg_mono (zl_r2 (ec := 10) (R := fun po u => po = none ∧ Below w1.heap.size w1 u) (by kernel_rfl) _ F1 rfl (HT.mono fun e u q => ?_) ?_))
    · obtain ⟨q1, ⟨_, q2⟩ | ⟨q2, _⟩⟩ := q
      · exact ⟨_, q2, rfl, q1⟩
      · rw [hb] at q2; cases q2
    rintro a2 w2 _ F2 ⟨rfl, b2⟩
    try dsimp only at F2
    refine wp_seq (reg_mono (zl_r3 (R := fun po u => po = none ∧ Below w2.heap.size w2 u) (by kernel_rfl) _ F2 rfl ((HX w2).mono fun e u q => ?_) ?_))
    · obtain ⟨q1, ⟨_, q2⟩ | ⟨q2, _⟩⟩ := q
      · exact ⟨_, q2, rfl, q1⟩
      · rw [hb] at q2; cases q2
    rintro a3 w3 _ F3 ⟨rfl, b3⟩
    try dsimp only at F3
    refine wp_seq (wp_seq (reg_mono (zl_r4n (by kernel_rfl) _ F3 rfl ?_)))
    intro a4 F4 g4
    refine wp_cond_true g4 ?_
    show Code.wp _ _ _ _ _
    refine wp_seq (reg_mono (zl_r5 (by kernel_rfl) _ F4 rfl rfl rfl ?_))
    intro a5 F5
    try dsimp only at F5
    refine wp_ret ?_
    simp only [Exit.then]
    exact zl_ret F5 rfl ⟨rfl, b1.trans ((b2.trans (b3.mono b2.size)).mono b1.size)⟩
  | true =>
  refine wp_seq (reg_mono (zl_r2 (ec := 0) (R := fun po u => ∃ L : LOC, po = some ⟨L.b, 0, none⟩ ∧ TAt u L (loadG nm lo fi P R) ∧ Below w1.heap.size w1 u) (by kernel_rfl) _ F1 rfl (HT.mono fun e u q => ?_) ?_))
  · obtain ⟨q1, ⟨q2, _⟩ | ⟨_, L, q3, q4, q5⟩⟩ := q
    · rw [hb] at q2; cases q2
    · exact ⟨_, q3, L, rfl, q4, q1⟩
  rintro a2 w2 _ F2 ⟨L, rfl, t2, b2⟩
  try dsimp only at F2
  refine wp_seq (reg_mono (zl_r3 (R := fun po u => ∃ X : XL, po = some ⟨X.b, 0, none⟩ ∧ XAt u X ⟨nm, lo, fi, P.map prPR, R⟩ ∧ Below w2.heap.size w2 u) (by kernel_rfl) _ F2 rfl ((HX w2).mono fun e u q => ?_) ?_))
  · obtain ⟨q1, ⟨q2, _⟩ | ⟨_, X, q3, q4, q5⟩⟩ := q
    · rw [hb] at q2; cases q2
    · exact ⟨_, q3, X, rfl, q4, q1⟩
  rintro a3 w3 _ F3 ⟨X, rfl, x3, b3⟩
  try dsimp only at F3
  obtain ⟨elo, efi, erec, hok, hpo, hdump⟩ := hD.loaded hb t2
  have B3 : Below w.heap.size w w3 := b1.trans ((b2.trans (b3.mono b2.size)).mono b1.size)
  have t3 := t2.below b3
  have hrl := hD.recs
  have hro : ∀ r ∈ R, 0 ≤ r.off := fun r hr => (hD.recs64 r hr).2.1
  refine wp_seq (wp_seq (reg_mono (zl_r4s (by kernel_rfl) _ F3 rfl ?_)))
  intro a4 F4 g4
  refine wp_cond_false g4 (wp_skip ?_)
  show Code.wp _ _ _ _ _
  refine wp_seq (wp_seq (reg_mono (zl_r6 (by kernel_rfl) _ F4 rfl rfl ?_)))
  intro a6 F6 g6
  refine wp_cond_false g6 (wp_skip ?_)
  show Code.wp _ _ _ _ _
  have bd : Below w3.heap.size w3 w3.drew := (Below.refl _ _).drew
  have HR := tread (t3.below bd) hok 0 1000 (by omega)
  rw [erec, readF_all R hro hrl] at HR
  refine wp_seq (reg_mono (zl_r8 (R := fun ao cp u => u.ownsRow w3.heap.size 39 5 (.slice ao R.length cp) R.length (recCells R) ∧ Below w3.heap.size w3 u) (R2 := fun u => Below w3.heap.size w3 u) (by kernel_rfl) _ F6 rfl rfl (box_cell (x3.below bd).box 4 rfl) (HR.mono fun e u q => ?_) (fun ao cp u q => ?_) ?_))
  · obtain ⟨v', q1, q2, q3⟩ := q
    obtain ⟨ao, cp, rfl⟩ := row_slice q2
    have q4 : Below w3.heap.size w3 u := bd.trans q3
    exact ⟨ao, cp, q1, box_cell (x3.below q4).box 4 rfl, q2, q4⟩
  · exact (records_same R _ _ u (by omega) (recs_of_own q.1) (recs_of_q (x3.below q.2).row)).mono fun e u2 ⟨e1, nn, e2⟩ => ⟨e1, by rw [e2]; exact below_drewN q.2 nn⟩
  intro a8 w8 F8 b8
  try dsimp only at F8
  have t8 := t3.below b8
  have x8 := x3.below b8
  have hL : ∀ W, Below w8.heap.size w8 W → _ := fun W b => (tlow (t8.below b)).mono fun e u q => (⟨q.1, by rw [q.2]; exact Below.refl _ _⟩ : _ ∧ Below W.heap.size W u)
  have hE : ∀ W, Below w8.heap.size w8 W → _ := fun W b => (tend (t8.below b)).mono fun e u q => (⟨q.1, by rw [q.2]; exact Below.refl _ _⟩ : _ ∧ Below W.heap.size W u)
  have hU : ∀ W, Below w8.heap.size w8 W → _ := fun W b => tdump (t8.below b) hok hpo
  rw [elo] at hL
  rw [efi] at hE
  rw [hdump] at hU
  refine wp_seq (reg_mono (zl_r9 (by kernel_rfl) _ F8 rfl rfl rfl rfl rfl x8.box hL hE hU ?_))
  intro a9 w9 F9 b9
  try dsimp only at F9
  refine wp_ret ?_
  exact zl_ret F9 rfl ⟨rfl, B3.trans ((b8.trans (b9.mono b8.size)).mono B3.size)⟩
end Go.Proofs.YtfoomgdlbkjaeaaGreat.Y
namespace Go.Proofs.YtfoomgdlbkjaeaaGreat
open Go.ChangeShapes Go.WideShapes Go.ChangeAt Go.RowKit
set_option maxRecDepth 100000
open Go.ChangeMaps (open_string shut_string)
theorem topicLoads_lifted (os : Os) (started : os.Started) (H : Type) (enc : TypeId × Value → H) :
    ReturnsInHanded {} Tryz.checked os 4 .any (Rows.topicLoadsSpec.pre6 enc Tryz.prog Tryz.f4 Rows.topicLoadsRow.domain false) (Rows.topicLoadsSpec.post enc Tryz.prog Tryz.f4 false true false false) := by
  refine returnsInHanded_of_change_sized (C := Tryz.checked) own started (by kernel_rfl) Tryz.func4
    (ChangeSpec.witness6 (enc := enc) (C := Tryz.checked) false ⟨#[], #[.string .empty], []⟩ 8 (by kernel_rfl) (by kernel_rfl) (by kernel_rfl) (by kernel_rfl)) ?_
  intro W base args ds gs before hval0 hW hcnd hsz0 _
  have hval : ∀ (j : Nat) t v, Tryz.f4.params[j]? = some t → args[j]? = some v → Value.okWide Tryz.prog W .any base t v := hval0
  have hsz : (DataW.weightsEach Tryz.prog (Tryz.f4.params.toList ++ Rows.topicLoadsSpec.plain.varTypes Tryz.prog) (ds ++ gs)).all (· ≤ reachBytes) = true := hsz0
  have hW' := hW
  obtain ⟨p, q, hA0, hV, rfl, hfz, hnd⟩ := hW
  have hA : DataW.TrodAll enc Tryz.prog W 0 (fun _ => true) true Tryz.f4.params.toList args.toList ds p := hA0
  rw [Tryz.params4] at hA hval hsz
  obtain ⟨v0, vs0, d0, ds0, p0, q0, hargs, rfl, rfl, h0, r0⟩ := trodAll_cons hA
  obtain ⟨rfl, rfl, rfl⟩ := trodAll_nil r0
  obtain rfl : args = #[v0] := by cases args; simp_all
  obtain ⟨rfl, rfl⟩ := trodVars_none hV
  obtain ⟨a0, rfl, rfl, rfl, w0⟩ := open_string Tryz.underlying9 (hval 0 9 v0 rfl rfl) h0
  have l0 : a0.size ≤ 140737488351232 := by
    have h := sized_string hsz (j := 0) rfl rfl
    rw [show a0.data.toList.length = a0.size by simp] at h
    simp only [reachBytes] at h
    omega
  clear hA0 hval0
  refine (Y.loads_walk a0 (by omega) W).mono fun e W' ⟨he, bel⟩ => ?_
  subst he
  exact ⟨_, rfl, _, _, _, [], _, [], hW', trodAll_mk1 (shut_bool Tryz.underlying4 _), (trodAll_cons_mk (shut_string Tryz.underlying9 w0) trodAll_mk0), rfl, bel.frame _, fun h => by cases h⟩
theorem topicLoads_holds : Rows.TopicLoadsSaid :=
  OpenClaim.holds_of_wide 4 Tryz.f4 rfl rfl rfl rfl rfl rfl rfl ⟨rfl, rfl, rfl, rfl, rfl⟩ rfl rfl rfl rfl rfl (by kernel_rfl) Tryz.func4 (by kernel_rfl)
    (of_decide_eq_true (by kernel_rfl)) (by unfold Func.isWrapper; first | (rw [if_pos (by decide +kernel)]; kernel_rfl) | (rw [if_neg (by decide +kernel)]; exact ⟨rfl, rfl⟩))
    (fun os started H enc _ => topicLoads_lifted os started H enc)
#print axioms topicLoads_holds
end Go.Proofs.YtfoomgdlbkjaeaaGreat
