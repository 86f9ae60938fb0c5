/-
  carillonref15's repeat, as it runs.
-/
import Derived.Test.YtfoomgdlbkjaeaaGreatZUV
import Derived.Test.YtfoomgdlbkjaeaaGreatZUY
namespace Go.Proofs.YtfoomgdlbkjaeaaGreat.Y
open Go.RowKit
set_option maxHeartbeats 1000000
set_option linter.unusedSimpArgs false
set_option linter.unusedVariables false
open Go.Maps
structure Dump (s : ByteArray) (nm : ByteArray) (lo fi : Int) (P : List PU) (R : List Rec) : Prop where
  few : P.length ≤ 332
  fine : Fine (loadItems nm lo fi (P.length : Int) P R)
  text : s.data.toList = (loadItems nm lo fi (P.length : Int) P R).flatMap K.itemB
theorem word_dec2 {nm : ByteArray} {lo fi ct : Int} {P : List PU} {R : List Rec} (hn : nm.size ≤ 100000) : K.decF [119] (((loadItems nm lo fi ct P R).flatMap K.itemB).take 4) = ([⟨2, (nm.size : Int), ⟨#[]⟩⟩], 0) := by
  have hf : Fine [⟨2, (nm.size : Int), ⟨#[]⟩⟩] := ⟨by show 1 ≤ 1000; omega, fun x hx => by
    rw [List.mem_singleton] at hx
    subst hx
    exact ⟨fWord (by omega) (by omega), by show (0 : Int) ≤ nm.size; omega⟩⟩
  have e : ((loadItems nm lo fi ct P R).flatMap K.itemB).take 4 = [(⟨2, (nm.size : Int), ⟨#[]⟩⟩ : K.It)].flatMap K.itemB := by
    unfold loadItems itemsHd
    have e1 : K.itemB ⟨4, 0, nm⟩ = Lib.beBytes 4 nm.size ++ nm.data.toList := rfl
    have e2 : K.itemB ⟨2, (nm.size : Int), ⟨#[]⟩⟩ = Lib.beBytes 4 nm.size ++ [] := by
      unfold K.itemB K.numOf
      show Lib.beBytes (K.widthN 2) (if (2 : Int) = 4 then 0 else ((nm.size : Int)).toNat) ++ _ = _
      rw [if_neg (by decide), Int.toNat_natCast]
      rfl
    simp only [List.cons_append, List.flatMap_cons, List.flatMap_nil]
    rw [e1, e2, List.append_assoc, List.append_assoc, List.take_append_of_le_length (by rw [Lib.beBytes_length]; omega), List.take_of_length_le (by rw [Lib.beBytes_length]; omega)]
    simp
  rw [e]
  exact fine_dec hf
theorem text_small {l : List K.It} (h : Fine l) {x : K.It} (hx : x ∈ l) : x.s.size ≤ 100000 := by
  have h1 := (h.all x hx).1
  unfold K.faultF at h1
  by_cases g : 100000 < x.s.size
  · rw [if_pos g] at h1
    split at h1
    · exact absurd h1 (by decide)
    · split at h1
      · exact absurd h1 (by decide)
      · split at h1
        · exact absurd h1 (by decide)
        · exact absurd h1 (by decide)
  · omega
section
variable {s nm : ByteArray} {lo fi : Int} {P : List PU} {R : List Rec}
theorem Dump.recs (h : Dump s nm lo fi P R) : R.length ≤ 1000 := by
  have := h.fine.len
  rw [li_len] at this
  omega
theorem Dump.name (h : Dump s nm lo fi P R) : nm.size ≤ 100000 := text_small h.fine (x := ⟨4, 0, nm⟩) (by unfold loadItems itemsHd; simp)
theorem Dump.names (h : Dump s nm lo fi P R) : ∀ p ∈ P, p.name.size ≤ 100000 := fun p hp => text_small h.fine (x := ⟨4, 0, p.name⟩) (by
  unfold loadItems
  refine List.mem_append_left _ (List.mem_append_right _ (List.mem_flatMap.2 ⟨p, hp, ?_⟩))
  unfold itemsPr; simp)
theorem Dump.texts (h : Dump s nm lo fi P R) : ∀ r ∈ R, r.prod.size ≤ 100000 ∧ r.key.size ≤ 100000 ∧ r.val.size ≤ 100000 := fun r hr => by
  have hm : ∀ x ∈ itemsY r, x ∈ loadItems nm lo fi (P.length : Int) P R := fun x hx => List.mem_append_right _ (List.mem_flatMap.2 ⟨r, hr, hx⟩)
  exact ⟨text_small h.fine (x := ⟨4, 0, r.prod⟩) (hm _ (by unfold itemsY; simp)), text_small h.fine (x := ⟨4, 0, r.key⟩) (hm _ (by unfold itemsY; simp)), text_small h.fine (x := ⟨4, 0, r.val⟩) (hm _ (by unfold itemsY; simp))⟩
def headT (s nm : ByteArray) : ByteArray := s.extract 0 (min (4 + (nm.size : Int) + 24) (s.size : Int)).toNat
theorem headT_list : (headT s nm).data.toList = s.data.toList.take (4 + nm.size + 24) := take_min s (4 + nm.size + 24)
theorem Dump.head (h : Dump s nm lo fi P R) : K.decF [116, 108, 108, 108] (headT s nm).data.toList = (itemsHd nm lo fi (P.length : Int), 0) := by
  rw [headT_list, h.text]
  exact head_dec h.fine
theorem Dump.all (h : Dump s nm lo fi P R) : K.decF (shapeT P.length) s.data.toList = (loadItems nm lo fi (P.length : Int) P R, 0) := by
  rw [h.text]
  exact load_dec h.fine
theorem Dump.headOf (h : Dump s nm lo fi P R) (hs : s.size ≤ 9223372036854775807) (w : World) : Calls Tryz.prog 75 #[.string s] w fun e w' => e = .returned (.string (headT s nm)) ∧ Below w.heap.size w w' := by
  have hn := h.name
  have hw : headW s = ([⟨2, (nm.size : Int), ⟨#[]⟩⟩], 0) := by
    unfold headW
    rw [h.text]
    exact word_dec2 hn
  exact theadof_one s hs hw (show (0 : Int) ≤ nm.size by omega) (show (nm.size : Int) ≤ 4294967296 by omega) w
theorem headT_size : (headT s nm).size ≤ s.size := by
  unfold headT
  rw [ByteArray.size_extract]
  omega
theorem tload_dump (h : Dump s nm lo fi P R) (hs : s.size ≤ 9223372036854775807) (w : World) :
    Calls Tryz.prog 20 #[.string s] w fun e w' => Below w.heap.size w w' ∧ ((loadB nm lo fi P R = false ∧ e = .returned (.tuple #[.pointer none, .int .i64 10])) ∨ (loadB nm lo fi P R = true ∧ ∃ L : LOC, e = .returned (.tuple #[.pointer (some ⟨L.b, 0, none⟩), .int .i64 0]) ∧ TAt w' L (loadG nm lo fi P R) ∧ ∀ j, L.own j → w.heap.size ≤ j)) :=
  tload s (headT s nm) hs (Nat.le_trans headT_size hs) (h.headOf hs) nm lo fi P R h.few (by have := h.recs; omega) h.head h.all (by have := h.name; omega) (fun p hp => by have := h.names p hp; omega) (fun r hr => by have := h.texts r hr; omega) w
end
theorem dump_of (s T : ByteArray) (many : Nat) (hm : many ≤ 332) (nm : ByteArray) (lo fi : Int) (n : Nat) (hT : T.data.toList = s.data.toList.take (4 + n + 24)) (hw : headW s = ([⟨2, (n : Int), ⟨#[]⟩⟩], 0)) (hd : K.decF [116, 108, 108, 108] T.data.toList = (itemsHd nm lo fi (many : Int), 0)) (hd2 : (K.decF (shapeT many) s.data.toList).2 = 0) : ∃ P R, Dump s nm lo fi P R := by
  obtain ⟨nm', lo', fi', ct', P, R, hp, h1, h2, h3⟩ := load_form many _ hd2
  have hn' : nm'.size ≤ 100000 := text_small h2 (x := ⟨4, 0, nm'⟩) (by unfold loadItems itemsHd; simp)
  have hw' : headW s = ([⟨2, (nm'.size : Int), ⟨#[]⟩⟩], 0) := by
    unfold headW
    rw [h3]
    exact word_dec2 hn'
  have en : n = nm'.size := by
    rw [hw] at hw'
    have e1 := congrArg (fun r : List K.It × Int => r.1.map fun x => x.n) hw'
    simp only [List.map_cons, List.map_nil, List.cons.injEq, and_true] at e1
    omega
  rw [hT, en, h3, head_dec h2] at hd
  have e1 := congrArg Prod.fst hd
  unfold itemsHd at e1
  simp only [List.cons.injEq, K.It.mk.injEq, true_and, and_true] at e1
  obtain ⟨e2, e3, e4, e5⟩ := e1
  subst e2 e3 e4
  subst hp
  rw [e5] at h2 h3
  exact ⟨P, R, hm, h2, h3⟩
theorem word_form (s : List UInt8) (h : (K.decF [119] s).2 = 0) : ∃ n : Nat, K.decF [119] s = ([⟨2, (n : Int), ⟨#[]⟩⟩], 0) ∧ n < 4294967296 := by
  obtain ⟨k, hk⟩ := decF_form _ _ h
  obtain ⟨hF, _, _⟩ := decF_fine _ _ h
  rw [K.cutStar_letters _ (by decide)] at hk
  have hn : ∀ k, Lib.repeatL ([] : List UInt8) k = [] := fun k => by induction k with | zero => rfl | succ k ih => exact ih
  rw [hn k, List.append_nil] at hk
  generalize hR : K.decF [119] s = R at *
  obtain ⟨l, e⟩ := R
  simp only at h hk hF
  subst h
  obtain ⟨a, _, rfl, h1, hk⟩ := List.map_eq_cons_iff.1 hk
  rw [List.map_eq_nil_iff] at hk
  subst hk
  obtain ⟨f1, f2⟩ := hF.all a (by simp)
  obtain ⟨e1, e2⟩ := item_w f1 f2 h1
  refine ⟨a.n.toNat, ?_, by omega⟩
  rw [Int.toNat_of_nonneg f2, ← e1]
theorem tload_no (s : ByteArray) (hs : s.size ≤ 9223372036854775807) (hno : ∀ nm lo fi P R, ¬ Dump s nm lo fi P R) (w : World) :
    Calls Tryz.prog 20 #[.string s] w fun e w' => Below w.heap.size w w' ∧ e = .returned (.tuple #[.pointer none, .int .i64 10]) := by
  by_cases h0 : (headW s).2 = 0
  · obtain ⟨n, hw, hn⟩ := word_form _ h0
    have hH := theadof_one s hs hw (show (0 : Int) ≤ (n : Int) by omega) (show (n : Int) ≤ 4294967296 by omega) w
    have hT := take_min s (4 + n + 24)
    rw [show (((4 + n + 24 : Nat)) : Int) = 4 + (n : Int) + 24 by omega] at hT
    have hz : (s.extract 0 (min (4 + (n : Int) + 24) (s.size : Int)).toNat).size ≤ 9223372036854775807 := by
      rw [ByteArray.size_extract]
      omega
    dsimp only at hH
    generalize s.extract 0 (min (4 + (n : Int) + 24) (s.size : Int)).toNat = T at hH hT hz
    by_cases h1 : (K.decF [116, 108, 108, 108] T.data.toList).2 = 0
    · obtain ⟨nm, lo, fi, ct, hd, hf, _⟩ := head_form _ h1
      have hct : 0 ≤ ct := (hf.all ⟨3, ct, ⟨#[]⟩⟩ (by unfold itemsHd; simp)).2
      obtain ⟨many, rfl⟩ := Int.eq_ofNat_of_zero_le hct
      by_cases h2 : many ≤ 332
      · by_cases h3 : (K.decF (shapeT many) s.data.toList).2 = 0
        · obtain ⟨P, R, hD⟩ := dump_of s T many h2 nm lo fi n hT hw hd h3
          exact absurd hD (hno _ _ _ _ _)
        · exact tload_bad s w (titems_bad3 s T hs hz w hH _ _ _ _ hd many rfl h2 h3)
      · exact tload_bad s w (titems_bad2 s T hs hz w hH _ _ _ _ hd (by show (many : Int) > 332; omega))
    · exact tload_bad s w (titems_bad1 s T hs hz w hH h1)
  · exact tload_bad s w (titems_bad1 s ⟨#[]⟩ hs (by decide) w (theadof_bad s hs h0 w) (by decide))
end Go.Proofs.YtfoomgdlbkjaeaaGreat.Y
namespace Go.Proofs.YtfoomgdlbkjaeaaGreat.Y
open Go.RowKit
set_option linter.unusedSimpArgs false
set_option linter.unusedVariables false
open Go.Maps
def topN : Int := 9007199254740991
def ofP (fi : Int) : Option ByteArray → List PU → Bool
  | _, [] => true
  | q, p :: l => wordB p.name && !decide (p.seq > topN) && !decide (p.off ≥ fi) && riseB q p.name && ofP fi (some p.name) l
def offB (q : Option Int) (o : Int) : Bool := match q with | none => true | some x => !decide (o ≤ x)
def ofY (lo fi : Int) : Option Int → List Rec → Bool
  | _, [] => true
  | q, r :: l => !decide (r.off > topN) && !decide (r.seq > topN) && decide (RightP r) && !decide (r.off < lo) && !decide (r.off ≥ fi) && offB q r.off && ofY lo fi (some r.off) l
def ofB (nm : ByteArray) (lo fi : Int) (P : List PU) (R : List Rec) : Bool := wordB nm && !decide (lo > fi) && !decide (fi > topN) && ofP fi none P && ofY lo fi none R
theorem ofP_cons (fi : Int) (q : Option ByteArray) (p : PU) (l : List PU) : ofP fi q (p :: l) = (wordB p.name && !decide (p.seq > topN) && !decide (p.off ≥ fi) && riseB q p.name && ofP fi (some p.name) l) := rfl
theorem ofY_cons (lo fi : Int) (q : Option Int) (r : Rec) (l : List Rec) : ofY lo fi q (r :: l) = (!decide (r.off > topN) && !decide (r.seq > topN) && decide (RightP r) && !decide (r.off < lo) && !decide (r.off ≥ fi) && offB q r.off && ofY lo fi (some r.off) l) := rfl
def U64 (x : Int) : Prop := 0 ≤ x ∧ x < 18446744073709551616
theorem wrap_same {x : Int} (h : U64 x) (hx : x ≤ topN) : IntKind.i64.wrap x = x := by
  obtain ⟨h1, h2⟩ := h
  unfold topN at hx
  rw [IntKind.wrap_i64]
  omega
theorem wrap_big {x : Int} (h : U64 x) (hx : x > topN) : IntKind.i64.wrap x < 0 ∨ IntKind.i64.wrap x > topN := by
  obtain ⟨h1, h2⟩ := h
  unfold topN at *
  rw [IntKind.wrap_i64]
  omega
theorem mark_of {lo fi : Int} (h1 : U64 lo) (h2 : U64 fi) : markB (IntKind.i64.wrap lo) (IntKind.i64.wrap fi) = (!decide (lo > fi) && !decide (fi > topN)) := by
  obtain ⟨a1, a2⟩ := h1
  obtain ⟨b1, b2⟩ := h2
  unfold markB topN
  rw [IntKind.wrap_i64, IntKind.wrap_i64, Bool.eq_iff_iff]
  simp only [decide_eq_true_eq, Bool.and_eq_true, Bool.not_eq_true', decide_eq_false_iff_not]
  omega
theorem prod_of {fi : Int} (h0 : 0 ≤ fi) (h1 : fi ≤ topN) {p : PU} (hs : U64 p.seq) (ho : U64 p.off) : prodB fi (prW p) = (wordB p.name && !decide (p.seq > topN) && !decide (p.off ≥ fi)) := by
  obtain ⟨nm, sq, of⟩ := p
  obtain ⟨a1, a2⟩ := hs
  obtain ⟨b1, b2⟩ := ho
  unfold prodB prW
  unfold topN at *
  simp only at *
  rw [IntKind.wrap_i64, IntKind.wrap_i64, Bool.eq_iff_iff]
  simp only [decide_eq_true_eq, Bool.and_eq_true, Bool.not_eq_true', decide_eq_false_iff_not, and_assoc, and_congr_right_iff]
  intro _
  omega
theorem know_of {fi : Int} (h0 : 0 ≤ fi) (h1 : fi ≤ topN) : ∀ (q : Option ByteArray) (l : List PU), (∀ p ∈ l, U64 p.seq ∧ U64 p.off) → knowF fi q (l.map prW) = ofP fi q l
  | q, [], _ => rfl
  | q, p :: l, h => by
    obtain ⟨g1, g2⟩ := h p (by simp)
    rw [List.map_cons, knowF_cons, ofP_cons, prod_of h0 h1 g1 g2, know_of h0 h1 (some (prW p).name) l fun x hx => h x (by simp [hx])]
    rfl
theorem have_of {lo fi : Int} (h0 : 0 ≤ lo) (h1 : fi ≤ topN) : ∀ (q : Option Int) (fr : Int) (l : List Rec), (∀ r ∈ l, U64 r.seq ∧ U64 r.off) → (q = none ∧ fr = lo ∨ ∃ x, q = some x ∧ fr = x + 1 ∧ lo ≤ x) → haveF fi fr (l.map recW) = ofY lo fi q l
  | q, fr, [], _, _ => rfl
  | q, fr, r :: l, h, hq => by
    obtain ⟨g1, g2⟩ := h r (by simp)
    rw [List.map_cons, haveF_cons, ofY_cons]
    by_cases hr : r.off ≤ topN
    · by_cases hsq : r.seq ≤ topN
      · have e1 : recW r = r := by
          unfold recW
          rw [wrap_same g2 hr, wrap_same g1 hsq]
        have eg : (decide (fr ≤ r.off)) = (!decide (r.off < lo) && offB q r.off) := by
          rcases hq with ⟨rfl, rfl⟩ | ⟨x, rfl, rfl, hx⟩
          · rw [show offB none r.off = true from rfl, Bool.and_true, Bool.eq_iff_iff]
            simp only [decide_eq_true_eq, Bool.and_eq_true, Bool.not_eq_true', decide_eq_false_iff_not]
            omega
          · rw [show offB (some x) r.off = !decide (r.off ≤ x) from rfl, Bool.eq_iff_iff]
            simp only [decide_eq_true_eq, Bool.and_eq_true, Bool.not_eq_true', decide_eq_false_iff_not]
            omega
        have ef : (decide (r.off < fi)) = !decide (r.off ≥ fi) := by
          rw [Bool.eq_iff_iff]
          simp only [decide_eq_true_eq, Bool.not_eq_true', decide_eq_false_iff_not]
          omega
        rw [e1, eg, ef, decide_eq_false (show ¬ r.off > topN by omega), decide_eq_false (show ¬ r.seq > topN by omega)]
        by_cases hlo : lo ≤ r.off
        · rw [have_of h0 h1 (some r.off) (r.off + 1) l (fun x hx => h x (by simp [hx])) (.inr ⟨_, rfl, rfl, hlo⟩)]
          cases decide (RightP r) <;> cases decide (r.off < lo) <;> cases decide (r.off ≥ fi) <;> cases offB q r.off <;> rfl
        · rw [decide_eq_true (show r.off < lo by omega)]
          simp
      · have hn : ¬ RightP (recW r) := fun e => by
          have e1 := e.2.2.1
          have e2 := e.2.2.2.1
          have := wrap_big g1 (by omega)
          simp only [recW] at e1 e2
          unfold topN at this
          omega
        rw [decide_eq_false hn, decide_eq_true (show r.seq > topN by omega)]
        simp
    · have hn : ¬ RightP (recW r) := fun e => by
        have e1 := e.1
        have e2 := e.2.1
        have := wrap_big g2 (by omega)
        simp only [recW] at e1 e2
        unfold topN at this
        omega
      rw [decide_eq_false hn, decide_eq_true (show r.off > topN by omega)]
      simp
theorem loadB_of {nm : ByteArray} {lo fi : Int} {P : List PU} {R : List Rec} (h1 : U64 lo) (h2 : U64 fi) (hP : ∀ p ∈ P, U64 p.seq ∧ U64 p.off) (hR : ∀ r ∈ R, U64 r.seq ∧ U64 r.off) : loadB nm lo fi P R = ofB nm lo fi P R := by
  unfold loadB ofB
  rw [mark_of h1 h2]
  by_cases hf : fi ≤ topN
  · by_cases hl : lo ≤ fi
    · rw [wrap_same h2 hf, wrap_same h1 (by omega), know_of h2.1 hf none P hP, have_of h1.1 hf none lo R hR (.inl ⟨rfl, rfl⟩)]
      cases wordB nm <;> simp
    · rw [decide_eq_true (show lo > fi by omega)]
      simp
  · rw [decide_eq_true (show fi > topN by omega)]
    simp
section
variable {s nm : ByteArray} {lo fi : Int} {P : List PU} {R : List Rec}
theorem item_u64 {l : List K.It} (h : Fine l) {n : Int} (hx : (⟨3, n, ⟨#[]⟩⟩ : K.It) ∈ l) : U64 n := by
  obtain ⟨h1, h2⟩ := h.all _ hx
  refine ⟨h2, ?_⟩
  unfold K.faultF at h1
  simp only at h1
  rw [if_neg (show ¬ K.kindB (3 : Int) = false from by decide)] at h1
  by_cases hn : n < 256 ^ K.widthN 3
  · have e : ((256 : Int) ^ K.widthN 3) = 18446744073709551616 := by decide
    rw [e] at hn
    exact hn
  · rw [if_pos ⟨show (3 : Int) ≠ 4 from by decide, .inr hn⟩] at h1
    exact absurd h1 (by decide)
theorem Dump.low64 (h : Dump s nm lo fi P R) : U64 lo := item_u64 h.fine (by unfold loadItems itemsHd; simp)
theorem Dump.fin64 (h : Dump s nm lo fi P R) : U64 fi := item_u64 h.fine (by unfold loadItems itemsHd; simp)
theorem Dump.prods64 (h : Dump s nm lo fi P R) : ∀ p ∈ P, U64 p.seq ∧ U64 p.off := fun p hp => by
  have hm : ∀ x ∈ itemsPr p, x ∈ loadItems nm lo fi (P.length : Int) P R := fun x hx => List.mem_append_left _ (List.mem_append_right _ (List.mem_flatMap.2 ⟨p, hp, hx⟩))
  exact ⟨item_u64 h.fine (hm _ (by unfold itemsPr; simp)), item_u64 h.fine (hm _ (by unfold itemsPr; simp))⟩
theorem Dump.recs64 (h : Dump s nm lo fi P R) : ∀ r ∈ R, U64 r.seq ∧ U64 r.off := fun r hr => by
  have hm : ∀ x ∈ itemsY r, x ∈ loadItems nm lo fi (P.length : Int) P R := fun x hx => List.mem_append_right _ (List.mem_flatMap.2 ⟨r, hr, hx⟩)
  exact ⟨item_u64 h.fine (hm _ (by unfold itemsY; simp)), item_u64 h.fine (hm _ (by unfold itemsY; simp))⟩
theorem Dump.loadB (h : Dump s nm lo fi P R) : Go.Proofs.YtfoomgdlbkjaeaaGreat.Y.loadB nm lo fi P R = ofB nm lo fi P R := loadB_of h.low64 h.fin64 h.prods64 h.recs64
theorem ofY_same : ∀ (lo fi : Int) (q : Option Int) (l : List Rec), (∀ r ∈ l, U64 r.seq ∧ U64 r.off) → ofY lo fi q l = true → l.map recW = l
  | _, _, _, [], _, _ => rfl
  | lo, fi, q, r :: l, h, hb => by
    obtain ⟨g1, g2⟩ := h r (by simp)
    rw [ofY_cons] at hb
    simp only [Bool.and_eq_true, Bool.not_eq_true', decide_eq_false_iff_not, decide_eq_true_eq] at hb
    obtain ⟨⟨⟨⟨⟨⟨b1, b2⟩, _⟩, _⟩, _⟩, _⟩, b7⟩ := hb
    have e1 : recW r = r := by
      unfold recW
      rw [wrap_same g2 (by omega), wrap_same g1 (by omega)]
    rw [List.map_cons, e1, ofY_same lo fi _ l (fun x hx => h x (by simp [hx])) b7]
theorem ofP_same : ∀ (fi : Int) (q : Option ByteArray) (l : List PU), fi ≤ topN → (∀ p ∈ l, U64 p.seq ∧ U64 p.off) → ofP fi q l = true → l.map prW = l
  | _, _, [], _, _, _ => rfl
  | fi, q, p :: l, hf, h, hb => by
    obtain ⟨g1, g2⟩ := h p (by simp)
    rw [ofP_cons] at hb
    simp only [Bool.and_eq_true, Bool.not_eq_true', decide_eq_false_iff_not, decide_eq_true_eq] at hb
    obtain ⟨⟨⟨⟨_, b1⟩, b2⟩, _⟩, b5⟩ := hb
    have e1 : prW p = p := by
      unfold prW
      rw [wrap_same g1 (by omega), wrap_same g2 (by omega)]
    rw [List.map_cons, e1, ofP_same fi _ l hf (fun x hx => h x (by simp [hx])) b5]
end
end Go.Proofs.YtfoomgdlbkjaeaaGreat.Y
namespace Go.Proofs.YtfoomgdlbkjaeaaGreat.Y
open Go.RowKit
set_option maxHeartbeats 1000000
attribute [local go_sem ↓] Go.wp_at_zero Go.wp_at_succ
set_option linter.unusedSimpArgs false
set_option linter.unusedVariables false
open Go.Maps
theorem repeatL_snoc (l : List UInt8) : ∀ k, Lib.repeatL l k ++ l = Lib.repeatL l (k + 1)
  | 0 => by
    show ([] : List UInt8) ++ l = l ++ []
    simp
  | k + 1 => by
    show (l ++ Lib.repeatL l k) ++ l = l ++ Lib.repeatL l (k + 1)
    rw [List.append_assoc, repeatL_snoc l k]
theorem xrepeat (s : ByteArray) (n : Nat) (hs : s.size ≤ 3) (hn : n ≤ 1000) (w : World) :
    Calls Tryz.prog 52 #[.string s, .int .i64 n] w fun e w' => e = .returned (.string ⟨(Lib.repeatL s.data.toList n).toArray⟩) ∧ w' = w := by
  go_enter Tryz.func52, Tryz.ntmps52
  go_wp2
  go_loopw [5, 6] (fun sv iv wv => ∃ (k : Nat) (S : ByteArray), k ≤ n ∧ iv = .int .i64 k ∧ sv = .string S ∧ wv = w ∧ S.size ≤ 3 * k ∧ Hid (S.data.toList = Lib.repeatL s.data.toList k)) (fun _ iv _ => n - (intOf iv).toNat)
  case atStart => exact ⟨0, ⟨#[]⟩, Nat.zero_le _, rfl, rfl, rfl, Nat.le_refl _, rfl⟩
  case round =>
    obtain ⟨k, S, hk, rfl, rfl, rfl, hS, HS⟩ := hrel
    by_cases hlt : (k : Int) < (n : Int)
    · have HN : Hid ((S ++ s).data.toList = Lib.repeatL s.data.toList (k + 1)) := by
        show (S ++ s).data.toList = _
        rw [ByteArray.data_append, Array.toList_append, HS.out, repeatL_snoc]
      have hz : (S ++ s).size ≤ 3 * (k + 1) := by rw [ByteArray.size_append]; omega
      go_wp2
      exact ⟨⟨k + 1, S ++ s, by omega, by go_num, rfl, trivial, hz, HN⟩, by simp [intOf]; omega⟩
    · have e : k = n := by omega
      have HR : Hid (S = ⟨(Lib.repeatL s.data.toList n).toArray⟩) := by
        show S = _
        rw [← e, ← HS.out]
      go_wp2
      go_ret
      exact ⟨by rw [HR.out]; rfl, rfl⟩
end Go.Proofs.YtfoomgdlbkjaeaaGreat.Y
