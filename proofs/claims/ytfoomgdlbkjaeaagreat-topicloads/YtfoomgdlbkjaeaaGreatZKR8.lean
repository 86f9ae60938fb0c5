/-
  The document's own Decode, as it runs.
-/
import Derived.Test.YtfoomgdlbkjaeaaGreatZKR6
import Derived.Test.YtfoomgdlbkjaeaaGreatZUY
namespace Go.Proofs.YtfoomgdlbkjaeaaGreat.K
open Go.RowKit
set_option maxHeartbeats 1000000
set_option maxRecDepth 100000
def intCells (l : List UInt8) : List Value := l.map fun c => .int .i64 (kindOfL c)
theorem intCells_snoc (l : List UInt8) (c : UInt8) : intCells (l ++ [c]) = intCells l ++ [.int .i64 (kindOfL c)] := by simp [intCells]
theorem letter_ne (c : UInt8) (h : isLetter c = true) : c ≠ 42 := by
  rintro rfl
  revert h
  decide
theorem allL_ne {l : List UInt8} (h : allL l = true) : ∀ x ∈ l, x ≠ 42 := by
  intro x hx
  unfold allL at h
  rw [List.all_eq_true] at h
  exact letter_ne x (h x hx)
theorem allL_snoc (l : List UInt8) (c : UInt8) : allL (l ++ [c]) = (allL l && isLetter c) := by simp [allL]
theorem allL_bad (l t : List UInt8) (c : UInt8) (h : isLetter c = false) : allL (l ++ c :: t) = false := by simp [allL, h]
structure KS (p : List UInt8) (st : Bool) (A B : List UInt8) : Prop where
  letA : allL A = true
  letB : allL B = true
  noStar : st = false → p = A ∧ B = []
  star : st = true → p = A ++ 42 :: B
theorem KS.init : KS [] false [] [] := ⟨rfl, rfl, fun _ => ⟨rfl, rfl⟩, fun h => by cases h⟩
theorem KS.cut {p : List UInt8} {st : Bool} {A B : List UInt8} (h : KS p st A B) : cutStar p = (A, B, st) := by
  cases st with
  | false =>
    obtain ⟨h1, h2⟩ := h.noStar rfl
    rw [h1, h2]
    exact cutStar_letters A (allL_ne h.letA)
  | true =>
    rw [h.star rfl]
    exact cutStar_hit A B (allL_ne h.letA)
theorem KS.ok {p : List UInt8} {st : Bool} {A B : List UInt8} (h : KS p st A B) : shapeOk p = (!st || decide (0 < B.length)) := by
  unfold shapeOk
  rw [h.cut]
  simp only [h.letA, h.letB, Bool.and_true]
  cases st with
  | false => simp
  | true => cases B <;> simp
theorem KS.meets {p : List UInt8} {A B : List UInt8} (h : KS p false A B) : KS (p ++ [42]) true A B := by
  obtain ⟨h1, h2⟩ := h.noStar rfl
  refine ⟨h.letA, h.letB, fun e => (by cases e), fun _ => ?_⟩
  rw [h1, h2]
theorem KS.goesA {p : List UInt8} {A B : List UInt8} {c : UInt8} (h : KS p false A B) (hc : isLetter c = true) : KS (p ++ [c]) false (A ++ [c]) B := by
  obtain ⟨h1, h2⟩ := h.noStar rfl
  refine ⟨by rw [allL_snoc, h.letA, hc]; rfl, h.letB, fun _ => ⟨by rw [h1], h2⟩, fun e => (by cases e)⟩
theorem KS.goesB {p : List UInt8} {A B : List UInt8} {c : UInt8} (h : KS p true A B) (hc : isLetter c = true) : KS (p ++ [c]) true A (B ++ [c]) := by
  refine ⟨h.letA, by rw [allL_snoc, h.letB, hc]; rfl, fun e => (by cases e), fun _ => ?_⟩
  rw [h.star rfl]
  simp
theorem KS.bad {p : List UInt8} {st : Bool} {A B : List UInt8} {c : UInt8} (h : KS p st A B) (hc : isLetter c = false) (h2 : c ≠ 42 ∨ st = true) (t : List UInt8) : shapeOk (p ++ c :: t) = false := by
  unfold shapeOk
  cases st with
  | true =>
    rw [h.star rfl, List.append_assoc, List.cons_append, cutStar_hit A _ (allL_ne h.letA)]
    simp [allL_bad B t c hc]
  | false =>
    have hc2 : c ≠ 42 := by rcases h2 with h2 | h2
                            · exact h2
                            · cases h2
    rw [(h.noStar rfl).1]
    by_cases hs : ∀ x ∈ t, x ≠ 42
    · rw [cutStar_letters]
      · simp [allL_bad A t c hc]
      · intro x hx
        rcases List.mem_append.1 hx with hx | hx
        · exact allL_ne h.letA x hx
        · rcases List.mem_cons.1 hx with rfl | hx
          · exact hc2
          · exact hs x hx
    · have hm : (42 : UInt8) ∈ t := by
        apply Classical.byContradiction
        intro hn
        exact hs fun x hx e => hn (e ▸ hx)
      obtain ⟨t1, t2, rfl, hn⟩ := List.eq_append_cons_of_mem hm
      have e : A ++ c :: (t1 ++ 42 :: t2) = (A ++ c :: t1) ++ 42 :: t2 := by simp
      rw [e, cutStar_hit]
      · simp [allL_bad A t1 c hc]
      · intro x hx
        rcases List.mem_append.1 hx with hx | hx
        · exact allL_ne h.letA x hx
        · rcases List.mem_cons.1 hx with rfl | hx
          · exact hc2
          · rintro rfl; exact hn hx
structure KW (w w' : World) (st : Bool) (va vb : Value) (A B : List UInt8) : Prop where
  below : Below w.heap.size w w'
  ownA : w'.ownsRow w.heap.size 3 1 va A.length (intCells A)
  nilB : st = false → vb = .slice none 0 0
  ownB : st = true → ∃ bb, w.heap.size ≤ bb ∧ bb ≤ w'.heap.size ∧ w'.ownsRow bb 3 1 vb B.length (intCells B) ∧ ∀ k, va.ownBlock = some k → k < bb
theorem nil_owned (w : World) (b : Nat) (e : TypeId) (z : Nat) : w.ownsRow b e z (.slice none 0 0) 0 [] := ⟨by simp, Or.inl ⟨rfl, rfl⟩⟩
theorem KW.init (w : World) : KW w w false (.slice none 0 0) (.slice none 0 0) [] [] :=
  ⟨Below.refl _ _, nil_owned _ _ _ _, fun _ => rfl, fun h => by cases h⟩
theorem KW.meets {w w' : World} {va vb : Value} {A : List UInt8} (h : KW w w' false va vb A []) : KW w w' true va vb A [] := by
  refine ⟨h.below, h.ownA, fun e => (by cases e), fun _ => ⟨w'.heap.size, h.below.size, Nat.le_refl _, ?_, fun k hk => (h.ownA.lt k hk).2⟩⟩
  rw [h.nilB rfl]
  exact nil_owned _ _ _ _
theorem KW.goesA {w w' w4 : World} {va vb v' : Value} {A B : List UInt8} {c : UInt8} {o : Obj} (h : KW w w' false va vb A B) (hg : (w'.alloc o).grownBy w4 va.ownBlock)
    (hown : w4.ownsRow w.heap.size 3 1 v' (A.length + 1) (intCells A ++ [.int .i64 (kindOfL c)])) : KW w w4 false v' vb (A ++ [c]) B := by
  have hs := h.below.size
  refine ⟨(h.below.alloc (by omega) o).grown hg (by simp; omega) (fun k hk => (h.ownA.lt k hk).1), ?_, h.nilB, fun e => (by cases e)⟩
  rw [List.length_append, List.length_singleton, intCells_snoc]
  exact hown
theorem KW.goesB {w w' w4 : World} {va vb v' : Value} {A B : List UInt8} {c : UInt8} {o : Obj} {bb : Nat} (h : KW w w' true va vb A B) (h1 : w.heap.size ≤ bb) (h2 : bb ≤ w'.heap.size) (h3 : w'.ownsRow bb 3 1 vb B.length (intCells B)) (h4 : ∀ k, va.ownBlock = some k → k < bb)
    (hg : (w'.alloc o).grownBy w4 vb.ownBlock) (hown : w4.ownsRow bb 3 1 v' (B.length + 1) (intCells B ++ [.int .i64 (kindOfL c)])) : KW w w4 true va v' A (B ++ [c]) := by
  have hs := h.below.size
  have hb := (h.below.alloc (by omega) o).grown hg (by simp; omega) (fun k hk => by have := (h3.lt k hk).1; omega)
  have hz := hg.size
  refine ⟨hb, (h.ownA.alloc o).kept hg ?_, fun e => (by cases e), fun _ => ⟨bb, h1, by simp at hz; omega, ?_, h4⟩⟩
  · cases e : va.ownBlock with
    | none => exact Or.inl rfl
    | some k =>
      refine Or.inr fun e2 => ?_
      have := h4 k e
      have := (h3.lt k e2.symm).1
      omega
  · rw [List.length_append, List.length_singleton, intCells_snoc]
    exact hown
theorem KW.both {w w' : World} {st : Bool} {va vb : Value} {A B p : List UInt8} (h : KW w w' st va vb A B) (hp : KS p st A B) : w'.ownsRow w.heap.size 3 1 vb B.length (intCells B) := by
  cases st with
  | false =>
    rw [h.nilB rfl, (hp.noStar rfl).2]
    exact nil_owned _ _ _ _
  | true =>
    obtain ⟨bb, h1, _, h3, _⟩ := h.ownB rfl
    exact own_base h3 h1
theorem cells_new1 (W : World) (a : Value) (t : TypeId) (n : Nat) (hn : n = W.heap.size) : ∀ (j : Nat) (u : Value), [a][j]? = some u → (W.alloc (.cells #[a] t)).cell? ((⟨n, 0, none⟩ : Addr).add j) = some u := by
  subst hn
  intro j u hj
  match j, hj with
  | 0, hj => simp at hj; subst hj; simp [Addr.add]
  | j + 1, hj => simp at hj
theorem Tryz.infoInt : Tryz.prog.info? 3 = some Tryz.t3 := by kernel_rfl
theorem Tryz.zeroInt : Tryz.t3.zero = some (.int .i64 0) := by kernel_rfl
theorem Tryz.sizeInt : Tryz.t3.size = 1 := by kernel_rfl
theorem Tryz.bytesInt : Tryz.t3.bytes = 8 := by kernel_rfl
theorem take_list (s : ByteArray) (k : Nat) (h : k < s.size) : s.data.toList = s.data.toList.take k ++ s[k] :: s.data.toList.drop (k + 1) := by
  have hl : k < s.data.toList.length := by simpa using h
  have : s[k] = s.data.toList[k] := rfl
  rw [this, List.getElem_cons_drop, List.take_append_drop]
theorem kinds_any (shape : ByteArray) (w : World) (hs : shape.size ≤ 1048576) :
    Calls Tryz.prog 80 #[.string shape] w fun e w' => ∃ va vb, e = .returned (.tuple #[va, vb, .bool (shapeOk shape.data.toList)]) ∧
      (shapeOk shape.data.toList = true → w'.ownsRow w.heap.size 3 1 va (cutStar shape.data.toList).1.length (intCells (cutStar shape.data.toList).1) ∧ w'.ownsRow w.heap.size 3 1 vb (cutStar shape.data.toList).2.1.length (intCells (cutStar shape.data.toList).2.1)) ∧ Below w.heap.size w w' := by
  have HS := hide hs
  go_enter Tryz.func80, Tryz.ntmps80
  go_wp2
  go_loopw [5, 6, 7, 8] (fun va vb st i wv => ∃ (q : Nat) (b : Bool) (A B : List UInt8), q ≤ shape.size ∧ i = .int .i64 q ∧ st = .bool b ∧ KS (shape.data.toList.take q) b A B ∧ KW w wv b va vb A B) (fun _ _ _ i _ => shape.size - (intOf i).toNat)
  case atStart => exact ⟨0, false, [], [], Nat.zero_le _, rfl, rfl, KS.init, KW.init w⟩
  case round =>
    obtain ⟨q, b, A, B, hq, rfl, rfl, hK, hW⟩ := hrel
    have HK := hide hK
    have HW := hide hW
    clear hK hW
    by_cases hlt : q < shape.size
    · have hts := take_snoc shape q hlt
      have HT := hide hts
      have HL := hide (take_list shape q hlt)
      clear hts
      have e42 : ((shape[q].toNat : Int) == 42) = decide (shape[q] = 42) := byte_eq shape[q] 42 (by decide)
      have HF : Hid (∀ w, Calls Tryz.prog 104 #[.int .u8 (shape[q].toNat : Int)] w fun e w' => e = .returned (.int .i64 (kindOfL shape[q])) ∧ w' = w) := fun w => by rw [← rkF_eq]; exact rkindOf_any _ w
      have hil := isLetter_iff shape[q]
      have hkg := kindOfL_ge shape[q]
      by_cases h42 : shape[q] = 42 ∧ b = false
      · obtain ⟨h1, rfl⟩ := h42
        rw [decide_eq_true h1] at e42
        have HK2 : Hid (KS (shape.data.toList.take (q + 1)) true A B) := by rw [HT.out, h1]; exact HK.out.meets
        have hB := (HK.out.noStar rfl).2
        subst hB
        clear hil hkg h1
        go_wp2_with (go_at_call 104; refine (HF.out _).mono ?_; rintro e w' ⟨rfl, rfl⟩)
        go_roundw
        case rel => exact ⟨q + 1, true, A, [], by omega, by go_num, rfl, HK2.out, HW.out.meets⟩
        case measure => simp [intOf]; omega
      · by_cases hz : kindOfL shape[q] = 0
        · have hbad : shapeOk shape.data.toList = false := by
            rw [HL.out]
            refine HK.out.bad (by rw [hil]; simp [hz]) ?_ _
            by_cases h1 : shape[q] = 42
            · right
              cases b with
              | true => rfl
              | false => exact absurd ⟨h1, rfl⟩ h42
            · exact Or.inl h1
          have HB := hide hbad
          have hz' : (kindOfL shape[q] == 0) = true := by rw [hz]; rfl
          clear hbad hil hkg hz
          by_cases h1 : shape[q] = 42
          · rw [decide_eq_true h1] at e42
            cases b with
            | false => exact absurd ⟨h1, rfl⟩ h42
            | true =>
              clear h1 h42
              go_wp2_with (go_at_call 104; refine (HF.out _).mono ?_; rintro e w' ⟨rfl, rfl⟩)
              refine bodyPost_ret (v := .tuple #[.slice none 0 0, .slice none 0 0, .bool false]) (by simp [results, Tryz.results80, go_sem]) rfl ⟨.slice none 0 0, .slice none 0 0, by rw [HB.out], fun e => (by rw [HB.out] at e; cases e), HW.out.below⟩
          · rw [decide_eq_false h1] at e42
            clear h1 h42
            go_wp2_with (go_at_call 104; refine (HF.out _).mono ?_; rintro e w' ⟨rfl, rfl⟩)
            refine bodyPost_ret (v := .tuple #[.slice none 0 0, .slice none 0 0, .bool false]) (by simp [results, Tryz.results80, go_sem]) rfl ⟨.slice none 0 0, .slice none 0 0, by rw [HB.out], fun e => (by rw [HB.out] at e; cases e), HW.out.below⟩
        · have hz' : (kindOfL shape[q] == 0) = false := by rw [beq_eq_false_iff_ne]; exact hz
          have hlet : isLetter shape[q] = true := by rw [hil]; simp; omega
          have h1 := letter_ne _ hlet
          rw [decide_eq_false h1] at e42
          have HLt := hide hlet
          clear h1 h42 hil hkg hz hlet
          cases b with
          | false =>
            have HK2 : Hid (KS (shape.data.toList.take (q + 1)) false (A ++ [shape[q]]) B) := by rw [HT.out]; exact HK.out.goesA HLt.out
            have HA : Hid (A.length ≤ 1048576) := by
              have h1 := (HK.out.noStar rfl).1
              have h2 := congrArg List.length h1
              have h3 := HS.out
              simp at h2
              show A.length ≤ 1048576
              omega
            go_wp2_with fail
            refine (HF.out _).mono ?_
            rintro e w' ⟨rfl, rfl⟩
            go_wp2_with (at_builtin; refine wpList_append_own _ rfl _ _ 123 rfl w.heap.size 3 Tryz.t3 (.int .i64 0) 1 8 Tryz.underlying123 ?hi ?hz ?hs ?hby rfl (by decide) _ _ _ rfl (HW.out.ownA.alloc _) ⟨_, 0, none⟩ 1 1 [.int .i64 (kindOfL shape[q])] rfl rfl ?hnews ?h1 ?h63 ?hb47 ?hbase ?_)
            case hi => exact Tryz.infoInt
            case hz => exact Tryz.zeroInt
            case hs => exact Tryz.sizeInt
            case hby => exact Tryz.bytesInt
            case hnews => exact cells_new1 _ _ _ _ rfl
            case h1 =>
              intro u hu
              simp at hu
              subst hu
              rfl
            case h63 => have := HA.out; unfold maxLen; omega
            case hb47 => have := HA.out; omega
            case hbase => have := HW.out.below.size; simp; omega
            intro v' w4 hown hgrow _
            have HW4 := hide (HW.out.goesA hgrow hown)
            clear hown hgrow
            go_wp2
            go_roundw
            case rel => exact ⟨q + 1, false, A ++ [shape[q]], B, by omega, by go_num, rfl, HK2.out, HW4.out⟩
            case measure => simp [intOf]; omega
          | true =>
            have HK2 : Hid (KS (shape.data.toList.take (q + 1)) true A (B ++ [shape[q]])) := by rw [HT.out]; exact HK.out.goesB HLt.out
            have HA : Hid (B.length ≤ 1048576) := by
              have h1 := HK.out.star rfl
              have h2 := congrArg List.length h1
              have h3 := HS.out
              simp at h2
              show B.length ≤ 1048576
              omega
            obtain ⟨bb, g1, g2, g3, g4⟩ := HW.out.ownB rfl
            have G1 := hide g1
            have G2 := hide g2
            have G3 := hide g3
            have G4 := hide g4
            clear g1 g2 g3 g4
            go_wp2_with fail
            refine (HF.out _).mono ?_
            rintro e w' ⟨rfl, rfl⟩
            go_wp2_with (at_builtin; refine wpList_append_own _ rfl _ _ 123 rfl bb 3 Tryz.t3 (.int .i64 0) 1 8 Tryz.underlying123 ?hi ?hz ?hs ?hby rfl (by decide) _ _ _ rfl (G3.out.alloc _) ⟨_, 0, none⟩ 1 1 [.int .i64 (kindOfL shape[q])] rfl rfl ?hnews ?h1 ?h63 ?hb47 ?hbase ?_)
            case hi => exact Tryz.infoInt
            case hz => exact Tryz.zeroInt
            case hs => exact Tryz.sizeInt
            case hby => exact Tryz.bytesInt
            case hnews => exact cells_new1 _ _ _ _ rfl
            case h1 =>
              intro u hu
              simp at hu
              subst hu
              rfl
            case h63 => have := HA.out; unfold maxLen; omega
            case hb47 => have := HA.out; omega
            case hbase => have := G2.out; simp; omega
            intro v' w4 hown hgrow _
            have HW4 := hide (HW.out.goesB G1.out G2.out G3.out G4.out hgrow hown)
            clear hown hgrow
            go_wp2
            go_roundw
            case rel => exact ⟨q + 1, true, A, B ++ [shape[q]], by omega, by go_num, rfl, HK2.out, HW4.out⟩
            case measure => simp [intOf]; omega
    · have e : shape.data.toList.take q = shape.data.toList := List.take_of_length_le (by simp; omega)
      rw [e] at HK
      have HO := hide HK.out.ok
      have HC := hide HK.out.cut
      have HBo := hide (HW.out.both HK.out)
      obtain ⟨ao, cap, hsh⟩ := own_shape HBo.out
      subst hsh
      clear e
      cases b with
      | false =>
        go_wp2
        refine bodyPost_ret (v := .tuple #[u5, .slice ao B.length cap, .bool true]) (by simp [results, Tryz.results80, go_sem]) rfl ⟨u5, .slice ao B.length cap, by rw [HO.out]; rfl, fun _ => by rw [HC.out]; exact ⟨HW.out.ownA, HBo.out⟩, HW.out.below⟩
      | true =>
        go_wp2
        refine bodyPost_ret (v := .tuple #[u5, .slice ao B.length cap, .bool (decide (0 < B.length))]) (by simp [results, Tryz.results80, go_sem]) rfl ⟨u5, .slice ao B.length cap, by rw [HO.out]; rfl, fun _ => by rw [HC.out]; exact ⟨HW.out.ownA, HBo.out⟩, HW.out.below⟩
end Go.Proofs.YtfoomgdlbkjaeaaGreat.K
namespace Go.Proofs.YtfoomgdlbkjaeaaGreat.K
open Go.RowKit
def TD (A B : List UInt8) (k : Nat) : List UInt8 :=
  if k < A.length then A.drop k else if (k - A.length) % B.length = 0 then [] else B.drop ((k - A.length) % B.length)
theorem TD_start (A B : List UInt8) : TD A B 0 = A := by
  unfold TD
  by_cases h : 0 < A.length
  · rw [if_pos h]; rfl
  · have : A = [] := List.eq_nil_of_length_eq_zero (by omega)
    subst this
    simp
theorem TD_a (A B : List UInt8) (k : Nat) (h : k < A.length) : TD A B k = A[k] :: TD A B (k + 1) := by
  unfold TD
  rw [if_pos h, List.drop_eq_getElem_cons h]
  by_cases h1 : k + 1 < A.length
  · rw [if_pos h1]
  · rw [if_neg h1, show k + 1 - A.length = 0 by omega, Nat.zero_mod, if_pos rfl, List.drop_of_length_le (by omega)]
theorem TD_end (A : List UInt8) (k : Nat) (h : A.length ≤ k) : TD A [] k = [] := by
  unfold TD
  rw [if_neg (by omega)]
  simp
theorem TD_b0 (A B : List UInt8) (k : Nat) (h : A.length ≤ k) (h1 : (k - A.length) % B.length = 0) : TD A B k = [] := by
  unfold TD
  rw [if_neg (by omega), if_pos h1]
theorem TD_b1 (A B : List UInt8) (k : Nat) (h : A.length ≤ k) (h1 : (k - A.length) % B.length ≠ 0) : TD A B k = B.drop ((k - A.length) % B.length) := by
  unfold TD
  rw [if_neg (by omega), if_neg h1]
theorem TD_b (A B : List UInt8) (k m : Nat) (h : A.length ≤ k) (hm : (k - A.length) % B.length = m) (hl : m < B.length) : B.drop m = B[m] :: TD A B (k + 1) := by
  rw [List.drop_eq_getElem_cons hl]
  unfold TD
  rw [if_neg (by omega)]
  have e : (k + 1 - A.length) % B.length = (m + 1) % B.length := by
    rw [show k + 1 - A.length = (k - A.length) + 1 by omega, Nat.add_mod, hm]
    by_cases h1 : B.length = 1
    · rw [h1]; simp [Nat.mod_one]
    · rw [Nat.mod_eq_of_lt (show 1 < B.length by omega)]
  rw [e]
  by_cases h2 : m + 1 = B.length
  · rw [h2, Nat.mod_self, if_pos rfl, ← h2, List.drop_of_length_le (by omega)]
  · rw [Nat.mod_eq_of_lt (show m + 1 < B.length by omega), if_neg (by omega)]
def RL (again : List UInt8) (l : List It) (todo : List UInt8) (rest : ByteArray) (R : List It × Int) : Prop := ∃ tb : ByteArray, tb.data.toList = todo ∧ RI again l tb rest R
theorem RL.len {B : List UInt8} {l : List It} {todo : List UInt8} {rest : ByteArray} {R : List It × Int} (h : RL B l todo rest R) : l.length ≤ 1000 := by
  obtain ⟨_, _, h⟩ := h; exact h.len
theorem RL.restLen {B : List UInt8} {l : List It} {todo : List UInt8} {rest : ByteArray} {R : List It × Int} (h : RL B l todo rest R) : rest.size ≤ maxLen := by
  obtain ⟨_, _, h⟩ := h; exact h.restLen
theorem RL.done {B : List UInt8} {l : List It} {rest : ByteArray} {R : List It × Int} (h : RL B l [] rest R) (h1 : rest.size = 0) : R = (l, 0) := by
  obtain ⟨tb, ht, h⟩ := h
  exact h.done (by rw [← size_list, ht]; rfl) h1
theorem RL.form {l : List It} {rest : ByteArray} {R : List It × Int} (h : RL [] l [] rest R) (h1 : rest.size ≠ 0) : R = ([], 10) := by
  obtain ⟨tb, ht, h⟩ := h
  exact h.form (by rw [← size_list, ht]; rfl) h1
theorem RL.again {B : List UInt8} {l : List It} {rest : ByteArray} {R : List It × Int} (h : RL B l [] rest R) (h1 : rest.size ≠ 0) (h2 : B ≠ []) (h3 : B.length ≤ maxLen) : RL B l B rest R := by
  obtain ⟨tb, ht, h⟩ := h
  have e : (⟨B.toArray⟩ : ByteArray).data.toList = B := by simp
  have e2 : (⟨B.toArray⟩ : ByteArray).size = B.length := by rw [← size_list, e]
  rw [← e] at h
  exact ⟨⟨B.toArray⟩, e, by rw [← e]; exact h.again (by rw [← size_list, ht]; rfl) h1 (by rw [e2]; intro h0; exact h2 (List.eq_nil_of_length_eq_zero h0)) (by rw [e2]; exact h3)⟩
theorem cons_parts {tb : ByteArray} {c : UInt8} {t : List UInt8} (h : tb.data.toList = c :: t) : ∃ h0 : 0 < tb.size, tb[0] = c ∧ (tb.extract 1 tb.size).data.toList = t := by
  have h0 : 0 < tb.size := by rw [← size_list, h]; simp
  refine ⟨h0, ?_⟩
  have := list_cons h0
  rw [h] at this
  injection this with h1 h2
  exact ⟨h1.symm, h2.symm⟩
theorem RL.long {B : List UInt8} {l : List It} {c : UInt8} {t : List UInt8} {rest : ByteArray} {R : List It × Int} (h : RL B l (c :: t) rest R) (h1 : l.length = 1000) : R = ([], 3) := by
  obtain ⟨tb, ht, h⟩ := h
  obtain ⟨h0, _, _⟩ := cons_parts ht
  exact h.long h0 h1
theorem RL.fault {B : List UInt8} {l : List It} {c : UInt8} {t : List UInt8} {rest : ByteArray} {R : List It × Int} (h : RL B l (c :: t) rest R) (h1 : l.length ≠ 1000) (h2 : (itemG (kindOfL c) (widthN (kindOfL c)) rest).2.2 ≠ 0) :
    R = ([], (itemG (kindOfL c) (widthN (kindOfL c)) rest).2.2) := by
  obtain ⟨tb, ht, h⟩ := h
  obtain ⟨h0, rfl, _⟩ := cons_parts ht
  exact h.fault h0 h1 h2
theorem RL.next {B : List UInt8} {l : List It} {c : UInt8} {t : List UInt8} {rest : ByteArray} {R : List It × Int} (h : RL B l (c :: t) rest R) (h1 : l.length ≠ 1000) (h2 : (itemG (kindOfL c) (widthN (kindOfL c)) rest).2.2 = 0) :
    RL B (l ++ [(itemG (kindOfL c) (widthN (kindOfL c)) rest).1]) t (itemG (kindOfL c) (widthN (kindOfL c)) rest).2.1 R ∧ (itemG (kindOfL c) (widthN (kindOfL c)) rest).2.1.size < rest.size := by
  obtain ⟨tb, ht, h⟩ := h
  obtain ⟨h0, rfl, he⟩ := cons_parts ht
  obtain ⟨n1, n2⟩ := h.next h0 h1 h2
  exact ⟨⟨_, he, n1⟩, n2⟩
theorem RL.init {A B : List UInt8} {s : ByteArray} {R : List It × Int} (hA : A.length ≤ maxLen) (hs : s.size ≤ maxLen) (hR : readF (2 * s.size + 2) B 0 A s.data.toList = R) : RL B [] (TD A B 0) s R := by
  have e : (⟨A.toArray⟩ : ByteArray).data.toList = A := by simp
  have e2 : (⟨A.toArray⟩ : ByteArray).size = A.length := by rw [← size_list, e]
  refine ⟨⟨A.toArray⟩, by rw [e, TD_start], ⟨by simp, by rw [e2]; exact hA, hs, 2 * s.size + 2, by split <;> omega, ?_⟩⟩
  rw [e, ← hR]
  unfold joinR
  simp only [List.length_nil, List.nil_append]
  by_cases h : (readF (2 * s.size + 2) B 0 A s.data.toList).2 = 0
  · rw [if_pos h, ← h]
  · rw [if_neg h]
    have := readF_err (2 * s.size + 2) B 0 A s.data.toList h
    rw [← this]
def IntsAt (w : World) (ao : Option Addr) (l : List UInt8) : Prop :=
  ∀ (i : Nat) (h : i < l.length), ∃ g, ao = some ⟨g, 0, none⟩ ∧ g < w.heap.size ∧ w.cell? ⟨g, i, none⟩ = some (.int .i64 (kindOfL l[i]))
theorem IntsAt.below {w w' : World} {ao : Option Addr} {l : List UInt8} (h : IntsAt w ao l) (hb : Below w.heap.size w w') : IntsAt w' ao l := by
  intro i hi
  obtain ⟨g, h1, h2, h3⟩ := h i hi
  exact ⟨g, h1, by have := hb.size; omega, (hb.cell (p := ⟨g, i, none⟩) h2).trans h3⟩
theorem ints_of_own {w : World} {B : Nat} {v : Value} {l : List UInt8} (h : w.ownsRow B 3 1 v l.length (intCells l)) : ∃ ao cap, v = .slice ao l.length cap ∧ IntsAt w ao l := by
  rcases h.2 with ⟨h1, h2⟩ | ⟨g, cap, cur, hv, hg, hh, hn, _, hs, ht⟩
  · exact ⟨none, 0, by rw [h1, h2], fun i hi => by omega⟩
  · refine ⟨_, _, hv, fun i hi => ⟨g, rfl, (Array.getElem?_eq_some_iff.1 hh).1, ?_⟩⟩
    rw [Lib.cell_of_heap hh]
    have e : (intCells l)[i]? = some (.int .i64 (kindOfL l[i])) := by simp [intCells, hi]
    rw [← e, ← ht, List.getElem?_take, if_pos (by omega)]
    simp
structure DS (w w' : World) (v : Value) (l : List It) : Prop where
  below : Below w.heap.size w w'
  own : w'.ownsRow w.heap.size 83 3 v l.length (itemCells l)
end Go.Proofs.YtfoomgdlbkjaeaaGreat.K
