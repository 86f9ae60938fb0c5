/-
  Appending a list of items, wherever it lies, to one that the call owns.
-/
import Derived.Test.YtmkkcgkakomacaaGreatZKW8
import Derived.ProofKit
import Derived.OpenShut
import Derived.ShutString
import Derived.ChangeOld
import Derived.SizedLaws
import Derived.Deep.Slices
import Derived.Deep.Strs
import Derived.Test.YtmkkcgkakomacaaGreatZKW2
import Derived.Laws.AppendOwnNone
namespace Go.Proofs.YtmkkcgkakomacaaGreat.K
open Go.RowKit
set_option maxHeartbeats 400000
theorem builder_kept {T e : TypeId} {B b : Nat} {bs : List Value} {w w' : World} (h : Lib.IsBuilderF T e B b bs w) (hk : ∀ i, i < w.heap.size → w'.heap[i]? = w.heap[i]?) : Lib.IsBuilderF T e B b bs w' := by
  have key : ∀ p, Lib.BuilderAtF T e B b p bs w → Lib.BuilderAtF T e B b p bs w' := by
    rintro p ⟨h1, v, h2, ⟨h3, h4⟩, h5⟩
    refine ⟨h1, v, by rw [hk b (Array.getElem?_eq_some_iff.1 h2).1]; exact h2, ⟨h3, ?_⟩, h5⟩
    rcases h4 with h4 | ⟨g, cap, cur, fz, hv, hg, hh, r⟩
    · exact Or.inl h4
    · exact Or.inr ⟨g, cap, cur, fz, hv, hg, by rw [hk g (Array.getElem?_eq_some_iff.1 hh).1]; exact hh, r⟩
  exact h.imp (key _) (key _)
theorem builder_alloc {T e : TypeId} {B b : Nat} {bs : List Value} {w : World} (h : Lib.IsBuilderF T e B b bs w) (o : Obj) : Lib.IsBuilderF T e B b bs (w.alloc o) :=
  builder_kept h fun i hi => Lib.alloc_old w o i hi
theorem builder_lt {T e : TypeId} {B b : Nat} {bs : List Value} {w : World} (h : Lib.IsBuilderF T e B b bs w) : b < w.heap.size := by
  rcases h with h | h
  · obtain ⟨_, v, h2, _⟩ := h; exact (Array.getElem?_eq_some_iff.1 h2).1
  · obtain ⟨_, v, h2, _⟩ := h; exact (Array.getElem?_eq_some_iff.1 h2).1
theorem box_kept {w w' : World} {b : Nat} {x0 x1 x2 : Value} (hb : b < w.heap.size) (h : Lib.OthersKept 5 (some b) (w.alloc (.cells #[x0, x1, x2] 83)) w') :
    w'.cell? ⟨w.heap.size, 0, none⟩ = some x0 ∧ w'.cell? ⟨w.heap.size, 1, none⟩ = some x1 ∧ w'.cell? ⟨w.heap.size, 2, none⟩ = some x2 := by
  have h1 : (w.alloc (.cells #[x0, x1, x2] 83)).heap[w.heap.size]? = some (.cells #[x0, x1, x2] 83) := by
    show (w.heap.push _)[w.heap.size]? = _
    simp
  have h2 := h _ _ h1 (by intro e; injection e with e; omega) (by intro c fz e; injection e with e1 e2; exact absurd e2 (by decide))
  exact ⟨by rw [Lib.cell_of_heap h2]; rfl, by rw [Lib.cell_of_heap h2]; rfl, by rw [Lib.cell_of_heap h2]; rfl⟩
theorem writeItem_any (B b : Nat) (bs : List Value) (x : It) (w : World) (hx : x.ok) (hsl : x.s.size ≤ 100000) (hlen : bs.length ≤ 900000000)
    (h : Lib.IsBuilderF 113 5 B b bs w) (hBw : B ≤ w.heap.size) :
    Calls Tryz.prog 72 #[.pointer (some ⟨b, 0, none⟩), .agg #[.int .i64 x.k, .int .u64 x.n, .string x.s]] w fun e w' => e = .returned (.tuple #[]) ∧ Lib.IsBuilderF 113 5 B b (bs ++ Lib.byteCells (itemB x)) w' ∧ Below B w w' := by
  obtain ⟨k, n, s⟩ := x
  obtain ⟨_, _, h0, h1, _⟩ := hx
  simp only at h0 h1 hsl
  obtain ⟨m, rfl⟩ := Int.eq_ofNat_of_zero_le h0
  have HB := hide h
  have HW := hide (fun w => width_any k w)
  have hb := builder_lt h
  clear h
  have e1 : itemB ⟨k, m, s⟩ = Lib.beBytes (widthN k) (if k = 4 then s.size else m) ++ s.data.toList := by simp [itemB, numOf]
  rw [e1]
  clear e1
  have hz := widthN_le k
  have hz0 := widthN_pos k
  by_cases h4 : k = 4
  · subst h4
    rw [if_pos rfl]
    generalize widthN 4 = z at *
    go_enter Tryz.func72, Tryz.ntmps72
    go_wp2_with fail
    refine (HW.out _).mono ?_
    rintro e w' ⟨rfl, rfl⟩
    go_wp2_with fail
    refine (writeNumber_any B b bs s.size z _ (by omega) hz hz0 (by omega) (builder_alloc HB.out _) (by simp; omega)).mono ?_
    rintro e w2 ⟨rfl, g1, g2, g3⟩
    obtain ⟨c0, c1, c2⟩ := box_kept hb g3
    clear g3 c0 c1
    have G1 := hide g1
    have G2 := hide g2
    clear g1 g2
    go_wp2_with fail
    refine (Tryz.WriteString B b _ s _ G1.out (by simp [Lib.byteCells, Lib.beBytes_length]; omega) (by have := G2.out.size; simp at this; omega)).mono ?_
    rintro e w3 ⟨rfl, g4, g5, g6⟩
    clear g6
    have G4 := hide g4
    have G5 := hide g5
    clear g4 g5
    go_wp2
    go_end0
    refine ⟨rfl, ?_, ((Below.refl _ _).alloc hBw _).trans (G2.out.trans G5.out)⟩
    rw [Lib.byteCells, List.map_append, ← List.append_assoc]
    exact Or.inr G4.out
  · have h5 : (k == 4) = false := by rw [beq_eq_false_iff_ne]; exact h4
    rw [if_neg h4]
    clear h4
    generalize widthN k = z at *
    go_enter Tryz.func72, Tryz.ntmps72
    go_wp2_with fail
    refine (HW.out _).mono ?_
    rintro e w' ⟨rfl, rfl⟩
    go_wp2_with fail
    refine (writeNumber_any B b bs m z _ (by omega) hz hz0 (by omega) (builder_alloc HB.out _) (by simp; omega)).mono ?_
    rintro e w2 ⟨rfl, g1, g2, g3⟩
    obtain ⟨c0, c1, c2⟩ := box_kept hb g3
    clear g3 c0 c1
    have G1 := hide g1
    have G2 := hide g2
    clear g1 g2
    go_wp2_with fail
    refine (Tryz.WriteString B b _ s _ G1.out (by simp [Lib.byteCells, Lib.beBytes_length]; omega) (by have := G2.out.size; simp at this; omega)).mono ?_
    rintro e w3 ⟨rfl, g4, g5, g6⟩
    clear g6
    have G4 := hide g4
    have G5 := hide g5
    clear g4 g5
    go_wp2
    go_end0
    refine ⟨rfl, ?_, ((Below.refl _ _).alloc hBw _).trans (G2.out.trans G5.out)⟩
    rw [Lib.byteCells, List.map_append, ← List.append_assoc]
    exact Or.inr G4.out
end Go.Proofs.YtmkkcgkakomacaaGreat.K
namespace Go.Proofs.YtmkkcgkakomacaaGreat.K
open Go.RowKit
set_option maxHeartbeats 800000
def ItemsAt (w : World) (ao : Option Addr) (l : List It) : Prop :=
  ∀ i (h : i < l.length), ∃ b off, ao = some ⟨b, off, none⟩ ∧ b < w.heap.size ∧ w.cell? ⟨b, off + i * 3, none⟩ = some (.int .i64 l[i].k) ∧ w.cell? ⟨b, off + i * 3 + 1, none⟩ = some (.int .u64 l[i].n) ∧ w.cell? ⟨b, off + i * 3 + 2, none⟩ = some (.string l[i].s)
theorem firstFault_append (a b : List It) : firstFault (a ++ b) = if firstFault a = 0 then firstFault b else firstFault a := by
  induction a with
  | nil => simp [firstFault]
  | cons x a ih =>
    simp only [List.cons_append, firstFault, ih]
    by_cases h : faultF x = 0
    · simp [h]
    · simp [h]
theorem take_next (l : List It) (k : Nat) (h : k < l.length) : l.take (k + 1) = l.take k ++ [l[k]] := List.take_succ_eq_append_getElem h
theorem firstFault_next (l : List It) (k : Nat) (h : k < l.length) (h0 : firstFault (l.take k) = 0) : firstFault (l.take (k + 1)) = faultF l[k] := by
  rw [take_next l k h, firstFault_append, if_pos h0]
  simp only [firstFault]
  split
  · rename_i h1; exact h1.symm
  · rfl
theorem firstFault_hit (l : List It) (k : Nat) (h : k < l.length) (h0 : firstFault (l.take k) = 0) (h1 : faultF l[k] ≠ 0) : firstFault l = faultF l[k] := by
  have h2 := firstFault_next l k h h0
  have e : firstFault l = firstFault (l.take (k + 1) ++ l.drop (k + 1)) := by rw [List.take_append_drop]
  rw [e, firstFault_append, h2, if_neg h1]
theorem firstFault_all (l : List It) (h : firstFault l = 0) : ∀ x ∈ l, faultF x = 0 := by
  induction l with
  | nil => simp
  | cons x l ih =>
    simp only [firstFault] at h
    split at h
    · rename_i h1
      intro y hy
      rcases List.mem_cons.1 hy with rfl | hy
      · exact h1
      · exact ih h y hy
    · rename_i h1; exact absurd h h1
theorem fault_size (x : It) (h : faultF x = 0) : x.s.size ≤ 100000 := by
  unfold faultF at h
  repeat' split at h
  all_goals first | omega | exact absurd h (by decide)
theorem itemB_length (x : It) (h : x.s.size ≤ 100000) : (itemB x).length ≤ 100008 := by
  have := widthN_le x.k
  unfold itemB
  rw [List.length_append, Lib.beBytes_length, size_list]
  omega
theorem itemsB_length (l : List It) (h : ∀ x ∈ l, faultF x = 0) : (l.flatMap itemB).length ≤ 100008 * l.length := by
  induction l with
  | nil => simp
  | cons x l ih =>
    have h1 := itemB_length x (fault_size x (h x (by simp)))
    have h2 := ih fun y hy => h y (by simp [hy])
    rw [List.flatMap_cons, List.length_append, List.length_cons]
    omega
theorem encF_hit (l : List It) (hlen : l.length ≤ 1000) (h : firstFault l ≠ 0) : encF l = ([], firstFault l) := by
  unfold encF
  rw [if_neg (by omega), if_neg h]
theorem encF_ok (l : List It) (hlen : l.length ≤ 1000) (h : firstFault l = 0) : encF l = (l.flatMap itemB, 0) := by
  unfold encF
  rw [if_neg (by omega), if_pos h]
theorem encode_few (ao : Option Addr) (cap : Nat) (l : List It) (w : World) (hc : ItemsAt w ao l) (hok : ∀ x ∈ l, x.ok) (hlen : l.length ≤ 1000) (R : List UInt8 × Int) (hR : encF l = R) :
    Calls Tryz.prog 41 #[.slice ao l.length cap] w fun e w' => e = .returned (.tuple #[.string ⟨R.1.toArray⟩, .int .i64 R.2]) ∧ Below w.heap.size w w' := by
  have HC := hide hc
  have HO := hide hok
  have HR := hide hR
  clear hc hok hR
  have h1000 : ¬ 1000 < (l.length : Int) := by omega
  go_enter Tryz.func41, Tryz.ntmps41
  go_wp2
  go_loopw [4, 16] (fun sz i wr => ∃ k m : Nat, k ≤ l.length ∧ i = .int .i64 k ∧ sz = .int .i64 m ∧ m ≤ 100008 * k ∧ Hid (firstFault (l.take k) = 0) ∧ Hid (Below w.heap.size w wr)) (fun _ i _ => l.length - (intOf i).toNat)
  case atStart => exact ⟨0, 0, Nat.zero_le _, rfl, rfl, by omega, rfl, Below.refl _ _⟩
  case round =>
    obtain ⟨k, m, hk, rfl, rfl, hm, HF, HB⟩ := hrel
    by_cases hlt : k < l.length
    · obtain ⟨b, off, rfl, hb, c0, c1, c2⟩ := HC.out k hlt
      have HX := hide (HO.out l[k] (List.getElem_mem hlt))
      have d0 := (HB.out.cell (p := ⟨b, off + k * 3, none⟩) hb).trans c0
      have d1 := (HB.out.cell (p := ⟨b, off + k * 3 + 1, none⟩) hb).trans c1
      have d2 := (HB.out.cell (p := ⟨b, off + k * 3 + 2, none⟩) hb).trans c2
      clear c0 c1 c2
      have HI := hide (fun w => itemFault_any l[k] w HX.out)
      have HW := hide (fun w => width_any l[k].k w)
      have HH := hide (firstFault_hit l k hlt HF.out)
      have HT := hide (firstFault_next l k hlt HF.out)
      have HZ := hide (fault_size l[k])
      generalize l[k] = x at *
      generalize faultF x = f at *
      by_cases hf : f = 0
      · have hsz := HZ.out hf
        have hwz := widthN_le x.k
        have hf2 : (f != 0) = false := by simp [hf]
        have HN : Hid (firstFault (l.take (k + 1)) = 0) := HT.out.trans hf
        clear HT HH hf HZ
        go_wp2_with fail
        refine (HI.out _).mono ?_
        rintro e w2 ⟨rfl, hb2⟩
        have HB2 := hide (HB.out.trans ((((Below.refl wr.heap.size wr).alloc (Nat.le_refl _) _).trans (hb2.mono (by simp))).mono HB.out.size))
        have hcc := (bcell hb2).1
        simp at hcc
        have g0 := hcc wr.heap.size 0 (by omega)
        have g1 := hcc wr.heap.size 1 (by omega)
        have g2 := hcc wr.heap.size 2 (by omega)
        simp at g0 g1 g2
        clear hcc hb2
        go_wp2
        go_quiet ((go_at_call 70; exact Calls.quiet_of_same (HW.out _)))
        go_wp2
        go_roundw
        case rel => exact ⟨k + 1, m + (widthN x.k + x.s.size), by omega, by go_num, by go_num, by omega, HN, below_drewN HB2.out nq⟩
        case measure => simp [intOf]; omega
      · have hf2 : (f != 0) = true := by rw [bne_iff_ne]; exact hf
        have HE : Hid (R = ([], f)) := by
          show R = ([], f)
          rw [← HR.out, encF_hit l hlen (by rw [HH.out hf]; exact hf), HH.out hf]
        clear HT HH hf HZ
        go_wp2_with fail
        refine (HI.out _).mono ?_
        rintro e w2 ⟨rfl, hb2⟩
        have HB2 := hide (HB.out.trans ((((Below.refl wr.heap.size wr).alloc (Nat.le_refl _) _).trans (hb2.mono (by simp))).mono HB.out.size))
        clear hb2
        go_wp2
        go_ret2
        exact ⟨ret2 (by rw [HE.out]; rfl) (by rw [HE.out]; rfl), HB2.out⟩
    · have HE : Hid (R = (l.flatMap itemB, 0)) := by
        show R = _
        have h0 := HF.out
        rw [List.take_of_length_le (by omega)] at h0
        rw [← HR.out, encF_ok l hlen h0]
      have HA : Hid (∀ x ∈ l, faultF x = 0) := by
        have h0 := HF.out
        rw [List.take_of_length_le (by omega)] at h0
        exact firstFault_all l h0
      have hbs := HB.out.size
      clear HF
      go_wp2_with fail
      refine (Tryz.Grow w.heap.size wr.heap.size m _ hbs (by show (wr.heap.push _)[wr.heap.size]? = _; simp) (by simp; omega) (by omega)).mono ?_
      rintro e w2 ⟨rfl, h1, h2⟩
      have HG : Hid (Lib.IsBuilderF 113 5 w.heap.size wr.heap.size (Lib.byteCells []) w2 ∧ Below w.heap.size w w2) :=
        ⟨Or.inr (Lib.BuilderAtF.of h1), (HB.out.alloc hbs _).trans h2⟩
      clear h1 h2
      generalize wr.heap.size = bb at *
      go_wp2
      go_loopw [39] (fun i wv => ∃ k : Nat, k ≤ l.length ∧ i = .int .i64 k ∧ Hid (Lib.IsBuilderF 113 5 w.heap.size bb (Lib.byteCells ((l.take k).flatMap itemB)) wv ∧ Below w.heap.size w wv)) (fun i _ => l.length - (intOf i).toNat)
      case atStart => exact ⟨0, Nat.zero_le _, rfl, HG⟩
      case round =>
        obtain ⟨q, hq, rfl, HV⟩ := hrel
        by_cases hql : q < l.length
        · obtain ⟨b, off, rfl, hb, c0, c1, c2⟩ := HC.out q hql
          have HX := hide (HO.out l[q] (List.getElem_mem hql))
          have hsz := fault_size l[q] (HA.out l[q] (List.getElem_mem hql))
          have d0 := (HV.out.2.cell (p := ⟨b, off + q * 3, none⟩) hb).trans c0
          have d1 := (HV.out.2.cell (p := ⟨b, off + q * 3 + 1, none⟩) hb).trans c1
          have d2 := (HV.out.2.cell (p := ⟨b, off + q * 3 + 2, none⟩) hb).trans c2
          clear c0 c1 c2
          have HT := hide (take_next l q hql)
          have hln : (Lib.byteCells ((l.take q).flatMap itemB)).length ≤ 900000000 := by
            have h1 := itemsB_length (l.take q) (fun x hx => HA.out x (List.mem_of_mem_take hx))
            have h2 := List.length_take_le q l
            have h3 : (l.take q).length ≤ 1000 := by rw [List.length_take]; omega
            simp only [Lib.byteCells, List.length_map]
            omega
          generalize l[q] = x at *
          have hvs := HV.out.2.size
          go_wp2_with fail
          refine (writeItem_any w.heap.size bb _ x _ HX.out hsz hln (builder_alloc HV.out.1 _) (by simp; omega)).mono ?_
          rintro e w3 ⟨rfl, g1, g2⟩
          have HN : Hid (Lib.IsBuilderF 113 5 w.heap.size bb (Lib.byteCells ((l.take (q + 1)).flatMap itemB)) w3 ∧ Below w.heap.size w w3) := by
            refine ⟨?_, (HV.out.2.alloc hvs _).trans g2⟩
            rw [HT.out, List.flatMap_append, List.flatMap_singleton]
            rw [Lib.byteCells, List.map_append]
            exact g1
          clear g1 g2 HT hln
          go_wp2
          go_roundw
          case rel => exact ⟨q + 1, by omega, by go_num, HN⟩
          case measure => simp [intOf]; omega
        · have e1 : l.take q = l := List.take_of_length_le (by omega)
          rw [e1] at HV
          clear e1
          have hvs := HV.out.2.size
          go_wp2_with fail
          refine (Tryz.BString w.heap.size bb (l.flatMap itemB) _ HV.out.1 hvs).mono ?_
          rintro e w3 ⟨rfl, g1, g2, g3⟩
          have HN := hide (HV.out.2.trans g2)
          clear g1 g2 g3
          go_wp2
          go_ret2
          exact ⟨ret2 (by rw [HE.out]; rfl) (by rw [HE.out]; rfl), HN.out⟩
theorem encode_many (ao : Option Addr) (n cap : Nat) (w : World) (hn : 1000 < n) (hm : n ≤ maxLen) :
    Calls Tryz.prog 41 #[.slice ao n cap] w fun e w' => e = .returned (.tuple #[.string ⟨#[]⟩, .int .i64 3]) ∧ Below w.heap.size w w' := by
  unfold maxLen at hm
  have h1 : 1000 < (n : Int) := by omega
  go_enter Tryz.func41, Tryz.ntmps41
  go_wp2
  go_ret2
  exact ⟨rfl, Below.refl _ _⟩
theorem encode_any (ao : Option Addr) (cap : Nat) (l : List It) (w : World) (hc : ItemsAt w ao l) (hok : ∀ x ∈ l, x.ok) (hlen : l.length ≤ maxLen) :
    Calls Tryz.prog 41 #[.slice ao l.length cap] w fun e w' => e = .returned (.tuple #[.string ⟨(encF l).1.toArray⟩, .int .i64 (encF l).2]) ∧ Below w.heap.size w w' := by
  by_cases h : 1000 < l.length
  · have e : encF l = ([], 3) := by unfold encF; rw [if_pos h]
    rw [e]
    exact encode_many ao l.length cap w h hlen
  · exact encode_few ao cap l w hc hok (by omega) _ rfl
end Go.Proofs.YtmkkcgkakomacaaGreat.K
namespace Go.Proofs.YtmkkcgkakomacaaGreat.K
open Go.RowKit
end Go.Proofs.YtmkkcgkakomacaaGreat.K
namespace Go.Proofs.YtmkkcgkakomacaaGreat.K
open Go.RowKit
theorem ItemsAt.below {w w' : World} {ao : Option Addr} {l : List It} (h : ItemsAt w ao l) (hb : Below w.heap.size w w') : ItemsAt w' ao l := by
  intro i hi
  obtain ⟨b, off, h1, h2, h3, h4, h5⟩ := h i hi
  refine ⟨b, off, h1, by have := hb.size; omega, ?_, ?_, ?_⟩
  · exact (hb.cell (p := ⟨b, off + i * 3, none⟩) h2).trans h3
  · exact (hb.cell (p := ⟨b, off + i * 3 + 1, none⟩) h2).trans h4
  · exact (hb.cell (p := ⟨b, off + i * 3 + 2, none⟩) h2).trans h5
theorem itemCells_get (l : List It) (i j : Nat) (hi : i < l.length) (hj : j < 3) : (itemCells l)[i * 3 + j]? = (l[i].cells)[j]? := by
  induction l generalizing i with
  | nil => simp at hi
  | cons x l ih =>
    have e : itemCells (x :: l) = x.cells ++ itemCells l := by simp [itemCells]
    have h3 : x.cells.length = 3 := rfl
    rw [e]
    cases i with
    | zero => rw [List.getElem?_append_left (by omega)]; simp
    | succ i =>
      rw [List.getElem?_append_right (by omega), h3]
      have := ih i (by simpa using hi)
      rw [show (i + 1) * 3 + j - 3 = i * 3 + j by omega, this]
      simp
theorem items_of_own {w : World} {B : Nat} {v : Value} {l : List It} (h : w.ownsRow B 83 3 v l.length (itemCells l)) : ∃ ao cap, v = .slice ao l.length cap ∧ ItemsAt w ao l := by
  rcases h.2 with ⟨h1, h2⟩ | ⟨g, cap, cur, hv, hg, hh, hn, _, hs, ht⟩
  · exact ⟨none, 0, by rw [h1, h2], fun i hi => by omega⟩
  · refine ⟨_, _, hv, fun i hi => ⟨g, 0, rfl, (Array.getElem?_eq_some_iff.1 hh).1, ?_⟩⟩
    have key : ∀ j, j < 3 → w.cell? ⟨g, 0 + i * 3 + j, none⟩ = (l[i].cells)[j]? := by
      intro j hj
      rw [Lib.cell_of_heap hh, ← itemCells_get l i j hi hj, ← ht, List.getElem?_take, if_pos (by omega)]
      simp
    refine ⟨?_, ?_, ?_⟩
    · exact key 0 (by omega)
    · exact key 1 (by omega)
    · exact key 2 (by omega)
end Go.Proofs.YtmkkcgkakomacaaGreat.K
namespace Go.Proofs.YtmkkcgkakomacaaGreat.K
open Go.ChangeShapes Go.WideShapes Go.ChangeAt Go.RowKit Go.Deep
theorem addr_add (b off n : Nat) : (⟨b, off, none⟩ : Addr).add n = ⟨b, off + n, none⟩ := by
  unfold Addr.add
  split
  · rename_i h; subst h; rfl
  · rfl
end Go.Proofs.YtmkkcgkakomacaaGreat.K
namespace Go.Proofs.YtmkkcgkakomacaaGreat.K
theorem beBytes_succ (k v : Nat) : Lib.beBytes (k + 1) v = Lib.beBytes k (v / 256) ++ [(v % 256).toUInt8] := by
  simp [Lib.beBytes, Lib.leBytes]
theorem beNat_beBytes (k v : Nat) (h : v < 256 ^ k) : Lib.beNat (Lib.beBytes k v) = v := by
  induction k generalizing v with
  | zero => simp at h; subst h; rfl
  | succ k ih =>
    rw [beBytes_succ, beNat_snoc, ih (v / 256) (by rw [Nat.pow_succ] at h; omega), Lib.toUInt8_mod]
    omega
theorem snoc_of (l : List UInt8) (k : Nat) (h : l.length = k + 1) : ∃ a c, l = a ++ [c] ∧ a.length = k := by
  have hne : l ≠ [] := by intro e; rw [e] at h; simp at h
  refine ⟨l.dropLast, l.getLast hne, (List.dropLast_concat_getLast hne).symm, by rw [List.length_dropLast]; omega⟩
theorem beBytes_beNat (k : Nat) (l : List UInt8) (h : l.length = k) : Lib.beBytes k (Lib.beNat l) = l := by
  induction k generalizing l with
  | zero => simp at h; subst h; rfl
  | succ k ih =>
    obtain ⟨a, c, rfl, ha⟩ := snoc_of l k h
    have hc := c.toNat_lt
    have h1 : (Lib.beNat a * 256 + c.toNat) / 256 = Lib.beNat a := by omega
    have h2 : (Lib.beNat a * 256 + c.toNat) % 256 = c.toNat := by omega
    rw [beNat_snoc, beBytes_succ, h1, h2, ih a ha]
    simp
theorem kind_cases (k : Int) (h : kindB k = true) : k = 1 ∨ k = 2 ∨ k = 3 ∨ k = 4 := by
  simp [kindB] at h
  omega
theorem kindOfL_letterF (k : Int) (h : kindB k = true) : kindOfL (letterF k) = k := by
  rcases kind_cases k h with rfl | rfl | rfl | rfl <;> rfl
theorem isLetter_letterF (k : Int) (h : kindB k = true) : isLetter (letterF k) = true := by
  rcases kind_cases k h with rfl | rfl | rfl | rfl <;> rfl
theorem letterF_ne (k : Int) : letterF k ≠ 42 := by
  unfold letterF
  split
  · decide
  · split
    · decide
    · split <;> decide
theorem fault_kind (x : It) (h : faultF x = 0) : kindB x.k = true := by
  unfold faultF at h
  cases hk : kindB x.k with
  | true => rfl
  | false => rw [hk] at h; simp at h
theorem fault_shape (x : It) (h : faultF x = 0) : (x.k ≠ 4 ∧ x.s.size = 0 ∧ x.n < 256 ^ widthN x.k) ∨ (x.k = 4 ∧ x.n = 0 ∧ x.s.size ≤ 100000) := by
  have hk := fault_kind x h
  unfold faultF at h
  rw [hk] at h
  simp only [Bool.true_eq_false, if_false] at h
  by_cases h4 : x.k = 4
  · right
    by_cases hn : x.n = 0
    · by_cases hs : 100000 < x.s.size
      · simp [h4, hn, hs] at h
      · exact ⟨h4, hn, by omega⟩
    · simp [h4, hn] at h
  · left
    by_cases hs : x.s.size = 0
    · by_cases hn : x.n < 256 ^ widthN x.k
      · exact ⟨h4, hs, hn⟩
      · simp [h4, hs, hn] at h
    · simp [h4, hs] at h
theorem numOf_lt (x : It) (h : faultF x = 0) (h0 : 0 ≤ x.n) : numOf x < 256 ^ widthN x.k := by
  unfold numOf
  rcases fault_shape x h with ⟨h4, _, hn⟩ | ⟨h4, _, hs⟩
  · rw [if_neg h4]
    obtain ⟨n, hn'⟩ := Int.eq_ofNat_of_zero_le h0
    rw [hn'] at hn ⊢
    rw [Int.toNat_natCast]
    have e : ((256 ^ widthN x.k : Nat) : Int) = (256 : Int) ^ widthN x.k := Int.natCast_pow 256 _
    rw [← e] at hn
    omega
  · have w4 : widthN x.k = 4 := by rw [h4]; rfl
    rw [if_pos h4, w4]
    omega
theorem mk_empty (s : ByteArray) (h : s.size = 0) : s = ⟨#[]⟩ := by
  obtain ⟨d⟩ := s
  congr
  exact Array.eq_empty_of_size_eq_zero h
theorem mk_back (s : ByteArray) : (⟨s.data.toList.toArray⟩ : ByteArray) = s := by obtain ⟨d⟩ := s; rfl
theorem itemF_item (x : It) (rest : List UInt8) (h : faultF x = 0) (h0 : 0 ≤ x.n) : itemF (letterF x.k) (itemB x ++ rest) = (x, rest, 0) := by
  have hk := fault_kind x h
  have hlt := numOf_lt x h h0
  have hl : (Lib.beBytes (widthN x.k) (numOf x)).length = widthN x.k := Lib.beBytes_length _ _
  unfold itemF itemB
  rw [kindOfL_letterF x.k hk, List.append_assoc]
  rw [if_neg (by rw [List.length_append, hl]; omega)]
  rcases fault_shape x h with ⟨h4, hs, _⟩ | ⟨h4, hn, hs⟩
  · rw [if_neg h4, List.take_left' hl, List.drop_left' hl, beNat_beBytes _ _ hlt]
    have e1 : x.s.data.toList = [] := List.eq_nil_of_length_eq_zero (by simpa using hs)
    have e2 : ((numOf x : Nat) : Int) = x.n := by unfold numOf; rw [if_neg h4]; omega
    rw [e1, List.nil_append, e2, ← mk_empty x.s hs]
  · have w4 : widthN x.k = 4 := by rw [h4]; rfl
    rw [w4] at hl hlt ⊢
    have e1 : numOf x = x.s.size := by unfold numOf; rw [if_pos h4]
    rw [if_pos h4, List.take_left' hl, List.drop_left' hl, beNat_beBytes _ _ hlt, e1]
    have e2 : x.s.data.toList.length = x.s.size := by simp
    rw [if_neg (by omega), if_neg (by rw [List.length_append, e2]; omega), List.take_left' e2, List.drop_left' e2, mk_back]
    obtain ⟨k, n, s⟩ := x
    simp only at h4 hn
    subst h4 hn
    rfl
theorem readF_back (l : List It) (m f : Nat) (hm : m + l.length ≤ 1000) (hl : ∀ x ∈ l, faultF x = 0 ∧ 0 ≤ x.n) (hf : l.length < f) :
    readF f [] m (l.map fun x => letterF x.k) (l.flatMap itemB) = (l, 0) := by
  induction l generalizing m f with
  | nil =>
    obtain ⟨g, rfl⟩ : ∃ g, f = g + 1 := ⟨f - 1, by simp at hf; omega⟩
    simp [readF]
  | cons x l ih =>
    obtain ⟨g, rfl⟩ : ∃ g, f = g + 1 := ⟨f - 1, by simp at hf; omega⟩
    obtain ⟨h1, h2⟩ := hl x (by simp)
    have h3 := ih (m + 1) g (by simp at hm; omega) (fun y hy => hl y (by simp [hy])) (by simp at hf; omega)
    rw [List.map_cons, List.flatMap_cons, readF, itemF_item x _ h1 h2]
    simp only [List.length_cons] at hm
    rw [if_neg (by omega), if_pos rfl, h3, if_pos rfl]
theorem indexByte_none (l : List UInt8) (c : UInt8) (h : ∀ x ∈ l, x ≠ c) : Lib.indexByte l c = -1 := by
  induction l with
  | nil => rfl
  | cons b l ih =>
    have h1 : (b == c) = false := by simpa using h b (by simp)
    have h2 := ih fun x hx => h x (by simp [hx])
    simp [Lib.indexByte, h1, h2]
theorem cutStar_letters (l : List UInt8) (h : ∀ x ∈ l, x ≠ 42) : cutStar l = (l, [], false) := by
  unfold cutStar
  rw [indexByte_none l 42 h, if_pos (by omega)]
theorem letters_star (l : List It) : ∀ x ∈ (l.map fun x => letterF x.k), x ≠ 42 := by
  intro x hx
  obtain ⟨y, _, rfl⟩ := List.mem_map.1 hx
  exact letterF_ne y.k
theorem letters_all (l : List It) (h : ∀ x ∈ l, kindB x.k = true) : allL (l.map fun x => letterF x.k) = true := by
  unfold allL
  rw [List.all_eq_true]
  intro x hx
  obtain ⟨y, hy, rfl⟩ := List.mem_map.1 hx
  exact isLetter_letterF y.k (h y hy)
theorem shapeOk_letters (l : List It) (h : ∀ x ∈ l, kindB x.k = true) : shapeOk (l.map fun x => letterF x.k) = true := by
  unfold shapeOk
  rw [cutStar_letters _ (letters_star l)]
  simp only [Bool.false_and, Bool.not_false, Bool.true_and]
  rw [letters_all l h]
  rfl
theorem decF_letters (l : List It) (s : List UInt8) (h : ∀ x ∈ l, kindB x.k = true) : decF (l.map fun x => letterF x.k) s = readF (2 * s.length + 2) [] 0 (l.map fun x => letterF x.k) s := by
  unfold decF
  rw [shapeOk_letters l h, if_pos rfl, cutStar_letters _ (letters_star l)]
theorem firstFault_zero (l : List It) : firstFault l = 0 ↔ ∀ x ∈ l, faultF x = 0 := by
  induction l with
  | nil => simp [firstFault]
  | cons x l ih =>
    simp only [firstFault, List.mem_cons, forall_eq_or_imp]
    by_cases h : faultF x = 0
    · rw [if_pos h, ih]; simp [h]
    · rw [if_neg h]; simp [h]
theorem itemB_pos (x : It) : 1 ≤ (itemB x).length := by
  unfold itemB
  rw [List.length_append, Lib.beBytes_length]
  have : 1 ≤ widthN x.k := by
    unfold widthN
    split
    · omega
    · split <;> omega
  omega
theorem items_le (l : List It) : l.length ≤ (l.flatMap itemB).length := by
  induction l with
  | nil => simp
  | cons x l ih =>
    have := itemB_pos x
    rw [List.flatMap_cons, List.length_append, List.length_cons]
    omega
theorem encF_zero (l : List It) (h : (encF l).2 = 0) : l.length ≤ 1000 ∧ (∀ x ∈ l, faultF x = 0) ∧ encF l = (l.flatMap itemB, 0) := by
  unfold encF at *
  by_cases h1 : 1000 < l.length
  · rw [if_pos h1] at h; simp at h
  · rw [if_neg h1] at h ⊢
    by_cases h2 : firstFault l = 0
    · rw [if_pos h2]
      exact ⟨by omega, (firstFault_zero l).1 h2, rfl⟩
    · rw [if_neg h2] at h
      exact absurd h h2
theorem shapeF_ok (l : List It) (h : ∀ x ∈ l, kindB x.k = true) : shapeF l = (l.map fun x => letterF x.k, 0) := by
  unfold shapeF
  rw [if_pos]
  rw [List.all_eq_true]
  exact h
theorem back_pure (l : List It) (h : (encF l).2 = 0) (hn : ∀ x ∈ l, 0 ≤ x.n) : (shapeF l).2 = 0 ∧ decF (shapeF l).1 (encF l).1 = (l, 0) := by
  obtain ⟨h1, h2, h3⟩ := encF_zero l h
  have hk : ∀ x ∈ l, kindB x.k = true := fun x hx => fault_kind x (h2 x hx)
  rw [shapeF_ok l hk, h3]
  refine ⟨rfl, ?_⟩
  show decF (l.map fun x => letterF x.k) (l.flatMap itemB) = (l, 0)
  rw [decF_letters l _ hk]
  exact readF_back l 0 _ (by omega) (fun x hx => ⟨h2 x hx, hn x hx⟩) (by have := items_le l; omega)
end Go.Proofs.YtmkkcgkakomacaaGreat.K
namespace Go.Proofs.YtmkkcgkakomacaaGreat.K
open Go.ChangeShapes Go.WideShapes Go.ChangeAt Go.RowKit
theorem own : ownKnob Tryz.prog.godebug = none := by kernel_rfl
theorem laidOut : laidOutB Tryz.prog = true := by kernel_rfl
end Go.Proofs.YtmkkcgkakomacaaGreat.K
namespace Go.Proofs.YtmkkcgkakomacaaGreat.K
open Go.RowKit
theorem items_news {w : World} {ad : Addr} {l : List It} (h : ItemsAt w (some ad) l) : ∀ (j : Nat) (u : Value), (itemCells l)[j]? = some u → w.cell? (ad.add j) = some u := by
  intro j u hj
  have hjl : j < (itemCells l).length := (List.getElem?_eq_some_iff.1 hj).1
  rw [itemCells_length] at hjl
  have hi : j / 3 < l.length := by omega
  obtain ⟨b, off, hb, _, c0, c1, c2⟩ := h (j / 3) hi
  injection hb with hb
  subst hb
  have hm : j % 3 = 0 ∨ j % 3 = 1 ∨ j % 3 = 2 := by omega
  have e : j = j / 3 * 3 + j % 3 := by omega
  have hg := itemCells_get l (j / 3) (j % 3) hi (by omega)
  rw [← e, hj] at hg
  rw [addr_add]
  rcases hm with hm | hm | hm
  · rw [hm] at hg e
    have : u = .int .i64 l[j / 3].k := by simpa [It.cells] using hg
    rw [this, ← c0]
    congr 2
    omega
  · rw [hm] at hg e
    have : u = .int .u64 l[j / 3].n := by simpa [It.cells] using hg
    rw [this, ← c1]
    congr 2
    omega
  · rw [hm] at hg e
    have : u = .string l[j / 3].s := by simpa [It.cells] using hg
    rw [this, ← c2]
    congr 2
    omega
theorem itemCells_one (l : List It) : ∀ u ∈ itemCells l, u.oneCell' = true := by
  intro u hu
  obtain ⟨x, _, hx⟩ := List.mem_flatMap.1 hu
  simp [It.cells] at hx
  rcases hx with rfl | rfl | rfl <;> rfl
theorem itemCells_append (k l : List It) : itemCells (k ++ l) = itemCells k ++ itemCells l := by simp [itemCells]
theorem wpList_append_items {w : World} {ops : Array Oper} {rest : List Oper} {o : Oper} {a : Act} {Q : Exit → Act → World → Prop} (hgd : o.guard = none) (s x : Operand)
    (ho : o.op = .call { callee := .builtin .append, args := #[s, x], argTypes := #[66, 66] }) (base : Nat) (v : Value) (k : List It) (hs : a.eval s = v) (hown : w.ownsRow base 83 3 v k.length (itemCells k))
    (xo : Option Addr) (xcap : Nat) (l : List It) (hx : a.eval x = .slice xo l.length xcap) (hnil : xo = none → xcap = 0 ∧ l = []) (hat : ItemsAt w xo l) (hlen : k.length + l.length ≤ 4398046511104) (hbase : base ≤ w.heap.size)
    (h : ∀ v' w', w'.ownsRow base 83 3 v' (k ++ l).length (itemCells (k ++ l)) → w.grownBy w' v.ownBlock → wpList Tryz.prog ops Q rest (a.put o.dst v') w') : wpList Tryz.prog ops Q (o :: rest) a w := by
  cases xo with
  | none =>
    obtain ⟨rfl, rfl⟩ := hnil rfl
    refine wpList_append_own_none hgd s x 66 ho base 83 Tryz.t83 3 Tryz.underlying66 Tryz.info83 v k.length (itemCells k) hs hown hx ?_
    exact h v w (by rw [List.append_nil]; exact hown) ⟨rfl, rfl, rfl, Nat.le_refl _, fun _ _ _ => rfl⟩
  | some ad =>
    refine wpList_append_own w hgd s x 66 ho base 83 Tryz.t83 (.agg #[.int .i64 0, .int .u64 0, .string ⟨#[]⟩]) 3 32 Tryz.underlying66 Tryz.info83 Tryz.zero83 Tryz.cells83 Tryz.bytes83 rfl (by decide) v k.length (itemCells k) hs hown
      ad l.length xcap (itemCells l) hx (itemCells_length l) (items_news hat) (itemCells_one l) (by unfold maxLen; omega) (by omega) hbase ?_
    intro v' w' h1 h2 _
    exact h v' w' (by rw [List.length_append, itemCells_append]; exact h1) h2
end Go.Proofs.YtmkkcgkakomacaaGreat.K
