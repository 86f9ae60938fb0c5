/-
  The program's Encode (mkqe.py)
-/
import Derived.Test.YtfcpclpaalekiaaZKW8
import Derived.ProofKit
import Derived.OpenShut
import Derived.ShutString
import Derived.ChangeOld
import Derived.SizedLaws
import Derived.Deep.Slices
import Derived.Deep.Strs
import Derived.Test.YtfcpclpaalekiaaZV3
import Derived.Test.YtfcpclpaalekiaaZKScope
namespace Go.Proofs.Ytfcpclpaalekiaa.K
open Go.RowKit
set_option maxHeartbeats 400000
theorem builder_kept {T e : TypeId} {B b : Nat} {bs : List Value} {w w' : World} (h : Lib.IsBuilderF T e B b bs w) (hk : ∀ i, i < w.heap.size → w'.heap[i]? = w.heap[i]?) : Lib.IsBuilderF T e B b bs w' := by
  have key : ∀ p, Lib.BuilderAtF T e B b p bs w → Lib.BuilderAtF T e B b p bs w' := by
    rintro p ⟨h1, v, h2, ⟨h3, h4⟩, h5⟩
    refine ⟨h1, v, by rw [hk b (Array.getElem?_eq_some_iff.1 h2).1]; exact h2, ⟨h3, ?_⟩, h5⟩
    rcases h4 with h4 | ⟨g, cap, cur, fz, hv, hg, hh, r⟩
    · exact Or.inl h4
    · exact Or.inr ⟨g, cap, cur, fz, hv, hg, by rw [hk g (Array.getElem?_eq_some_iff.1 hh).1]; exact hh, r⟩
  exact h.imp (key _) (key _)
theorem builder_alloc {T e : TypeId} {B b : Nat} {bs : List Value} {w : World} (h : Lib.IsBuilderF T e B b bs w) (o : Obj) : Lib.IsBuilderF T e B b bs (w.alloc o) :=
  builder_kept h fun i hi => Lib.alloc_old w o i hi
theorem builder_lt {T e : TypeId} {B b : Nat} {bs : List Value} {w : World} (h : Lib.IsBuilderF T e B b bs w) : b < w.heap.size := by
  rcases h with h | h
  · obtain ⟨_, v, h2, _⟩ := h; exact (Array.getElem?_eq_some_iff.1 h2).1
  · obtain ⟨_, v, h2, _⟩ := h; exact (Array.getElem?_eq_some_iff.1 h2).1
theorem box_kept {w w' : World} {b : Nat} {x0 x1 x2 : Value} (hb : b < w.heap.size) (h : Lib.OthersKept 5 (some b) (w.alloc (.cells #[x0, x1, x2] 66)) w') :
    w'.cell? ⟨w.heap.size, 0, none⟩ = some x0 ∧ w'.cell? ⟨w.heap.size, 1, none⟩ = some x1 ∧ w'.cell? ⟨w.heap.size, 2, none⟩ = some x2 := by
  have h1 : (w.alloc (.cells #[x0, x1, x2] 66)).heap[w.heap.size]? = some (.cells #[x0, x1, x2] 66) := by
    show (w.heap.push _)[w.heap.size]? = _
    simp
  have h2 := h _ _ h1 (by intro e; injection e with e; omega) (by intro c fz e; injection e with e1 e2; exact absurd e2 (by decide))
  exact ⟨by rw [Lib.cell_of_heap h2]; rfl, by rw [Lib.cell_of_heap h2]; rfl, by rw [Lib.cell_of_heap h2]; rfl⟩
theorem writeItem_any (B b : Nat) (bs : List Value) (x : It) (w : World) (hx : x.ok) (hsl : x.s.size ≤ 100000) (hlen : bs.length ≤ 900000000)
    (h : Lib.IsBuilderF 85 5 B b bs w) (hBw : B ≤ w.heap.size) :
    Calls Try.prog 44 #[.pointer (some ⟨b, 0, none⟩), .agg #[.int .i64 x.k, .int .u64 x.n, .string x.s]] w fun e w' => e = .returned (.tuple #[]) ∧ Lib.IsBuilderF 85 5 B b (bs ++ Lib.byteCells (itemB x)) w' ∧ Below B w w' := by
  obtain ⟨k, n, s⟩ := x
  obtain ⟨_, _, h0, h1, _⟩ := hx
  simp only at h0 h1 hsl
  obtain ⟨m, rfl⟩ := Int.eq_ofNat_of_zero_le h0
  have HB := hide h
  have HW := hide (fun w => width_any k w)
  have hb := builder_lt h
  clear h
  have e1 : itemB ⟨k, m, s⟩ = Lib.beBytes (widthN k) (if k = 4 then s.size else m) ++ s.data.toList := by simp [itemB, numOf]
  rw [e1]
  clear e1
  have hz := widthN_le k
  have hz0 := widthN_pos k
  by_cases h4 : k = 4
  · subst h4
    rw [if_pos rfl]
    generalize widthN 4 = z at *
    go_enter Try.func44, Try.ntmps44
    go_wp2_with fail
    refine (HW.out _).mono ?_
    rintro e w' ⟨rfl, rfl⟩
    go_wp2_with fail
    refine (writeNumber_any B b bs s.size z _ (by omega) hz hz0 (by omega) (builder_alloc HB.out _) (by simp; omega)).mono ?_
    rintro e w2 ⟨rfl, g1, g2, g3⟩
    obtain ⟨c0, c1, c2⟩ := box_kept hb g3
    clear g3 c0 c1
    have G1 := hide g1
    have G2 := hide g2
    clear g1 g2
    go_wp2_with fail
    refine (Try.WriteString B b _ s _ G1.out (by simp [Lib.byteCells, Lib.beBytes_length]; omega) (by have := G2.out.size; simp at this; omega)).mono ?_
    rintro e w3 ⟨rfl, g4, g5, g6⟩
    clear g6
    have G4 := hide g4
    have G5 := hide g5
    clear g4 g5
    go_wp2
    go_end0
    refine ⟨rfl, ?_, ((Below.refl _ _).alloc hBw _).trans (G2.out.trans G5.out)⟩
    rw [Lib.byteCells, List.map_append, ← List.append_assoc]
    exact Or.inr G4.out
  · have h5 : (k == 4) = false := by rw [beq_eq_false_iff_ne]; exact h4
    rw [if_neg h4]
    clear h4
    generalize widthN k = z at *
    go_enter Try.func44, Try.ntmps44
    go_wp2_with fail
    refine (HW.out _).mono ?_
    rintro e w' ⟨rfl, rfl⟩
    go_wp2_with fail
    refine (writeNumber_any B b bs m z _ (by omega) hz hz0 (by omega) (builder_alloc HB.out _) (by simp; omega)).mono ?_
    rintro e w2 ⟨rfl, g1, g2, g3⟩
    obtain ⟨c0, c1, c2⟩ := box_kept hb g3
    clear g3 c0 c1
    have G1 := hide g1
    have G2 := hide g2
    clear g1 g2
    go_wp2_with fail
    refine (Try.WriteString B b _ s _ G1.out (by simp [Lib.byteCells, Lib.beBytes_length]; omega) (by have := G2.out.size; simp at this; omega)).mono ?_
    rintro e w3 ⟨rfl, g4, g5, g6⟩
    clear g6
    have G4 := hide g4
    have G5 := hide g5
    clear g4 g5
    go_wp2
    go_end0
    refine ⟨rfl, ?_, ((Below.refl _ _).alloc hBw _).trans (G2.out.trans G5.out)⟩
    rw [Lib.byteCells, List.map_append, ← List.append_assoc]
    exact Or.inr G4.out
end Go.Proofs.Ytfcpclpaalekiaa.K
namespace Go.Proofs.Ytfcpclpaalekiaa.K
open Go.RowKit
set_option maxHeartbeats 800000
def ItemsAt (w : World) (ao : Option Addr) (l : List It) : Prop :=
  ∀ i (h : i < l.length), ∃ b off, ao = some ⟨b, off, none⟩ ∧ b < w.heap.size ∧ w.cell? ⟨b, off + i * 3, none⟩ = some (.int .i64 l[i].k) ∧ w.cell? ⟨b, off + i * 3 + 1, none⟩ = some (.int .u64 l[i].n) ∧ w.cell? ⟨b, off + i * 3 + 2, none⟩ = some (.string l[i].s)
theorem firstFault_append (a b : List It) : firstFault (a ++ b) = if firstFault a = 0 then firstFault b else firstFault a := by
  induction a with
  | nil => simp [firstFault]
  | cons x a ih =>
    simp only [List.cons_append, firstFault, ih]
    by_cases h : faultF x = 0
    · simp [h]
    · simp [h]
theorem take_next (l : List It) (k : Nat) (h : k < l.length) : l.take (k + 1) = l.take k ++ [l[k]] := List.take_succ_eq_append_getElem h
theorem firstFault_next (l : List It) (k : Nat) (h : k < l.length) (h0 : firstFault (l.take k) = 0) : firstFault (l.take (k + 1)) = faultF l[k] := by
  rw [take_next l k h, firstFault_append, if_pos h0]
  simp only [firstFault]
  split
  · rename_i h1; exact h1.symm
  · rfl
theorem firstFault_hit (l : List It) (k : Nat) (h : k < l.length) (h0 : firstFault (l.take k) = 0) (h1 : faultF l[k] ≠ 0) : firstFault l = faultF l[k] := by
  have h2 := firstFault_next l k h h0
  have e : firstFault l = firstFault (l.take (k + 1) ++ l.drop (k + 1)) := by rw [List.take_append_drop]
  rw [e, firstFault_append, h2, if_neg h1]
theorem firstFault_all (l : List It) (h : firstFault l = 0) : ∀ x ∈ l, faultF x = 0 := by
  induction l with
  | nil => simp
  | cons x l ih =>
    simp only [firstFault] at h
    split at h
    · rename_i h1
      intro y hy
      rcases List.mem_cons.1 hy with rfl | hy
      · exact h1
      · exact ih h y hy
    · rename_i h1; exact absurd h h1
theorem fault_size (x : It) (h : faultF x = 0) : x.s.size ≤ 100000 := by
  unfold faultF at h
  repeat' split at h
  all_goals first | omega | exact absurd h (by decide)
theorem itemB_length (x : It) (h : x.s.size ≤ 100000) : (itemB x).length ≤ 100008 := by
  have := widthN_le x.k
  unfold itemB
  rw [List.length_append, Lib.beBytes_length, size_list]
  omega
theorem itemsB_length (l : List It) (h : ∀ x ∈ l, faultF x = 0) : (l.flatMap itemB).length ≤ 100008 * l.length := by
  induction l with
  | nil => simp
  | cons x l ih =>
    have h1 := itemB_length x (fault_size x (h x (by simp)))
    have h2 := ih fun y hy => h y (by simp [hy])
    rw [List.flatMap_cons, List.length_append, List.length_cons]
    omega
theorem encF_hit (l : List It) (hlen : l.length ≤ 1000) (h : firstFault l ≠ 0) : encF l = ([], firstFault l) := by
  unfold encF
  rw [if_neg (by omega), if_neg h]
theorem encF_ok (l : List It) (hlen : l.length ≤ 1000) (h : firstFault l = 0) : encF l = (l.flatMap itemB, 0) := by
  unfold encF
  rw [if_neg (by omega), if_pos h]
theorem encode_few (ao : Option Addr) (cap : Nat) (l : List It) (w : World) (hc : ItemsAt w ao l) (hok : ∀ x ∈ l, x.ok) (hlen : l.length ≤ 1000) (R : List UInt8 × Int) (hR : encF l = R) :
    Calls Try.prog 29 #[.slice ao l.length cap] w fun e w' => e = .returned (.tuple #[.string ⟨R.1.toArray⟩, .int .i64 R.2]) ∧ Below w.heap.size w w' := by
  have HC := hide hc
  have HO := hide hok
  have HR := hide hR
  clear hc hok hR
  have h1000 : ¬ 1000 < (l.length : Int) := by omega
  go_enter Try.func29, Try.ntmps29
  go_wp2
  go_loopw [4, 16] (fun sz i wr => ∃ k m : Nat, k ≤ l.length ∧ i = .int .i64 k ∧ sz = .int .i64 m ∧ m ≤ 100008 * k ∧ Hid (firstFault (l.take k) = 0) ∧ Hid (Below w.heap.size w wr)) (fun _ i _ => l.length - (intOf i).toNat)
  case atStart => exact ⟨0, 0, Nat.zero_le _, rfl, rfl, by omega, rfl, Below.refl _ _⟩
  case round =>
    obtain ⟨k, m, hk, rfl, rfl, hm, HF, HB⟩ := hrel
    by_cases hlt : k < l.length
    · obtain ⟨b, off, rfl, hb, c0, c1, c2⟩ := HC.out k hlt
      have HX := hide (HO.out l[k] (List.getElem_mem hlt))
      have d0 := (HB.out.cell (p := ⟨b, off + k * 3, none⟩) hb).trans c0
      have d1 := (HB.out.cell (p := ⟨b, off + k * 3 + 1, none⟩) hb).trans c1
      have d2 := (HB.out.cell (p := ⟨b, off + k * 3 + 2, none⟩) hb).trans c2
      clear c0 c1 c2
      have HI := hide (fun w => itemFault_any l[k] w HX.out)
      have HW := hide (fun w => width_any l[k].k w)
      have HH := hide (firstFault_hit l k hlt HF.out)
      have HT := hide (firstFault_next l k hlt HF.out)
      have HZ := hide (fault_size l[k])
      generalize l[k] = x at *
      generalize faultF x = f at *
      by_cases hf : f = 0
      · have hsz := HZ.out hf
        have hwz := widthN_le x.k
        have hf2 : (f != 0) = false := by simp [hf]
        have HN : Hid (firstFault (l.take (k + 1)) = 0) := HT.out.trans hf
        clear HT HH hf HZ
        go_wp2_with fail
        refine (HI.out _).mono ?_
        rintro e w2 ⟨rfl, hb2⟩
        have HB2 := hide (HB.out.trans ((((Below.refl wr.heap.size wr).alloc (Nat.le_refl _) _).trans (hb2.mono (by simp))).mono HB.out.size))
        have hcc := (bcell hb2).1
        simp at hcc
        have g0 := hcc wr.heap.size 0 (by omega)
        have g1 := hcc wr.heap.size 1 (by omega)
        have g2 := hcc wr.heap.size 2 (by omega)
        simp at g0 g1 g2
        clear hcc hb2
        go_wp2
        go_quiet ((go_at_call 42; exact Calls.quiet_of_same (HW.out _)))
        go_wp2
        go_roundw
        case rel => exact ⟨k + 1, m + (widthN x.k + x.s.size), by omega, by go_num, by go_num, by omega, HN, below_drewN HB2.out nq⟩
        case measure => simp [intOf]; omega
      · have hf2 : (f != 0) = true := by rw [bne_iff_ne]; exact hf
        have HE : Hid (R = ([], f)) := by
          show R = ([], f)
          rw [← HR.out, encF_hit l hlen (by rw [HH.out hf]; exact hf), HH.out hf]
        clear HT HH hf HZ
        go_wp2_with fail
        refine (HI.out _).mono ?_
        rintro e w2 ⟨rfl, hb2⟩
        have HB2 := hide (HB.out.trans ((((Below.refl wr.heap.size wr).alloc (Nat.le_refl _) _).trans (hb2.mono (by simp))).mono HB.out.size))
        clear hb2
        go_wp2
        go_ret2
        exact ⟨ret2 (by rw [HE.out]; rfl) (by rw [HE.out]; rfl), HB2.out⟩
    · have HE : Hid (R = (l.flatMap itemB, 0)) := by
        show R = _
        have h0 := HF.out
        rw [List.take_of_length_le (by omega)] at h0
        rw [← HR.out, encF_ok l hlen h0]
      have HA : Hid (∀ x ∈ l, faultF x = 0) := by
        have h0 := HF.out
        rw [List.take_of_length_le (by omega)] at h0
        exact firstFault_all l h0
      have hbs := HB.out.size
      clear HF
      go_wp2_with fail
      refine (Try.Grow w.heap.size wr.heap.size m _ hbs (by show (wr.heap.push _)[wr.heap.size]? = _; simp) (by simp; omega) (by omega)).mono ?_
      rintro e w2 ⟨rfl, h1, h2⟩
      have HG : Hid (Lib.IsBuilderF 85 5 w.heap.size wr.heap.size (Lib.byteCells []) w2 ∧ Below w.heap.size w w2) :=
        ⟨Or.inr (Lib.BuilderAtF.of h1), (HB.out.alloc hbs _).trans h2⟩
      clear h1 h2
      generalize wr.heap.size = bb at *
      go_wp2
      go_loopw [39] (fun i wv => ∃ k : Nat, k ≤ l.length ∧ i = .int .i64 k ∧ Hid (Lib.IsBuilderF 85 5 w.heap.size bb (Lib.byteCells ((l.take k).flatMap itemB)) wv ∧ Below w.heap.size w wv)) (fun i _ => l.length - (intOf i).toNat)
      case atStart => exact ⟨0, Nat.zero_le _, rfl, HG⟩
      case round =>
        obtain ⟨q, hq, rfl, HV⟩ := hrel
        by_cases hql : q < l.length
        · obtain ⟨b, off, rfl, hb, c0, c1, c2⟩ := HC.out q hql
          have HX := hide (HO.out l[q] (List.getElem_mem hql))
          have hsz := fault_size l[q] (HA.out l[q] (List.getElem_mem hql))
          have d0 := (HV.out.2.cell (p := ⟨b, off + q * 3, none⟩) hb).trans c0
          have d1 := (HV.out.2.cell (p := ⟨b, off + q * 3 + 1, none⟩) hb).trans c1
          have d2 := (HV.out.2.cell (p := ⟨b, off + q * 3 + 2, none⟩) hb).trans c2
          clear c0 c1 c2
          have HT := hide (take_next l q hql)
          have hln : (Lib.byteCells ((l.take q).flatMap itemB)).length ≤ 900000000 := by
            have h1 := itemsB_length (l.take q) (fun x hx => HA.out x (List.mem_of_mem_take hx))
            have h2 := List.length_take_le q l
            have h3 : (l.take q).length ≤ 1000 := by rw [List.length_take]; omega
            simp only [Lib.byteCells, List.length_map]
            omega
          generalize l[q] = x at *
          have hvs := HV.out.2.size
          go_wp2_with fail
          refine (writeItem_any w.heap.size bb _ x _ HX.out hsz hln (builder_alloc HV.out.1 _) (by simp; omega)).mono ?_
          rintro e w3 ⟨rfl, g1, g2⟩
          have HN : Hid (Lib.IsBuilderF 85 5 w.heap.size bb (Lib.byteCells ((l.take (q + 1)).flatMap itemB)) w3 ∧ Below w.heap.size w w3) := by
            refine ⟨?_, (HV.out.2.alloc hvs _).trans g2⟩
            rw [HT.out, List.flatMap_append, List.flatMap_singleton]
            rw [Lib.byteCells, List.map_append]
            exact g1
          clear g1 g2 HT hln
          go_wp2
          go_roundw
          case rel => exact ⟨q + 1, by omega, by go_num, HN⟩
          case measure => simp [intOf]; omega
        · have e1 : l.take q = l := List.take_of_length_le (by omega)
          rw [e1] at HV
          clear e1
          have hvs := HV.out.2.size
          go_wp2_with fail
          refine (Try.BString w.heap.size bb (l.flatMap itemB) _ HV.out.1 hvs).mono ?_
          rintro e w3 ⟨rfl, g1, g2, g3⟩
          have HN := hide (HV.out.2.trans g2)
          clear g1 g2 g3
          go_wp2
          go_ret2
          exact ⟨ret2 (by rw [HE.out]; rfl) (by rw [HE.out]; rfl), HN.out⟩
theorem encode_many (ao : Option Addr) (n cap : Nat) (w : World) (hn : 1000 < n) (hm : n ≤ maxLen) :
    Calls Try.prog 29 #[.slice ao n cap] w fun e w' => e = .returned (.tuple #[.string ⟨#[]⟩, .int .i64 3]) ∧ Below w.heap.size w w' := by
  unfold maxLen at hm
  have h1 : 1000 < (n : Int) := by omega
  go_enter Try.func29, Try.ntmps29
  go_wp2
  go_ret2
  exact ⟨rfl, Below.refl _ _⟩
theorem encode_any (ao : Option Addr) (cap : Nat) (l : List It) (w : World) (hc : ItemsAt w ao l) (hok : ∀ x ∈ l, x.ok) (hlen : l.length ≤ maxLen) :
    Calls Try.prog 29 #[.slice ao l.length cap] w fun e w' => e = .returned (.tuple #[.string ⟨(encF l).1.toArray⟩, .int .i64 (encF l).2]) ∧ Below w.heap.size w w' := by
  by_cases h : 1000 < l.length
  · have e : encF l = ([], 3) := by unfold encF; rw [if_pos h]
    rw [e]
    exact encode_many ao l.length cap w h hlen
  · exact encode_few ao cap l w hc hok (by omega) _ rfl
end Go.Proofs.Ytfcpclpaalekiaa.K
namespace Go.Proofs.Ytfcpclpaalekiaa.K
open Go.RowKit
end Go.Proofs.Ytfcpclpaalekiaa.K
namespace Go.Proofs.Ytfcpclpaalekiaa.K
open Go.RowKit
theorem ItemsAt.below {w w' : World} {ao : Option Addr} {l : List It} (h : ItemsAt w ao l) (hb : Below w.heap.size w w') : ItemsAt w' ao l := by
  intro i hi
  obtain ⟨b, off, h1, h2, h3, h4, h5⟩ := h i hi
  refine ⟨b, off, h1, by have := hb.size; omega, ?_, ?_, ?_⟩
  · exact (hb.cell (p := ⟨b, off + i * 3, none⟩) h2).trans h3
  · exact (hb.cell (p := ⟨b, off + i * 3 + 1, none⟩) h2).trans h4
  · exact (hb.cell (p := ⟨b, off + i * 3 + 2, none⟩) h2).trans h5
end Go.Proofs.Ytfcpclpaalekiaa.K
namespace Go.Proofs.Ytfcpclpaalekiaa.K
open Go.ChangeShapes Go.WideShapes Go.ChangeAt Go.RowKit Go.Deep
theorem Try.cellsString : Try.prog.cellsOf 9 = 1 := by kernel_rfl
theorem addr_add (b off n : Nat) : (⟨b, off, none⟩ : Addr).add n = ⟨b, off + n, none⟩ := by
  unfold Addr.add
  split
  · rename_i h; subst h; rfl
  · rfl
end Go.Proofs.Ytfcpclpaalekiaa.K
namespace Go.Proofs.Ytfcpclpaalekiaa.K
open Go.ChangeShapes Go.WideShapes Go.ChangeAt Go.RowKit
theorem own : ownKnob Try.prog.godebug = none := by kernel_rfl
theorem laidOut : laidOutB Try.prog = true := by kernel_rfl
end Go.Proofs.Ytfcpclpaalekiaa.K
namespace Go.Proofs.Ytfcpclpaalekiaa
open Go.RowKit Go.Shelf
set_option maxHeartbeats 8000000
set_option maxRecDepth 100000
attribute [local go_sem] Oper.semAt_some
set_option linter.unusedSimpArgs false
set_option linter.unusedVariables false
theorem pencode : EncodeSays := by
  intro x ao cp w hM hl
  have HB := hide ((Below.refl w.heap.size w).alloc (Nat.le_refl _) (.cells #[.int .i64 x.num, .slice ao x.mem.length cp] tView))
  have HD := hide (heap_alloc_new w (.cells #[.int .i64 x.num, .slice ao x.mem.length cp] tView))
  have HP := hide (pright x ao cp _ (hM.below HB.out) hl)
  simp only [VW.v] at HP ⊢
  by_cases hr : x.right
  · rw [if_pos hr, if_pos hr]
    rw [decide_eq_true hr] at HP
    obtain ⟨A', hA'⟩ := rm_list x.mem (mem_right hr)
    have hAl : A'.length = x.mem.length := by rw [← hA', List.length_map]
    have h7 := hr.2.2.2.1
    have hcode : Hid (K.encF (itemsV x) = (codeV x, 0)) := encV hr
    have hit : itemsUpto x.num A' = itemsV x := by unfold itemsUpto itemsV; rw [hA']
    have hil := itemsV_len x
    have HI : Hid (∀ W, MemsAt W ao x.mem → Calls Try.prog 40 #[.agg #[.int .i64 x.num, .slice ao x.mem.length cp]] W fun e w' => ∃ oo oc, e = .returned (.slice oo (itemsV x).length oc) ∧ w'.ownsRow W.heap.size tItem 3 (.slice oo (itemsV x).length oc) (itemsV x).length (itCells (itemsV x)) ∧ Below W.heap.size W w') := fun W h => by
      have := pitems x.num A' ao cp W ⟨hr.1, hr.2.1⟩ (by rw [hA']; exact h) (by omega)
      rw [hAl, hit, ← hil] at this
      exact this
    have HE : Hid (∀ W oo oc, ItsAt W oo (itemsV x) → Calls Try.prog 29 #[.slice oo (itemsV x).length oc] W fun e w' => e = .returned (.tuple #[.string ⟨(codeV x).toArray⟩, .int .i64 0]) ∧ Below W.heap.size W w') := fun W oo oc h => by
      have := K.encode_any oo oc (itemsV x) W h (itemsV_ok hr) (by unfold maxLen; omega)
      rw [hcode.out] at this
      exact this
    have HM := hide hM
    generalize (codeV x).toArray = cd at *
    generalize hq : itemsV x = IV at *
    clear hr hcode hA' hAl hit hil h7 hM hq
    generalize x.mem.length = n at *
    generalize x.num = num at *
    have y0 := box_cell HD.out 0 rfl
    have y1 := box_cell HD.out 1 rfl
    go_enter Try.func27, Try.ntmps27
    go_wp2_with (first
      | (go_at_call 39; refine HP.out.mono ?_; rintro e w2 ⟨rfl, b2⟩; have B2 : Hid (Below w.heap.size w w2) := HB.out.trans (b2.mono HB.out.size); have z0 := (b2.cell (p := ⟨w.heap.size, 0, none⟩) (heap_lt HD.out)).trans y0; have z1 := (b2.cell (p := ⟨w.heap.size, 1, none⟩) (heap_lt HD.out)).trans y1; clear b2)
      | (go_at_call 40; refine (HI.out _ (HM.out.below B2.out)).mono ?_; rintro e w3 ⟨oo, oc, rfl, h3, b3⟩; have R3 := hide (its_of_row h3 rfl); have B3 : Hid (Below w.heap.size w w3) := B2.out.trans (b3.mono B2.out.size); clear b3 h3)
      | (go_at_call 29; refine (HE.out _ _ _ R3.out).mono ?_; rintro e w4 ⟨rfl, b4⟩; have B4 : Hid (Below w.heap.size w w4) := B3.out.trans (b4.mono B3.out.size); clear b4))
    go_ret2
    exact ⟨rfl, B4.out⟩
  · rw [if_neg hr, if_neg hr]
    rw [decide_eq_false hr] at HP
    clear hr hM
    generalize x.mem.length = n at *
    generalize x.num = num at *
    go_enter Try.func27, Try.ntmps27
    go_wp2_with (go_at_call 39; refine HP.out.mono ?_; rintro e w2 ⟨rfl, b2⟩; have B2 : Hid (Below w.heap.size w w2) := HB.out.trans (b2.mono HB.out.size); clear b2)
    go_ret2
    exact ⟨rfl, B2.out⟩
end Go.Proofs.Ytfcpclpaalekiaa
