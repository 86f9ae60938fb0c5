import Derived.Test.YtnbomaalncjkeaaW9
namespace Go.Proofs.Ytnbomaalncjkeaa
open Go.RowKit

/-- A list of items lies in memory, from an address on. -/
def ItemsAt (w : World) (ao : Option Addr) (l : List It) : Prop :=
  ∀ i (h : i < l.length), ∃ b off, ao = some ⟨b, off, none⟩ ∧ b < w.heap.size ∧ w.cell? ⟨b, off + i * 3, none⟩ = some (.int .i64 l[i].k) ∧ w.cell? ⟨b, off + i * 3 + 1, none⟩ = some (.int .u64 l[i].n) ∧ w.cell? ⟨b, off + i * 3 + 2, none⟩ = some (.string l[i].s)

theorem firstFault_append (a b : List It) : firstFault (a ++ b) = if firstFault a = 0 then firstFault b else firstFault a := by
  induction a with
  | nil => simp [firstFault]
  | cons x a ih =>
    simp only [List.cons_append, firstFault, ih]
    by_cases h : faultF x = 0
    · simp [h]
    · simp [h]
theorem take_next (l : List It) (k : Nat) (h : k < l.length) : l.take (k + 1) = l.take k ++ [l[k]] := List.take_succ_eq_append_getElem h
theorem firstFault_next (l : List It) (k : Nat) (h : k < l.length) (h0 : firstFault (l.take k) = 0) : firstFault (l.take (k + 1)) = faultF l[k] := by
  rw [take_next l k h, firstFault_append, if_pos h0]
  simp only [firstFault]
  split
  · rename_i h1; exact h1.symm
  · rfl
theorem firstFault_hit (l : List It) (k : Nat) (h : k < l.length) (h0 : firstFault (l.take k) = 0) (h1 : faultF l[k] ≠ 0) : firstFault l = faultF l[k] := by
  have h2 := firstFault_next l k h h0
  have e : firstFault l = firstFault (l.take (k + 1) ++ l.drop (k + 1)) := by rw [List.take_append_drop]
  rw [e, firstFault_append, h2, if_neg h1]
theorem firstFault_all (l : List It) (h : firstFault l = 0) : ∀ x ∈ l, faultF x = 0 := by
  induction l with
  | nil => simp
  | cons x l ih =>
    simp only [firstFault] at h
    split at h
    · rename_i h1
      intro y hy
      rcases List.mem_cons.1 hy with rfl | hy
      · exact h1
      · exact ih h y hy
    · rename_i h1; exact absurd h h1
theorem fault_size (x : It) (h : faultF x = 0) : x.s.size ≤ 100000 := by
  unfold faultF at h
  repeat' split at h
  all_goals first | omega | exact absurd h (by decide)
theorem itemB_length (x : It) (h : x.s.size ≤ 100000) : (itemB x).length ≤ 100008 := by
  have := widthN_le x.k
  unfold itemB
  rw [List.length_append, Lib.beBytes_length, size_list]
  omega
theorem itemsB_length (l : List It) (h : ∀ x ∈ l, faultF x = 0) : (l.flatMap itemB).length ≤ 100008 * l.length := by
  induction l with
  | nil => simp
  | cons x l ih =>
    have h1 := itemB_length x (fault_size x (h x (by simp)))
    have h2 := ih fun y hy => h y (by simp [hy])
    rw [List.flatMap_cons, List.length_append, List.length_cons]
    omega
theorem encF_hit (l : List It) (hlen : l.length ≤ 1000) (h : firstFault l ≠ 0) : encF l = ([], firstFault l) := by
  unfold encF
  rw [if_neg (by omega), if_neg h]
theorem encF_ok (l : List It) (hlen : l.length ≤ 1000) (h : firstFault l = 0) : encF l = (l.flatMap itemB, 0) := by
  unfold encF
  rw [if_neg (by omega), if_pos h]

set_option maxHeartbeats 800000 in
theorem encode_few (ao : Option Addr) (cap : Nat) (l : List It) (w : World) (hc : ItemsAt w ao l) (hok : ∀ x ∈ l, x.ok) (hlen : l.length ≤ 1000) (R : List UInt8 × Int) (hR : encF l = R) :
    Calls Try.prog 10 #[.slice ao l.length cap] w fun e w' => e = .returned (.tuple #[.string ⟨R.1.toArray⟩, .int .i64 R.2]) ∧ Below w.heap.size w w' := by
  have HC := hide hc
  have HO := hide hok
  have HR := hide hR
  clear hc hok hR
  have h1000 : ¬ 1000 < (l.length : Int) := by omega
  go_enter Try.func10, Try.ntmps10
  go_wp2
  go_loopw [4, 16] (fun sz i wr => ∃ k m : Nat, k ≤ l.length ∧ i = .int .i64 k ∧ sz = .int .i64 m ∧ m ≤ 100008 * k ∧ Hid (firstFault (l.take k) = 0) ∧ Hid (Below w.heap.size w wr)) (fun _ i _ => l.length - (intOf i).toNat)
  case atStart => exact ⟨0, 0, Nat.zero_le _, rfl, rfl, by omega, rfl, Below.refl _ _⟩
  case round =>
    obtain ⟨k, m, hk, rfl, rfl, hm, HF, HB⟩ := hrel
    by_cases hlt : k < l.length
    · obtain ⟨b, off, rfl, hb, c0, c1, c2⟩ := HC.out k hlt
      have HX := hide (HO.out l[k] (List.getElem_mem hlt))
      have d0 := (HB.out.cell (p := ⟨b, off + k * 3, none⟩) hb).trans c0
      have d1 := (HB.out.cell (p := ⟨b, off + k * 3 + 1, none⟩) hb).trans c1
      have d2 := (HB.out.cell (p := ⟨b, off + k * 3 + 2, none⟩) hb).trans c2
      clear c0 c1 c2
      have HI := hide (fun w => itemFault_any l[k] w HX.out)
      have HW := hide (fun w => width_any l[k].k w)
      have HH := hide (firstFault_hit l k hlt HF.out)
      have HT := hide (firstFault_next l k hlt HF.out)
      have HZ := hide (fault_size l[k])
      generalize l[k] = x at *
      generalize faultF x = f at *
      by_cases hf : f = 0
      · have hsz := HZ.out hf
        have hwz := widthN_le x.k
        have hf2 : (f != 0) = false := by simp [hf]
        have HN : Hid (firstFault (l.take (k + 1)) = 0) := HT.out.trans hf
        clear HT HH hf HZ
        go_wp2_with fail
        refine (HI.out _).mono ?_
        rintro e w2 ⟨rfl, hb2⟩
        have HB2 := hide (HB.out.trans ((((Below.refl wr.heap.size wr).alloc (Nat.le_refl _) _).trans (hb2.mono (by simp))).mono HB.out.size))
        have hcc := (bcell hb2).1
        simp at hcc
        have g0 := hcc wr.heap.size 0 (by omega)
        have g1 := hcc wr.heap.size 1 (by omega)
        have g2 := hcc wr.heap.size 2 (by omega)
        simp at g0 g1 g2
        clear hcc hb2
        go_wp2
        go_quiet ((go_at_call 20; exact Calls.quiet_of_same (HW.out _)))
        go_wp2
        go_roundw
        case rel => exact ⟨k + 1, m + (widthN x.k + x.s.size), by omega, by go_num, by go_num, by omega, HN, below_drewN HB2.out nq⟩
        case measure => simp [intOf]; omega
      · have hf2 : (f != 0) = true := by rw [bne_iff_ne]; exact hf
        have HE : Hid (R = ([], f)) := by
          show R = ([], f)
          rw [← HR.out, encF_hit l hlen (by rw [HH.out hf]; exact hf), HH.out hf]
        clear HT HH hf HZ
        go_wp2_with fail
        refine (HI.out _).mono ?_
        rintro e w2 ⟨rfl, hb2⟩
        have HB2 := hide (HB.out.trans ((((Below.refl wr.heap.size wr).alloc (Nat.le_refl _) _).trans (hb2.mono (by simp))).mono HB.out.size))
        clear hb2
        go_wp2
        go_ret2
        exact ⟨ret2 (by rw [HE.out]; rfl) (by rw [HE.out]; rfl), HB2.out⟩
    · have HE : Hid (R = (l.flatMap itemB, 0)) := by
        show R = _
        have h0 := HF.out
        rw [List.take_of_length_le (by omega)] at h0
        rw [← HR.out, encF_ok l hlen h0]
      have HA : Hid (∀ x ∈ l, faultF x = 0) := by
        have h0 := HF.out
        rw [List.take_of_length_le (by omega)] at h0
        exact firstFault_all l h0
      have hbs := HB.out.size
      clear HF
      go_wp2_with fail
      refine (Try.Grow w.heap.size wr.heap.size m _ hbs (by show (wr.heap.push _)[wr.heap.size]? = _; simp) (by simp; omega) (by omega)).mono ?_
      rintro e w2 ⟨rfl, h1, h2⟩
      have HG : Hid (Lib.IsBuilderF 49 5 w.heap.size wr.heap.size (Lib.byteCells []) w2 ∧ Below w.heap.size w w2) :=
        ⟨Or.inr (Lib.BuilderAtF.of h1), (HB.out.alloc hbs _).trans h2⟩
      clear h1 h2
      generalize wr.heap.size = bb at *
      go_wp2
      go_loopw [39] (fun i wv => ∃ k : Nat, k ≤ l.length ∧ i = .int .i64 k ∧ Hid (Lib.IsBuilderF 49 5 w.heap.size bb (Lib.byteCells ((l.take k).flatMap itemB)) wv ∧ Below w.heap.size w wv)) (fun i _ => l.length - (intOf i).toNat)
      case atStart => exact ⟨0, Nat.zero_le _, rfl, HG⟩
      case round =>
        obtain ⟨q, hq, rfl, HV⟩ := hrel
        by_cases hql : q < l.length
        · obtain ⟨b, off, rfl, hb, c0, c1, c2⟩ := HC.out q hql
          have HX := hide (HO.out l[q] (List.getElem_mem hql))
          have hsz := fault_size l[q] (HA.out l[q] (List.getElem_mem hql))
          have d0 := (HV.out.2.cell (p := ⟨b, off + q * 3, none⟩) hb).trans c0
          have d1 := (HV.out.2.cell (p := ⟨b, off + q * 3 + 1, none⟩) hb).trans c1
          have d2 := (HV.out.2.cell (p := ⟨b, off + q * 3 + 2, none⟩) hb).trans c2
          clear c0 c1 c2
          have HT := hide (take_next l q hql)
          have hln : (Lib.byteCells ((l.take q).flatMap itemB)).length ≤ 900000000 := by
            have h1 := itemsB_length (l.take q) (fun x hx => HA.out x (List.mem_of_mem_take hx))
            have h2 := List.length_take_le q l
            have h3 : (l.take q).length ≤ 1000 := by rw [List.length_take]; omega
            simp only [Lib.byteCells, List.length_map]
            omega
          generalize l[q] = x at *
          have hvs := HV.out.2.size
          go_wp2_with fail
          refine (writeItem_any w.heap.size bb _ x _ HX.out hsz hln (builder_alloc HV.out.1 _) (by simp; omega)).mono ?_
          rintro e w3 ⟨rfl, g1, g2⟩
          have HN : Hid (Lib.IsBuilderF 49 5 w.heap.size bb (Lib.byteCells ((l.take (q + 1)).flatMap itemB)) w3 ∧ Below w.heap.size w w3) := by
            refine ⟨?_, (HV.out.2.alloc hvs _).trans g2⟩
            rw [HT.out, List.flatMap_append, List.flatMap_singleton]
            rw [Lib.byteCells, List.map_append]
            exact g1
          clear g1 g2 HT hln
          go_wp2
          go_roundw
          case rel => exact ⟨q + 1, by omega, by go_num, HN⟩
          case measure => simp [intOf]; omega
        · have e1 : l.take q = l := List.take_of_length_le (by omega)
          rw [e1] at HV
          clear e1
          have hvs := HV.out.2.size
          go_wp2_with fail
          refine (Try.BString w.heap.size bb (l.flatMap itemB) _ HV.out.1 hvs).mono ?_
          rintro e w3 ⟨rfl, g1, g2, g3⟩
          have HN := hide (HV.out.2.trans g2)
          clear g1 g2 g3
          go_wp2
          go_ret2
          exact ⟨ret2 (by rw [HE.out]; rfl) (by rw [HE.out]; rfl), HN.out⟩

set_option maxHeartbeats 400000 in
theorem encode_many (ao : Option Addr) (n cap : Nat) (w : World) (hn : 1000 < n) (hm : n ≤ maxLen) :
    Calls Try.prog 10 #[.slice ao n cap] w fun e w' => e = .returned (.tuple #[.string ⟨#[]⟩, .int .i64 3]) ∧ Below w.heap.size w w' := by
  unfold maxLen at hm
  have h1 : 1000 < (n : Int) := by omega
  go_enter Try.func10, Try.ntmps10
  go_wp2
  go_ret2
  exact ⟨rfl, Below.refl _ _⟩

theorem encode_any (ao : Option Addr) (cap : Nat) (l : List It) (w : World) (hc : ItemsAt w ao l) (hok : ∀ x ∈ l, x.ok) (hlen : l.length ≤ maxLen) :
    Calls Try.prog 10 #[.slice ao l.length cap] w fun e w' => e = .returned (.tuple #[.string ⟨(encF l).1.toArray⟩, .int .i64 (encF l).2]) ∧ Below w.heap.size w w' := by
  by_cases h : 1000 < l.length
  · have e : encF l = ([], 3) := by unfold encF; rw [if_pos h]
    rw [e]
    exact encode_many ao l.length cap w h hlen
  · exact encode_few ao cap l w hc hok (by omega) _ rfl

end Go.Proofs.Ytnbomaalncjkeaa
