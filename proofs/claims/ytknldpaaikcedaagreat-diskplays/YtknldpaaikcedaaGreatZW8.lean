/-
  settle, settleAll, crash, names of the directory: their contracts.
-/
import Derived.Test.YtknldpaaikcedaaGreatZW7
import Derived.Sort.OwnSorted
namespace Go.Proofs.YtknldpaaikcedaaGreat
open Go.RowKit Go.Maps Go.Sort Go.Shelf

/-- What is asked of a directory ahead of settle. -/
structure DAt (b nb lb n : Nat) (r fu dn : Value) (so : Option Addr) (sc : Nat) (LD : DataW Nat) (X : List DA) (w : World) : Prop where
  box : w.heap[b]? = some (.cells #[r, fu, dn, .map (some nb), .map (some lb), .slice so X.length sc] 56 (0, 0))
  row : w.ownsRow 0 93 1 (.slice so X.length sc) X.length (X.map dactC)
  few : X.length < 1000000
  small : n < 1000000
  last : w.ownsMap Tryz.prog 9 ptrR lb n LD
  held : ∀ x ∈ X, x.held w
  fit : dfitAll LD X
  hbl : lb ≠ b
  hsl : (Value.slice so X.length sc).ownBlock ≠ some lb
  hsb : (Value.slice so X.length sc).ownBlock ≠ some b
  hcap : ∀ x ∈ X, x.c ≠ lb ∧ x.d ≠ lb
theorem dsettle_any (b nb lb n : Nat) (r fu dn : Value) (so : Option Addr) (sc : Nat) (LD : DataW Nat) (X : List DA) (u0 : Int) (w : World) (h : DAt b nb lb n r fu dn so sc LD X w) (hu0 : u0 ≤ 9223372036854775807) :
    Calls Tryz.prog 62 #[.pointer (some ⟨b, 3, none⟩), .int .i64 u0] w fun e w' => e = .returned (.tuple #[]) ∧ w'.heap[b]? = some (.cells #[r, fu, dn, .map (some nb), .map (some lb), .slice none 0 0] 56 (0, 0)) ∧
      w'.ownsMap Tryz.prog 9 ptrR lb (n + X.length) (drunAll LD (X.take (dmany u0 X.length))) ∧ Touch (fun j => j = b ∨ j = lb) w w' := by
  by_cases hneg : u0 < 0
  · have e : dmany u0 X.length = 0 := by unfold dmany; omega
    rw [e]
    exact dsettle_neg b nb lb n r fu dn so sc LD X u0 hneg w h.box h.row h.few h.small h.last h.held h.fit h.hbl h.hsl h.hsb h.hcap
  · obtain ⟨k, rfl⟩ : ∃ k : Nat, u0 = k := ⟨u0.toNat, by omega⟩
    by_cases hk : (X.length : Int) < (k : Int)
    · have e : dmany k X.length = X.length := by unfold dmany; omega
      rw [e]
      exact dsettle_more b nb lb n r fu dn so sc LD X k hk (by omega) w h.box h.row h.few h.small h.last h.held h.fit h.hbl h.hsl h.hsb h.hcap
    · have e : dmany k X.length = k := by unfold dmany; omega
      rw [e]
      exact dsettle_some b nb lb n r fu dn so sc LD X k hk w h.box h.row h.few h.small h.last h.held h.fit h.hbl h.hsl h.hsb h.hcap
theorem dsettleAll_any (b nb lb n : Nat) (r fu dn : Value) (so : Option Addr) (sc : Nat) (LD : DataW Nat) (X : List DA) (w : World) (h : DAt b nb lb n r fu dn so sc LD X w) :
    Calls Tryz.prog 55 #[.pointer (some ⟨b, 3, none⟩)] w fun e w' => e = .returned (.tuple #[]) ∧ w'.heap[b]? = some (.cells #[r, fu, dn, .map (some nb), .map (some lb), .slice none 0 0] 56 (0, 0)) ∧
      w'.ownsMap Tryz.prog 9 ptrR lb (n + X.length) (drunAll LD X) ∧ Touch (fun j => j = b ∨ j = lb) w w' := by
  have hf := h.few
  have hc := dsettle_any b nb lb n r fu dn so sc LD X X.length w h (by omega)
  have e : dmany X.length X.length = X.length := by unfold dmany; omega
  rw [e, List.take_length] at hc
  have HC := hide hc
  have c5 : w.cell? ⟨b, 5, none⟩ = some (.slice so X.length sc) := box_cell h.box 5 rfl
  clear h hc e
  go_enter Tryz.func55, Tryz.ntmps55
  go_wp2_with (go_at_call 62; refine HC.out.mono ?_; rintro e w' ⟨rfl, hp⟩)
  go_end0
  exact ⟨rfl, hp⟩

set_option maxHeartbeats 1000000 in
theorem dcrash_any (b nb lb n : Nat) (r fu dn : Value) (so : Option Addr) (sc : Nat) (LD : DataW Nat) (X : List DA) (u0 : Int) (w : World) (h : DAt b nb lb n r fu dn so sc LD X w) (hu0 : u0 ≤ 9223372036854775807) :
    Calls Tryz.prog 27 #[.pointer (some ⟨b, 3, none⟩), .int .i64 u0] w fun e w' => e = .returned (.tuple #[]) ∧ ∃ nb', w.heap.size ≤ nb' ∧ w'.heap[b]? = some (.cells #[r, fu, dn, .map (some nb'), .map (some lb), .slice none 0 0] 56 (0, 0)) ∧
      w'.ownsMap Tryz.prog 9 ptrR nb' (n + X.length) (drunAll LD (X.take (dmany u0 X.length))) ∧ w'.ownsMap Tryz.prog 9 ptrR lb (n + X.length) (drunAll LD (X.take (dmany u0 X.length))) ∧ Touch (fun j => j = b ∨ j = lb) w w' := by
  have HC := hide (dsettle_any b nb lb n r fu dn so sc LD X u0 w h hu0)
  have hbl := h.hbl
  have hbw := heap_lt h.box
  clear h
  generalize drunAll LD (X.take (dmany u0 X.length)) = D at *
  go_enter Tryz.func27, Tryz.ntmps27
  go_wp2_with fail
  refine HC.out.mono ?_
  rintro e w1 ⟨rfl, h1, h2, h3⟩
  have H1 := hide h1
  have H2 := hide h2
  have H3 := hide h3
  clear h1 h2 h3 HC
  have hcl := AnyW.maps_Clone_owns Tryz.shClone 9 ptrR lb (n + X.length) D w1 H2.out
  have HCL := hide hcl
  clear hcl
  have k1 : w1.cell? ⟨b, 4, none⟩ = some (.map (some lb)) := box_cell H1.out 4 rfl
  go_wp2_with fail
  refine HCL.out.mono ?_
  rintro e w2 ⟨rfl, h5, h6, h7⟩
  have H5 := hide h5
  have H6 := hide h6
  have H7 := hide h7
  clear h5 h6 h7 k1 HCL
  have K1 := hide (Below.at H7.out H1.out)
  have k0 : w2.cell? ⟨b, 3, none⟩ = some (.map (some nb)) := box_cell K1.out 3 rfl
  have kf := box_free K1.out 3
  go_wp2
  go_end0
  have hs := H3.out.size
  have hs2 := heap_lt H1.out
  refine ⟨rfl, w1.heap.size, by omega, box_set K1.out 3 _, H5.out.setCell (a := ⟨b, 3, none⟩) (by show w1.heap.size ≠ b; omega) _, H6.out.setCell (a := ⟨b, 3, none⟩) hbl _, (H3.out.below H7.out).setCell _ _ fun _ => .inl rfl⟩

/-- The names of a directory, rising. -/
def dnames (D : DataW Nat) : List (List UInt8) := (strKeys D).mergeSort leB
set_option maxHeartbeats 1000000 in
theorem names_any (b nb lb n : Nat) (r fu dn sv : Value) (D : DataW Nat) (w : World) (hbox : w.heap[b]? = some (.cells #[r, fu, dn, .map (some nb), .map (some lb), sv] 56 (0, 0))) (hown : w.ownsMap Tryz.prog 9 ptrR nb n D) (hn : n < 1000000000) :
    Calls Tryz.prog 28 #[.pointer (some ⟨b, 3, none⟩)] w fun e w' => ∃ ao cp, e = .returned (.slice ao (dnames D).length cp) ∧ w'.ownsRow w.heap.size 9 1 (.slice ao (dnames D).length cp) (dnames D).length ((dnames D).map encStr) ∧ Below w.heap.size w w' := by
  have hsz := hown.size_le
  have c3 : w.cell? ⟨b, 3, none⟩ = some (.map (some nb)) := box_cell hbox 3 rfl
  have HO := hide hown
  have hbl := hown.lt
  have hmax : Maps.size D ≤ maxLen := by unfold maxLen; omega
  clear hown hbox
  refine (callsIn_wide (n := 6)).1 ?_
  have hfK : Fence.wide.fn 65 := trivial
  have hfS : Fence.wide.fn 64 := trivial
  have hK : Hid (CallsIn Fence.wide 5 Tryz.prog 65 #[.map (some nb)] w fun e w' => e = .returned (.func (.func 82) #[] #[.pointer (some ⟨w.heap.size, 0, none⟩)]) ∧ w' = w.alloc (.cells #[.map (some nb)] 50)) :=
    AnyZ.keys_in Tryz.shKeys Fence.wide 5 trivial rfl (some nb) w
  have hseq : SeqGives Fence.wide 2 Tryz.prog 82 #[.pointer (some ⟨w.heap.size, 0, none⟩)] encStr (fun ss => ss.Perm (strKeys D)) (Maps.size D) (w.alloc (.cells #[.map (some nb)] 50)) :=
    AnyZ.keys_gives (ρ := Tryz.shKeys_ren) { Tryz.shKeys with } Fence.wide _ trivial rfl (by omega) w.heap.size nb n D _ (by simp) (by simp) (HO.out.alloc _)
  have hsorts : AnyZ.SortsIn Tryz.prog Tryz.shSorted_ren Fence.wide 4 :=
    ⟨fun blk off cap ss W hH hblk hsz => callsIn_wide.2 (AnyM.slices_Sort_string Tryz.shSort blk off cap ss W hH hblk hsz), fun p cap W => callsIn_wide.2 (AnyM.slices_Sort_string_none Tryz.shSort p cap W)⟩
  have hS := hide (AnyZ.sorted_in Tryz.shSorted Fence.wide 5 trivial trivial trivial trivial rfl (by omega) hsorts (enters_of Tryz.func81 (by kernel_rfl) rfl) 82 #[.pointer (some ⟨w.heap.size, 0, none⟩)] trivial (enters_of Tryz.func82 (by kernel_rfl) rfl) _ _ hmax (by omega) _ hseq)
  clear hseq hsorts
  refine callsIn_of_wp Tryz.func28 rfl trivial ?_ rfl
  simp only [Tryz.ntmps28, List.size_toArray, List.length_cons, List.length_nil, Nat.reduceAdd, Nat.reduceSub, Array.replicate_succ, Array.replicate_zero, List.push_toArray, List.append_toArray, List.nil_append, List.cons_append]
  gi_wp2_with (first
    | (gi_at_call 65; refine hK.out.mono ?_; rintro e w' ⟨rfl, rfl⟩)
    | (gi_at_call 64; refine hS.out.mono ?_; rintro e w' ⟨v, ss, rfl, hP, hrow, hnil, hb⟩))
  have e1 : ss.mergeSort (fun x y => decide (x ≤ y)) = dnames D := mergeSort_of_perm hP
  have e2 : ss.length = (dnames D).length := by rw [← e1, List.length_mergeSort]
  rw [e1, e2] at hrow
  obtain ⟨ao, cp, rfl⟩ := row_slice hrow
  go_ret
  exact ⟨ao, cp, rfl, ownsRow_base_a hrow (by simp), ((Below.refl _ w).alloc (Nat.le_refl _) _).trans (hb.mono (by simp))⟩

end Go.Proofs.YtknldpaaikcedaaGreat
