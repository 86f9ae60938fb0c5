/-
  carillonref04's List, as it runs.
-/
import Derived.Test.YtknldpaaikcedaaGreatZGB
namespace Go.Proofs.YtknldpaaikcedaaGreat
open Go.RowKit

section
variable {w w' w2 : World} {b : Nat} {S : RD} {X X' X2 : XG} {n n' n2 : Nat}
theorem zinfoStr : (Tryz.prog.info? 9).map (fun i => (i.zero, i.size, i.bytes)) = some (some (.string ⟨#[]⟩), 1, 16) := by kernel_rfl
def RD.names (S : RD) : List ByteArray := S.dir.map (·.1)
theorem names_take (i : Nat) (h : i < S.dir.length) : ((S.dir.take (i + 1)).map fun p => Value.string p.1) = ((S.dir.take i).map fun p => Value.string p.1) ++ [.string S.dir[i].1] := by
  rw [List.take_succ_eq_append_getElem h, List.map_append, List.map_singleton]
set_option maxHeartbeats 2000000 in
set_option maxRecDepth 100000 in
theorem zlist_any (h : XR w b S X) : Calls Tryz.prog 41 #[.pointer (some ⟨b, 0, none⟩)] w fun e w' => ∃ v, e = .returned (.tuple #[v, .int .i64 (if S.down then 9 else 0)]) ∧ w'.ownsRow w.heap.size 9 1 v (if S.down then [] else S.names).length ((if S.down then [] else S.names).map .string) ∧ Below w.heap.size w w' := by
  obtain ⟨_, _, _, _, _, _, c6⟩ := h.c
  have HH := hide h
  have hnd := h.ok.nd
  obtain ⟨do', dc, hdv⟩ := row_slice h.dir
  have HDV := hide hdv
  cases hd : S.down with
  | true =>
    rw [hd] at c6
    clear h hdv hd
    go_enter Tryz.func41, Tryz.ntmps41
    go_wp2
    go_ret2
    exact ⟨_, rfl, World.ownsRow_nil _ _ _ _, Below.refl _ _⟩
  | false =>
    rw [hd] at c6
    clear h hdv hd
    go_enter Tryz.func41, Tryz.ntmps41
    go_wp2
    go_loopw [4, 5] (fun xv iv wv => ∃ (i : Nat) (qo : Option Addr) (qc : Nat), i ≤ S.dir.length ∧ xv = .slice qo i qc ∧ iv = .int .i64 i ∧ Hid (Below w.heap.size w wv) ∧ Hid (wv.ownsRow w.heap.size 9 1 (.slice qo i qc) i ((S.dir.take i).map fun p => Value.string p.1))) (fun _ iv _ => S.dir.length - (intOf iv).toNat)
    case atStart => exact ⟨0, none, 0, Nat.zero_le _, rfl, rfl, Below.refl _ _, World.ownsRow_nil _ _ _ _⟩
    case round =>
      obtain ⟨i, qo, qc, hi, rfl, rfl, BV, OV⟩ := hrel
      have hX := HH.out.below BV.out
      obtain ⟨_, _, c2, _⟩ := hX.c
      rw [HDV.out] at c2
      by_cases hlt : i < S.dir.length
      · obtain ⟨g, c, hdv2, hg, n0, _⟩ := hX.nm hlt
        rw [HDV.out] at hdv2
        injection hdv2 with e1 e2 e3
        subst e1
        have hi0 : (0 : Int) ≤ (i : Int) := by omega
        have hi1 : (i : Int) < (S.dir.length : Int) := by omega
        have HNT := hide (names_take i hlt)
        generalize S.dir[i].1 = nm at *
        obtain ⟨i0, hi0', hz0, hz1, hz2⟩ := zinfo_parts zinfoStr
        clear hX
        go_wp2_with (at_builtin; refine wpList_append_own _ rfl _ _ 47 rfl w.heap.size 9 i0 _ 1 16 Tryz.underlying47 hi0' hz0 hz1 hz2 rfl (by decide) _ _ _ rfl (OV.out.alloc _) ⟨_, 0, none⟩ 1 1 [.string nm] rfl rfl ?hnews ?h1 ?h63 ?hb47 ?hbase ?_)
        all_goals try exact World.news_of_block (cs := #[.string nm]) (t := 9) (fr := (0, 0)) (heap_alloc_new wr _)
        case h1 => simp [Value.oneCell']
        case h63 => unfold maxLen; omega
        case hb47 => omega
        case hbase => have := BV.out.size; simp; omega
        intro v' w4 hown hgrow _
        obtain ⟨no, nc, rfl⟩ := row_slice hown
        have B4 : Hid (Below w.heap.size w w4) := (BV.out.alloc BV.out.size _).grown hgrow (by have := BV.out.size; simp; omega) (fun k hk => (OV.out.lt k hk).1)
        have O4 : Hid (w4.ownsRow w.heap.size 9 1 (.slice no (i + 1) nc) (i + 1) ((S.dir.take (i + 1)).map fun p => Value.string p.1)) := by
          rw [HNT.out, List.map_take]
          exact hown
        clear hown hgrow
        go_wp2
        go_roundw
        case rel => exact ⟨i + 1, no, nc, by omega, by go_num, by go_num, B4.out, O4.out⟩
        case measure => simp [intOf]; omega
      · obtain rfl : i = S.dir.length := by omega
        have hi1 : ¬ (S.dir.length : Int) < (S.dir.length : Int) := by omega
        clear hX
        go_wp2
        go_ret2
        refine ⟨_, rfl, ?_, BV.out⟩
        have h2 := OV.out
        rw [List.take_length] at h2
        have e : (S.names.map Value.string) = S.dir.map fun p => Value.string p.1 := by unfold RD.names; rw [List.map_map]; rfl
        have e2 : S.names.length = S.dir.length := by unfold RD.names; rw [List.length_map]
        rw [e, e2]
        exact h2
end
end Go.Proofs.YtknldpaaikcedaaGreat
