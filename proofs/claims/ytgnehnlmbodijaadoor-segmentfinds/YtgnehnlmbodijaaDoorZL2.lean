/-
  The laws' own written: the frames of records, and where each ends.
-/
import Derived.Test.YtgnehnlmbodijaaDoorZL1
import Derived.Test.YtgnehnlmbodijaaDoorZE1
import Derived.Test.YtgnehnlmbodijaaDoorZGC
namespace Go.Proofs.YtgnehnlmbodijaaDoor
open Go.RowKit

def endsF (l : List Rec) : List Nat := (List.range l.length).map fun i => (writtenF (l.take (i + 1))).length
def endCells (l : List Rec) (k : Nat) : List Value := (List.range k).map fun i => .int .i64 ((writtenF (l.take (i + 1))).length : Nat)
theorem endCells_succ (l : List Rec) (k : Nat) : endCells l (k + 1) = endCells l k ++ [.int .i64 ((writtenF (l.take (k + 1))).length : Nat)] := by
  unfold endCells
  rw [List.range_succ, List.map_append, List.map_singleton]
theorem one_le {r : Rec} (h : RightP r) : (oneF r).length ≤ 1156 := by rw [oneF_len]; have := codeR_le h; omega
theorem written_take (l : List Rec) (k : Nat) (h : k < l.length) : writtenF (l.take (k + 1)) = writtenF (l.take k) ++ oneF l[k] := by
  unfold writtenF
  rw [List.take_succ_eq_append_getElem h, List.flatMap_append]
  simp
theorem written_small (l : List Rec) (h : ∀ r ∈ l, RightP r) (k : Nat) : (writtenF (l.take k)).length ≤ 1156 * k := by
  induction k with
  | zero => simp [writtenF]
  | succ k ih =>
    by_cases hk : k < l.length
    · rw [written_take l k hk, List.length_append]
      have := one_le (h _ (List.getElem_mem hk))
      omega
    · rw [List.take_of_length_le (by omega)]
      rw [List.take_of_length_le (by omega)] at ih
      omega
set_option maxHeartbeats 4000000 in
theorem written_any (l : List Rec) (v : Value) (w : World) (hT : Tab w) (hl : l.length ≤ 30) (hr : ∀ r ∈ l, RightP r) (ha : RecsAt w v l) :
    Calls Tryd.prog 24 #[v] w fun e w' => ∃ ev, e = .returned (.tuple #[.string ⟨(writtenF l).toArray⟩, ev]) ∧ w'.ownsRow w.heap.size 3 1 ev l.length (endCells l l.length) ∧ Below w.heap.size w w' := by
  obtain ⟨ao, ac, rfl, _, _⟩ := id ha
  have HA := hide ha
  have HT := hide hT
  have HR := hide hr
  clear ha hT hr
  go_enter Tryd.func24, Tryd.ntmps24
  go_wp2
  go_loopw [4, 5, 6] (fun sv ev iv wv => ∃ (k : Nat) (eo : Option Addr) (ec : Nat), k ≤ l.length ∧ sv = .string ⟨(writtenF (l.take k)).toArray⟩ ∧ ev = .slice eo k ec ∧ iv = .int .i64 k ∧ Hid (Below w.heap.size w wv) ∧ Hid (wv.ownsRow w.heap.size 3 1 (.slice eo k ec) k (endCells l k))) (fun _ _ iv _ => l.length - (intOf iv).toNat)
  case atStart => exact ⟨0, none, 0, Nat.zero_le _, rfl, rfl, rfl, Below.refl _ _, nil_own _ _ _ _⟩
  case round =>
    obtain ⟨k, eo, ec, hk, rfl, rfl, rfl, BV, OV⟩ := hrel
    by_cases hlt : k < l.length
    · have hrk := HR.out l[k] (List.getElem_mem hlt)
      have HO := hide (fun W h => one_good l[k] hrk W h)
      obtain ⟨_, b, off, rfl, hb, a0, a1, a2, a3, a4⟩ := (HA.out.below BV.out).five k hlt
      have hi0 : (0 : Int) ≤ (k : Int) := by omega
      have hi1 : (k : Int) < (l.length : Int) := by omega
      have hcat := mk_cat (writtenF (l.take k)) (oneF l[k])
      rw [← written_take l k hlt] at hcat
      have hsz : (⟨(writtenF (l.take (k + 1))).toArray⟩ : ByteArray).size = (writtenF (l.take (k + 1))).length := by show (writtenF (l.take (k + 1))).toArray.size = _; simp
      have hs1 : (⟨(writtenF (l.take k)).toArray⟩ : ByteArray).size ≤ 34680 := by
        have := written_small l HR.out k
        show (writtenF (l.take k)).toArray.size ≤ _
        rw [List.size_toArray]
        omega
      have hs2 : (⟨(oneF l[k]).toArray⟩ : ByteArray).size ≤ 1156 := by show (oneF l[k]).toArray.size ≤ _; rw [List.size_toArray]; exact one_le hrk
      have hs3 := written_small l HR.out (k + 1)
      have HCE := hide (endCells_succ l k)
      have HN : Hid ((⟨(writtenF (l.take (k + 1))).toArray⟩ : ByteArray).size = (writtenF (l.take (k + 1))).length) := hsz
      obtain ⟨S2, hS2⟩ : ∃ S2, S2 = (⟨(writtenF (l.take (k + 1))).toArray⟩ : ByteArray) := ⟨_, rfl⟩
      rw [← hS2] at hcat HN
      have HS2 := hide hS2
      clear hS2
      generalize (⟨(writtenF (l.take k)).toArray⟩ : ByteArray) = S1 at *
      generalize (⟨(oneF l[k]).toArray⟩ : ByteArray) = A at *
      generalize l[k] = x at *
      obtain ⟨xo, xp, xs, xk, xv⟩ := x
      simp only [Rec.v] at HO
      simp only at a0 a1 a2 a3 a4
      clear hrk hsz
      go_wp2_with fail
      refine (HO.out _ (HT.out.below BV.out)).mono ?_
      rintro e w2 ⟨rfl, b2⟩
      have BW := hide (BV.out.trans (b2.mono BV.out.size))
      have OW := hide (K.own_below OV.out b2 (Nat.le_refl _))
      clear b2 BV OV HO a0 a1 a2 a3 a4 hb
      go_wp2_with (at_builtin; refine wpList_append_own _ rfl _ _ 50 rfl w.heap.size 3 Tryd.t3 (.int .i64 0) 1 8 Tryd.underlying50 ?hi ?hz ?hs ?hby rfl (by decide) _ _ _ rfl (OW.out.alloc _) ⟨_, 0, none⟩ 1 1 [.int .i64 S2.size] rfl rfl ?hnews ?h1 ?h63 ?hb47 ?hbase ?_)
      case hi => exact Tryd.infoInt
      case hz => exact Tryd.zeroInt
      case hs => exact Tryd.sizeInt
      case hby => exact Tryd.bytesInt
      case hnews => exact World.news_of_block (cs := #[.int .i64 S2.size]) (t := 3) (fr := (0, 0)) (heap_alloc_new w2 _)
      case h1 =>
        intro u hu
        simp at hu
        subst hu
        rfl
      case h63 => unfold maxLen; omega
      case hb47 => omega
      case hbase => have := BW.out.size; simp; omega
      intro v' w4 hown hgrow _
      obtain ⟨no, nc, rfl⟩ := own_slice hown
      have B4 : Hid (Below w.heap.size w w4) := (BW.out.alloc BW.out.size _).grown hgrow (by have := BW.out.size; simp; omega) (fun k hk => (OW.out.lt k hk).1)
      have O4 : Hid (w4.ownsRow w.heap.size 3 1 (.slice no (k + 1) nc) (k + 1) (endCells l (k + 1))) := by
        rw [HCE.out, ← HN.out]
        exact hown
      clear hown hgrow
      go_wp2
      go_roundw
      case rel => exact ⟨k + 1, no, nc, by omega, by rw [HS2.out], rfl, by go_num, B4.out, O4.out⟩
      case measure => simp [intOf]; omega
    · have hk2 : k = l.length := by omega
      subst hk2
      have hi1 : ¬ (l.length : Int) < (l.length : Int) := by omega
      rw [List.take_length]
      go_wp2
      go_ret2
      exact ⟨_, rfl, OV.out, BV.out⟩
end Go.Proofs.YtgnehnlmbodijaaDoor
