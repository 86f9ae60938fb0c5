/-
  What the walks of SegmentBack, SegmentIndex and SegmentBit share.
-/
import Derived.Test.YtgnehnlmbodijaaDoorZIdx
namespace Go.Proofs.YtgnehnlmbodijaaDoor
open Go.RowKit

theorem rises_take (lo : Int) (l : List Rec) (k : Nat) (h : Rises lo l) : Rises lo (l.take k) := by
  induction l generalizing lo k with
  | nil => rw [List.take_nil]; exact trivial
  | cons r l ih =>
    cases k with
    | zero => exact trivial
    | succ k => exact ⟨h.1, h.2.1, ih _ _ h.2.2⟩
theorem RecsAt.take {w : World} {ao : Option Addr} {n cap : Nat} {l : List Rec} (h : RecsAt w (.slice ao n cap) l) (m : Nat) (hm : m ≤ l.length) : RecsAt w (.slice ao m cap) (l.take m) := by
  obtain ⟨a, c, hv, hc, hat⟩ := h
  injection hv with h1 h2 h3
  subst h1
  subst h3
  refine ⟨ao, cap, by rw [List.length_take, Nat.min_eq_left hm], hc, fun i hi => ?_⟩
  rw [List.length_take] at hi
  obtain ⟨b, off, e, hb, hcell⟩ := hat i (by omega)
  refine ⟨b, off, e, hb, fun j hj => ?_⟩
  rw [hcell j hj, List.getElem_take]
theorem own_cap {w : World} {B : Nat} {e : TypeId} {z : Nat} {ao : Option Addr} {n c n' : Nat} {xs : List Value} (h : w.ownsRow B e z (.slice ao n c) n' xs) : n ≤ c := by
  rcases h.2 with ⟨hv, hn⟩ | ⟨g, cap, cur, hv, _, _, hc, _⟩
  · injection hv with _ h2 h3; omega
  · injection hv with _ h2 h3; omega
theorem recs_shape {w : World} {v : Value} {l : List Rec} (h : RecsAt w v l) : ∃ ao cap, v = .slice ao l.length cap := by
  obtain ⟨ao, cap, hv, _⟩ := h
  exact ⟨ao, cap, hv⟩
theorem ents_shape {w : World} {v : Value} {l : List (Int × Int)} (h : EntsAt w v l) : ∃ ao cap, v = .slice ao l.length cap := by
  obtain ⟨ao, cap, hv, _⟩ := h
  exact ⟨ao, cap, hv⟩
theorem endCells_get (l : List Rec) (k i : Nat) (h : i < k) : (endCells l k)[i]? = some (.int .i64 ((writtenF (l.take (i + 1))).length : Nat)) := by simp [endCells, h]
theorem ends_at {w : World} {B : Nat} {l : List Rec} {eo : Option Addr} {ec : Nat} (h : w.ownsRow B 3 1 (.slice eo l.length ec) l.length (endCells l l.length)) (i : Nat) (hi : i < l.length) : ∃ g, eo = some ⟨g, 0, none⟩ ∧ g < w.heap.size ∧ w.cell? ⟨g, i, none⟩ = some (.int .i64 ((writtenF (l.take (i + 1))).length : Nat)) := by
  obtain ⟨g, rfl, hg, hc⟩ := row_at h (by omega)
  exact ⟨g, rfl, hg, (hc i (by omega)).trans (endCells_get l _ i hi)⟩
theorem written_split (l : List Rec) (m : Nat) : writtenF l = writtenF (l.take m) ++ writtenF (l.drop m) := by
  unfold writtenF
  rw [← List.flatMap_append, List.take_append_drop]
theorem torn_scan (out : List Rec) (h : Rises 0 out) (c m : Nat) (hc : c ≤ (writtenF out).length) (hm : m ≤ out.length) (h1 : (writtenF (out.take m)).length ≤ c) (h2 : m = out.length ∨ c < (writtenF (out.take (m + 1))).length) :
    scanF 0 ((writtenF out).take c) = (placed 0 (out.take m), (writtenF (out.take m)).length, if (writtenF (out.take m)).length = c then 0 else 2) := by
  have e := written_split out m
  by_cases hN : (writtenF (out.take m)).length = c
  · rw [if_pos hN, e, List.take_left' hN]
    exact scan_written 0 _ (rises_take 0 out m h)
  · have hlt : m < out.length := by
      rcases h2 with h2 | h2
      · subst h2
        rw [List.take_length] at h1 hN
        omega
      · rcases Nat.lt_or_ge m out.length with h3 | h3
        · exact h3
        · rw [List.take_of_length_le (by omega)] at h1 h2
          omega
    have hw := written_take out m hlt
    have hlen := congrArg List.length hw
    rw [List.length_append] at hlen
    have h3 : c < (writtenF (out.take (m + 1))).length := by
      rcases h2 with h2 | h2
      · omega
      · exact h2
    rw [if_neg hN, e, List.take_append, List.take_of_length_le h1, List.drop_eq_getElem_cons hlt, written_cons, List.take_append_of_le_length (by omega)]
    exact scan_torn 0 _ out[m] _ (rises_take 0 out m h) (rises_right 0 out h _ (List.getElem_mem hlt)) (by omega) (by omega)
theorem mk_size2 (l : List UInt8) : (⟨l.toArray⟩ : ByteArray).size = l.length := by show l.toArray.size = _; simp
theorem mk_data2 (l : List UInt8) : (⟨l.toArray⟩ : ByteArray).data.toList = l := by simp
theorem ext_data2 (s : ByteArray) (c : Nat) : (s.extract 0 c).data.toList = s.data.toList.take c := by
  simp [ByteArray.data_extract, Array.toList_extract]
theorem placed_own {w : World} {B : Nat} {v : Value} {out : List Rec} (h : w.ownsRow B 23 5 v (placed 0 out).length (recCells (placed 0 out))) : RecsAt w v out := by
  have := recs_of_own h
  rw [placed_recs] at this
  exact this
/-- What Scan tells of written records, and of a beginning of them. -/
theorem back_calls (out : List Rec) (h : Rises 0 out) (hl : out.length ≤ 30) : ∃ S : ByteArray, S = ⟨(writtenF out).toArray⟩ ∧ S.size ≤ 34680 ∧ S.size = (writtenF out).length ∧
    (∀ W, Tab W → Calls Tryd.prog 15 #[.int .i64 0, .string S] W fun e' w' => ∃ v, e' = .returned (.tuple #[v, .int .i64 S.size, .int .i64 0]) ∧ RecsAt w' v out ∧ Below W.heap.size W w') ∧
    (∀ W c m N, Tab W → c ≤ S.size → m ≤ out.length → (writtenF (out.take m)).length = N → N ≤ c → (m = out.length ∨ c < (writtenF (out.take (m + 1))).length) → Calls Tryd.prog 15 #[.int .i64 0, .string (S.extract 0 c)] W fun e' w' => ∃ v, e' = .returned (.tuple #[v, .int .i64 N, .int .i64 (if N = c then 0 else 2)]) ∧ RecsAt w' v (out.take m) ∧ Below W.heap.size W w') := by
  have hr := rises_right 0 out h
  have hsz : (writtenF out).length ≤ 34680 := by have := written_small out hr out.length; rw [List.take_length] at this; omega
  refine ⟨_, rfl, by rw [mk_size2]; exact hsz, mk_size2 _, fun W hT => ?_, fun W c m N hT hc hm hN h1 h2 => ?_⟩
  · have hsc := scan_written 0 out h
    refine (scan_any 0 _ W hT (by rw [mk_size2]; omega) (by rw [mk_data2, hsc]; simp only [placed_length]; omega)).mono ?_
    rw [mk_data2, hsc]
    rintro e' w' ⟨v, rfl, ho, hb⟩
    exact ⟨v, by rw [mk_size2], placed_own ho, hb⟩
  · subst hN
    rw [mk_size2] at hc
    have hsc := torn_scan out h c m hc hm h1 h2
    have hd : ((⟨(writtenF out).toArray⟩ : ByteArray).extract 0 c).data.toList = (writtenF out).take c := by rw [ext_data2, mk_data2]
    refine (scan_any 0 _ W hT (by rw [ByteArray.size_extract, mk_size2]; omega) (by rw [hd, hsc]; simp only [placed_length, List.length_take]; omega)).mono ?_
    rw [hd, hsc]
    rintro e' w' ⟨v, rfl, ho, hb⟩
    exact ⟨v, rfl, placed_own ho, hb⟩
theorem flip_written (out : List Rec) (k N q : Nat) (hk : k < out.length) (hN : (writtenF (out.take k)).length = N) (h2 : q < 8 * (oneF out[k]).length) : flipF (writtenF out) (8 * N + q) = writtenF (out.take k) ++ (flipF (oneF out[k]) q ++ writtenF (out.drop (k + 1))) := by
  subst hN
  rw [written_split out k, flip_append_right, List.drop_eq_getElem_cons hk, written_cons, flip_append_left _ _ _ h2]
/-- What Scan tells of written records one of whose bits is turned. -/
theorem bit_calls (out : List Rec) (h : Rises 0 out) (hl : out.length ≤ 30) (k N q : Nat) (hk : k < out.length) (hN : (writtenF (out.take k)).length = N) (h1 : 32 ≤ q) (h2 : q < 8 * (oneF out[k]).length) (W : World) (hT : Tab W) :
    Calls Tryd.prog 15 #[.int .i64 0, .string ⟨(flipF (writtenF out) (8 * N + q)).toArray⟩] W fun e' w' => ∃ v, e' = .returned (.tuple #[v, .int .i64 N, .int .i64 4]) ∧ RecsAt w' v (out.take k) ∧ Below W.heap.size W w' := by
  have hr := rises_right 0 out h
  have hsz : (writtenF out).length ≤ 34680 := by have := written_small out hr out.length; rw [List.take_length] at this; omega
  have hsc : scanF 0 (flipF (writtenF out) (8 * N + q)) = (placed 0 (out.take k), N, 4) := by
    rw [flip_written out k N q hk hN h2, ← hN]
    exact scan_bit 0 _ _ out[k] q (rises_take 0 out k h) (hr _ (List.getElem_mem hk)) h1 h2
  refine (scan_any 0 _ W hT (by rw [mk_size2, flipF_length]; omega) (by rw [mk_data2, hsc]; simp only [placed_length, List.length_take]; omega)).mono ?_
  rw [mk_data2, hsc]
  rintro e' w' ⟨v, rfl, ho, hb⟩
  exact ⟨v, rfl, placed_own ho, hb⟩
end Go.Proofs.YtgnehnlmbodijaaDoor
