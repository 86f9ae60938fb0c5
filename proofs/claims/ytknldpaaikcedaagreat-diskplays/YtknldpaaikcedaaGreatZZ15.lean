/-
  carillonref04's Truncate, as it runs, where it is done.
-/
import Derived.Test.YtknldpaaikcedaaGreatZZ14
namespace Go.Proofs.YtknldpaaikcedaaGreat
open Go.RowKit

section
variable {w w' w2 : World} {b : Nat} {S : RD} {X X' X2 : XG} {n n' n2 : Nat}
set_option maxHeartbeats 4000000 in
set_option maxRecDepth 100000 in
theorem ztruncate_go (h : XR w b S X) (k : ByteArray) (m : Int) (i : Nat) (hi : i < S.files.length) (hz : zfind S.dir k = i) (hd : S.down = false) (hm0 : 0 ≤ m) (hm1 : m ≤ (S.bytes i).size) (htk : S.tick.1 = true) (hok : (S.files[i].more ⟨⟨#[]⟩, m⟩).ok) :
    Calls Tryz.prog 38 #[.pointer (some ⟨b, 0, none⟩), .string k, .int .i64 m] w fun e w' => e = .returned (.int .i64 0) ∧ ∃ X', XR w' b { S.tick.2 with files := S.tick.2.files.set i (S.files[i].more ⟨⟨#[]⟩, m⟩) } X' ∧ XStep w w' b S.files.length S.files.length X X' := by
  obtain ⟨ao, c, hdv, hf⟩ := h.find k
  obtain ⟨c0, _, c2, _, _, _, c6⟩ := h.c
  rw [hdv] at c2
  rw [hd] at c6
  have HF := hide (hf w (Below.refl _ _))
  rw [hz] at HF
  have HB := hide (zbytes_any h i hi)
  have HA := hide (fun W (hb : Below w.heap.size w W) => zact_any (h.below hb))
  rw [htk] at HA
  have hnd := h.ok.nd
  have hub : b < w.heap.size := heap_lt h.box
  have HOK := hide hok
  have hi0 : ¬ (i : Int) < 0 := by omega
  have HHI := hide hi
  have HOK5 : Hid (∀ (hi5 : i < S.tick.2.files.length), (S.tick.2.files[i].more ⟨⟨#[]⟩, m⟩).ok) := fun hi5 => by simp only [(tick_same S).2.1]; exact HOK.out
  have hns := h.ok.nf
  have hbl := bytes_le h.ok i
  generalize S.bytes i = R at *
  have hm2 : ¬ m < 0 := by omega
  have hm3 : ¬ (R.size : Int) < m := by omega
  clear h hf hdv hz hd htk hok
  go_enter Tryz.func38, Tryz.ntmps38
  go_wp2_with fail
  refine HF.out.mono ?_
  rintro e w1 ⟨rfl, hw⟩
  obtain rfl := hw.symm
  clear hw HF
  go_wp2_with fail
  refine HB.out.mono ?_
  rintro e w4 ⟨rfl, b4⟩
  have B4 := hide b4
  clear b4 HB
  go_wp2_with fail
  refine (HA.out _ B4.out).mono ?_
  rintro e w5 ⟨rfl, x5, s5⟩
  have X5 := hide x5
  have S5 := hide s5
  clear x5 s5 HA
  go_wp2_with fail
  have hTf := (tick_same S).2.1
  have hi5 : i < S.tick.2.files.length := by rw [hTf]; exact HHI.out
  obtain ⟨g, cf, uo, uc, hfv, hgl, huv, _, f1⟩ := X5.out.file hi5
  obtain ⟨_, d1, _⟩ := X5.out.c
  rw [hfv] at d1
  have hou := X5.out.units i hi5
  rw [huv] at hou
  have OU := hide hou
  have hgf : w5.frozen? ⟨g, i * 2 + 1, none⟩ = false := by
    rcases X5.out.files.2 with ⟨hv, _⟩ | ⟨g', c', cur, hv, _, hh, _⟩
    · rw [hfv] at hv; cases hv
    · rw [hfv] at hv
      injection hv with e1 _ _
      injection e1 with e1
      injection e1 with e1 _ _
      subst e1
      exact box_free hh _
  have HFIN := hide (fun (W w6 : World) (a6 : Option Addr) (c6 : Nat) => X5.out.addU (W := W) (w6 := w6) (a6 := a6) (c6 := c6) hi5 ⟨⟨#[]⟩, m⟩ (HOK5.out hi5) hfv huv)
  have HG : Hid (∀ (o : Obj) (W w6 : World), W.grownBy w6 (Value.slice uo S.tick.2.files[i].since.length uc).ownBlock → W.heap = (w5.alloc o).heap → w6.cell? ⟨b, 1, none⟩ = some (.slice (some ⟨g, 0, none⟩) S.tick.2.files.length cf) ∧ w6.cell? ⟨g, i * 2 + 1, none⟩ = some (.slice uo S.tick.2.files[i].since.length uc) ∧ w6.frozen? ⟨g, i * 2 + 1, none⟩ = false) := by
    intro o W w6 hg hW
    have hb6 := grown_at hg (by rw [hW]; exact box_alloc X5.out.box o) (by rw [← huv]; exact X5.out.ne _ (.inr (.inl ⟨i, hi5, rfl⟩)))
    have hgne : (Value.slice uo S.tick.2.files[i].since.length uc).ownBlock ≠ some g := by rw [← huv]; exact fun e => X5.out.fneq hi5 e (by rw [hfv]; rfl)
    rcases X5.out.files.2 with ⟨hv, _⟩ | ⟨g', c', cur, hv, _, hh, _⟩
    · rw [hfv] at hv; cases hv
    · rw [hfv] at hv
      injection hv with e1 _ _
      injection e1 with e1
      injection e1 with e1 _ _
      subst e1
      have hc6 := grown_at hg (by rw [hW]; exact box_alloc hh o) hgne
      have hc1 : w6.cell? ⟨g, i * 2 + 1, none⟩ = w5.cell? ⟨g, i * 2 + 1, none⟩ := by rw [Lib.cell_of_heap hc6, Lib.cell_of_heap hh]
      exact ⟨by have h7 := box_cell hb6 1 (v := X.fv) rfl; rw [hfv] at h7; exact h7, hc1.trans f1, box_free hc6 _⟩
  have q1 : ∀ o : Obj, (w5.alloc o).cell? ⟨b, 1, none⟩ = some (.slice (some ⟨g, 0, none⟩) S.tick.2.files.length cf) := fun o => by have h7 := box_cell (box_alloc X5.out.box o) 1 (v := X.fv) rfl; rw [hfv] at h7; exact h7
  have q2 : ∀ o : Obj, (w5.alloc o).cell? ⟨g, i * 2 + 1, none⟩ = some (.slice uo S.tick.2.files[i].since.length uc) := fun o => (World.cell?_of_block (a := ⟨g, i * 2 + 1, none⟩) (Below.heap_alloc w5 o g hgl)).trans f1
  have hfew := (X5.out.ok.files _ (List.getElem_mem hi5)).few
  have hi5' : (0 : Int) ≤ (i : Int) := by omega
  have hi6 : (i : Int) < (S.tick.2.files.length : Int) := by omega
  obtain ⟨i0, hi0', hz0, hz1, hz2⟩ := zinfo_parts zinfoUn
  have HTF := hide hTf
  have hfe : S.tick.2.files[i] = S.files[i]'HHI.out := by simp only [hTf]
  have HFE := hide hfe
  clear hfe
  have HS5 := hide S5.out
  have HS0 : Hid (XStep w w4 b S.files.length S.files.length X X) := XStep.same _ _ _ B4.out
  generalize hNU : S.tick.2.files[i].since.length = nu at f1 OU HFIN HG q2 hfew
  clear hou hTf hfv huv X5 S5 hNU
  generalize unCells S.tick.2.files[i].since = ucs at OU HFIN
  generalize S.tick.2.files.length = nf at d1 HG q1 hi6
  go_region_law (first
    | (refine zstep_append rfl _ _ 73 rfl 0 112 i0 _ 2 24 Tryz.underlying73 hi0' hz0 hz1 hz2 rfl (by omega) (.slice uo nu uc) nu ucs (by rfl) (by first | exact OU.out.alloc _ | exact OU.out.drew.alloc _) ⟨w5.heap.size, 0, none⟩ 1 1 [.string ⟨#[]⟩, .int .i64 m] (by rfl) (by rfl) (World.news_of_block (cs := #[.string ⟨#[]⟩, .int .i64 m]) (t := 112) (fr := (0, 0)) (by first | exact heap_alloc_new w5 _ | exact heap_alloc_new w5.drew _)) (un_ones _ _) (by unfold maxLen; omega) (by omega) (Nat.zero_le _) ?_; intro a6 c6 w6 hown6 hgrow6 hloc6; obtain ⟨y1, y2, y3⟩ := HG.out _ _ _ hgrow6 rfl))
  all_goals (
    go_wp2
    go_ret
    obtain ⟨X6, x6, s6⟩ := HFIN.out _ _ _ _ (by first | exact ((Touch.refl _ w5).alloc _).drew | exact ((Touch.refl _ w5).drew).alloc _) hgrow6 hown6 hloc6
    exact ⟨rfl, X6, by rw [HFE.out] at x6; exact x6, by rw [HTF.out] at s6; exact HS0.out.trans (HS5.out.trans s6)⟩)
end
end Go.Proofs.YtknldpaaikcedaaGreat
