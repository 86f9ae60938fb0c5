/-
  carillonref04's Sync, as it runs.
-/
import Derived.Test.YtknldpaaikcedaaGreatZGB
namespace Go.Proofs.YtknldpaaikcedaaGreat
open Go.RowKit

section
variable {w w' w2 : World} {b : Nat} {S : RD} {X X' X2 : XG} {n n' n2 : Nat}
/-- A file is synced: its two cells are others. -/
theorem XR.syncU (h : XR w b S X) {i : Nat} (hi : i < S.files.length) (s : ByteArray) (hs : s.size ≤ 1152921504606846976) {g c : Nat} (hfv : X.fv = .slice (some ⟨g, 0, none⟩) S.files.length c) :
    ∃ X', XR ((w.setCell ⟨g, i * 2, none⟩ (.string s)).setCell ⟨g, i * 2 + 1, none⟩ (.slice none 0 0)) b { S with files := S.files.set i ⟨s, []⟩ } X' ∧ XStep w ((w.setCell ⟨g, i * 2, none⟩ (.string s)).setCell ⟨g, i * 2 + 1, none⟩ (.slice none 0 0)) b S.files.length S.files.length X X' := by
  have hfg : X.fv.ownBlock = some g := by rw [hfv]; rfl
  refine ⟨_, h.fput hi ⟨s, []⟩ ⟨trivial, by simp only [zsum]; omega, fun u hu => (by cases hu), Nat.zero_le _⟩ (.slice none 0 0) (((Touch.refl _ w).setCell _ _ fun _ => .inl hfg).setCell _ _ fun _ => .inl hfg) ?_ (World.ownsRow_nil _ _ _ _) (fun j hj => by cases hj)⟩
  have hf := h.files
  rw [filesC_set]
  rw [hfv] at hf ⊢
  exact own_set (own_set hf _ (by omega)) _ (by omega)
set_option maxHeartbeats 4000000 in
set_option maxRecDepth 100000 in
theorem zsync_go (h : XR w b S X) (k : ByteArray) (i : Nat) (hi : i < S.files.length) (hz : zfind S.dir k = i) (hd : S.down = false) (htk : S.tick.1 = true) :
    Calls Tryz.prog 35 #[.pointer (some ⟨b, 0, none⟩), .string k] w fun e w' => e = .returned (.int .i64 0) ∧ ∃ X', XR w' b { S.tick.2 with files := S.tick.2.files.set i ⟨S.bytes i, []⟩ } X' ∧ XStep w w' b S.files.length S.files.length X X' := by
  obtain ⟨ao, c, hdv, hf⟩ := h.find k
  obtain ⟨c0, _, c2, _, _, _, c6⟩ := h.c
  rw [hdv] at c2
  rw [hd] at c6
  have HF := hide (hf w (Below.refl _ _))
  rw [hz] at HF
  have HA := hide (zact_any h)
  rw [htk] at HA
  have hi0 : ¬ (i : Int) < 0 := by omega
  have HHI := hide hi
  have HBL := hide (bytes_le h.ok i)
  clear h hf hdv hz hd htk
  go_enter Tryz.func35, Tryz.ntmps35
  go_wp2_with fail
  refine HF.out.mono ?_
  rintro e w1 ⟨rfl, hw⟩
  obtain rfl := hw.symm
  clear hw HF
  go_wp2_with fail
  refine HA.out.mono ?_
  rintro e w5 ⟨rfl, x5, s5⟩
  have X5 := hide x5
  have S5 := hide s5
  clear x5 s5 HA
  have hTf := (tick_same S).2.1
  have hi5 : i < S.tick.2.files.length := by rw [hTf]; exact HHI.out
  obtain ⟨g, cf, uo, uc, hfv, hgl, huv, _, _⟩ := X5.out.file hi5
  obtain ⟨_, d1, _⟩ := X5.out.c
  rw [hfv] at d1
  have hbg : b ≠ g := fun e => X5.out.ne _ (.inl rfl) (by rw [hfv, e]; rfl)
  have hbl : b < w5.heap.size := heap_lt X5.out.box
  have HB := hide (fun W (hb : Below w5.heap.size w5 W) => zbytes_any (X5.out.below hb) i hi5)
  rw [tick_bytes] at HB
  have HFIN := hide (fun (W : World) (hb : Below w5.heap.size w5 W) => (X5.out.below hb).syncU hi5 (S.bytes i) HBL.out hfv)
  have HC : Hid (∀ (W : World), Below w5.heap.size w5 W → (∃ v0 v1, W.cell? ⟨g, i * 2, none⟩ = some v0 ∧ W.cell? ⟨g, i * 2 + 1, none⟩ = some v1) ∧ W.frozen? ⟨g, i * 2, none⟩ = false ∧ W.frozen? ⟨g, i * 2 + 1, none⟩ = false) := fun W hb => by
    have hX := X5.out.below hb
    obtain ⟨g', c', uo', uc', hfv', _, _, f0, f1⟩ := hX.file hi5
    rw [hfv] at hfv'
    injection hfv' with e1 _ _
    injection e1 with e1
    injection e1 with e1 _ _
    subst e1
    rcases hX.files.2 with ⟨hv, _⟩ | ⟨g2, c2, cur, hv, _, hh, _⟩
    · rw [hfv] at hv; cases hv
    · rw [hfv] at hv
      injection hv with e1 _ _
      injection e1 with e1
      injection e1 with e1 _ _
      subst e1
      exact ⟨⟨_, _, f0, f1⟩, box_free hh _, box_free hh _⟩
  have HK1 := hide (enters_of Tryz.func26 (by kernel_rfl) rfl)
  have HS5 := hide S5.out
  have HTF := hide hTf
  have hi5' : (0 : Int) ≤ (i : Int) := by omega
  have hi6 : (i : Int) < (S.tick.2.files.length : Int) := by omega
  clear hfv huv X5 S5 hTf
  generalize hbs : S.bytes i = bs at *
  have HBS := hide hbs
  clear hbs
  generalize hnf : S.tick.2.files.length = nf at d1 hi6 HFIN
  go_wp2_with fail
  go_region_held_law (fun w' => w'.cell? ⟨b, 1, none⟩ = some (.slice (some ⟨g, 0, none⟩) nf cf)) (first | go_keep | exact z1 | exact z9 _ _) (first
    | (refine zstep_fn (by rfl) 31 (by rfl) 26 _ _ (by rfl) HK1.out [.pointer (some ⟨b, 0, none⟩), .int .i64 i] (by rfl) (HB.out _ (by first | exact Below.refl _ _ | exact (Below.refl _ _).drew)) ?_; rintro e w6 ⟨rfl, b6⟩; refine ⟨_, rfl, ?_⟩; have B6 : Hid (Below w5.heap.size w5 w6) := ⟨b6.os, b6.tape, b6.output, b6.size, b6.block⟩; have z1 := (B6.out.cell (p := ⟨b, 1, none⟩) hbl).trans d1; have z9 : ∀ u v : Value, ((w6.setCell ⟨g, i * 2, none⟩ u).setCell ⟨g, i * 2 + 1, none⟩ v).cell? ⟨b, 1, none⟩ = some (.slice (some ⟨g, 0, none⟩) nf cf) := (fun u v => by rw [World.cell?_setCell_other _ _ _ _ (fun e => hbg (congrArg Addr.block e).symm), World.cell?_setCell_other _ _ _ _ (fun e => hbg (congrArg Addr.block e).symm)]; exact z1); obtain ⟨⟨v0, v1, y0, y1⟩, g0, g1⟩ := HC.out w6 B6.out; clear b6))
  all_goals (
    go_wp2
    go_ret
    obtain ⟨X7, x7, s7⟩ := HFIN.out w6 B6.out
    refine ⟨rfl, X7, by rw [HBS.out]; exact x7, ?_⟩
    have e5 := HTF.out
    rw [← hnf, e5] at s7
    exact HS5.out.trans ((XStep.same _ _ _ B6.out).trans s7))
end
end Go.Proofs.YtknldpaaikcedaaGreat
