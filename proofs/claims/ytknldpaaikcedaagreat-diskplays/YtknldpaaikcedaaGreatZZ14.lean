/-
  carillonref04's Create, as it runs, where it is done.
-/
import Derived.Test.YtknldpaaikcedaaGreatZZ13
namespace Go.Proofs.YtknldpaaikcedaaGreat
open Go.RowKit

section
variable {w w' w2 : World} {b : Nat} {S : RD} {X X' X2 : XG} {n n' n2 : Nat}
theorem zinfoFi : (Tryz.prog.info? 75).map (fun i => (i.zero, i.size, i.bytes)) = some (some (.agg #[.string ⟨#[]⟩, .slice none 0 0]), 2, 40) := by kernel_rfl
theorem filesC_snoc (fs : List ZF) (uv : Nat → Value) (f : ZF) (v : Value) : filesC (fs ++ [f]) (upd uv fs.length v) = filesC fs uv ++ [.string f.lasts, v] := by
  unfold filesC
  rw [List.zipIdx_append, List.flatMap_append]
  congr 1
  · apply congrArg List.flatten
    apply List.map_congr_left
    rintro ⟨a, i⟩ hp
    have := List.snd_lt_of_mem_zipIdx hp
    simp only [upd] at *
    rw [if_neg (by omega)]
  · simp [upd]
/-- A file more. -/
theorem XR.addF (h : XR w b S X) (hnf : S.files.length < 1000) {fo : Option Addr} {fc : Nat} (hfv : X.fv = .slice fo S.files.length fc) {W w6 : World} {a6 : Option Addr} {c6 : Nat}
    (hT : Touch (fun _ => False) w W) (hg : W.grownBy w6 (Value.slice fo S.files.length fc).ownBlock) (ho : w6.ownsRow 0 75 2 (.slice a6 (S.files.length + 1) c6) (S.files.length + 1) (filesC S.files X.uv ++ [.string ⟨#[]⟩, .slice none 0 0]))
    (hloc : (Value.slice a6 (S.files.length + 1) c6).ownBlock = (Value.slice fo S.files.length fc).ownBlock ∨ (Value.slice a6 (S.files.length + 1) c6).ownBlock = some W.heap.size) :
    XR (w6.setCell ⟨b, 1, none⟩ (.slice a6 (S.files.length + 1) c6)) b { S with files := S.files ++ [(⟨⟨#[]⟩, []⟩ : ZF)] } { X with fv := .slice a6 (S.files.length + 1) c6, uv := upd X.uv S.files.length (.slice none 0 0) } ∧ XStep w (w6.setCell ⟨b, 1, none⟩ (.slice a6 (S.files.length + 1) c6)) b S.files.length (S.files.length + 1) X { X with fv := .slice a6 (S.files.length + 1) c6, uv := upd X.uv S.files.length (.slice none 0 0) } := by
  have hT6 : Touch (fun j => X.fv.ownBlock = some j) w w6 := (hT.mono fun _ _ e => e.elim).grown hg fun j e _ => by rw [hfv]; exact e
  have hb6 := hT6.at h.box (h.ne _ (.inl rfl))
  have hnb : (Value.slice a6 (S.files.length + 1) c6).ownBlock ≠ some b := fun e => absurd (zown_type ho e hb6) (by decide)
  have key : ∀ (v : Value) (t : TypeId) (z m : Nat) (xs : List Value), w.ownsRow 0 t z v m xs → t ≠ 75 → ∀ j, v.ownBlock = some j → ¬ (X.fv.ownBlock = some j) := fun v t z m xs hr ht j hj e => by
    rcases h.files.2 with ⟨hv, _⟩ | ⟨g, c, cur, hv, _, hh, _⟩
    · rw [hv] at e; cases e
    · rw [hv] at e
      have e' : g = j := Option.some.inj e
      subst e'
      exact ht (zown_type hr hj hh)
  have hl : (S.files ++ [(⟨⟨#[]⟩, []⟩ : ZF)]).length = S.files.length + 1 := by simp
  have hat : ∀ i (hi : i < S.files.length), (S.files ++ [(⟨⟨#[]⟩, []⟩ : ZF)])[i]'(by rw [hl]; omega) = S.files[i] := fun i hi => List.getElem_append_left hi
  refine ⟨⟨⟨h.ok.room, h.ok.fuse, fun f hf => ?_, by rw [hl]; omega, h.ok.nd, h.ok.nl, h.ok.ns, fun p hp => by have := h.ok.dir p hp; rw [hl]; omega, fun p hp => by have := h.ok.lasts p hp; rw [hl]; omega⟩, box_set hb6 1 _, ?_, fun i hi => ?_, ?_, ?_, ?_, fun i j hi hj hne k hk => ?_⟩, ?_, fun j hj => ?_⟩
  · rcases List.mem_append.1 hf with e | e
    · exact h.ok.files f e
    · rw [List.mem_singleton.1 e]
      exact ⟨trivial, by decide, fun u hu => (by cases hu), by decide⟩
  · show (w6.setCell _ _).ownsRow 0 _ 2 _ (S.files ++ [(⟨⟨#[]⟩, []⟩ : ZF)]).length (filesC (S.files ++ [(⟨⟨#[]⟩, []⟩ : ZF)]) (upd X.uv S.files.length (.slice none 0 0)))
    rw [hl, filesC_snoc]
    exact set_row ho _ _ _ hnb
  · by_cases e : i = S.files.length
    · subst e
      show (w6.setCell _ _).ownsRow 0 _ 2 (upd X.uv S.files.length (.slice none 0 0) S.files.length) _ _
      have e1 : upd X.uv S.files.length (.slice none 0 0) S.files.length = .slice none 0 0 := if_pos rfl
      have e2 : (S.files ++ [(⟨⟨#[]⟩, []⟩ : ZF)])[S.files.length]'hi = ⟨⟨#[]⟩, []⟩ := by simp
      rw [e1]
      simp only [e2]
      exact World.ownsRow_nil _ _ _ _
    · have hi' : i < S.files.length := by
        have h1 : i < (S.files ++ [(⟨⟨#[]⟩, []⟩ : ZF)]).length := hi
        rw [hl] at h1; omega
      show (w6.setCell _ _).ownsRow 0 _ 2 (upd X.uv S.files.length (.slice none 0 0) i) _ _
      have e1 : upd X.uv S.files.length (.slice none 0 0) i = X.uv i := if_neg e
      rw [e1]
      simp only [hat i hi']
      exact set_row (hT6.row (h.units i hi') (key _ _ _ _ _ (h.units i hi') (by decide))) _ _ _ (h.ne _ (.inr (.inl ⟨i, hi', rfl⟩)))
  · exact set_row (hT6.row h.dir (key _ _ _ _ _ h.dir (by decide))) _ _ _ (h.ne _ (.inr (.inr (.inr (.inl rfl)))))
  · exact set_row (hT6.row h.lasts (key _ _ _ _ _ h.lasts (by decide))) _ _ _ (h.ne _ (.inr (.inr (.inr (.inr rfl)))))
  · exact set_row (hT6.row h.steps (key _ _ _ _ _ h.steps (by decide))) _ _ _ (h.ne _ (.inr (.inr (.inl rfl))))
  · have hi2 : i < S.files.length + 1 := by have h1 : i < (S.files ++ [(⟨⟨#[]⟩, []⟩ : ZF)]).length := hi; rw [hl] at h1; exact h1
    have hj2 : j < S.files.length + 1 := by have h1 : j < (S.files ++ [(⟨⟨#[]⟩, []⟩ : ZF)]).length := hj; rw [hl] at h1; exact h1
    simp only [upd] at hk ⊢
    by_cases e1 : i = S.files.length
    · rw [if_pos e1] at hk; cases hk
    · rw [if_neg e1] at hk
      by_cases e2 : j = S.files.length
      · rw [if_pos e2]; intro e; cases e
      · rw [if_neg e2]; exact h.apart i j (by omega) (by omega) hne k hk
  · exact (hT6.mono fun _ _ e => .inr (.inl e)).setCell _ _ fun _ => .inl rfl
  · rcases hj with e | e | ⟨i, hi, e⟩ | e | e | e
    · exact .inl (.inl e)
    · rcases hloc with e1 | e1
      · exact .inl (.inr (.inl (by rw [hfv, ← e1]; exact e)))
      · refine .inr ?_
        have h1 : some W.heap.size = some j := e1.symm.trans e
        have h2 := hT.size
        have h3 := Option.some.inj h1
        omega
    · simp only [upd] at e
      by_cases e1 : i = S.files.length
      · rw [if_pos e1] at e; cases e
      · rw [if_neg e1] at e
        exact .inl (.inr (.inr (.inl ⟨i, by omega, e⟩)))
    · exact .inl (.inr (.inr (.inr (.inl e))))
    · exact .inl (.inr (.inr (.inr (.inr (.inl e)))))
    · exact .inl (.inr (.inr (.inr (.inr (.inr e)))))
set_option maxHeartbeats 4000000 in
set_option maxRecDepth 100000 in
theorem zcreate_go (h : XR w b S X) (k : ByteArray) (hk : k.size ≤ 9223372036854775807) (hz : zfind S.dir k = -1) (hd : S.down = false) (hn : zname k = true) (hdl : S.dir.length < 200) (hnf : S.files.length < 1000) (htk : S.tick.1 = true) (hok : RD.ok { S.tick.2 with files := S.tick.2.files ++ [(⟨⟨#[]⟩, []⟩ : ZF)], dir := zgone S.tick.2.dir (⟨1, k, ⟨#[]⟩, S.tick.2.files.length⟩ : ZS), since := S.tick.2.since ++ [(⟨1, k, ⟨#[]⟩, S.tick.2.files.length⟩ : ZS)] }) :
    Calls Tryz.prog 33 #[.pointer (some ⟨b, 0, none⟩), .string k] w fun e w' => e = .returned (.int .i64 0) ∧ ∃ X', XR w' b { S.tick.2 with files := S.tick.2.files ++ [(⟨⟨#[]⟩, []⟩ : ZF)], dir := zgone S.tick.2.dir (⟨1, k, ⟨#[]⟩, S.tick.2.files.length⟩ : ZS), since := S.tick.2.since ++ [(⟨1, k, ⟨#[]⟩, S.tick.2.files.length⟩ : ZS)] } X' ∧ XStep w w' b S.files.length (S.tick.2.files.length + 1) X X' := by
  obtain ⟨ao, c, hdv, hf⟩ := h.find k
  obtain ⟨c0, _, c2, _, _, _, c6⟩ := h.c
  rw [hdv] at c2
  rw [hd] at c6
  have HF := hide (hf w (Below.refl _ _))
  rw [hz] at HF
  have HA := hide (zact_any h)
  rw [htk] at HA
  have HN := hide (fun W => zname_any k W hk)
  rw [hn] at HN
  have HFI : Hid True := trivial
  have HOK := hide hok
  have HNS : Hid (S.tick.2.since.length + 1 ≤ 1000) := hide (by have := hok.ns; simpa using this)
  have HFL := hide (tick_same S).2.1
  have hTl : S.tick.2.files.length < 1000 := by rw [(tick_same S).2.1]; exact hnf
  have HID : Hid (S.tick.2.files.length ≤ 1000000) := hide (by omega)
  have hdl' : ¬ (200 : Int) ≤ (S.dir.length : Int) := by omega
  have hdl2 : S.dir.length ≤ 1000 := by omega
  generalize S.dir.length = dl at *
  clear h hf hdv hd htk hok hn hz hnf hdl
  generalize S.tick.2 = T0 at *
  go_enter Tryz.func33, Tryz.ntmps33
  go_wp2_with fail
  refine (HN.out _).mono ?_
  rintro e w1 ⟨rfl, hw⟩
  obtain rfl := hw.symm
  clear hw HN
  go_wp2_with fail
  refine HF.out.mono ?_
  rintro e w1 ⟨rfl, hw⟩
  obtain rfl := hw.symm
  clear hw HF
  go_wp2_with fail
  refine HA.out.mono ?_
  rintro e w3 ⟨rfl, x3, s3⟩
  have X3 := hide x3
  have S3 : Hid (XStep w w3 b S.files.length T0.files.length X X) := by rw [HFL.out]; exact s3
  obtain ⟨fo, fc, hfv⟩ := row_slice x3.files
  obtain ⟨_, d1, _⟩ := x3.c
  rw [hfv] at d1
  have hof := x3.files
  rw [hfv] at hof
  have OF := hide hof
  have f1 := box_free x3.box 1
  have HFV := hide hfv
  clear x3 s3 HA HFL hof
  obtain ⟨i0, hi0', hz0', hz1', hz2'⟩ := zinfo_parts zinfoFi
  have HADD : Hid (∀ (W w4 : World) (a6 : Option Addr) (c6 : Nat), Touch (fun _ => False) w3 W → W.grownBy w4 (Value.slice fo T0.files.length fc).ownBlock → w4.ownsRow 0 75 2 (.slice a6 (T0.files.length + 1) c6) (T0.files.length + 1) (filesC T0.files X.uv ++ [.string ⟨#[]⟩, .slice none 0 0]) → ((Value.slice a6 (T0.files.length + 1) c6).ownBlock = (Value.slice fo T0.files.length fc).ownBlock ∨ (Value.slice a6 (T0.files.length + 1) c6).ownBlock = some W.heap.size) → XR (w4.setCell ⟨b, 1, none⟩ (.slice a6 (T0.files.length + 1) c6)) b { T0 with files := T0.files ++ [(⟨⟨#[]⟩, []⟩ : ZF)] } { X with fv := .slice a6 (T0.files.length + 1) c6, uv := upd X.uv T0.files.length (.slice none 0 0) } ∧ XStep w3 (w4.setCell ⟨b, 1, none⟩ (.slice a6 (T0.files.length + 1) c6)) b T0.files.length (T0.files.length + 1) X { X with fv := .slice a6 (T0.files.length + 1) c6, uv := upd X.uv T0.files.length (.slice none 0 0) }) := fun W w4 a6 c6 hT hg ho hloc => X3.out.addF hTl HFV.out hT hg ho hloc
  have HBX : Hid (∀ (W w4 : World), Touch (fun _ => False) w3 W → W.grownBy w4 (Value.slice fo T0.files.length fc).ownBlock → w4.cell? ⟨b, 1, none⟩ = some (.slice fo T0.files.length fc) ∧ w4.frozen? ⟨b, 1, none⟩ = false) := fun W w4 hT hg => by
    have hb4 := grown_at hg (hT.at X3.out.box (fun e => e)) (by rw [← HFV.out]; exact X3.out.ne _ (.inl rfl))
    exact ⟨by have h7 := box_cell hb4 1 (v := X.fv) rfl; rw [HFV.out] at h7; exact h7, box_free hb4 _⟩
  generalize hnf0 : T0.files.length = nf at *
  go_wp2_with (at_builtin; refine wpList_append_own_at _ rfl _ _ 57 rfl 0 75 i0 _ 2 40 Tryz.underlying57 hi0' hz0' hz1' hz2' rfl (by omega) (.slice fo nf fc) nf (filesC T0.files X.uv) rfl (OF.out.alloc _) ⟨w3.heap.size, 0, none⟩ 1 1 [.string ⟨#[]⟩, .slice none 0 0] rfl rfl (World.news_of_block (cs := #[.string ⟨#[]⟩, .slice none 0 0]) (t := 75) (fr := (0, 0)) (heap_alloc_new w3 _)) (by simp [Value.oneCell']) (by unfold maxLen; omega) (by omega) (Nat.zero_le _) ?_; intro v6 w4 hown6 hgrow6 _ hloc6; obtain ⟨a6, c6, rfl⟩ := row_slice hown6; obtain ⟨y1, y2⟩ := HBX.out _ _ ((Touch.refl _ w3).alloc _) hgrow6)
  have h9 := HADD.out _ _ _ _ ((Touch.refl _ w3).alloc _) hgrow6 hown6 hloc6
  have S5 : Hid (XStep w (w4.setCell ⟨b, 1, none⟩ (.slice a6 (nf + 1) c6)) b S.files.length (T0.files ++ [(⟨⟨#[]⟩, []⟩ : ZF)]).length X { X with fv := .slice a6 (nf + 1) c6, uv := upd X.uv nf (.slice none 0 0) }) := by
    have e : (T0.files ++ [(⟨⟨#[]⟩, []⟩ : ZF)]).length = nf + 1 := by rw [List.length_append, hnf0]; rfl
    rw [e]
    exact S3.out.trans h9.2
  have X5 := hide h9.1
  have HFE : Hid ((T0.files ++ [(⟨⟨#[]⟩, []⟩ : ZF)]).length = nf + 1) := hide (by rw [List.length_append, hnf0]; rfl)
  have hsz : (w4.setCell ⟨b, 1, none⟩ (.slice a6 (nf + 1) c6)).heap.size = w4.heap.size := World.size_setCell _ _ _
  generalize w4.setCell ⟨b, 1, none⟩ (.slice a6 (nf + 1) c6) = w5 at *
  generalize hT : ({ T0 with files := T0.files ++ [(⟨⟨#[]⟩, []⟩ : ZF)] } : RD) = T at X5
  have hTf : T.files = T0.files ++ [(⟨⟨#[]⟩, []⟩ : ZF)] := by rw [← hT]
  rw [← hTf] at S5
  have HTD : Hid (T.dir = T0.dir) := hide (by rw [← hT])
  have HNS : Hid (T.since.length + 1 ≤ 1000) := hide (by rw [← hT]; exact HNS.out)
  have HFT : Hid (T.files.length = T0.files.length + 1) := hide (by rw [hTf]; simp)
  have HOK : Hid (RD.ok { T with dir := zgone T.dir (⟨1, k, ⟨#[]⟩, nf⟩ : ZS), since := T.since ++ [(⟨1, k, ⟨#[]⟩, nf⟩ : ZS)] }) := hide (by rw [← hT]; exact HOK.out)
  have HT := hide hT
  have HNF := hide hnf0
  clear h9 hown6 hgrow6 hloc6 y1 y2 HADD HBX S3 X3 OF HFV hfv d1 f1 hnf0 hT hTf HFE
  have hok5 := X5.out.ok
  obtain ⟨ao5, c5, hdv5⟩ := row_slice X5.out.dir
  obtain ⟨so5, sc5, hsv5⟩ := row_slice X5.out.steps
  have hneD : (Value.slice so5 T.since.length sc5).ownBlock ≠ some w5.heap.size := fun e => by
    have := row_lt X5.out.steps (by rw [hsv5]; exact e)
    omega
  have ba : Below w5.heap.size w5 (w5.alloc (Obj.cells #[.int .i64 1, .string k, .string ⟨#[]⟩, .int .i64 (nf : Int)] 72)) := (Below.refl _ _).alloc (Nat.le_refl _) _
  have X0 := hide (X5.out.below ba)
  have BA := hide (XStep.same (b := b) (X := { X with fv := .slice a6 (nf + 1) c6, uv := upd X.uv nf (.slice none 0 0) }) _ _ T.files.length ba)
  have hbx := heap_alloc_new w5 (Obj.cells #[.int .i64 1, .string k, .string ⟨#[]⟩, .int .i64 (nf : Int)] 72)
  have hodr := X0.out.dir
  rw [hdv5] at hodr
  have HK1 := hide (enters_of Tryz.func30 (by kernel_rfl) rfl)
  rw [hsz] at hbx hneD
  generalize w5.alloc (Obj.cells #[.int .i64 1, .string k, .string ⟨#[]⟩, .int .i64 (nf : Int)] 72) = W0 at *
  generalize w4.heap.size = D0 at hbx hneD ⊢
  have hD0 : D0 < W0.heap.size := heap_lt hbx
  have hbl : b < W0.heap.size := heap_lt X0.out.box
  have hbD : b ≠ D0 := fun e => by
    have h1 := X0.out.box
    rw [e, hbx] at h1
    injection h1 with h1
    injection h1 with _ h3 _
    exact absurd h3 (by decide)
  obtain ⟨e0, e1, e2, e3⟩ := zbox4 hbx
  obtain ⟨_, _, d2, _, d4, _, _⟩ := X0.out.c
  rw [hdv5] at d2
  rw [hsv5] at d4
  have f2 := box_free X0.out.box 2
  have HG := hide (fun W (hb : Below W0.heap.size W0 W) => zgone_any ao5 c5 T.dir (⟨1, k, ⟨#[]⟩, nf⟩ : ZS) W 0 (by have := hok5.nd; omega) HID.out (by first | exact fun _ => HFI.out | exact fun e => absurd e (by simp)) (below_row hb hodr))
  simp only [ZS.v] at HG
  have HOKD : Hid (RD.ok { T with dir := zgone T.dir (⟨1, k, ⟨#[]⟩, nf⟩ : ZS) }) := ⟨hok5.room, hok5.fuse, hok5.files, hok5.nf, HOK.out.nd, hok5.nl, hok5.ns, HOK.out.dir, hok5.lasts⟩
  generalize hGD : zgone T.dir (⟨1, k, ⟨#[]⟩, nf⟩ : ZS) = GD at *
  have HGD := hide hGD
  have HGD0 : Hid (zgone T0.dir (⟨1, k, ⟨#[]⟩, nf⟩ : ZS) = GD) := hide (by rw [← HTD.out]; exact hGD)
  clear hodr hGD
  have HXD : Hid (∀ (w6 : World) (ro : Option Addr) (rc : Nat), Below W0.heap.size W0 w6 → w6.ownsRow W0.heap.size 77 2 (.slice ro GD.length rc) GD.length (nmCells GD) → XR (w6.setCell ⟨b, 2, none⟩ (.slice ro GD.length rc)) b { T with dir := GD } { { X with fv := .slice a6 (nf + 1) c6, uv := upd X.uv nf (.slice none 0 0) } with dv := .slice ro GD.length rc } ∧ XStep W0 (w6.setCell ⟨b, 2, none⟩ (.slice ro GD.length rc)) b T.files.length T.files.length { X with fv := .slice a6 (nf + 1) c6, uv := upd X.uv nf (.slice none 0 0) } { { X with fv := .slice a6 (nf + 1) c6, uv := upd X.uv nf (.slice none 0 0) } with dv := .slice ro GD.length rc } ∧ (w6.setCell ⟨b, 2, none⟩ (.slice ro GD.length rc)).heap[D0]? = some (Obj.cells #[.int .i64 1, .string k, .string ⟨#[]⟩, .int .i64 (nf : Int)] 72)) := by
    intro w6 ro rc hb6 ho6
    have hX6 := X0.out.below hb6
    have hbx6 : w6.heap[D0]? = some (Obj.cells #[.int .i64 1, .string k, .string ⟨#[]⟩, .int .i64 (nf : Int)] 72) := (hb6.block D0 hD0).trans hbx
    have hnb : ∀ v : Value, v = .slice ro GD.length rc → v.ownBlock ≠ some b := fun v hv e => by
      rw [hv] at e
      have := (ho6.lt b e).1
      omega
    have hstep := X0.out.dirs (S' := { T with dir := GD }) (X' := { { X with fv := .slice a6 (nf + 1) c6, uv := upd X.uv nf (.slice none 0 0) } with dv := .slice ro GD.length rc }) HOKD.out rfl rfl rfl (w1 := w6.setCell ⟨b, 2, none⟩ (.slice ro GD.length rc)) ((Touch.of_below hb6).setCell _ _ fun _ => .inl rfl) (box_set hX6.box 2 _) (set_row (own_base2 ho6 (Nat.zero_le _)) _ _ _ (hnb _ rfl)) (set_row hX6.lasts _ _ _ (hX6.ne _ (.inr (.inr (.inr (.inr rfl)))))) (set_row hX6.steps _ _ _ (hX6.ne _ (.inr (.inr (.inl rfl))))) (by
      rintro v (rfl | rfl | rfl) j hj
      · exact .inr (ho6.lt j hj).1
      · exact .inl (.inr (.inl hj))
      · exact .inl (.inr (.inr hj)))
    exact ⟨hstep.1, hstep.2, box_apart hbx6 (Ne.symm hbD) _ _⟩
  go_cut [] (fun wx => ∃ (ro : Option Addr) (rc : Nat), Hid (XR wx b { T with dir := GD } { { X with fv := .slice a6 (nf + 1) c6, uv := upd X.uv nf (.slice none 0 0) } with dv := .slice ro GD.length rc } ∧ XStep W0 wx b T.files.length T.files.length { X with fv := .slice a6 (nf + 1) c6, uv := upd X.uv nf (.slice none 0 0) } { { X with fv := .slice a6 (nf + 1) c6, uv := upd X.uv nf (.slice none 0 0) } with dv := .slice ro GD.length rc } ∧ wx.heap[D0]? = some (Obj.cells #[.int .i64 1, .string k, .string ⟨#[]⟩, .int .i64 (nf : Int)] 72)))
  case first =>
    go_region_law (first
      | (refine zstep_fn (by rfl) 58 (by rfl) 30 _ _ (by rfl) HK1.out [.slice ao5 T.dir.length c5, .agg #[.int .i64 1, .string k, .string ⟨#[]⟩, .int .i64 (nf : Int)]] (by rfl) (HG.out _ (by first | exact Below.refl _ _ | exact (Below.refl _ _).drew)) ?_; rintro e w6 ⟨ro, rc, rfl, o6, b6⟩; refine ⟨_, rfl, ?_⟩; have O6 := hide o6; have B6 : Hid (Below W0.heap.size W0 w6) := ⟨b6.os, b6.tape, b6.output, b6.size, b6.block⟩; have z2 := (B6.out.cell (p := ⟨b, 2, none⟩) hbl).trans d2; have zf : w6.frozen? ⟨b, 2, none⟩ = false := (World.frozen?_of_block (a := ⟨b, 2, none⟩) (B6.out.block b hbl)).trans f2; clear o6 b6))
    all_goals (
      go_wp2
      go_meet
      case rel => exact ⟨ro, rc, HXD.out w6 ro rc B6.out O6.out⟩)
  case rest =>
    obtain ⟨ro, rc, HC⟩ := hcut
    obtain ⟨xc, sc, hbc⟩ := HC.out
    have XC := hide xc
    have SC := hide sc
    clear d2 d4 f2 e0 e1 e2 e3 HG HXD HK1 HC
    obtain ⟨e0, e1, e2, e3⟩ := zbox4 hbc
    obtain ⟨_, _, _, _, d4, _, _⟩ := xc.c
    have d4' : wc.cell? ⟨b, 4, none⟩ = some (.slice so5 T.since.length sc5) := by rw [← hsv5]; exact d4
    have hst := xc.steps
    have hst' : wc.ownsRow 0 72 4 (.slice so5 T.since.length sc5) T.since.length (stCells T.since) := by rw [← hsv5]; exact hst
    have OS := hide hst'
    have hne4 : (Value.slice so5 T.since.length sc5).ownBlock ≠ some b := by rw [← hsv5]; exact xc.ne _ (.inr (.inr (.inl rfl)))
    have HBC := hide hbc
    have hDl : D0 < wc.heap.size := heap_lt hbc
    have hblc : b < wc.heap.size := heap_lt xc.box
    have HG : Hid (∀ (o : Obj) (W w7 : World), W.grownBy w7 (Value.slice so5 T.since.length sc5).ownBlock → W.heap = (wc.alloc o).heap → (w7.cell? ⟨b, 4, none⟩ = some (.slice so5 T.since.length sc5) ∧ w7.frozen? ⟨b, 4, none⟩ = false) ∧ (w7.cell? ⟨D0, 0, none⟩ = some (.int .i64 1) ∧ w7.cell? ⟨D0, 1, none⟩ = some (.string k) ∧ w7.cell? ⟨D0, 2, none⟩ = some (.string ⟨#[]⟩) ∧ w7.cell? ⟨D0, 3, none⟩ = some (.int .i64 (nf : Int)))) := by
      intro o W w7 hg hW
      have hb7 := grown_at hg (by rw [hW]; exact box_alloc XC.out.box o) hne4
      have hD7 := grown_at hg (by rw [hW]; exact box_alloc HBC.out o) hneD
      exact ⟨⟨by have h7 := box_cell hb7 4 (v := ({ X with fv := .slice a6 (nf + 1) c6, uv := upd X.uv nf (.slice none 0 0) }).sv) rfl; rw [hsv5] at h7; exact h7, box_free hb7 _⟩, zbox4 hD7⟩
    have HEND : Hid (∀ (W w7 : World) (a7 : Option Addr) (c7 : Nat), Touch (fun _ => False) wc W → W.grownBy w7 (Value.slice so5 T.since.length sc5).ownBlock → w7.ownsRow 0 72 4 (.slice a7 (T.since.length + 1) c7) (T.since.length + 1) (stCells T.since ++ [.int .i64 1, .string k, .string ⟨#[]⟩, .int .i64 (nf : Int)]) → ((Value.slice a7 (T.since.length + 1) c7).ownBlock = (Value.slice so5 T.since.length sc5).ownBlock ∨ (Value.slice a7 (T.since.length + 1) c7).ownBlock = some W.heap.size) → XR (w7.setCell ⟨b, 4, none⟩ (.slice a7 (T.since.length + 1) c7)) b { T with dir := GD, since := T.since ++ [(⟨1, k, ⟨#[]⟩, nf⟩ : ZS)] } { { { X with fv := .slice a6 (nf + 1) c6, uv := upd X.uv nf (.slice none 0 0) } with dv := .slice ro GD.length rc } with sv := .slice a7 (T.since.length + 1) c7 } ∧ XStep wc (w7.setCell ⟨b, 4, none⟩ (.slice a7 (T.since.length + 1) c7)) b T.files.length T.files.length { { X with fv := .slice a6 (nf + 1) c6, uv := upd X.uv nf (.slice none 0 0) } with dv := .slice ro GD.length rc } { { { X with fv := .slice a6 (nf + 1) c6, uv := upd X.uv nf (.slice none 0 0) } with dv := .slice ro GD.length rc } with sv := .slice a7 (T.since.length + 1) c7 }) := by
      intro W w7 a7 c7 hT hg ho hloc
      have hT7 : Touch (fun j => ({ { X with fv := .slice a6 (nf + 1) c6, uv := upd X.uv nf (.slice none 0 0) } with dv := .slice ro GD.length rc } : XG).sv.ownBlock = some j) wc w7 := (hT.mono fun _ _ e => e.elim).grown hg fun j e _ => by show ({ X with fv := .slice a6 (nf + 1) c6, uv := upd X.uv nf (.slice none 0 0) }).sv.ownBlock = some j; rw [hsv5]; exact e
      have hnb : (Value.slice a7 (T.since.length + 1) c7).ownBlock ≠ some b := fun e => by
        have hb7 := hT7.at XC.out.box (XC.out.ne _ (.inr (.inr (.inl rfl))))
        exact absurd (zown_type ho e hb7) (by decide)
      have hb7 := hT7.at XC.out.box (XC.out.ne _ (.inr (.inr (.inl rfl))))
      have key : ∀ (v : Value) (t : TypeId) (z m : Nat) (xs : List Value), wc.ownsRow 0 t z v m xs → t ≠ 72 → ∀ j, v.ownBlock = some j → ¬ (({ { X with fv := .slice a6 (nf + 1) c6, uv := upd X.uv nf (.slice none 0 0) } with dv := .slice ro GD.length rc } : XG).sv.ownBlock = some j) := fun v t z m xs hr ht j hj e => by
        rcases XC.out.steps.2 with ⟨hv, _⟩ | ⟨g, c, cur, hv, _, hh, _⟩
        · rw [hv] at e; cases e
        · rw [hv] at e
          have e' : g = j := Option.some.inj e
          subst e'
          exact ht (zown_type hr hj hh)
      have hs4 : ({ T with dir := GD, since := T.since ++ [(⟨1, k, ⟨#[]⟩, nf⟩ : ZS)] } : RD).since.length = T.since.length + 1 := by simp
      have hc4 : stCells (T.since ++ [(⟨1, k, ⟨#[]⟩, nf⟩ : ZS)]) = stCells T.since ++ [.int .i64 1, .string k, .string ⟨#[]⟩, .int .i64 (nf : Int)] := by simp [stCells]
      refine XC.out.dirs (S' := { T with dir := GD, since := T.since ++ [(⟨1, k, ⟨#[]⟩, nf⟩ : ZS)] }) (X' := { { { X with fv := .slice a6 (nf + 1) c6, uv := upd X.uv nf (.slice none 0 0) } with dv := .slice ro GD.length rc } with sv := .slice a7 (T.since.length + 1) c7 }) ⟨HOKD.out.room, HOKD.out.fuse, HOKD.out.files, HOKD.out.nf, HOKD.out.nd, HOKD.out.nl, by rw [hs4]; exact HNS.out, HOKD.out.dir, HOKD.out.lasts⟩ rfl rfl rfl ((hT7.mono fun _ _ e => .inr e).setCell _ _ fun _ => .inl rfl) (box_set hb7 4 _) (set_row (hT7.row XC.out.dir (key _ _ _ _ _ XC.out.dir (by decide))) _ _ _ (XC.out.ne _ (.inr (.inr (.inr (.inl rfl)))))) (set_row (hT7.row XC.out.lasts (key _ _ _ _ _ XC.out.lasts (by decide))) _ _ _ (XC.out.ne _ (.inr (.inr (.inr (.inr rfl)))))) ?_ ?_
      · rw [hs4, hc4]
        exact set_row ho _ _ _ hnb
      · rintro v (rfl | rfl | rfl) j hj
        · exact .inl (.inl hj)
        · exact .inl (.inr (.inl hj))
        · rcases hloc with e | e
          · refine .inl (.inr (.inr ?_))
            show ({ X with fv := .slice a6 (nf + 1) c6, uv := upd X.uv nf (.slice none 0 0) }).sv.ownBlock = some j
            rw [hsv5, ← e]
            exact hj
          · refine .inr ?_
            have h1 : some W.heap.size = some j := e.symm.trans hj
            have h2 := hT.size
            have h3 := Option.some.inj h1
            omega
    have q4 : ∀ o : Obj, (wc.alloc o).cell? ⟨b, 4, none⟩ = some (.slice so5 T.since.length sc5) := fun o => (World.cell?_of_block (a := ⟨b, 4, none⟩) (Below.heap_alloc wc o b hblc)).trans d4'
    have r0 : ∀ o : Obj, (wc.alloc o).cell? ⟨D0, 0, none⟩ = some (.int .i64 1) := fun o => (World.cell?_of_block (a := ⟨D0, 0, none⟩) (Below.heap_alloc wc o D0 hDl)).trans e0
    have r1 : ∀ o : Obj, (wc.alloc o).cell? ⟨D0, 1, none⟩ = some (.string k) := fun o => (World.cell?_of_block (a := ⟨D0, 1, none⟩) (Below.heap_alloc wc o D0 hDl)).trans e1
    have r2 : ∀ o : Obj, (wc.alloc o).cell? ⟨D0, 2, none⟩ = some (.string ⟨#[]⟩) := fun o => (World.cell?_of_block (a := ⟨D0, 2, none⟩) (Below.heap_alloc wc o D0 hDl)).trans e2
    have r3 : ∀ o : Obj, (wc.alloc o).cell? ⟨D0, 3, none⟩ = some (.int .i64 (nf : Int)) := fun o => (World.cell?_of_block (a := ⟨D0, 3, none⟩) (Below.heap_alloc wc o D0 hDl)).trans e3
    obtain ⟨i0, hi0', hz0', hz1', hz2'⟩ := zinfo_parts zinfoSt
    have hns := hok5.ns
    clear xc sc hbc d4 hst hst' hbx
    generalize hnu : T.since.length = nu at OS HG q4 d4' hne4 hneD hns HEND
    generalize hxs : stCells T.since = xss at OS HEND
    go_wp2_with fail
    go_region_law (first
      | (refine zstep_append rfl _ _ 59 rfl 0 72 i0 _ 4 48 Tryz.underlying59 hi0' hz0' hz1' hz2' rfl (by omega) (.slice so5 nu sc5) nu xss (by rfl) (by first | exact OS.out.alloc _ | exact OS.out.drew.alloc _) ⟨wc.heap.size, 0, none⟩ 1 1 [.int .i64 1, .string k, .string ⟨#[]⟩, .int .i64 (nf : Int)] (by rfl) (by rfl) (World.news_of_block (cs := #[.int .i64 1, .string k, .string ⟨#[]⟩, .int .i64 (nf : Int)]) (t := 72) (fr := (0, 0)) (by first | exact heap_alloc_new wc _ | exact heap_alloc_new wc.drew _)) (by simp [Value.oneCell']) (by unfold maxLen; omega) (by omega) (Nat.zero_le _) ?_; intro a7 c7 w7 hown7 hgrow7 hloc7; obtain ⟨⟨y4, yf⟩, y0, y1, y2, y3⟩ := HG.out _ _ _ hgrow7 rfl))
    all_goals (
      go_wp2
      go_ret
      have h9 := HEND.out _ _ _ _ (by first | exact ((Touch.refl _ wc).alloc _).drew | exact ((Touch.refl _ wc).drew).alloc _) hgrow7 hown7 hloc7
      exact ⟨rfl, _, by rw [HNF.out, HGD0.out]; have h10 := h9.1; rw [← HT.out] at h10; exact h10, by rw [← HFT.out]; exact S5.out.trans (BA.out.trans (SC.out.trans h9.2))⟩)
end
end Go.Proofs.YtknldpaaikcedaaGreat
