/-
  carillonref04's Create, Append, Sync, Truncate, Rename, Remove, whole: each as one function of the state.
-/
import Derived.Test.YtknldpaaikcedaaGreatZZ12
import Derived.Test.YtknldpaaikcedaaGreatZZ15
namespace Go.Proofs.YtknldpaaikcedaaGreat
open Go.RowKit

section
variable {w w' w2 : World} {b : Nat} {S : RD} {X X' X2 : XG} {n n' n2 : Nat}
def RD.remove (S : RD) (k : ByteArray) : Int × RD := if S.down then (9, S) else if zfind S.dir k < 0 then (7, S) else if S.tick.1 = false then (9, S.tick.2) else (0, { S.tick.2 with dir := zgone S.tick.2.dir (⟨3, k, ⟨#[]⟩, 0⟩ : ZS), since := S.tick.2.since ++ [(⟨3, k, ⟨#[]⟩, 0⟩ : ZS)] })
set_option maxHeartbeats 4000000 in
set_option maxRecDepth 100000 in
theorem zremove_any (h : XR w b S X) (k : ByteArray) (hok : (S.remove k).2.ok) : Calls Tryz.prog 39 #[.pointer (some ⟨b, 0, none⟩), .string k] w fun e w' => e = .returned (.int .i64 (S.remove k).1) ∧ ∃ X', XR w' b (S.remove k).2 X' ∧ XStep w w' b S.files.length (S.remove k).2.files.length X X' := by
  obtain ⟨ao, c, hdv, hf⟩ := h.find k
  obtain ⟨c0, _, c2, _, _, _, c6⟩ := h.c
  rw [hdv] at c2
  have HF := hide (hf w (Below.refl _ _))
  have hfo := find_ok h.ok k
  have HA := hide (fun W (hb : Below w.heap.size w W) => zact_any (h.below hb))
  have HH := hide h
  have HFL := hide (tick_same S).2.1
  have hnd := h.ok.nd
  have hub : b < w.heap.size := heap_lt h.box
  have hdl : S.dir.length = S.dir.length := rfl
  cases hd : S.down with
  | true =>
    have e : S.remove k = (9, S) := by unfold RD.remove; rw [if_pos (hd)]
    rw [e]
    clear e hok
    rw [hd] at c6
    clear h hf hfo hdv hd
    go_enter Tryz.func39, Tryz.ntmps39
    go_wp2
    go_ret
    exact ⟨rfl, X, HH.out, XStep.same _ _ _ (Below.refl _ _)⟩
  | false =>
    rw [hd] at c6
    rcases hfo with hz | ⟨i, hz, hi⟩
    · rw [hz] at HF
      have e : S.remove k = (7, S) := by unfold RD.remove; rw [if_neg (by rw [hd]; decide), if_pos (by rw [hz]; decide)]
      rw [e]
      clear e hok
      clear h hf hdv hd hz
      go_enter Tryz.func39, Tryz.ntmps39
      go_wp2_with fail
      refine HF.out.mono ?_
      rintro e w1 ⟨rfl, hw⟩
      obtain rfl := hw.symm
      clear hw
      go_wp2
      go_ret
      exact ⟨rfl, X, HH.out, XStep.same _ _ _ (Below.refl _ _)⟩
    · rw [hz] at HF
      have hi0 : ¬ (i : Int) < 0 := by omega
      have htn : (zfind S.dir k).toNat = i := by rw [hz]; rfl
      cases htk : S.tick.1 with
      | false =>
        have e : S.remove k = (9, S.tick.2) := by unfold RD.remove; rw [if_neg (by rw [hd]; decide), if_neg (by rw [hz]; omega), if_pos (htk)]
        rw [e]
        clear e hok
        rw [htk] at HA
        clear h hf hdv hd hz htk
        go_enter Tryz.func39, Tryz.ntmps39
        go_wp2_with fail
        refine HF.out.mono ?_
        rintro e w1 ⟨rfl, hw⟩
        obtain rfl := hw.symm
        clear hw
        go_wp2_with fail
        refine (HA.out _ (Below.refl _ _)).mono ?_
        rintro e w5 ⟨rfl, x5, s5⟩
        have X5 := hide x5
        have S5 := hide s5
        clear x5 s5
        go_wp2
        go_ret
        exact ⟨rfl, X, X5.out, by rw [HFL.out]; exact S5.out⟩
      | true =>
        have e : S.remove k = (0, { S.tick.2 with dir := zgone S.tick.2.dir (⟨3, k, ⟨#[]⟩, 0⟩ : ZS), since := S.tick.2.since ++ [(⟨3, k, ⟨#[]⟩, 0⟩ : ZS)] }) := by unfold RD.remove; rw [if_neg (by rw [hd]; decide), if_neg (by rw [hz]; omega), if_neg (by rw [htk]; decide)]
        rw [e] at hok ⊢
        exact zremove_go h k (by omega) (by have := h.ok.nf; omega) hd htk hok
def RD.rename (S : RD) (k t : ByteArray) : Int × RD := if S.down then (9, S) else if zfind S.dir k < 0 then (7, S) else if zname t = false then (5, S) else if S.tick.1 = false then (9, S.tick.2) else (0, { S.tick.2 with dir := zgone S.tick.2.dir (⟨2, k, t, 0⟩ : ZS), since := S.tick.2.since ++ [(⟨2, k, t, 0⟩ : ZS)] })
set_option maxHeartbeats 4000000 in
set_option maxRecDepth 100000 in
theorem zrename_any (h : XR w b S X) (k t : ByteArray) (ht : t.size ≤ 9223372036854775807) (hok : (S.rename k t).2.ok) : Calls Tryz.prog 36 #[.pointer (some ⟨b, 0, none⟩), .string k, .string t] w fun e w' => e = .returned (.int .i64 (S.rename k t).1) ∧ ∃ X', XR w' b (S.rename k t).2 X' ∧ XStep w w' b S.files.length (S.rename k t).2.files.length X X' := by
  obtain ⟨ao, c, hdv, hf⟩ := h.find k
  obtain ⟨c0, _, c2, _, _, _, c6⟩ := h.c
  rw [hdv] at c2
  have HF := hide (hf w (Below.refl _ _))
  have hfo := find_ok h.ok k
  have HA := hide (fun W (hb : Below w.heap.size w W) => zact_any (h.below hb))
  have HH := hide h
  have HFL := hide (tick_same S).2.1
  have hnd := h.ok.nd
  have hub : b < w.heap.size := heap_lt h.box
  have hdl : S.dir.length = S.dir.length := rfl
  have HN := hide (fun W => zname_any t W ht)
  cases hd : S.down with
  | true =>
    have e : S.rename k t = (9, S) := by unfold RD.rename; rw [if_pos (hd)]
    rw [e]
    clear e hok
    rw [hd] at c6
    clear h hf hfo hdv hd
    go_enter Tryz.func36, Tryz.ntmps36
    go_wp2
    go_ret
    exact ⟨rfl, X, HH.out, XStep.same _ _ _ (Below.refl _ _)⟩
  | false =>
    rw [hd] at c6
    rcases hfo with hz | ⟨i, hz, hi⟩
    · rw [hz] at HF
      have e : S.rename k t = (7, S) := by unfold RD.rename; rw [if_neg (by rw [hd]; decide), if_pos (by rw [hz]; decide)]
      rw [e]
      clear e hok
      clear h hf hdv hd hz
      go_enter Tryz.func36, Tryz.ntmps36
      go_wp2_with fail
      refine HF.out.mono ?_
      rintro e w1 ⟨rfl, hw⟩
      obtain rfl := hw.symm
      clear hw
      go_wp2
      go_ret
      exact ⟨rfl, X, HH.out, XStep.same _ _ _ (Below.refl _ _)⟩
    · rw [hz] at HF
      have hi0 : ¬ (i : Int) < 0 := by omega
      have htn : (zfind S.dir k).toNat = i := by rw [hz]; rfl
      cases hn : zname t with
      | false =>
        have e : S.rename k t = (5, S) := by unfold RD.rename; rw [if_neg (by rw [hd]; decide), if_neg (by rw [hz]; omega), if_pos (hn)]
        rw [e]
        clear e hok
        rw [hn] at HN
        clear h hf hdv hd hn
        go_enter Tryz.func36, Tryz.ntmps36
        go_wp2_with fail
        refine HF.out.mono ?_
        rintro e w1 ⟨rfl, hw⟩
        obtain rfl := hw.symm
        clear hw
        go_wp2_with fail
        refine (HN.out _).mono ?_
        rintro e w1 ⟨rfl, hw⟩
        obtain rfl := hw.symm
        clear hw
        go_wp2
        go_ret
        exact ⟨rfl, X, HH.out, XStep.same _ _ _ (Below.refl _ _)⟩
      | true =>
        have hn' := hn
        rw [hn'] at HN
        cases htk : S.tick.1 with
        | false =>
          have e : S.rename k t = (9, S.tick.2) := by unfold RD.rename; rw [if_neg (by rw [hd]; decide), if_neg (by rw [hz]; omega), if_neg (by rw [hn]; decide), if_pos (htk)]
          rw [e]
          clear e hok
          rw [htk] at HA
          clear h hf hdv hd hz htk
          go_enter Tryz.func36, Tryz.ntmps36
          go_wp2_with fail
          refine HF.out.mono ?_
          rintro e w1 ⟨rfl, hw⟩
          obtain rfl := hw.symm
          clear hw
          go_wp2_with fail
          refine (HN.out _).mono ?_
          rintro e w1 ⟨rfl, hw⟩
          obtain rfl := hw.symm
          clear hw
          go_wp2_with fail
          refine (HA.out _ (Below.refl _ _)).mono ?_
          rintro e w5 ⟨rfl, x5, s5⟩
          have X5 := hide x5
          have S5 := hide s5
          clear x5 s5
          go_wp2
          go_ret
          exact ⟨rfl, X, X5.out, by rw [HFL.out]; exact S5.out⟩
        | true =>
          have e : S.rename k t = (0, { S.tick.2 with dir := zgone S.tick.2.dir (⟨2, k, t, 0⟩ : ZS), since := S.tick.2.since ++ [(⟨2, k, t, 0⟩ : ZS)] }) := by unfold RD.rename; rw [if_neg (by rw [hd]; decide), if_neg (by rw [hz]; omega), if_neg (by rw [hn]; decide), if_neg (by rw [htk]; decide)]
          rw [e] at hok ⊢
          exact zrename_go h k t ht (by omega) (by have := h.ok.nf; omega) hd hn htk hok
def RD.create (S : RD) (k : ByteArray) : Int × RD := if S.down then (9, S) else if zname k = false then (5, S) else if 0 ≤ zfind S.dir k then (6, S) else if 200 ≤ S.dir.length then (8, S) else if S.tick.1 = false then (9, S.tick.2) else (0, { S.tick.2 with files := S.tick.2.files ++ [(⟨⟨#[]⟩, []⟩ : ZF)], dir := zgone S.tick.2.dir (⟨1, k, ⟨#[]⟩, S.tick.2.files.length⟩ : ZS), since := S.tick.2.since ++ [(⟨1, k, ⟨#[]⟩, S.tick.2.files.length⟩ : ZS)] })
set_option maxHeartbeats 4000000 in
set_option maxRecDepth 100000 in
theorem zcreate_any (h : XR w b S X) (k : ByteArray) (hk : k.size ≤ 9223372036854775807) (hnf : S.files.length < 1000) (hok : (S.create k).2.ok) : Calls Tryz.prog 33 #[.pointer (some ⟨b, 0, none⟩), .string k] w fun e w' => e = .returned (.int .i64 (S.create k).1) ∧ ∃ X', XR w' b (S.create k).2 X' ∧ XStep w w' b S.files.length (S.create k).2.files.length X X' := by
  obtain ⟨ao, c, hdv, hf⟩ := h.find k
  obtain ⟨c0, _, c2, _, _, _, c6⟩ := h.c
  rw [hdv] at c2
  have HF := hide (hf w (Below.refl _ _))
  have hfo := find_ok h.ok k
  have HA := hide (fun W (hb : Below w.heap.size w W) => zact_any (h.below hb))
  have HH := hide h
  have HFL := hide (tick_same S).2.1
  have hnd := h.ok.nd
  have hub : b < w.heap.size := heap_lt h.box
  have hdl : S.dir.length = S.dir.length := rfl
  have HN := hide (fun W => zname_any k W hk)
  cases hd : S.down with
  | true =>
    have e : S.create k = (9, S) := by unfold RD.create; rw [if_pos (hd)]
    rw [e]
    clear e hok
    rw [hd] at c6
    clear h hf hfo hdv hd
    go_enter Tryz.func33, Tryz.ntmps33
    go_wp2
    go_ret
    exact ⟨rfl, X, HH.out, XStep.same _ _ _ (Below.refl _ _)⟩
  | false =>
    rw [hd] at c6
    cases hn : zname k with
    | false =>
      have e : S.create k = (5, S) := by unfold RD.create; rw [if_neg (by rw [hd]; decide), if_pos (hn)]
      rw [e]
      clear e hok
      rw [hn] at HN
      clear h hf hdv hd hn
      go_enter Tryz.func33, Tryz.ntmps33
      go_wp2_with fail
      refine (HN.out _).mono ?_
      rintro e w1 ⟨rfl, hw⟩
      obtain rfl := hw.symm
      clear hw
      go_wp2
      go_ret
      exact ⟨rfl, X, HH.out, XStep.same _ _ _ (Below.refl _ _)⟩
    | true =>
      have hn' := hn
      rw [hn'] at HN
      rcases hfo with hz | ⟨i, hz, hi⟩
      rotate_left
      · rw [hz] at HF
        have e : S.create k = (6, S) := by unfold RD.create; rw [if_neg (by rw [hd]; decide), if_neg (by rw [hn]; decide), if_pos (by rw [hz]; omega)]
        rw [e]
        clear e hok
        have hi0 : (0 : Int) ≤ (i : Int) := by omega
        clear h hf hdv hd hz
        go_enter Tryz.func33, Tryz.ntmps33
        go_wp2_with fail
        refine (HN.out _).mono ?_
        rintro e w1 ⟨rfl, hw⟩
        obtain rfl := hw.symm
        clear hw
        go_wp2_with fail
        refine HF.out.mono ?_
        rintro e w1 ⟨rfl, hw⟩
        obtain rfl := hw.symm
        clear hw
        go_wp2
        go_ret
        exact ⟨rfl, X, HH.out, XStep.same _ _ _ (Below.refl _ _)⟩
      rw [hz] at HF
      by_cases hlen : 200 ≤ S.dir.length
      · have hl2 : (200 : Int) ≤ (S.dir.length : Int) := by omega
        have e : S.create k = (8, S) := by unfold RD.create; rw [if_neg (by rw [hd]; decide), if_neg (by rw [hn]; decide), if_neg (by rw [hz]; decide), if_pos (hlen)]
        rw [e]
        clear e hok
        generalize S.dir.length = dl at *
        clear h hf hdv hd hz
        go_enter Tryz.func33, Tryz.ntmps33
        go_wp2_with fail
        refine (HN.out _).mono ?_
        rintro e w1 ⟨rfl, hw⟩
        obtain rfl := hw.symm
        clear hw
        go_wp2_with fail
        refine HF.out.mono ?_
        rintro e w1 ⟨rfl, hw⟩
        obtain rfl := hw.symm
        clear hw
        go_wp2
        go_ret
        exact ⟨rfl, X, HH.out, XStep.same _ _ _ (Below.refl _ _)⟩
      · have hl2 : ¬ (200 : Int) ≤ (S.dir.length : Int) := by omega
        cases htk : S.tick.1 with
        | false =>
          have e : S.create k = (9, S.tick.2) := by unfold RD.create; rw [if_neg (by rw [hd]; decide), if_neg (by rw [hn]; decide), if_neg (by rw [hz]; decide), if_neg (hlen), if_pos (htk)]
          rw [e]
          clear e hok
          rw [htk] at HA
          generalize S.dir.length = dl at *
          clear h hf hdv hd hz htk
          go_enter Tryz.func33, Tryz.ntmps33
          go_wp2_with fail
          refine (HN.out _).mono ?_
          rintro e w1 ⟨rfl, hw⟩
          obtain rfl := hw.symm
          clear hw
          go_wp2_with fail
          refine HF.out.mono ?_
          rintro e w1 ⟨rfl, hw⟩
          obtain rfl := hw.symm
          clear hw
          go_wp2_with fail
          refine (HA.out _ (Below.refl _ _)).mono ?_
          rintro e w5 ⟨rfl, x5, s5⟩
          have X5 := hide x5
          have S5 := hide s5
          clear x5 s5
          go_wp2
          go_ret
          exact ⟨rfl, X, X5.out, by rw [HFL.out]; exact S5.out⟩
        | true =>
          have e : S.create k = (0, { S.tick.2 with files := S.tick.2.files ++ [(⟨⟨#[]⟩, []⟩ : ZF)], dir := zgone S.tick.2.dir (⟨1, k, ⟨#[]⟩, S.tick.2.files.length⟩ : ZS), since := S.tick.2.since ++ [(⟨1, k, ⟨#[]⟩, S.tick.2.files.length⟩ : ZS)] }) := by unfold RD.create; rw [if_neg (by rw [hd]; decide), if_neg (by rw [hn]; decide), if_neg (by rw [hz]; decide), if_neg (hlen), if_neg (by rw [htk]; decide)]
          rw [e] at hok ⊢
          refine (zcreate_go h k hk hz hd hn (by omega) hnf htk hok).mono ?_
          rintro e w' ⟨rfl, X', x', s'⟩
          exact ⟨rfl, X', x', by simpa using s'⟩
def RD.sync (S : RD) (k : ByteArray) : Int × RD := if S.down then (9, S) else if zfind S.dir k < 0 then (7, S) else if S.tick.1 = false then (9, S.tick.2) else (0, { S.tick.2 with files := S.tick.2.files.set (zfind S.dir k).toNat ⟨S.bytes (zfind S.dir k).toNat, []⟩ })
set_option maxHeartbeats 4000000 in
set_option maxRecDepth 100000 in
theorem zsync_any (h : XR w b S X) (k : ByteArray) (_hok : (S.sync k).2.ok) : Calls Tryz.prog 35 #[.pointer (some ⟨b, 0, none⟩), .string k] w fun e w' => e = .returned (.int .i64 (S.sync k).1) ∧ ∃ X', XR w' b (S.sync k).2 X' ∧ XStep w w' b S.files.length (S.sync k).2.files.length X X' := by
  obtain ⟨ao, c, hdv, hf⟩ := h.find k
  obtain ⟨c0, _, c2, _, _, _, c6⟩ := h.c
  rw [hdv] at c2
  have HF := hide (hf w (Below.refl _ _))
  have hfo := find_ok h.ok k
  have HA := hide (fun W (hb : Below w.heap.size w W) => zact_any (h.below hb))
  have HH := hide h
  have HFL := hide (tick_same S).2.1
  have hnd := h.ok.nd
  have hub : b < w.heap.size := heap_lt h.box
  have hdl : S.dir.length = S.dir.length := rfl
  cases hd : S.down with
  | true =>
    have e : S.sync k = (9, S) := by unfold RD.sync; rw [if_pos (hd)]
    rw [e]
    clear e _hok
    rw [hd] at c6
    generalize zfind S.dir k = z at *
    clear h hf hfo hdv hd
    go_enter Tryz.func35, Tryz.ntmps35
    go_wp2_with fail
    refine HF.out.mono ?_
    rintro e w1 ⟨rfl, hw⟩
    obtain rfl := hw.symm
    clear hw
    go_wp2
    go_ret
    exact ⟨rfl, X, HH.out, XStep.same _ _ _ (Below.refl _ _)⟩
  | false =>
    rw [hd] at c6
    rcases hfo with hz | ⟨i, hz, hi⟩
    · rw [hz] at HF
      have e : S.sync k = (7, S) := by unfold RD.sync; rw [if_neg (by rw [hd]; decide), if_pos (by rw [hz]; decide)]
      rw [e]
      clear e _hok
      clear h hf hdv hd hz
      go_enter Tryz.func35, Tryz.ntmps35
      go_wp2_with fail
      refine HF.out.mono ?_
      rintro e w1 ⟨rfl, hw⟩
      obtain rfl := hw.symm
      clear hw
      go_wp2
      go_ret
      exact ⟨rfl, X, HH.out, XStep.same _ _ _ (Below.refl _ _)⟩
    · rw [hz] at HF
      have hi0 : ¬ (i : Int) < 0 := by omega
      have htn : (zfind S.dir k).toNat = i := by rw [hz]; rfl
      cases htk : S.tick.1 with
      | false =>
        have e : S.sync k = (9, S.tick.2) := by unfold RD.sync; rw [if_neg (by rw [hd]; decide), if_neg (by rw [hz]; omega), if_pos (htk)]
        rw [e]
        clear e _hok
        rw [htk] at HA
        clear h hf hdv hd hz htk
        go_enter Tryz.func35, Tryz.ntmps35
        go_wp2_with fail
        refine HF.out.mono ?_
        rintro e w1 ⟨rfl, hw⟩
        obtain rfl := hw.symm
        clear hw
        go_wp2_with fail
        refine (HA.out _ (Below.refl _ _)).mono ?_
        rintro e w5 ⟨rfl, x5, s5⟩
        have X5 := hide x5
        have S5 := hide s5
        clear x5 s5
        go_wp2
        go_ret
        exact ⟨rfl, X, X5.out, by rw [HFL.out]; exact S5.out⟩
      | true =>
        have e : S.sync k = (0, { S.tick.2 with files := S.tick.2.files.set (zfind S.dir k).toNat ⟨S.bytes (zfind S.dir k).toNat, []⟩ }) := by unfold RD.sync; rw [if_neg (by rw [hd]; decide), if_neg (by rw [hz]; omega), if_neg (by rw [htk]; decide)]
        rw [e]
        refine (zsync_go h k i hi hz hd htk).mono ?_
        rintro e w' ⟨rfl, X', x', s'⟩
        refine ⟨rfl, X', by rw [htn]; exact x', ?_⟩
        simp only [List.length_set, HFL.out]
        exact s'
def RD.append (S : RD) (k t : ByteArray) : Int × RD := if S.down then (9, S) else if zfind S.dir k < 0 then (7, S) else if S.room < (S.used S.dir.length : Int) + (t.size : Int) then (8, S) else if S.tick.1 = false then (9, S.tick.2) else (0, { S.tick.2 with files := S.tick.2.files.set (zfind S.dir k).toNat ((S.tick.2.files.getD (zfind S.dir k).toNat ⟨⟨#[]⟩, []⟩).more ⟨t, -1⟩) })
set_option maxHeartbeats 4000000 in
set_option maxRecDepth 100000 in
theorem zappend_any (h : XR w b S X) (k t : ByteArray) (hsm : S.small) (ht : t.size ≤ 1125899906842624) (hok : (S.append k t).2.ok) : Calls Tryz.prog 34 #[.pointer (some ⟨b, 0, none⟩), .string k, .string t] w fun e w' => e = .returned (.int .i64 (S.append k t).1) ∧ ∃ X', XR w' b (S.append k t).2 X' ∧ XStep w w' b S.files.length (S.append k t).2.files.length X X' := by
  obtain ⟨ao, c, hdv, hf⟩ := h.find k
  obtain ⟨c0, _, c2, _, _, _, c6⟩ := h.c
  rw [hdv] at c2
  have HF := hide (hf w (Below.refl _ _))
  have hfo := find_ok h.ok k
  have HA := hide (fun W (hb : Below w.heap.size w W) => zact_any (h.below hb))
  have HH := hide h
  have HFL := hide (tick_same S).2.1
  have hnd := h.ok.nd
  have hub : b < w.heap.size := heap_lt h.box
  have hdl : S.dir.length = S.dir.length := rfl
  have HU := hide (fun W (hb : Below w.heap.size w W) => zused_any (h.below hb) hsm)
  have hu1 := used_small hsm S.dir.length
  have hro2 := h.ok.room
  have HK1 := hide (enters_of Tryz.func44 (by kernel_rfl) rfl)
  cases hd : S.down with
  | true =>
    have e : S.append k t = (9, S) := by unfold RD.append; rw [if_pos (hd)]
    rw [e]
    clear e hok
    rw [hd] at c6
    generalize zfind S.dir k = z at *
    clear h hf hfo hdv hd
    go_enter Tryz.func34, Tryz.ntmps34
    go_wp2_with fail
    refine HF.out.mono ?_
    rintro e w1 ⟨rfl, hw⟩
    obtain rfl := hw.symm
    clear hw
    go_wp2
    go_ret
    exact ⟨rfl, X, HH.out, XStep.same _ _ _ (Below.refl _ _)⟩
  | false =>
    rw [hd] at c6
    rcases hfo with hz | ⟨i, hz, hi⟩
    · rw [hz] at HF
      have e : S.append k t = (7, S) := by unfold RD.append; rw [if_neg (by rw [hd]; decide), if_pos (by rw [hz]; decide)]
      rw [e]
      clear e hok
      clear h hf hdv hd hz
      go_enter Tryz.func34, Tryz.ntmps34
      go_wp2_with fail
      refine HF.out.mono ?_
      rintro e w1 ⟨rfl, hw⟩
      obtain rfl := hw.symm
      clear hw
      go_wp2
      go_ret
      exact ⟨rfl, X, HH.out, XStep.same _ _ _ (Below.refl _ _)⟩
    · rw [hz] at HF
      have hi0 : ¬ (i : Int) < 0 := by omega
      have htn : (zfind S.dir k).toNat = i := by rw [hz]; rfl
      by_cases hro : S.room < (S.used S.dir.length : Int) + (t.size : Int)
      · have hwr : IntKind.i64.wrap ((S.used S.dir.length : Int) + (t.size : Int)) = (S.used S.dir.length : Int) + (t.size : Int) := by rw [IntKind.wrap_i64]; omega
        have hgt : decide (S.room < (S.used S.dir.length : Int) + (t.size : Int)) = true := decide_eq_true hro
        have e : S.append k t = (8, S) := by unfold RD.append; rw [if_neg (by rw [hd]; decide), if_neg (by rw [hz]; omega), if_pos (hro)]
        rw [e]
        clear e hok
        generalize S.used S.dir.length = U at *
        generalize S.room = ro at *
        clear h hf hdv hd hz
        go_enter Tryz.func34, Tryz.ntmps34
        go_wp2_with fail
        refine HF.out.mono ?_
        rintro e w1 ⟨rfl, hw⟩
        obtain rfl := hw.symm
        clear hw
        go_wp2_with fail
        go_region_held_law (fun w' => w'.cell? ⟨b, 0, none⟩ = some (.int .i64 ro)) (first | go_keep | exact z0) (first
          | (refine zstep_fn (by rfl) 24 (by rfl) 44 _ _ (by rfl) HK1.out [.pointer (some ⟨b, 0, none⟩)] (by rfl) (HU.out _ (by first | exact Below.refl _ _ | exact (Below.refl _ _).drew)) ?_; rintro e w4 ⟨rfl, b4⟩; refine ⟨_, rfl, ?_⟩; have B4 : Hid (Below w.heap.size w w4) := ⟨b4.os, b4.tape, b4.output, b4.size, b4.block⟩; have z0 := (B4.out.cell (p := ⟨b, 0, none⟩) hub).trans c0; clear b4))
        all_goals (
          go_wp2
          go_ret
          exact ⟨rfl, X, HH.out.below B4.out, XStep.same _ _ _ B4.out⟩)
      · have hwr : IntKind.i64.wrap ((S.used S.dir.length : Int) + (t.size : Int)) = (S.used S.dir.length : Int) + (t.size : Int) := by rw [IntKind.wrap_i64]; omega
        have hgt : decide (S.room < (S.used S.dir.length : Int) + (t.size : Int)) = false := decide_eq_false hro
        cases htk : S.tick.1 with
        | false =>
          have e : S.append k t = (9, S.tick.2) := by unfold RD.append; rw [if_neg (by rw [hd]; decide), if_neg (by rw [hz]; omega), if_neg (hro), if_pos (htk)]
          rw [e]
          clear e hok
          rw [htk] at HA
          generalize S.used S.dir.length = U at *
          generalize hrm : S.room = ro at *
          clear h hf hdv hd hz htk
          go_enter Tryz.func34, Tryz.ntmps34
          go_wp2_with fail
          refine HF.out.mono ?_
          rintro e w1 ⟨rfl, hw⟩
          obtain rfl := hw.symm
          clear hw
          go_wp2_with fail
          go_region_held_law (fun w' => w'.cell? ⟨b, 0, none⟩ = some (.int .i64 ro)) (first | go_keep | exact z0) (first
            | (refine zstep_fn (by rfl) 24 (by rfl) 44 _ _ (by rfl) HK1.out [.pointer (some ⟨b, 0, none⟩)] (by rfl) (HU.out _ (by first | exact Below.refl _ _ | exact (Below.refl _ _).drew)) ?_; rintro e w4 ⟨rfl, b4⟩; refine ⟨_, rfl, ?_⟩; have B4 : Hid (Below w.heap.size w w4) := ⟨b4.os, b4.tape, b4.output, b4.size, b4.block⟩; have z0 := (B4.out.cell (p := ⟨b, 0, none⟩) hub).trans c0; clear b4))
          all_goals (
            go_wp2_with fail
            refine (HA.out _ B4.out).mono ?_
            rintro e w5 ⟨rfl, x5, s5⟩
            have X5 := hide x5
            have S5 := hide s5
            clear x5 s5
            go_wp2
            go_ret
            exact ⟨rfl, X, X5.out, by rw [HFL.out]; exact (XStep.same _ _ _ B4.out).trans S5.out⟩)
        | true =>
          have e : S.append k t = (0, { S.tick.2 with files := S.tick.2.files.set (zfind S.dir k).toNat ((S.tick.2.files.getD (zfind S.dir k).toNat ⟨⟨#[]⟩, []⟩).more ⟨t, -1⟩) }) := by unfold RD.append; rw [if_neg (by rw [hd]; decide), if_neg (by rw [hz]; omega), if_neg (hro), if_neg (by rw [htk]; decide)]
          rw [e] at hok ⊢
          have hgd : S.tick.2.files.getD (zfind S.dir k).toNat ⟨⟨#[]⟩, []⟩ = S.files[i] := by
            rw [htn, HFL.out, List.getD_eq_getElem?_getD, List.getElem?_eq_getElem hi]
            rfl
          have hfk : (S.files[i].more ⟨t, -1⟩).ok := by
            have hil : i < S.tick.2.files.length := by rw [HFL.out]; exact hi
            have h1 := List.mem_set hil ((S.tick.2.files.getD (zfind S.dir k).toNat ⟨⟨#[]⟩, []⟩).more ⟨t, -1⟩)
            rw [← hgd]
            refine hok.files _ ?_
            rw [htn] at h1 ⊢
            exact h1
          refine (zappend_go h hsm k t (by omega) i hi hz hd (by omega) htk hfk).mono ?_
          rintro e w' ⟨rfl, X', x', s'⟩
          refine ⟨rfl, X', by rw [hgd, htn]; exact x', ?_⟩
          simp only [List.length_set, HFL.out]
          exact s'
def RD.truncate (S : RD) (k : ByteArray) (m : Int) : Int × RD := if S.down then (9, S) else if zfind S.dir k < 0 then (7, S) else if m < 0 ∨ ((S.bytes (zfind S.dir k).toNat).size : Int) < m then (1, S) else if S.tick.1 = false then (9, S.tick.2) else (0, { S.tick.2 with files := S.tick.2.files.set (zfind S.dir k).toNat ((S.tick.2.files.getD (zfind S.dir k).toNat ⟨⟨#[]⟩, []⟩).more ⟨⟨#[]⟩, m⟩) })
set_option maxHeartbeats 4000000 in
set_option maxRecDepth 100000 in
theorem ztruncate_any (h : XR w b S X) (k : ByteArray) (m : Int) (hok : (S.truncate k m).2.ok) : Calls Tryz.prog 38 #[.pointer (some ⟨b, 0, none⟩), .string k, .int .i64 m] w fun e w' => e = .returned (.int .i64 (S.truncate k m).1) ∧ ∃ X', XR w' b (S.truncate k m).2 X' ∧ XStep w w' b S.files.length (S.truncate k m).2.files.length X X' := by
  obtain ⟨ao, c, hdv, hf⟩ := h.find k
  obtain ⟨c0, _, c2, _, _, _, c6⟩ := h.c
  rw [hdv] at c2
  have HF := hide (hf w (Below.refl _ _))
  have hfo := find_ok h.ok k
  have HA := hide (fun W (hb : Below w.heap.size w W) => zact_any (h.below hb))
  have HH := hide h
  have HFL := hide (tick_same S).2.1
  have hnd := h.ok.nd
  have hub : b < w.heap.size := heap_lt h.box
  have hdl : S.dir.length = S.dir.length := rfl
  cases hd : S.down with
  | true =>
    have e : S.truncate k m = (9, S) := by unfold RD.truncate; rw [if_pos (hd)]
    rw [e]
    clear e hok
    rw [hd] at c6
    generalize zfind S.dir k = z at *
    clear h hf hfo hdv hd
    go_enter Tryz.func38, Tryz.ntmps38
    go_wp2_with fail
    refine HF.out.mono ?_
    rintro e w1 ⟨rfl, hw⟩
    obtain rfl := hw.symm
    clear hw
    go_wp2
    go_ret
    exact ⟨rfl, X, HH.out, XStep.same _ _ _ (Below.refl _ _)⟩
  | false =>
    rw [hd] at c6
    rcases hfo with hz | ⟨i, hz, hi⟩
    · rw [hz] at HF
      have e : S.truncate k m = (7, S) := by unfold RD.truncate; rw [if_neg (by rw [hd]; decide), if_pos (by rw [hz]; decide)]
      rw [e]
      clear e hok
      clear h hf hdv hd hz
      go_enter Tryz.func38, Tryz.ntmps38
      go_wp2_with fail
      refine HF.out.mono ?_
      rintro e w1 ⟨rfl, hw⟩
      obtain rfl := hw.symm
      clear hw
      go_wp2
      go_ret
      exact ⟨rfl, X, HH.out, XStep.same _ _ _ (Below.refl _ _)⟩
    · rw [hz] at HF
      have hi0 : ¬ (i : Int) < 0 := by omega
      have htn : (zfind S.dir k).toNat = i := by rw [hz]; rfl
      by_cases hm0 : m < 0
      · skip
        have e : S.truncate k m = (1, S) := by unfold RD.truncate; rw [if_neg (by rw [hd]; decide), if_neg (by rw [hz]; omega), if_pos (.inl hm0)]
        rw [e]
        clear e hok
        clear h hf hdv hd hz
        go_enter Tryz.func38, Tryz.ntmps38
        go_wp2_with fail
        refine HF.out.mono ?_
        rintro e w1 ⟨rfl, hw⟩
        obtain rfl := hw.symm
        clear hw
        go_wp2
        go_ret
        exact ⟨rfl, X, HH.out, XStep.same _ _ _ (Below.refl _ _)⟩
      have HB := hide (zbytes_any h i hi)
      have hbl := bytes_le h.ok i
      by_cases hm1 : ((S.bytes i).size : Int) < m
      · skip
        have e : S.truncate k m = (1, S) := by unfold RD.truncate; rw [if_neg (by rw [hd]; decide), if_neg (by rw [hz]; omega), if_pos (.inr (by rw [htn]; exact hm1))]
        rw [e]
        clear e hok
        generalize S.bytes i = R at *
        clear h hf hdv hd hz
        go_enter Tryz.func38, Tryz.ntmps38
        go_wp2_with fail
        refine HF.out.mono ?_
        rintro e w1 ⟨rfl, hw⟩
        obtain rfl := hw.symm
        clear hw
        go_wp2_with fail
        refine HB.out.mono ?_
        rintro e w4 ⟨rfl, b4⟩
        have B4 := hide b4
        clear b4
        go_wp2
        go_ret
        exact ⟨rfl, X, HH.out.below B4.out, XStep.same _ _ _ B4.out⟩
      cases htk : S.tick.1 with
      | false =>
        have e : S.truncate k m = (9, S.tick.2) := by unfold RD.truncate; rw [if_neg (by rw [hd]; decide), if_neg (by rw [hz]; omega), if_neg (by rw [htn]; omega), if_pos (htk)]
        rw [e]
        clear e hok
        rw [htk] at HA
        generalize S.bytes i = R at *
        clear h hf hdv hd hz htk
        go_enter Tryz.func38, Tryz.ntmps38
        go_wp2_with fail
        refine HF.out.mono ?_
        rintro e w1 ⟨rfl, hw⟩
        obtain rfl := hw.symm
        clear hw
        go_wp2_with fail
        refine HB.out.mono ?_
        rintro e w4 ⟨rfl, b4⟩
        have B4 := hide b4
        clear b4
        go_wp2_with fail
        refine (HA.out _ B4.out).mono ?_
        rintro e w5 ⟨rfl, x5, s5⟩
        have X5 := hide x5
        have S5 := hide s5
        clear x5 s5
        go_wp2
        go_ret
        exact ⟨rfl, X, X5.out, by rw [HFL.out]; exact (XStep.same _ _ _ B4.out).trans S5.out⟩
      | true =>
        have e : S.truncate k m = (0, { S.tick.2 with files := S.tick.2.files.set (zfind S.dir k).toNat ((S.tick.2.files.getD (zfind S.dir k).toNat ⟨⟨#[]⟩, []⟩).more ⟨⟨#[]⟩, m⟩) }) := by unfold RD.truncate; rw [if_neg (by rw [hd]; decide), if_neg (by rw [hz]; omega), if_neg (by rw [htn]; omega), if_neg (by rw [htk]; decide)]
        rw [e] at hok ⊢
        have hgd : S.tick.2.files.getD (zfind S.dir k).toNat ⟨⟨#[]⟩, []⟩ = S.files[i] := by
          rw [htn, HFL.out, List.getD_eq_getElem?_getD, List.getElem?_eq_getElem hi]
          rfl
        have hfk : (S.files[i].more ⟨⟨#[]⟩, m⟩).ok := by
          have hil : i < S.tick.2.files.length := by rw [HFL.out]; exact hi
          have h1 := List.mem_set hil ((S.tick.2.files.getD (zfind S.dir k).toNat ⟨⟨#[]⟩, []⟩).more ⟨⟨#[]⟩, m⟩)
          rw [← hgd]
          refine hok.files _ ?_
          rw [htn] at h1 ⊢
          exact h1
        refine (ztruncate_go h k m i hi hz hd (by omega) (by omega) htk hfk).mono ?_
        rintro e w' ⟨rfl, X', x', s'⟩
        refine ⟨rfl, X', by rw [hgd, htn]; exact x', ?_⟩
        simp only [List.length_set, HFL.out]
        exact s'
end
end Go.Proofs.YtknldpaaikcedaaGreat
