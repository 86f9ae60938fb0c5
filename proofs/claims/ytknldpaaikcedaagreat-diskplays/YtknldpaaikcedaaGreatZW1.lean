/-
  What is done with bytes: appending$1, truncating$1 as they run; an act of a file.
-/
import Derived.Test.YtknldpaaikcedaaGreatZM0
import Derived.Test.YtknldpaaikcedaaGreatProg
import Derived.WalkSpells
import Derived.StillTactics
import Derived.Laws.Pointers
import Derived.Deep.RegionHeld3
import Derived.Deep.DrawnRows
import Derived.Deep.RegionWith
import Derived.Shelf.Abstract
import Derived.Deep.DeepCutAuto
import Derived.Deep.RegionLaw
namespace Go.Proofs.YtknldpaaikcedaaGreat
open Go.RowKit

theorem infoU8 : (Tryz.prog.info? 5).map (fun i => (i.zero, i.size, i.bytes)) = some (some (.int .u8 0), 1, 1) := by kernel_rfl
theorem infoAct : (Tryz.prog.info? 98).map (fun i => (i.zero, i.size, i.bytes)) = some (some (.agg #[.int .i64 0, .nilFunc]), 2, 16) := by kernel_rfl

theorem app_any (v : Value) (n : Nat) (xs : List Value) (c : Nat) (s : ByteArray) (u : Nat) (w : World) (hu : u ≤ s.size) (hc : w.cell? ⟨c, 0, none⟩ = some (.string s)) (hown : w.ownsRow 0 5 1 v n xs) (hb : n + s.size ≤ 140737488355328) :
    Calls Tryz.prog 75 #[v, .int .i64 u, .pointer (some ⟨c, 0, none⟩)] w fun e w' => ∃ ao cp, e = .returned (.slice ao (n + u) cp) ∧ w'.ownsRow 0 5 1 (.slice ao (n + u) cp) (n + u) (xs ++ bytesC (s.data.toList.take u)) ∧ w.grownBy w' v.ownBlock ∧ ((ao.map Addr.block) = v.ownBlock ∨ (ao.map Addr.block) = some w.heap.size) := by
  obtain ⟨i0, hi0, hz0, hz1, hz2⟩ := info_parts infoU8
  have hu1 : (0 : Int) ≤ (u : Int) := by omega
  have hu2 : (u : Int) ≤ (s.size : Int) := by omega
  have HO := hide hown
  clear hown
  have hsz : (s.extract 0 u).size = u := by rw [ByteArray.size_extract]; omega
  have HE := hide (extract_list s u)
  obtain ⟨S, hS⟩ : ∃ S, s.extract 0 u = S := ⟨_, rfl⟩
  have HS := hide hsz
  rw [hS] at HE HS
  clear hsz
  go_enter Tryz.func75, Tryz.ntmps75
  go_wp2_with (at_builtin; refine wpList_append_str_where _ rfl _ _ 63 9 rfl 5 i0 Tryz.underlying63 Tryz.underlying9 hi0 hz0 hz1 hz2 v n xs rfl HO.out S rfl (by rw [HS.out]; unfold maxLen; omega) (by rw [HS.out]; omega) ?_)
  intro v' w1 h1 h2 h3
  rw [strCells_eq, HE.out, HS.out] at h1
  obtain ⟨ao, cp, rfl⟩ := row_slice h1
  go_wp2
  go_ret
  exact ⟨ao, cp, rfl, h1, h2, by cases ao <;> exact h3⟩

/-- A slice's first elements. -/
theorem take_row {w : World} {e : TypeId} {g cap n : Nat} {xs : List Value} (h : w.ownsRow 0 e 1 (.slice (some ⟨g, 0, none⟩) n cap) n xs) (m : Nat) (hm : m ≤ n) : w.ownsRow 0 e 1 (.slice (some ⟨g, 0, none⟩) m cap) m (xs.take m) := by
  rcases h.2 with ⟨h0, _⟩ | ⟨g', cap', cur, h1, h2, h3, h4, h5, h6, h7⟩
  · cases h0
  · cases h1
    have hl := h.1
    refine ⟨by rw [List.length_take]; omega, .inr ⟨g, cap, cur, rfl, h2, h3, by omega, h5, h6, ?_⟩⟩
    rw [← h7, List.take_take]
    congr 1
    omega
theorem cut_any (v : Value) (n : Nat) (xs : List Value) (c m : Nat) (u : Int) (w : World) (hm : m ≤ n) (hc : w.cell? ⟨c, 0, none⟩ = some (.int .i64 m)) (hown : w.ownsRow 0 5 1 v n xs) :
    Calls Tryz.prog 83 #[v, .int .i64 u, .pointer (some ⟨c, 0, none⟩)] w fun e w' => ∃ ao cp, e = .returned (.slice ao m cp) ∧ w'.ownsRow 0 5 1 (.slice ao m cp) m (xs.take m) ∧ w.grownBy w' v.ownBlock ∧ ((ao.map Addr.block) = v.ownBlock ∨ (ao.map Addr.block) = some w.heap.size) := by
  have HO := hide hown
  have hm1 : (0 : Int) ≤ (m : Int) := by omega
  rcases hown.2 with ⟨rfl, rfl⟩ | ⟨g, cap, cur, rfl, _, _, h4, h5, _, _⟩
  · obtain rfl : m = 0 := by omega
    clear hown
    go_enter Tryz.func83, Tryz.ntmps83
    go_wp2
    go_ret
    refine ⟨_, _, rfl, ?_, ⟨rfl, rfl, rfl, Nat.le_refl _, fun _ _ _ => rfl⟩, .inl rfl⟩
    have h := HO.out
    rw [List.take_zero]
    exact World.ownsRow_nil _ _ _ _
  · clear hown
    have hm2 : (m : Int) ≤ (cap : Int) := by omega
    go_enter Tryz.func83, Tryz.ntmps83
    go_wp2
    go_ret
    exact ⟨_, _, rfl, take_row HO.out m hm, ⟨rfl, rfl, rfl, Nat.le_refl _, fun _ _ _ => rfl⟩, .inl rfl⟩

/-- Behind the first statement of an act: the file's bytes are new. -/
def FMid (f k c units : Nat) (nv lv sv : Value) (n' : Nat) (xs' : List Value) (m : Nat) (acts : List Value) (w wx : World) : Prop :=
  ∃ ao cp, wx.heap[f]? = some (.cells #[.slice ao n' cp, lv, sv] 66 (0, 0)) ∧ wx.heap[w.heap.size]? = some (.cells #[.int .i64 units, .func (.func k) #[] #[.pointer (some ⟨c, 0, none⟩)]] 98 (0, 0)) ∧ wx.ownsRow 0 5 1 (.slice ao n' cp) n' xs' ∧ wx.ownsRow 0 98 2 sv m acts ∧
    ((ao.map Addr.block) = nv.ownBlock ∨ ∃ j, (ao.map Addr.block) = some j ∧ w.heap.size ≤ j) ∧ (∀ j, (ao.map Addr.block) = some j → sv.ownBlock ≠ some j ∧ j ≠ f) ∧ Touch (fun j => j = f ∨ nv.ownBlock = some j ∨ sv.ownBlock = some j) w wx
theorem fact_mid {f k c units : Nat} {nv lv sv : Value} {n' : Nat} {xs' : List Value} {m : Nat} {acts : List Value} {w W0 w2 : World} {ao : Option Addr} {cp : Nat}
    (hbox : w.heap[f]? = some (.cells #[nv, lv, sv] 66 (0, 0))) (hs : w.ownsRow 0 98 2 sv m acts)
    (hnl : ∀ j, nv.ownBlock = some j → j < w.heap.size) (hnf : nv.ownBlock ≠ some f) (hsf : sv.ownBlock ≠ some f) (hns : ∀ j, nv.ownBlock = some j → sv.ownBlock ≠ some j)
    (B0 : Below w.heap.size w W0) (X0 : W0.heap[w.heap.size]? = some (.cells #[.int .i64 units, .func (.func k) #[] #[.pointer (some ⟨c, 0, none⟩)]] 98 (0, 0))) (hG : W0.drew.grownBy w2 nv.ownBlock) (hR : w2.ownsRow 0 5 1 (.slice ao n' cp) n' xs') (hL : (ao.map Addr.block) = nv.ownBlock ∨ (ao.map Addr.block) = some W0.drew.heap.size) :
    FMid f k c units nv lv sv n' xs' m acts w (w2.setCell ⟨f, 0, none⟩ (.slice ao n' cp)) := by
  have hlt := heap_lt hbox
  have hX1 : w.heap.size ≤ W0.drew.heap.size := B0.size
  have hG' : W0.grownBy w2 nv.ownBlock := ⟨hG.os, hG.tape, hG.output, hG.size, hG.block⟩
  have e1 := grown_at hG' (Below.at B0 hbox) hnf
  have e2 := grown_at hG' X0 (fun e => by have := hnl _ e; omega)
  have hL2 : (ao.map Addr.block) = nv.ownBlock ∨ ∃ j, (ao.map Addr.block) = some j ∧ w.heap.size ≤ j := by
    rcases hL with h | h
    · exact .inl h
    · exact .inr ⟨_, h, hX1⟩
  have hA : (Value.slice ao n' cp).ownBlock = ao.map Addr.block := by cases ao <;> rfl
  have hAs : ∀ j, (ao.map Addr.block) = some j → sv.ownBlock ≠ some j ∧ j ≠ f := by
    intro j hj
    rcases hL2 with h | ⟨j', h, hj'⟩
    · rw [h] at hj; exact ⟨hns j hj, fun e => hnf (e ▸ hj)⟩
    · rw [h] at hj; cases hj
      exact ⟨fun e => by have := row_lt hs e; omega, by omega⟩
  refine ⟨ao, cp, box_set e1 0 _, box_apart e2 (by omega) 0 _, set_row hR f 0 _ (fun e => ?_), set_row (grown_row hG' (below_row B0 hs) fun j h e => hns j e h) f 0 _ hsf, hL2, hAs, ((Touch.of_below B0).grown hG' fun j h _ => .inr (.inl h)).setCell _ _ fun _ => .inl rfl⟩
  rw [hA] at e
  exact (hAs f e).2 rfl

theorem fact_end {f k c units : Nat} {nv lv sv : Value} {n' : Nat} {xs' : List Value} {m : Nat} {acts news : List Value} {w wc w3 : World} {ao : Option Addr} {cp g cap : Nat} {o : Obj}
    (F1 : wc.heap[f]? = some (.cells #[.slice ao n' cp, lv, sv] 66 (0, 0))) (F2 : wc.heap[w.heap.size]? = some (.cells #[.int .i64 units, .func (.func k) #[] #[.pointer (some ⟨c, 0, none⟩)]] 98 (0, 0)))
    (F3 : wc.ownsRow 0 5 1 (.slice ao n' cp) n' xs') (L1 : (ao.map Addr.block) = nv.ownBlock ∨ ∃ j, (ao.map Addr.block) = some j ∧ w.heap.size ≤ j) (L2 : ∀ j, (ao.map Addr.block) = some j → sv.ownBlock ≠ some j ∧ j ≠ f)
    (T1 : Touch (fun j => j = f ∨ nv.ownBlock = some j ∨ sv.ownBlock = some j) w wc) (hsf : sv.ownBlock ≠ some f)
    (h1 : w3.ownsRow 0 98 2 (.slice (some ⟨g, 0, none⟩) (m + 1) cap) (m + 1) (acts ++ news)) (h2 : (wc.alloc o).drew.grownBy w3 sv.ownBlock) (h3 : sv.ownBlock = some g ∨ g = wc.heap.size + 1) :
    ∃ ao' cp' g' cap', (w3.setCell ⟨f, 2, none⟩ (.slice (some ⟨g, 0, none⟩) (m + 1) cap)).heap[f]? = some (.cells #[.slice ao' n' cp', lv, .slice (some ⟨g', 0, none⟩) (m + 1) cap'] 66 (0, 0)) ∧
      (w3.setCell ⟨f, 2, none⟩ (.slice (some ⟨g, 0, none⟩) (m + 1) cap)).ownsRow 0 5 1 (.slice ao' n' cp') n' xs' ∧ (w3.setCell ⟨f, 2, none⟩ (.slice (some ⟨g, 0, none⟩) (m + 1) cap)).ownsRow 0 98 2 (.slice (some ⟨g', 0, none⟩) (m + 1) cap') (m + 1) (acts ++ news) ∧
      ((ao'.map Addr.block) = nv.ownBlock ∨ ∃ j, (ao'.map Addr.block) = some j ∧ w.heap.size ≤ j) ∧ (sv.ownBlock = some g' ∨ w.heap.size ≤ g') ∧ (ao'.map Addr.block) ≠ some g' ∧
      Touch (fun j => j = f ∨ nv.ownBlock = some j ∨ sv.ownBlock = some j) w (w3.setCell ⟨f, 2, none⟩ (.slice (some ⟨g, 0, none⟩) (m + 1) cap)) := by
  have hsz := heap_lt F2
  have hA : (Value.slice ao n' cp).ownBlock = ao.map Addr.block := by cases ao <;> rfl
  have hF := heap_lt F1
  have hgf : g ≠ f := by
    rcases h3 with h | h
    · exact fun e => hsf (e ▸ h)
    · omega
  have e1 : w3.heap[f]? = some (.cells #[.slice ao n' cp, lv, sv] 66 (0, 0)) := grown_at h2 (box_alloc F1 o) hsf
  have e3 : w3.ownsRow 0 5 1 (.slice ao n' cp) n' xs' := grown_row h2 ((F3.alloc o).drew) fun j hj => by
    rw [hA] at hj
    exact (L2 j hj).1
  refine ⟨ao, cp, g, cap, box_set e1 2 _, set_row e3 f 2 _ (fun e => ?_), set_row h1 f 2 _ (fun e => ?_), L1, ?_, fun e => ?_, ?_⟩
  · rw [hA] at e; exact (L2 f e).2 rfl
  · exact hgf (by simpa [Value.ownBlock] using e)
  · rcases h3 with h | h
    · exact .inl h
    · exact .inr (by omega)
  · rcases h3 with h | h
    · exact (L2 g e).1 h
    · have := row_lt F3 (hA.trans e); omega
  · exact ((T1.alloc o).grown (w2 := w3) ⟨h2.os, h2.tape, h2.output, h2.size, h2.block⟩ fun j h _ => .inr (.inr h)).setCell _ _ fun _ => .inl rfl

attribute [local go_sem ↓] Go.wp_at_zero Go.wp_at_succ
set_option maxRecDepth 100000 in
set_option maxHeartbeats 2000000 in
/-- An act of a file, whatever its function does with the bytes. -/
theorem fact_any (f k c units : Nat) (nv lv sv : Value) (n' : Nat) (xs' : List Value) (m : Nat) (acts : List Value) (w : World) (hk : ∀ args w, (callFunc k args).run Tryz.prog w = .ok (.enter k args) w)
    (hbox : w.heap[f]? = some (.cells #[nv, lv, sv] 66 (0, 0))) (hs : w.ownsRow 0 98 2 sv m acts) (hm : m < 1000000)
    (hnl : ∀ j, nv.ownBlock = some j → j < w.heap.size) (hnf : nv.ownBlock ≠ some f) (hsf : sv.ownBlock ≠ some f) (hns : ∀ j, nv.ownBlock = some j → sv.ownBlock ≠ some j)
    (hdo : ∀ w1, Below w.heap.size w w1 → Calls Tryz.prog k #[nv, .int .i64 units, .pointer (some ⟨c, 0, none⟩)] w1 fun e w2 => ∃ ao cp, e = .returned (.slice ao n' cp) ∧ w2.ownsRow 0 5 1 (.slice ao n' cp) n' xs' ∧ w1.grownBy w2 nv.ownBlock ∧ ((ao.map Addr.block) = nv.ownBlock ∨ (ao.map Addr.block) = some w1.heap.size)) :
    Calls Tryz.prog 53 #[.pointer (some ⟨f, 0, none⟩), .agg #[.int .i64 units, .func (.func k) #[] #[.pointer (some ⟨c, 0, none⟩)]]] w fun e w' => e = .returned (.tuple #[]) ∧ ∃ ao cp g cap, w'.heap[f]? = some (.cells #[.slice ao n' cp, lv, .slice (some ⟨g, 0, none⟩) (m + 1) cap] 66 (0, 0)) ∧
      w'.ownsRow 0 5 1 (.slice ao n' cp) n' xs' ∧ w'.ownsRow 0 98 2 (.slice (some ⟨g, 0, none⟩) (m + 1) cap) (m + 1) (acts ++ [.int .i64 units, .func (.func k) #[] #[.pointer (some ⟨c, 0, none⟩)]]) ∧
      ((ao.map Addr.block) = nv.ownBlock ∨ ∃ j, (ao.map Addr.block) = some j ∧ w.heap.size ≤ j) ∧ (sv.ownBlock = some g ∨ w.heap.size ≤ g) ∧ (ao.map Addr.block) ≠ some g ∧
      Touch (fun j => j = f ∨ nv.ownBlock = some j ∨ sv.ownBlock = some j) w w' := by
  obtain ⟨i0, hi0, hz0, hz1, hz2⟩ := info_parts infoAct
  have hlt := heap_lt hbox
  have HB := hide hbox
  have HS := hide hs
  have HD := hide hdo
  have HN0 := hide hnl
  have HN1 := hide hnf
  have HN2 := hide hsf
  have HN3 := hide hns
  have c0 : w.cell? ⟨f, 0, none⟩ = some nv := box_cell hbox 0 rfl
  have hne : f ≠ w.heap.size := by omega
  clear hbox hs hdo hnl hnf hsf hns
  go_enter Tryz.func53, Tryz.ntmps53
  go_upto_region 1 with fail
  have B0 : Hid (Below w.heap.size w (w.alloc (.cells #[.int .i64 units, .func (.func k) #[] #[.pointer (some ⟨c, 0, none⟩)]] 98))) := (Below.refl _ w).alloc (Nat.le_refl _) _
  have X0 : Hid ((w.alloc (.cells #[.int .i64 units, .func (.func k) #[] #[.pointer (some ⟨c, 0, none⟩)]] 98)).heap[w.heap.size]? = some (.cells #[.int .i64 units, .func (.func k) #[] #[.pointer (some ⟨c, 0, none⟩)]] 98 (0, 0))) := heap_alloc_new w _
  replace c0 := (World.cell?_of_block (a := ⟨f, 0, none⟩) (B0.out.block f hlt)).trans c0
  generalize w.alloc (.cells #[.int .i64 units, .func (.func k) #[] #[.pointer (some ⟨c, 0, none⟩)]] 98) = W0 at *
  have x0 : W0.cell? ⟨w.heap.size, 0, none⟩ = some (.int .i64 units) := box_cell X0.out 0 rfl
  have x1 : W0.cell? ⟨w.heap.size, 1, none⟩ = some (.func (.func k) #[] #[.pointer (some ⟨c, 0, none⟩)]) := box_cell X0.out 1 rfl
  have hX := hide (heap_lt X0.out)
  have hF : Hid (W0.heap[f]? = some (.cells #[nv, lv, sv] 66 (0, 0))) := Below.at B0.out HB.out
  go_cut [] (fun wx => FMid f k c units nv lv sv n' xs' m acts w wx)
  case first =>
    go_region_with (go_at_fn k; refine (HD.out _ B0.out.drew).mono ?_; rintro e w2 ⟨ao, cp, rfl, hrow, hgrow, hloc⟩; have d0 : w2.cell? ⟨f, 0, none⟩ = some nv := hgrow.cell (w := W0.drew) c0 HN1.out.symm; have d1 : w2.frozen? ⟨f, 0, none⟩ = false := (hgrow.frozen_far ⟨f, 0, none⟩ (heap_lt hF.out) HN1.out.symm).trans (box_free hF.out 0))
    all_goals (go_wp2_with fail; go_meet; exact fact_mid HB.out HS.out HN0.out HN1.out HN2.out HN3.out B0.out X0.out hgrow hrow hloc)
  case rest =>
    clear c0 x0 x1 hX hF B0 X0
    obtain ⟨ao, cp, f1, f2, f3, f4, l1, l2, t1⟩ := hcut
    have F1 := hide f1
    have F2 := hide f2
    have F3 := hide f3
    have F4 := hide f4
    have L1 := hide l1
    have L2 := hide l2
    have T1 := hide t1
    clear f1 f2 f3 f4 l1 l2 t1 HB HD
    have hw1 : f ≠ wc.heap.size := Nat.ne_of_lt (heap_lt F1.out)
    have hw2 : w.heap.size ≠ wc.heap.size := Nat.ne_of_lt (heap_lt F2.out)
    have y2 : wc.cell? ⟨f, 2, none⟩ = some sv := box_cell F1.out 2 rfl
    have x0 : wc.cell? ⟨w.heap.size, 0, none⟩ = some (.int .i64 units) := box_cell F2.out 0 rfl
    have x1 : wc.cell? ⟨w.heap.size, 1, none⟩ = some (.func (.func k) #[] #[.pointer (some ⟨c, 0, none⟩)]) := box_cell F2.out 1 rfl
    have y2a : ∀ o, (wc.alloc o).cell? ⟨f, 2, none⟩ = some sv := fun o => box_cell (box_alloc F1.out o) 2 rfl
    have hsz := hide (heap_lt F2.out)
    go_wp2
    go_region_law ((refine step_append_lies _ (by rfl) _ _ _ (by rfl) 0 98 i0 _ 2 16 Tryz.underlying64 hi0 hz0 hz1 hz2 rfl (by omega) sv m acts (by rfl) ((F4.out.alloc _).drew) ⟨wc.heap.size, 0, none⟩ 1 1 [.int .i64 units, .func (.func k) #[] #[.pointer (some ⟨c, 0, none⟩)]] (by rfl) (by rfl) (World.news_of_block (cs := #[.int .i64 units, .func (.func k) #[] #[.pointer (some ⟨c, 0, none⟩)]]) (t := 98) (fr := (0, 0)) (heap_alloc_new wc _)) (by simp [Value.oneCell']) (by omega) (by unfold maxLen; omega) (by omega) (Nat.zero_le _) (wc.heap.size + 1) (by simp) ?_; intro g cap w3 hown3 hgrow3 hat3 hlt3; have F5 : Hid (w3.heap[f]? = some (.cells #[.slice ao n' cp, lv, sv] 66 (0, 0))) := grown_at hgrow3 (box_alloc F1.out _) HN2.out; have z2 : w3.cell? ⟨f, 2, none⟩ = some sv := box_cell F5.out 2 rfl; have zf := box_free F5.out 2))
    all_goals (go_end0; exact ⟨rfl, fact_end F1.out F2.out F3.out L1.out L2.out T1.out HN2.out hown3 hgrow3 hat3⟩)

end Go.Proofs.YtknldpaaikcedaaGreat
