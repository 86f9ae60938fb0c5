/-
  The program's longest, cloned, Longest, as they run.
-/
import Derived.Test.YtfcpclpaalekiaaZFH
import Derived.Test.YtfcpclpaalekiaaZKW3
namespace Go.Proofs.Ytfcpclpaalekiaa
open Go.RowKit Go.Shelf
set_option maxHeartbeats 4000000
attribute [local go_sem ↓] Go.wp_at_zero Go.wp_at_succ
set_option linter.unusedSimpArgs false
set_option linter.unusedVariables false
def textC (l : List ByteArray) : List Value := l.map .string
theorem textC_length (l : List ByteArray) : (textC l).length = l.length := List.length_map _
theorem textC_append (a b : List ByteArray) : textC (a ++ b) = textC a ++ textC b := List.map_append
theorem texts_own {w : World} {B : Nat} {ao : Option Addr} {cp : Nat} {l : List ByteArray} (h : w.ownsRow B 9 1 (.slice ao l.length cp) l.length (textC l)) : TextsAt w ao l := by
  rcases h.2 with ⟨h1, h2⟩ | ⟨g, cap, cur, hv, hg, hh, hn, _, hs, ht⟩
  · exact fun i hi => by omega
  · injection hv with e1 e2 e3
    subst e1
    refine fun i hi => ⟨g, 0, rfl, heap_lt hh, ?_⟩
    rw [Lib.cell_of_heap hh]
    have e : (textC l)[i]? = some (.string l[i]) := by simp [textC, hi]
    rw [← ht, List.getElem?_take, if_pos (by omega)] at e
    simpa using e
theorem zinfo_parts {P : Program} {t : TypeId} {z : Value} {sz by' : Nat} (h : (P.info? t).map (fun i => (i.zero, i.size, i.bytes)) = some (some z, sz, by')) : ∃ i, P.info? t = some i ∧ i.zero = some z ∧ i.size = sz ∧ i.bytes = by' := by
  cases hi : P.info? t with
  | none => rw [hi] at h; cases h
  | some i =>
    rw [hi] at h
    simp only [Option.map_some, Option.some.injEq, Prod.mk.injEq] at h
    exact ⟨i, rfl, h.1, h.2.1, h.2.2⟩
theorem infoStr : (Try.prog.info? 9).map (fun i => (i.zero, i.size, i.bytes)) = some (some (.string ⟨#[]⟩), 1, 16) := by kernel_rfl
theorem app_text {w : World} {B n oc : Nat} {oo : Option Addr} {xs : List ByteArray} (hown : w.ownsRow B 9 1 (.slice oo n oc) n (textC xs)) (s : ByteArray) (hl : n + 1 ≤ 8796093022208) (hB : B ≤ w.heap.size) :
    ∃ ta tc w', (Builtin.append_ #[23, 23] 23 #[.slice oo n oc, .slice (some ⟨w.heap.size, 0, none⟩) 1 1]).run Try.prog (w.alloc (.cells #[.string s] 9)) = .ok (.slice ta (n + 1) tc) w' ∧ w'.ownsRow B 9 1 (.slice ta (n + 1) tc) (n + 1) (textC (xs ++ [s])) ∧ Below B w w' := by
  obtain ⟨i0, hi0, hz0, hz1, hz2⟩ := zinfo_parts infoStr
  have hb : Below w.heap.size w (w.alloc (.cells #[.string s] 9)) := (Below.refl _ _).alloc (Nat.le_refl _) _
  have ho2 : (w.alloc (.cells #[.string s] 9)).ownsRow B 9 1 (.slice oo n oc) n (textC xs) := hown.alloc _
  obtain ⟨v', w', hr, h2, h3, h4, h5⟩ := run_append_own_at (P := Try.prog) (w.alloc (.cells #[.string s] 9)) B 23 23 9 i0 (.string ⟨#[]⟩) 1 16 Try.underlying23 hi0 hz0 hz1 hz2 rfl (by decide) (.slice oo n oc) n (textC xs) ho2 ⟨w.heap.size, 0, none⟩ 1 1 [.string s] rfl (World.news_of_block (cs := #[.string s]) (t := 9) (fr := (0, 0)) (heap_alloc_new w _)) (by intro u hu; simp at hu; subst hu; rfl) (by unfold maxLen; omega) (by omega) (by have := hb.size; omega)
  obtain ⟨ao, cp, rfl⟩ := row_slice h2
  refine ⟨ao, cp, w', hr, ?_, ?_⟩
  · rw [textC_append]; exact h2
  · exact (hb.mono hB).grown h3 (by have := hb.size; omega) (fun j hj => by exact (ho2.lt j hj).1)
theorem wpList_append_run {P : Program} {w w' : World} {ops : Array Oper} {rest : List Oper} {o : Oper} {a : Act} {Q : Exit → Act → World → Prop} (hgd : o.guard = none) (s x : Operand) (t : TypeId)
    (ho : o.op = .call { callee := .builtin .append, args := #[s, x], argTypes := #[t, t] }) (vs vx v' : Value) (hs : a.eval s = vs) (hx : a.eval x = vx) (hr : (Builtin.append_ #[t, t] o.type #[vs, vx]).run P w = .ok v' w')
    (h : wpList P ops Q rest (a.put o.dst v') w') : wpList P ops Q (o :: rest) a w := by
  refine wpList_plain hgd fun K hK => ?_
  unfold Oper.wp execOp
  simp only [ho, resolve, invoke, builtin, Sem.run_bind, Sem.run_pure, Result.andThen_ok, List.map_toArray, List.map_cons, List.map_nil, hs, hx, hr]
  exact hK _ _ h
def mostF (l : List (List ByteArray)) : List ByteArray := l.foldl (fun m x => if m.length < x.length then x else m) []
theorem mostF_snoc (l : List (List ByteArray)) (x : List ByteArray) : mostF (l ++ [x]) = if (mostF l).length < x.length then x else mostF l := by
  unfold mostF
  rw [List.foldl_append]
  rfl
theorem most_all (l : List (List ByteArray)) : ∀ m : List ByteArray, (l.foldl (fun m x => if m.length < x.length then x else m) m = m ∨ l.foldl (fun m x => if m.length < x.length then x else m) m ∈ l) ∧ m.length ≤ (l.foldl (fun m x => if m.length < x.length then x else m) m).length ∧ ∀ x ∈ l, x.length ≤ (l.foldl (fun m x => if m.length < x.length then x else m) m).length := by
  induction l with
  | nil => intro m; exact ⟨.inl rfl, Nat.le_refl _, fun x h => by cases h⟩
  | cons y l ih =>
    intro m
    obtain ⟨h1, h2, h3⟩ := ih (if m.length < y.length then y else m)
    rw [List.foldl_cons]
    have hm : m.length ≤ (if m.length < y.length then y else m).length := by split <;> omega
    have hy : y.length ≤ (if m.length < y.length then y else m).length := by split <;> omega
    refine ⟨?_, by omega, fun x hx => ?_⟩
    · rcases h1 with e | e
      · rw [e]
        split
        · exact .inr (by simp)
        · exact .inl rfl
      · exact .inr (List.mem_cons_of_mem _ e)
    · rcases List.mem_cons.1 hx with e | e
      · subst e; omega
      · exact h3 x e
theorem mostF_mem (l : List (List ByteArray)) : mostF l = [] ∨ mostF l ∈ l := (most_all l []).1
theorem mostF_le (l : List (List ByteArray)) : ∀ x ∈ l, x.length ≤ (mostF l).length := (most_all l []).2.2
theorem preF_nil (b : List ByteArray) : preF [] b = true := by rw [preF_iff]; simp
theorem preF_eq {a b : List ByteArray} (h : preF a b = true) (hl : a.length = b.length) : a = b := by
  rw [preF_iff] at h
  rw [h, hl, List.take_length]
theorem preF_two {a b m : List ByteArray} (ha : preF a m = true) (hb : preF b m = true) : preF a b = true ∨ preF b a = true := by
  have h1 := (preF_iff a m).1 ha
  have h2 := (preF_iff b m).1 hb
  rcases Nat.le_total a.length b.length with h | h
  · left; rw [h1, h2]; exact preF_takes m _ _ h
  · right; rw [h1, h2]; exact preF_takes m _ _ h
theorem longF_most (l : List (List ByteArray)) (h : l ≠ []) : longF l = if l.all (fun x => preF x (mostF l)) then (mostF l, 0) else ([], 11) := by
  unfold longF
  rw [if_neg h]
  by_cases hm : meetF l = true
  · have h0 : 0 < l.length := List.length_pos_iff.2 h
    have hall : l.all (fun x => preF x (mostF l)) = true := by
      rw [List.all_eq_true]
      intro x hx
      rcases mostF_mem l with e | e
      · have := mostF_le l x hx
        rw [e] at this
        have : x = [] := List.eq_nil_of_length_eq_zero (by simpa using this)
        rw [this]; exact preF_nil _
      · exact preF_both (meetF_two hm hx e) (mostF_le l x hx)
    rw [if_pos hm, if_pos hall]
    congr 1
    have hb := bestI_lt l l.length h0
    have hmem : l.getD (bestI l l.length) [] ∈ l := by
      rw [List.getD_eq_getElem?_getD, List.getElem?_eq_getElem hb]
      exact List.getElem_mem hb
    rw [List.all_eq_true] at hall
    refine preF_eq (hall _ hmem) (Nat.le_antisymm (mostF_le l _ hmem) ?_)
    rcases mostF_mem l with e | e
    · rw [e]; exact Nat.zero_le _
    · obtain ⟨i, hi, e2⟩ := List.getElem_of_mem e
      have := bestI_most l l.length i hi
      rw [List.getD_eq_getElem?_getD, List.getElem?_eq_getElem hi] at this
      rw [← e2]; exact this
  · rw [if_neg hm, if_neg]
    intro hall
    apply hm
    unfold meetF
    rw [List.all_eq_true] at hall ⊢
    intro x hx
    rw [List.all_eq_true]
    intro y hy
    rw [Bool.or_eq_true]
    exact preF_two (hall x hx) (hall y hy)
theorem fmost (oo : Option Addr) (oc : Nat) (l : List (List ByteArray)) (w : World) (hb : LogsAt w oo l) (hl : l.length ≤ 17592186044416) :
    Calls Try.prog 24 #[.slice oo l.length oc] w fun e w' => ∃ lo lc, e = .returned (.slice lo (mostF l).length lc) ∧ TextsAt w lo (mostF l) ∧ ∃ n, w' = w.drewN n := by
  have HB := hide hb
  clear hb
  go_enter Try.func24, Try.ntmps24
  go_wp2
  go_loopw [3, 5, 8] (fun mv _ iv wv => ∃ (k : Nat) (lo : Option Addr) (lc : Nat), k ≤ l.length ∧ iv = .int .i64 (k : Nat) ∧ mv = .slice lo (mostF (l.take k)).length lc ∧ Hid (TextsAt w lo (mostF (l.take k))) ∧ ∃ n, wv = w.drewN n) (fun _ _ iv _ => l.length - (intOf iv).toNat)
  case atStart => exact ⟨0, none, 0, Nat.zero_le _, rfl, rfl, (fun i hi => by simp [mostF] at hi), 0, rfl⟩
  case round =>
    obtain ⟨k, lo, lc, hk, rfl, rfl, TV, nd, rfl⟩ := hrel
    by_cases hlt : k < l.length
    · have y0 : (0 : Int) ≤ (k : Int) := by omega
      have y1 : (k : Int) < (l.length : Int) := by omega
      obtain ⟨g1, off1, rfl, hg1, lo2, lc2, hc1, ht1⟩ := HB.out k hlt
      have HT := hide ht1
      have HM : Hid (mostF (l.take (k + 1)) = if (mostF (l.take k)).length < l[k].length then l[k] else mostF (l.take k)) := by
        show _ = _
        rw [List.take_succ_eq_append_getElem hlt, mostF_snoc]
      clear ht1
      generalize mostF (l.take k) = m at *
      generalize l[k] = x at *
      by_cases e : m.length < x.length
      · have y2 : (m.length : Int) < (x.length : Int) := by omega
        have HM2 : Hid (mostF (l.take (k + 1)) = x) := HM.out.trans (if_pos e)
        go_wp2
        exact ⟨⟨k + 1, lo2, lc2, by omega, by go_num, by rw [HM2.out], by rw [HM2.out]; exact HT, nd, rfl⟩, by simp [intOf]; omega⟩
      · have y2 : ¬ (m.length : Int) < (x.length : Int) := by omega
        have HM2 : Hid (mostF (l.take (k + 1)) = m) := HM.out.trans (if_neg e)
        go_wp2
        exact ⟨⟨k + 1, lo, lc, by omega, by go_num, by rw [HM2.out], by rw [HM2.out]; exact TV, nd, rfl⟩, by simp [intOf]; omega⟩
    · have y1 : ¬ (k : Int) < (l.length : Int) := by omega
      obtain rfl : k = l.length := by omega
      have HT : Hid (TextsAt w lo (mostF l)) := by have h := TV.out; rw [List.take_length] at h; exact h
      have HE : Hid (mostF (l.take l.length) = mostF l) := congrArg mostF List.take_length
      clear TV
      generalize mostF (l.take l.length) = m at *
      go_wp2
      go_ret
      rw [HE.out]
      exact ⟨lo, ⟨lc, rfl⟩, HT.out, nd, rfl⟩
theorem fcloned (ao : Option Addr) (cp : Nat) (l : List ByteArray) (w : World) (hc : TextsAt w ao l) (hl : l.length ≤ 8796093021952) (hs : ∀ s ∈ l, s.size ≤ 281474976710656) :
    Calls Try.prog 25 #[.slice ao l.length cp] w fun e w' => ∃ ro rc, e = .returned (.slice ro l.length rc) ∧ w'.ownsRow w.heap.size 9 1 (.slice ro l.length rc) l.length (textC l) ∧ Below w.heap.size w w' := by
  have HC := hide hc
  have HS := hide hs
  clear hc hs
  go_enter Try.func25, Try.ntmps25
  go_wp2
  have O1 : Hid (w.ownsRow w.heap.size 9 1 (.slice none 0 0) 0 (textC (l.take 0))) := World.ownsRow_nil _ _ _ _
  go_loopw [3, 5, 8] (fun rv _ iv wv => ∃ (k : Nat) (ro : Option Addr) (rc : Nat), k ≤ l.length ∧ iv = .int .i64 k ∧ rv = .slice ro k rc ∧ Hid (wv.ownsRow w.heap.size 9 1 (.slice ro k rc) k (textC (l.take k))) ∧ Hid (Below w.heap.size w wv)) (fun _ _ iv _ => l.length - (intOf iv).toNat)
  case atStart => exact ⟨0, none, 0, Nat.zero_le _, rfl, rfl, O1, Below.refl _ _⟩
  case round =>
    obtain ⟨k, ro, rc, hk, rfl, rfl, OV, BV⟩ := hrel
    by_cases hlt : k < l.length
    · obtain ⟨g, off, rfl, hg, hcell⟩ := (HC.out.below BV.out) k hlt
      have h0 : (0 : Int) ≤ (k : Int) := by omega
      have h1 : (k : Int) < (l.length : Int) := by omega
      have HK := hide (fun W => K.clone_any l[k] W (HS.out _ (List.getElem_mem hlt)))
      have HT : Hid (l.take (k + 1) = l.take k ++ [l[k]]) := List.take_succ_eq_append_getElem hlt
      generalize l[k] = x at *
      go_wp2_with (first
        | (go_at_call 38; refine (HK.out _).mono ?_; rintro e w3 ⟨rfl, b3⟩; have B3 := hide (BV.out.trans (b3.mono BV.out.size)); have O3 := hide (below_row b3 OV.out); obtain ⟨ta, tc, w5, hrun, hrow, hbel⟩ := app_text O3.out x (by omega) B3.out.size; have HRUN := hide hrun; have HROW := hide hrow; have HBEL := hide hbel; clear b3 hrun hrow hbel)
        | (at_builtin; refine wpList_append_run rfl _ _ 23 rfl _ _ _ rfl rfl HRUN.out ?_))
      exact ⟨⟨k + 1, ta, tc, by omega, by go_num, rfl, by rw [HT.out]; exact HROW, B3.out.trans HBEL.out⟩, by simp [intOf]; omega⟩
    · have hi1 : ¬ (k : Int) < (l.length : Int) := by omega
      obtain rfl : k = l.length := by omega
      go_wp2
      go_ret
      have h1 := OV.out
      rw [List.take_length] at h1
      exact ⟨ro, rc, rfl, h1, BV.out⟩
end Go.Proofs.Ytfcpclpaalekiaa
