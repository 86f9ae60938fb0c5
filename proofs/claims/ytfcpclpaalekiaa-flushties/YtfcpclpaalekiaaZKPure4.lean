/-
  No beginning of written items is read by their shape, nor what is longer.
-/
import Derived.Test.YtfcpclpaalekiaaZKW2
import Derived.Test.YtfcpclpaalekiaaZFH
namespace Go.Proofs.Ytfcpclpaalekiaa.K
open Go.RowKit
set_option maxHeartbeats 400000
theorem bcell {W w1 : World} {B : Nat} (hb : Below B W w1) : (∀ b o, b < B → w1.cell? ⟨b, o, none⟩ = W.cell? ⟨b, o, none⟩) ∧ (∀ b o, b < B → w1.frozen? ⟨b, o, none⟩ = W.frozen? ⟨b, o, none⟩) :=
  ⟨fun b o h => hb.cell (p := ⟨b, o, none⟩) h, fun b o h => hb.frozen (p := ⟨b, o, none⟩) h⟩
theorem clone_any (s : ByteArray) (w : World) (hs : s.size ≤ 281474976710656) :
    Calls Try.prog 38 #[.string s] w fun e w' => e = .returned (.string s) ∧ Below w.heap.size w w' := by
  go_enter Try.func38, Try.ntmps38
  go_wp2_with (go_at_call 54; refine (Try.liteClone _ _ hs).mono ?_; rintro e w' ⟨rfl, hb⟩)
  go_ret
  exact ⟨rfl, hb⟩
theorem readText_long (n : Int) (s : ByteArray) (w : World) (h : 100000 < n) :
    Calls Try.prog 80 #[.int .u64 n, .string s] w fun e w' => e = .returned (.tuple #[.agg #[.int .i64 0, .int .u64 0, .string ⟨#[]⟩], .string ⟨#[]⟩, .int .i64 3]) ∧ Below w.heap.size w w' := by
  go_enter Try.func80, Try.ntmps80
  go_wp2
  refine bodyPost_ret (v := .tuple #[.agg #[.int .i64 0, .int .u64 0, .string ⟨#[]⟩], .string ⟨#[]⟩, .int .i64 3]) (by simp [results, Try.results80, go_sem]) rfl ⟨rfl, ?_⟩
  exact (Below.refl _ _).alloc (Nat.le_refl _) _
theorem readText_short (n : Nat) (s : ByteArray) (w : World) (h : n ≤ 100000) (h2 : s.size < n) :
    Calls Try.prog 80 #[.int .u64 n, .string s] w fun e w' => e = .returned (.tuple #[.agg #[.int .i64 0, .int .u64 0, .string ⟨#[]⟩], .string ⟨#[]⟩, .int .i64 2]) ∧ Below w.heap.size w w' := by
  go_enter Try.func80, Try.ntmps80
  go_wp2
  refine bodyPost_ret (v := .tuple #[.agg #[.int .i64 0, .int .u64 0, .string ⟨#[]⟩], .string ⟨#[]⟩, .int .i64 2]) (by simp [results, Try.results80, go_sem]) rfl ⟨rfl, ?_⟩
  exact (Below.refl _ _).alloc (Nat.le_refl _) _
theorem readText_ok (n : Nat) (s : ByteArray) (w : World) (_hs : s.size ≤ maxLen) (h : n ≤ 100000) (h2 : n ≤ s.size) :
    Calls Try.prog 80 #[.int .u64 n, .string s] w fun e w' => e = .returned (.tuple #[.agg #[.int .i64 4, .int .u64 0, .string (s.extract 0 n)], .string (s.extract n s.size), .int .i64 0]) ∧ Below w.heap.size w w' := by
  unfold maxLen at _hs
  go_enter Try.func80, Try.ntmps80
  go_wp2
  go_region_with (go_at_call 38; refine (clone_any _ _ (by simp; omega)).mono ?_; rintro e w' ⟨rfl, hb⟩; obtain ⟨hc, hf⟩ := bcell hb; have hz := hb.size; simp only [World.size_drew, World.size_alloc] at hz hc hf; have c0 := hc w.heap.size 0 (by omega); have c1 := hc w.heap.size 1 (by omega); have c2 := hc w.heap.size 2 (by omega); have f0 := hf w.heap.size 0 (by omega); have f1 := hf w.heap.size 1 (by omega); have f2 := hf w.heap.size 2 (by omega); clear hc hf)
  simp at c0 c1 c2
  go_wp2
  refine bodyPost_ret (v := .tuple #[.agg #[.int .i64 4, .int .u64 0, .string (s.extract 0 n)], .string (s.extract n s.size), .int .i64 0]) (by simp [results, Try.results80, go_sem, c0, c1, c2]) rfl ⟨rfl, ?_⟩
  have hb1 : Below w.heap.size w w' := ((Below.refl _ _).alloc (Nat.le_refl _) _).drew.trans (hb.mono (by simp))
  exact ((hb1.setCell (p := ⟨w.heap.size, 0, none⟩) (Nat.le_refl _) _).setCell (p := ⟨w.heap.size, 1, none⟩) (Nat.le_refl _) _).setCell (p := ⟨w.heap.size, 2, none⟩) (Nat.le_refl _) _
def It.v (x : It) : Value := .agg #[.int .i64 x.k, .int .u64 x.n, .string x.s]
def textG (n : Nat) (s : ByteArray) : It × ByteArray × Int :=
  if 100000 < n then (It.zero, ⟨#[]⟩, 3) else if s.size < n then (It.zero, ⟨#[]⟩, 2) else (⟨4, 0, s.extract 0 n⟩, s.extract n s.size, 0)
theorem readText_any (n : Nat) (s : ByteArray) (w : World) (hs : s.size ≤ maxLen) :
    Calls Try.prog 80 #[.int .u64 n, .string s] w fun e w' => e = .returned (.tuple #[(textG n s).1.v, .string (textG n s).2.1, .int .i64 (textG n s).2.2]) ∧ Below w.heap.size w w' := by
  unfold textG
  by_cases h : 100000 < n
  · rw [if_pos h]; exact readText_long n s w (by omega)
  · rw [if_neg h]
    by_cases h2 : s.size < n
    · rw [if_pos h2]; exact readText_short n s w (by omega) h2
    · rw [if_neg h2]; exact readText_ok n s w hs (by omega) (by omega)
def itemG (k : Int) (z : Nat) (s : ByteArray) : It × ByteArray × Int :=
  if s.size < z then (It.zero, ⟨#[]⟩, 2)
  else if k = 4 then textG (Lib.beNat (s.extract 0 z).data.toList) (s.extract z s.size)
  else (⟨k, Lib.beNat (s.extract 0 z).data.toList, ⟨#[]⟩⟩, s.extract z s.size, 0)
end Go.Proofs.Ytfcpclpaalekiaa.K
namespace Go.Proofs.Ytfcpclpaalekiaa
open Go.RowKit Go.Shelf
set_option maxHeartbeats 4000000
attribute [local go_sem ↓] Go.wp_at_zero Go.wp_at_succ
set_option linter.unusedSimpArgs false
set_option linter.unusedVariables false
def textC (l : List ByteArray) : List Value := l.map .string
theorem textC_append (a b : List ByteArray) : textC (a ++ b) = textC a ++ textC b := List.map_append
theorem texts_own {w : World} {B : Nat} {ao : Option Addr} {cp : Nat} {l : List ByteArray} (h : w.ownsRow B 9 1 (.slice ao l.length cp) l.length (textC l)) : TextsAt w ao l := by
  rcases h.2 with ⟨h1, h2⟩ | ⟨g, cap, cur, hv, hg, hh, hn, _, hs, ht⟩
  · exact fun i hi => by omega
  · injection hv with e1 e2 e3
    subst e1
    refine fun i hi => ⟨g, 0, rfl, heap_lt hh, ?_⟩
    rw [Lib.cell_of_heap hh]
    have e : (textC l)[i]? = some (.string l[i]) := by simp [textC, hi]
    rw [← ht, List.getElem?_take, if_pos (by omega)] at e
    simpa using e
theorem zinfo_parts {P : Program} {t : TypeId} {z : Value} {sz by' : Nat} (h : (P.info? t).map (fun i => (i.zero, i.size, i.bytes)) = some (some z, sz, by')) : ∃ i, P.info? t = some i ∧ i.zero = some z ∧ i.size = sz ∧ i.bytes = by' := by
  cases hi : P.info? t with
  | none => rw [hi] at h; cases h
  | some i =>
    rw [hi] at h
    simp only [Option.map_some, Option.some.injEq, Prod.mk.injEq] at h
    exact ⟨i, rfl, h.1, h.2.1, h.2.2⟩
theorem infoStr : (Try.prog.info? 9).map (fun i => (i.zero, i.size, i.bytes)) = some (some (.string ⟨#[]⟩), 1, 16) := by kernel_rfl
theorem app_text {w : World} {B n oc : Nat} {oo : Option Addr} {xs : List ByteArray} (hown : w.ownsRow B 9 1 (.slice oo n oc) n (textC xs)) (s : ByteArray) (hl : n + 1 ≤ 8796093022208) (hB : B ≤ w.heap.size) :
    ∃ ta tc w', (Builtin.append_ #[23, 23] 23 #[.slice oo n oc, .slice (some ⟨w.heap.size, 0, none⟩) 1 1]).run Try.prog (w.alloc (.cells #[.string s] 9)) = .ok (.slice ta (n + 1) tc) w' ∧ w'.ownsRow B 9 1 (.slice ta (n + 1) tc) (n + 1) (textC (xs ++ [s])) ∧ Below B w w' := by
  obtain ⟨i0, hi0, hz0, hz1, hz2⟩ := zinfo_parts infoStr
  have hb : Below w.heap.size w (w.alloc (.cells #[.string s] 9)) := (Below.refl _ _).alloc (Nat.le_refl _) _
  have ho2 : (w.alloc (.cells #[.string s] 9)).ownsRow B 9 1 (.slice oo n oc) n (textC xs) := hown.alloc _
  obtain ⟨v', w', hr, h2, h3, h4, h5⟩ := run_append_own_at (P := Try.prog) (w.alloc (.cells #[.string s] 9)) B 23 23 9 i0 (.string ⟨#[]⟩) 1 16 Try.underlying23 hi0 hz0 hz1 hz2 rfl (by decide) (.slice oo n oc) n (textC xs) ho2 ⟨w.heap.size, 0, none⟩ 1 1 [.string s] rfl (World.news_of_block (cs := #[.string s]) (t := 9) (fr := (0, 0)) (heap_alloc_new w _)) (by intro u hu; simp at hu; subst hu; rfl) (by unfold maxLen; omega) (by omega) (by have := hb.size; omega)
  obtain ⟨ao, cp, rfl⟩ := row_slice h2
  refine ⟨ao, cp, w', hr, ?_, ?_⟩
  · rw [textC_append]; exact h2
  · exact (hb.mono hB).grown h3 (by have := hb.size; omega) (fun j hj => by exact (ho2.lt j hj).1)
theorem wpList_append_run {P : Program} {w w' : World} {ops : Array Oper} {rest : List Oper} {o : Oper} {a : Act} {Q : Exit → Act → World → Prop} (hgd : o.guard = none) (s x : Operand) (t : TypeId)
    (ho : o.op = .call { callee := .builtin .append, args := #[s, x], argTypes := #[t, t] }) (vs vx v' : Value) (hs : a.eval s = vs) (hx : a.eval x = vx) (hr : (Builtin.append_ #[t, t] o.type #[vs, vx]).run P w = .ok v' w')
    (h : wpList P ops Q rest (a.put o.dst v') w') : wpList P ops Q (o :: rest) a w := by
  refine wpList_plain hgd fun K hK => ?_
  unfold Oper.wp execOp
  simp only [ho, resolve, invoke, builtin, Sem.run_bind, Sem.run_pure, Result.andThen_ok, List.map_toArray, List.map_cons, List.map_nil, hs, hx, hr]
  exact hK _ _ h
def mostF (l : List (List ByteArray)) : List ByteArray := l.foldl (fun m x => if m.length < x.length then x else m) []
theorem mostF_snoc (l : List (List ByteArray)) (x : List ByteArray) : mostF (l ++ [x]) = if (mostF l).length < x.length then x else mostF l := by
  unfold mostF
  rw [List.foldl_append]
  rfl
theorem most_all (l : List (List ByteArray)) : ∀ m : List ByteArray, (l.foldl (fun m x => if m.length < x.length then x else m) m = m ∨ l.foldl (fun m x => if m.length < x.length then x else m) m ∈ l) ∧ m.length ≤ (l.foldl (fun m x => if m.length < x.length then x else m) m).length ∧ ∀ x ∈ l, x.length ≤ (l.foldl (fun m x => if m.length < x.length then x else m) m).length := by
  induction l with
  | nil => intro m; exact ⟨.inl rfl, Nat.le_refl _, fun x h => by cases h⟩
  | cons y l ih =>
    intro m
    obtain ⟨h1, h2, h3⟩ := ih (if m.length < y.length then y else m)
    rw [List.foldl_cons]
    have hm : m.length ≤ (if m.length < y.length then y else m).length := by split <;> omega
    have hy : y.length ≤ (if m.length < y.length then y else m).length := by split <;> omega
    refine ⟨?_, by omega, fun x hx => ?_⟩
    · rcases h1 with e | e
      · rw [e]
        split
        · exact .inr (by simp)
        · exact .inl rfl
      · exact .inr (List.mem_cons_of_mem _ e)
    · rcases List.mem_cons.1 hx with e | e
      · subst e; omega
      · exact h3 x e
theorem mostF_mem (l : List (List ByteArray)) : mostF l = [] ∨ mostF l ∈ l := (most_all l []).1
theorem mostF_le (l : List (List ByteArray)) : ∀ x ∈ l, x.length ≤ (mostF l).length := (most_all l []).2.2
theorem preF_nil (b : List ByteArray) : preF [] b = true := by rw [preF_iff]; simp
theorem preF_eq {a b : List ByteArray} (h : preF a b = true) (hl : a.length = b.length) : a = b := by
  rw [preF_iff] at h
  rw [h, hl, List.take_length]
theorem preF_two {a b m : List ByteArray} (ha : preF a m = true) (hb : preF b m = true) : preF a b = true ∨ preF b a = true := by
  have h1 := (preF_iff a m).1 ha
  have h2 := (preF_iff b m).1 hb
  rcases Nat.le_total a.length b.length with h | h
  · left; rw [h1, h2]; exact preF_takes m _ _ h
  · right; rw [h1, h2]; exact preF_takes m _ _ h
theorem longF_most (l : List (List ByteArray)) (h : l ≠ []) : longF l = if l.all (fun x => preF x (mostF l)) then (mostF l, 0) else ([], 11) := by
  unfold longF
  rw [if_neg h]
  by_cases hm : meetF l = true
  · have h0 : 0 < l.length := List.length_pos_iff.2 h
    have hall : l.all (fun x => preF x (mostF l)) = true := by
      rw [List.all_eq_true]
      intro x hx
      rcases mostF_mem l with e | e
      · have := mostF_le l x hx
        rw [e] at this
        have : x = [] := List.eq_nil_of_length_eq_zero (by simpa using this)
        rw [this]; exact preF_nil _
      · exact preF_both (meetF_two hm hx e) (mostF_le l x hx)
    rw [if_pos hm, if_pos hall]
    congr 1
    have hb := bestI_lt l l.length h0
    have hmem : l.getD (bestI l l.length) [] ∈ l := by
      rw [List.getD_eq_getElem?_getD, List.getElem?_eq_getElem hb]
      exact List.getElem_mem hb
    rw [List.all_eq_true] at hall
    refine preF_eq (hall _ hmem) (Nat.le_antisymm (mostF_le l _ hmem) ?_)
    rcases mostF_mem l with e | e
    · rw [e]; exact Nat.zero_le _
    · obtain ⟨i, hi, e2⟩ := List.getElem_of_mem e
      have := bestI_most l l.length i hi
      rw [List.getD_eq_getElem?_getD, List.getElem?_eq_getElem hi] at this
      rw [← e2]; exact this
  · rw [if_neg hm, if_neg]
    intro hall
    apply hm
    unfold meetF
    rw [List.all_eq_true] at hall ⊢
    intro x hx
    rw [List.all_eq_true]
    intro y hy
    rw [Bool.or_eq_true]
    exact preF_two (hall x hx) (hall y hy)
theorem fmost (oo : Option Addr) (oc : Nat) (l : List (List ByteArray)) (w : World) (hb : LogsAt w oo l) (hl : l.length ≤ 17592186044416) :
    Calls Try.prog 24 #[.slice oo l.length oc] w fun e w' => ∃ lo lc, e = .returned (.slice lo (mostF l).length lc) ∧ TextsAt w lo (mostF l) ∧ ∃ n, w' = w.drewN n := by
  have HB := hide hb
  clear hb
  go_enter Try.func24, Try.ntmps24
  go_wp2
  go_loopw [3, 5, 8] (fun mv _ iv wv => ∃ (k : Nat) (lo : Option Addr) (lc : Nat), k ≤ l.length ∧ iv = .int .i64 (k : Nat) ∧ mv = .slice lo (mostF (l.take k)).length lc ∧ Hid (TextsAt w lo (mostF (l.take k))) ∧ ∃ n, wv = w.drewN n) (fun _ _ iv _ => l.length - (intOf iv).toNat)
  case atStart => exact ⟨0, none, 0, Nat.zero_le _, rfl, rfl, (fun i hi => by simp [mostF] at hi), 0, rfl⟩
  case round =>
    obtain ⟨k, lo, lc, hk, rfl, rfl, TV, nd, rfl⟩ := hrel
    by_cases hlt : k < l.length
    · have y0 : (0 : Int) ≤ (k : Int) := by omega
      have y1 : (k : Int) < (l.length : Int) := by omega
      obtain ⟨g1, off1, rfl, hg1, lo2, lc2, hc1, ht1⟩ := HB.out k hlt
      have HT := hide ht1
      have HM : Hid (mostF (l.take (k + 1)) = if (mostF (l.take k)).length < l[k].length then l[k] else mostF (l.take k)) := by
        show _ = _
        rw [List.take_succ_eq_append_getElem hlt, mostF_snoc]
      clear ht1
      generalize mostF (l.take k) = m at *
      generalize l[k] = x at *
      by_cases e : m.length < x.length
      · have y2 : (m.length : Int) < (x.length : Int) := by omega
        have HM2 : Hid (mostF (l.take (k + 1)) = x) := HM.out.trans (if_pos e)
        go_wp2
        exact ⟨⟨k + 1, lo2, lc2, by omega, by go_num, by rw [HM2.out], by rw [HM2.out]; exact HT, nd, rfl⟩, by simp [intOf]; omega⟩
      · have y2 : ¬ (m.length : Int) < (x.length : Int) := by omega
        have HM2 : Hid (mostF (l.take (k + 1)) = m) := HM.out.trans (if_neg e)
        go_wp2
        exact ⟨⟨k + 1, lo, lc, by omega, by go_num, by rw [HM2.out], by rw [HM2.out]; exact TV, nd, rfl⟩, by simp [intOf]; omega⟩
    · have y1 : ¬ (k : Int) < (l.length : Int) := by omega
      obtain rfl : k = l.length := by omega
      have HT : Hid (TextsAt w lo (mostF l)) := by have h := TV.out; rw [List.take_length] at h; exact h
      have HE : Hid (mostF (l.take l.length) = mostF l) := congrArg mostF List.take_length
      clear TV
      generalize mostF (l.take l.length) = m at *
      go_wp2
      go_ret
      rw [HE.out]
      exact ⟨lo, ⟨lc, rfl⟩, HT.out, nd, rfl⟩
theorem fcloned (ao : Option Addr) (cp : Nat) (l : List ByteArray) (w : World) (hc : TextsAt w ao l) (hl : l.length ≤ 8796093021952) (hs : ∀ s ∈ l, s.size ≤ 281474976710656) :
    Calls Try.prog 25 #[.slice ao l.length cp] w fun e w' => ∃ ro rc, e = .returned (.slice ro l.length rc) ∧ w'.ownsRow w.heap.size 9 1 (.slice ro l.length rc) l.length (textC l) ∧ Below w.heap.size w w' := by
  have HC := hide hc
  have HS := hide hs
  clear hc hs
  go_enter Try.func25, Try.ntmps25
  go_wp2
  have O1 : Hid (w.ownsRow w.heap.size 9 1 (.slice none 0 0) 0 (textC (l.take 0))) := World.ownsRow_nil _ _ _ _
  go_loopw [3, 5, 8] (fun rv _ iv wv => ∃ (k : Nat) (ro : Option Addr) (rc : Nat), k ≤ l.length ∧ iv = .int .i64 k ∧ rv = .slice ro k rc ∧ Hid (wv.ownsRow w.heap.size 9 1 (.slice ro k rc) k (textC (l.take k))) ∧ Hid (Below w.heap.size w wv)) (fun _ _ iv _ => l.length - (intOf iv).toNat)
  case atStart => exact ⟨0, none, 0, Nat.zero_le _, rfl, rfl, O1, Below.refl _ _⟩
  case round =>
    obtain ⟨k, ro, rc, hk, rfl, rfl, OV, BV⟩ := hrel
    by_cases hlt : k < l.length
    · obtain ⟨g, off, rfl, hg, hcell⟩ := (HC.out.below BV.out) k hlt
      have h0 : (0 : Int) ≤ (k : Int) := by omega
      have h1 : (k : Int) < (l.length : Int) := by omega
      have HK := hide (fun W => K.clone_any l[k] W (HS.out _ (List.getElem_mem hlt)))
      have HT : Hid (l.take (k + 1) = l.take k ++ [l[k]]) := List.take_succ_eq_append_getElem hlt
      generalize l[k] = x at *
      go_wp2_with (first
        | (go_at_call 38; refine (HK.out _).mono ?_; rintro e w3 ⟨rfl, b3⟩; have B3 := hide (BV.out.trans (b3.mono BV.out.size)); have O3 := hide (below_row b3 OV.out); obtain ⟨ta, tc, w5, hrun, hrow, hbel⟩ := app_text O3.out x (by omega) B3.out.size; have HRUN := hide hrun; have HROW := hide hrow; have HBEL := hide hbel; clear b3 hrun hrow hbel)
        | (at_builtin; refine wpList_append_run rfl _ _ 23 rfl _ _ _ rfl rfl HRUN.out ?_))
      exact ⟨⟨k + 1, ta, tc, by omega, by go_num, rfl, by rw [HT.out]; exact HROW, B3.out.trans HBEL.out⟩, by simp [intOf]; omega⟩
    · have hi1 : ¬ (k : Int) < (l.length : Int) := by omega
      obtain rfl : k = l.length := by omega
      go_wp2
      go_ret
      have h1 := OV.out
      rw [List.take_length] at h1
      exact ⟨ro, rc, rfl, h1, BV.out⟩
end Go.Proofs.Ytfcpclpaalekiaa
namespace Go.Proofs.Ytfcpclpaalekiaa.K
theorem beBytes_succ (k v : Nat) : Lib.beBytes (k + 1) v = Lib.beBytes k (v / 256) ++ [(v % 256).toUInt8] := by
  simp [Lib.beBytes, Lib.leBytes]
theorem beNat_beBytes (k v : Nat) (h : v < 256 ^ k) : Lib.beNat (Lib.beBytes k v) = v := by
  induction k generalizing v with
  | zero => simp at h; subst h; rfl
  | succ k ih =>
    rw [beBytes_succ, beNat_snoc, ih (v / 256) (by rw [Nat.pow_succ] at h; omega), Lib.toUInt8_mod]
    omega
theorem snoc_of (l : List UInt8) (k : Nat) (h : l.length = k + 1) : ∃ a c, l = a ++ [c] ∧ a.length = k := by
  have hne : l ≠ [] := by intro e; rw [e] at h; simp at h
  refine ⟨l.dropLast, l.getLast hne, (List.dropLast_concat_getLast hne).symm, by rw [List.length_dropLast]; omega⟩
theorem beBytes_beNat (k : Nat) (l : List UInt8) (h : l.length = k) : Lib.beBytes k (Lib.beNat l) = l := by
  induction k generalizing l with
  | zero => simp at h; subst h; rfl
  | succ k ih =>
    obtain ⟨a, c, rfl, ha⟩ := snoc_of l k h
    have hc := c.toNat_lt
    have h1 : (Lib.beNat a * 256 + c.toNat) / 256 = Lib.beNat a := by omega
    have h2 : (Lib.beNat a * 256 + c.toNat) % 256 = c.toNat := by omega
    rw [beNat_snoc, beBytes_succ, h1, h2, ih a ha]
    simp
theorem kind_cases (k : Int) (h : kindB k = true) : k = 1 ∨ k = 2 ∨ k = 3 ∨ k = 4 := by
  simp [kindB] at h
  omega
theorem kindOfL_letterF (k : Int) (h : kindB k = true) : kindOfL (letterF k) = k := by
  rcases kind_cases k h with rfl | rfl | rfl | rfl <;> rfl
theorem isLetter_letterF (k : Int) (h : kindB k = true) : isLetter (letterF k) = true := by
  rcases kind_cases k h with rfl | rfl | rfl | rfl <;> rfl
theorem letterF_ne (k : Int) : letterF k ≠ 42 := by
  unfold letterF
  split
  · decide
  · split
    · decide
    · split <;> decide
theorem fault_kind (x : It) (h : faultF x = 0) : kindB x.k = true := by
  unfold faultF at h
  cases hk : kindB x.k with
  | true => rfl
  | false => rw [hk] at h; simp at h
theorem fault_shape (x : It) (h : faultF x = 0) : (x.k ≠ 4 ∧ x.s.size = 0 ∧ x.n < 256 ^ widthN x.k) ∨ (x.k = 4 ∧ x.n = 0 ∧ x.s.size ≤ 100000) := by
  have hk := fault_kind x h
  unfold faultF at h
  rw [hk] at h
  simp only [Bool.true_eq_false, if_false] at h
  by_cases h4 : x.k = 4
  · right
    by_cases hn : x.n = 0
    · by_cases hs : 100000 < x.s.size
      · simp [h4, hn, hs] at h
      · exact ⟨h4, hn, by omega⟩
    · simp [h4, hn] at h
  · left
    by_cases hs : x.s.size = 0
    · by_cases hn : x.n < 256 ^ widthN x.k
      · exact ⟨h4, hs, hn⟩
      · simp [h4, hs, hn] at h
    · simp [h4, hs] at h
theorem numOf_lt (x : It) (h : faultF x = 0) (h0 : 0 ≤ x.n) : numOf x < 256 ^ widthN x.k := by
  unfold numOf
  rcases fault_shape x h with ⟨h4, _, hn⟩ | ⟨h4, _, hs⟩
  · rw [if_neg h4]
    obtain ⟨n, hn'⟩ := Int.eq_ofNat_of_zero_le h0
    rw [hn'] at hn ⊢
    rw [Int.toNat_natCast]
    have e : ((256 ^ widthN x.k : Nat) : Int) = (256 : Int) ^ widthN x.k := Int.natCast_pow 256 _
    rw [← e] at hn
    omega
  · have w4 : widthN x.k = 4 := by rw [h4]; rfl
    rw [if_pos h4, w4]
    omega
theorem mk_empty (s : ByteArray) (h : s.size = 0) : s = ⟨#[]⟩ := by
  obtain ⟨d⟩ := s
  congr
  exact Array.eq_empty_of_size_eq_zero h
theorem mk_back (s : ByteArray) : (⟨s.data.toList.toArray⟩ : ByteArray) = s := by obtain ⟨d⟩ := s; rfl
theorem itemF_item (x : It) (rest : List UInt8) (h : faultF x = 0) (h0 : 0 ≤ x.n) : itemF (letterF x.k) (itemB x ++ rest) = (x, rest, 0) := by
  have hk := fault_kind x h
  have hlt := numOf_lt x h h0
  have hl : (Lib.beBytes (widthN x.k) (numOf x)).length = widthN x.k := Lib.beBytes_length _ _
  unfold itemF itemB
  rw [kindOfL_letterF x.k hk, List.append_assoc]
  rw [if_neg (by rw [List.length_append, hl]; omega)]
  rcases fault_shape x h with ⟨h4, hs, _⟩ | ⟨h4, hn, hs⟩
  · rw [if_neg h4, List.take_left' hl, List.drop_left' hl, beNat_beBytes _ _ hlt]
    have e1 : x.s.data.toList = [] := List.eq_nil_of_length_eq_zero (by simpa using hs)
    have e2 : ((numOf x : Nat) : Int) = x.n := by unfold numOf; rw [if_neg h4]; omega
    rw [e1, List.nil_append, e2, ← mk_empty x.s hs]
  · have w4 : widthN x.k = 4 := by rw [h4]; rfl
    rw [w4] at hl hlt ⊢
    have e1 : numOf x = x.s.size := by unfold numOf; rw [if_pos h4]
    rw [if_pos h4, List.take_left' hl, List.drop_left' hl, beNat_beBytes _ _ hlt, e1]
    have e2 : x.s.data.toList.length = x.s.size := by simp
    rw [if_neg (by omega), if_neg (by rw [List.length_append, e2]; omega), List.take_left' e2, List.drop_left' e2, mk_back]
    obtain ⟨k, n, s⟩ := x
    simp only at h4 hn
    subst h4 hn
    rfl
theorem readF_back (l : List It) (m f : Nat) (hm : m + l.length ≤ 1000) (hl : ∀ x ∈ l, faultF x = 0 ∧ 0 ≤ x.n) (hf : l.length < f) :
    readF f [] m (l.map fun x => letterF x.k) (l.flatMap itemB) = (l, 0) := by
  induction l generalizing m f with
  | nil =>
    obtain ⟨g, rfl⟩ : ∃ g, f = g + 1 := ⟨f - 1, by simp at hf; omega⟩
    simp [readF]
  | cons x l ih =>
    obtain ⟨g, rfl⟩ : ∃ g, f = g + 1 := ⟨f - 1, by simp at hf; omega⟩
    obtain ⟨h1, h2⟩ := hl x (by simp)
    have h3 := ih (m + 1) g (by simp at hm; omega) (fun y hy => hl y (by simp [hy])) (by simp at hf; omega)
    rw [List.map_cons, List.flatMap_cons, readF, itemF_item x _ h1 h2]
    simp only [List.length_cons] at hm
    rw [if_neg (by omega), if_pos rfl, h3, if_pos rfl]
theorem indexByte_none (l : List UInt8) (c : UInt8) (h : ∀ x ∈ l, x ≠ c) : Lib.indexByte l c = -1 := by
  induction l with
  | nil => rfl
  | cons b l ih =>
    have h1 : (b == c) = false := by simpa using h b (by simp)
    have h2 := ih fun x hx => h x (by simp [hx])
    simp [Lib.indexByte, h1, h2]
theorem cutStar_letters (l : List UInt8) (h : ∀ x ∈ l, x ≠ 42) : cutStar l = (l, [], false) := by
  unfold cutStar
  rw [indexByte_none l 42 h, if_pos (by omega)]
theorem letters_star (l : List It) : ∀ x ∈ (l.map fun x => letterF x.k), x ≠ 42 := by
  intro x hx
  obtain ⟨y, _, rfl⟩ := List.mem_map.1 hx
  exact letterF_ne y.k
theorem letters_all (l : List It) (h : ∀ x ∈ l, kindB x.k = true) : allL (l.map fun x => letterF x.k) = true := by
  unfold allL
  rw [List.all_eq_true]
  intro x hx
  obtain ⟨y, hy, rfl⟩ := List.mem_map.1 hx
  exact isLetter_letterF y.k (h y hy)
theorem shapeOk_letters (l : List It) (h : ∀ x ∈ l, kindB x.k = true) : shapeOk (l.map fun x => letterF x.k) = true := by
  unfold shapeOk
  rw [cutStar_letters _ (letters_star l)]
  simp only [Bool.false_and, Bool.not_false, Bool.true_and]
  rw [letters_all l h]
  rfl
theorem decF_letters (l : List It) (s : List UInt8) (h : ∀ x ∈ l, kindB x.k = true) : decF (l.map fun x => letterF x.k) s = readF (2 * s.length + 2) [] 0 (l.map fun x => letterF x.k) s := by
  unfold decF
  rw [shapeOk_letters l h, if_pos rfl, cutStar_letters _ (letters_star l)]
theorem firstFault_zero (l : List It) : firstFault l = 0 ↔ ∀ x ∈ l, faultF x = 0 := by
  induction l with
  | nil => simp [firstFault]
  | cons x l ih =>
    simp only [firstFault, List.mem_cons, forall_eq_or_imp]
    by_cases h : faultF x = 0
    · rw [if_pos h, ih]; simp [h]
    · rw [if_neg h]; simp [h]
theorem itemB_pos (x : It) : 1 ≤ (itemB x).length := by
  unfold itemB
  rw [List.length_append, Lib.beBytes_length]
  have : 1 ≤ widthN x.k := by
    unfold widthN
    split
    · omega
    · split <;> omega
  omega
theorem items_le (l : List It) : l.length ≤ (l.flatMap itemB).length := by
  induction l with
  | nil => simp
  | cons x l ih =>
    have := itemB_pos x
    rw [List.flatMap_cons, List.length_append, List.length_cons]
    omega
theorem encF_zero (l : List It) (h : (encF l).2 = 0) : l.length ≤ 1000 ∧ (∀ x ∈ l, faultF x = 0) ∧ encF l = (l.flatMap itemB, 0) := by
  unfold encF at *
  by_cases h1 : 1000 < l.length
  · rw [if_pos h1] at h; simp at h
  · rw [if_neg h1] at h ⊢
    by_cases h2 : firstFault l = 0
    · rw [if_pos h2]
      exact ⟨by omega, (firstFault_zero l).1 h2, rfl⟩
    · rw [if_neg h2] at h
      exact absurd h h2
theorem shapeF_ok (l : List It) (h : ∀ x ∈ l, kindB x.k = true) : shapeF l = (l.map fun x => letterF x.k, 0) := by
  unfold shapeF
  rw [if_pos]
  rw [List.all_eq_true]
  exact h
theorem back_pure (l : List It) (h : (encF l).2 = 0) (hn : ∀ x ∈ l, 0 ≤ x.n) : (shapeF l).2 = 0 ∧ decF (shapeF l).1 (encF l).1 = (l, 0) := by
  obtain ⟨h1, h2, h3⟩ := encF_zero l h
  have hk : ∀ x ∈ l, kindB x.k = true := fun x hx => fault_kind x (h2 x hx)
  rw [shapeF_ok l hk, h3]
  refine ⟨rfl, ?_⟩
  show decF (l.map fun x => letterF x.k) (l.flatMap itemB) = (l, 0)
  rw [decF_letters l _ hk]
  exact readF_back l 0 _ (by omega) (fun x hx => ⟨h2 x hx, hn x hx⟩) (by have := items_le l; omega)
end Go.Proofs.Ytfcpclpaalekiaa.K
namespace Go.Proofs.Ytfcpclpaalekiaa.K
theorem letter_cases (c : UInt8) (h : isLetter c = true) : c = 98 ∨ c = 119 ∨ c = 108 ∨ c = 116 := by
  by_cases h1 : c = 98
  · exact Or.inl h1
  by_cases h2 : c = 119
  · exact Or.inr (Or.inl h2)
  by_cases h3 : c = 108
  · exact Or.inr (Or.inr (Or.inl h3))
  by_cases h4 : c = 116
  · exact Or.inr (Or.inr (Or.inr h4))
  have e := indexByte_none letters c (by
    intro x hx
    simp [letters] at hx
    rcases hx with rfl | rfl | rfl | rfl
    · exact fun e => h1 e.symm
    · exact fun e => h2 e.symm
    · exact fun e => h3 e.symm
    · exact fun e => h4 e.symm)
  unfold isLetter at h
  rw [e] at h
  simp at h
theorem letter_back (c : UInt8) (h : isLetter c = true) : letterF (kindOfL c) = c ∧ kindB (kindOfL c) = true := by
  rcases letter_cases c h with rfl | rfl | rfl | rfl <;> exact ⟨rfl, rfl⟩
theorem widthN_le' (k : Int) : widthN k ≤ 8 := by
  unfold widthN
  split
  · omega
  · split <;> omega
theorem pow_le8 (z : Nat) (h : z ≤ 8) : 256 ^ z ≤ 18446744073709551616 := by
  have : 256 ^ z ≤ 256 ^ 8 := Nat.pow_le_pow_right (by omega) h
  omega
theorem itemF_inv (c : UInt8) (s : List UInt8) (hc : isLetter c = true) (h : (itemF c s).2.2 = 0) :
    s = itemB (itemF c s).1 ++ (itemF c s).2.1 ∧ faultF (itemF c s).1 = 0 ∧ (itemF c s).1.ok ∧ letterF (itemF c s).1.k = c := by
  obtain ⟨hb, hk⟩ := letter_back c hc
  have hz := widthN_le' (kindOfL c)
  unfold itemF at *
  by_cases h1 : s.length < widthN (kindOfL c)
  · rw [if_pos h1] at h; simp at h
  · rw [if_neg h1] at h ⊢
    by_cases h2 : kindOfL c = 4
    · rw [if_pos h2] at h ⊢
      rw [h2] at h1 hb
      have w4 : widthN 4 = 4 := rfl
      rw [w4] at h1
      by_cases h3 : 100000 < Lib.beNat (s.take 4)
      · rw [if_pos h3] at h; simp at h
      · rw [if_neg h3] at h ⊢
        by_cases h4 : (s.drop 4).length < Lib.beNat (s.take 4)
        · rw [if_pos h4] at h; simp at h
        · rw [if_neg h4]
          have ht : (s.take 4).length = 4 := by rw [List.length_take]; omega
          generalize hN : Lib.beNat (s.take 4) = N at *
          have hl : ((s.drop 4).take N).length = N := by rw [List.length_take]; omega
          have hsz : (⟨((s.drop 4).take N).toArray⟩ : ByteArray).size = N := by
            show ((s.drop 4).take N).toArray.size = N
            rw [List.size_toArray]; exact hl
          refine ⟨?_, ?_, ?_, hb⟩
          · unfold itemB numOf
            rw [if_pos rfl, hsz, w4, ← hN, beBytes_beNat 4 _ ht, hN]
            simp only [List.append_assoc]
            show s = s.take 4 ++ ((s.drop 4).take N ++ (s.drop 4).drop N)
            rw [List.take_append_drop, List.take_append_drop]
          · unfold faultF
            rw [hsz]
            simp [kindB]
            omega
          · unfold It.ok
            rw [hsz]
            simp
            omega
    · rw [if_neg h2] at h ⊢
      have ht : (s.take (widthN (kindOfL c))).length = widthN (kindOfL c) := by rw [List.length_take]; omega
      have hlt := beNat_lt (s.take (widthN (kindOfL c)))
      rw [ht] at hlt
      have h8 := pow_le8 _ hz
      refine ⟨?_, ?_, ?_, hb⟩
      · unfold itemB numOf
        rw [if_neg h2, Int.toNat_natCast, beBytes_beNat _ _ ht]
        show s = s.take (widthN (kindOfL c)) ++ [] ++ s.drop (widthN (kindOfL c))
        rw [List.append_nil, List.take_append_drop]
      · have e : ((256 ^ widthN (kindOfL c) : Nat) : Int) = (256 : Int) ^ widthN (kindOfL c) := Int.natCast_pow 256 _
        have hlt' : ((Lib.beNat (s.take (widthN (kindOfL c))) : Nat) : Int) < (256 : Int) ^ widthN (kindOfL c) := by rw [← e]; omega
        have hsz : (⟨#[]⟩ : ByteArray).size = 0 := rfl
        unfold faultF
        simp only [hk, h2, hsz, hlt', Bool.true_eq_false, if_false, ne_eq, not_true, not_false_iff, or_false, and_false, false_and]
        rfl
      · have k1 : 1 ≤ kindOfL c ∧ kindOfL c ≤ 4 := by simpa [kindB] using hk
        unfold It.ok
        refine ⟨by simp only; omega, by simp only; omega, by simp only; omega, by simp only; omega, Nat.zero_le _⟩
theorem allL_cons (c : UInt8) (t : List UInt8) (h : allL (c :: t) = true) : isLetter c = true ∧ allL t = true := by
  simpa [allL] using h
theorem itemF_less' (c : UInt8) (s : List UInt8) (hc : isLetter c = true) (h : (itemF c s).2.2 = 0) : (itemF c s).2.1.length < s.length := by
  have h1 := congrArg List.length (itemF_inv c s hc h).1
  have h2 := itemB_pos (itemF c s).1
  rw [List.length_append] at h1
  omega
theorem readF_again (f : Nat) (again : List UInt8) (m : Nat) (todo rest : List UInt8) (ha : allL again = true) (ht : allL todo = true) (hm : m ≤ 1000)
    (hf : 2 * rest.length + (if todo = [] then 1 else 0) < f) (h : (readF f again m todo rest).2 = 0) :
    rest = (readF f again m todo rest).1.flatMap itemB ∧ (∀ x ∈ (readF f again m todo rest).1, faultF x = 0 ∧ x.ok) ∧ m + (readF f again m todo rest).1.length ≤ 1000 := by
  induction f generalizing m todo rest with
  | zero => omega
  | succ f ih =>
    cases todo with
    | nil =>
      rw [readF] at h ⊢
      by_cases h1 : rest = []
      · subst h1
        rw [if_pos rfl]
        exact ⟨rfl, by simp, by simpa using hm⟩
      · rw [if_neg h1] at h ⊢
        by_cases h2 : again = []
        · rw [if_pos h2] at h; simp at h
        · rw [if_neg h2] at h ⊢
          rw [if_pos rfl] at hf
          exact ih m again rest ha hm (by rw [if_neg h2]; omega) h
    | cons c t =>
      obtain ⟨hc, ht⟩ := allL_cons c t ht
      rw [readF] at h ⊢
      by_cases h1 : m = 1000
      · rw [if_pos h1] at h; simp at h
      · rw [if_neg h1] at h ⊢
        by_cases h2 : (itemF c rest).2.2 = 0
        · rw [if_pos h2] at h ⊢
          by_cases h3 : (readF f again (m + 1) t (itemF c rest).2.1).2 = 0
          · rw [if_pos h3]
            have hl := itemF_less' c rest hc h2
            rw [if_neg (by simp)] at hf
            obtain ⟨g1, g2, g3⟩ := ih (m + 1) t (itemF c rest).2.1 ht (by omega) (by split <;> omega) h3
            obtain ⟨e1, e2, e3, _⟩ := itemF_inv c rest hc h2
            refine ⟨?_, ?_, ?_⟩
            · show rest = List.flatMap itemB ((itemF c rest).1 :: _)
              rw [List.flatMap_cons, ← g1]
              exact e1
            · intro x hx
              rcases List.mem_cons.1 hx with rfl | hx
              · exact ⟨e2, e3⟩
              · exact g2 x hx
            · show m + (List.length ((itemF c rest).1 :: _)) ≤ 1000
              rw [List.length_cons]
              omega
          · rw [if_neg h3] at h; exact absurd h h3
        · rw [if_neg h2] at h; exact absurd h h2
theorem shapeOk_parts (s : List UInt8) (h : shapeOk s = true) : allL (cutStar s).1 = true ∧ allL (cutStar s).2.1 = true := by
  unfold shapeOk at h
  simp only [Bool.and_eq_true] at h
  exact h.2
theorem again_pure (shape s : List UInt8) (h : (decF shape s).2 = 0) :
    encF (decF shape s).1 = (s, 0) ∧ (∀ x ∈ (decF shape s).1, x.ok) ∧ (decF shape s).1.length ≤ 1000 := by
  unfold decF at *
  by_cases h1 : shapeOk shape = true
  · rw [if_pos h1] at h ⊢
    obtain ⟨ha, hb⟩ := shapeOk_parts shape h1
    obtain ⟨g1, g2, g3⟩ := readF_again _ _ 0 _ s hb ha (by omega) (by split <;> omega) h
    refine ⟨?_, fun x hx => (g2 x hx).2, by omega⟩
    unfold encF
    rw [if_neg (by omega), if_pos ((firstFault_zero _).2 fun x hx => (g2 x hx).1), ← g1]
  · rw [if_neg h1] at h; simp at h
end Go.Proofs.Ytfcpclpaalekiaa.K
namespace Go.Proofs.Ytfcpclpaalekiaa.K
end Go.Proofs.Ytfcpclpaalekiaa.K
