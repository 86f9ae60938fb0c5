/-
  The program's size, items, texts, as they run.
-/
import Derived.Test.YtfcpclpaalekiaaZFI
import Derived.Test.YtfcpclpaalekiaaZFG
import Derived.Test.YtfcpclpaalekiaaZPW4
import Derived.Test.YtfcpclpaalekiaaZPN1
import Derived.Test.YtfcpclpaalekiaaZFH
namespace Go.Proofs.Ytfcpclpaalekiaa
open Go.RowKit Go.Shelf
set_option maxHeartbeats 8000000
attribute [local go_sem ↓] Go.wp_at_zero Go.wp_at_succ
set_option linter.unusedSimpArgs false
set_option linter.unusedVariables false
def LogsOk (l : List (List ByteArray)) : Prop := ∀ x ∈ l, x.length ≤ 8796093021952 ∧ ∀ s ∈ x, s.size ≤ 140737488351232
theorem mostF_ok {l : List (List ByteArray)} (h : LogsOk l) : (mostF l).length ≤ 8796093021952 ∧ ∀ s ∈ mostF l, s.size ≤ 140737488351232 := by
  rcases mostF_mem l with e | e
  · rw [e]; exact ⟨Nat.zero_le _, fun s hs => by cases hs⟩
  · exact h _ e
theorem flongest (ao : Option Addr) (cp : Nat) (l : List (List ByteArray)) (w : World) (hl : LogsAt w ao l) (hn : l.length ≤ 17592186044416) (hs : LogsOk l) :
    Calls Try.prog 11 #[.slice ao l.length cp] w fun e w' => ∃ lo lc, e = .returned (.tuple #[.slice lo (longF l).1.length lc, .int .i64 (longF l).2]) ∧ w'.ownsRow w.heap.size 9 1 (.slice lo (longF l).1.length lc) (longF l).1.length (textC (longF l).1) ∧ Below w.heap.size w w' := by
  have HL := hide hl
  by_cases h0 : l = []
  · have e : longF l = ([], 1) := by unfold longF; rw [if_pos h0]
    rw [e]
    subst h0
    clear hl hs HL e
    go_enter Try.func11, Try.ntmps11
    go_wp2
    go_ret2
    exact ⟨none, 0, rfl, World.ownsRow_nil _ _ _ _, Below.refl _ _⟩
  have hp : 0 < l.length := List.length_pos_iff.2 h0
  have hpi : ¬ (l.length : Int) = 0 := by omega
  have HM := hide (fmost ao cp l w hl hn)
  have HF := hide (longF_most l h0)
  obtain ⟨m1, m2⟩ := mostF_ok hs
  have HP : Hid (∀ i (hi : i < l.length) lo lc lo2 lc2 w1, TextsAt w1 lo l[i] → TextsAt w1 lo2 (mostF l) → Calls Try.prog 15 #[.slice lo l[i].length lc, .slice lo2 (mostF l).length lc2] w1 fun e w' => e = .returned (.bool (preF l[i] (mostF l))) ∧ Below w1.heap.size w1 w') := fun i hi lo lc lo2 lc2 w1 h1 h2 => fprefix lo lo2 lc lc2 l[i] (mostF l) w1 h1 h2 (by have := (hs _ (List.getElem_mem hi)).1; omega) (by omega)
  have HC : Hid (∀ lo lc w1, TextsAt w1 lo (mostF l) → Calls Try.prog 25 #[.slice lo (mostF l).length lc] w1 fun e w' => ∃ ro rc, e = .returned (.slice ro (mostF l).length rc) ∧ w'.ownsRow w1.heap.size 9 1 (.slice ro (mostF l).length rc) (mostF l).length (textC (mostF l)) ∧ Below w1.heap.size w1 w') := fun lo lc w1 h => fcloned lo lc (mostF l) w1 h m1 (fun s hs => by have := m2 s hs; omega)
  have HNO : Hid (∀ i (hi : i < l.length), preF l[i] (mostF l) = false → longF l = ([], 11)) := fun i hi h => by
    rw [HF.out, if_neg]
    intro e
    rw [List.all_eq_true] at e
    rw [e _ (List.getElem_mem hi)] at h
    cases h
  have HYES : Hid ((∀ i (hi : i < l.length), preF l[i] (mostF l) = true) → longF l = (mostF l, 0)) := fun h => by
    rw [HF.out, if_pos]
    rw [List.all_eq_true]
    intro x hx
    obtain ⟨i, hi, rfl⟩ := List.getElem_of_mem hx
    exact h i hi
  clear hl hs HF m1 m2
  generalize mostF l = m at *
  generalize longF l = LF at *
  go_enter Try.func11, Try.ntmps11
  go_upto_region 4 with (go_at_call 24; refine HM.out.mono ?_; rintro e w1 ⟨mo, mc, rfl, ht, n1, rfl⟩; have HT := hide ht; clear ht)
  have S0 : Hid (∀ i (hi : i < l.length), i < 0 → preF l[i] m = true) := fun i hi h => by omega
  go_wp2
  go_loopw [6, 14] (fun _ iv wv => ∃ k : Nat, k ≤ l.length ∧ iv = .int .i64 (k : Nat) ∧ Hid (∀ i (hi : i < l.length), i < k → preF l[i] m = true) ∧ Hid (Below w.heap.size w wv)) (fun _ iv _ => l.length - (intOf iv).toNat)
  case atStart => exact ⟨0, Nat.zero_le _, rfl, S0, drewN_below w _⟩
  case round =>
    obtain ⟨k, hk, rfl, SV, BV⟩ := hrel
    by_cases hlt : k < l.length
    · have y0 : (0 : Int) ≤ (k : Int) := by omega
      have y1 : (k : Int) < (l.length : Int) := by omega
      obtain ⟨g, off, rfl, hg, lo, lc, hc, ht⟩ := (HL.out.below BV.out) k hlt
      have P1 := hide (HP.out k hlt lo lc mo mc wr ht (HT.out.below BV.out))
      have NO := hide (HNO.out k hlt)
      have SN : Hid (preF l[k] m = true → ∀ i (hi : i < l.length), i < k + 1 → preF l[i] m = true) := fun h i hi h2 => by
        rcases Nat.lt_or_ge i k with e | e
        · exact SV.out i hi e
        · obtain rfl : i = k := by omega
          exact h
      clear ht SV
      generalize l[k] = x at *
      generalize hpf : preF x m = pf at *
      clear hpf
      cases pf
      · have NO2 := hide (NO.out rfl)
        go_wp2_with (go_at_call 15; refine P1.out.mono ?_; rintro e w3 ⟨rfl, b3⟩; have B3 := hide (BV.out.trans (b3.mono BV.out.size)); clear b3)
        go_ret2
        rw [NO2.out]
        exact ⟨none, 0, rfl, World.ownsRow_nil _ _ _ _, B3.out⟩
      · have SN2 := hide (SN.out rfl)
        go_wp2_with (go_at_call 15; refine P1.out.mono ?_; rintro e w3 ⟨rfl, b3⟩; have B3 := hide (BV.out.trans (b3.mono BV.out.size)); clear b3)
        exact ⟨⟨k + 1, by omega, by go_num, SN2.out, B3.out⟩, by simp [intOf]; omega⟩
    · have y1 : ¬ (k : Int) < (l.length : Int) := by omega
      obtain rfl : k = l.length := by omega
      have HY := hide (HYES.out fun i hi => SV.out i hi hi)
      have HC2 := hide (HC.out mo mc wr (HT.out.below BV.out))
      clear SV
      go_wp2_with (go_at_call 25; refine HC2.out.mono ?_; rintro e w3 ⟨ro, rc, rfl, hrow, b3⟩; have B3 := hide (BV.out.trans (b3.mono BV.out.size)); have R3 := hide (ownsRow_base hrow BV.out.size); clear b3 hrow)
      go_ret2
      rw [HY.out]
      exact ⟨ro, rc, rfl, R3.out, B3.out⟩
end Go.Proofs.Ytfcpclpaalekiaa
namespace Go.Proofs.Ytfcpclpaalekiaa
open Go.ChangeShapes Go.WideShapes Go.ChangeAt Go.RowKit Go.Deep Go.Maps
set_option maxRecDepth 100000
set_option linter.unusedVariables false
theorem cellsString : Try.prog.cellsOf 9 = 1 := by kernel_rfl
theorem bytesStr : Try.prog.bytesOf 9 = 16 := by kernel_rfl
theorem cellsTexts : Try.prog.cellsOf 23 = 1 := by kernel_rfl
theorem bytesTexts : Try.prog.bytesOf 23 = 24 := by kernel_rfl
theorem weightsAll_in {H : Type} {P : Program} {e : TypeId} : ∀ {l : List (DataW H)} {d : DataW H}, d ∈ l → ∀ n ∈ d.weights P e, n ∈ DataW.weightsAll P e l
  | x :: r, d, hd, n, hn => by
    unfold DataW.weightsAll
    rcases List.mem_cons.1 hd with rfl | hd
    · exact List.mem_append_left _ hn
    · exact List.mem_append_right _ (weightsAll_in hd n hn)
theorem texts_open {H : Type} {enc : TypeId × Value → H} {W : World} {n : Nat} {cs : List Value} {x : DataW H × List MemPlace} (h : DataW.trod enc Try.prog W 0 (fun _ => true) true n 23 cs = some x) (hw : ∀ k ∈ x.1.weights Try.prog 23, k ≤ reachBytes) :
    ∃ ao L cap, cs = [.slice ao (L : List ByteArray).length cap] ∧ TextsAt W ao L ∧ (∀ s ∈ L, s.size ≤ 140737488351232) ∧ L.length ≤ 8796093021952 ∧ L.length ≤ cap ∧ (ao = none → cap = 0) := by
  rcases open_slice1 Try.underlying23 cellsString h with ⟨hcs, hx⟩ | ⟨a, len, c', m, n, V, D, Pl, hcs, _, hl, hm, hmm, hx, hel⟩
  · exact ⟨none, [], 0, hcs, fun i hi => by simp at hi, fun u hu => by simp at hu, Nat.zero_le _, Nat.zero_le _, fun _ => rfl⟩
  · simp only [if_true] at hmm
    subst hmm
    have hsl := hw (((List.range len).map D).length + ((List.range (m - len)).map fun j => D (len + j)).length |> (· * 16)) (by
      rw [hx]
      unfold DataW.weights
      rw [Try.underlying23]
      show _ ∈ _ * Try.prog.bytesOf 9 :: _
      rw [bytesStr]
      exact List.mem_cons_self)
    simp only [List.length_map, List.length_range, reachBytes] at hsl
    have hch : ∀ i, i < len → ∃ y : ByteArray, y.size ≤ 140737488351232 ∧ W.cell? (a.add i) = some (.string y) := by
      intro i hi
      obtain ⟨h1, h2⟩ := hel i (by omega)
      obtain ⟨y, e, hd, _⟩ := DataW.trod_string Try.underlying9 h2
      have he : V i = .string y := by simpa using e
      have hz : y.size ≤ 140737488351232 := by
        have hk := hw y.data.toList.length (by
          rw [hx]
          unfold DataW.weights
          rw [Try.underlying23]
          refine List.mem_cons_of_mem _ (List.mem_append_left _ (weightsAll_in (List.mem_map.2 ⟨i, List.mem_range.2 hi, rfl⟩) _ ?_))
          rw [show D i = .lit (.string y.data.toList) from congrArg Prod.fst hd]
          simp [DataW.weights])
        rw [show y.data.toList.length = y.size by simp] at hk
        simp only [reachBytes] at hk
        omega
      exact ⟨y, hz, by rw [← he]; exact h1⟩
    obtain ⟨f, hfy⟩ := @choose_lt ByteArray ⟨.empty⟩ len (fun i (y : ByteArray) => y.size ≤ 140737488351232 ∧ W.cell? (a.add i) = some (.string y)) hch
    refine ⟨some a, (List.range len).map f, m, by simpa using hcs, ?_, ?_, ?_, by rw [List.length_map, List.length_range]; exact hl, fun e => by cases e⟩
    · intro i hi
      have hi' : i < len := by simpa using hi
      obtain ⟨_, h1⟩ := hfy i hi'
      obtain ⟨b, off, spot⟩ := a
      have hspot : spot = none := by
        obtain ⟨_, h0⟩ := hfy 0 (by omega)
        have h3 : W.cell? (⟨b, off, spot⟩ : Addr) = some (.string (f 0)) := h0
        exact World.cell?_spot h3
      subst hspot
      rw [addr_add] at h1
      have e : ((List.range len).map f)[i] = f i := by simp
      refine ⟨b, off, rfl, ?_, ?_⟩
      · have h2 : W.cells? 0 (⟨b, off + i, none⟩ : Addr) 1 = some [.string (f i)] := cells?_one (Nat.zero_le _) h1
        exact World.cells?_block h2 (by omega)
      · rw [e]; exact h1
    · intro x hx
      obtain ⟨i, hi, rfl⟩ := List.mem_map.1 hx
      exact (hfy i (List.mem_range.1 hi)).1
    · rw [List.length_map, List.length_range]
      omega
theorem texts_param {H : Type} {enc : TypeId × Value → H} {W : World} {r : Reach} {b0 : Nat} {v : Value} {d : DataW H} {p : List MemPlace} (hv : Value.okWide Try.prog W r b0 23 v) (h : DataW.Trod enc Try.prog W 0 (fun _ => true) true 23 v d p) {ts : List TypeId} {ds : List (DataW H)} {j : Nat} (hsz : (DataW.weightsEach Try.prog ts ds).all (· ≤ reachBytes) = true) (ht : ts[j]? = some 23) (hd : ds[j]? = some d) :
    ∃ ao cap, ∃ L : List ByteArray, v = .slice ao L.length cap ∧ TextsAt W ao L ∧ (∀ s ∈ L, s.size ≤ 140737488351232) ∧ L.length ≤ 8796093021952 ∧ L.length ≤ cap ∧ (ao = none → cap = 0) := by
  obtain ⟨a, l, c, rfl⟩ := okWide_slice Try.underlying23 hv
  obtain ⟨fuel, hf⟩ := h
  obtain ⟨ao, L, cap, e, hx⟩ := texts_open hf (weights_of hsz ht hd)
  simp only [Value.cells, List.cons.injEq, and_true] at e
  exact ⟨ao, cap, L, e, hx⟩
def LogsNil (w : World) (ao : Option Addr) (n : Nat) : Prop := ∀ i, i < n → ∀ g off, ao = some ⟨g, off, none⟩ → ∀ lo k lc, w.cell? ⟨g, off + i, none⟩ = some (.slice lo k lc) → lo = none → lc = 0
theorem logs_param {H : Type} {enc : TypeId × Value → H} {W : World} {r : Reach} {b0 : Nat} {v : Value} {d : DataW H} {p : List MemPlace} (hv : Value.okWide Try.prog W r b0 22 v) (h : DataW.Trod enc Try.prog W 0 (fun _ => true) true 22 v d p) {ts : List TypeId} {ds : List (DataW H)} {j : Nat} (hsz : (DataW.weightsEach Try.prog ts ds).all (· ≤ reachBytes) = true) (ht : ts[j]? = some 22) (hd : ds[j]? = some d) :
    ∃ ao cap, ∃ L : List (List ByteArray), v = .slice ao L.length cap ∧ LogsAt W ao L ∧ LogsOk L ∧ L.length ≤ 5864062014805 ∧ LogsNil W ao L.length := by
  obtain ⟨a, l, c, rfl⟩ := okWide_slice Try.underlying22 hv
  obtain ⟨fuel, hf⟩ := h
  have hw := weights_of hsz ht hd
  suffices hs : ∃ ao L cap, [Value.slice a l c] = [.slice ao (L : List (List ByteArray)).length cap] ∧ LogsAt W ao L ∧ LogsOk L ∧ L.length ≤ 5864062014805 ∧ LogsNil W ao L.length by
    obtain ⟨ao, L, cap, e, hx⟩ := hs
    simp only [List.cons.injEq, and_true] at e
    exact ⟨ao, cap, L, e, hx⟩
  rcases open_slice1 Try.underlying22 cellsTexts hf with ⟨hcs, hx⟩ | ⟨a2, len, c', m, n, V, D, Pl, hcs, _, hl, hm, hmm, hx, hel⟩
  · exact ⟨none, [], 0, by simpa [Value.cells] using hcs, fun i hi => by simp at hi, fun u hu => by simp at hu, Nat.zero_le _, fun i hi => by simp at hi⟩
  · simp only [if_true] at hmm
    subst hmm
    have hx1 : d = _ := congrArg Prod.fst hx
    have hsl := hw (((List.range len).map D).length + ((List.range (m - len)).map fun j => D (len + j)).length |> (· * 24)) (by
      rw [hx1]
      unfold DataW.weights
      rw [Try.underlying22]
      show _ ∈ _ * Try.prog.bytesOf 23 :: _
      rw [bytesTexts]
      exact List.mem_cons_self)
    simp only [List.length_map, List.length_range, reachBytes] at hsl
    have hch : ∀ i, i < len → ∃ y : Option Addr × List ByteArray × Nat, W.cell? (a2.add i) = some (.slice y.1 y.2.1.length y.2.2) ∧ TextsAt W y.1 y.2.1 ∧ (∀ s ∈ y.2.1, s.size ≤ 140737488351232) ∧ y.2.1.length ≤ 8796093021952 ∧ (y.1 = none → y.2.2 = 0) := by
      intro i hi
      obtain ⟨h1, h2⟩ := hel i (by omega)
      obtain ⟨lo, L, lc, e, t1, t2, t3, t4, t5⟩ := texts_open h2 (fun k hk => hw k (by
        rw [hx1]
        unfold DataW.weights
        rw [Try.underlying22]
        exact List.mem_cons_of_mem _ (List.mem_append_left _ (weightsAll_in (List.mem_map.2 ⟨i, List.mem_range.2 hi, rfl⟩) _ hk))))
      have he : V i = .slice lo L.length lc := by simpa using e
      exact ⟨(lo, L, lc), by rw [← he]; exact h1, t1, t2, t3, t5⟩
    obtain ⟨f, hfy⟩ := @choose_lt (Option Addr × List ByteArray × Nat) ⟨(none, [], 0)⟩ len (fun i y => W.cell? (a2.add i) = some (.slice y.1 y.2.1.length y.2.2) ∧ TextsAt W y.1 y.2.1 ∧ (∀ s ∈ y.2.1, s.size ≤ 140737488351232) ∧ y.2.1.length ≤ 8796093021952 ∧ (y.1 = none → y.2.2 = 0)) hch
    refine ⟨some a2, (List.range len).map fun i => (f i).2.1, m, by simpa [Value.cells] using hcs, ?_, ?_, ?_, ?_⟩
    · intro i hi
      have hi' : i < len := by simpa using hi
      obtain ⟨h1, h2, _⟩ := hfy i hi'
      obtain ⟨b, off, spot⟩ := a2
      have hspot : spot = none := by
        have h3 : W.cell? (⟨b, off, spot⟩ : Addr) = some (.slice (f 0).1 (f 0).2.1.length (f 0).2.2) := (hfy 0 (by omega)).1
        exact World.cell?_spot h3
      subst hspot
      rw [addr_add] at h1
      have e : ((List.range len).map fun i => (f i).2.1)[i] = (f i).2.1 := by simp
      refine ⟨b, off, rfl, ?_, (f i).1, (f i).2.2, ?_, ?_⟩
      · have h2 : W.cells? 0 (⟨b, off + i, none⟩ : Addr) 1 = some [.slice (f i).1 (f i).2.1.length (f i).2.2] := cells?_one (Nat.zero_le _) h1
        exact World.cells?_block h2 (by omega)
      · rw [e]; exact h1
      · rw [e]; exact h2
    · intro x hx
      obtain ⟨i, hi, rfl⟩ := List.mem_map.1 hx
      obtain ⟨_, _, h3, h4, _⟩ := hfy i (List.mem_range.1 hi)
      exact ⟨h4, h3⟩
    · rw [List.length_map, List.length_range]
      omega
    · intro i hi g off e lo k lc hc hn
      rw [List.length_map, List.length_range] at hi
      obtain ⟨h1, _, _, _, h5⟩ := hfy i hi
      obtain rfl := Option.some.inj e
      rw [addr_add, hc] at h1
      have h6 := Value.slice.inj (Option.some.inj h1)
      rw [h6.2.2]
      exact h5 (by rw [← h6.1]; exact hn)
end Go.Proofs.Ytfcpclpaalekiaa
namespace Go.Proofs.Ytfcpclpaalekiaa
open Go.RowKit Go.Shelf
set_option maxHeartbeats 4000000
attribute [local go_sem ↓] Go.wp_at_zero Go.wp_at_succ
set_option linter.unusedSimpArgs false
set_option linter.unusedVariables false
theorem sizeF_take (l : List ByteArray) (k : Nat) (hk : k < l.length) : sizeF (l.take (k + 1)) = sizeF (l.take k) + (4 + l[k].size) := by
  rw [List.take_succ_eq_append_getElem hk, sizeF_append]
  show _ + (4 + l[k].size + 0) = _
  omega
theorem sizeF_up {l : List ByteArray} (hl : l.length ≤ 991) (hs : ∀ s ∈ l, s.size ≤ 140737488351232) : sizeF l ≤ 139611588448485376 := by
  have := sizeF_le l 140737488351232 hs
  have : l.length * (4 + 140737488351232) ≤ 991 * (4 + 140737488351232) := Nat.mul_le_mul_right _ hl
  omega
theorem fsize (ao : Option Addr) (cp : Nat) (l : List ByteArray) (w : World) (hc : TextsAt w ao l) (hl : l.length ≤ 990) (hs : ∀ s ∈ l, s.size ≤ 140737488351232) :
    Calls Try.prog 28 #[.slice ao l.length cp] w fun e w' => e = .returned (.int .i64 (sizeF l : Nat)) ∧ ∃ n, w' = w.drewN n := by
  have HC := hide hc
  have HZ : Hid (∀ k, sizeF (l.take k) ≤ 139611588448485376) := fun k => sizeF_up (by rw [List.length_take]; omega) (fun s h => hs s (List.mem_of_mem_take h))
  have HS := hide hs
  clear hc hs
  go_enter Try.func28, Try.ntmps28
  go_wp2
  go_loopw [3, 5, 8] (fun rv _ iv wv => ∃ k : Nat, k ≤ l.length ∧ iv = .int .i64 k ∧ rv = .int .i64 (sizeF (l.take k) : Nat) ∧ ∃ n, wv = w.drewN n) (fun _ _ iv _ => l.length - (intOf iv).toNat)
  case atStart => exact ⟨0, Nat.zero_le _, rfl, rfl, 0, rfl⟩
  case round =>
    obtain ⟨k, hk, rfl, rfl, nd, rfl⟩ := hrel
    by_cases hlt : k < l.length
    · obtain ⟨g, off, rfl, hg, hcell⟩ := HC.out k hlt
      have h0 : (0 : Int) ≤ (k : Int) := by omega
      have h1 : (k : Int) < (l.length : Int) := by omega
      have HT := hide (sizeF_take l k hlt)
      have hz := HZ.out k
      have hx := HS.out _ (List.getElem_mem hlt)
      generalize l[k] = x at *
      generalize sizeF (l.take k) = z at *
      have w1 : IntKind.i64.wrap (4 + (x.size : Int)) = 4 + (x.size : Int) := by rw [IntKind.wrap_i64]; omega
      have w2 : IntKind.i64.wrap ((z : Int) + (4 + (x.size : Int))) = (z : Int) + (4 + (x.size : Int)) := by rw [IntKind.wrap_i64]; omega
      go_wp2
      exact ⟨⟨k + 1, by omega, by go_num, by rw [HT.out]; congr 1, nd, rfl⟩, by simp [intOf]; omega⟩
    · have hi1 : ¬ (k : Int) < (l.length : Int) := by omega
      obtain rfl : k = l.length := by omega
      have HE : Hid (sizeF (l.take l.length) = sizeF l) := congrArg sizeF List.take_length
      go_wp2
      go_ret
      exact ⟨rfl, nd, rfl⟩
theorem itCells_snoc (l : List K.It) (x : K.It) : itCells (l ++ [x]) = itCells l ++ [.int .i64 x.k, .int .u64 x.n, .string x.s] := by rw [itCells_append]; rfl
theorem app_item {w : World} {B n oc : Nat} {oo : Option Addr} {xs : List K.It} (hown : w.ownsRow B tItem 3 (.slice oo n oc) n (itCells xs)) (s : ByteArray) (hl : n + 1 ≤ 1000000) (hB : B ≤ w.heap.size) :
    ∃ ta tc w', (Builtin.append_ #[60, 60] 60 #[.slice oo n oc, .slice (some ⟨w.heap.size, 0, none⟩) 1 1]).run Try.prog (w.alloc (.cells #[.int .i64 4, .int .u64 0, .string s] tItem)) = .ok (.slice ta (n + 1) tc) w' ∧ w'.ownsRow B tItem 3 (.slice ta (n + 1) tc) (n + 1) (itCells (xs ++ [txI s])) ∧ Below B w w' := by
  obtain ⟨i0, hi0, hz0, hz1, hz2⟩ := zinfo_parts infoIt
  have hb : Below w.heap.size w (w.alloc (.cells #[.int .i64 4, .int .u64 0, .string s] tItem)) := (Below.refl _ _).alloc (Nat.le_refl _) _
  have ho2 : (w.alloc (.cells #[.int .i64 4, .int .u64 0, .string s] tItem)).ownsRow B tItem 3 (.slice oo n oc) n (itCells xs) := hown.alloc _
  obtain ⟨v', w', hr, h2, h3, h4, h5⟩ := run_append_own_at (P := Try.prog) (w.alloc (.cells #[.int .i64 4, .int .u64 0, .string s] tItem)) B 60 60 tItem i0 (.agg #[.int .i64 0, .int .u64 0, .string ⟨#[]⟩]) 3 32 Try.underlying60 hi0 hz0 hz1 hz2 rfl (by decide) (.slice oo n oc) n (itCells xs) ho2 ⟨w.heap.size, 0, none⟩ 1 1 [.int .i64 4, .int .u64 0, .string s] rfl (World.news_of_block (cs := #[.int .i64 4, .int .u64 0, .string s]) (t := tItem) (fr := (0, 0)) (heap_alloc_new w _)) (by intro u hu; simp at hu; rcases hu with rfl | rfl | rfl <;> rfl) (by unfold maxLen; omega) (by omega) (by have := hb.size; omega)
  obtain ⟨ao, cp, rfl⟩ := row_slice h2
  refine ⟨ao, cp, w', hr, ?_, ?_⟩
  · rw [itCells_snoc]; exact h2
  · exact (hb.mono hB).grown h3 (by have := hb.size; omega) (fun j hj => by exact (ho2.lt j hj).1)
theorem fitems (ao : Option Addr) (cp : Nat) (l : List ByteArray) (w : World) (hc : TextsAt w ao l) (hl : l.length ≤ 990) :
    Calls Try.prog 30 #[.slice ao l.length cp] w fun e w' => ∃ ro rc, e = .returned (.slice ro l.length rc) ∧ w'.ownsRow w.heap.size tItem 3 (.slice ro l.length rc) l.length (itCells (l.map txI)) ∧ Below w.heap.size w w' := by
  have HC := hide hc
  clear hc
  go_enter Try.func30, Try.ntmps30
  go_wp2
  have O1 : Hid (w.ownsRow w.heap.size tItem 3 (.slice none 0 0) 0 (itCells ((l.take 0).map txI))) := World.ownsRow_nil _ _ _ _
  go_loopw [3, 5, 8] (fun rv _ iv wv => ∃ (k : Nat) (ro : Option Addr) (rc : Nat), k ≤ l.length ∧ iv = .int .i64 k ∧ rv = .slice ro k rc ∧ Hid (wv.ownsRow w.heap.size tItem 3 (.slice ro k rc) k (itCells ((l.take k).map txI))) ∧ Hid (Below w.heap.size w wv)) (fun _ _ iv _ => l.length - (intOf iv).toNat)
  case atStart => exact ⟨0, none, 0, Nat.zero_le _, rfl, rfl, O1, Below.refl _ _⟩
  case round =>
    obtain ⟨k, ro, rc, hk, rfl, rfl, OV, BV⟩ := hrel
    by_cases hlt : k < l.length
    · obtain ⟨g, off, rfl, hg, hcell⟩ := (HC.out.below BV.out) k hlt
      have h0 : (0 : Int) ≤ (k : Int) := by omega
      have h1 : (k : Int) < (l.length : Int) := by omega
      have HT : Hid ((l.take (k + 1)).map txI = (l.take k).map txI ++ [txI l[k]]) := by show _ = _; rw [List.take_succ_eq_append_getElem hlt, List.map_append]; rfl
      obtain ⟨ta, tc, w5, hrun, hrow, hbel⟩ := app_item OV.out l[k] (by omega) BV.out.size
      have HRUN := hide hrun
      have HROW : Hid (w5.ownsRow w.heap.size tItem 3 (.slice ta (k + 1) tc) (k + 1) (itCells ((l.take (k + 1)).map txI))) := by rw [HT.out]; exact hrow
      have HBEL := hide hbel
      clear hrun hrow hbel HT
      generalize l[k] = x at *
      go_wp2_with (at_builtin; refine wpList_append_run rfl _ _ 60 rfl _ _ _ rfl rfl HRUN.out ?_)
      exact ⟨⟨k + 1, ta, tc, by omega, by go_num, rfl, HROW, BV.out.trans HBEL.out⟩, by simp [intOf]; omega⟩
    · have hi1 : ¬ (k : Int) < (l.length : Int) := by omega
      obtain rfl : k = l.length := by omega
      go_wp2
      go_ret
      have h1 := OV.out
      rw [List.take_length] at h1
      exact ⟨ro, rc, rfl, h1, BV.out⟩
theorem ftexts (ao : Option Addr) (cp : Nat) (l : List K.It) (w : World) (hc : ItsAt w ao l) (hl : l.length ≤ 1000) :
    Calls Try.prog 35 #[.slice ao l.length cp] w fun e w' => ∃ ro rc, e = .returned (.slice ro l.length rc) ∧ w'.ownsRow w.heap.size 9 1 (.slice ro l.length rc) l.length (textC (l.map (·.s))) ∧ Below w.heap.size w w' := by
  have HC : Hid (∀ W, Below w.heap.size w W → ItsAt W ao l) := fun W b i hi => by
    obtain ⟨g, off, h1, h2, h3, h4, h5⟩ := hc i hi
    exact ⟨g, off, h1, Nat.lt_of_lt_of_le h2 b.size, (b.cell (p := ⟨g, _, none⟩) h2).trans h3, (b.cell (p := ⟨g, _, none⟩) h2).trans h4, (b.cell (p := ⟨g, _, none⟩) h2).trans h5⟩
  clear hc
  go_enter Try.func35, Try.ntmps35
  go_wp2
  have O1 : Hid (w.ownsRow w.heap.size 9 1 (.slice none 0 0) 0 (textC ((l.take 0).map (·.s)))) := World.ownsRow_nil _ _ _ _
  go_loopw [3, 5, 8] (fun rv _ iv wv => ∃ (k : Nat) (ro : Option Addr) (rc : Nat), k ≤ l.length ∧ iv = .int .i64 k ∧ rv = .slice ro k rc ∧ Hid (wv.ownsRow w.heap.size 9 1 (.slice ro k rc) k (textC ((l.take k).map (·.s)))) ∧ Hid (Below w.heap.size w wv)) (fun _ _ iv _ => l.length - (intOf iv).toNat)
  case atStart => exact ⟨0, none, 0, Nat.zero_le _, rfl, rfl, O1, Below.refl _ _⟩
  case round =>
    obtain ⟨k, ro, rc, hk, rfl, rfl, OV, BV⟩ := hrel
    by_cases hlt : k < l.length
    · obtain ⟨g, off, rfl, hg, hc0, hc1, hc2⟩ := HC.out wr BV.out k hlt
      have h0 : (0 : Int) ≤ (k : Int) := by omega
      have h1 : (k : Int) < (l.length : Int) := by omega
      have HT : Hid ((l.take (k + 1)).map (·.s) = (l.take k).map (·.s) ++ [l[k].s]) := by show _ = _; rw [List.take_succ_eq_append_getElem hlt, List.map_append]; rfl
      have bu := (Below.refl wr.heap.size wr).alloc (Nat.le_refl _) (.cells #[.int .i64 l[k].k, .int .u64 l[k].n, .string l[k].s] tItem)
      have O2 := hide (below_row bu OV.out)
      have B2 := hide (BV.out.trans (bu.mono BV.out.size))
      obtain ⟨ta, tc, w5, hrun, hrow, hbel⟩ := app_text O2.out l[k].s (by omega) B2.out.size
      rw [show (wr.alloc (.cells #[.int .i64 l[k].k, .int .u64 l[k].n, .string l[k].s] tItem)).heap.size = wr.heap.size + 1 by simp] at hrun
      have HRUN := hide hrun
      have HROW : Hid (w5.ownsRow w.heap.size 9 1 (.slice ta (k + 1) tc) (k + 1) (textC ((l.take (k + 1)).map (·.s)))) := by rw [HT.out]; exact hrow
      have HBEL := hide (B2.out.trans hbel)
      clear hrun hrow hbel HT bu
      generalize l[k].s = s at *
      generalize l[k].k = kk at *
      generalize l[k].n = nn at *
      go_wp2_with (at_builtin; refine wpList_append_run rfl _ _ 23 rfl _ _ _ rfl rfl HRUN.out ?_)
      exact ⟨⟨k + 1, ta, tc, by omega, by go_num, rfl, HROW, HBEL.out⟩, by simp [intOf]; omega⟩
    · have hi1 : ¬ (k : Int) < (l.length : Int) := by omega
      obtain rfl : k = l.length := by omega
      go_wp2
      go_ret
      have h1 := OV.out
      rw [List.take_length] at h1
      exact ⟨ro, rc, rfl, h1, BV.out⟩
end Go.Proofs.Ytfcpclpaalekiaa
