/-
  carillonref19's Longest, as it runs.
-/
import Derived.Test.YtfcpclpaalekiaaZVM
import Derived.Test.YtfcpclpaalekiaaProg
import Derived.ProofKit
import Derived.OpenShut
import Derived.ShutString
import Derived.ChangeOld
import Derived.SizedLaws
import Derived.Deep.Slices
import Derived.Deep.Strs
import Derived.WalkKit
import Derived.Test.YtfcpclpaalekiaaRows
import Derived.Deep.QuietTactic
import Derived.BigQuiet
namespace Go.Proofs.Ytfcpclpaalekiaa
open Go.ChangeShapes Go.WideShapes Go.ChangeAt Go.RowKit Go.Deep
set_option maxRecDepth 100000
theorem own : ownKnob Try.prog.godebug = none := by kernel_rfl
theorem laidOut : laidOutB Try.prog = true := by kernel_rfl
theorem cellsInt : Try.prog.cellsOf 3 = 1 := by kernel_rfl
theorem cellsMember : Try.prog.cellsOf 53 = 2 := by kernel_rfl
theorem cellsMembers : Try.prog.cellsOf 33 = 1 := by kernel_rfl
theorem cellsView : Try.prog.cellsOf 35 = 2 := by kernel_rfl
theorem bytesMember : Try.prog.bytesOf 53 = 16 := by kernel_rfl
theorem bytesInt : Try.prog.bytesOf 3 = 8 := by kernel_rfl
def In64 (a : Int) : Prop := -9223372036854775808 ≤ a ∧ a ≤ 9223372036854775807
theorem wf_in64 {a : Int} (h : (Lit.int .i64 a).wf = true) : In64 a := by
  simp [Lit.wf, IntKind.min, IntKind.max, IntKind.bits, IntKind.signed] at h
  unfold In64
  omega
def MB.ok (m : MB) : Prop := In64 m.node ∧ In64 m.life
theorem two_of {α : Type} (l : List α) (h : l.length = 2) : ∃ a b, l = [a, b] := by
  match l, h with
  | [a, b], _ => exact ⟨a, b, rfl⟩
theorem addr_add (b off n : Nat) : (⟨b, off, none⟩ : Addr).add n = ⟨b, off + n, none⟩ := by
  unfold Addr.add
  split
  · rename_i h; subst h; rfl
  · rfl
theorem mb_open {H : Type} {enc : TypeId × Value → H} {W : World} {n : Nat} {cs : List Value} {x : DataW H × List MemPlace} (h : DataW.trod enc Try.prog W 0 (fun _ => true) true n 53 cs = some x) :
    ∃ o : MB, o.ok ∧ cs = o.cells := by
  obtain ⟨xs, m, _, _, hl, hlen, hf⟩ := DataW.trod_struct Try.underlying53 h
  rw [cellsMember] at hl
  obtain ⟨v0, v1, rfl⟩ := two_of cs hl
  obtain ⟨x0, x1, rfl⟩ := two_of xs hlen
  have h0 : DataW.trod enc Try.prog W 0 (fun _ => true) true m 3 [v0] = some x0 := by
    have h : DataW.trod enc Try.prog W 0 (fun _ => true) true m 3 (([v0, v1].drop 0).take (Try.prog.cellsOf 3)) = some x0 := hf 0 _ rfl
    rw [cellsInt] at h
    exact h
  have h1 : DataW.trod enc Try.prog W 0 (fun _ => true) true m 3 [v1] = some x1 := by
    have h : DataW.trod enc Try.prog W 0 (fun _ => true) true m 3 (([v0, v1].drop 1).take (Try.prog.cellsOf 3)) = some x1 := hf 1 _ rfl
    rw [cellsInt] at h
    exact h
  obtain ⟨a0, e0, _, w0⟩ := DataW.trod_int Try.underlying3 h0
  obtain ⟨a1, e1, _, w1⟩ := DataW.trod_int Try.underlying3 h1
  cases e0
  cases e1
  exact ⟨⟨a0, a1⟩, ⟨wf_in64 w0, wf_in64 w1⟩, rfl⟩
theorem mems_open {H : Type} {enc : TypeId × Value → H} {W : World} {n : Nat} {cs : List Value} {x : DataW H × List MemPlace} (h : DataW.trod enc Try.prog W 0 (fun _ => true) true n 33 cs = some x) (hw : ∀ k ∈ x.1.weights Try.prog 33, k ≤ reachBytes) :
    ∃ ao L cap, cs = [.slice ao (L : List MB).length cap] ∧ MemsAt W ao L ∧ (∀ m ∈ L, m.ok) ∧ L.length ≤ 140737488351232 := by
  rcases open_slice Try.underlying33 h with ⟨hcs, hx⟩ | ⟨a, len, c', m, n, D, Pl, hcs, _, hl, hm, hmm, hx, hel⟩
  · exact ⟨none, [], 0, hcs, fun i hi => by simp at hi, fun u hu => by simp at hu, Nat.zero_le _⟩
  · simp only [if_true] at hmm
    subst hmm
    rw [cellsMember] at hel
    have hsl := hw (((List.range len).map D).length + ((List.range (m - len)).map fun j => D (len + j)).length |> (· * 16)) (by
      rw [hx]
      unfold DataW.weights
      rw [Try.underlying33]
      show _ ∈ _ * Try.prog.bytesOf 53 :: _
      rw [bytesMember]
      exact List.mem_cons_self)
    simp only [List.length_map, List.length_range, reachBytes] at hsl
    have hch : ∀ i, i < len → ∃ y : MB, y.ok ∧ W.cells? 0 (a.add (i * 2)) 2 = some y.cells := by
      intro i hi
      obtain ⟨cs', h1, h2⟩ := hel i (by omega)
      obtain ⟨o, ho, rfl⟩ := mb_open h2
      exact ⟨o, ho, h1⟩
    obtain ⟨f, hfy⟩ := @choose_lt MB ⟨⟨0, 0⟩⟩ len (fun i y => y.ok ∧ W.cells? 0 (a.add (i * 2)) 2 = some y.cells) hch
    refine ⟨some a, (List.range len).map f, m, by simpa using hcs, ?_, ?_, ?_⟩
    · intro i hi
      have hi' : i < len := by simpa using hi
      obtain ⟨_, h1⟩ := hfy i hi'
      have hb := World.cells?_block h1 (by omega)
      obtain ⟨b, off, spot⟩ := a
      have hb' : b < W.heap.size := by
        have e : ((⟨b, off, spot⟩ : Addr).add (i * 2)).block = b := by unfold Addr.add; split <;> rfl
        rw [e] at hb; exact hb
      have hspot : spot = none := by
        obtain ⟨_, h0⟩ := hfy 0 (by omega)
        have h2 := (World.cells?_some h0).2.2 0 (by omega)
        have h3 : W.cell? (⟨b, off, spot⟩ : Addr) = some (.int .i64 (f 0).node) := h2
        exact World.cell?_spot h3
      subst hspot
      have h2 := (World.cells?_some h1).2.2
      rw [addr_add] at h2
      have e : ((List.range len).map f)[i] = f i := by simp
      have g0 := h2 0 (by omega)
      have g1 := h2 1 (by omega)
      rw [addr_add] at g0 g1
      refine ⟨b, off, rfl, hb', ?_, ?_⟩
      · rw [e]; simpa [MB.cells] using g0
      · rw [e]; simpa [MB.cells] using g1
    · intro x hx
      obtain ⟨i, hi, rfl⟩ := List.mem_map.1 hx
      exact (hfy i (List.mem_range.1 hi)).1
    · rw [List.length_map, List.length_range]
      omega
theorem view_open {H : Type} {enc : TypeId × Value → H} {W : World} {n : Nat} {cs : List Value} {x : DataW H × List MemPlace} (h : DataW.trod enc Try.prog W 0 (fun _ => true) true n 35 cs = some x) (hw : ∀ k ∈ x.1.weights Try.prog 35, k ≤ reachBytes) :
    ∃ ao cap, ∃ o : VW, cs = [.int .i64 o.num, .slice ao o.mem.length cap] ∧ In64 o.num ∧ MemsAt W ao o.mem ∧ (∀ m ∈ o.mem, m.ok) ∧ o.mem.length ≤ 140737488351232 := by
  obtain ⟨xs, m, _, hx, hl, hlen, hf⟩ := DataW.trod_struct Try.underlying35 h
  rw [cellsView] at hl
  obtain ⟨v0, v1, rfl⟩ := two_of cs hl
  obtain ⟨x0, x1, rfl⟩ := two_of xs hlen
  have h0 : DataW.trod enc Try.prog W 0 (fun _ => true) true m 3 [v0] = some x0 := by
    have h : DataW.trod enc Try.prog W 0 (fun _ => true) true m 3 (([v0, v1].drop 0).take (Try.prog.cellsOf 3)) = some x0 := hf 0 _ rfl
    rw [cellsInt] at h
    exact h
  have h1 : DataW.trod enc Try.prog W 0 (fun _ => true) true m 33 [v1] = some x1 := by
    have h : DataW.trod enc Try.prog W 0 (fun _ => true) true m 33 (([v0, v1].drop 1).take (Try.prog.cellsOf 33)) = some x1 := hf 1 _ rfl
    rw [cellsMembers] at h
    exact h
  obtain ⟨a0, e0, _, w0⟩ := DataW.trod_int Try.underlying3 h0
  obtain ⟨ao, L, cap, e1, hM, hok, hL⟩ := mems_open h1 (fun k hk => hw k (by
    rw [hx]
    show _ ∈ DataW.weights Try.prog 35 (.agg [x0.1, x1.1])
    unfold DataW.weights
    rw [Try.underlying35]
    exact DataW.weights_mem_each (j := 1) (t := 33) (d := x1.1) rfl rfl k hk))
  cases e0
  cases e1
  exact ⟨ao, cap, ⟨a0, L⟩, rfl, wf_in64 w0, hM, hok, hL⟩
theorem weights_of {H : Type} {d : DataW H} {t : TypeId} {ts : List TypeId} {ds : List (DataW H)} {j : Nat} (hsz : (DataW.weightsEach Try.prog ts ds).all (· ≤ reachBytes) = true) (ht : ts[j]? = some t) (hd : ds[j]? = some d) : ∀ k ∈ d.weights Try.prog t, k ≤ reachBytes :=
  fun k hk => of_decide_eq_true (List.all_eq_true.1 hsz k (DataW.weights_mem_each (P := Try.prog) ht hd k hk))
theorem view_param {H : Type} {enc : TypeId × Value → H} {W : World} {r : Reach} {b0 : Nat} {v : Value} {d : DataW H} {p : List MemPlace} (hv : Value.okWide Try.prog W r b0 35 v) (h : DataW.Trod enc Try.prog W 0 (fun _ => true) true 35 v d p) {ts : List TypeId} {ds : List (DataW H)} {j : Nat} (hsz : (DataW.weightsEach Try.prog ts ds).all (· ≤ reachBytes) = true) (ht : ts[j]? = some 35) (hd : ds[j]? = some d) :
    ∃ ao cap, ∃ x : VW, v = x.v ao cap ∧ In64 x.num ∧ MemsAt W ao x.mem ∧ (∀ m ∈ x.mem, m.ok) ∧ x.mem.length ≤ 140737488351232 := by
  obtain ⟨cs, rfl, _⟩ := okWide_struct Try.underlying35 hv
  obtain ⟨fuel, hf⟩ := h
  obtain ⟨ao, cap, x, e, hx⟩ := view_open hf (weights_of hsz ht hd)
  refine ⟨ao, cap, x, ?_, hx⟩
  simp only [Value.cells] at e
  exact congrArg Value.agg (by cases cs; simp_all)
end Go.Proofs.Ytfcpclpaalekiaa
namespace Go.Proofs.Ytfcpclpaalekiaa
def comF : List ByteArray → List ByteArray → Nat
  | x :: a, y :: b => if x = y then comF a b + 1 else 0
  | _, _ => 0
theorem comF_le (a b : List ByteArray) : comF a b ≤ a.length ∧ comF a b ≤ b.length := by
  induction a generalizing b with
  | nil => cases b <;> simp [comF]
  | cons x a ih =>
    cases b with
    | nil => simp [comF]
    | cons y b =>
      have := ih b
      simp only [comF, List.length_cons]
      split <;> omega
theorem comF_same (a b : List ByteArray) (i : Nat) (hi : i < comF a b) (h1 : i < a.length) (h2 : i < b.length) : a[i] = b[i] := by
  induction a generalizing b i with
  | nil => simp at h1
  | cons x a ih =>
    cases b with
    | nil => simp at h2
    | cons y b =>
      simp only [comF] at hi
      by_cases e : x = y
      · rw [if_pos e] at hi
        cases i with
        | zero => simpa using e
        | succ i => simpa using ih b i (by omega) (by simpa using h1) (by simpa using h2)
      · rw [if_neg e] at hi; omega
theorem comF_part (a b : List ByteArray) (h1 : comF a b < a.length) (h2 : comF a b < b.length) : a[comF a b] ≠ b[comF a b] := by
  induction a generalizing b with
  | nil => simp at h1
  | cons x a ih =>
    cases b with
    | nil => simp at h2
    | cons y b =>
      by_cases e : x = y
      · have e2 : comF (x :: a) (y :: b) = comF a b + 1 := by simp [comF, e]
        have := ih b (by rw [e2] at h1; simpa using h1) (by rw [e2] at h2; simpa using h2)
        simp only [e2, List.getElem_cons_succ]
        exact this
      · have e2 : comF (x :: a) (y :: b) = 0 := by simp [comF, e]
        simp only [e2, List.getElem_cons_zero]
        exact e
theorem comF_is (a b : List ByteArray) (n : Nat) (h1 : n ≤ a.length) (h2 : n ≤ b.length) (hs : ∀ i (hi : i < n), a[i] = b[i]) (hp : n = a.length ∨ n = b.length ∨ ∃ (h3 : n < a.length) (h4 : n < b.length), a[n] ≠ b[n]) : comF a b = n := by
  have hle := comF_le a b
  rcases Nat.lt_trichotomy (comF a b) n with h | h | h
  · exact absurd (hs _ h) (comF_part a b (by omega) (by omega))
  · exact h
  · rcases hp with e | e | ⟨h3, h4, e⟩
    · omega
    · omega
    · exact absurd (comF_same a b n h h3 h4) e
def preF (a b : List ByteArray) : Bool := decide (comF a b = a.length)
theorem preF_iff (a b : List ByteArray) : preF a b = true ↔ a = b.take a.length := by
  unfold preF
  rw [decide_eq_true_eq]
  constructor
  · intro h
    have hle := comF_le a b
    apply List.ext_getElem
    · rw [List.length_take]; omega
    · intro i h1 h2
      rw [List.getElem_take]
      exact comF_same a b i (by omega) h1 (by rw [List.length_take] at h2; omega)
  · intro h
    have hl : a.length ≤ b.length := by
      have := congrArg List.length h
      rw [List.length_take] at this
      omega
    refine comF_is a b a.length (Nat.le_refl _) hl (fun i hi => ?_) (.inl rfl)
    have : a[i] = (b.take a.length)[i]'(by rw [List.length_take]; omega) := List.getElem_of_eq h hi
    rw [this, List.getElem_take]
theorem preF_takes (l : List ByteArray) (i j : Nat) (h : i ≤ j) : preF (l.take i) (l.take j) = true := by
  rw [preF_iff, List.take_take, List.length_take]
  rcases Nat.le_total i l.length with e | e
  · congr 1; omega
  · rw [List.take_of_length_le e, List.take_of_length_le (by omega)]
def meetF (l : List (List ByteArray)) : Bool := l.all fun a => l.all fun b => preF a b || preF b a
def bestF (l : List (List ByteArray)) : Nat → Nat → Nat
  | 0, _ => 0
  | n + 1, _ => let k := bestF l n 0; if (l.getD k []).length < (l.getD n []).length then n else k
def bestI (l : List (List ByteArray)) (n : Nat) : Nat := bestF l n 0
theorem bestI_succ (l : List (List ByteArray)) (n : Nat) : bestI l (n + 1) = if (l.getD (bestI l n) []).length < (l.getD n []).length then n else bestI l n := rfl
theorem bestI_lt (l : List (List ByteArray)) (n : Nat) (h : 0 < n) : bestI l n < n := by
  induction n with
  | zero => omega
  | succ n ih =>
    rw [bestI_succ]
    split
    · omega
    · rcases Nat.eq_zero_or_pos n with e | e
      · subst e; exact Nat.lt_succ_self 0
      · have := ih e; omega
theorem bestI_most (l : List (List ByteArray)) (n : Nat) (i : Nat) (hi : i < n) : (l.getD i []).length ≤ (l.getD (bestI l n) []).length := by
  induction n with
  | zero => omega
  | succ n ih =>
    rw [bestI_succ]
    rcases Nat.lt_or_ge i n with h | h
    · have := ih h
      split <;> omega
    · obtain rfl : i = n := by omega
      split <;> omega
def longF (l : List (List ByteArray)) : List ByteArray × Int := if l = [] then ([], 1) else if meetF l then (l.getD (bestI l l.length) [], 0) else ([], 11)
theorem meetF_two {l : List (List ByteArray)} (h : meetF l = true) {a b : List ByteArray} (ha : a ∈ l) (hb : b ∈ l) : preF a b = true ∨ preF b a = true := by
  unfold meetF at h
  rw [List.all_eq_true] at h
  have := h a ha
  rw [List.all_eq_true] at this
  have := this b hb
  rwa [Bool.or_eq_true] at this
theorem preF_len {a b : List ByteArray} (h : preF a b = true) : a.length ≤ b.length := by
  have := comF_le a b
  unfold preF at h
  rw [decide_eq_true_eq] at h
  omega
theorem preF_both {a b : List ByteArray} (h : preF a b = true ∨ preF b a = true) (hl : a.length ≤ b.length) : preF a b = true := by
  rcases h with h | h
  · exact h
  · have e : a.length = b.length := Nat.le_antisymm hl (preF_len h)
    have h2 := (preF_iff b a).1 h
    rw [← e, List.take_length] at h2
    rw [preF_iff, h2, List.take_length]
end Go.Proofs.Ytfcpclpaalekiaa
namespace Go.Proofs.Ytfcpclpaalekiaa
open Go.RowKit
set_option maxHeartbeats 4000000
attribute [local go_sem ↓] Go.wp_at_zero Go.wp_at_succ
set_option linter.unusedSimpArgs false
set_option linter.unusedVariables false
def TextsAt (w : World) (ao : Option Addr) (l : List ByteArray) : Prop := ∀ i (h : i < l.length), ∃ g off, ao = some ⟨g, off, none⟩ ∧ g < w.heap.size ∧ w.cell? ⟨g, off + i, none⟩ = some (.string l[i])
theorem TextsAt.below {w w' : World} {ao : Option Addr} {l : List ByteArray} (h : TextsAt w ao l) (hb : Below w.heap.size w w') : TextsAt w' ao l := fun i hi => by
  obtain ⟨g, off, h1, h2, h3⟩ := h i hi
  exact ⟨g, off, h1, Nat.lt_of_lt_of_le h2 hb.size, (hb.cell (p := ⟨g, _, none⟩) h2).trans h3⟩
theorem TextsAt.take {w : World} {ao : Option Addr} {l : List ByteArray} (h : TextsAt w ao l) (k : Nat) : TextsAt w ao (l.take k) := fun i hi => by
  rw [List.length_take] at hi
  obtain ⟨g, off, e, hg, hc⟩ := h i (by omega)
  refine ⟨g, off, e, hg, ?_⟩
  rw [hc, List.getElem_take]
def LogsAt (w : World) (ao : Option Addr) (l : List (List ByteArray)) : Prop := ∀ i (h : i < l.length), ∃ g off, ao = some ⟨g, off, none⟩ ∧ g < w.heap.size ∧ ∃ lo lc, w.cell? ⟨g, off + i, none⟩ = some (.slice lo l[i].length lc) ∧ TextsAt w lo l[i]
theorem LogsAt.below {w w' : World} {ao : Option Addr} {l : List (List ByteArray)} (h : LogsAt w ao l) (hb : Below w.heap.size w w') : LogsAt w' ao l := fun i hi => by
  obtain ⟨g, off, h1, h2, lo, lc, h3, h4⟩ := h i hi
  exact ⟨g, off, h1, Nat.lt_of_lt_of_le h2 hb.size, lo, lc, (hb.cell (p := ⟨g, _, none⟩) h2).trans h3, h4.below hb⟩
theorem toList_ne {x y : ByteArray} (h : ¬ x = y) : (x.toList == y.toList) = false := by
  rw [ByteArray.toList_eq, ByteArray.toList_eq]
  cases e : (x.data.toList == y.data.toList) with
  | false => rfl
  | true => exact absurd (ByteArray.ext (Array.ext' (eq_of_beq e))) h
theorem ptexts_eq (ao bo : Option Addr) (ca cb : Nat) (l : List ByteArray) (w : World) (ha : TextsAt w ao l) (hb : TextsAt w bo l) (hl : l.length ≤ 17592186044416) :
    Calls Try.prog 12 #[.slice ao l.length ca, .slice bo l.length cb] w fun e w' => e = .returned (.bool true) ∧ ∃ n, w' = w.drewN n := by
  have HA := hide ha
  have HB := hide hb
  clear ha hb
  go_enter Try.func12, Try.ntmps12
  go_wp2
  go_loopw [5] (fun i wv => ∃ k : Nat, k ≤ l.length ∧ i = .int .i64 (k : Nat) ∧ ∃ n, wv = w.drewN n) (fun i _ => l.length - (intOf i).toNat)
  case atStart => exact ⟨0, Nat.zero_le _, rfl, 0, rfl⟩
  case round =>
    obtain ⟨k, hk, rfl, nd, rfl⟩ := hrel
    by_cases hlt : k < l.length
    · obtain ⟨g, off, rfl, _, hc1⟩ := HA.out k hlt
      obtain ⟨g2, off2, rfl, _, hc2⟩ := HB.out k hlt
      have h0 : (0 : Int) ≤ (k : Int) := by omega
      have h1 : (k : Int) < (l.length : Int) := by omega
      generalize l[k] = x at *
      go_wp2
      go_quiet (fail)
      go_wp2
      exact ⟨⟨k + 1, by omega, by go_num, ⟨nd + nq, by first | rfl | exact World.drewN_drewN _ _ _⟩⟩, by simp [intOf]; omega⟩
    · have hi1 : ¬ (k : Int) < (l.length : Int) := by omega
      go_wp2
      go_ret
      exact ⟨rfl, nd, rfl⟩
theorem rcommon (ao bo : Option Addr) (ca cb : Nat) (a b : List ByteArray) (w : World) (ha : TextsAt w ao a) (hb : TextsAt w bo b) (hl : a.length ≤ 17592186044416) (hl2 : b.length ≤ 17592186044416) :
    Calls Try.prog 14 #[.slice ao a.length ca, .slice bo b.length cb] w fun e w' => e = .returned (.int .i64 (comF a b : Nat)) ∧ ∃ n, w' = w.drewN n := by
  have HA := hide ha
  have HB := hide hb
  have HC := hide (comF_is a b)
  clear ha hb
  generalize comF a b = cf at *
  go_enter Try.func14, Try.ntmps14
  go_wp2
  have S0 : Hid (∀ i (hi : i < 0) (h1 : i < a.length) (h2 : i < b.length), a[i] = b[i]) := fun i hi => by omega
  go_loopw [5] (fun i wv => ∃ k : Nat, k ≤ a.length ∧ k ≤ b.length ∧ i = .int .i64 (k : Nat) ∧ Hid (∀ i (hi : i < k) (h1 : i < a.length) (h2 : i < b.length), a[i] = b[i]) ∧ ∃ n, wv = w.drewN n) (fun i _ => a.length - (intOf i).toNat)
  case atStart => exact ⟨0, Nat.zero_le _, Nat.zero_le _, rfl, S0, 0, rfl⟩
  case round =>
    obtain ⟨k, hka, hkb, rfl, SV, nd, rfl⟩ := hrel
    by_cases hlt : k < a.length
    · have h0 : (0 : Int) ≤ (k : Int) := by omega
      have h1 : (k : Int) < (a.length : Int) := by omega
      have d1 : decide (k < a.length) = true := decide_eq_true hlt
      by_cases hlt2 : k < b.length
      · have h2 : (k : Int) < (b.length : Int) := by omega
        have d2 : decide (k < b.length) = true := decide_eq_true hlt2
        obtain ⟨g, off, rfl, _, hc1⟩ := HA.out k hlt
        obtain ⟨g2, off2, rfl, _, hc2⟩ := HB.out k hlt2
        by_cases e : a[k] = b[k]
        · have SN : Hid (∀ i (hi : i < k + 1) (h1 : i < a.length) (h2 : i < b.length), a[i] = b[i]) := fun i hi h1 h2 => by
            rcases Nat.lt_or_ge i k with h | h
            · exact SV.out i h h1 h2
            · obtain rfl : i = k := by omega
              exact e
          rw [← e] at hc2
          clear e SV
          generalize a[k] = x at *
          go_wp2
          go_quiet (fail)
          go_wp2
          exact ⟨⟨k + 1, by omega, by omega, by go_num, SN, ⟨nd + nq, by first | rfl | exact World.drewN_drewN _ _ _⟩⟩, by simp [intOf]; omega⟩
        · have HK : Hid (cf = k) := HC.out k hka hkb (fun i hi => SV.out i hi (by omega) (by omega)) (.inr (.inr ⟨hlt, hlt2, e⟩))
          clear SV
          generalize a[k] = x at *
          generalize b[k] = y at *
          have d4 := toList_ne e
          go_wp2
          go_quiet (fail)
          go_wp2
          go_ret
          exact ⟨by rw [HK.out]; rfl, ⟨nd + nq, by first | rfl | exact World.drewN_drewN _ _ _⟩⟩
      · have d2 : decide (k < b.length) = false := decide_eq_false hlt2
        have HK : Hid (cf = k) := HC.out k hka hkb (fun i hi => SV.out i hi (by omega) (by omega)) (.inr (.inl (by omega)))
        clear SV
        go_wp2
        go_quiet (fail)
        go_wp2
        go_ret
        exact ⟨by rw [HK.out]; rfl, ⟨nd + nq, by first | rfl | exact World.drewN_drewN _ _ _⟩⟩
    · have d1 : decide (k < a.length) = false := decide_eq_false hlt
      have HK : Hid (cf = k) := HC.out k hka hkb (fun i hi => SV.out i hi (by omega) (by omega)) (.inl (by omega))
      clear SV
      go_wp2
      go_quiet (fail)
      go_wp2
      go_ret
      exact ⟨by rw [HK.out]; rfl, ⟨nd + nq, by first | rfl | exact World.drewN_drewN _ _ _⟩⟩
theorem rprefix (ao bo : Option Addr) (ca cb : Nat) (a b : List ByteArray) (w : World) (ha : TextsAt w ao a) (hb : TextsAt w bo b) (hl : a.length ≤ 17592186044416) (hl2 : b.length ≤ 17592186044416) :
    Calls Try.prog 16 #[.slice ao a.length ca, .slice bo b.length cb] w fun e w' => e = .returned (.bool (preF a b)) ∧ ∃ n, w' = w.drewN n := by
  have HC := hide (rcommon ao bo ca cb a b w ha hb hl hl2)
  have HP : Hid (preF a b = decide (comF a b = a.length)) := rfl
  clear ha hb
  generalize comF a b = cf at *
  generalize preF a b = pf at *
  go_enter Try.func16, Try.ntmps16
  go_wp2_with (go_at_call 14; refine HC.out.mono ?_; rintro e w1 ⟨rfl, b1⟩)
  go_ret
  refine ⟨?_, b1⟩
  rw [HP.out]
  by_cases q : cf = a.length
  · subst q; simp
  · have q2 : ¬ (cf : Int) = (a.length : Int) := by omega
    simp [q, q2]
end Go.Proofs.Ytfcpclpaalekiaa
namespace Go.Proofs.Ytfcpclpaalekiaa
open Go.RowKit
set_option maxHeartbeats 8000000
attribute [local go_sem ↓] Go.wp_at_zero Go.wp_at_succ
set_option linter.unusedSimpArgs false
set_option linter.unusedVariables false
theorem preF_self (a : List ByteArray) : preF a a = true := by rw [preF_iff, List.take_length]
def meets (l : List (List ByteArray)) (i : Nat) : Prop := ∀ a b (ha : a < l.length) (hb : b < a), a < i → preF l[a] l[b] = true ∨ preF l[b] l[a] = true
theorem meetF_iff (l : List (List ByteArray)) : meetF l = true ↔ meets l l.length := by
  constructor
  · intro h a b ha hb _
    exact meetF_two h (List.getElem_mem ha) (List.getElem_mem (by omega))
  · intro h
    unfold meetF
    rw [List.all_eq_true]
    intro x hx
    rw [List.all_eq_true]
    intro y hy
    obtain ⟨i, hi, rfl⟩ := List.getElem_of_mem hx
    obtain ⟨k, hk, rfl⟩ := List.getElem_of_mem hy
    rw [Bool.or_eq_true]
    rcases Nat.lt_trichotomy i k with e | e | e
    · exact (h k i hk e hk).symm
    · subst e; exact .inl (preF_self _)
    · exact h i k hi e hi
theorem meetF_no {l : List (List ByteArray)} {i k : Nat} (hi : i < l.length) (hk : k < i) (h1 : preF l[i] l[k] = false) (h2 : preF l[k] l[i] = false) : meetF l = false := by
  cases h : meetF l with
  | false => rfl
  | true =>
    have := (meetF_iff l).1 h i k hi hk hi
    rw [h1, h2] at this
    simp at this
theorem rlongest (ao : Option Addr) (cp : Nat) (l : List (List ByteArray)) (w : World) (hl : LogsAt w ao l) (hn : l.length ≤ 17592186044416) (hs : ∀ x ∈ l, x.length ≤ 17592186044416) :
    Calls Try.prog 10 #[.slice ao l.length cp] w fun e w' => ∃ lo lc, e = .returned (.tuple #[.slice lo (longF l).1.length lc, .int .i64 (longF l).2]) ∧ TextsAt w' lo (longF l).1 ∧ ∃ n, w' = w.drewN n := by
  have HL := hide hl
  have HS := hide hs
  by_cases h0 : l = []
  · have e : longF l = ([], 1) := by unfold longF; rw [if_pos h0]
    rw [e]
    subst h0
    clear hl hs HL HS e
    go_enter Try.func10, Try.ntmps10
    go_wp2
    go_ret2
    exact ⟨none, 0, rfl, fun i hi => by simp at hi, 0, rfl⟩
  have hp : 0 < l.length := List.length_pos_iff.2 h0
  have hpi : ¬ (l.length : Int) = 0 := by omega
  have HGD : Hid (∀ k (hk : k < l.length), l.getD k [] = l[k]) := fun k hk => by rw [List.getD_eq_getElem?_getD, List.getElem?_eq_getElem hk]; rfl
  have HP : Hid (∀ i k (hi : i < l.length) (hk : k < l.length) lo lc lo2 lc2 w1, TextsAt w1 lo l[i] → TextsAt w1 lo2 l[k] → Calls Try.prog 16 #[.slice lo l[i].length lc, .slice lo2 l[k].length lc2] w1 fun e w' => e = .returned (.bool (preF l[i] l[k])) ∧ ∃ n, w' = w1.drewN n) := fun i k hi hk lo lc lo2 lc2 w1 h1 h2 => rprefix lo lo2 lc lc2 l[i] l[k] w1 h1 h2 (hs _ (List.getElem_mem hi)) (hs _ (List.getElem_mem hk))
  have HNO : Hid (∀ i k (hi : i < l.length) (hk : k < i), preF l[i] l[k] = false → preF l[k] l[i] = false → longF l = ([], 11)) := fun i k hi hk h1 h2 => by
    unfold longF
    rw [if_neg h0, meetF_no hi hk h1 h2]
    rfl
  have HYES : Hid (meets l l.length → longF l = (l.getD (bestI l l.length) [], 0)) := fun h => by
    unfold longF
    rw [if_neg h0, if_pos ((meetF_iff l).2 h)]
  have HB : Hid (bestI l l.length < l.length) := bestI_lt l _ hp
  have M0 : Hid (meets l 0) := fun a b _ _ h => by omega
  clear hl hs
  generalize longF l = LF at *
  go_enter Try.func10, Try.ntmps10
  go_wp2
  go_loopw [4, 5] (fun bv iv wv => ∃ i : Nat, i ≤ l.length ∧ iv = .int .i64 (i : Nat) ∧ bv = .int .i64 (bestI l i : Nat) ∧ Hid (bestI l i ≤ i ∧ (0 < i → bestI l i < i)) ∧ Hid (meets l i) ∧ ∃ n, wv = w.drewN n) (fun _ iv _ => l.length - (intOf iv).toNat)
  case atStart => exact ⟨0, Nat.zero_le _, rfl, rfl, ⟨Nat.le_refl _, fun h => absurd h (Nat.lt_irrefl _)⟩, M0, 0, rfl⟩
  case round =>
    obtain ⟨i, hi, rfl, rfl, BB, MV, nd, rfl⟩ := hrel
    by_cases hlt : i < l.length
    · have y0 : (0 : Int) ≤ (i : Int) := by omega
      have y1 : (i : Int) < (l.length : Int) := by omega
      go_upto_region 8 with fail
      have N0 : Hid (∀ b (hb : b < 0) (hb2 : b < l.length), preF l[i] l[b] = true ∨ preF l[b] l[i] = true) := fun b hb => by omega
      go_loopw [6, 7, 8] (fun kv _ _ wv => ∃ k : Nat, k ≤ i ∧ kv = .int .i64 (k : Nat) ∧ Hid (∀ b (hb : b < k) (hb2 : b < l.length), preF l[i] l[b] = true ∨ preF l[b] l[i] = true) ∧ ∃ n, wv = w.drewN n) (fun kv _ _ _ => i - (intOf kv).toNat)
      case atStart => exact ⟨0, Nat.zero_le _, rfl, N0, nd, rfl⟩
      case round =>
        obtain ⟨k, hk, rfl, NV, nd2, hw2⟩ := hrel
        have HLr : Hid (LogsAt wr ao l) := by show LogsAt _ _ _; rw [hw2]; exact HL.out
        have HW2 := hide hw2
        clear hw2
        by_cases hlt2 : k < i
        · have hk2 : k < l.length := by omega
          have z0 : (0 : Int) ≤ (k : Int) := by omega
          have z1 : (k : Int) < (l.length : Int) := by omega
          have z2 : (k : Int) < (i : Int) := by omega
          obtain ⟨g, off, hao, _, lo, lc, hc, ht⟩ := HLr.out i hlt
          obtain ⟨g2, off2, hao2, _, lo2, lc2, hc2, ht2⟩ := HLr.out k hk2
          rw [hao] at hao2
          injection hao2 with hao2
          injection hao2 with e3 e4 _
          subst e3 e4
          have P1 := hide (fun m => HP.out i k hlt hk2 lo lc lo2 lc2 (wr.drewN m) (fun j hj => ht j hj) (fun j hj => ht2 j hj))
          have P2 := hide (fun m m2 => HP.out k i hk2 hlt lo2 lc2 lo lc ((wr.drewN m).drewN m2) (fun j hj => ht2 j hj) (fun j hj => ht j hj))
          have P3 : Hid (∀ m m2, Calls Try.prog 16 #[.slice lo2 l[k].length lc2, .slice lo l[i].length lc] (wr.drewN (m + m2)) fun e w' => e = .returned (.bool (preF l[k] l[i])) ∧ ∃ q, w' = (wr.drewN m).drewN q) := fun m m2 => (HP.out k i hk2 hlt lo2 lc2 lo lc (wr.drewN (m + m2)) (fun j hj => ht2 j hj) (fun j hj => ht j hj)).mono fun e w' ⟨h1, q, h2⟩ => ⟨h1, m2 + q, by rw [h2]; simp only [World.drewN_drewN, Nat.add_assoc]⟩
          have NN : Hid (preF l[i] l[k] = true ∨ preF l[k] l[i] = true → ∀ b (hb : b < k + 1) (hb2 : b < l.length), preF l[i] l[b] = true ∨ preF l[b] l[i] = true) := fun h b hb hb2 => by
            rcases Nat.lt_or_ge b k with e | e
            · exact NV.out b e hb2
            · obtain rfl : b = k := by omega
              exact h
          have NO := hide (HNO.out i k hlt hlt2)
          have NVV := NV
          clear NV ht ht2
          subst hao
          generalize l[i] = x at *
          generalize l[k] = y at *
          generalize preF x y = p1 at *
          generalize preF y x = p2 at *
          cases p1 <;> cases p2
          all_goals go_wp2
          all_goals go_quiet ((go_at_call 16; exact Calls.quiet_of (P1.out _)))
          all_goals go_upto_region 11 with fail
          all_goals generalize hW : World.drewN wr _ = wr2
          all_goals have hcq : wr2.cell? ⟨g, off + i, none⟩ = some (.slice lo x.length lc) := by rw [← hW]; exact hc
          all_goals have hcq2 : wr2.cell? ⟨g, off + k, none⟩ = some (.slice lo2 y.length lc2) := by rw [← hW]; exact hc2
          all_goals have P4 : Hid (∀ m, Calls Try.prog 16 #[.slice lo2 y.length lc2, .slice lo x.length lc] (wr2.drewN m) fun e w' => e = .returned (.bool _) ∧ ∃ q, w' = (wr2.drewN m).drewN q) := fun m => by rw [← hW]; exact P2.out _ _
          all_goals have HD : Hid (∀ q, ∃ n, wr2.drewN q = w.drewN n) := fun q => (by rw [← hW, HW2.out, World.drewN_drewN, World.drewN_drewN]; exact ⟨_, rfl⟩)
          all_goals clear hW
          all_goals go_quiet ((go_at_call 16; exact Calls.quiet_of (P4.out _)))
          all_goals go_wp2
          · go_ret2
            rw [NO.out (by simp) (by simp)]
            exact ⟨none, 0, rfl, fun i hi => by simp at hi, HD.out _⟩
          · exact ⟨⟨k + 1, by omega, by go_num, NN.out (by simp), HD.out _⟩, by simp [intOf]; omega⟩
          · exact ⟨⟨k + 1, by omega, by go_num, NN.out (by simp), HD.out _⟩, by simp [intOf]; omega⟩
          · exact ⟨⟨k + 1, by omega, by go_num, NN.out (by simp), HD.out _⟩, by simp [intOf]; omega⟩
        · obtain rfl : k = i := by omega
          have hi2 : ¬ (k : Int) < (k : Int) := by omega
          have hbl : bestI l k < l.length := by have := BB.out.1; omega
          obtain ⟨g, off, hao, _, lo, lc, hc, ht⟩ := HLr.out k hlt
          obtain ⟨g2, off2, hao2, _, lo2, lc2, hc2, ht2⟩ := HLr.out (bestI l k) hbl
          rw [hao] at hao2
          injection hao2 with hao2
          injection hao2 with e3 e4 _
          subst e3 e4
          subst hao
          have MN : Hid (meets l (k + 1)) := fun a b ha hb hab => by
            rcases Nat.lt_or_ge a k with e | e
            · exact MV.out a b ha hb e
            · obtain rfl : a = k := by omega
              exact NV.out b hb (by omega)
          have HD : Hid (∀ q, ∃ n, wr.drewN q = w.drewN n) := fun q => by
            rw [HW2.out, World.drewN_drewN]
            exact ⟨_, rfl⟩
          have HSU : Hid (bestI l (k + 1) = if l[bestI l k].length < l[k].length then k else bestI l k) := by
            show _ = _
            rw [bestI_succ, HGD.out _ hbl, HGD.out _ hlt]
          have BBo := BB.out.1
          clear ht ht2 MV NV BB HB HNO HYES HP
          generalize l[k] = x at *
          generalize l[bestI l k] = y at *
          generalize bestI l k = b at *
          have w0 : (0 : Int) ≤ (b : Int) := by omega
          have w1 : (b : Int) < (l.length : Int) := by omega
          by_cases e : y.length < x.length
          · have d1 : decide (y.length < x.length) = true := decide_eq_true e
            have HS2 : Hid (bestI l (k + 1) = k) := by have := HSU.out; rw [if_pos e] at this; exact this
            clear HSU
            go_wp2
            go_quiet (fail)
            go_wp2
            refine ⟨?_, by simp [intOf]; omega⟩
            exact ⟨k + 1, by omega, by go_num, by rw [HS2.out], ⟨by rw [HS2.out]; omega, fun _ => by rw [HS2.out]; omega⟩, MN, HD.out _⟩
          · have d1 : decide (y.length < x.length) = false := decide_eq_false e
            have HS2 : Hid (bestI l (k + 1) = b) := by have := HSU.out; rw [if_neg e] at this; exact this
            clear HSU
            go_wp2
            go_quiet (fail)
            go_wp2
            refine ⟨?_, by simp [intOf]; omega⟩
            exact ⟨k + 1, by omega, by go_num, by rw [HS2.out], ⟨by rw [HS2.out]; omega, fun _ => by rw [HS2.out]; omega⟩, MN, HD.out _⟩
    · obtain rfl : i = l.length := by omega
      have hi1 : ¬ (l.length : Int) < (l.length : Int) := by omega
      have hb := HB.out
      obtain ⟨g, off, hao, _, lo, lc, hc, ht⟩ := HL.out _ hb
      have HE : Hid (LF = (l[bestI l l.length], 0)) := by
        show _ = _
        rw [HYES.out MV.out, HGD.out _ hb]
      rw [hao]
      have HT := hide ht
      clear ht MV
      generalize bestI l l.length = b at *
      have y0 : (0 : Int) ≤ (b : Int) := by omega
      have y1 : (b : Int) < (l.length : Int) := by omega
      generalize l[b] = x at *
      go_wp2
      go_ret2
      rw [HE.out]
      exact ⟨lo, ⟨lc, rfl⟩, HT.out, nd, rfl⟩
end Go.Proofs.Ytfcpclpaalekiaa
