/-
  LinkAnew on lists, as its walk keeps it.
-/
import Derived.Test.YthgfijmpofbchaaZN0
namespace Go.Proofs.Ythgfijmpofbchaa
open Go.RowKit

def an (p : PR) (rl : Nat → List ByteArray) (n1 n2 : Nat) : AN := ⟨p.l, p.way, p.sent false, rl 1, rl 0, rl 2, n1, n2⟩
structure AS (n : Nat) (p : PR) (rl : Nat → List ByteArray) (n1 n2 : Nat) : Prop where
  ai : AI (an p rl n1 n2)
  way : ∀ x, (p.way x).length ≤ 8 * n
  sent : (p.sent false).length ≤ n
  rows : ∀ i, (rl i).length ≤ n
  first : n1 ≤ (p.sent false).length
  oks : ∀ x, ∀ f ∈ p.way x, f.ok
section
variable {n n1 n2 : Nat} {p : PR} {rl : Nat → List ByteArray}
theorem AS.up (h : AS n p rl n1 n2) : AS (n + 1) p rl n1 n2 :=
  ⟨h.ai, fun x => by have := h.way x; omega, by have := h.sent; omega, fun i => by have := h.rows i; omega, h.first, h.oks⟩
theorem AS.of (h : AS n p rl n1 n2) {p' : PR} {rl' : Nat → List ByteArray} {n1' n2' : Nat} (ai : AI (an p' rl' n1' n2')) (hw : p'.way = p.way) (hs : (p'.sent false).length ≤ n + 1) (hr : ∀ i, (rl' i).length ≤ n + 1) (hf : n1' ≤ (p'.sent false).length) : AS (n + 1) p' rl' n1' n2' :=
  ⟨ai, fun x => by rw [hw]; have := h.way x; omega, hs, hr, hf, fun x => by rw [hw]; exact h.oks x⟩
theorem AS.send_no (h : AS n p rl n1 n2) (hn : n ≤ 10000) (x : Bool) (s : ByteArray) (hb : ((p.l x).send s).1 ≠ 0) : AS (n + 1) { p with l := set p.l x ((p.l x).send s).2 } rl n1 n2 := by
  have k := ai_send h.ai x s (by have := h.sent; show (p.sent false).length < _; omega) (by have := h.rows 1; show (rl 1).length < _; omega)
  refine h.of ?_ rfl (by have := h.sent; show (p.sent false).length ≤ _; omega) (fun i => by have := h.rows i; omega) h.first
  have e : (an p rl n1 n2).send x s = an { p with l := set p.l x ((p.l x).send s).2 } rl n1 n2 := by
    unfold AN.send an
    simp only [hb, false_and, if_false]
  rw [← e]
  exact k
theorem AS.send_first (h : AS n p rl n1 n2) (hn : n ≤ 10000) (s : ByteArray) (hb : ((p.l false).send s).1 = 0) : AS (n + 1) { ({ p with l := set p.l false ((p.l false).send s).2 } : PR) with sent := set p.sent false (p.sent false ++ [s]) } rl n1 n2 := by
  have k := ai_send h.ai false s (by have := h.sent; show (p.sent false).length < _; omega) (by have := h.rows 1; show (rl 1).length < _; omega)
  refine h.of ?_ rfl ?_ (fun i => by have := h.rows i; omega) ?_
  · have e : (an p rl n1 n2).send false s = an { ({ p with l := set p.l false ((p.l false).send s).2 } : PR) with sent := set p.sent false (p.sent false ++ [s]) } rl n1 n2 := by
      unfold AN.send an
      simp [hb, set_same]
    rw [← e]
    exact k
  · have := h.sent
    show (set p.sent false (p.sent false ++ [s]) false).length ≤ _
    rw [set_same, List.length_append, List.length_singleton]
    omega
  · have := h.first
    show n1 ≤ (set p.sent false (p.sent false ++ [s]) false).length
    rw [set_same, List.length_append]
    omega
theorem rows_put {n : Nat} (h : ∀ i, (rl i).length ≤ n) (j : Nat) {L : List ByteArray} (hl : L.length ≤ n + 1) (i : Nat) : (putv rl j L i).length ≤ n + 1 := by
  unfold putv
  split
  · exact hl
  · have := h i; omega
theorem AS.send_new (h : AS n p rl n1 n2) (hn : n ≤ 10000) (s : ByteArray) (hb : ((p.l true).send s).1 = 0) : AS (n + 1) { p with l := set p.l true ((p.l true).send s).2 } (putv rl 1 (rl 1 ++ [s])) n1 n2 := by
  have k := ai_send h.ai true s (by have := h.sent; show (p.sent false).length < _; omega) (by have := h.rows 1; show (rl 1).length < _; omega)
  refine h.of ?_ rfl (by have := h.sent; show (p.sent false).length ≤ _; omega) (rows_put h.rows 1 (by have := h.rows 1; rw [List.length_append, List.length_singleton]; omega)) h.first
  have e : (an p rl n1 n2).send true s = an { p with l := set p.l true ((p.l true).send s).2 } (putv rl 1 (rl 1 ++ [s])) n1 n2 := by
    unfold AN.send an
    simp [hb, putv]
  rw [← e]
  exact k
theorem AS.tick (h : AS n p rl n1 n2) (x : Bool) : AS (n + 1) (p.tk x) rl n1 n2 :=
  h.of (ai_tick h.ai x) rfl (by have := h.sent; show (p.sent false).length ≤ _; omega) (fun i => by have := h.rows i; omega) h.first
theorem outs_ok {l : LK} (h : l.ok) : ∀ f ∈ l.outs, f.ok := by
  intro f hf
  unfold FR.ok
  rcases mem_outs hf with rfl | ⟨_, k, hk, _, rfl⟩
  · show (0 : Nat) ≤ _; omega
  · show (l.wait.getD k ⟨#[]⟩).size ≤ _
    rw [List.getD_eq_getElem?_getD]
    cases e : l.wait[k]? with
    | none => show (0 : Nat) ≤ _; omega
    | some s =>
      have := h.small s (List.mem_of_getElem? e)
      show s.size ≤ _
      omega
theorem AS.put (h : AS n p rl n1 n2) (x : Bool) (hok : (p.l x).ok) : AS (n + 1) (p.pt x) rl n1 n2 := by
  refine ⟨ai_put h.ai x, fun y => @set_len Ep.a _ _ _ _ _ _ h.way ?_ (by omega) y, by have := h.sent; show (p.sent false).length ≤ _; omega, fun i => by have := h.rows i; omega, h.first, fun y f hf => ?_⟩
  · have := h.way (!x)
    have := outs_len (p.l x)
    rw [List.length_append]
    omega
  · have hf2 : f ∈ set p.way (!x) (p.way (!x) ++ (p.l x).outs) y := hf
    unfold set at hf2
    split at hf2
    · rcases List.mem_append.1 hf2 with e | e
      · exact h.oks _ f e
      · exact outs_ok hok f e
    · exact h.oks _ f hf2
theorem take_len (l : LK) (f : FR) : (l.take f).1.1.length ≤ 1 := by
  unfold LK.take
  split
  · exact Nat.zero_le _
  · dsimp only
    split
    · exact Nat.zero_le _
    · unfold LK.get
      split
      · exact Nat.le_refl _
      · split <;> exact Nat.zero_le _
/-- At the new one. -/
theorem AS.take_new (h : AS n p rl n1 n2) {f : FR} (hf : f ∈ p.way true) : AS (n + 1) { p with l := set p.l true ((p.l true).take f).2 } (putv rl 0 (rl 0 ++ ((p.l true).take f).1.1)) n1 n2 ∧ ((p.l true).take f).1.2 = false := by
  obtain ⟨k1, k2⟩ := ai_take_new (x := an p rl n1 n2) h.ai hf
  have k3 : ((p.l true).take f).1.2 = false := k2
  refine ⟨h.of ?_ rfl (by have := h.sent; show (p.sent false).length ≤ _; omega) (rows_put h.rows 0 (by have := h.rows 0; have := take_len (p.l true) f; rw [List.length_append]; omega)) h.first, k3⟩
  have e : (an p rl n1 n2).take true f = an { p with l := set p.l true ((p.l true).take f).2 } (putv rl 0 (rl 0 ++ ((p.l true).take f).1.1)) n1 n2 := by
    unfold AN.take an
    simp [k3, putv]
  rw [← e]
  exact k1
/-- At the first one. -/
theorem AS.take_first (h : AS n p rl n1 n2) {f : FR} (hf : f ∈ p.way false) : AS (n + 1) { p with l := set p.l false ((p.l false).take f).2 } (if f.epoch = 9 then putv rl 2 (rl 2 ++ ((p.l false).take f).1.1) else rl) (if ((p.l false).take f).1.2 = true then (p.sent false).length else n1) (if ((p.l false).take f).1.2 = true then n2 + 1 else n2) := by
  have k1 := ai_take_first (x := an p rl n1 n2) h.ai hf
  refine h.of ?_ rfl (by have := h.sent; show (p.sent false).length ≤ _; omega) ?_ ?_
  · have e : (an p rl n1 n2).take false f = an { p with l := set p.l false ((p.l false).take f).2 } (if f.epoch = 9 then putv rl 2 (rl 2 ++ ((p.l false).take f).1.1) else rl) (if ((p.l false).take f).1.2 = true then (p.sent false).length else n1) (if ((p.l false).take f).1.2 = true then n2 + 1 else n2) := by
      unfold AN.take an
      by_cases h9 : f.epoch = 9
      · simp [h9, putv]
      · simp [h9]
    rw [← e]
    exact k1
  · intro i
    split
    · exact rows_put h.rows 2 (by have := h.rows 2; have := take_len (p.l false) f; rw [List.length_append]; omega) i
    · have := h.rows i; omega
  · split
    · exact Nat.le_refl _
    · exact h.first
theorem AS.begin {q : PR} (h : @Inv Ep.a q) (hl : @Lz n q) (hr : ∀ i, rl i = []) : AS n { q with l := set q.l true (LK.new 9) } rl (q.sent false).length 0 := by
  refine ⟨?_, fun x => @Lz.way _ _ hl x, @Lz.sent _ _ hl false, fun i => by rw [hr i]; exact Nat.zero_le _, Nat.le_refl _, fun x f hf => ?_⟩
  · have := ai_begin h
    unfold an
    rw [hr 0, hr 1, hr 2]
    exact this
  · have hfok := @Inv.frames Ep.a q h x f hf
    have hfr : f.rightP := @FOK.right Ep.a q h x f hfok
    obtain ⟨_, _, _, _, _, _, _, _, h9, _⟩ := hfr
    unfold FR.ok
    omega
end
end Go.Proofs.Ythgfijmpofbchaa
