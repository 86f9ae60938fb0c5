/-
  The contract of strings.Clone at this dump, by the library's theorems.
-/
import Derived.Test.YtfoomgdlbkjaeaaGreatZPhi
import Derived.Test.YtfoomgdlbkjaeaaGreatZM0
import Derived.Test.YtfoomgdlbkjaeaaGreatRows
import Derived.Maps.OwnOps
import Derived.Maps.Ext
import Derived.WalkSmall
import Derived.Laws.StructEq
import Derived.Lib.QuietBelow
import Derived.BigQuiet
import Derived.Shelf.LaysM
import Derived.Shelf.Strconv.Clone
namespace Go.Proofs.YtfoomgdlbkjaeaaGreat
open Go Go.RowKit
section
variable {P : Program} {ops : Array Oper} {Q : Exit → Act → World → Prop}
theorem yielded_of {t : Array Value} {j dj : Nat} {b : Bool} (hj : ((ops.toList[j]?).bind (·.dst)) = some dj) (hs : t.getD dj undef = .bool b) : yielded ops t j = some b := by
  rw [Array.getElem?_toList] at hj
  unfold yielded
  rw [hj]
  simp only [Option.bind_some]
  rw [Array.getD_eq_getD_getElem?] at hs
  cases h : t[dj]? with
  | none => rw [h] at hs; simp [undef] at hs
  | some x => rw [h] at hs; simp only [Option.getD_some] at hs; subst hs; rfl
theorem yielded_off {t : Array Value} {j dj : Nat} {b : Bool} {v : Value} (hj : ((ops.toList[j]?).bind (·.dst)) = some dj) (hs : t.getD dj undef = v) (hv : v ≠ .bool b) : yielded ops t j ≠ some b := by
  rw [Array.getElem?_toList] at hj
  unfold yielded
  rw [hj]
  simp only [Option.bind_some]
  rw [Array.getD_eq_getD_getElem?] at hs
  intro e
  cases h : t[dj]? with
  | none => rw [h] at e; cases e
  | some x =>
    rw [h] at hs e
    simp only [Option.getD_some] at hs
    subst hs
    split at e
    · rename_i b' he
      injection he with he
      injection e with e
      subst e
      exact hv he
    · cases e
theorem wpOp_on {i j dj : Nat} {b : Bool} {o : Oper} {a : Act} {w : World} {K : Act → World → Prop} (ho : ops.toList[i]? = some o) (hg : o.guard = some (j, b)) (hj : ((ops.toList[j]?).bind (·.dst)) = some dj) (hs : a.tmps.getD dj undef = .bool b) (h : o.wp P a w K Q) : wpOp P ops Q i K a w := by
  rw [Array.getElem?_toList] at ho
  unfold wpOp
  rw [ho]
  have hw : Region.wanted o (yielded ops a.tmps) = true := by simp [Region.wanted, hg, yielded_of hj hs]
  simp only [hw, if_true]
  exact .inl h
theorem wpOp_off {i j dj : Nat} {b : Bool} {v : Value} {o : Oper} {a : Act} {w : World} {K : Act → World → Prop} (ho : ops.toList[i]? = some o) (hg : o.guard = some (j, b)) (hj : ((ops.toList[j]?).bind (·.dst)) = some dj) (hs : a.tmps.getD dj undef = v) (hv : v ≠ .bool b) (h : K (a.put o.dst undef) w) : wpOp P ops Q i K a w := by
  rw [Array.getElem?_toList] at ho
  unfold wpOp
  rw [ho]
  have hw : Region.wanted o (yielded ops a.tmps) = false := by simp [Region.wanted, hg, yielded_off hj hs hv]
  simp only [hw]
  exact h
end
end Go.Proofs.YtfoomgdlbkjaeaaGreat
namespace Go.Proofs.YtfoomgdlbkjaeaaGreat
open Go Go.RowKit
set_option linter.unusedSimpArgs false
section
variable {P : Program} {ops : Array Oper} {Q : Exit → Act → World → Prop}
def reachOn (ops : Array Oper) : Nat → Nat → Nat → Bool
  | 0, _, _ => false
  | f + 1, st, i => (ops[st]?.map fun o => o.after.toList.any fun e => Region.binds .any e && (e.on == i || reachOn ops f e.on i)).getD false
theorem reachOn_listed {listed : Array Bool} (hcl : ∀ (i : Nat) (o : Oper), ops[i]? = some o → listed.getD i false = true → ∀ e ∈ o.after, Region.binds .any e = true → listed.getD e.on false = true) : ∀ (f st i : Nat), reachOn ops f st i = true → listed.getD st false = true → listed.getD i false = true
  | 0, _, _, h, _ => by cases h
  | f + 1, st, i, h, hs => by
    unfold reachOn at h
    cases ho : ops[st]? with
    | none => rw [ho] at h; cases h
    | some o =>
      rw [ho] at h
      simp only [Option.map_some, Option.getD_some] at h
      obtain ⟨e, he, hx⟩ := List.any_eq_true.1 h
      rw [Bool.and_eq_true] at hx
      have h5 := hcl st o ho hs e (by rw [← Array.mem_toList_iff]; exact he) hx.1
      rcases Bool.or_eq_true _ _ ▸ hx.2 with h6 | h6
      · rw [beq_iff_eq] at h6
        rw [← h6]
        exact h5
      · exact reachOn_listed hcl f e.on i h6 h5
end
end Go.Proofs.YtfoomgdlbkjaeaaGreat
namespace Go.Proofs.YtfoomgdlbkjaeaaGreat
open Go Go.RowKit
set_option linter.unusedSimpArgs false
section
variable {P : Program} {ops : Array Oper} {Q : Exit → Act → World → Prop}/-- One more has come up. -/
def updL (l : Nat → Bool) (i : Nat) : Nat → Bool := fun k => if k = i then true else l k
theorem wpAny_staged {ns : Nat} {uses : Nat → List Nat} {a : Act} {w : World} (hok : phiOk ops ns = true) (hu : usesOk ops uses = true) (S : (Nat → Bool) → Act → World → Prop) (h0 : S (fun _ => false) a w)
    (H : Nat → (Nat → Value) → Prop) (hC : ∀ i s s', (∀ d ∈ uses i, s d = s' d) → H i s → H i s')
    (step : ∀ i o, ops.toList[i]? = some o → ∀ a' w' (l : Nat → Bool), l i = false → (∀ k, reachOn ops ops.size i k = true → l k = true) → (∀ k, reachOn ops ops.size k i = true → l k = false) → Same ops a a' → S l a' w' → (∀ k, (o.after.toList.any fun e => Region.binds .any e && e.on == k) = true → H k (slots a')) → wpOp P ops Q i (fun a'' w'' => ∃ v, a'' = a'.put o.dst v ∧ H i (slots a'') ∧ S (updL l i) (a'.put o.dst v) w'') a' w')
    (done : ∀ a' w' l, (∀ i, i < ops.size → l i = true) → Same ops a a' → S l a' w' → (∀ i, i < ops.size → H i (slots a')) → Q .normal a' w') : wpAny P .any ops Q ops.size (Array.replicate ops.size false) a w := by
  refine wpAny_inv (fun listed a' w' => listed.size = ops.size ∧ Same ops a a' ∧ S (fun k => listed.getD k false) a' w' ∧ (∀ i o, ops[i]? = some o → listed.getD i false = true → ∀ e ∈ o.after, Region.binds .any e = true → listed.getD e.on false = true) ∧ ∀ i o, ops[i]? = some o → listed.getD i false = true → H i (slots a')) ?_ ?_ _ _ _ _ (Nat.le_trans List.countP_le_length (by simp)) ⟨by simp, Same.refl _ _, by
      have e : (fun k => (Array.replicate ops.size false).getD k false) = fun _ => false := by
        funext k
        rw [Array.getD_eq_getD_getElem?]
        rcases Nat.lt_or_ge k ops.size with h | h
        · simp [h]
        · simp [Array.getElem?_eq_none (show (Array.replicate ops.size false).size ≤ k by simp; exact h)]
      rw [e]
      exact h0, fun i o ho hl => ?_, fun i o ho hl => ?_⟩
  · rintro listed a' w' i hi ⟨hz, hsa, hb, hcl, hh⟩
    obtain ⟨h1, o, ho, hdep⟩ := mem_ready.1 hi
    have hlt9 := (Array.getElem?_eq_some_iff.1 ho).1
    have hi0 : listed.getD i false = false := by simpa [Array.getD_eq_getD_getElem?, show i < listed.size by omega] using h1
    refine wpOp_mono ?_ (step i o (by rw [Array.getElem?_toList]; exact ho) a' w' (fun k => listed.getD k false) hi0 ?_ ?_ hsa hb fun k hk => ?_)
    · rintro a'' w'' ⟨v, rfl, hv, hr⟩
      refine ⟨by rw [Array.size_setIfInBounds]; exact hz, hsa.put ho, ?_, fun j oj hoj hl e he hbn => ?_, fun j oj hoj hl => ?_⟩
      · have e : (fun k => (listed.setIfInBounds i true).getD k false) = updL (fun k => listed.getD k false) i := by
          funext k
          unfold updL
          by_cases x : k = i
          · subst x
            simp [Array.getD_eq_getD_getElem?, show k < listed.size by omega]
          · rw [if_neg x, getD_set_ne false (fun y => x y.symm)]
        rw [e]
        exact hr
      · by_cases x : i = j
        · subst x
          rw [ho] at hoj
          obtain rfl := Option.some.inj hoj
          exact getD_set_true (hdep e he hbn)
        · rw [getD_set_ne false x] at hl
          exact getD_set_true (hcl j oj hoj hl e he hbn)
      · by_cases x : i = j
        · subst x
          exact hv
        · rw [getD_set_ne false x] at hl
          refine hC j (slots a') _ (fun d hd => ?_) (hh j oj hoj hl)
          cases hod : o.dst with
          | none => rfl
          | some d' =>
            by_cases y : d' = d
            · subst y
              exfalso
              rcases usesOk_spec hu hoj ho hd hod with z | ⟨e, he, hbn, hon⟩
              · exact x z
              · have h5 := hcl j oj hoj hl e he hbn
                rw [hon, hi0] at h5
                cases h5
            · unfold slots
              simp [Act.put, Array.getD_eq_getD_getElem?, Array.getElem?_setIfInBounds_ne y]
    · intro k hk
      obtain ⟨n, en⟩ : ∃ n, ops.size = n + 1 := ⟨ops.size - 1, by omega⟩
      rw [en] at hk
      unfold reachOn at hk
      rw [ho] at hk
      simp only [Option.map_some, Option.getD_some] at hk
      obtain ⟨e, he, hx⟩ := List.any_eq_true.1 hk
      rw [Bool.and_eq_true] at hx
      have h5 := hdep e (by rw [← Array.mem_toList_iff]; exact he) hx.1
      rcases Bool.or_eq_true _ _ ▸ hx.2 with h6 | h6
      · rw [beq_iff_eq] at h6
        rw [← h6]
        exact h5
      · exact reachOn_listed hcl n e.on k h6 h5
    · intro k hk
      show listed.getD k false = false
      cases hb9 : listed.getD k false with
      | false => rfl
      | true =>
        exfalso
        have h5 := reachOn_listed hcl _ k i hk hb9
        rw [hi0] at h5
        cases h5
    · obtain ⟨e, he, hx⟩ := List.any_eq_true.1 hk
      simp only [Bool.and_eq_true, beq_iff_eq] at hx
      obtain ⟨hbn, rfl⟩ := hx
      have he' : e ∈ o.after := by rw [← Array.mem_toList_iff]; exact he
      have hlt := (phiOk_spec hok).2.2 i o ho e he' hbn
      exact hh e.on _ (Array.getElem?_eq_getElem (show e.on < ops.size by omega)) (hdep e he' hbn)
  · rintro listed a' w' hr ⟨hz, hsa, hb, hcl, hh⟩
    have all : ∀ i o, ops[i]? = some o → listed.getD i false = true := by
      intro i
      induction i using Nat.strongRecOn with
      | _ i ih =>
        intro o ho
        cases hl : listed.getD i true with
        | false =>
          exfalso
          have : i ∈ Region.ready .any ops listed := mem_ready.2 ⟨hl, o, ho, fun e he hbn => by
            have hlt := (phiOk_spec hok).2.2 i o ho e he hbn
            have hi := (Array.getElem?_eq_some_iff.1 ho).1
            exact ih e.on hlt _ (Array.getElem?_eq_getElem (show e.on < ops.size by omega))⟩
          rw [hr] at this
          cases this
        | true =>
          rcases Nat.lt_or_ge i listed.size with h | h
          · simpa [Array.getD_eq_getD_getElem?, h] using hl
          · have hi := (Array.getElem?_eq_some_iff.1 ho).1
            omega
    exact done a' w' _ (fun i hi => all i _ (Array.getElem?_eq_getElem hi)) hsa hb fun i hi => hh i _ (Array.getElem?_eq_getElem hi) (all i _ (Array.getElem?_eq_getElem hi))
  all_goals
    have hi := (Array.getElem?_eq_some_iff.1 ho).1
    simp [Array.getD_eq_getD_getElem?, hi] at hl
end
end Go.Proofs.YtfoomgdlbkjaeaaGreat
namespace Go.Proofs.YtfoomgdlbkjaeaaGreat.Y
open Go.RowKit
structure Rec where
  off : Int
  prod : ByteArray
  seq : Int
  key : ByteArray
  val : ByteArray
def Rec.kl (r : Rec) : List UInt8 := r.key.data.toList
def laterF (k : List UInt8) (t : List Rec) : Bool := t.any fun x => x.kl == k
def goesF (upto : Int) (r : Rec) (t : List Rec) : Bool := (!r.kl.isEmpty && laterF r.kl t) && decide (r.off < upto)
def keepF (upto : Int) : List Rec → List Rec
  | [] => []
  | r :: t => if goesF upto r t = true then keepF upto t else r :: keepF upto t
theorem drop_at {α : Type} (l : List α) (i : Nat) (h : i < l.length) : l.drop i = l[i] :: l.drop (i + 1) := List.drop_eq_getElem_cons h
theorem keepF_go {upto : Int} {l : List Rec} {i : Nat} (h : i < l.length) (hg : goesF upto l[i] (l.drop (i + 1)) = true) : keepF upto (l.drop i) = keepF upto (l.drop (i + 1)) := by
  rw [drop_at l i h, keepF, if_pos hg]
theorem keepF_stay {upto : Int} {l : List Rec} {i : Nat} (h : i < l.length) (hg : goesF upto l[i] (l.drop (i + 1)) = false) : keepF upto (l.drop i) = l[i] :: keepF upto (l.drop (i + 1)) := by
  rw [drop_at l i h, keepF, if_neg (by rw [hg]; decide)]
theorem keepF_length (upto : Int) (l : List Rec) : (keepF upto l).length ≤ l.length := by
  induction l with
  | nil => exact Nat.le_refl _
  | cons r t ih =>
    rw [keepF]
    split
    · exact Nat.le_trans ih (Nat.le_succ _)
    · exact Nat.succ_le_succ ih
def lastIx (l : List Rec) (k : List UInt8) : Nat → Nat
  | 0 => 0
  | i + 1 => if (l[i]?).map Rec.kl = some k then i else lastIx l k i
theorem lastIx_gt (l : List Rec) (k : List UInt8) (i n : Nat) : i < lastIx l k n ↔ ∃ j, i < j ∧ j < n ∧ (l[j]?).map Rec.kl = some k := by
  induction n with
  | zero => simp [lastIx]
  | succ n ih =>
    rw [lastIx]
    split
    · rename_i h
      constructor
      · intro hi; exact ⟨n, hi, by omega, h⟩
      · rintro ⟨j, h1, h2, _⟩; omega
    · rename_i h
      rw [ih]
      constructor
      · rintro ⟨j, h1, h2, h3⟩; exact ⟨j, h1, by omega, h3⟩
      · rintro ⟨j, h1, h2, h3⟩
        by_cases e : j = n
        · subst e; exact absurd h3 h
        · exact ⟨j, h1, by omega, h3⟩
theorem lastIx_le (l : List Rec) (k : List UInt8) (n : Nat) : lastIx l k n ≤ n := by
  induction n with
  | zero => exact Nat.le_refl _
  | succ n ih => rw [lastIx]; split <;> omega
theorem laterF_iff (k : List UInt8) (l : List Rec) (i : Nat) : laterF k (l.drop i) = true ↔ ∃ j, i ≤ j ∧ j < l.length ∧ (l[j]?).map Rec.kl = some k := by
  unfold laterF
  rw [List.any_eq_true]
  constructor
  · rintro ⟨x, hx, hk⟩
    obtain ⟨j, hj, rfl⟩ := List.getElem_of_mem hx
    rw [List.length_drop] at hj
    refine ⟨i + j, by omega, by omega, ?_⟩
    rw [List.getElem_drop] at hk
    rw [List.getElem?_eq_getElem (by omega)]
    simpa using hk
  · rintro ⟨j, h1, h2, h3⟩
    rw [List.getElem?_eq_getElem h2] at h3
    refine ⟨l[j], ?_, by simpa using h3⟩
    rw [List.mem_iff_getElem]
    exact ⟨j - i, by rw [List.length_drop]; omega, by rw [List.getElem_drop]; congr 1; omega⟩
theorem laterF_last (l : List Rec) (k : List UInt8) (i : Nat) : laterF k (l.drop (i + 1)) = decide (i < lastIx l k l.length) := by
  rw [Bool.eq_iff_iff, decide_eq_true_iff, laterF_iff, lastIx_gt]
  rfl
end Go.Proofs.YtfoomgdlbkjaeaaGreat.Y
namespace Go.Proofs.YtfoomgdlbkjaeaaGreat.Y
open Go.RowKit Go.Maps
set_option maxHeartbeats 2000000
set_option maxRecDepth 100000
def Rec.v (r : Rec) : Value := .agg #[.int .i64 r.off, .string r.prod, .int .i64 r.seq, .string r.key, .string r.val]
def Rec.cells (r : Rec) : List Value := [.int .i64 r.off, .string r.prod, .int .i64 r.seq, .string r.key, .string r.val]
def Rec.ok (r : Rec) : Prop := -9223372036854775808 ≤ r.off ∧ r.off ≤ 9223372036854775807 ∧ -9223372036854775808 ≤ r.seq ∧ r.seq ≤ 9223372036854775807 ∧ r.prod.size ≤ 281474976710656 ∧ r.key.size ≤ 281474976710656 ∧ r.val.size ≤ 281474976710656
def recCells (l : List Rec) : List Value := l.flatMap Rec.cells
theorem recCells_snoc (l : List Rec) (r : Rec) : recCells (l ++ [r]) = recCells l ++ [.int .i64 r.off, .string r.prod, .int .i64 r.seq, .string r.key, .string r.val] := by simp [recCells, Rec.cells]
theorem recCells_get (l : List Rec) (i j : Nat) (hi : i < l.length) (hj : j < 5) : (recCells l)[i * 5 + j]? = (l[i].cells)[j]? := by
  induction l generalizing i with
  | nil => simp at hi
  | cons x l ih =>
    have e : recCells (x :: l) = x.cells ++ recCells l := by simp [recCells]
    have h3 : x.cells.length = 5 := rfl
    rw [e]
    cases i with
    | zero => rw [List.getElem?_append_left (by omega)]; simp
    | succ i =>
      rw [List.getElem?_append_right (by omega), h3]
      have := ih i (by simpa using hi)
      rw [show (i + 1) * 5 + j - 5 = i * 5 + j by omega, this]
      simp
def RecsAt (w : World) (v : Value) (l : List Rec) : Prop := ∃ ao cap, v = .slice ao l.length cap ∧ (cap : Int) ≤ 9223372036854775807 ∧ ∀ i (h : i < l.length), ∃ b off, ao = some ⟨b, off, none⟩ ∧ b < w.heap.size ∧ ∀ j, j < 5 → w.cell? ⟨b, off + i * 5 + j, none⟩ = l[i].cells[j]?
theorem recs_of_own {w : World} {B : Nat} {v : Value} {l : List Rec} (h : w.ownsRow B 39 5 v l.length (recCells l)) : RecsAt w v l := by
  rcases h.2 with ⟨h1, h2⟩ | ⟨g, cap, cur, hv, hg, hh, hn, hc, hs, ht⟩
  · exact ⟨none, 0, by rw [h1, h2], by omega, fun i hi => by omega⟩
  · refine ⟨some ⟨g, 0, none⟩, cap, hv, ?_, fun i hi => ⟨g, 0, rfl, (Array.getElem?_eq_some_iff.1 hh).1, ?_⟩⟩
    · unfold maxLen at hc
      omega
    · intro j hj
      rw [Lib.cell_of_heap hh, ← recCells_get l i j hi hj, ← ht, List.getElem?_take, if_pos (by omega)]
      simp
theorem RecsAt.below {w w' : World} {v : Value} {l : List Rec} (h : RecsAt w v l) (hb : Below w.heap.size w w') : RecsAt w' v l := by
  obtain ⟨ao, cap, hv, hc, ha⟩ := h
  refine ⟨ao, cap, hv, hc, fun i hi => ?_⟩
  obtain ⟨b, off, h1, h2, h3⟩ := ha i hi
  exact ⟨b, off, h1, by have := hb.size; omega, fun j hj => (hb.cell (p := ⟨b, off + i * 5 + j, none⟩) h2).trans (h3 j hj)⟩
theorem RecsAt.five {w : World} {ao : Option Addr} {n cap : Nat} {l : List Rec} (h : RecsAt w (.slice ao n cap) l) (i : Nat) (hi : i < l.length) : n = l.length ∧ ∃ b off, ao = some ⟨b, off, none⟩ ∧ b < w.heap.size ∧ w.cell? ⟨b, off + i * 5, none⟩ = some (.int .i64 l[i].off) ∧ w.cell? ⟨b, off + i * 5 + 1, none⟩ = some (.string l[i].prod) ∧ w.cell? ⟨b, off + i * 5 + 2, none⟩ = some (.int .i64 l[i].seq) ∧ w.cell? ⟨b, off + i * 5 + 3, none⟩ = some (.string l[i].key) ∧ w.cell? ⟨b, off + i * 5 + 4, none⟩ = some (.string l[i].val) := by
  obtain ⟨a, c, hv, _, ha⟩ := h
  injection hv with h1 h2 h3
  subst h1
  obtain ⟨b, off, e, hb, hc⟩ := ha i hi
  exact ⟨h2, b, off, e, hb, hc 0 (by omega), hc 1 (by omega), hc 2 (by omega), hc 3 (by omega), hc 4 (by omega)⟩
theorem keyedS : Keyed Tryz.prog 9 := string_keyed Tryz.underlying9
theorem zeroInt (w : World) : (zeroValue 3).run Tryz.prog w = .ok (.int .i64 0) w := by kernel_rfl
def Lasts (l : List Rec) (n : Nat) (D : DataW Nat) : Prop := IsMap D ∧ ∀ k, D.atKey (.string k) (.lit (.int .i64 0)) = .lit (.int .i64 (lastIx l k n))
theorem keyLit (k : List UInt8) : WideAt.IsKeyLit (.string k) := by simp [WideAt.IsKeyLit]
theorem Lasts.zero (l : List Rec) : Lasts l 0 (.map []) := ⟨by simp [IsMap], fun k => rfl⟩
theorem Lasts.step {l : List Rec} {n : Nat} {D : DataW Nat} (h : Lasts l n D) (hn : n < l.length) : Lasts l (n + 1) (D.put (.string l[n].key.data.toList) (.lit (.int .i64 n))) := by
  refine ⟨h.1.put _ _, fun k => ?_⟩
  rw [lastIx, List.getElem?_eq_getElem hn]
  by_cases e : l[n].kl = k
  · subst e
    rw [if_pos (by simp)]
    exact atKey_put_same h.1 (keyLit _) _ _
  · rw [if_neg (by simpa using e), atKey_put_other (fun x => e (by injection x with x; exact x.symm))]
    exact h.2 k
theorem lastPlaces_any (l : List Rec) (v : Value) (w : World) (hat : RecsAt w v l) (hok : ∀ r ∈ l, r.ok) (hl : l.length ≤ 1048576) :
    Calls Tryz.prog 62 #[v] w fun e w' => ∃ mb n D, e = .returned (.map (some mb)) ∧ w.heap.size ≤ mb ∧ w'.ownsMap Tryz.prog 9 (plainElem Tryz.prog 3) mb n D ∧ Lasts l l.length D ∧ Below w.heap.size w w' := by
  obtain ⟨ao, ac, rfl, _, _⟩ := id hat
  have HA := hide hat
  have HOK := hide hok
  clear hat hok
  have hmm := @run_makeMap Tryz.prog
  go_enter Tryz.func62, Tryz.ntmps62
  go_wp2
  go_loopw [9] (fun iv wv => ∃ (k : Nat) (D : DataW Nat), k ≤ l.length ∧ iv = .int .i64 k ∧ Hid (wv.ownsMap Tryz.prog 9 (plainElem Tryz.prog 3) w.heap.size k D) ∧ Hid (Lasts l k D) ∧ Hid (Below w.heap.size w wv)) (fun iv _ => l.length - (intOf iv).toNat)
  case atStart => exact ⟨0, .map [], Nat.zero_le _, rfl, World.ownsMap_made _ _ _ _, Lasts.zero l, (Below.refl _ _).alloc (Nat.le_refl _) _⟩
  case round =>
    obtain ⟨k, D, hk, rfl, OM, LS, BV⟩ := hrel
    by_cases hlt : k < l.length
    · obtain ⟨_, b, off, rfl, hb, a0, a1, a2, a3, a4⟩ := (HA.out.below BV.out).five k hlt
      have hok := HOK.out _ (List.getElem_mem hlt)
      have HS := hide (LS.out.step hlt)
      have hi0 : (0 : Int) ≤ (k : Int) := by omega
      have hi1 : (k : Int) < (l.length : Int) := by omega
      generalize l[k] = x at *
      obtain ⟨xo, xp, xs, xk, xv⟩ := x
      simp only at a0 a1 a2 a3 a4
      have HK := hide (Go.WideMaps.keyOf_string_mk Tryz.underlying9 (s := xk) (by obtain ⟨_, _, _, _, _, h, _⟩ := hok; simp only at h; unfold maxLen; omega))
      have HV := hide (plainElem_int (H := Nat) (P := Tryz.prog) (e := 3) (q := .i64) Tryz.underlying3 (a := (k : Int)) (by simp [Lit.wf, IntKind.min, IntKind.max, IntKind.bits, IntKind.signed]; omega))
      have OM2 := hide (OM.out.alloc (.cells #[.int .i64 xo, .string xp, .int .i64 xs, .string xk, .string xv] 39))
      have BV2 := hide (BV.out.alloc BV.out.size (.cells #[.int .i64 xo, .string xp, .int .i64 xs, .string xk, .string xv] 39))
      go_wp2_with (at_mapUpdate; refine wpList_mapUpdate_own _ rfl _ _ _ 104 rfl 9 3 keyedS Tryz.underlying104 _ w.heap.size k D rfl OM2.out (by unfold maxLen; omega) _ _ _ rfl rfl HK.out _ [] HV.out ?_; intro w1 h1 h2)
      refine ⟨⟨k + 1, _, by omega, by go_num, h1, HS.out, ?_⟩, by simp [intOf]; omega⟩
      exact BV2.out.grown h2 BV2.out.size (fun j hj => by injection hj with hj; omega)
    · have hi1 : ¬ (k : Int) < (l.length : Int) := by omega
      have e : k = l.length := by omega
      have LS2 := hide (e ▸ LS.out)
      clear e
      go_wp2
      go_ret
      exact ⟨_, rfl, Nat.le_refl _, _, D, OM.out, LS2.out, BV.out⟩
end Go.Proofs.YtfoomgdlbkjaeaaGreat.Y
namespace Go.Proofs.YtfoomgdlbkjaeaaGreat.Y
open Go.RowKit Go.Maps
set_option maxHeartbeats 2000000
set_option maxRecDepth 100000
theorem key_empty (r : Rec) (h : r.key.data.toList = []) : r.key = ⟨#[]⟩ := by
  obtain ⟨o, p, s, ⟨⟨k⟩⟩, v⟩ := r
  simp only at h
  subst h
  rfl
theorem goes_any (upto : Int) (l : List Rec) (i : Nat) (hi : i < l.length) (hok : l[i].ok) (mb n : Nat) (D : DataW Nat) (hD : Lasts l l.length D) (w : World) (hown : w.ownsMap Tryz.prog 9 (plainElem Tryz.prog 3) mb n D) :
    Calls Tryz.prog 63 #[l[i].v, .int .i64 i, .map (some mb), .int .i64 upto] w fun e w' => e = .returned (.bool (goesF upto l[i] (l.drop (i + 1)))) ∧ Below w.heap.size w w' := by
  have hlast := laterF_last l l[i].kl i
  have hat := hD.2 l[i].kl
  have hli := lastIx_le l l[i].kl l.length
  unfold goesF
  rw [hlast]
  generalize lastIx l l[i].kl l.length = c at *
  clear hlast hD
  generalize l[i] = x at *
  have HO := hide (hown.alloc (.cells #[.int .i64 x.off, .string x.prod, .int .i64 x.seq, .string x.key, .string x.val] 39))
  have HB := hide ((Below.refl w.heap.size w).alloc (Nat.le_refl _) (.cells #[.int .i64 x.off, .string x.prod, .int .i64 x.seq, .string x.key, .string x.val] 39))
  obtain ⟨xo, xp, xs, xk, xv⟩ := x
  simp only [Rec.v, Rec.kl] at *
  clear hown
  by_cases hk : xk.data.toList = []
  · have hk2 := key_empty ⟨xo, xp, xs, xk, xv⟩ hk
    simp only at hk2
    subst hk2
    simp
    go_enter Tryz.func63, Tryz.ntmps63
    go_wp2
    go_ret
    exact ⟨rfl, HB.out⟩
  · have hke : xk.toList.isEmpty = false := by rw [ByteArray.toList_eq]; simpa using hk
    obtain ⟨c', hlk, hc', _⟩ := HO.out.lookup_int keyedS Tryz.underlying104 Tryz.underlying3 (zeroInt _) (Go.WideMaps.keyOf_string_mk Tryz.underlying9 (s := xk) (by obtain ⟨_, _, _, _, _, h, _⟩ := hok; simp only at h; unfold maxLen; omega))
    have e : (c : Int) = c' := by rw [hat] at hc'; injection hc' with hc'; injection hc'
    subst e
    have e1 : xk.data.toList.isEmpty = false := by simpa using hk
    rw [e1]
    simp only [Bool.not_false, Bool.true_and]
    clear hc' hat e1 hk
    by_cases h1 : i < c
    · have h1' : (i : Int) < (c : Int) := by omega
      have e2 : decide (i < c) = true := decide_eq_true h1
      rw [e2]
      simp only [Bool.true_and]
      clear e2 h1
      by_cases h2 : xo < upto
      · have e3 : decide (xo < upto) = true := decide_eq_true h2
        rw [e3]
        go_enter Tryz.func63, Tryz.ntmps63
        go_wp2
        go_ret
        exact ⟨rfl, HB.out⟩
      · have e3 : decide (xo < upto) = false := decide_eq_false h2
        rw [e3]
        go_enter Tryz.func63, Tryz.ntmps63
        go_wp2
        go_ret
        exact ⟨rfl, HB.out⟩
    · have h1' : ¬ (i : Int) < (c : Int) := by omega
      have e2 : decide (i < c) = false := decide_eq_false h1
      rw [e2]
      simp only [Bool.false_and]
      clear e2 h1
      go_enter Tryz.func63, Tryz.ntmps63
      go_wp2
      go_ret
      exact ⟨rfl, HB.out⟩
end Go.Proofs.YtfoomgdlbkjaeaaGreat.Y
namespace Go.Proofs.YtfoomgdlbkjaeaaGreat.Y
open Go.RowKit Go.Maps
set_option maxRecDepth 100000
end Go.Proofs.YtfoomgdlbkjaeaaGreat.Y
namespace Go.Proofs.YtfoomgdlbkjaeaaGreat.Y
open Go.RowKit Go.Maps
set_option maxRecDepth 100000
theorem Tryz.infoRec : Tryz.prog.info? 39 = some Tryz.t39 := by kernel_rfl
theorem Tryz.zeroRec : Tryz.t39.zero = some (.agg #[.int .i64 0, .string ⟨#[]⟩, .int .i64 0, .string ⟨#[]⟩, .string ⟨#[]⟩]) := by kernel_rfl
theorem Tryz.sizeRec : Tryz.t39.size = 5 := by kernel_rfl
theorem Tryz.bytesRec : Tryz.t39.bytes = 64 := by kernel_rfl
theorem rec_ones (a c : Int) (b d e : ByteArray) : ∀ u ∈ [Value.int .i64 a, .string b, .int .i64 c, .string d, .string e], u.oneCell' = true := by
  intro u hu
  simp at hu
  rcases hu with rfl | rfl | rfl | rfl | rfl <;> rfl
theorem nil_own (w : World) (B : Nat) (e : TypeId) (z : Nat) : w.ownsRow B e z (.slice none 0 0) 0 [] := ⟨by simp, .inl ⟨rfl, rfl⟩⟩
theorem own_below {w w' : World} {B e z : Nat} {v : Value} {n : Nat} {xs : List Value} (h : w.ownsRow B e z v n xs) (hb : Below w.heap.size w w') : w'.ownsRow B e z v n xs := below_row hb h
def intCells (l : List Int) : List Value := l.map (Value.int .i64)
theorem intCells_snoc (l : List Int) (x : Int) : intCells (l ++ [x]) = intCells l ++ [.int .i64 x] := by simp [intCells]
end Go.Proofs.YtfoomgdlbkjaeaaGreat.Y
namespace Go.Proofs.YtfoomgdlbkjaeaaGreat.Y
open Go.Shelf Go.RowKit
def shren : Go.Shelf.Ren := ⟨fun | 316 => 55 | n => n, fun | 0 => 0 | 3 => 3 | 4 => 4 | 5 => 5 | 9 => 9 | 37 => 111 | 127 => 128 | n => n, fun | n => n⟩
theorem sh316 : Go.Proofs.LaysM.n316 Tryz.prog shren := {
  mixed := by kernel_rfl
  f316 := Tryz.func55.trans (congrArg some (by kernel_rfl))
  t0 := Tryz.underlying0
  a0 := Tryz.isAgg0
  z0 := Tryz.sizeOf0
  v0 := Tryz.zeroValue0
  t3 := Tryz.underlying3
  a3 := Tryz.isAgg3
  z3 := Tryz.sizeOf3
  v3 := Tryz.zeroValue3
  t4 := Tryz.underlying4
  a4 := Tryz.isAgg4
  z4 := Tryz.sizeOf4
  v4 := Tryz.zeroValue4
  t9 := Tryz.underlying9
  a9 := Tryz.isAgg9
  z9 := Tryz.sizeOf9
  v9 := Tryz.zeroValue9
  t37 := Tryz.underlying111
  a37 := Tryz.isAgg111
  z37 := Tryz.sizeOf111
  v37 := Tryz.zeroValue111
  t127 := Tryz.underlying128
  a127 := Tryz.isAgg128
  z127 := Tryz.sizeOf128
  v127 := Tryz.zeroValue128
  t5 := Tryz.underlying5
  a5 := Tryz.isAgg5
  z5 := Tryz.sizeOf5
  v5 := Tryz.zeroValue5
  i0 := by kernel_rfl
  i3 := by kernel_rfl
  i4 := by kernel_rfl
  i5 := by kernel_rfl
  i9 := by kernel_rfl
  i37 := by kernel_rfl
  i127 := by kernel_rfl }
theorem liteClone (s : ByteArray) (w : World) (hlim : s.size ≤ 281474976710656) :
    Calls Tryz.prog 55 #[.string s] w fun e w' => e = .returned (.string s) ∧ Below w.heap.size w w' := Any.stringslite_Clone sh316 s w hlim
theorem clone_any (s : ByteArray) (w : World) (hs : s.size ≤ 281474976710656) :
    Calls Tryz.prog 27 #[.string s] w fun e w' => e = .returned (.string s) ∧ Below w.heap.size w w' := by
  go_enter Tryz.func27, Tryz.ntmps27
  go_wp2_with (go_at_call 55; refine (liteClone _ _ hs).mono ?_; rintro e w' ⟨rfl, hb⟩)
  go_ret
  exact ⟨rfl, hb⟩
end Go.Proofs.YtfoomgdlbkjaeaaGreat.Y
