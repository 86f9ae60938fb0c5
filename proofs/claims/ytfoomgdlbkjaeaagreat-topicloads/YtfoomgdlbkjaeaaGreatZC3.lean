/-
  The table of what each kind needs (mkc3.py)
-/
import Derived.Test.YtfoomgdlbkjaeaaGreatZQ1
import Derived.Test.YtfoomgdlbkjaeaaGreatZAF
import Derived.Test.YtfoomgdlbkjaeaaGreatZM0
import Derived.Test.YtfoomgdlbkjaeaaGreatProg
import Derived.Laws.EntriesVeiled
import Derived.Deep.WholeRow
import Derived.Laws.ResultCell
namespace Go.Proofs.YtfoomgdlbkjaeaaGreat.Y
open Go.RowKit Go.Maps
set_option maxHeartbeats 4000000
set_option maxRecDepth 100000
def Rises (l : List Rec) : Prop := l.Pairwise fun a b => a.off < b.off
def placeF (l : List Rec) (off : Int) : Nat := l.countP fun r => decide (r.off < off)
theorem placeF_le (l : List Rec) (off : Int) : placeF l off ≤ l.length := List.countP_le_length
theorem Rises.lt {l : List Rec} (h : Rises l) {i j : Nat} (hij : i < j) (hj : j < l.length) : (l[i]'(by omega)).off < l[j].off := List.pairwise_iff_getElem.1 h i j (by omega) hj hij
theorem place_boundary {off : Int} : ∀ (l : List Rec) (i : Nat), i ≤ l.length → (∀ t (h : t < l.length), t < i → l[t].off < off) → (∀ t (h : t < l.length), i ≤ t → ¬ l[t].off < off) → placeF l off = i
  | [], i, hi, _, _ => by simp at hi; subst hi; rfl
  | a :: r, 0, _, _, h2 => by
    unfold placeF
    rw [List.countP_eq_zero]
    intro x hx
    obtain ⟨t, ht, rfl⟩ := List.getElem_of_mem hx
    simpa using h2 t ht (Nat.zero_le _)
  | a :: r, i + 1, hi, h1, h2 => by
    have ha : a.off < off := h1 0 (by simp) (by omega)
    have ih := place_boundary (off := off) r i (by simpa using hi) (fun t ht hti => h1 (t + 1) (by simpa using ht) (by omega)) (fun t ht hti => h2 (t + 1) (by simpa using ht) (by omega))
    unfold placeF at ih ⊢
    rw [List.countP_cons_of_pos (by simpa using ha), ih]
theorem place_lt {l : List Rec} (hr : Rises l) {off : Int} : ∀ t (h : t < l.length), t < placeF l off ↔ l[t].off < off := by
  -- the boundary: the first that is not below
  have hex : ∃ i, i ≤ l.length ∧ (∀ t (h : t < l.length), t < i → l[t].off < off) ∧ (∀ t (h : t < l.length), i ≤ t → ¬ l[t].off < off) := by
    induction l with
    | nil => exact ⟨0, Nat.le_refl _, fun t h => by simp at h, fun t h => by simp at h⟩
    | cons a r ih =>
      obtain ⟨ha, hr2⟩ := List.pairwise_cons.1 hr
      by_cases h : a.off < off
      · obtain ⟨i, h1, h2, h3⟩ := ih hr2
        refine ⟨i + 1, by simpa using h1, fun t ht hti => ?_, fun t ht hti => ?_⟩
        · cases t with
          | zero => exact h
          | succ t => exact h2 t (by simpa using ht) (by omega)
        · cases t with
          | zero => omega
          | succ t => exact h3 t (by simpa using ht) (by omega)
      · refine ⟨0, Nat.zero_le _, fun t ht hti => by omega, fun t ht _ => ?_⟩
        cases t with
        | zero => exact h
        | succ t =>
          have := ha (r[t]'(by simpa using ht)) (List.getElem_mem _)
          simp only [List.getElem_cons_succ]
          omega
  obtain ⟨i, h1, h2, h3⟩ := hex
  have e := place_boundary l i h1 h2 h3
  intro t ht
  rw [e]
  constructor
  · exact h2 t ht
  · intro h
    apply Classical.byContradiction
    intro hn
    exact h3 t ht (by omega) h
def cmpI (a b : Int) : Int := if a < b then -1 else if b < a then 1 else 0
theorem cmpI_neg (a b : Int) : (cmpI a b < 0) ↔ a < b := by
  unfold cmpI
  by_cases h1 : a < b
  · simp [h1]
  · by_cases h2 : b < a
    · simp [h1, h2]
    · simp [h1, h2]
theorem nan_any (a : Int) (w : World) : Calls Tryz.prog 84 #[.int .i64 a] w fun e w' => e = .returned (.bool false) ∧ w' = w := by
  go_enter Tryz.func84, Tryz.ntmps84
  go_wp2
  go_ret
  exact ⟨rfl, rfl⟩
theorem cmp_any (a b : Int) (w : World) : Calls Tryz.prog 61 #[.int .i64 a, .int .i64 b] w fun e w' => e = .returned (.int .i64 (cmpI a b)) ∧ w' = w := by
  have HN := hide nan_any
  by_cases h1 : a < b
  · have h3 : cmpI a b = -1 := if_pos h1
    rw [h3]
    clear h3
    go_enter Tryz.func61, Tryz.ntmps61
    go_wp2_with (go_at_call 84; refine (HN.out _ _).mono ?_; rintro e w' ⟨rfl, rfl⟩)
    go_ret
    exact ⟨rfl, rfl⟩
  · by_cases h2 : b < a
    · have h3 : cmpI a b = 1 := by unfold cmpI; rw [if_neg h1, if_pos h2]
      rw [h3]
      clear h3
      go_enter Tryz.func61, Tryz.ntmps61
      go_wp2_with (go_at_call 84; refine (HN.out _ _).mono ?_; rintro e w' ⟨rfl, rfl⟩)
      go_ret
      exact ⟨rfl, rfl⟩
    · have h3 : cmpI a b = 0 := by unfold cmpI; rw [if_neg h1, if_neg h2]
      rw [h3]
      clear h3
      go_enter Tryz.func61, Tryz.ntmps61
      go_wp2_with (go_at_call 84; refine (HN.out _ _).mono ?_; rintro e w' ⟨rfl, rfl⟩)
      go_ret
      exact ⟨rfl, rfl⟩
theorem clo_any (r : Rec) (off : Int) (w : World) : Calls Tryz.prog 60 #[r.v, .int .i64 off] w fun e w' => e = .returned (.int .i64 (cmpI r.off off)) ∧ Below w.heap.size w w' := by
  obtain ⟨xo, xp, xs, xk, xv⟩ := r
  simp only [Rec.v]
  have HC := hide (cmp_any xo off)
  have HB := hide ((Below.refl w.heap.size w).alloc (Nat.le_refl _) (.cells #[.int .i64 xo, .string xp, .int .i64 xs, .string xk, .string xv] 39))
  generalize cmpI xo off = c at *
  go_enter Tryz.func60, Tryz.ntmps60
  go_wp2_with (go_at_call 61; refine (HC.out _).mono ?_; rintro e w' ⟨rfl, rfl⟩)
  go_ret
  exact ⟨rfl, HB.out⟩
theorem bsearch (l : List Rec) (hr : Rises l) (off : Int) (v : Value) (w : World) (hat : RecsAt w v l) (hl : l.length ≤ 1048576) :
    Calls Tryz.prog 59 #[v, .int .i64 off, .func (.func 60) #[] #[]] w fun e w' => ∃ b, e = .returned (.tuple #[.int .i64 (placeF l off), .bool b]) ∧ Below w.heap.size w w' := by
  obtain ⟨ao, ac, rfl, _, _⟩ := id hat
  have HA := hide hat
  have HR := hide hr
  clear hat hr
  generalize hp : placeF l off = pl
  have HP := hide hp
  clear hp
  go_enter Tryz.func59, Tryz.ntmps59
  go_wp2
  go_loopg [9, 10] l.length (fun kx s9 s10 wr => ∃ lo hi : Nat, s9 = .int .i64 lo ∧ s10 = .int .i64 hi ∧ lo ≤ hi ∧ hi ≤ l.length ∧ hi - lo ≤ kx ∧ Hid (Below w.heap.size w wr) ∧ Hid (lo ≤ placeF l off ∧ placeF l off ≤ hi))
  case atStart => exact ⟨0, l.length, rfl, rfl, Nat.zero_le _, Nat.le_refl _, by omega, Below.refl _ _, ⟨Nat.zero_le _, placeF_le _ _⟩⟩
  case round =>
    obtain ⟨lo, hi, rfl, rfl, hlh, hin, hg, BV, HI⟩ := hrel
    by_cases hlt : lo < hi
    · have hm : (lo + hi) / 2 < l.length := by omega
      have HPL := hide (place_lt HR.out (off := off) ((lo + hi) / 2) hm)
      obtain ⟨_, b, of, rfl, hb, a0, a1, a2, a3, a4⟩ := (HA.out.below BV.out).five ((lo + hi) / 2) hm
      have HC := hide (clo_any l[(lo + hi) / 2] off)
      have HS := hide (cmpI_neg l[(lo + hi) / 2].off off)
      generalize l[(lo + hi) / 2] = x at *
      obtain ⟨xo, xp, xs, xk, xv⟩ := x
      simp only [Rec.v] at a0 a1 a2 a3 a4 HPL HC HS
      generalize cmpI xo off = c at *
      by_cases hyx : c < 0
      · have h5 := HPL.out.2 (HS.out.1 hyx)
        have I2 : Hid ((lo + hi) / 2 + 1 ≤ placeF l off ∧ placeF l off ≤ hi) := ⟨h5, HI.out.2⟩
        clear h5
        go_wp2_with (go_at_call 60; refine (HC.out _).mono ?_; rintro e w' ⟨rfl, b2⟩)
        go_roundg (hi - ((lo + hi) / 2 + 1))
        case measure => omega
        case rel => exact ⟨(lo + hi) / 2 + 1, hi, by rw [show ((lo : Int) + (hi : Int)) / 2 + 1 = (((lo + hi) / 2 + 1 : Nat) : Int) by omega], rfl, by omega, hin, Nat.le_refl _, BV.out.trans (b2.mono BV.out.size), I2⟩
      · have h5 : ¬ (lo + hi) / 2 < placeF l off := fun h => hyx (HS.out.2 (HPL.out.1 h))
        have I2 : Hid (lo ≤ placeF l off ∧ placeF l off ≤ (lo + hi) / 2) := ⟨HI.out.1, by omega⟩
        clear h5
        go_wp2_with (go_at_call 60; refine (HC.out _).mono ?_; rintro e w' ⟨rfl, b2⟩)
        go_roundg ((lo + hi) / 2 - lo)
        case measure => omega
        case rel => exact ⟨lo, (lo + hi) / 2, rfl, by rw [show ((lo : Int) + (hi : Int)) / 2 = (((lo + hi) / 2 : Nat) : Int) by omega], by omega, by omega, Nat.le_refl _, BV.out.trans (b2.mono BV.out.size), I2⟩
    · obtain rfl : hi = lo := by omega
      have e : pl = hi := by have := HI.out; rw [HP.out] at this; omega
      subst e
      clear HI HP
      by_cases hn : pl < l.length
      · obtain ⟨_, b, of, rfl, hb, a0, a1, a2, a3, a4⟩ := (HA.out.below BV.out).five pl hn
        have HC := hide (clo_any l[pl] off)
        generalize l[pl] = x at *
        obtain ⟨xo, xp, xs, xk, xv⟩ := x
        simp only [Rec.v] at a0 a1 a2 a3 a4 HC
        generalize cmpI xo off = c at *
        go_wp2_with (go_at_call 60; refine (HC.out _).mono ?_; rintro e w' ⟨rfl, b2⟩)
        go_ret2
        exact ⟨_, rfl, BV.out.trans (b2.mono BV.out.size)⟩
      · go_wp2
        go_ret2
        exact ⟨_, rfl, BV.out⟩
end Go.Proofs.YtfoomgdlbkjaeaaGreat.Y
namespace Go.Proofs.YtfoomgdlbkjaeaaGreat.Y
open Go.RowKit Go.Maps
set_option maxHeartbeats 4000000
set_option maxRecDepth 100000
theorem town_any (r : Rec) (hr : r.ok) (w : World) :
    Calls Tryz.prog 31 #[r.v] w fun e w' => e = .returned r.v ∧ Below w.heap.size w w' := by
  have HC1 := hide (fun W => clone_any r.prod W hr.2.2.2.2.1)
  have HC3 := hide (fun W => clone_any r.key W hr.2.2.2.2.2.1)
  have HC4 := hide (fun W => clone_any r.val W hr.2.2.2.2.2.2)
  have K1 : Hid (Own w r ((w.alloc (.cells #[.int .i64 r.off, .string r.prod, .int .i64 r.seq, .string r.key, .string r.val] 39)).alloc (.cells #[.int .i64 0, .string ⟨#[]⟩, .int .i64 0, .string ⟨#[]⟩, .string ⟨#[]⟩] 39))) := by
    refine ⟨((Below.refl _ _).alloc (Nat.le_refl _) _).alloc (by simp) _, ?_, ?_⟩
    · exact box_alloc (heap_alloc_new w _) _
    · have := heap_alloc_new (w.alloc (.cells #[.int .i64 r.off, .string r.prod, .int .i64 r.seq, .string r.key, .string r.val] 39)) (.cells #[.int .i64 0, .string ⟨#[]⟩, .int .i64 0, .string ⟨#[]⟩, .string ⟨#[]⟩] 39)
      simpa using this
  obtain ⟨xo, xp, xs, xk, xv⟩ := r
  simp only [Rec.v] at *
  clear hr
  go_enter Tryz.func31, Tryz.ntmps31
  go_wp2_with fail
  generalize (w.alloc (.cells #[.int .i64 xo, .string xp, .int .i64 xs, .string xk, .string xv] 39)).alloc (.cells #[.int .i64 0, .string ⟨#[]⟩, .int .i64 0, .string ⟨#[]⟩, .string ⟨#[]⟩] 39) = w1 at *
  have HX : Hid (∀ {W : World}, Own w ⟨xo, xp, xs, xk, xv⟩ W → W.cell? ⟨w.heap.size, 1, none⟩ = some (.string xp) ∧ W.cell? ⟨w.heap.size, 3, none⟩ = some (.string xk) ∧ W.cell? ⟨w.heap.size, 4, none⟩ = some (.string xv) ∧ W.frozen? ⟨w.heap.size, 1, none⟩ = false ∧ W.frozen? ⟨w.heap.size, 3, none⟩ = false ∧ W.frozen? ⟨w.heap.size, 4, none⟩ = false) := fun h => ⟨h.cells.1, h.cells.2.1, h.cells.2.2, h.free 1, h.free 3, h.free 4⟩
  obtain ⟨c1, c3, c4, f1, f3, f4⟩ := HX.out K1.out
  go_region_held (fun w' => Own w ⟨xo, xp, xs, xk, xv⟩ w' ∧ w'.cell? ⟨w.heap.size, 1, none⟩ = some (.string xp) ∧ w'.cell? ⟨w.heap.size, 3, none⟩ = some (.string xk) ∧ w'.cell? ⟨w.heap.size, 4, none⟩ = some (.string xv))
    (first | exact ⟨K1.out.drew, K1.out.drew.cells⟩ | exact ⟨K2.out, K2.out.cells⟩ | exact ⟨K2.out.set1, K2.out.set1.cells⟩ | exact ⟨K2.out.set3, K2.out.set3.cells⟩ | exact ⟨K2.out.set4, K2.out.set4.cells⟩ | exact ⟨K2.out.set1.set3, K2.out.set1.set3.cells⟩ | exact ⟨K2.out.set1.set3.set4, K2.out.set1.set3.set4.cells⟩)
    ((go_at_call 27; first | refine (HC1.out _).mono ?_ | refine (HC3.out _).mono ?_ | refine (HC4.out _).mono ?_) <;> rintro e w2 ⟨rfl, hb⟩ <;> (have K2 := hide ((by first | exact K1.out.drew | exact K2.out | exact K2.out.set1 | exact K2.out.set1.set3 : Own w ⟨xo, xp, xs, xk, xv⟩ _).to hb)) <;> obtain ⟨c1, c3, c4, f1, f3, f4⟩ := HX.out K2.out <;> clear hb)
  all_goals
    rename_i hH
    have K3 := hide hH.1
    clear hH c1 c3 c4 f1 f3 f4 K2
    generalize ((w2.setCell _ _).setCell _ _).setCell _ _ = W at *
    obtain ⟨⟨c0, c1, c2, c3, c4⟩, _⟩ := box5 K3.out.one
    obtain ⟨⟨d0, d1, d2, d3, d4⟩, f0, f1, f2, f3, f4⟩ := box5 K3.out.two
    have x5 := set5_box (x0 := .int .i64 xo) (x1 := .string xp) (x2 := .int .i64 xs) (x3 := .string xk) (x4 := .string xv) K3.out.two
    have b5 := set5_below (b := w.heap.size + 1) (x0 := .int .i64 xo) (x1 := .string xp) (x2 := .int .i64 xs) (x3 := .string xk) (x4 := .string xv) K3.out.below (by omega)
    unfold set5 at x5 b5
    have X5 := hide x5
    have B5 := hide b5
    clear x5 b5
    go_wp2
    obtain ⟨⟨e0, e1, e2, e3, e4⟩, _⟩ := box5 X5.out
    refine bodyPost_ret (v := .agg #[.int .i64 xo, .string xp, .int .i64 xs, .string xk, .string xv]) (by simp [results, Tryz.results31, go_sem, e0, e1, e2, e3, e4]) rfl ⟨rfl, B5.out⟩
end Go.Proofs.YtfoomgdlbkjaeaaGreat.Y
namespace Go.Proofs.YtfoomgdlbkjaeaaGreat
structure CM where
  kind : Int
  topic : ByteArray
  name : ByteArray
  seq : Int
  key : ByteArray
  val : ByteArray
  n : Int
  node : Int
  ask : Int
def CM.zero : CM := ⟨0, ⟨#[]⟩, ⟨#[]⟩, 0, ⟨#[]⟩, ⟨#[]⟩, 0, 0, 0⟩
def letB (b : Nat) : Bool := (decide (97 ≤ b) && decide (b ≤ 122)) || (decide (48 ≤ b) && decide (b ≤ 57))
def wordL (l : List UInt8) : Bool := decide (1 ≤ l.length) && decide (l.length ≤ 20) && l.all fun b => letB b.toNat
def wordB (s : ByteArray) : Bool := wordL s.data.toList
def greatB (n : Int) : Bool := decide (0 ≤ n) && decide (n ≤ 9007199254740991)
def hasTopic (k : Int) : Bool := decide (1 ≤ k ∧ k ≤ 3) || decide (8 ≤ k ∧ k ≤ 9)
def hasName (k : Int) : Bool := decide (2 ≤ k ∧ k ≤ 7)
def textB (b : Bool) (s : ByteArray) : Bool := if b then wordB s else s.size == 0
def seqB (k : Int) (n : Int) : Bool := if k = 2 then greatB n else n == 0
def keyB (k : Int) (s : ByteArray) : Bool := if k = 2 then decide (s.size ≤ 100) else s.size == 0
def valB (k : Int) (s : ByteArray) : Bool := if k = 2 then decide (s.size ≤ 1000) else s.size == 0
def manyB (k : Int) (n : Int) : Bool :=
  if k = 1 ∨ k = 2 ∨ k = 4 then n == 0 else if k = 3 then (n == -1 || greatB n) else if k = 5 then decide (1 ≤ n) && decide (n ≤ 50)
  else if k = 10 ∨ k = 11 then decide (0 ≤ n) && decide (n < 7) else greatB n
def fitsB (c : CM) : Bool := textB (hasTopic c.kind) c.topic && (textB (hasName c.kind) c.name && (seqB c.kind c.seq && (keyB c.kind c.key && (valB c.kind c.val && manyB c.kind c.n))))
def kindOk (k : Int) : Bool := decide (1 ≤ k) && decide (k ≤ 11)
def nodeB (n : Int) : Bool := decide (0 ≤ n) && decide (n < 7)
def CM.right (c : CM) : Bool := nodeB c.node && (greatB c.ask && (kindOk c.kind && fitsB c))
theorem wordL_out {l : List UInt8} (h : wordL l = true) : 1 ≤ l.length ∧ l.length ≤ 20 ∧ l.all (fun b => letB b.toNat) = true := by
  unfold wordL at h
  simp only [Bool.and_eq_true, decide_eq_true_eq] at h
  exact ⟨h.1.1, h.1.2, h.2⟩
theorem size_listC (s : ByteArray) : s.data.toList.length = s.size := by simp
theorem textB_le {b : Bool} {s : ByteArray} (h : textB b s = true) : s.size ≤ 20 := by
  unfold textB at h
  split at h
  · have := (wordL_out h).2.1
    rwa [size_listC] at this
  · simp only [beq_iff_eq] at h
    omega
theorem greatB_out {n : Int} (h : greatB n = true) : 0 ≤ n ∧ n ≤ 9007199254740991 := by
  unfold greatB at h
  simpa using h
structure CM.Small (c : CM) : Prop where
  k1 : 1 ≤ c.kind
  k2 : c.kind ≤ 11
  o1 : 0 ≤ c.node
  o2 : c.node ≤ 6
  a1 : 0 ≤ c.ask
  a2 : c.ask ≤ 9007199254740991
  s1 : 0 ≤ c.seq
  s2 : c.seq ≤ 9007199254740991
  n1 : -1 ≤ c.n
  n2 : c.n ≤ 9007199254740991
  t : c.topic.size ≤ 20
  m : c.name.size ≤ 20
  y : c.key.size ≤ 100
  v : c.val.size ≤ 1000
theorem CM.small {c : CM} (h : c.right = true) : c.Small := by
  unfold CM.right fitsB nodeB kindOk at h
  simp only [Bool.and_eq_true, decide_eq_true_eq] at h
  obtain ⟨⟨o1, o2⟩, ha, ⟨k1, k2⟩, ht, hm, hs, hy, hv, hn⟩ := h
  have ha := greatB_out ha
  have hs2 : 0 ≤ c.seq ∧ c.seq ≤ 9007199254740991 := by
    unfold seqB at hs
    split at hs
    · exact greatB_out hs
    · simp only [beq_iff_eq] at hs; omega
  have hy2 : c.key.size ≤ 100 := by
    unfold keyB at hy
    split at hy
    · simpa using hy
    · simp only [beq_iff_eq] at hy; omega
  have hv2 : c.val.size ≤ 1000 := by
    unfold valB at hv
    split at hv
    · simpa using hv
    · simp only [beq_iff_eq] at hv; omega
  have hn2 : -1 ≤ c.n ∧ c.n ≤ 9007199254740991 := by
    unfold manyB at hn
    split at hn
    · simp only [beq_iff_eq] at hn; omega
    · split at hn
      · simp only [Bool.or_eq_true, beq_iff_eq] at hn
        rcases hn with hn | hn
        · omega
        · have := greatB_out hn; omega
      · split at hn
        · simp only [Bool.and_eq_true, decide_eq_true_eq] at hn; omega
        · split at hn
          · simp only [Bool.and_eq_true, decide_eq_true_eq] at hn; omega
          · have := greatB_out hn; omega
  exact ⟨k1, k2, o1, by omega, ha.1, ha.2, hs2.1, hs2.2, hn2.1, hn2.2, textB_le ht, textB_le hm, hy2, hv2⟩
end Go.Proofs.YtfoomgdlbkjaeaaGreat
namespace Go.Proofs.YtfoomgdlbkjaeaaGreat
open Go.RowKit
set_option maxHeartbeats 2000000
set_option linter.unusedSimpArgs false
set_option linter.unusedVariables false
theorem pletter (b : Nat) (hb : b < 256) (w : World) :
    Calls Tryz.prog 54 #[.int .u8 (b : Int)] w fun e w' => e = .returned (.bool (letB b)) ∧ w' = w := by
  by_cases h1 : (97 : Int) ≤ (b : Int)
  · by_cases h2 : (b : Int) ≤ 122
    · by_cases h3 : (48 : Int) ≤ (b : Int)
      · by_cases h4 : (b : Int) ≤ 57
        · exfalso
          omega
        · have hk : (letB b) = true := by
            simp [letB]
            try omega
          rw [hk]
          clear hk
          go_enter Tryz.func54, Tryz.ntmps54
          go_wp2
          go_ret
          exact ⟨rfl, rfl⟩
      · by_cases h4 : (b : Int) ≤ 57
        · exfalso
          omega
        · exfalso
          omega
    · by_cases h3 : (48 : Int) ≤ (b : Int)
      · by_cases h4 : (b : Int) ≤ 57
        · exfalso
          omega
        · have hk : (letB b) = false := by
            simp [letB]
            try omega
          rw [hk]
          clear hk
          go_enter Tryz.func54, Tryz.ntmps54
          go_wp2
          go_ret
          exact ⟨rfl, rfl⟩
      · by_cases h4 : (b : Int) ≤ 57
        · exfalso
          omega
        · exfalso
          omega
  · by_cases h2 : (b : Int) ≤ 122
    · by_cases h3 : (48 : Int) ≤ (b : Int)
      · by_cases h4 : (b : Int) ≤ 57
        · have hk : (letB b) = true := by
            simp [letB]
            try omega
          rw [hk]
          clear hk
          go_enter Tryz.func54, Tryz.ntmps54
          go_wp2
          go_ret
          exact ⟨rfl, rfl⟩
        · have hk : (letB b) = false := by
            simp [letB]
            try omega
          rw [hk]
          clear hk
          go_enter Tryz.func54, Tryz.ntmps54
          go_wp2
          go_ret
          exact ⟨rfl, rfl⟩
      · by_cases h4 : (b : Int) ≤ 57
        · have hk : (letB b) = false := by
            simp [letB]
            try omega
          rw [hk]
          clear hk
          go_enter Tryz.func54, Tryz.ntmps54
          go_wp2
          go_ret
          exact ⟨rfl, rfl⟩
        · exfalso
          omega
    · by_cases h3 : (48 : Int) ≤ (b : Int)
      · by_cases h4 : (b : Int) ≤ 57
        · exfalso
          omega
        · exfalso
          omega
      · by_cases h4 : (b : Int) ≤ 57
        · exfalso
          omega
        · exfalso
          omega
theorem pnumber (n : Int) (w : World) :
    Calls Tryz.prog 57 #[.int .i64 n] w fun e w' => e = .returned (.bool (greatB n)) ∧ w' = w := by
  by_cases h1 : 0 ≤ n
  · by_cases h2 : n ≤ 9007199254740991
    · have hk : (greatB n) = true := by
        simp [greatB, *]
        try omega
      rw [hk]
      clear hk
      go_enter Tryz.func57, Tryz.ntmps57
      go_wp2
      go_ret
      exact ⟨rfl, rfl⟩
    · have hk : (greatB n) = false := by
        simp [greatB, *]
        try omega
      rw [hk]
      clear hk
      go_enter Tryz.func57, Tryz.ntmps57
      go_wp2
      go_ret
      exact ⟨rfl, rfl⟩
  · by_cases h2 : n ≤ 9007199254740991
    · have hk : (greatB n) = false := by
        simp [greatB, *]
        try omega
      rw [hk]
      clear hk
      go_enter Tryz.func57, Tryz.ntmps57
      go_wp2
      go_ret
      exact ⟨rfl, rfl⟩
    · exfalso
      omega
theorem pnode (n : Int) (w : World) :
    Calls Tryz.prog 56 #[.int .i64 n] w fun e w' => e = .returned (.bool (nodeB n)) ∧ w' = w := by
  by_cases h1 : 0 ≤ n
  · by_cases h2 : n < 7
    · have hk : (nodeB n) = true := by
        simp [nodeB, *]
        try omega
      rw [hk]
      clear hk
      go_enter Tryz.func56, Tryz.ntmps56
      go_wp2
      go_ret
      exact ⟨rfl, rfl⟩
    · have hk : (nodeB n) = false := by
        simp [nodeB, *]
        try omega
      rw [hk]
      clear hk
      go_enter Tryz.func56, Tryz.ntmps56
      go_wp2
      go_ret
      exact ⟨rfl, rfl⟩
  · by_cases h2 : n < 7
    · have hk : (nodeB n) = false := by
        simp [nodeB, *]
        try omega
      rw [hk]
      clear hk
      go_enter Tryz.func56, Tryz.ntmps56
      go_wp2
      go_ret
      exact ⟨rfl, rfl⟩
    · exfalso
      omega
theorem pmany (n : Int) (w : World) :
    Calls Tryz.prog 111 #[.int .i64 n] w fun e w' => e = .returned (.bool ((decide (1 ≤ n) && decide (n ≤ 50)))) ∧ w' = w := by
  by_cases h1 : 1 ≤ n
  · by_cases h2 : n ≤ 50
    · have hk : ((decide (1 ≤ n) && decide (n ≤ 50))) = true := by
        simp [*]
        try omega
      rw [hk]
      clear hk
      go_enter Tryz.func111, Tryz.ntmps111
      go_wp2
      go_ret
      exact ⟨rfl, rfl⟩
    · have hk : ((decide (1 ≤ n) && decide (n ≤ 50))) = false := by
        simp [*]
        try omega
      rw [hk]
      clear hk
      go_enter Tryz.func111, Tryz.ntmps111
      go_wp2
      go_ret
      exact ⟨rfl, rfl⟩
  · by_cases h2 : n ≤ 50
    · have hk : ((decide (1 ≤ n) && decide (n ≤ 50))) = false := by
        simp [*]
        try omega
      rw [hk]
      clear hk
      go_enter Tryz.func111, Tryz.ntmps111
      go_wp2
      go_ret
      exact ⟨rfl, rfl⟩
    · exfalso
      omega
theorem pnonum (n : Int) (w : World) :
    Calls Tryz.prog 107 #[.int .i64 n] w fun e w' => e = .returned (.bool (n == 0)) ∧ w' = w := by
  go_enter Tryz.func107, Tryz.ntmps107
  go_wp2
  go_ret
  exact ⟨rfl, rfl⟩
theorem pkey (s : ByteArray) (h63 : s.size ≤ 9223372036854775807) (w : World) :
    Calls Tryz.prog 108 #[.string s] w fun e w' => e = .returned (.bool (decide (s.size ≤ 100))) ∧ w' = w := by
  by_cases h1 : (s.size : Int) ≤ 100
  · have hk : (decide (s.size ≤ 100)) = true := by
      simp []
      try omega
    rw [hk]
    clear hk
    go_enter Tryz.func108, Tryz.ntmps108
    go_wp2
    go_ret
    exact ⟨rfl, rfl⟩
  · have hk : (decide (s.size ≤ 100)) = false := by
      simp []
      try omega
    rw [hk]
    clear hk
    go_enter Tryz.func108, Tryz.ntmps108
    go_wp2
    go_ret
    exact ⟨rfl, rfl⟩
theorem pvalue (s : ByteArray) (h63 : s.size ≤ 9223372036854775807) (w : World) :
    Calls Tryz.prog 109 #[.string s] w fun e w' => e = .returned (.bool (decide (s.size ≤ 1000))) ∧ w' = w := by
  by_cases h1 : (s.size : Int) ≤ 1000
  · have hk : (decide (s.size ≤ 1000)) = true := by
      simp []
      try omega
    rw [hk]
    clear hk
    go_enter Tryz.func109, Tryz.ntmps109
    go_wp2
    go_ret
    exact ⟨rfl, rfl⟩
  · have hk : (decide (s.size ≤ 1000)) = false := by
      simp []
      try omega
    rw [hk]
    clear hk
    go_enter Tryz.func109, Tryz.ntmps109
    go_wp2
    go_ret
    exact ⟨rfl, rfl⟩
theorem empty_list {s : ByteArray} : s.toList.isEmpty = (s.size == 0) := by
  have e : s.toList = s.data.toList := by rw [ByteArray.toList_eq]
  rw [e, ← size_listC]
  cases s.data.toList <;> rfl
theorem pnotext (s : ByteArray) (w : World) :
    Calls Tryz.prog 106 #[.string s] w fun e w' => e = .returned (.bool (s.size == 0)) ∧ w' = w := by
  have hE := @empty_list s
  by_cases h : s.size = 0
  · have h1 : (s.size == 0) = true := by simpa using h
    rw [h1] at hE ⊢
    go_enter Tryz.func106, Tryz.ntmps106
    go_wp2
    go_ret
    exact ⟨rfl, rfl⟩
  · have h1 : (s.size == 0) = false := by simpa using h
    rw [h1] at hE ⊢
    go_enter Tryz.func106, Tryz.ntmps106
    go_wp2
    go_ret
    exact ⟨rfl, rfl⟩
def minusB (n : Int) : Bool := n == -1 || greatB n
theorem pminus (n : Int) (w : World) :
    Calls Tryz.prog 110 #[.int .i64 n] w fun e w' => e = .returned (.bool (minusB n)) ∧ w' = w := by
  have HN := hide (pnumber n)
  by_cases h : n = -1
  · subst h
    go_enter Tryz.func110, Tryz.ntmps110
    go_wp2
    go_ret
    exact ⟨rfl, rfl⟩
  · have h1 : (n == -1) = false := by simpa using h
    have h2 : minusB n = greatB n := by unfold minusB; rw [h1]; rfl
    rw [h2]
    generalize greatB n = g at *
    go_enter Tryz.func110, Tryz.ntmps110
    go_wp2_with (go_at_call 57; refine (HN.out _).mono ?_; rintro e w' ⟨rfl, rfl⟩)
    go_ret
    exact ⟨rfl, rfl⟩
theorem take_snocC (s : ByteArray) (k : Nat) (h : k < s.size) : s.data.toList.take (k + 1) = s.data.toList.take k ++ [s[k]] := by
  have hl : k < s.data.toList.length := by simpa using h
  have : s[k] = s.data.toList[k] := rfl
  rw [this, List.take_add_one, List.getElem?_eq_getElem hl]
  rfl
theorem word_short {s : ByteArray} (h : s.size = 0) : wordB s = false := by
  unfold wordB wordL
  rw [size_listC, h]
  rfl
theorem word_long {s : ByteArray} (h : 20 < s.size) : wordB s = false := by
  unfold wordB wordL
  rw [size_listC, decide_eq_false (show ¬ s.size ≤ 20 by omega)]
  simp
theorem word_bad {s : ByteArray} {k : Nat} (h : k < s.size) (hb : letB s[k].toNat = false) : wordB s = false := by
  have : (s.data.toList.all fun b => letB b.toNat) = false := by
    rw [List.all_eq_false]
    exact ⟨s[k], List.getElem_mem _, by rw [hb]; simp⟩
  unfold wordB wordL
  rw [this]
  simp
theorem word_good {s : ByteArray} (h1 : s.size ≠ 0) (h2 : s.size ≤ 20) (h : (s.data.toList.all fun b => letB b.toNat) = true) : wordB s = true := by
  unfold wordB wordL
  rw [h, size_listC, decide_eq_true (show 1 ≤ s.size by omega), decide_eq_true h2]
  rfl
theorem pword (s : ByteArray) (h63 : s.size ≤ 9223372036854775807) (w : World) :
    Calls Tryz.prog 26 #[.string s] w fun e w' => e = .returned (.bool (wordB s)) ∧ w' = w := by
  have hE := @empty_list s
  by_cases h : s.size = 0
  · have h1 : (s.size == 0) = true := by simpa using h
    rw [h1] at hE
    rw [word_short h]
    clear h h1
    go_enter Tryz.func26, Tryz.ntmps26
    go_wp2
    go_ret
    exact ⟨rfl, rfl⟩
  · have h1 : (s.size == 0) = false := by simpa using h
    rw [h1] at hE
    by_cases h2 : (s.size : Int) > 20
    · rw [word_long (by omega)]
      clear h h1
      go_enter Tryz.func26, Tryz.ntmps26
      go_wp2
      go_ret
      exact ⟨rfl, rfl⟩
    · have HG := hide (fun hh => word_good h (by omega) hh)
      have HB := hide (fun k (hk : k < s.size) hb => word_bad (s := s) hk hb)
      have HW := hide (fun b hb => pletter b hb)
      have hle : (s.size : Int) ≤ 20 := by omega
      generalize wordB s = r at *
      clear h h1
      go_enter Tryz.func26, Tryz.ntmps26
      go_wp2
      go_loopw [13] (fun iv wv => ∃ k : Nat, k ≤ s.size ∧ iv = .int .i64 k ∧ wv = w ∧ Hid (((s.data.toList.take k).all fun b => letB b.toNat) = true)) (fun iv _ => s.size - (intOf iv).toNat)
      case atStart => exact ⟨0, Nat.zero_le _, rfl, rfl, rfl⟩
      case round =>
        obtain ⟨k, hk, rfl, rfl, HJ⟩ := hrel
        by_cases hlt : k < s.size
        · have hlt2 : (k : Int) < (s.size : Int) := by omega
          have HX : Hid (letB s[k].toNat = true → ((s.data.toList.take (k + 1)).all fun b => letB b.toNat) = true) := fun hb => by
            rw [take_snocC s k hlt, List.all_append, HJ.out]
            simp [hb]
          have HY := hide (HB.out k hlt)
          have HP := hide (HW.out s[k].toNat (UInt8.toNat_lt s[k]))
          clear HB HW HJ
          by_cases hb : letB s[k].toNat = true
          · rw [hb] at HP
            have HZ := hide (HX.out hb)
            clear hb HX HY
            go_wp2_with (go_at_call 54; refine (HP.out _).mono ?_; rintro e w' ⟨rfl, rfl⟩)
            exact ⟨⟨k + 1, by omega, by go_num, trivial, HZ⟩, by simp [intOf]; omega⟩
          · rw [Bool.not_eq_true] at hb
            rw [hb] at HP
            have HR := hide (HY.out hb)
            clear hb HX HY
            go_wp2_with fail
            refine (HP.out _).mono ?_
            rintro e w' ⟨rfl, rfl⟩
            go_wp2
            go_ret
            exact ⟨by rw [HR.out]; rfl, rfl⟩
        · have hlt2 : ¬ (k : Int) < (s.size : Int) := by omega
          have e : s.data.toList.take k = s.data.toList := List.take_of_length_le (by simp; omega)
          have HR := hide (HG.out (by have := HJ.out; rwa [e] at this))
          clear e HJ HB HW HG
          go_wp2
          go_ret
          exact ⟨by rw [HR.out]; rfl, rfl⟩
end Go.Proofs.YtfoomgdlbkjaeaaGreat
namespace Go.Proofs.YtfoomgdlbkjaeaaGreat
open Go.RowKit
set_option maxHeartbeats 4000000
set_option maxRecDepth 100000
attribute [local go_sem ↓] Go.wp_at_zero Go.wp_at_succ
set_option linter.unusedSimpArgs false
set_option linter.unusedVariables false
abbrev tNeeds : TypeId := 130
abbrev tAll : TypeId := 131
def fnV (k : Nat) : Value := .func (.func k) #[] #[]
def needsL : List Value := [.nilFunc, .nilFunc, .nilFunc, .nilFunc, .nilFunc, .nilFunc] ++ [fnV 26, fnV 106, fnV 107, fnV 106, fnV 106, fnV 107] ++ [fnV 26, fnV 26, fnV 57, fnV 108, fnV 109, fnV 107] ++ [fnV 26, fnV 26, fnV 107, fnV 106, fnV 106, fnV 110] ++ [fnV 106, fnV 26, fnV 107, fnV 106, fnV 106, fnV 107] ++ [fnV 106, fnV 26, fnV 107, fnV 106, fnV 106, fnV 111] ++ [fnV 106, fnV 26, fnV 107, fnV 106, fnV 106, fnV 57] ++ [fnV 106, fnV 26, fnV 107, fnV 106, fnV 106, fnV 57] ++ [fnV 26, fnV 106, fnV 107, fnV 106, fnV 106, fnV 57] ++ [fnV 26, fnV 106, fnV 107, fnV 106, fnV 106, fnV 57] ++ [fnV 106, fnV 106, fnV 107, fnV 106, fnV 106, fnV 56] ++ [fnV 106, fnV 106, fnV 107, fnV 106, fnV 106, fnV 56]
def needsA : Array Value := needsL.toArray
theorem info_all : (Tryz.prog.info? tAll).map (·.size) = some 72 := by kernel_rfl
theorem zero_all : Tryz.zeroCells131.size = 72 := by kernel_rfl
theorem pneeds (w : World) :
    Calls Tryz.prog 83 #[] w fun e w' => e = .returned (.agg needsA) ∧ Below w.heap.size w w' := by
  have hsc : ∀ L : List Value, L = needsL → (storeCells ⟨w.heap.size, 0, none⟩ L 0).run Tryz.prog (w.alloc (.cells Tryz.zeroCells131 tAll)) = .ok () (w.alloc (.cells needsA tAll)) := fun L h1 => by
    subst h1
    exact run_storeCells_new (P := Tryz.prog) w tAll Tryz.zeroCells131 needsA info_all zero_all (by kernel_rfl)
  have hld : (loadVar tAll ⟨w.heap.size, 0, none⟩).run Tryz.prog (w.alloc (.cells needsA tAll)) = .ok (.agg needsA) (w.alloc (.cells needsA tAll)) := run_loadVar_new w tAll needsA 12 tNeeds (by kernel_rfl) info_all
  have HS := hide hsc
  have HL := hide hld
  clear hsc hld
  go_enter Tryz.func83, Tryz.ntmps83
  go_wp2
  rename_i Kp hKp Ko hKo
  rw [HS.out _ (by kernel_rfl)]
  simp only [Result.andThen]
  rw [Oper.upon_skip]
  refine hKo _ _ ?_
  clear hKo
  refine (hKp _ _ ?_ : Kp _ _)
  clear hKp
  have hl := HL.out
  refine wp_ret ?_
  refine bodyPost_ret (v := .agg needsA) ?_ rfl ⟨rfl, (Below.refl _ _).alloc (Nat.le_refl _) _⟩
  simp [results, Tryz.results83, asAddr, Result.andThen, Act.put, hl]
end Go.Proofs.YtfoomgdlbkjaeaaGreat
