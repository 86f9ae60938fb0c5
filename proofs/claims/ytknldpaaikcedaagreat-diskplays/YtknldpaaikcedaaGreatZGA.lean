/-
  carillonref04's lists, and find, done, without, as they run.
-/
import Derived.Test.YtknldpaaikcedaaGreatZM0
import Derived.Test.YtknldpaaikcedaaGreatZW1
import Derived.Laws.IdiomStrings
import Derived.Laws.AppendOwnNone
import Derived.Deep.RegionHeldLaw
namespace Go.Proofs.YtknldpaaikcedaaGreat
open Go.RowKit

/-- A unit: bytes (n below 0), or a Truncate. -/
structure ZU where
  s : ByteArray
  n : Int
/-- A file: what lasts, what was done since. -/
structure ZF where
  lasts : ByteArray
  since : List ZU
abbrev ZN := ByteArray × Nat
structure ZS where
  kind : Int
  a : ByteArray
  b : ByteArray
  id : Nat
def nmCells (l : List ZN) : List Value := l.flatMap fun p => [.string p.1, .int .i64 p.2]
def unCells (l : List ZU) : List Value := l.flatMap fun p => [.string p.s, .int .i64 p.n]
theorem nmCells_snoc (l : List ZN) (p : ZN) : nmCells (l ++ [p]) = nmCells l ++ [.string p.1, .int .i64 p.2] := by simp [nmCells]
theorem unCells_snoc (l : List ZU) (p : ZU) : unCells (l ++ [p]) = unCells l ++ [.string p.s, .int .i64 p.n] := by simp [unCells]
theorem nmCells_append (l m : List ZN) : nmCells (l ++ m) = nmCells l ++ nmCells m := by simp [nmCells]
theorem nmCells_length (l : List ZN) : (nmCells l).length = l.length * 2 := by
  induction l with
  | nil => rfl
  | cons p l ih =>
    have : nmCells (p :: l) = [.string p.1, .int .i64 p.2] ++ nmCells l := by simp [nmCells]
    rw [this, List.length_append, ih, List.length_cons]
    simp
    omega
theorem pair_get {α : Type} (f g : α → Value) (l : List α) (i : Nat) (h : i < l.length) : (l.flatMap fun p => [f p, g p])[i * 2]? = some (f l[i]) ∧ (l.flatMap fun p => [f p, g p])[i * 2 + 1]? = some (g l[i]) := by
  induction l generalizing i with
  | nil => simp at h
  | cons p l ih =>
    have e : ((p :: l).flatMap fun p => [f p, g p]) = [f p, g p] ++ l.flatMap fun p => [f p, g p] := by simp
    rw [e]
    cases i with
    | zero => exact ⟨rfl, rfl⟩
    | succ i =>
      have := ih i (by simpa using h)
      rw [List.getElem?_append_right (by simp; omega), List.getElem?_append_right (by simp; omega)]
      rw [show (i + 1) * 2 - ([f p, g p] : List Value).length = i * 2 by simp; omega, show (i + 1) * 2 + 1 - ([f p, g p] : List Value).length = i * 2 + 1 by simp; omega]
      simpa using this
theorem row_two {w : World} {B : Nat} {e : TypeId} {ao : Option Addr} {n c : Nat} {xs : List Value} (h : w.ownsRow B e 2 (.slice ao n c) n xs) (i : Nat) (hi : i < n) : ∃ g, ao = some ⟨g, 0, none⟩ ∧ g < w.heap.size ∧ w.cell? ⟨g, i * 2, none⟩ = xs[i * 2]? ∧ w.cell? ⟨g, i * 2 + 1, none⟩ = xs[i * 2 + 1]? := by
  rcases h.2 with ⟨_, h2⟩ | ⟨g, cap, cur, hv, hg, hh, hn2, hc, hs, ht⟩
  · omega
  · injection hv with e1 e2 e3
    have key : ∀ k, k < n * 2 → w.cell? ⟨g, k, none⟩ = xs[k]? := fun k hk => by
      rw [Lib.cell_of_heap hh, ← ht, List.getElem?_take_of_lt hk]
      simp
    exact ⟨g, e1, (Array.getElem?_eq_some_iff.1 hh).1, key _ (by omega), key _ (by omega)⟩
theorem nm_at {w : World} {B : Nat} {ao : Option Addr} {c : Nat} {l : List ZN} (h : w.ownsRow B 77 2 (.slice ao l.length c) l.length (nmCells l)) (i : Nat) (hi : i < l.length) : ∃ g, ao = some ⟨g, 0, none⟩ ∧ g < w.heap.size ∧ w.cell? ⟨g, i * 2, none⟩ = some (.string l[i].1) ∧ w.cell? ⟨g, i * 2 + 1, none⟩ = some (.int .i64 l[i].2) := by
  obtain ⟨g, h1, h2, h3, h4⟩ := row_two h i hi
  obtain ⟨g3, g4⟩ := pair_get (fun p : ZN => Value.string p.1) (fun p => Value.int .i64 p.2) l i hi
  exact ⟨g, h1, h2, h3.trans g3, h4.trans g4⟩
theorem un_at {w : World} {B : Nat} {ao : Option Addr} {c : Nat} {l : List ZU} (h : w.ownsRow B 112 2 (.slice ao l.length c) l.length (unCells l)) (i : Nat) (hi : i < l.length) : ∃ g, ao = some ⟨g, 0, none⟩ ∧ g < w.heap.size ∧ w.cell? ⟨g, i * 2, none⟩ = some (.string l[i].s) ∧ w.cell? ⟨g, i * 2 + 1, none⟩ = some (.int .i64 l[i].n) := by
  obtain ⟨g, h1, h2, h3, h4⟩ := row_two h i hi
  obtain ⟨g3, g4⟩ := pair_get (fun p : ZU => Value.string p.s) (fun p => Value.int .i64 p.n) l i hi
  exact ⟨g, h1, h2, h3.trans g3, h4.trans g4⟩
theorem ba_ne {a b : ByteArray} (h : a ≠ b) : (a.toList == b.toList) = false := by
  rw [beq_eq_false_iff_ne, ByteArray.toList_eq, ByteArray.toList_eq]
  intro e
  apply h
  obtain ⟨a⟩ := a
  obtain ⟨b⟩ := b
  congr 1
  exact Array.ext' e
theorem ba_neN {a b : ByteArray} (h : a ≠ b) : (a.toList != b.toList) = true := by
  unfold bne
  rw [ba_ne h]
  rfl
/-- The file of a name; below 0: there is none. -/
def zfind : List ZN → ByteArray → Int
  | [], _ => -1
  | p :: l, k => if p.1 = k then (p.2 : Int) else zfind l k
theorem zfind_drop (l : List ZN) (k : ByteArray) (i : Nat) (h : i < l.length) : zfind (l.drop i) k = if l[i].1 = k then (l[i].2 : Int) else zfind (l.drop (i + 1)) k := by
  rw [List.drop_eq_getElem_cons h]
  rfl
set_option maxHeartbeats 1000000 in
theorem zfind_any (ao : Option Addr) (c : Nat) (l : List ZN) (k : ByteArray) (w : World) (B : Nat) (hl : l.length ≤ 1000000) (h : w.ownsRow B 77 2 (.slice ao l.length c) l.length (nmCells l)) :
    Calls Tryz.prog 25 #[.slice ao l.length c, .string k] w fun e w' => e = .returned (.int .i64 (zfind l k)) ∧ w' = w := by
  have HA := hide h
  clear h
  go_enter Tryz.func25, Tryz.ntmps25
  go_wp2
  go_loopw [5] (fun iv wv => ∃ i : Nat, i ≤ l.length ∧ iv = .int .i64 i ∧ Hid (zfind l k = zfind (l.drop i) k) ∧ wv = w) (fun iv _ => l.length - (intOf iv).toNat)
  case atStart => exact ⟨0, Nat.zero_le _, rfl, rfl, rfl⟩
  case round =>
    obtain ⟨i, hi, rfl, HP, rfl⟩ := hrel
    by_cases hlt : i < l.length
    · obtain ⟨g, rfl, hg, c0, c1⟩ := nm_at HA.out i hlt
      have hi0 : (0 : Int) ≤ (i : Int) := by omega
      have hi1 : (i : Int) < (l.length : Int) := by omega
      have hst := zfind_drop l k i hlt
      generalize l[i] = x at *
      obtain ⟨xn, xi⟩ := x
      simp only at c0 c1 hst
      by_cases he : xn = k
      · rw [if_pos he] at hst
        have HS : Hid (zfind l k = (xi : Int)) := HP.out.trans hst
        subst he
        clear hst HP
        go_wp2
        go_ret
        exact ⟨by rw [HS.out]; rfl, rfl⟩
      · rw [if_neg he] at hst
        have HS : Hid (zfind l k = zfind (l.drop (i + 1)) k) := HP.out.trans hst
        have hbe := ba_ne he
        clear hst HP he
        go_wp2
        go_roundw
        case rel => exact ⟨i + 1, by omega, by go_num, HS.out, by first | rfl | trivial⟩
        case measure => simp [intOf]; omega
    · have HS : Hid (zfind l k = -1) := by have := HP.out; rw [List.drop_of_length_le (by omega)] at this; exact this
      have hi1 : ¬ (i : Int) < (l.length : Int) := by omega
      clear HP
      go_wp2
      go_ret
      exact ⟨by rw [HS.out]; rfl, rfl⟩
end Go.Proofs.YtknldpaaikcedaaGreat
/-
  carillonref04's done and without, as they run.
-/
namespace Go.Proofs.YtknldpaaikcedaaGreat
open Go.RowKit

def ZU.run (u : ZU) (s : ByteArray) : ByteArray := if u.n < 0 then s ++ u.s else s.extract 0 u.n.toNat
def zdone (s : ByteArray) : List ZU → ByteArray
  | [] => s
  | u :: l => zdone (u.run s) l
/-- May the units be done? -/
def zfits (s : ByteArray) : List ZU → Prop
  | [] => True
  | u :: l => (0 ≤ u.n → u.n ≤ s.size) ∧ zfits (u.run s) l
def zsum : List ZU → Nat
  | [] => 0
  | u :: l => u.s.size + zsum l
theorem run_size (u : ZU) (s : ByteArray) : (u.run s).size ≤ s.size + u.s.size := by
  unfold ZU.run
  split
  · rw [ByteArray.size_append]; omega
  · rw [ByteArray.size_extract]; omega
theorem zdone_append (s : ByteArray) (l m : List ZU) : zdone s (l ++ m) = zdone (zdone s l) m := by
  induction l generalizing s with
  | nil => rfl
  | cons u l ih => exact ih _
set_option maxHeartbeats 1000000 in
theorem zdone_any (s : ByteArray) (ao : Option Addr) (c : Nat) (l : List ZU) (w : World) (B : Nat) (hl : l.length ≤ 1000000) (hf : zfits s l) (hs : s.size + zsum l ≤ 4611686018427387904) (hn : ∀ u ∈ l, -9223372036854775808 ≤ u.n ∧ u.n ≤ 9223372036854775807) (h : w.ownsRow B 112 2 (.slice ao l.length c) l.length (unCells l)) :
    Calls Tryz.prog 31 #[.string s, .slice ao l.length c] w fun e w' => e = .returned (.string (zdone s l)) ∧ w' = w := by
  have HA := hide h
  have HF := hide hf
  have HNN := hide hn
  have HS := hide hs
  clear h hf hn hs
  go_enter Tryz.func31, Tryz.ntmps31
  go_wp2
  go_loopw [0, 5] (fun sv iv wv => ∃ (i : Nat) (t : ByteArray), i ≤ l.length ∧ sv = .string t ∧ iv = .int .i64 i ∧ Hid (zdone s l = zdone t (l.drop i)) ∧ Hid (zfits t (l.drop i)) ∧ Hid (t.size + zsum (l.drop i) ≤ 4611686018427387904) ∧ wv = w) (fun _ iv _ => l.length - (intOf iv).toNat)
  case atStart => exact ⟨0, s, Nat.zero_le _, rfl, rfl, rfl, HF.out, HS.out, rfl⟩
  case round =>
    obtain ⟨i, t, hi, rfl, rfl, HP, HF2, HS2, rfl⟩ := hrel
    by_cases hlt : i < l.length
    · obtain ⟨g, rfl, hg, c0, c1⟩ := un_at HA.out i hlt
      have hi0 : (0 : Int) ≤ (i : Int) := by omega
      have hi1 : (i : Int) < (l.length : Int) := by omega
      have hp := HP.out
      have hf2 := HF2.out
      have hs2 := HS2.out
      have hnn := HNN.out l[i] (List.getElem_mem hlt)
      rw [List.drop_eq_getElem_cons hlt] at hp hf2 hs2
      generalize l[i] = u at *
      have hrs := run_size u t
      simp only [zdone, zfits, zsum] at hp hf2 hs2
      have HP2 := hide hp
      have HF3 := hide hf2.2
      have hfit := hf2.1
      have HS3 : Hid ((u.run t).size + zsum (l.drop (i + 1)) ≤ 4611686018427387904) := (by omega : (u.run t).size + zsum (l.drop (i + 1)) ≤ 4611686018427387904)
      have ht1 : t.size ≤ 4611686018427387904 := by omega
      have ht2 : u.s.size ≤ 4611686018427387904 := by omega
      have ht3 : t.size + u.s.size ≤ 4611686018427387904 := by omega
      obtain ⟨us, un⟩ := u
      simp only at c0 c1 hnn hfit ht2 ht3
      clear hp hf2 hs2 hrs HP HF2 HS2
      by_cases hneg : un < 0
      · have hr : (ZU.mk us un).run t = t ++ us := by unfold ZU.run; rw [if_pos hneg]
        rw [hr] at HP2 HF3 HS3
        clear hr hfit
        go_wp2
        go_roundw
        case rel => exact ⟨i + 1, t ++ us, by omega, rfl, by go_num, HP2.out, HF3.out, HS3.out, by first | rfl | trivial⟩
        case measure => simp [intOf]; omega
      · have hr : (ZU.mk us un).run t = t.extract 0 un.toNat := by unfold ZU.run; rw [if_neg hneg]
        rw [hr] at HP2 HF3 HS3
        have hf4 := hfit (by omega)
        obtain ⟨m, rfl⟩ : ∃ m : Nat, un = m := ⟨un.toNat, by omega⟩
        rw [Int.toNat_natCast] at HP2 HF3 HS3
        have hm0 : (0 : Int) ≤ (m : Int) := by omega
        clear hr hfit
        go_wp2
        go_roundw
        case rel => exact ⟨i + 1, t.extract 0 m, by omega, rfl, by go_num, HP2.out, HF3.out, HS3.out, by first | rfl | trivial⟩
        case measure => simp [intOf]; omega
    · have HQ : Hid (zdone s l = t) := by have := HP.out; rw [List.drop_of_length_le (by omega)] at this; exact this
      have hi1 : ¬ (i : Int) < (l.length : Int) := by omega
      clear HP HF2 HS2
      go_wp2
      go_ret
      exact ⟨by rw [HQ.out]; rfl, rfl⟩
def zwithout (l : List ZN) (k : ByteArray) : List ZN := l.filter fun p => decide (p.1 ≠ k)
theorem zwithout_succ (l : List ZN) (k : ByteArray) (i : Nat) (h : i < l.length) : zwithout (l.take (i + 1)) k = if l[i].1 = k then zwithout (l.take i) k else zwithout (l.take i) k ++ [l[i]] := by
  unfold zwithout
  rw [List.take_succ_eq_append_getElem h, List.filter_append]
  split
  · rename_i h1; simp [h1]
  · rename_i h1; simp [h1]
theorem zwithout_le (l : List ZN) (k : ByteArray) : (zwithout l k).length ≤ l.length := List.length_filter_le _ _
theorem zinfoNm : (Tryz.prog.info? 77).map (fun i => (i.zero, i.size, i.bytes)) = some (some (.agg #[.string ⟨#[]⟩, .int .i64 0]), 2, 24) := by kernel_rfl
theorem zinfo_parts {P : Program} {t : TypeId} {z : Value} {sz by' : Nat} (h : (P.info? t).map (fun i => (i.zero, i.size, i.bytes)) = some (some z, sz, by')) : ∃ i, P.info? t = some i ∧ i.zero = some z ∧ i.size = sz ∧ i.bytes = by' := by
  cases hi : P.info? t with
  | none => rw [hi] at h; cases h
  | some i =>
    rw [hi] at h
    simp at h
    exact ⟨i, rfl, h.1, h.2.1, h.2.2⟩
theorem nm_ones (s : ByteArray) (n : Nat) : ∀ u ∈ [Value.string s, Value.int .i64 n], u.oneCell' = true := by
  intro u hu
  simp at hu
  rcases hu with rfl | rfl <;> rfl
theorem own_sl {w : World} {base : Nat} {e : TypeId} {size : Nat} {v : Value} {n : Nat} {xs : List Value} (h : w.ownsRow base e size v n xs) : ∃ ao cp, v = .slice ao n cp := row_slice h
set_option maxHeartbeats 2000000 in
set_option maxRecDepth 20000 in
theorem zwithout_any (ao : Option Addr) (c : Nat) (l : List ZN) (k : ByteArray) (w : World) (B : Nat) (hl : l.length ≤ 1000000) (h : w.ownsRow B 77 2 (.slice ao l.length c) l.length (nmCells l)) :
    Calls Tryz.prog 69 #[.slice ao l.length c, .string k] w fun e w' => ∃ ro rc, e = .returned (.slice ro (zwithout l k).length rc) ∧ w'.ownsRow w.heap.size 77 2 (.slice ro (zwithout l k).length rc) (zwithout l k).length (nmCells (zwithout l k)) ∧ Below w.heap.size w w' := by
  have HA := hide h
  clear h
  go_enter Tryz.func69, Tryz.ntmps69
  go_wp2
  go_loopw [5, 6] (fun xv iv wv => ∃ (i : Nat) (qo : Option Addr) (qc : Nat), i ≤ l.length ∧ xv = .slice qo (zwithout (l.take i) k).length qc ∧ iv = .int .i64 i ∧ Hid (Below w.heap.size w wv) ∧ Hid (wv.ownsRow w.heap.size 77 2 (.slice qo (zwithout (l.take i) k).length qc) (zwithout (l.take i) k).length (nmCells (zwithout (l.take i) k)))) (fun _ iv _ => l.length - (intOf iv).toNat)
  case atStart => exact ⟨0, none, 0, Nat.zero_le _, rfl, rfl, Below.refl _ _, World.ownsRow_nil _ _ _ _⟩
  case round =>
    obtain ⟨i, qo, qc, hi, rfl, rfl, BV, OV⟩ := hrel
    by_cases hlt : i < l.length
    · obtain ⟨g, rfl, hg, c0', c1'⟩ := nm_at HA.out i hlt
      have c0 := (BV.out.cell (p := ⟨g, i * 2, none⟩) hg).trans c0'
      have c1 := (BV.out.cell (p := ⟨g, i * 2 + 1, none⟩) hg).trans c1'
      have hi0 : (0 : Int) ≤ (i : Int) := by omega
      have hi1 : (i : Int) < (l.length : Int) := by omega
      have HST := hide (zwithout_succ l k i hlt)
      have hql := zwithout_le (l.take i) k
      rw [List.length_take] at hql
      generalize l[i] = x at *
      generalize zwithout (l.take i) k = Q at *
      obtain ⟨xn, xi⟩ := x
      simp only at c0 c1 HST
      clear c0' c1'
      by_cases he : xn = k
      · have HS2 : Hid (zwithout (l.take (i + 1)) k = Q) := by have := HST.out; rw [if_pos he] at this; exact this
        subst he
        clear HST
        go_wp2
        go_roundw
        case rel => exact ⟨i + 1, qo, qc, by omega, by rw [HS2.out], by go_num, BV.out, by rw [HS2.out]; exact OV.out⟩
        case measure => simp [intOf]; omega
      · have HS2 : Hid (zwithout (l.take (i + 1)) k = Q ++ [(xn, xi)]) := by have := HST.out; rw [if_neg he] at this; exact this
        have hbe := ba_ne he
        obtain ⟨i0, hi0', hz0, hz1, hz2⟩ := zinfo_parts zinfoNm
        clear HST he
        go_wp2_with (at_builtin; refine wpList_append_own _ rfl _ _ 58 rfl w.heap.size 77 i0 _ 2 24 Tryz.underlying58 hi0' hz0 hz1 hz2 rfl (by decide) _ _ _ rfl (OV.out.alloc _) ⟨_, 0, none⟩ 1 1 [.string xn, .int .i64 xi] rfl rfl ?hnews ?h1 ?h63 ?hb47 ?hbase ?_)
        case hnews => first | exact fun j u h => h | exact World.news_of_block (cs := #[.string xn, .int .i64 xi]) (t := 77) (fr := (0, 0)) (heap_alloc_new wr _)
        case h1 => exact nm_ones _ _
        case h63 => unfold maxLen; omega
        case hb47 => omega
        case hbase => have := BV.out.size; simp; omega
        intro v' w4 hown hgrow _
        obtain ⟨no, nc, rfl⟩ := own_sl hown
        have B4 : Hid (Below w.heap.size w w4) := (BV.out.alloc BV.out.size _).grown hgrow (by have := BV.out.size; simp; omega) (fun k hk => (OV.out.lt k hk).1)
        have O4 : Hid (w4.ownsRow w.heap.size 77 2 (.slice no (Q.length + 1) nc) (Q.length + 1) (nmCells (Q ++ [(xn, xi)]))) := by
          rw [nmCells_snoc]
          exact hown
        clear hown hgrow
        go_wp2
        go_roundw
        case rel => exact ⟨i + 1, no, nc, by omega, by rw [HS2.out, List.length_append, List.length_singleton], by go_num, B4.out, by rw [HS2.out, List.length_append, List.length_singleton]; exact O4.out⟩
        case measure => simp [intOf]; omega
    · have HQ : Hid (zwithout (l.take i) k = zwithout l k) := by rw [List.take_of_length_le (by omega)]; exact rfl
      have hi1 : ¬ (i : Int) < (l.length : Int) := by omega
      rw [HQ.out] at OV ⊢
      go_wp2
      go_ret
      exact ⟨_, _, rfl, OV.out, BV.out⟩
end Go.Proofs.YtknldpaaikcedaaGreat
/-
  carillonref04's with, as it runs.
-/
namespace Go.Proofs.YtknldpaaikcedaaGreat
open Go.RowKit

def zless (a b : ByteArray) : Bool := Op.bytesLess a.toList b.toList
def zplace (l : List ZN) (k : ByteArray) : Nat := (l.takeWhile fun p => zless p.1 k).length
def zwith (l : List ZN) (k : ByteArray) (id : Nat) : List ZN := (zwithout l k).take (zplace (zwithout l k) k) ++ (k, id) :: (zwithout l k).drop (zplace (zwithout l k) k)
theorem tw_len {α : Type} (p : α → Bool) (l : List α) (j : Nat) (hj : j ≤ l.length) (h1 : ∀ i (h : i < l.length), i < j → p l[i] = true) (h2 : ∀ h : j < l.length, p l[j] = false) : (l.takeWhile p).length = j := by
  induction l generalizing j with
  | nil => simp at hj; subst hj; rfl
  | cons x l ih =>
    cases j with
    | zero =>
      have := h2 (by simp)
      simp only [List.getElem_cons_zero] at this
      rw [List.takeWhile_cons, this]
      rfl
    | succ j =>
      have hx := h1 0 (by simp) (by omega)
      simp only [List.getElem_cons_zero] at hx
      rw [List.takeWhile_cons, hx, if_pos rfl, List.length_cons, ih j (by simpa using hj) (fun i h hi => by have := h1 (i + 1) (by simpa using h) (by omega); simpa using this) (fun h => by have := h2 (by simpa using h); simpa using this)]
theorem own_cells {w : World} {B : Nat} {e : TypeId} {z : Nat} {g n c : Nat} {xs : List Value} (h : w.ownsRow B e z (.slice (some ⟨g, 0, none⟩) n c) n xs) : ∀ j u, xs[j]? = some u → w.cell? ⟨g, j, none⟩ = some u := fun j u hu => by
  have := h.cells rfl j u hu
  rw [Addr.add_lit] at this
  simpa using this
theorem all_ones (l : List ZN) : ∀ u ∈ nmCells l, u.oneCell' = true := by
  intro u hu
  unfold nmCells at hu
  obtain ⟨p, _, hp⟩ := List.mem_flatMap.1 hu
  exact nm_ones p.1 p.2 u hp
theorem own_base2 {w : World} {B B' : Nat} {e : TypeId} {z : Nat} {v : Value} {n : Nat} {xs : List Value} (h : w.ownsRow B e z v n xs) (hB : B' ≤ B) : w.ownsRow B' e z v n xs := by
  obtain ⟨h1, h2⟩ := h
  refine ⟨h1, ?_⟩
  rcases h2 with h2 | ⟨g, c, cur, a, b, d⟩
  · exact .inl h2
  · exact .inr ⟨g, c, cur, a, by omega, d⟩
theorem own_capN {w : World} {B : Nat} {e : TypeId} {z : Nat} {ao : Option Addr} {n c n' : Nat} {xs : List Value} (h : w.ownsRow B e z (.slice ao n c) n' xs) : n ≤ c ∧ c ≤ 9223372036854775807 := by
  rcases h.2 with ⟨hv, hn⟩ | ⟨g, cap, cur, hv, _, _, hc, hm, _⟩
  · injection hv with _ h2 h3; omega
  · injection hv with _ h2 h3; unfold maxLen at hm; omega
set_option maxHeartbeats 4000000 in
set_option maxRecDepth 20000 in
theorem zwith_any (ao : Option Addr) (c : Nat) (l : List ZN) (k : ByteArray) (id : Nat) (w : World) (B : Nat) (hl : l.length ≤ 1000000) (_hid : id ≤ 9223372036854775807) (h : w.ownsRow B 77 2 (.slice ao l.length c) l.length (nmCells l)) :
    Calls Tryz.prog 68 #[.slice ao l.length c, .string k, .int .i64 id] w fun e w' => ∃ ro rc, e = .returned (.slice ro (zwith l k id).length rc) ∧ w'.ownsRow w.heap.size 77 2 (.slice ro (zwith l k id).length rc) (zwith l k id).length (nmCells (zwith l k id)) ∧ Below w.heap.size w w' := by
  have HW := hide (zwithout_any ao c l k w B hl h)
  have hrl := zwithout_le l k
  clear h
  unfold zwith
  generalize zwithout l k = rest at *
  go_enter Tryz.func68, Tryz.ntmps68
  go_wp2_with fail
  refine HW.out.mono ?_
  rintro e w1 ⟨ro, rc, rfl, o1, b1⟩
  have O1 := hide o1
  have B1 := hide b1
  clear o1 b1 HW
  go_wp2
  go_loopw [8] (fun kv wv => ∃ j : Nat, j ≤ rest.length ∧ kv = .int .i64 j ∧ wv = w1 ∧ Hid (∀ i (h : i < rest.length), i < j → zless rest[i].1 k = true)) (fun kv _ => rest.length - (intOf kv).toNat)
  case atStart => exact ⟨0, Nat.zero_le _, rfl, rfl, fun i _ h => by omega⟩
  case round =>
    obtain ⟨j, hj, rfl, rfl, HP⟩ := hrel
    by_cases hlt : j < rest.length
    · obtain ⟨g, rfl, hg, c0, c1⟩ := nm_at O1.out j hlt
      have hi0 : (0 : Int) ≤ (j : Int) := by omega
      have hi1 : (j : Int) < (rest.length : Int) := by omega
      obtain ⟨x, hx⟩ : ∃ x, rest[j] = x := ⟨_, rfl⟩
      rw [hx] at c0 c1
      have HX := hide hx
      clear hx
      obtain ⟨xn, xi⟩ := x
      simp only at c0 c1
      by_cases hz : zless xn k = true
      · have hz2 : Op.bytesLess xn.toList k.toList = true := hz
        have HZ := hide hz
        clear hz
        go_wp2
        go_roundw
        case rel => exact ⟨j + 1, by omega, by go_num, by first | rfl | trivial, fun i h hi => by
          by_cases e : i = j
          · subst e; rw [HX.out]; exact HZ.out
          · exact HP.out i h (by omega)⟩
        case measure => simp [intOf]; omega
      · have hz2 : Op.bytesLess xn.toList k.toList = false := by simpa [zless] using hz
        have hpl : zplace rest k = j := tw_len _ rest j hj HP.out fun h => by rw [HX.out]; simpa using hz
        have HPL := hide hpl
        clear hpl hz
        have HL1 := hide (show (nmCells (rest.take j)).length = j * 2 by rw [nmCells_length, List.length_take]; omega)
        have HL2 := hide (show (nmCells (rest.drop j)).length = (rest.length - j) * 2 by rw [nmCells_length, List.length_drop])
        have hcs := own_cells O1.out
        have hsp : nmCells rest = nmCells (rest.take j) ++ nmCells (rest.drop j) := by rw [← nmCells_append, List.take_append_drop]
        have HN1 : Hid (∀ i u, (nmCells (rest.take j))[i]? = some u → wr.cell? ((⟨g, 0, none⟩ : Addr).add i) = some u) := fun i u hu => by
          rw [Addr.add_lit, Nat.zero_add]
          refine hcs i u ?_
          rw [hsp, List.getElem?_append_left (List.getElem?_eq_some_iff.1 hu).1]
          exact hu
        have hrc := own_capN O1.out
        have hglt := (O1.out.lt g rfl).2
        have HN2 : Hid (∀ w6, Below wr.heap.size wr w6 → ∀ i u, (nmCells (rest.drop j))[i]? = some u → w6.cell? ((⟨g, j * 2, none⟩ : Addr).add i) = some u) := fun w6 hb i u hu => by
          rw [Addr.add_lit, hb.cell (p := ⟨g, j * 2 + i, none⟩) hglt]
          refine hcs _ u ?_
          rw [hsp, List.getElem?_append_right (by rw [HL1.out]; omega), HL1.out, show j * 2 + i - j * 2 = i by omega]
          exact hu
        obtain ⟨hrc1, hrc2⟩ := hrc
        have hjc : ¬ rc = j := by omega
        have hjc2 : j ≤ rc := by omega
        have hjc3 : (j : Int) ≤ (rest.length : Int) := by omega
        have hjc4 : (rest.length : Int) ≤ (rc : Int) := by omega
        clear hcs hsp
        obtain ⟨i0, hi0', hz0, hz1, hz2⟩ := zinfo_parts zinfoNm
        go_wp2_with (at_builtin; refine wpList_append_own _ rfl _ _ 58 rfl wr.heap.size 77 i0 _ 2 24 Tryz.underlying58 hi0' hz0 hz1 hz2 rfl (by decide) (.slice none 0 0) 0 [] rfl (World.ownsRow_nil _ _ _ _) ⟨g, 0, none⟩ j rc (nmCells (rest.take j)) rfl HL1.out ?hnews ?h1 ?h63 ?hb47 ?hbase ?_)
        case hnews => exact HN1.out
        case h1 => exact all_ones _
        case h63 => unfold maxLen; omega
        case hb47 => omega
        case hbase => exact Nat.le_refl _
        intro v5 w5 hown5 hgrow5 _
        obtain ⟨a5, c5, rfl⟩ := own_sl hown5
        have o5 : w5.ownsRow wr.heap.size 77 2 (.slice a5 j c5) j (nmCells (rest.take j)) := by simpa using hown5
        have O5 := hide o5
        have B5 : Hid (Below wr.heap.size wr w5) := (Below.refl _ wr).grown hgrow5 (Nat.le_refl _) (fun k hk => by cases hk)
        clear hown5 hgrow5 o5
        go_wp2_with (at_builtin; refine wpList_append_own _ rfl _ _ 58 rfl wr.heap.size 77 i0 _ 2 24 Tryz.underlying58 hi0' hz0 hz1 hz2 rfl (by decide) _ _ _ rfl (O5.out.alloc _) ⟨_, 0, none⟩ 1 1 [.string k, .int .i64 id] rfl rfl ?hnewsb ?h1b ?h63b ?hb47b ?hbaseb ?_)
        case hnewsb => first | exact fun j u h => h | exact World.news_of_block (cs := #[.string k, .int .i64 id]) (t := 77) (fr := (0, 0)) (heap_alloc_new w5 _)
        case h1b => exact nm_ones _ _
        case h63b => unfold maxLen; omega
        case hb47b => omega
        case hbaseb => have := B5.out.size; simp; omega
        intro v6 w6 hown6 hgrow6 _
        obtain ⟨a6, c6, rfl⟩ := own_sl hown6
        have O6 : Hid (w6.ownsRow wr.heap.size 77 2 (.slice a6 (j + 1) c6) (j + 1) (nmCells (rest.take j ++ [(k, id)]))) := by
          rw [nmCells_snoc]
          exact hown6
        have B6 : Hid (Below wr.heap.size wr w6) := (B5.out.alloc B5.out.size _).grown hgrow6 (by have := B5.out.size; simp; omega) (fun k hk => (O5.out.lt k hk).1)
        have HN6 := hide (HN2.out w6 B6.out)
        clear hown6 hgrow6 O5 B5
        go_wp2_with (at_builtin; refine wpList_append_own _ rfl _ _ 58 rfl wr.heap.size 77 i0 _ 2 24 Tryz.underlying58 hi0' hz0 hz1 hz2 rfl (by decide) _ _ _ rfl O6.out ⟨g, j * 2, none⟩ (rest.length - j) (rc - j) (nmCells (rest.drop j)) rfl HL2.out ?hnewsc ?h1c ?h63c ?hb47c ?hbasec ?_)
        case hnewsc => exact HN6.out
        case h1c => exact all_ones _
        case h63c => unfold maxLen; omega
        case hb47c => omega
        case hbasec => exact B6.out.size
        intro v7 w7 hown7 hgrow7 _
        have B7 : Hid (Below wr.heap.size wr w7) := B6.out.grown hgrow7 B6.out.size (fun k hk => (O6.out.lt k hk).1)
        have O7 : Hid (w7.ownsRow w.heap.size 77 2 v7 (rest.take j ++ (k, id) :: rest.drop j).length (nmCells (rest.take j ++ (k, id) :: rest.drop j))) := by
          have e1 : (rest.take j ++ (k, id) :: rest.drop j).length = j + 1 + (rest.length - j) := by simp <;> omega
          have e2 : nmCells (rest.take j ++ (k, id) :: rest.drop j) = nmCells (rest.take j ++ [(k, id)]) ++ nmCells (rest.drop j) := by rw [← nmCells_append]; simp
          rw [e1, e2]
          first | exact own_base2 hown7 B1.out.size | (have h8 := own_base2 hown7 B1.out.size; unfold Hid; simpa using h8)
        obtain ⟨a7, c7, rfl⟩ := own_sl O7.out
        clear hown7 hgrow7 O6 B6
        go_wp2
        go_ret
        exact ⟨a7, c7, by rw [HPL.out]; rfl, by rw [HPL.out]; exact O7.out, B1.out.trans (B7.out.mono B1.out.size)⟩
    · obtain rfl : j = rest.length := by omega
      have hpl : zplace rest k = rest.length := tw_len _ rest _ hj HP.out fun h => absurd h hlt
      have HPL := hide hpl
      clear hpl
      have hi1 : ¬ (rest.length : Int) < (rest.length : Int) := by omega
      have hnil : rest.drop rest.length = [] := List.drop_length
      rcases O1.out.2 with ⟨hv, hn0⟩ | ⟨g, cap, cur, hv, _, _, _⟩
      · obtain rfl : rest = [] := List.eq_nil_of_length_eq_zero hn0
        injection hv with e1 e2 e3
        subst e1 e3
        simp only [List.length_nil] at *
        obtain ⟨i0, hi0', hz0, hz1, hz2⟩ := zinfo_parts zinfoNm
        go_wp2_with (at_builtin; first | refine wpList_append_own_none rfl _ _ 58 rfl wr.heap.size 77 i0 2 Tryz.underlying58 hi0' (.slice none 0 0) 0 [] rfl (World.ownsRow_nil _ _ _ _) rfl ?_ | refine wpList_append_own _ rfl _ _ 58 rfl wr.heap.size 77 i0 _ 2 24 Tryz.underlying58 hi0' hz0 hz1 hz2 rfl (by decide) (.slice none 0 0) 0 [] rfl (World.ownsRow_nil _ _ _ _) ⟨_, 0, none⟩ 1 1 [.string k, .int .i64 id] rfl rfl (by first | exact fun j u h => h | exact World.news_of_block (cs := #[.string k, .int .i64 id]) (t := 77) (fr := (0, 0)) (heap_alloc_new wr _)) (nm_ones _ _) (by unfold maxLen; omega) (by omega) (by simp) ?_)
        intro v6 w6 hown6 hgrow6 _
        obtain ⟨a6, c6, rfl⟩ := own_sl hown6
        have O6 : Hid (w6.ownsRow wr.heap.size 77 2 (.slice a6 1 c6) 1 (nmCells [(k, id)])) := hown6
        have B6 : Hid (Below wr.heap.size wr w6) := ((Below.refl _ wr).alloc (Nat.le_refl _) _).grown hgrow6 (by simp) (fun k hk => by cases hk)
        clear hown6 hgrow6
        go_wp2_with (at_builtin; refine wpList_append_own_none rfl _ _ 58 rfl wr.heap.size 77 i0 2 Tryz.underlying58 hi0' _ _ _ rfl O6.out rfl ?_)
        go_wp2
        go_ret
        have hz : List.take (zplace [] k) ([] : List ZN) ++ (k, id) :: List.drop (zplace [] k) [] = [(k, id)] := by simp
        rw [hz]
        exact ⟨a6, c6, rfl, own_base2 O6.out B1.out.size, B1.out.trans (B6.out.mono B1.out.size)⟩
      · injection hv with e1 e2 e3
        subst e1 e3
        have hi0 : (0 : Int) ≤ (rest.length : Int) := by omega
        have HL1 := hide (show (nmCells (rest.take rest.length)).length = rest.length * 2 by rw [nmCells_length, List.length_take]; omega)
        have HL2 := hide (show (nmCells (rest.drop rest.length)).length = (rest.length - rest.length) * 2 by rw [nmCells_length, List.length_drop])
        have hcs := own_cells O1.out
        have hsp : nmCells rest = nmCells (rest.take rest.length) ++ nmCells (rest.drop rest.length) := by rw [← nmCells_append, List.take_append_drop]
        have HN1 : Hid (∀ i u, (nmCells (rest.take rest.length))[i]? = some u → wr.cell? ((⟨g, 0, none⟩ : Addr).add i) = some u) := fun i u hu => by
          rw [Addr.add_lit, Nat.zero_add]
          refine hcs i u ?_
          rw [hsp, List.getElem?_append_left (List.getElem?_eq_some_iff.1 hu).1]
          exact hu
        have hrc := own_capN O1.out
        have hglt := (O1.out.lt g rfl).2
        obtain ⟨hrc1, hrc2⟩ := hrc
        have hjc4 : (rest.length : Int) ≤ (rc : Int) := by omega
        have HN2 : Hid (∀ w6 : World, Below wr.heap.size wr w6 → ∀ (AD : Addr) (i : Nat) (u : Value), (nmCells (rest.drop rest.length))[i]? = some u → w6.cell? (AD.add i) = some u) := fun w6 _ AD i u hu => by
          rw [hnil] at hu
          simp [nmCells] at hu
        have HN0 := hide hcs
        have HL0 := hide (nmCells_length rest)
        have HL3 : Hid ((nmCells (rest.drop rest.length)).length = 0 * 2) := by rw [hnil]; exact rfl
        clear hcs hsp hnil
        obtain ⟨i0, hi0', hz0, hz1, hz2⟩ := zinfo_parts zinfoNm
        go_wp2_with (at_builtin; refine wpList_append_own _ rfl _ _ 58 rfl wr.heap.size 77 i0 _ 2 24 Tryz.underlying58 hi0' hz0 hz1 hz2 rfl (by decide) (.slice none 0 0) 0 [] rfl (World.ownsRow_nil _ _ _ _) ⟨g, 0, none⟩ rest.length rc (nmCells rest) rfl HL0.out ?hnews ?h1 ?h63 ?hb47 ?hbase ?_)
        all_goals try exact Nat.le_refl _
        case hnews => first | exact HN1.out | exact HN0.out
        case h1 => exact all_ones _
        case h63 => unfold maxLen; omega
        case hb47 => omega
        intro v5 w5 hown5 hgrow5 _
        obtain ⟨a5, c5, rfl⟩ := own_sl hown5
        have o5 : w5.ownsRow wr.heap.size 77 2 (.slice a5 rest.length c5) rest.length (nmCells rest) := by simpa using hown5
        have O5 := hide o5
        have B5 : Hid (Below wr.heap.size wr w5) := (Below.refl _ wr).grown hgrow5 (Nat.le_refl _) (fun k hk => by cases hk)
        clear hown5 hgrow5 o5
        go_wp2_with (at_builtin; refine wpList_append_own _ rfl _ _ 58 rfl wr.heap.size 77 i0 _ 2 24 Tryz.underlying58 hi0' hz0 hz1 hz2 rfl (by decide) _ _ _ rfl (O5.out.alloc _) ⟨_, 0, none⟩ 1 1 [.string k, .int .i64 id] rfl rfl ?hnewsb ?h1b ?h63b ?hb47b ?hbaseb ?_)
        case hnewsb => first | exact fun j u h => h | exact World.news_of_block (cs := #[.string k, .int .i64 id]) (t := 77) (fr := (0, 0)) (heap_alloc_new w5 _)
        case h1b => exact nm_ones _ _
        case h63b => unfold maxLen; omega
        case hb47b => omega
        case hbaseb => have := B5.out.size; simp; omega
        intro v6 w6 hown6 hgrow6 _
        obtain ⟨a6, c6, rfl⟩ := own_sl hown6
        have O6 : Hid (w6.ownsRow wr.heap.size 77 2 (.slice a6 (rest.length + 1) c6) (rest.length + 1) (nmCells (rest ++ [(k, id)]))) := by
          rw [nmCells_snoc]
          exact hown6
        have B6 : Hid (Below wr.heap.size wr w6) := (B5.out.alloc B5.out.size _).grown hgrow6 (by have := B5.out.size; simp; omega) (fun k hk => (O5.out.lt k hk).1)
        have HN6 := hide (HN2.out w6 B6.out)
        clear hown6 hgrow6 O5 B5
        by_cases hcr : rc = rest.length
        · subst hcr
          go_wp2_with (at_builtin; refine wpList_append_own _ rfl _ _ 58 rfl wr.heap.size 77 i0 _ 2 24 Tryz.underlying58 hi0' hz0 hz1 hz2 rfl (by decide) _ _ _ rfl O6.out ⟨g, 0, none⟩ 0 0 (nmCells (rest.drop rest.length)) rfl HL3.out ?hnewsc ?h1c ?h63c ?hb47c ?hbasec ?_)
          case hnewsc => exact HN6.out _
          case h1c => exact all_ones _
          case h63c => unfold maxLen; omega
          case hb47c => omega
          case hbasec => exact B6.out.size
          intro v7 w7 hown7 hgrow7 _
          have B7 : Hid (Below wr.heap.size wr w7) := B6.out.grown hgrow7 B6.out.size (fun k hk => (O6.out.lt k hk).1)
          have O7 : Hid (w7.ownsRow w.heap.size 77 2 v7 (rest.take rest.length ++ (k, id) :: rest.drop rest.length).length (nmCells (rest.take rest.length ++ (k, id) :: rest.drop rest.length))) := by
            have e1 : (rest.take rest.length ++ (k, id) :: rest.drop rest.length).length = rest.length + 1 + 0 := by simp <;> omega
            have e2 : nmCells (rest.take rest.length ++ (k, id) :: rest.drop rest.length) = nmCells (rest ++ [(k, id)]) ++ nmCells (rest.drop rest.length) := by rw [← nmCells_append]; simp
            rw [e1, e2]
            first | exact own_base2 hown7 B1.out.size | (have h8 := own_base2 hown7 B1.out.size; unfold Hid; simpa using h8)
          obtain ⟨a7, c7, rfl⟩ := own_sl O7.out
          clear hown7 hgrow7 O6 B6
          go_wp2
          go_ret
          exact ⟨a7, c7, by rw [HPL.out]; rfl, by rw [HPL.out]; exact O7.out, B1.out.trans (B7.out.mono B1.out.size)⟩
        · have hcr2 : ¬ rest.length = rc := fun e => hcr e.symm
          go_wp2_with (at_builtin; refine wpList_append_own _ rfl _ _ 58 rfl wr.heap.size 77 i0 _ 2 24 Tryz.underlying58 hi0' hz0 hz1 hz2 rfl (by decide) _ _ _ rfl O6.out ⟨g, rest.length * 2, none⟩ 0 (rc - rest.length) (nmCells (rest.drop rest.length)) rfl HL3.out ?hnewsc ?h1c ?h63c ?hb47c ?hbasec ?_)
          case hnewsc => exact HN6.out _
          case h1c => exact all_ones _
          case h63c => unfold maxLen; omega
          case hb47c => omega
          case hbasec => exact B6.out.size
          intro v7 w7 hown7 hgrow7 _
          have B7 : Hid (Below wr.heap.size wr w7) := B6.out.grown hgrow7 B6.out.size (fun k hk => (O6.out.lt k hk).1)
          have O7 : Hid (w7.ownsRow w.heap.size 77 2 v7 (rest.take rest.length ++ (k, id) :: rest.drop rest.length).length (nmCells (rest.take rest.length ++ (k, id) :: rest.drop rest.length))) := by
            have e1 : (rest.take rest.length ++ (k, id) :: rest.drop rest.length).length = rest.length + 1 + 0 := by simp <;> omega
            have e2 : nmCells (rest.take rest.length ++ (k, id) :: rest.drop rest.length) = nmCells (rest ++ [(k, id)]) ++ nmCells (rest.drop rest.length) := by rw [← nmCells_append]; simp
            rw [e1, e2]
            first | exact own_base2 hown7 B1.out.size | (have h8 := own_base2 hown7 B1.out.size; unfold Hid; simpa using h8)
          obtain ⟨a7, c7, rfl⟩ := own_sl O7.out
          clear hown7 hgrow7 O6 B6
          go_wp2
          go_ret
          exact ⟨a7, c7, by rw [HPL.out]; rfl, by rw [HPL.out]; exact O7.out, B1.out.trans (B7.out.mono B1.out.size)⟩
end Go.Proofs.YtknldpaaikcedaaGreat
/-
  carillonref04's gone, as it runs.
-/
namespace Go.Proofs.YtknldpaaikcedaaGreat
open Go.RowKit

/-- A call of a Go function as one step of a region that draws its order; its answer lies in the slot d. -/
theorem zstep_fn {P : Program} {w : World} {ops : Array Oper} {o : Oper} {a : Act} {K : Act → World → Prop} {Q : Exit → Act → World → Prop} {E : Prop} (hw : Region.wanted o (yielded ops a.tmps) = true) (d : Nat) (hd : o.dst = some d) (k : Nat) (args : Array Operand) (ts : Array TypeId)
    (ho : o.op = .call { callee := .value (.func k), args := args, argTypes := ts }) (hk : ∀ args w, (callFunc k args).run P w = .ok (.enter k args) w) (vs : List Value) (hvs' : args.toList.map a.eval = vs) {R : Ending → World → Prop} (hc : Calls P k vs.toArray w R)
    (h : ∀ e w', R e w' → ∃ v, e = .returned v ∧ K (a.put (some d) v) w') :
    if Region.wanted o (yielded ops a.tmps) = true then Oper.wp P o a w K Q else E := by
  rw [if_pos hw]
  have hvs : args.map a.eval = vs.toArray := by rw [← hvs', ← Array.toList_map, Array.toArray_toList]
  unfold Oper.wp
  simp [execOp, ho, resolve, invoke, hvs, Act.eval, Deferred.ofValue, hk, Oper.upon]
  refine hc.mono ?_
  intro e w' hr
  obtain ⟨v, rfl, hv⟩ := h e w' hr
  rw [hd]
  exact hv
theorem zown_below {w w' : World} {B : Nat} {e : TypeId} {size : Nat} {v : Value} {n : Nat} {xs : List Value} (h : w.ownsRow B e size v n xs) (hb : Below w.heap.size w w') : w'.ownsRow B e size v n xs := below_row hb h
def ZS.v (x : ZS) : Value := .agg #[.int .i64 x.kind, .string x.a, .string x.b, .int .i64 x.id]
def zgone (l : List ZN) (x : ZS) : List ZN :=
  if x.kind = 1 then zwith l x.a x.id else if x.kind = 2 then zwith (zwithout l x.a) x.b (zfind l x.a).toNat else zwithout l x.a
def ZRet (w w' : World) (e : Ending) (r : List ZN) : Prop := ∃ ro rc, e = .returned (.slice ro r.length rc) ∧ w'.ownsRow w.heap.size 77 2 (.slice ro r.length rc) r.length (nmCells r) ∧ Below w.heap.size w w'
theorem zwith_le (l : List ZN) (k : ByteArray) (id : Nat) : (zwith l k id).length ≤ l.length + 1 := by
  have := zwithout_le l k
  unfold zwith
  simp only [List.length_append, List.length_take, List.length_cons, List.length_drop]
  omega
theorem zbox4 {W : World} {b : Nat} {t : TypeId} {v0 v1 v2 v3 : Value} (h : W.heap[b]? = some (.cells #[v0, v1, v2, v3] t)) :
    W.cell? ⟨b, 0, none⟩ = some v0 ∧ W.cell? ⟨b, 1, none⟩ = some v1 ∧ W.cell? ⟨b, 2, none⟩ = some v2 ∧ W.cell? ⟨b, 3, none⟩ = some v3 :=
  ⟨by rw [Lib.cell_of_heap h]; rfl, by rw [Lib.cell_of_heap h]; rfl, by rw [Lib.cell_of_heap h]; rfl, by rw [Lib.cell_of_heap h]; rfl⟩
set_option maxHeartbeats 2000000 in
set_option maxRecDepth 20000 in
theorem zgone_any (ao : Option Addr) (c : Nat) (l : List ZN) (x : ZS) (w : World) (B : Nat) (hl : l.length ≤ 100000) (hid : x.id ≤ 1000000) (hf : x.kind = 2 → 0 ≤ zfind l x.a ∧ zfind l x.a ≤ 1000000) (h : w.ownsRow B 77 2 (.slice ao l.length c) l.length (nmCells l)) :
    Calls Tryz.prog 30 #[.slice ao l.length c, x.v] w fun e w' => ZRet w w' e (zgone l x) := by
  obtain ⟨kind, a, b, id⟩ := x
  simp only at hid hf
  have HA := hide h
  clear h
  simp only [ZS.v]
  have ba : Below w.heap.size w (w.alloc (Obj.cells #[.int .i64 kind, .string a, .string b, .int .i64 id] 72)) := (Below.refl _ _).alloc (Nat.le_refl _) _
  have BA := hide ba
  have OA := hide (HA.out.alloc (Obj.cells #[.int .i64 kind, .string a, .string b, .int .i64 id] 72))
  clear ba
  by_cases h1 : kind = 1
  · subst h1
    have HW := hide (zwith_any ao c l a id _ B (by omega) (by omega) OA.out)
    have e : zgone l ⟨1, a, b, id⟩ = zwith l a id := rfl
    rw [e]
    generalize zwith l a id = R at *
    clear e hf
    go_enter Tryz.func30, Tryz.ntmps30
    go_wp2_with fail
    refine HW.out.mono ?_
    rintro e w1 ⟨ro, rc, rfl, o1, b1⟩
    have O1 := hide o1
    have B1 := hide b1
    clear o1 b1 HW
    go_wp2
    go_ret
    exact ⟨ro, rc, rfl, own_base2 O1.out (by simp), BA.out.trans (B1.out.mono (by simp))⟩
  · have g1 : (kind == 1) = false := by rw [beq_eq_false_iff_ne]; exact h1
    by_cases h2 : kind = 2
    · subst h2
      obtain ⟨hf1, hf2⟩ := hf rfl
      obtain ⟨m, hm⟩ : ∃ m : Nat, zfind l a = m := ⟨(zfind l a).toNat, by omega⟩
      have HF := hide (zfind_any ao c l a _ B (by omega) OA.out)
      have HW := hide (fun W (h : World.ownsRow W B 77 2 (.slice ao l.length c) l.length (nmCells l)) => zwithout_any ao c l a W B (by omega) h)
      have hwl := zwithout_le l a
      have e : zgone l ⟨2, a, b, id⟩ = zwith (zwithout l a) b m := by
        show zwith (zwithout l a) b (zfind l a).toNat = _
        rw [hm]
        rfl
      rw [e]
      rw [hm] at HF
      have HZ := hide (fun ro rc W B (h : World.ownsRow W B 77 2 (.slice ro (zwithout l a).length rc) (zwithout l a).length (nmCells (zwithout l a))) => zwith_any ro rc (zwithout l a) b m W B (by omega) (by omega) h)
      generalize zwith (zwithout l a) b m = R at *
      generalize zwithout l a = R1 at *
      clear e hf1 hf2 hf hm h1
      go_enter Tryz.func30, Tryz.ntmps30
      go_wp2_with fail
      refine HF.out.mono ?_
      rintro e w1 ⟨rfl, hw⟩
      obtain rfl := hw.symm
      clear hw HF
      have hbx := heap_alloc_new w (Obj.cells #[.int .i64 2, .string a, .string b, .int .i64 id] 72)
      generalize w.alloc (Obj.cells #[.int .i64 2, .string a, .string b, .int .i64 id] 72) = W0 at *
      generalize hD0 : w.heap.size = D0 at hbx ⊢
      have hlt : D0 < W0.heap.size := heap_lt hbx
      obtain ⟨_, c1, c2, _⟩ := zbox4 hbx
      have HK1 := hide (enters_of Tryz.func69 (by kernel_rfl) rfl)
      have HK2 := hide (enters_of Tryz.func68 (by kernel_rfl) rfl)
      clear hbx
      go_wp2_with fail
      go_region_held_law (fun w' => w'.cell? ⟨D0, 1, none⟩ = some (.string a) ∧ w'.cell? ⟨D0, 2, none⟩ = some (.string b)) (first | go_keep | exact ⟨z1, z2⟩ | exact ⟨y1, y2⟩) (first
        | (refine zstep_fn (by rfl) 25 (by rfl) 69 _ _ (by rfl) HK1.out [.slice ao l.length c, .string a] (by rfl) (HW.out _ (by first | exact OA.out | exact OA.out.drew)) ?_; rintro e w4 ⟨ro, rc, rfl, o4, b4⟩; refine ⟨_, rfl, ?_⟩; have O4 := hide o4; have B4 : Hid (Below W0.heap.size W0 w4) := ⟨b4.os, b4.tape, b4.output, b4.size, b4.block⟩; have z1 := (B4.out.cell (p := ⟨D0, 1, none⟩) hlt).trans c1; have z2 := (B4.out.cell (p := ⟨D0, 2, none⟩) hlt).trans c2; clear o4 b4)
        | (refine zstep_fn (by rfl) 29 (by rfl) 68 _ _ (by rfl) HK2.out [.slice ro R1.length rc, .string b, .int .i64 m] (by rfl) (HZ.out ro rc _ _ (by first | exact O4.out | exact O4.out.drew)) ?_; rintro e w5 ⟨ro5, rc5, rfl, o5, b5⟩; refine ⟨_, rfl, ?_⟩; have O5 := hide o5; have B5 : Hid (Below w4.heap.size w4 w5) := ⟨b5.os, b5.tape, b5.output, b5.size, b5.block⟩; have hlt4 : D0 < w4.heap.size := Nat.lt_of_lt_of_le hlt B4.out.size; have y1 := (B5.out.cell (p := ⟨D0, 1, none⟩) hlt4).trans z1; have y2 := (B5.out.cell (p := ⟨D0, 2, none⟩) hlt4).trans z2; clear o5 b5))
      all_goals (
        go_wp2_with fail
        go_ret
        have hs4 := B4.out.size
        have hs0 := BA.out.size
        exact ⟨ro5, rc5, rfl, own_base2 O5.out (by first | omega | (simp; omega)), BA.out.trans ((B4.out.trans (B5.out.mono hs4)).mono hs0)⟩)
    · have g2 : (kind == 2) = false := by rw [beq_eq_false_iff_ne]; exact h2
      have HW := hide (zwithout_any ao c l a _ B (by omega) OA.out)
      have e : zgone l ⟨kind, a, b, id⟩ = zwithout l a := by unfold zgone; rw [if_neg h1, if_neg h2]
      rw [e]
      generalize zwithout l a = R at *
      clear e hf h1 h2
      go_enter Tryz.func30, Tryz.ntmps30
      go_wp2_with fail
      refine HW.out.mono ?_
      rintro e w1 ⟨ro, rc, rfl, o1, b1⟩
      have O1 := hide o1
      have B1 := hide b1
      clear o1 b1 HW
      go_wp2
      go_ret
      exact ⟨ro, rc, rfl, own_base2 O1.out (by simp), BA.out.trans (B1.out.mono (by simp))⟩
end Go.Proofs.YtknldpaaikcedaaGreat
