/-
  itemsOf, as it runs (mkuo.py).
-/
import Derived.Test.YtfoomgdlbkjaeaaGreatZRep
import Derived.BigQuiet
import Derived.Deep.QuietTactic
namespace Go.Proofs.YtfoomgdlbkjaeaaGreat.Y
open Go.RowKit Go.Maps
set_option maxHeartbeats 4000000
set_option maxRecDepth 100000
set_option linter.unusedSimpArgs false
set_option linter.unusedVariables false
theorem own_list {w : World} {B : Nat} {v : Value} {l : List K.It} (h : w.ownsRow B 83 3 v l.length (K.itemCells l)) (hl : 0 < l.length) : ∃ g cap, v = .slice (some ⟨g, 0, none⟩) l.length cap ∧ l.length ≤ cap ∧ cap ≤ maxLen ∧ B ≤ g ∧ (∃ ct, w.heap[g]? = some (.cells ct 83 (0, 0))) ∧ ∀ j u, (K.itemCells l)[j]? = some u → w.cell? ⟨g, j, none⟩ = some u := by
  rcases h.2 with ⟨h1, h2⟩ | ⟨g, cap, cur, hv, hg, hh, hn, hc, hs, ht⟩
  · omega
  · refine ⟨g, cap, hv, hn, hc, hg, ⟨cur, hh⟩, fun j u hj => ?_⟩
    rw [Lib.cell_of_heap hh]
    have := congrArg (fun q : List Value => q[j]?) ht
    rw [hj, List.getElem?_take] at this
    split at this
    · rw [← this]; simp
    · cases this
def shapeT (many : Nat) : List UInt8 := [116, 108, 108, 108] ++ Lib.repeatL [116, 108, 108] many ++ [42] ++ [108, 116, 108, 116, 116]
def shapeS (many : Nat) : ByteArray := ⟨(shapeT many).toArray⟩
theorem shape_eq (many : Nat) : (⟨#[116, 108, 108, 108]⟩ : ByteArray) ++ ⟨(Lib.repeatL [116, 108, 108] many).toArray⟩ ++ ⟨#[42]⟩ ++ ⟨#[108, 116, 108, 116, 116]⟩ = shapeS many := by
  unfold shapeS shapeT
  apply ByteArray.ext
  simp [ByteArray.data_append]
theorem shape_size (many : Nat) : (shapeS many).size = 10 + 3 * many := by
  show (shapeT many).toArray.size = _
  rw [List.size_toArray]
  simp only [shapeT, List.length_append, Lib.repeatL_length, List.length_cons, List.length_nil]
  omega
abbrev NOITEMS : Value := .tuple #[.slice none 0 0, .slice none 0 0, .slice none 0 0, .bool false]
theorem titems_bad1 (s T : ByteArray) (hs : s.size ≤ 9223372036854775807) (hT : T.size ≤ 9223372036854775807) (w : World) (hH : Calls Tryz.prog 75 #[.string s] w fun e w' => e = .returned (.string T) ∧ Below w.heap.size w w') (hd : (K.decF [116, 108, 108, 108] T.data.toList).2 ≠ 0) :
    Calls Tryz.prog 42 #[.string s] w fun e w' => e = .returned NOITEMS ∧ Below w.heap.size w w' := by
  have HH := hide hH
  have HD := hide (fun W => K.decode_any ⟨#[116, 108, 108, 108]⟩ T W (by unfold maxLen; decide) (by unfold maxLen; omega) _ rfl)
  clear hH
  have HD : Hid (∀ W, Calls Tryz.prog 74 #[.string ⟨#[116, 108, 108, 108]⟩, .string T] W fun e w' => ∃ v, e = .returned (.tuple #[v, .int .i64 (K.decF [116, 108, 108, 108] T.data.toList).2]) ∧ W.heap.size ≤ w'.heap.size ∧ (∃ ao n cp, v = .slice ao n cp) ∧ Below W.heap.size W w') := fun W => (HD.out W).mono (by
    rintro e w' ⟨v, rfl, ho, b⟩
    obtain ⟨ao, cp, rfl⟩ := row_slice ho
    exact ⟨_, rfl, b.size, ⟨_, _, _, rfl⟩, b⟩)
  generalize (K.decF [116, 108, 108, 108] T.data.toList).2 = er at *
  go_enter Tryz.func42, Tryz.ntmps42
  go_wp2_with fail
  refine HH.out.mono ?_
  rintro e w1 ⟨rfl, b1⟩
  have B1 := hide b1
  clear b1 HH
  go_wp2_with fail
  refine (HD.out w1).mono ?_
  rintro e w2 ⟨v, rfl, _, ⟨ao, n, cp, rfl⟩, b2⟩
  have B2 := hide (B1.out.trans (b2.mono B1.out.size))
  clear b2 B1 HD
  go_wp2
  refine bodyPost_ret (v := NOITEMS) (by simp [results, Tryz.results42, go_sem]) rfl ⟨rfl, B2.out⟩
theorem titems_bad2 (s T : ByteArray) (hs : s.size ≤ 9223372036854775807) (hT : T.size ≤ 9223372036854775807) (w : World) (hH : Calls Tryz.prog 75 #[.string s] w fun e w' => e = .returned (.string T) ∧ Below w.heap.size w w') (xa xb xc xd : K.It) (hd : K.decF [116, 108, 108, 108] T.data.toList = ([xa, xb, xc, xd], 0)) (hm : xd.n > 332) :
    Calls Tryz.prog 42 #[.string s] w fun e w' => e = .returned NOITEMS ∧ Below w.heap.size w w' := by
  have HH := hide hH
  have HD := hide (fun W => K.decode_any ⟨#[116, 108, 108, 108]⟩ T W (by unfold maxLen; decide) (by unfold maxLen; omega) _ rfl)
  clear hH
  rw [show (⟨#[116, 108, 108, 108]⟩ : ByteArray).data.toList = [116, 108, 108, 108] from rfl, hd] at HD
  go_enter Tryz.func42, Tryz.ntmps42
  go_wp2_with fail
  refine HH.out.mono ?_
  rintro e w1 ⟨rfl, b1⟩
  have B1 := hide b1
  clear b1 HH
  go_wp2_with fail
  refine (HD.out w1).mono ?_
  rintro e w2 ⟨v, rfl, ho, b2⟩
  have B2 := hide (B1.out.trans (b2.mono B1.out.size))
  obtain ⟨g, cp, rfl, hcp, hcm, hgB, ⟨ct, hgt⟩, hcl⟩ := own_list (l := [xa, xb, xc, xd]) ho (by simp)
  have HX := hide (And.intro hgt (And.intro hcl hgB))
  simp only [List.length_cons, List.length_nil, Nat.zero_add, Nat.reduceAdd] at *
  have c10 : w2.cell? ⟨g, 10, none⟩ = some (.int .u64 xd.n) := hcl 10 _ rfl
  clear b2 B1 HD ho hcl hgt
  go_wp2
  refine bodyPost_ret (v := NOITEMS) (by simp [results, Tryz.results42, go_sem]) rfl ⟨rfl, B2.out⟩
theorem titems_bad3 (s T : ByteArray) (hs : s.size ≤ 9223372036854775807) (hT : T.size ≤ 9223372036854775807) (w : World) (hH : Calls Tryz.prog 75 #[.string s] w fun e w' => e = .returned (.string T) ∧ Below w.heap.size w w') (xa xb xc xd : K.It) (hd : K.decF [116, 108, 108, 108] T.data.toList = ([xa, xb, xc, xd], 0)) (many : Nat) (hmn : xd.n = (many : Int)) (hm : many ≤ 332) (hd2 : (K.decF (shapeT many) s.data.toList).2 ≠ 0) :
    Calls Tryz.prog 42 #[.string s] w fun e w' => e = .returned NOITEMS ∧ Below w.heap.size w w' := by
  have HH := hide hH
  have HD := hide (fun W => K.decode_any ⟨#[116, 108, 108, 108]⟩ T W (by unfold maxLen; decide) (by unfold maxLen; omega) _ rfl)
  clear hH
  rw [show (⟨#[116, 108, 108, 108]⟩ : ByteArray).data.toList = [116, 108, 108, 108] from rfl, hd] at HD
  go_enter Tryz.func42, Tryz.ntmps42
  go_wp2_with fail
  refine HH.out.mono ?_
  rintro e w1 ⟨rfl, b1⟩
  have B1 := hide b1
  clear b1 HH
  go_wp2_with fail
  refine (HD.out w1).mono ?_
  rintro e w2 ⟨v, rfl, ho, b2⟩
  have B2 := hide (B1.out.trans (b2.mono B1.out.size))
  obtain ⟨g, cp, rfl, hcp, hcm, hgB, ⟨ct, hgt⟩, hcl⟩ := own_list (l := [xa, xb, xc, xd]) ho (by simp)
  have HX := hide (And.intro hgt (And.intro hcl hgB))
  simp only [List.length_cons, List.length_nil, Nat.zero_add, Nat.reduceAdd] at *
  have c10 : w2.cell? ⟨g, 10, none⟩ = some (.int .u64 (many : Int)) := by rw [← hmn]; exact hcl 10 _ rfl
  have e1 : IntKind.i64.wrap (many : Int) = (many : Int) := by rw [IntKind.wrap_i64]; omega
  have g5 : ¬ (many : Int) > 332 := by omega
  have HR : Hid (∀ W, Calls Tryz.prog 76 #[.string ⟨#[116, 108, 108]⟩, .int .i64 (many : Int)] W fun e w' => e = .returned (.string ⟨(Lib.repeatL [116, 108, 108] many).toArray⟩) ∧ Below W.heap.size W w') := fun W => Tryz.strings_Repeat ⟨#[116, 108, 108]⟩ many W (by omega) (by show 3 * many ≤ _; omega)
  have HD2 := hide (fun W => K.decode_any (shapeS many) s W (by rw [shape_size]; unfold maxLen; omega) (by unfold maxLen; omega) (K.decF (shapeT many) s.data.toList) (by simp [shapeS]))
  have HE := hide (shape_eq many)
  have hRs : (⟨(Lib.repeatL [116, 108, 108] many).toArray⟩ : ByteArray).size = 3 * many := by
    show (Lib.repeatL [116, 108, 108] many).toArray.size = _
    rw [List.size_toArray, Lib.repeatL_length]
    simp only [List.length_cons, List.length_nil]
    omega
  generalize (⟨(Lib.repeatL [116, 108, 108] many).toArray⟩ : ByteArray) = Rp at *
  have hz0 : (⟨#[116, 108, 108, 108]⟩ : ByteArray).size = 4 := rfl
  have hz1 : ((⟨#[116, 108, 108, 108]⟩ : ByteArray) ++ Rp).size = 4 + 3 * many := by rw [ByteArray.size_append, hRs]; rfl
  have hz2 : ((⟨#[116, 108, 108, 108]⟩ : ByteArray) ++ Rp ++ ⟨#[42]⟩).size = 5 + 3 * many := by rw [ByteArray.size_append, hz1]; show 4 + 3 * many + 1 = _; omega
  clear b2 B1 HD ho hcl hgt
  go_wp2_with fail
  refine (HR.out _).mono ?_
  rintro e w3 ⟨rfl, b3⟩
  have B3 := hide (B2.out.trans (b3.mono B2.out.size))
  have N3 := hide b3
  clear b3 HR
  go_wp2_with fail
  rw [HE.out]
  refine (HD2.out _).mono ?_
  rintro e w4 ⟨v, rfl, ho, b4⟩
  obtain ⟨ao, cp2, rfl⟩ := row_slice ho
  have B4 := hide (B3.out.trans (b4.mono B3.out.size))
  clear b4 ho HD2 HE
  generalize (K.decF (shapeT many) s.data.toList).2 = er at *
  go_wp2
  refine bodyPost_ret (v := NOITEMS) (by simp [results, Tryz.results42, go_sem]) rfl ⟨rfl, B4.out⟩
theorem elemItems : Tryz.prog.elem 66 = 83 := by kernel_rfl
theorem sizeOfItem (w : World) : (sizeOf 83).run Tryz.prog w = .ok 3 w := by kernel_rfl
theorem underItems : Tryz.prog.underlying 66 = some (.slice (Tryz.prog.elem 66)) := by rw [elemItems]; exact Tryz.underlying66
def partAt (g k cap : Nat) : Option Addr := if cap = k then some ⟨g, 0, none⟩ else some ⟨g, k * 3, none⟩
theorem slice_mid (g n cap m : Nat) (h1 : 4 + 3 * m ≤ n) (h2 : n ≤ cap) (W : World) : (Instr.slice 66 (.slice (some ⟨g, 0, none⟩) n cap) (some (.int .i64 4)) (some (.int .i64 (4 + (m : Int) * 3))) none).run Tryz.prog W = .ok (.slice (partAt g 4 cap) (3 * m) (cap - 4)) W := by
  rw [run_slice_lh (P := Tryz.prog) W 66 (some ⟨g, 0, none⟩) n cap underItems .i64 .i64 4 (4 + (m : Int) * 3) (by omega) (by omega) (by omega), elemItems, sizeOfItem]
  simp only [Result.andThen, sliced, partAt]
  rw [show (4 + (m : Int) * 3).toNat - (4 : Int).toNat = 3 * m by omega]
  by_cases h0 : cap = 4
  · rw [if_pos (by simpa using h0), if_pos h0]; rfl
  · rw [if_neg (by simpa using h0), if_neg h0, Option.map_some, Addr.add_lit]
    simp
theorem slice_tail (g n cap m : Nat) (h1 : 4 + 3 * m ≤ n) (h2 : n ≤ cap) (W : World) : (Instr.slice 66 (.slice (some ⟨g, 0, none⟩) n cap) (some (.int .i64 (4 + (m : Int) * 3))) none none).run Tryz.prog W = .ok (.slice (partAt g (4 + 3 * m) cap) (n - (4 + 3 * m)) (cap - (4 + 3 * m))) W := by
  rw [run_slice_l (P := Tryz.prog) W 66 (some ⟨g, 0, none⟩) n cap underItems .i64 (4 + (m : Int) * 3) (by omega) (by omega), elemItems, sizeOfItem]
  simp only [Result.andThen, sliced, partAt]
  rw [show (4 + (m : Int) * 3).toNat = 4 + 3 * m by omega]
  by_cases h0 : cap = 4 + 3 * m
  · rw [if_pos h0, if_pos h0]
  · rw [if_neg h0, if_neg h0, Option.map_some, Addr.add_lit]
    simp
theorem titems_good (s T : ByteArray) (hs : s.size ≤ 9223372036854775807) (hT : T.size ≤ 9223372036854775807) (w : World) (hH : Calls Tryz.prog 75 #[.string s] w fun e w' => e = .returned (.string T) ∧ Below w.heap.size w w') (xa xb xc xd : K.It) (hd : K.decF [116, 108, 108, 108] T.data.toList = ([xa, xb, xc, xd], 0)) (many : Nat) (hmn : xd.n = (many : Int)) (hm : many ≤ 332) (l : List K.It) (hd2 : K.decF (shapeT many) s.data.toList = (l, 0)) (hl : 4 + 3 * many ≤ l.length) :
    Calls Tryz.prog 42 #[.string s] w fun e w' => ∃ g cp g2 cp2, e = .returned (.tuple #[.slice (some ⟨g, 0, none⟩) 4 cp, .slice (partAt g2 4 cp2) (3 * many) (cp2 - 4), .slice (partAt g2 (4 + 3 * many) cp2) (l.length - (4 + 3 * many)) (cp2 - (4 + 3 * many)), .bool true]) ∧ 4 ≤ cp ∧ l.length ≤ cp2 ∧ g < w'.heap.size ∧ (∃ ct, w'.heap[g2]? = some (.cells ct 83 (0, 0))) ∧ (∀ j u, (K.itemCells [xa, xb, xc, xd])[j]? = some u → w'.cell? ⟨g, j, none⟩ = some u) ∧ (∀ j u, (K.itemCells l)[j]? = some u → w'.cell? ⟨g2, j, none⟩ = some u) ∧ Below w.heap.size w w' := by
  have HH := hide hH
  have HD := hide (fun W => K.decode_any ⟨#[116, 108, 108, 108]⟩ T W (by unfold maxLen; decide) (by unfold maxLen; omega) _ rfl)
  clear hH
  rw [show (⟨#[116, 108, 108, 108]⟩ : ByteArray).data.toList = [116, 108, 108, 108] from rfl, hd] at HD
  go_enter Tryz.func42, Tryz.ntmps42
  go_wp2_with fail
  refine HH.out.mono ?_
  rintro e w1 ⟨rfl, b1⟩
  have B1 := hide b1
  clear b1 HH
  go_wp2_with fail
  refine (HD.out w1).mono ?_
  rintro e w2 ⟨v, rfl, ho, b2⟩
  have B2 := hide (B1.out.trans (b2.mono B1.out.size))
  obtain ⟨g, cp, rfl, hcp, hcm, hgB, ⟨ct, hgt⟩, hcl⟩ := own_list (l := [xa, xb, xc, xd]) ho (by simp)
  have HX := hide (And.intro hgt (And.intro hcl hgB))
  simp only [List.length_cons, List.length_nil, Nat.zero_add, Nat.reduceAdd] at *
  have c10 : w2.cell? ⟨g, 10, none⟩ = some (.int .u64 (many : Int)) := by rw [← hmn]; exact hcl 10 _ rfl
  have e1 : IntKind.i64.wrap (many : Int) = (many : Int) := by rw [IntKind.wrap_i64]; omega
  have g5 : ¬ (many : Int) > 332 := by omega
  have HR : Hid (∀ W, Calls Tryz.prog 76 #[.string ⟨#[116, 108, 108]⟩, .int .i64 (many : Int)] W fun e w' => e = .returned (.string ⟨(Lib.repeatL [116, 108, 108] many).toArray⟩) ∧ Below W.heap.size W w') := fun W => Tryz.strings_Repeat ⟨#[116, 108, 108]⟩ many W (by omega) (by show 3 * many ≤ _; omega)
  have HD2 := hide (fun W => K.decode_any (shapeS many) s W (by rw [shape_size]; unfold maxLen; omega) (by unfold maxLen; omega) (K.decF (shapeT many) s.data.toList) (by simp [shapeS]))
  have HE := hide (shape_eq many)
  have hRs : (⟨(Lib.repeatL [116, 108, 108] many).toArray⟩ : ByteArray).size = 3 * many := by
    show (Lib.repeatL [116, 108, 108] many).toArray.size = _
    rw [List.size_toArray, Lib.repeatL_length]
    simp only [List.length_cons, List.length_nil]
    omega
  generalize (⟨(Lib.repeatL [116, 108, 108] many).toArray⟩ : ByteArray) = Rp at *
  have hz0 : (⟨#[116, 108, 108, 108]⟩ : ByteArray).size = 4 := rfl
  have hz1 : ((⟨#[116, 108, 108, 108]⟩ : ByteArray) ++ Rp).size = 4 + 3 * many := by rw [ByteArray.size_append, hRs]; rfl
  have hz2 : ((⟨#[116, 108, 108, 108]⟩ : ByteArray) ++ Rp ++ ⟨#[42]⟩).size = 5 + 3 * many := by rw [ByteArray.size_append, hz1]; show 4 + 3 * many + 1 = _; omega
  clear b2 B1 HD ho hcl hgt
  go_wp2_with fail
  refine (HR.out _).mono ?_
  rintro e w3 ⟨rfl, b3⟩
  have B3 := hide (B2.out.trans (b3.mono B2.out.size))
  have N3 := hide b3
  clear b3 HR
  go_wp2_with fail
  rw [HE.out]
  refine (HD2.out _).mono ?_
  rw [hd2]
  rintro e w4 ⟨v, rfl, ho, b4⟩
  obtain ⟨g2, cp2, rfl, hcp2, hcm2, hgB2, ⟨ct2, hgt2⟩, hcl2⟩ := own_list (l := l) ho (by omega)
  have B4 := hide (B3.out.trans (b4.mono B3.out.size))
  have S1 := slice_mid g2 l.length cp2 many hl hcp2
  have S2 := slice_tail g2 l.length cp2 many hl hcp2
  have hg2 := heap_lt HX.out.1
  have hg4 : g < w4.heap.size := by have := N3.out.size; have := b4.size; omega
  have HX4 : Hid (∀ j u, (K.itemCells [xa, xb, xc, xd])[j]? = some u → w4.cell? ⟨g, j, none⟩ = some u) := fun j u hj => by
    have := HX.out.2.1 j u hj
    have k1 := (N3.out.cell (p := ⟨g, j, none⟩) hg2).trans this
    exact (b4.cell (p := ⟨g, j, none⟩) (show g < w3.heap.size by have := N3.out.size; omega)).trans k1
  have HY := hide (And.intro hgt2 hcl2)
  have e2 : IntKind.i64.wrap ((many : Int) * 3) = (many : Int) * 3 := by rw [IntKind.wrap_i64]; omega
  have e3 : IntKind.i64.wrap (4 + (many : Int) * 3) = 4 + (many : Int) * 3 := by rw [IntKind.wrap_i64]; omega
  clear b4 ho HD2 HE hgt2 hcl2 HX N3
  generalize hn : l.length = n at *
  have HG4 := hide hg4
  clear hg4 hg2 c10
  go_wp2
  go_quiet (fail)
  have bd : Below w4.heap.size w4 (w4.drewN nq) := below_drewN (Below.refl _ _) _
  go_wp2
  refine bodyPost_ret (v := .tuple #[.slice (some ⟨g, 0, none⟩) 4 cp, .slice (partAt g2 4 cp2) (3 * many) (cp2 - 4), .slice (partAt g2 (4 + 3 * many) cp2) (n - (4 + 3 * many)) (cp2 - (4 + 3 * many)), .bool true]) (by simp [results, Tryz.results42, go_sem]) rfl ?_
  exact ⟨g, cp, g2, cp2, by rw [hn], hcp, by rw [hn]; exact hcp2, Nat.lt_of_lt_of_le HG4.out bd.size, ⟨_, (bd.block _ (heap_lt HY.out.1)).trans HY.out.1⟩, fun j u hj => (bd.cell (p := ⟨g, j, none⟩) HG4.out).trans (HX4.out j u hj), fun j u hj => (bd.cell (p := ⟨g2, j, none⟩) (heap_lt HY.out.1)).trans (HY.out.2 j u hj), B4.out.trans (bd.mono B4.out.size)⟩
end Go.Proofs.YtfoomgdlbkjaeaaGreat.Y
