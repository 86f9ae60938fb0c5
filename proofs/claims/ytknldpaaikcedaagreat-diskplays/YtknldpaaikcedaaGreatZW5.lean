/-
  What is done with names: creating$1, renaming$1, removing$1 as they run.
-/
import Derived.Test.YtknldpaaikcedaaGreatZP2
import Derived.Test.YtknldpaaikcedaaGreatZW4
namespace Go.Proofs.YtknldpaaikcedaaGreat
open Go.RowKit Go.Maps

theorem keyedS : Keyed Tryz.prog 9 := string_keyed Tryz.underlying9
theorem zeroFile (w : World) : (zeroValue 62).run Tryz.prog w = .ok (.pointer none) w := by kernel_rfl
/-- The function of an act of the directory. -/
def DA.fn (x : DA) : Nat :=
  match x.kind with
  | 0 => 74
  | 1 => 76
  | _ => 78
/-- What it captured: pointers. -/
def DA.caps (x : DA) : Array Value :=
  match x.kind with
  | 0 => #[.pointer (some ⟨x.c, 0, none⟩), .pointer (some ⟨x.d, 0, none⟩)]
  | 1 => #[.pointer (some ⟨x.c, 0, none⟩), .pointer (some ⟨x.d, 0, none⟩)]
  | _ => #[.pointer (some ⟨x.c, 0, none⟩)]
/-- What an act of the directory captured lies in its blocks. -/
def DA.held (w : World) (x : DA) : Prop :=
  match x.kind with
  | 0 => w.heap[x.c]? = some (.cells #[.pointer (some ⟨x.id, 0, none⟩)] 62 (0, 0)) ∧ w.heap[x.d]? = some (.cells #[.string x.a] 9 (0, 0)) ∧ x.a.size ≤ 40
  | 1 => w.heap[x.c]? = some (.cells #[.string x.a] 9 (0, 0)) ∧ w.heap[x.d]? = some (.cells #[.string x.b] 9 (0, 0)) ∧ x.a.size ≤ 40 ∧ x.b.size ≤ 40
  | _ => w.heap[x.c]? = some (.cells #[.string x.a] 9 (0, 0)) ∧ x.d = x.c ∧ x.a.size ≤ 40
theorem DA.held_of {w w1 : World} {x : DA} (h : x.held w) (hc : w1.heap[x.c]? = w.heap[x.c]?) (hd : w1.heap[x.d]? = w.heap[x.d]?) : x.held w1 := by
  unfold DA.held at *
  split at h
  · exact ⟨hc.trans h.1, hd.trans h.2.1, h.2.2⟩
  · exact ⟨hc.trans h.1, hd.trans h.2.1, h.2.2⟩
  · exact ⟨hc.trans h.1, h.2⟩
theorem DA.held_lt {w : World} {x : DA} (h : x.held w) : x.c < w.heap.size ∧ x.d < w.heap.size := by
  unfold DA.held at *
  split at h
  · exact ⟨heap_lt h.1, heap_lt h.2.1⟩
  · exact ⟨heap_lt h.1, heap_lt h.2.1⟩
  · exact ⟨heap_lt h.1, by rw [h.2.1]; exact heap_lt h.1⟩

theorem create_do (mb n : Nat) (D : DataW Nat) (c d id : Nat) (a : ByteArray) (w : World) (hc : w.cell? ⟨c, 0, none⟩ = some (.pointer (some ⟨id, 0, none⟩))) (hd : w.cell? ⟨d, 0, none⟩ = some (.string a)) (ha : a.size ≤ maxLen) (hn : n < maxLen) (hown : w.ownsMap Tryz.prog 9 ptrR mb n D) :
    Calls Tryz.prog 74 #[.map (some mb), .pointer (some ⟨c, 0, none⟩), .pointer (some ⟨d, 0, none⟩)] w fun e w' => e = .returned (.tuple #[]) ∧ w'.ownsMap Tryz.prog 9 ptrR mb (n + 1) (dput D a.data.toList id) ∧ w.grownBy w' (some mb) := by
  have HO := hide hown
  have HK := hide (Go.WideMaps.keyOf_string_mk Tryz.underlying9 ha)
  clear hown
  go_enter Tryz.func74, Tryz.ntmps74
  go_wp2_with (first | (at_mapUpdate; refine wpList_mapUpdate_in _ rfl _ _ _ 50 rfl 9 62 keyedS Tryz.underlying50 ptrR mb n D rfl HO.out hn _ _ _ rfl rfl HK.out _ [] (ptrR_some id) ?_; intro w1 h1 h2) | go_in)
  go_end0
  exact ⟨rfl, h1, h2.grown⟩
theorem remove_do (mb n : Nat) (D : DataW Nat) (c : Nat) (a : ByteArray) (w : World) (hc : w.cell? ⟨c, 0, none⟩ = some (.string a)) (ha : a.size ≤ maxLen) (hown : w.ownsMap Tryz.prog 9 ptrR mb n D) :
    Calls Tryz.prog 78 #[.map (some mb), .pointer (some ⟨c, 0, none⟩)] w fun e w' => e = .returned (.tuple #[]) ∧ w'.ownsMap Tryz.prog 9 ptrR mb n (ddel D a.data.toList) ∧ w.grownBy w' (some mb) := by
  have HO := hide hown
  have HK := hide (Go.WideMaps.keyOf_string_mk Tryz.underlying9 ha)
  clear hown
  go_enter Tryz.func78, Tryz.ntmps78
  go_wp2_with (first | (at_delete; refine wpList_delete_own _ rfl _ _ 50 9 rfl 62 keyedS Tryz.underlying50 ptrR mb n D rfl HO.out _ _ rfl HK.out ?_; intro w1 h1 h2) | go_in)
  go_end0
  exact ⟨rfl, h1, h2.grown⟩
set_option maxHeartbeats 1000000 in
theorem rename_do (mb n : Nat) (D : DataW Nat) (c d f : Nat) (a b : ByteArray) (w : World) (hc : w.cell? ⟨c, 0, none⟩ = some (.string a)) (hd : w.cell? ⟨d, 0, none⟩ = some (.string b)) (ha : a.size ≤ maxLen) (hb : b.size ≤ maxLen) (hn : n < maxLen) (hdm : d ≠ mb)
    (hown : w.ownsMap Tryz.prog 9 ptrR mb n D) (hf : dget D a.data.toList = some f) :
    Calls Tryz.prog 76 #[.map (some mb), .pointer (some ⟨c, 0, none⟩), .pointer (some ⟨d, 0, none⟩)] w fun e w' => e = .returned (.tuple #[]) ∧ w'.ownsMap Tryz.prog 9 ptrR mb (n + 1) (dput (ddel D a.data.toList) b.data.toList f) ∧ w.grownBy w' (some mb) := by
  have HO := hide hown
  have HK := hide (Go.WideMaps.keyOf_string_mk Tryz.underlying9 ha)
  have HK2 := hide (Go.WideMaps.keyOf_string_mk Tryz.underlying9 hb)
  have hlk := dlook hown keyedS Tryz.underlying50 Tryz.underlying9 (zeroFile w) a ha
  rw [hf] at hlk
  have hlk2 : (Instr.lookup 50 (.map (some mb)) (.string a) false).run Tryz.prog w = .ok (.pointer (some ⟨f, 0, none⟩)) w := hlk
  clear hown hlk
  go_enter Tryz.func76, Tryz.ntmps76
  go_wp2_with (first
    | (at_delete; refine wpList_delete_own _ rfl _ _ 50 9 rfl 62 keyedS Tryz.underlying50 ptrR mb n D rfl HO.out _ _ rfl HK.out ?_; intro w1 h1 h2; have hd1 : w1.cell? ⟨d, 0, none⟩ = some (.string b) := h2.grown.cell hd (by simpa using hdm))
    | (at_mapUpdate; refine wpList_mapUpdate_in _ rfl _ _ _ 50 rfl 9 62 keyedS Tryz.underlying50 ptrR mb n _ rfl h1 hn _ _ _ rfl rfl HK2.out _ [] (ptrR_some f) ?_; intro w2 h3 h4)
    | go_in)
  go_end0
  exact ⟨rfl, h3, (h2.grown).andThen h4.grown fun j e => .inr e⟩

end Go.Proofs.YtknldpaaikcedaaGreat
