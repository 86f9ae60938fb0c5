/-
  GaussTells as it runs.
-/
import Derived.Test.YtddmnmeijnncmabPut
import Derived.Laws.IdiomStrings
import Derived.BigRegion
import Derived.RegionTactic
import Derived.Laws.BitsAllLaws
namespace Go.Proofs.Ytddmnmeijnncmab
open Go.RowKit

theorem addr_add0 (b off n : Nat) : (⟨b, off, none⟩ : Addr).add n = ⟨b, off + n, none⟩ := by
  unfold Addr.add
  split
  · rename_i h; subst h; rfl
  · rfl
/-- A row of bytes of the call's own. -/
structure BytesAt (w0 w : World) (g : Nat) (l : List UInt8) : Prop where
  below : Below w0.heap.size w0 w
  new : w0.heap.size ≤ g
  lt : g < w.heap.size
  cells : ∀ j (h : j < l.length), w.cell? ⟨g, j, none⟩ = some (.int .u8 (l[j].toNat : Int))
  free : ∀ j, j < l.length → w.frozen? ⟨g, j, none⟩ = false

theorem bytes_conv (w : World) (s : ByteArray) : ∃ W cap, (convert 9 26 (.string s)).run Try.prog w = .ok (.slice (some ⟨w.heap.size, 0, none⟩) s.size cap) W ∧ BytesAt w W w.heap.size s.data.toList := by
  refine ⟨_, _, run_bytes_of_string w 9 26 5 s Try.underlying9 Try.underlying26 Try.underlying5, ?_, Nat.le_refl _, ?_, ?_, ?_⟩
  · exact ((Below.refl _ _).drew).alloc (Nat.le_refl _) _
  · simp
  · intro j h
    have e := World.cell?_alloc_mark w.drew (bytesRow s (grownCap w s.size 0 5)) 5 ((bytesRow s (grownCap w s.size 0 5)).size, (bytesRow s (grownCap w s.size 0 5)).size + 1) j
    have hj : j < s.data.size := by simpa using h
    rw [bytesRow_at s _ j hj] at e
    simpa using e
  · intro j h
    have e := World.frozen?_alloc_mark w.drew (bytesRow s (grownCap w s.size 0 5)) 5 (bytesRow s (grownCap w s.size 0 5)).size ((bytesRow s (grownCap w s.size 0 5)).size + 1) j
    have hj : j < s.data.size := by simpa using h
    have hb : j < (bytesRow s (grownCap w s.size 0 5)).size := by
      have := bytesRow_at s (grownCap w s.size 0 5) j hj
      exact (Array.getElem?_eq_some_iff.1 this).1
    have hd : decide ((bytesRow s (grownCap w s.size 0 5)).size ≤ j) = false := by rw [decide_eq_false_iff_not]; omega
    rw [hd, Bool.false_and] at e
    exact e

theorem BytesAt.set {w0 w : World} {g : Nat} {l : List UInt8} (h : BytesAt w0 w g l) (i : Nat) (hi : i < l.length) (c : UInt8) (y : Int) (hy : y = (c.toNat : Int)) : BytesAt w0 (w.setCell ⟨g, i, none⟩ (.int .u8 y)).drew g (l.set i c) := by
  obtain ⟨v0, hv0⟩ : ∃ v, w.cell? ⟨g, i, none⟩ = some v := ⟨_, h.cells i hi⟩
  have hsz : (w.setCell ⟨g, i, none⟩ (.int .u8 y)).drew.heap.size = w.heap.size := by
    show (w.setCell ⟨g, i, none⟩ (.int .u8 y)).heap.size = _
    exact World.size_setCell _ _ _
  refine ⟨(h.below.setCell (p := ⟨g, i, none⟩) h.new _).drew, h.new, by rw [hsz]; exact h.lt, ?_, ?_⟩
  · intro j hj
    rw [List.length_set] at hj
    show (w.setCell ⟨g, i, none⟩ (.int .u8 y)).cell? ⟨g, j, none⟩ = _
    by_cases hji : j = i
    · subst hji
      rw [World.cell?_setCell_same _ _ _ hv0, hy]
      simp
    · rw [World.cell?_setCell_other _ _ _ _ (fun e => hji (congrArg Addr.off e).symm), h.cells j hj]
      simp [Ne.symm hji]
  · intro j hj
    rw [List.length_set] at hj
    show (w.setCell ⟨g, i, none⟩ (.int .u8 y)).frozen? ⟨g, j, none⟩ = _
    rw [World.frozen?_setCell]
    exact h.free j hj
theorem BytesAt.back {w0 w : World} {g : Nat} {l : List UInt8} (h : BytesAt w0 w g l) (n cap : Nat) (hn : l.length = n) : (convert 26 9 (.slice (some ⟨g, 0, none⟩) n cap)).run Try.prog w = .ok (.string ⟨l.toArray⟩) w := by
  subst hn
  refine run_convert_bytes_back w 26 9 5 ⟨g, 0, none⟩ cap l Try.underlying26 Try.underlying5 Try.underlying9 fun j hj => ?_
  rw [addr_add0, Nat.zero_add]
  exact h.cells j hj

theorem BytesAt.after {w0 w w' : World} {g : Nat} {l : List UInt8} (h : BytesAt w0 w g l) (hb : Below w.heap.size w w') : BytesAt w0 w' g l :=
  ⟨h.below.trans (hb.mono h.below.size), h.new, Nat.lt_of_lt_of_le h.lt hb.size, fun j hj => (hb.cell (p := ⟨g, j, none⟩) h.lt).trans (h.cells j hj), fun j hj => (hb.frozen (p := ⟨g, j, none⟩) h.lt).trans (h.free j hj)⟩
theorem BytesAt.alloc {w0 w : World} {g : Nat} {l : List UInt8} (h : BytesAt w0 w g l) (o : Obj) : BytesAt w0 (w.alloc o) g l := h.after ((Below.refl _ _).alloc (Nat.le_refl _) _)
/-- A byte that is turned by a number that is not 0 is another one. -/
theorem xor_ne (x : UInt8) (y : Nat) (hy : y < 256) (h0 : y ≠ 0) : UInt8.ofNat (x.toNat ^^^ y) ≠ x := by
  intro h
  have h1 : x.toNat ^^^ y < 256 := Nat.xor_lt_two_pow (n := 8) x.toNat_lt (by omega)
  have h2 : (UInt8.ofNat (x.toNat ^^^ y)).toNat = x.toNat ^^^ y := by
    rw [UInt8.toNat_ofNat']
    exact Nat.mod_eq_of_lt h1
  rw [h] at h2
  have h3 : x.toNat ^^^ (x.toNat ^^^ y) = y := by rw [← Nat.xor_assoc, Nat.xor_self, Nat.zero_xor]
  rw [← h2, Nat.xor_self] at h3
  exact h0 h3.symm
theorem xor_val (x : UInt8) (y : Nat) (hy : y < 256) : bits .xor .u8 (x.toNat : Int) (y : Int) = ((UInt8.ofNat (x.toNat ^^^ y)).toNat : Int) := by
  have h1 : x.toNat ^^^ y < 256 := Nat.xor_lt_two_pow (n := 8) x.toNat_lt (by omega)
  have h2 : (UInt8.ofNat (x.toNat ^^^ y)).toNat = x.toNat ^^^ y := by
    rw [UInt8.toNat_ofNat']
    exact Nat.mod_eq_of_lt h1
  rw [h2]
  exact u8_xor_nat x.toNat y x.toNat_lt hy
/-- P3.2, at a text one of whose bytes is put anew. -/
theorem set_tells (d : Pr) (l : List UInt8) (i : Nat) (h : i < l.length) (c : UInt8) (hc : c ≠ l[i]) : onP d (l.set i c) ≠ onP d l := by
  have e1 : l = l.take i ++ l[i] :: l.drop (i + 1) := by
    rw [List.getElem_cons_drop]
    exact (List.take_append_drop i l).symm
  have e2 : l.set i c = l.take i ++ c :: l.drop (i + 1) := by
    rw [List.set_eq_take_append_cons_drop, if_pos h]
  rw [e2]
  conv => rhs; rw [e1]
  exact on_tells d _ _ _ _ hc

set_option maxHeartbeats 2000000 in
set_option maxRecDepth 100000 in
theorem tells_posa (a b x y m n p q : Int) (s S : ByteArray) (c0 yb : Nat) (w : World) (hc0 : c0 ≤ 9223372036854775807) (h63 : s.size ≤ 9223372036854775807) (h0 : 0 < s.size) (hyb : yb < 256) (hyz : 0 < yb)
    (hpart : ¬ m = p)
    (i : Nat) (hi : c0 % s.size = i) (xb : UInt8) (hi2 : i < s.data.toList.length) (hx : s.data.toList[i] = xb)
    (hS : Hid (S = ⟨(s.data.toList.set i (UInt8.ofNat (xb.toNat ^^^ yb))).toArray⟩))
    (HE : Hid (∀ w, Calls Try.prog 4 #[] w fun e w' => e = .returned (.bool true) ∧ Below w.heap.size w w'))
    (HA : Hid (∀ w, Calls Try.prog 5 #[.agg #[.int .i64 a, .int .i64 b]] w fun e w' => e = .returned (.agg #[.int .i64 x, .int .i64 y]) ∧ Below w.heap.size w w'))
    (HO : Hid (∀ w, Calls Try.prog 6 #[.agg #[.int .i64 x, .int .i64 y], .string s] w fun e w' => e = .returned (.tuple #[.agg #[.int .i64 m, .int .i64 n], .int .i64 0]) ∧ Below w.heap.size w w'))
    (HP : Hid (∀ w, Calls Try.prog 6 #[.agg #[.int .i64 x, .int .i64 y], .string S] w fun e w' => e = .returned (.tuple #[.agg #[.int .i64 p, .int .i64 q], .int .i64 0]) ∧ Below w.heap.size w w')) :
    Calls Try.prog 3 #[.agg #[.int .i64 a, .int .i64 b], .string s, .int .i64 (c0 : Int), .int .u8 yb] w fun e w' => e = .returned (.bool true) ∧ Below w.heap.size w w' := by
  have hz1 : ((s.size : Int) == 0) = false := by rw [beq_eq_false_iff_ne]; omega
  have hz2 : ((yb : Int) == 0) = false := by rw [beq_eq_false_iff_ne]; omega
  go_enter Try.func3, Try.ntmps3
  go_wp2_with fail
  refine (HE.out _).mono ?_
  rintro e w1 ⟨rfl, bb⟩
  have D : Hid (Held w1 w.heap.size a b) := (Held.at _ a b _ rfl).past bb
  have B := hide (bpast (below_new (Below.refl _ w) _) bb)
  clear bb
  have dc0 := D.out.c0
  have dc1 := D.out.c1
  go_wp2_with fail
  refine (HA.out _).mono ?_
  rintro e w2 ⟨rfl, bb⟩
  replace D := hide (D.out.past bb)
  replace B := hide (bpast B.out bb)
  clear bb dc0 dc1
  have D3 := hide (D.out.put x y)
  have B3 := hide (below_box B.out w.heap.size (Nat.le_refl _) (.int .i64 x) (.int .i64 y))
  obtain ⟨W, cap, hcv, hat⟩ := bytes_conv ((w2.setCell ⟨w.heap.size, 0, none⟩ (.int .i64 x)).setCell ⟨w.heap.size, 1, none⟩ (.int .i64 y)) s
  have HAT := hide hat
  clear hat
  have df0 := D.out.f0
  have df1 := D.out.f1
  have dc0 := D.out.c0
  have dc1 := D.out.c1
  have hiI : (c0 : Int) % (s.size : Int) = (i : Int) := by omega
  have hiF : i < s.size := by rw [← hi]; exact Nat.mod_lt _ h0
  have c1 := HAT.out.cells i hi2
  rw [hx] at c1
  have f1 := HAT.out.free i hi2
  have hlt := HAT.out.lt
  have HSZ : Hid (((w2.setCell ⟨w.heap.size, 0, none⟩ (.int .i64 x)).setCell ⟨w.heap.size, 1, none⟩ (.int .i64 y)).heap.size = w2.heap.size) := by
    show _ = _
    rw [World.size_setCell, World.size_setCell]
  rw [HSZ.out] at c1 f1 hlt
  replace HAT : Hid (BytesAt ((w2.setCell ⟨w.heap.size, 0, none⟩ (.int .i64 x)).setCell ⟨w.heap.size, 1, none⟩ (.int .i64 y)) W w2.heap.size s.data.toList) := by
    have h := HAT.out
    rw [HSZ.out] at h
    exact h
  go_wp2
  generalize (w2.setCell ⟨w.heap.size, 0, none⟩ (.int .i64 x)).setCell ⟨w.heap.size, 1, none⟩ (.int .i64 y) = W3 at *
  have HAT3 : Hid (∀ z, z = ((UInt8.ofNat (xb.toNat ^^^ yb)).toNat : Int) → BytesAt W3 (W.setCell ⟨w2.heap.size, i, none⟩ (.int .u8 z)).drew w2.heap.size (s.data.toList.set i (UInt8.ofNat (xb.toNat ^^^ yb)))) := fun z hz => HAT.out.set i hi2 _ z hz
  have HY := hide (xor_val xb yb hyb)
  have HGL : Hid ((s.data.toList.set i (UInt8.ofNat (xb.toNat ^^^ yb))).length = s.size) := by show _ = _; rw [List.length_set]; simp
  clear HAT hx hcv D B df0 df1 dc0 dc1
  clear HSZ
  generalize w2.heap.size = g at *
  go_region
  have HAT4 := hide (HAT3.out _ HY.out)
  clear HAT3 HY c1 f1
  generalize (W.setCell ⟨g, i, none⟩ (.int .u8 (bits .xor .u8 (xb.toNat : Int) (yb : Int)))).drew = W4 at HAT4 ⊢
  have b4 : Below W3.heap.size W3 W4 := HAT4.out.below
  have D := hide (D3.out.below b4)
  have B := hide (bthen B3.out b4)
  clear b4 D3 B3
  have dc0 := D.out.c0
  have dc1 := D.out.c1
  go_wp2_with fail
  refine (HO.out _).mono ?_
  rintro e w5 ⟨rfl, bb⟩
  replace D := hide (D.out.past bb)
  replace B := hide (bpast B.out bb)
  have HAT5 := hide (HAT4.out.after bb)
  clear bb dc0 dc1 HAT4
  have dc0 := fun o => (D.out.alloc o).c0
  have dc1 := fun o => (D.out.alloc o).c1
  have hback : ∀ o, (convert 26 9 (.slice (some ⟨g, 0, none⟩) s.size cap)).run Try.prog (w5.alloc o) = .ok (.string S) (w5.alloc o) := fun o => by
    rw [hS.out]
    exact (HAT5.out.alloc o).back s.size cap HGL.out
  go_wp2_with fail
  refine (HP.out _).mono ?_
  rintro e w6 ⟨rfl, bb⟩
  have X : Hid (Held w6 w5.heap.size m n) := (Held.at _ m n _ rfl).past bb
  replace B := hide (bpast (below_new B.out _) bb)
  clear bb dc0 dc1 hback HAT5
  have xc0 := fun o => (X.out.alloc o).c0
  have xc1 := fun o => (X.out.alloc o).c1
  generalize w5.heap.size = bX at *
  go_wp2
  go_ret
  exact ⟨rfl, below_new B.out _⟩

set_option maxHeartbeats 2000000 in
set_option maxRecDepth 100000 in
theorem tells_posb (a b x y m n p q : Int) (s S : ByteArray) (c0 yb : Nat) (w : World) (hc0 : c0 ≤ 9223372036854775807) (h63 : s.size ≤ 9223372036854775807) (h0 : 0 < s.size) (hyb : yb < 256) (hyz : 0 < yb)
    (hpart : m = p ∧ ¬ n = q)
    (i : Nat) (hi : c0 % s.size = i) (xb : UInt8) (hi2 : i < s.data.toList.length) (hx : s.data.toList[i] = xb)
    (hS : Hid (S = ⟨(s.data.toList.set i (UInt8.ofNat (xb.toNat ^^^ yb))).toArray⟩))
    (HE : Hid (∀ w, Calls Try.prog 4 #[] w fun e w' => e = .returned (.bool true) ∧ Below w.heap.size w w'))
    (HA : Hid (∀ w, Calls Try.prog 5 #[.agg #[.int .i64 a, .int .i64 b]] w fun e w' => e = .returned (.agg #[.int .i64 x, .int .i64 y]) ∧ Below w.heap.size w w'))
    (HO : Hid (∀ w, Calls Try.prog 6 #[.agg #[.int .i64 x, .int .i64 y], .string s] w fun e w' => e = .returned (.tuple #[.agg #[.int .i64 m, .int .i64 n], .int .i64 0]) ∧ Below w.heap.size w w'))
    (HP : Hid (∀ w, Calls Try.prog 6 #[.agg #[.int .i64 x, .int .i64 y], .string S] w fun e w' => e = .returned (.tuple #[.agg #[.int .i64 p, .int .i64 q], .int .i64 0]) ∧ Below w.heap.size w w')) :
    Calls Try.prog 3 #[.agg #[.int .i64 a, .int .i64 b], .string s, .int .i64 (c0 : Int), .int .u8 yb] w fun e w' => e = .returned (.bool true) ∧ Below w.heap.size w w' := by
  have hz1 : ((s.size : Int) == 0) = false := by rw [beq_eq_false_iff_ne]; omega
  have hz2 : ((yb : Int) == 0) = false := by rw [beq_eq_false_iff_ne]; omega
  obtain ⟨rfl, hpart⟩ := hpart
  go_enter Try.func3, Try.ntmps3
  go_wp2_with fail
  refine (HE.out _).mono ?_
  rintro e w1 ⟨rfl, bb⟩
  have D : Hid (Held w1 w.heap.size a b) := (Held.at _ a b _ rfl).past bb
  have B := hide (bpast (below_new (Below.refl _ w) _) bb)
  clear bb
  have dc0 := D.out.c0
  have dc1 := D.out.c1
  go_wp2_with fail
  refine (HA.out _).mono ?_
  rintro e w2 ⟨rfl, bb⟩
  replace D := hide (D.out.past bb)
  replace B := hide (bpast B.out bb)
  clear bb dc0 dc1
  have D3 := hide (D.out.put x y)
  have B3 := hide (below_box B.out w.heap.size (Nat.le_refl _) (.int .i64 x) (.int .i64 y))
  obtain ⟨W, cap, hcv, hat⟩ := bytes_conv ((w2.setCell ⟨w.heap.size, 0, none⟩ (.int .i64 x)).setCell ⟨w.heap.size, 1, none⟩ (.int .i64 y)) s
  have HAT := hide hat
  clear hat
  have df0 := D.out.f0
  have df1 := D.out.f1
  have dc0 := D.out.c0
  have dc1 := D.out.c1
  have hiI : (c0 : Int) % (s.size : Int) = (i : Int) := by omega
  have hiF : i < s.size := by rw [← hi]; exact Nat.mod_lt _ h0
  have c1 := HAT.out.cells i hi2
  rw [hx] at c1
  have f1 := HAT.out.free i hi2
  have hlt := HAT.out.lt
  have HSZ : Hid (((w2.setCell ⟨w.heap.size, 0, none⟩ (.int .i64 x)).setCell ⟨w.heap.size, 1, none⟩ (.int .i64 y)).heap.size = w2.heap.size) := by
    show _ = _
    rw [World.size_setCell, World.size_setCell]
  rw [HSZ.out] at c1 f1 hlt
  replace HAT : Hid (BytesAt ((w2.setCell ⟨w.heap.size, 0, none⟩ (.int .i64 x)).setCell ⟨w.heap.size, 1, none⟩ (.int .i64 y)) W w2.heap.size s.data.toList) := by
    have h := HAT.out
    rw [HSZ.out] at h
    exact h
  go_wp2
  generalize (w2.setCell ⟨w.heap.size, 0, none⟩ (.int .i64 x)).setCell ⟨w.heap.size, 1, none⟩ (.int .i64 y) = W3 at *
  have HAT3 : Hid (∀ z, z = ((UInt8.ofNat (xb.toNat ^^^ yb)).toNat : Int) → BytesAt W3 (W.setCell ⟨w2.heap.size, i, none⟩ (.int .u8 z)).drew w2.heap.size (s.data.toList.set i (UInt8.ofNat (xb.toNat ^^^ yb)))) := fun z hz => HAT.out.set i hi2 _ z hz
  have HY := hide (xor_val xb yb hyb)
  have HGL : Hid ((s.data.toList.set i (UInt8.ofNat (xb.toNat ^^^ yb))).length = s.size) := by show _ = _; rw [List.length_set]; simp
  clear HAT hx hcv D B df0 df1 dc0 dc1
  clear HSZ
  generalize w2.heap.size = g at *
  go_region
  have HAT4 := hide (HAT3.out _ HY.out)
  clear HAT3 HY c1 f1
  generalize (W.setCell ⟨g, i, none⟩ (.int .u8 (bits .xor .u8 (xb.toNat : Int) (yb : Int)))).drew = W4 at HAT4 ⊢
  have b4 : Below W3.heap.size W3 W4 := HAT4.out.below
  have D := hide (D3.out.below b4)
  have B := hide (bthen B3.out b4)
  clear b4 D3 B3
  have dc0 := D.out.c0
  have dc1 := D.out.c1
  go_wp2_with fail
  refine (HO.out _).mono ?_
  rintro e w5 ⟨rfl, bb⟩
  replace D := hide (D.out.past bb)
  replace B := hide (bpast B.out bb)
  have HAT5 := hide (HAT4.out.after bb)
  clear bb dc0 dc1 HAT4
  have dc0 := fun o => (D.out.alloc o).c0
  have dc1 := fun o => (D.out.alloc o).c1
  have hback : ∀ o, (convert 26 9 (.slice (some ⟨g, 0, none⟩) s.size cap)).run Try.prog (w5.alloc o) = .ok (.string S) (w5.alloc o) := fun o => by
    rw [hS.out]
    exact (HAT5.out.alloc o).back s.size cap HGL.out
  go_wp2_with fail
  refine (HP.out _).mono ?_
  rintro e w6 ⟨rfl, bb⟩
  have X : Hid (Held w6 w5.heap.size m n) := (Held.at _ m n _ rfl).past bb
  replace B := hide (bpast (below_new B.out _) bb)
  clear bb dc0 dc1 hback HAT5
  have xc0 := fun o => (X.out.alloc o).c0
  have xc1 := fun o => (X.out.alloc o).c1
  generalize w5.heap.size = bX at *
  go_wp2
  go_ret
  exact ⟨rfl, below_new B.out _⟩

set_option maxHeartbeats 2000000 in
set_option maxRecDepth 100000 in
theorem tells_nega (a b x y m n p q : Int) (s S : ByteArray) (c0 yb : Nat) (w : World) (hc0 : c0 ≤ 9223372036854775807) (h63 : s.size ≤ 9223372036854775807) (h0 : 0 < s.size) (hyb : yb < 256) (hyz : 0 < yb)
    (hpart : ¬ m = p)
    (i : Nat) (hi : c0 % s.size = i) (xb : UInt8) (hi2 : i < s.data.toList.length) (hx : s.data.toList[i] = xb)
    (hS : Hid (S = ⟨(s.data.toList.set i (UInt8.ofNat (xb.toNat ^^^ yb))).toArray⟩))
    (HE : Hid (∀ w, Calls Try.prog 4 #[] w fun e w' => e = .returned (.bool true) ∧ Below w.heap.size w w'))
    (HA : Hid (∀ w, Calls Try.prog 5 #[.agg #[.int .i64 a, .int .i64 b]] w fun e w' => e = .returned (.agg #[.int .i64 x, .int .i64 y]) ∧ Below w.heap.size w w'))
    (HO : Hid (∀ w, Calls Try.prog 6 #[.agg #[.int .i64 x, .int .i64 y], .string s] w fun e w' => e = .returned (.tuple #[.agg #[.int .i64 m, .int .i64 n], .int .i64 0]) ∧ Below w.heap.size w w'))
    (HP : Hid (∀ w, Calls Try.prog 6 #[.agg #[.int .i64 x, .int .i64 y], .string S] w fun e w' => e = .returned (.tuple #[.agg #[.int .i64 p, .int .i64 q], .int .i64 0]) ∧ Below w.heap.size w w')) :
    Calls Try.prog 3 #[.agg #[.int .i64 a, .int .i64 b], .string s, .int .i64 (-(c0 : Int) - 1), .int .u8 yb] w fun e w' => e = .returned (.bool true) ∧ Below w.heap.size w w' := by
  have hz1 : ((s.size : Int) == 0) = false := by rw [beq_eq_false_iff_ne]; omega
  have hz2 : ((yb : Int) == 0) = false := by rw [beq_eq_false_iff_ne]; omega
  go_enter Try.func3, Try.ntmps3
  go_wp2_with fail
  refine (HE.out _).mono ?_
  rintro e w1 ⟨rfl, bb⟩
  have D : Hid (Held w1 w.heap.size a b) := (Held.at _ a b _ rfl).past bb
  have B := hide (bpast (below_new (Below.refl _ w) _) bb)
  clear bb
  have dc0 := D.out.c0
  have dc1 := D.out.c1
  go_wp2_with fail
  refine (HA.out _).mono ?_
  rintro e w2 ⟨rfl, bb⟩
  replace D := hide (D.out.past bb)
  replace B := hide (bpast B.out bb)
  clear bb dc0 dc1
  have D3 := hide (D.out.put x y)
  have B3 := hide (below_box B.out w.heap.size (Nat.le_refl _) (.int .i64 x) (.int .i64 y))
  obtain ⟨W, cap, hcv, hat⟩ := bytes_conv ((w2.setCell ⟨w.heap.size, 0, none⟩ (.int .i64 x)).setCell ⟨w.heap.size, 1, none⟩ (.int .i64 y)) s
  have HAT := hide hat
  clear hat
  have df0 := D.out.f0
  have df1 := D.out.f1
  have dc0 := D.out.c0
  have dc1 := D.out.c1
  have hiI : (c0 : Int) % (s.size : Int) = (i : Int) := by omega
  have hiF : i < s.size := by rw [← hi]; exact Nat.mod_lt _ h0
  have c1 := HAT.out.cells i hi2
  rw [hx] at c1
  have f1 := HAT.out.free i hi2
  have hlt := HAT.out.lt
  have HSZ : Hid (((w2.setCell ⟨w.heap.size, 0, none⟩ (.int .i64 x)).setCell ⟨w.heap.size, 1, none⟩ (.int .i64 y)).heap.size = w2.heap.size) := by
    show _ = _
    rw [World.size_setCell, World.size_setCell]
  rw [HSZ.out] at c1 f1 hlt
  replace HAT : Hid (BytesAt ((w2.setCell ⟨w.heap.size, 0, none⟩ (.int .i64 x)).setCell ⟨w.heap.size, 1, none⟩ (.int .i64 y)) W w2.heap.size s.data.toList) := by
    have h := HAT.out
    rw [HSZ.out] at h
    exact h
  go_wp2
  generalize (w2.setCell ⟨w.heap.size, 0, none⟩ (.int .i64 x)).setCell ⟨w.heap.size, 1, none⟩ (.int .i64 y) = W3 at *
  have HAT3 : Hid (∀ z, z = ((UInt8.ofNat (xb.toNat ^^^ yb)).toNat : Int) → BytesAt W3 (W.setCell ⟨w2.heap.size, i, none⟩ (.int .u8 z)).drew w2.heap.size (s.data.toList.set i (UInt8.ofNat (xb.toNat ^^^ yb)))) := fun z hz => HAT.out.set i hi2 _ z hz
  have HY := hide (xor_val xb yb hyb)
  have HGL : Hid ((s.data.toList.set i (UInt8.ofNat (xb.toNat ^^^ yb))).length = s.size) := by show _ = _; rw [List.length_set]; simp
  clear HAT hx hcv D B df0 df1 dc0 dc1
  clear HSZ
  generalize w2.heap.size = g at *
  go_region
  have HAT4 := hide (HAT3.out _ HY.out)
  clear HAT3 HY c1 f1
  generalize (W.setCell ⟨g, i, none⟩ (.int .u8 (bits .xor .u8 (xb.toNat : Int) (yb : Int)))).drew = W4 at HAT4 ⊢
  have b4 : Below W3.heap.size W3 W4 := HAT4.out.below
  have D := hide (D3.out.below b4)
  have B := hide (bthen B3.out b4)
  clear b4 D3 B3
  have dc0 := D.out.c0
  have dc1 := D.out.c1
  go_wp2_with fail
  refine (HO.out _).mono ?_
  rintro e w5 ⟨rfl, bb⟩
  replace D := hide (D.out.past bb)
  replace B := hide (bpast B.out bb)
  have HAT5 := hide (HAT4.out.after bb)
  clear bb dc0 dc1 HAT4
  have dc0 := fun o => (D.out.alloc o).c0
  have dc1 := fun o => (D.out.alloc o).c1
  have hback : ∀ o, (convert 26 9 (.slice (some ⟨g, 0, none⟩) s.size cap)).run Try.prog (w5.alloc o) = .ok (.string S) (w5.alloc o) := fun o => by
    rw [hS.out]
    exact (HAT5.out.alloc o).back s.size cap HGL.out
  go_wp2_with fail
  refine (HP.out _).mono ?_
  rintro e w6 ⟨rfl, bb⟩
  have X : Hid (Held w6 w5.heap.size m n) := (Held.at _ m n _ rfl).past bb
  replace B := hide (bpast (below_new B.out _) bb)
  clear bb dc0 dc1 hback HAT5
  have xc0 := fun o => (X.out.alloc o).c0
  have xc1 := fun o => (X.out.alloc o).c1
  generalize w5.heap.size = bX at *
  go_wp2
  go_ret
  exact ⟨rfl, below_new B.out _⟩

set_option maxHeartbeats 2000000 in
set_option maxRecDepth 100000 in
theorem tells_negb (a b x y m n p q : Int) (s S : ByteArray) (c0 yb : Nat) (w : World) (hc0 : c0 ≤ 9223372036854775807) (h63 : s.size ≤ 9223372036854775807) (h0 : 0 < s.size) (hyb : yb < 256) (hyz : 0 < yb)
    (hpart : m = p ∧ ¬ n = q)
    (i : Nat) (hi : c0 % s.size = i) (xb : UInt8) (hi2 : i < s.data.toList.length) (hx : s.data.toList[i] = xb)
    (hS : Hid (S = ⟨(s.data.toList.set i (UInt8.ofNat (xb.toNat ^^^ yb))).toArray⟩))
    (HE : Hid (∀ w, Calls Try.prog 4 #[] w fun e w' => e = .returned (.bool true) ∧ Below w.heap.size w w'))
    (HA : Hid (∀ w, Calls Try.prog 5 #[.agg #[.int .i64 a, .int .i64 b]] w fun e w' => e = .returned (.agg #[.int .i64 x, .int .i64 y]) ∧ Below w.heap.size w w'))
    (HO : Hid (∀ w, Calls Try.prog 6 #[.agg #[.int .i64 x, .int .i64 y], .string s] w fun e w' => e = .returned (.tuple #[.agg #[.int .i64 m, .int .i64 n], .int .i64 0]) ∧ Below w.heap.size w w'))
    (HP : Hid (∀ w, Calls Try.prog 6 #[.agg #[.int .i64 x, .int .i64 y], .string S] w fun e w' => e = .returned (.tuple #[.agg #[.int .i64 p, .int .i64 q], .int .i64 0]) ∧ Below w.heap.size w w')) :
    Calls Try.prog 3 #[.agg #[.int .i64 a, .int .i64 b], .string s, .int .i64 (-(c0 : Int) - 1), .int .u8 yb] w fun e w' => e = .returned (.bool true) ∧ Below w.heap.size w w' := by
  have hz1 : ((s.size : Int) == 0) = false := by rw [beq_eq_false_iff_ne]; omega
  have hz2 : ((yb : Int) == 0) = false := by rw [beq_eq_false_iff_ne]; omega
  obtain ⟨rfl, hpart⟩ := hpart
  go_enter Try.func3, Try.ntmps3
  go_wp2_with fail
  refine (HE.out _).mono ?_
  rintro e w1 ⟨rfl, bb⟩
  have D : Hid (Held w1 w.heap.size a b) := (Held.at _ a b _ rfl).past bb
  have B := hide (bpast (below_new (Below.refl _ w) _) bb)
  clear bb
  have dc0 := D.out.c0
  have dc1 := D.out.c1
  go_wp2_with fail
  refine (HA.out _).mono ?_
  rintro e w2 ⟨rfl, bb⟩
  replace D := hide (D.out.past bb)
  replace B := hide (bpast B.out bb)
  clear bb dc0 dc1
  have D3 := hide (D.out.put x y)
  have B3 := hide (below_box B.out w.heap.size (Nat.le_refl _) (.int .i64 x) (.int .i64 y))
  obtain ⟨W, cap, hcv, hat⟩ := bytes_conv ((w2.setCell ⟨w.heap.size, 0, none⟩ (.int .i64 x)).setCell ⟨w.heap.size, 1, none⟩ (.int .i64 y)) s
  have HAT := hide hat
  clear hat
  have df0 := D.out.f0
  have df1 := D.out.f1
  have dc0 := D.out.c0
  have dc1 := D.out.c1
  have hiI : (c0 : Int) % (s.size : Int) = (i : Int) := by omega
  have hiF : i < s.size := by rw [← hi]; exact Nat.mod_lt _ h0
  have c1 := HAT.out.cells i hi2
  rw [hx] at c1
  have f1 := HAT.out.free i hi2
  have hlt := HAT.out.lt
  have HSZ : Hid (((w2.setCell ⟨w.heap.size, 0, none⟩ (.int .i64 x)).setCell ⟨w.heap.size, 1, none⟩ (.int .i64 y)).heap.size = w2.heap.size) := by
    show _ = _
    rw [World.size_setCell, World.size_setCell]
  rw [HSZ.out] at c1 f1 hlt
  replace HAT : Hid (BytesAt ((w2.setCell ⟨w.heap.size, 0, none⟩ (.int .i64 x)).setCell ⟨w.heap.size, 1, none⟩ (.int .i64 y)) W w2.heap.size s.data.toList) := by
    have h := HAT.out
    rw [HSZ.out] at h
    exact h
  go_wp2
  generalize (w2.setCell ⟨w.heap.size, 0, none⟩ (.int .i64 x)).setCell ⟨w.heap.size, 1, none⟩ (.int .i64 y) = W3 at *
  have HAT3 : Hid (∀ z, z = ((UInt8.ofNat (xb.toNat ^^^ yb)).toNat : Int) → BytesAt W3 (W.setCell ⟨w2.heap.size, i, none⟩ (.int .u8 z)).drew w2.heap.size (s.data.toList.set i (UInt8.ofNat (xb.toNat ^^^ yb)))) := fun z hz => HAT.out.set i hi2 _ z hz
  have HY := hide (xor_val xb yb hyb)
  have HGL : Hid ((s.data.toList.set i (UInt8.ofNat (xb.toNat ^^^ yb))).length = s.size) := by show _ = _; rw [List.length_set]; simp
  clear HAT hx hcv D B df0 df1 dc0 dc1
  clear HSZ
  generalize w2.heap.size = g at *
  go_region
  have HAT4 := hide (HAT3.out _ HY.out)
  clear HAT3 HY c1 f1
  generalize (W.setCell ⟨g, i, none⟩ (.int .u8 (bits .xor .u8 (xb.toNat : Int) (yb : Int)))).drew = W4 at HAT4 ⊢
  have b4 : Below W3.heap.size W3 W4 := HAT4.out.below
  have D := hide (D3.out.below b4)
  have B := hide (bthen B3.out b4)
  clear b4 D3 B3
  have dc0 := D.out.c0
  have dc1 := D.out.c1
  go_wp2_with fail
  refine (HO.out _).mono ?_
  rintro e w5 ⟨rfl, bb⟩
  replace D := hide (D.out.past bb)
  replace B := hide (bpast B.out bb)
  have HAT5 := hide (HAT4.out.after bb)
  clear bb dc0 dc1 HAT4
  have dc0 := fun o => (D.out.alloc o).c0
  have dc1 := fun o => (D.out.alloc o).c1
  have hback : ∀ o, (convert 26 9 (.slice (some ⟨g, 0, none⟩) s.size cap)).run Try.prog (w5.alloc o) = .ok (.string S) (w5.alloc o) := fun o => by
    rw [hS.out]
    exact (HAT5.out.alloc o).back s.size cap HGL.out
  go_wp2_with fail
  refine (HP.out _).mono ?_
  rintro e w6 ⟨rfl, bb⟩
  have X : Hid (Held w6 w5.heap.size m n) := (Held.at _ m n _ rfl).past bb
  replace B := hide (bpast (below_new B.out _) bb)
  clear bb dc0 dc1 hback HAT5
  have xc0 := fun o => (X.out.alloc o).c0
  have xc1 := fun o => (X.out.alloc o).c1
  generalize w5.heap.size = bX at *
  go_wp2
  go_ret
  exact ⟨rfl, below_new B.out _⟩

set_option maxHeartbeats 1000000 in
theorem tells_empty (a b c : Int) (s : ByteArray) (yb : Int) (w : World) (_h63 : s.size ≤ 9223372036854775807) (hz : ((s.size : Int) == 0) = true) :
    Calls Try.prog 3 #[.agg #[.int .i64 a, .int .i64 b], .string s, .int .i64 c, .int .u8 yb] w fun e w' => e = .returned (.bool true) ∧ Below w.heap.size w w' := by
  have HE := hide examples_any
  go_enter Try.func3, Try.ntmps3
  go_wp2_with fail
  refine (HE.out _).mono ?_
  rintro e w1 ⟨rfl, bb⟩
  have B := hide (bpast (below_new (Below.refl _ w) _) bb)
  clear bb
  go_wp2
  go_ret
  exact ⟨rfl, B.out⟩

set_option maxHeartbeats 1000000 in
theorem tells_same (a b c : Int) (s : ByteArray) (yb : Int) (w : World) (_h63 : s.size ≤ 9223372036854775807) (hz : ((s.size : Int) == 0) = false) (hy : ((yb : Int) == 0) = true) :
    Calls Try.prog 3 #[.agg #[.int .i64 a, .int .i64 b], .string s, .int .i64 c, .int .u8 yb] w fun e w' => e = .returned (.bool true) ∧ Below w.heap.size w w' := by
  have HE := hide examples_any
  go_enter Try.func3, Try.ntmps3
  go_wp2_with fail
  refine (HE.out _).mono ?_
  rintro e w1 ⟨rfl, bb⟩
  have B := hide (bpast (below_new (Below.refl _ w) _) bb)
  clear bb
  go_wp2
  go_ret
  exact ⟨rfl, B.out⟩

theorem tells_walk (a b c : Int) (s : ByteArray) (y : Int) (w : World) (h63 : s.size ≤ 9223372036854775807) (hc : -9223372036854775808 ≤ c ∧ c ≤ 9223372036854775807) (hy : 0 ≤ y ∧ y ≤ 255) :
    Calls Try.prog 3 #[.agg #[.int .i64 a, .int .i64 b], .string s, .int .i64 c, .int .u8 y] w fun e w' => e = .returned (.bool true) ∧ Below w.heap.size w w' := by
  by_cases h0 : s.size = 0
  · exact tells_empty a b c s y w h63 (by rw [beq_iff_eq]; omega)
  have hz : ((s.size : Int) == 0) = false := by rw [beq_eq_false_iff_ne]; omega
  by_cases hy0 : y = 0
  · exact tells_same a b c s y w h63 hz (by rw [beq_iff_eq]; omega)
  obtain ⟨yb, rfl⟩ : ∃ n : Nat, y = n := ⟨y.toNat, by omega⟩
  have HA := right_any a b
  have R := right_pr a b
  generalize a % 33554383 = x at *
  generalize b % 33554383 = z at *
  have key : ∀ c0 : Nat, ∃ (i : Nat) (xb : UInt8) (S : ByteArray) (u v : Pr) (h : i < s.data.toList.length), c0 % s.size = i ∧ s.data.toList[i] = xb ∧ S = ⟨(s.data.toList.set i (UInt8.ofNat (xb.toNat ^^^ yb))).toArray⟩ ∧ u ≠ v ∧
      (∀ w, Calls Try.prog 6 #[.agg #[.int .i64 x, .int .i64 z], .string s] w fun e w' => e = .returned (.tuple #[.agg #[.int .i64 u.re, .int .i64 u.im], .int .i64 0]) ∧ Below w.heap.size w w') ∧
      (∀ w, Calls Try.prog 6 #[.agg #[.int .i64 x, .int .i64 z], .string S] w fun e w' => e = .returned (.tuple #[.agg #[.int .i64 v.re, .int .i64 v.im], .int .i64 0]) ∧ Below w.heap.size w w') := by
    intro c0
    have hl : s.data.toList.length = s.size := by simp
    have hi : c0 % s.size < s.data.toList.length := by rw [hl]; exact Nat.mod_lt _ (by omega)
    refine ⟨c0 % s.size, s.data.toList[c0 % s.size], _, onP ⟨x, z⟩ s.data.toList, onP ⟨x, z⟩ (s.data.toList.set (c0 % s.size) (UInt8.ofNat (s.data.toList[c0 % s.size].toNat ^^^ yb))), hi, rfl, rfl, rfl, ?_, ?_, ?_⟩
    · exact (set_tells ⟨x, z⟩ _ _ hi _ (xor_ne _ yb (by omega) (by omega))).symm
    · exact On_right ⟨x, z⟩ s R (by omega)
    · have h := On_right ⟨x, z⟩ ⟨(s.data.toList.set (c0 % s.size) (UInt8.ofNat (s.data.toList[c0 % s.size].toNat ^^^ yb))).toArray⟩ R (by show (List.toArray _).size ≤ _; rw [List.size_toArray, List.length_set]; omega)
      rw [show (⟨(s.data.toList.set (c0 % s.size) (UInt8.ofNat (s.data.toList[c0 % s.size].toNat ^^^ yb))).toArray⟩ : ByteArray).data.toList = s.data.toList.set (c0 % s.size) (UInt8.ofNat (s.data.toList[c0 % s.size].toNat ^^^ yb)) from List.toList_toArray] at h
      exact h
  by_cases hc0 : 0 ≤ c
  · obtain ⟨c0, rfl⟩ : ∃ c0 : Nat, c = (c0 : Int) := ⟨c.toNat, by omega⟩
    obtain ⟨i, xb, S, u, v, hi2, h1, h2, h3, h4, h5, h6⟩ := key c0
    by_cases hm : u.re = v.re
    · exact tells_posb a b x z u.re u.im v.re v.im s S c0 yb w (by omega) h63 (by omega) (by omega) (by omega) ⟨hm, fun h => h4 (pr_ext hm h)⟩ i h1 xb hi2 h2 h3 examples_any HA h5 h6
    · exact tells_posa a b x z u.re u.im v.re v.im s S c0 yb w (by omega) h63 (by omega) (by omega) (by omega) hm i h1 xb hi2 h2 h3 examples_any HA h5 h6
  · obtain ⟨c0, rfl⟩ : ∃ c0 : Nat, c = -(c0 : Int) - 1 := ⟨(-(c + 1)).toNat, by omega⟩
    obtain ⟨i, xb, S, u, v, hi2, h1, h2, h3, h4, h5, h6⟩ := key c0
    by_cases hm : u.re = v.re
    · exact tells_negb a b x z u.re u.im v.re v.im s S c0 yb w (by omega) h63 (by omega) (by omega) (by omega) ⟨hm, fun h => h4 (pr_ext hm h)⟩ i h1 xb hi2 h2 h3 examples_any HA h5 h6
    · exact tells_nega a b x z u.re u.im v.re v.im s S c0 yb w (by omega) h63 (by omega) (by omega) (by omega) hm i h1 xb hi2 h2 h3 examples_any HA h5 h6

end Go.Proofs.Ytddmnmeijnncmab
