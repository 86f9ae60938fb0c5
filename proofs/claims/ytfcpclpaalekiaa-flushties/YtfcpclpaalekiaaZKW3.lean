import Derived.Test.YtfcpclpaalekiaaZKW2
namespace Go.Proofs.Ytfcpclpaalekiaa.K
open Go.RowKit
set_option maxHeartbeats 400000
theorem bcell {W w1 : World} {B : Nat} (hb : Below B W w1) : (∀ b o, b < B → w1.cell? ⟨b, o, none⟩ = W.cell? ⟨b, o, none⟩) ∧ (∀ b o, b < B → w1.frozen? ⟨b, o, none⟩ = W.frozen? ⟨b, o, none⟩) :=
  ⟨fun b o h => hb.cell (p := ⟨b, o, none⟩) h, fun b o h => hb.frozen (p := ⟨b, o, none⟩) h⟩
theorem clone_any (s : ByteArray) (w : World) (hs : s.size ≤ 281474976710656) :
    Calls Try.prog 38 #[.string s] w fun e w' => e = .returned (.string s) ∧ Below w.heap.size w w' := by
  go_enter Try.func38, Try.ntmps38
  go_wp2_with (go_at_call 54; refine (Try.liteClone _ _ hs).mono ?_; rintro e w' ⟨rfl, hb⟩)
  go_ret
  exact ⟨rfl, hb⟩
theorem readText_long (n : Int) (s : ByteArray) (w : World) (h : 100000 < n) :
    Calls Try.prog 80 #[.int .u64 n, .string s] w fun e w' => e = .returned (.tuple #[.agg #[.int .i64 0, .int .u64 0, .string ⟨#[]⟩], .string ⟨#[]⟩, .int .i64 3]) ∧ Below w.heap.size w w' := by
  go_enter Try.func80, Try.ntmps80
  go_wp2
  refine bodyPost_ret (v := .tuple #[.agg #[.int .i64 0, .int .u64 0, .string ⟨#[]⟩], .string ⟨#[]⟩, .int .i64 3]) (by simp [results, Try.results80, go_sem]) rfl ⟨rfl, ?_⟩
  exact (Below.refl _ _).alloc (Nat.le_refl _) _
theorem readText_short (n : Nat) (s : ByteArray) (w : World) (h : n ≤ 100000) (h2 : s.size < n) :
    Calls Try.prog 80 #[.int .u64 n, .string s] w fun e w' => e = .returned (.tuple #[.agg #[.int .i64 0, .int .u64 0, .string ⟨#[]⟩], .string ⟨#[]⟩, .int .i64 2]) ∧ Below w.heap.size w w' := by
  go_enter Try.func80, Try.ntmps80
  go_wp2
  refine bodyPost_ret (v := .tuple #[.agg #[.int .i64 0, .int .u64 0, .string ⟨#[]⟩], .string ⟨#[]⟩, .int .i64 2]) (by simp [results, Try.results80, go_sem]) rfl ⟨rfl, ?_⟩
  exact (Below.refl _ _).alloc (Nat.le_refl _) _
theorem readText_ok (n : Nat) (s : ByteArray) (w : World) (_hs : s.size ≤ maxLen) (h : n ≤ 100000) (h2 : n ≤ s.size) :
    Calls Try.prog 80 #[.int .u64 n, .string s] w fun e w' => e = .returned (.tuple #[.agg #[.int .i64 4, .int .u64 0, .string (s.extract 0 n)], .string (s.extract n s.size), .int .i64 0]) ∧ Below w.heap.size w w' := by
  unfold maxLen at _hs
  go_enter Try.func80, Try.ntmps80
  go_wp2
  go_region_with (go_at_call 38; refine (clone_any _ _ (by simp; omega)).mono ?_; rintro e w' ⟨rfl, hb⟩; obtain ⟨hc, hf⟩ := bcell hb; have hz := hb.size; simp only [World.size_drew, World.size_alloc] at hz hc hf; have c0 := hc w.heap.size 0 (by omega); have c1 := hc w.heap.size 1 (by omega); have c2 := hc w.heap.size 2 (by omega); have f0 := hf w.heap.size 0 (by omega); have f1 := hf w.heap.size 1 (by omega); have f2 := hf w.heap.size 2 (by omega); clear hc hf)
  simp at c0 c1 c2
  go_wp2
  refine bodyPost_ret (v := .tuple #[.agg #[.int .i64 4, .int .u64 0, .string (s.extract 0 n)], .string (s.extract n s.size), .int .i64 0]) (by simp [results, Try.results80, go_sem, c0, c1, c2]) rfl ⟨rfl, ?_⟩
  have hb1 : Below w.heap.size w w' := ((Below.refl _ _).alloc (Nat.le_refl _) _).drew.trans (hb.mono (by simp))
  exact ((hb1.setCell (p := ⟨w.heap.size, 0, none⟩) (Nat.le_refl _) _).setCell (p := ⟨w.heap.size, 1, none⟩) (Nat.le_refl _) _).setCell (p := ⟨w.heap.size, 2, none⟩) (Nat.le_refl _) _
def It.v (x : It) : Value := .agg #[.int .i64 x.k, .int .u64 x.n, .string x.s]
def textG (n : Nat) (s : ByteArray) : It × ByteArray × Int :=
  if 100000 < n then (It.zero, ⟨#[]⟩, 3) else if s.size < n then (It.zero, ⟨#[]⟩, 2) else (⟨4, 0, s.extract 0 n⟩, s.extract n s.size, 0)
theorem readText_any (n : Nat) (s : ByteArray) (w : World) (hs : s.size ≤ maxLen) :
    Calls Try.prog 80 #[.int .u64 n, .string s] w fun e w' => e = .returned (.tuple #[(textG n s).1.v, .string (textG n s).2.1, .int .i64 (textG n s).2.2]) ∧ Below w.heap.size w w' := by
  unfold textG
  by_cases h : 100000 < n
  · rw [if_pos h]; exact readText_long n s w (by omega)
  · rw [if_neg h]
    by_cases h2 : s.size < n
    · rw [if_pos h2]; exact readText_short n s w (by omega) h2
    · rw [if_neg h2]; exact readText_ok n s w hs (by omega) (by omega)
def itemG (k : Int) (z : Nat) (s : ByteArray) : It × ByteArray × Int :=
  if s.size < z then (It.zero, ⟨#[]⟩, 2)
  else if k = 4 then textG (Lib.beNat (s.extract 0 z).data.toList) (s.extract z s.size)
  else (⟨k, Lib.beNat (s.extract 0 z).data.toList, ⟨#[]⟩⟩, s.extract z s.size, 0)
end Go.Proofs.Ytfcpclpaalekiaa.K
