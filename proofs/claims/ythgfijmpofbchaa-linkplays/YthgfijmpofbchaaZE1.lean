/-
  examples, as it runs: its states.
-/
import Derived.Test.YthgfijmpofbchaaZDU
import Derived.Laws.StructEq
namespace Go.Proofs.Ythgfijmpofbchaa
open Go.RowKit

def X0 : ByteArray := ⟨#[120]⟩
def kA1 : LK := ⟨1, 0, [X0], 1, 0, 0, 0, true, 0⟩
def kA2 : LK := ⟨1, 0, [X0], 1, 0, 0, 0, false, 0⟩
def kB1 : LK := ⟨1, 1, [], 1, 0, 0, 0, true, 0⟩
def kB2 : LK := ⟨1, 1, [], 1, 0, 0, 0, false, 0⟩
def kA3 : LK := ⟨1, 1, [X0], 1, 0, 0, 0, false, 0⟩
def kA4 : LK := ⟨1, 1, [X0], 1, 1, 1, 0, false, 0⟩
def kB3 : LK := ⟨1, 1, [], 1, 0, 0, 1, true, 0⟩
def kB4 : LK := ⟨1, 1, [], 1, 0, 0, 1, false, 0⟩
def fr1 : FR := ⟨1, 0, 0, 0, ⟨#[]⟩⟩
def fr2 : FR := ⟨1, 1, 0, 0, ⟨#[]⟩⟩
def fr3 : FR := ⟨1, 1, 1, 0, X0⟩
def fr4 : FR := ⟨1, 1, 0, 1, ⟨#[]⟩⟩
theorem x0_size : X0.size = 1 := rfl
theorem ex_send : (LK.new 1).send X0 = (0, kA1) := by simp [LK.send, LK.new, x0_size, kA1]
theorem ex_outA1 : kA1.outs = [fr1] := by simp [LK.outs, LK.frames, kA1, LK.bare, fr1]
theorem ex_putA1 : kA1.put = kA2 := by simp [LK.put, kA1, kA2]
theorem e0_size : (⟨#[]⟩ : ByteArray).size = 0 := rfl
theorem fr1_right : fr1.rightP := by unfold FR.rightP fr1; simp [e0_size]
theorem fr2_right : fr2.rightP := by unfold FR.rightP fr2; simp [e0_size]
theorem fr3_right : fr3.rightP := by unfold FR.rightP fr3; simp [x0_size]
theorem ex_takeB0 : (LK.new 1).take fr1 = (([], false), kB1) := by
  unfold LK.take; rw [if_neg (by rintro (e | e); exact e fr1_right; simp [fr1, LK.new] at e)]; simp [fr1, LK.hear, LK.new, kB1]
theorem ex_outB1 : kB1.outs = [fr2] := by simp [LK.outs, LK.frames, kB1, LK.bare, LK.top, fr2]
theorem ex_putB1 : kB1.put = kB2 := by simp [LK.put, kB1, kB2, LK.top]
theorem ex_takeA2 : kA2.take fr2 = (([], false), kA3) := by
  unfold LK.take; rw [if_neg (by rintro (e | e); exact e fr2_right; simp [fr2, kA2] at e)]; simp [fr2, LK.hear, kA2, kA3, LK.ackd, LK.get]
theorem ex_outA3 : kA3.outs = [fr3] := by simp [LK.outs, LK.frames, kA3, LK.top, LK.frame, fr3]
theorem ex_putA3 : kA3.put = kA4 := by simp [LK.put, kA3, kA4, LK.top]
theorem ex_takeB2 : kB2.take fr3 = (([X0], false), kB3) := by
  unfold LK.take; rw [if_neg (by rintro (e | e); exact e fr3_right; simp [fr3, kB2] at e)]; simp [fr3, LK.hear, kB2, kB3, LK.ackd, LK.get]
theorem ex_takeB3 : kB3.take fr3 = (([], false), kB3) := by
  unfold LK.take; rw [if_neg (by rintro (e | e); exact e fr3_right; simp [fr3, kB3] at e)]; simp [fr3, LK.hear, kB3, LK.ackd, LK.get]
theorem ex_outB3 : kB3.outs = [fr4] := by simp [LK.outs, LK.frames, kB3, LK.bare, LK.top, fr4]
theorem ex_putB3 : kB3.put = kB4 := by simp [LK.put, kB3, kB4, LK.top]
/-- The cells of one, in a row of frames of one's own. -/
theorem fr_at {w : World} {B : Nat} {ao : Option Addr} {cp : Nat} {D : List FR} (h : w.ownsRow B 31 5 (.slice ao D.length cp) D.length (frCells D)) (i : Nat) (hi : i < D.length) : ∃ g, ao = some ⟨g, 0, none⟩ ∧ B ≤ g ∧ g < w.heap.size ∧ w.cell? ⟨g, i * 5, none⟩ = some (.int .i64 D[i].epoch) ∧ w.cell? ⟨g, i * 5 + 1, none⟩ = some (.int .i64 D[i].peer) ∧ w.cell? ⟨g, i * 5 + 2, none⟩ = some (.int .i64 D[i].seq) ∧ w.cell? ⟨g, i * 5 + 3, none⟩ = some (.int .i64 D[i].ack) ∧ w.cell? ⟨g, i * 5 + 4, none⟩ = some (.string D[i].body) := by
  have hr := OwnsQ.of_row h
  rcases h.2 with ⟨_, h2⟩ | ⟨g, cap, cur, hv, hg, hh, hn, hc, hs, ht⟩
  · omega
  · injection hv with h1 _ h3
    subst h1 h3
    obtain ⟨off2, ha, hcc, _⟩ := hr.cell
    injection ha with _ ha _
    subst ha
    have key : ∀ j, j < 5 → w.cell? ⟨g, i * 5 + j, none⟩ = (D[i].cells)[j]? := fun j hj => by
      rw [← frCells_get _ i j hi hj]
      have := hcc (i * 5 + j) (by omega)
      rw [Nat.zero_add] at this
      exact this
    exact ⟨g, rfl, hg, heap_lt hh, key 0 (by omega), key 1 (by omega), key 2 (by omega), key 3 (by omega), key 4 (by omega)⟩
/-- The first of a row of one frame. -/
theorem fr_one {w : World} {B : Nat} {ao : Option Addr} {cp : Nat} {f : FR} (h : w.ownsRow B 31 5 (.slice ao 1 cp) 1 (frCells [f])) : ∃ g, ao = some ⟨g, 0, none⟩ ∧ (∃ cs, w.heap[g]? = some (.cells cs 31 (0, 0))) ∧ B ≤ g ∧ g < w.heap.size ∧ w.cell? ⟨g, 0, none⟩ = some (.int .i64 f.epoch) ∧ w.cell? ⟨g, 1, none⟩ = some (.int .i64 f.peer) ∧ w.cell? ⟨g, 2, none⟩ = some (.int .i64 f.seq) ∧ w.cell? ⟨g, 3, none⟩ = some (.int .i64 f.ack) ∧ w.cell? ⟨g, 4, none⟩ = some (.string f.body) := by
  obtain ⟨g, r1, r2⟩ := fr_at (D := [f]) h 0 (by simp)
  refine ⟨g, r1, ?_, by simpa using r2⟩
  rcases h.2 with ⟨_, h2⟩ | ⟨g', cap, cur, hv, hg, hh, hn, hc, hs, ht⟩
  · omega
  · rw [r1] at hv
    injection hv with h1
    injection h1 with h1
    injection h1 with h1
    exact ⟨cur, by rw [h1]; exact hh⟩
theorem str_one {w : World} {B : Nat} {ao : Option Addr} {cp : Nat} {s : ByteArray} (h : w.ownsRow B 9 1 (.slice ao 1 cp) 1 [.string s]) : ∃ g, ao = some ⟨g, 0, none⟩ ∧ (∃ cs, w.heap[g]? = some (.cells cs 9 (0, 0))) ∧ B ≤ g ∧ g < w.heap.size ∧ w.cell? ⟨g, 0, none⟩ = some (.string s) := by
  have hr := OwnsQ.of_row h
  rcases h.2 with ⟨_, h2⟩ | ⟨g, cap, cur, hv, hg, hh, hn, hc, hs, ht⟩
  · omega
  · injection hv with h1 _ h3
    subst h1 h3
    obtain ⟨off2, ha, hcc, _⟩ := hr.cell
    injection ha with _ ha _
    subst ha
    exact ⟨g, rfl, ⟨_, hh⟩, hg, heap_lt hh, hcc 0 (by omega)⟩
theorem PL.far {w : World} {b : Nat} {v : Value} {l : LK} (h : PL w b v l) {g : Nat} {cs : Array Value} {t : TypeId} (hg : w.heap[g]? = some (.cells cs t (0, 0))) (h1 : t ≠ 62) (h2 : t ≠ 66) : ¬ pown b v g := by
  rintro (e | e)
  · subst e
    rw [h.box] at hg
    injection hg with hg
    injection hg with _ hg _
    exact h1 hg.symm
  · exact h2 (h.row.type e hg).symm
theorem Ends.add {F : Nat → Prop} {w : World} {a b : Nat} {va vb : Value} {la lb : LK} (h : Ends F w a va la b vb lb) {g : Nat} {cs : Array Value} {t : TypeId} (hg : w.heap[g]? = some (.cells cs t (0, 0))) (h1 : t ≠ 62) (h2 : t ≠ 66) : Ends (fun j => F j ∨ j = g) w a va la b vb lb :=
  ⟨h.one, h.two, h.apart, fun j hj e => by
    rcases e with e | rfl
    · exact h.fone j hj e
    · exact h.one.far hg h1 h2 hj, fun j hj e => by
    rcases e with e | rfl
    · exact h.ftwo j hj e
    · exact h.two.far hg h1 h2 hj⟩
theorem new1 (w : World) : Calls Try.prog 6 #[.int .i64 1] w fun e w' => e = .returned (.tuple #[.pointer (some ⟨w.heap.size, 0, none⟩), .int .i64 0]) ∧ PL w' w.heap.size (.slice none 0 0) (LK.new 1) ∧ Below w.heap.size w w' := pnew 1 (by omega) (by omega) w
theorem new0 (w : World) : Calls Try.prog 6 #[.int .i64 0] w fun e w' => e = .returned (.tuple #[.pointer none, .int .i64 1]) ∧ w' = w := pnew_none 0 (.inl (by omega)) w
end Go.Proofs.Ythgfijmpofbchaa
