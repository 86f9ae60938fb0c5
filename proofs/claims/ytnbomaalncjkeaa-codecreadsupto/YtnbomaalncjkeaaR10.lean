/-
  The document's own Decode, as it runs; and a look at the law CodecReads.
-/
import Derived.Test.YtnbomaalncjkeaaR9
namespace Go.Proofs.Ytnbomaalncjkeaa
open Go.RowKit

theorem cutStar_le (p : List UInt8) : (cutStar p).1.length ≤ p.length ∧ (cutStar p).2.1.length ≤ p.length := by
  unfold cutStar
  split
  · simp
  · simp
    omega

set_option maxHeartbeats 1000000 in
theorem rdecode_any (shape s : ByteArray) (w : World) (h1 : shape.size ≤ 1048576) (h2 : s.size ≤ 1048576) (R : List It × Int) (hR : decF shape.data.toList s.data.toList = R) :
    Calls Try.prog 15 #[.string shape, .string s] w fun e w' => ∃ v, e = .returned (.tuple #[v, .int .i64 R.2]) ∧ w'.ownsRow w.heap.size 39 3 v R.1.length (itemCells R.1) ∧ Below w.heap.size w w' := by
  have HK := fun w => kinds_any shape w h1
  have hle := cutStar_le shape.data.toList
  rw [size_list] at hle
  unfold decF at hR
  cases hb : shapeOk shape.data.toList with
  | true =>
    rw [hb] at HK
    rw [hb, if_pos rfl, size_list] at hR
    obtain ⟨p1, p2⟩ := shapeOk_parts _ hb
    refine rdecode_core shape s _ _ w R p1 p2 (by omega) (by omega) ?_ (RL.init (by unfold maxLen; omega) (by unfold maxLen; omega) hR)
    intro w
    refine (HK w).mono ?_
    rintro e w' ⟨va, vb, he, ho, hbl⟩
    exact ⟨va, vb, he, ho rfl, hbl⟩
  | false =>
    rw [hb] at HK
    rw [hb, if_neg (by decide)] at hR
    subst hR
    have HKH : Hid (∀ w, Calls Try.prog 27 #[.string shape] w fun e w' => ∃ va vb, e = .returned (.tuple #[va, vb, .bool false]) ∧ Below w.heap.size w w') := by
      intro w
      refine (HK w).mono ?_
      rintro e w' ⟨va, vb, he, _, hbl⟩
      exact ⟨va, vb, he, hbl⟩
    clear HK hb hle
    go_enter Try.func15, Try.ntmps15
    go_wp2_with fail
    refine (HKH.out _).mono ?_
    rintro e w1 ⟨va, vb, rfl, b1⟩
    go_wp2
    go_ret2
    exact ⟨.slice none 0 0, rfl, nil_owned _ _ _ _, b1⟩

end Go.Proofs.Ytnbomaalncjkeaa
