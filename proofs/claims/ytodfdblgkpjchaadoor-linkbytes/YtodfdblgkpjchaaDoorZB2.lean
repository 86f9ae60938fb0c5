/-
  The program's itemsOf, Encode, as they run.
-/
import Derived.Test.YtodfdblgkpjchaaDoorZB1
import Derived.Test.YtodfdblgkpjchaaDoorZD7
import Derived.Test.YtodfdblgkpjchaaDoorZQD3
import Derived.Test.YtodfdblgkpjchaaDoorZKAppI
namespace Go.Proofs.YtodfdblgkpjchaaDoor
open Go.RowKit

theorem FR.rightP.okF {f : FR} (h : f.rightP) : f.ok := by
  obtain ⟨_, _, _, _, _, _, _, _, h9, _⟩ := h
  unfold FR.ok
  omega
theorem itemsL_ok {f : FR} (h : f.rightP) : ∀ x ∈ itemsL f, x.ok := by
  obtain ⟨h1, h2, h3, h4, h5, h6, h7, h8, h9, _⟩ := h
  intro x hx
  simp only [itemsL, List.mem_cons, List.not_mem_nil, or_false] at hx
  have z0 : (⟨#[]⟩ : ByteArray).size = 0 := rfl
  rcases hx with rfl | rfl | rfl | rfl | rfl
  · exact ⟨by simp, by simp, by simp only; omega, by simp only; omega, by simp only [z0]; omega⟩
  · exact ⟨by simp, by simp, by simp only; omega, by simp only; omega, by simp only [z0]; omega⟩
  · exact ⟨by simp, by simp, by simp only; omega, by simp only; omega, by simp only [z0]; omega⟩
  · exact ⟨by simp, by simp, by simp only; omega, by simp only; omega, by simp only [z0]; omega⟩
  · exact ⟨by simp, by simp, by simp only; omega, by simp only; omega, by simp only; omega⟩
theorem items_at (W : World) (f : FR) (b : Nat) (t : TypeId) (hb : W.heap[b]? = some (.cells #[.int .i64 3, .int .u64 f.epoch, .string ⟨#[]⟩, .int .i64 3, .int .u64 f.peer, .string ⟨#[]⟩, .int .i64 3, .int .u64 f.seq, .string ⟨#[]⟩, .int .i64 3, .int .u64 f.ack, .string ⟨#[]⟩, .int .i64 4, .int .u64 0, .string f.body] t)) : K.ItemsAt W (some ⟨b, 0, none⟩) (itemsL f) := by
  intro i hi
  have hi5 : i < 5 := hi
  have hs := (Array.getElem?_eq_some_iff.1 hb).1
  refine ⟨b, 0, rfl, hs, ?_⟩
  have hc : ∀ k, W.cell? ⟨b, k, none⟩ = (#[Value.int .i64 3, .int .u64 f.epoch, .string ⟨#[]⟩, .int .i64 3, .int .u64 f.peer, .string ⟨#[]⟩, .int .i64 3, .int .u64 f.seq, .string ⟨#[]⟩, .int .i64 3, .int .u64 f.ack, .string ⟨#[]⟩, .int .i64 4, .int .u64 0, .string f.body])[k]? := fun k => by rw [Lib.cell_of_heap hb]
  rw [hc, hc, hc]
  have h5 : i = 0 ∨ i = 1 ∨ i = 2 ∨ i = 3 ∨ i = 4 := by omega
  rcases h5 with rfl | rfl | rfl | rfl | rfl <;> exact ⟨rfl, rfl, rfl⟩
set_option maxHeartbeats 1000000 in
theorem itemsOf_any (f : FR) (hr : f.rightP) (w : World) :
    Calls Tryd.prog 17 #[f.v] w fun e w' => ∃ g, e = .returned (.slice (some ⟨g, 0, none⟩) 5 5) ∧ K.ItemsAt w' (some ⟨g, 0, none⟩) (itemsL f) ∧ Below w.heap.size w w' := by
  obtain ⟨ep, pe, sq, ak, bo⟩ := f
  obtain ⟨h1, h2, h3, h4, h5, h6, h7, h8, h9, _⟩ := hr
  simp only at h1 h2 h3 h4 h5 h6 h7 h8 h9
  simp only [FR.v] at *
  go_enter Tryd.func17, Tryd.ntmps17
  go_wp2
  go_ret
  refine ⟨w.heap.size + 1, rfl, ?_, ((Below.refl _ _).alloc (Nat.le_refl _) _).alloc (by simp) _⟩
  apply items_at
  have e := heap_alloc_new (w.alloc (Obj.cells #[.int .i64 ep, .int .i64 pe, .int .i64 sq, .int .i64 ak, .string bo] 23)) (Obj.cells #[.int .i64 3, .int .u64 ep, .string ⟨#[]⟩, .int .i64 3, .int .u64 pe, .string ⟨#[]⟩, .int .i64 3, .int .u64 sq, .string ⟨#[]⟩, .int .i64 3, .int .u64 ak, .string ⟨#[]⟩, .int .i64 4, .int .u64 0, .string bo] 54)
  rw [show (w.alloc (Obj.cells #[.int .i64 ep, .int .i64 pe, .int .i64 sq, .int .i64 ak, .string bo] 23)).heap.size = w.heap.size + 1 by simp] at e
  exact e
set_option maxHeartbeats 1000000 in
theorem enc_bad (f : FR) (hf : f.ok) (hb : ¬ f.rightP) (w : World) :
    Calls Tryd.prog 6 #[f.v] w fun e w' => e = .returned (.tuple #[.string ⟨#[]⟩, .int .i64 1]) ∧ Below w.heap.size w w' := by
  have HR := hide (pright f hf)
  rw [decide_eq_false hb] at HR
  obtain ⟨ep, pe, sq, ak, bo⟩ := f
  clear hf hb
  simp only [FR.v] at *
  go_enter Tryd.func6, Tryd.ntmps6
  go_wp2_with fail
  refine (HR.out _).mono ?_
  rintro e w1 ⟨rfl, b1⟩
  go_wp2
  go_ret2
  exact ⟨rfl, ((Below.refl _ _).alloc (Nat.le_refl _) _).trans (b1.mono (by simp))⟩
set_option maxHeartbeats 1000000 in
theorem enc_good (f : FR) (hb : f.rightP) (w : World) (hT : Tab w) :
    Calls Tryd.prog 6 #[f.v] w fun e w' => e = .returned (.tuple #[.string ⟨(oneL f).toArray⟩, .int .i64 0]) ∧ Below w.heap.size w w' := by
  have HR := hide (pright f hb.okF)
  have HI := hide (itemsOf_any f hb)
  have HE : Hid (∀ g w, K.ItemsAt w (some ⟨g, 0, none⟩) (itemsL f) → Calls Tryd.prog 16 #[.slice (some ⟨g, 0, none⟩) 5 5] w fun e w' => e = .returned (.tuple #[.string ⟨(codeL f).toArray⟩, .int .i64 0]) ∧ Below w.heap.size w w') := fun g w h => by
    have := K.encode_any _ 5 (itemsL f) w h (itemsL_ok hb) (by unfold maxLen; simp [itemsL])
    rw [encL hb] at this
    exact this
  have HF : Hid (∀ w, Tab w → Calls Tryd.prog 18 #[.string ⟨(codeL f).toArray⟩] w fun e w' => e = .returned (.tuple #[.string ⟨(oneL f).toArray⟩, .int .i64 0]) ∧ Below w.heap.size w w') := fun w hT => by
    have hl := codeL_le hb
    have := frame_any ⟨(codeL f).toArray⟩ w hT (by show (codeL f).toArray.size ≤ _; simp; omega)
    rw [show ((⟨(codeL f).toArray⟩ : ByteArray).data.toList) = codeL f by simp, frameL hb] at this
    exact this
  have HT := hide hT
  rw [decide_eq_true hb] at HR
  generalize (codeL f).toArray = cd at *
  generalize (oneL f).toArray = fr at *
  obtain ⟨ep, pe, sq, ak, bo⟩ := f
  clear hb hT
  simp only [FR.v] at *
  go_enter Tryd.func6, Tryd.ntmps6
  go_wp2_with fail
  refine (HR.out _).mono ?_
  rintro e w1 ⟨rfl, b1⟩
  have B1 : Hid (Below w.heap.size w w1) := ((Below.refl _ _).alloc (Nat.le_refl _) _).trans (b1.mono (by simp))
  have c1 := fun k => b1.cell (p := ⟨w.heap.size, k, none⟩) (by simp)
  have e0 := c1 0
  have e1 := c1 1
  have e2 := c1 2
  have e3 := c1 3
  have e4 := c1 4
  rw [Lib.cell_of_heap (heap_alloc_new _ _)] at e0 e1 e2 e3 e4
  clear b1 c1 HR
  go_wp2_with fail
  refine (HI.out _).mono ?_
  rintro e w2 ⟨g, rfl, hat, b2⟩
  have HA := hide hat
  have B2 := hide (B1.out.trans (b2.mono B1.out.size))
  clear hat b2 HI B1
  go_wp2_with fail
  refine (HE.out _ _ HA.out).mono ?_
  rintro e w3 ⟨rfl, b3⟩
  have B3 := hide (B2.out.trans (b3.mono B2.out.size))
  clear b3 HE B2
  go_wp2_with fail
  refine (HF.out _ (HT.out.below B3.out)).mono ?_
  rintro e w4 ⟨rfl, b4⟩
  have B4 := hide (B3.out.trans (b4.mono B3.out.size))
  clear b4
  go_wp2
  go_ret2
  exact ⟨rfl, B4.out⟩
end Go.Proofs.YtodfdblgkpjchaaDoor
