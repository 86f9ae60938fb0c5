/-
  The program's ballotOf, acceptorOf, as they run (mkp3.py).
-/
import Derived.Test.YtpopamechapmmaaZP2
import Derived.Test.YtpopamechapmmaaZS1
import Derived.Test.YtpopamechapmmaaZLast
import Derived.Shelf.Abstract
import Derived.Deep.DrawnRows
import Derived.Deep.RegionHeldLaw
import Derived.Deep.RegionWith
namespace Go.Proofs.Ytpopamechapmmaa
open Go.RowKit

set_option maxHeartbeats 1000000 in
theorem ballotOf_any (k0 n0 k1 n1 : Int) (s0 s1 : ByteArray) (w : World) :
    Calls Try.prog 41 #[.agg #[.int .i64 k0, .int .u64 n0, .string s0], .agg #[.int .i64 k1, .int .u64 n1, .string s1]] w fun e w' => e = .returned (.agg #[.int .i64 (wrap64 n0), .int .i64 (wrap64 n1)]) ∧ Below w.heap.size w w' := by
  go_enter Try.func41, Try.ntmps41
  go_wp2
  refine bodyPost_ret (v := .agg #[.int .i64 (wrap64 n0), .int .i64 (wrap64 n1)]) (by simp [results, Try.results41, go_sem]) rfl ⟨rfl, ?_⟩
  exact below_new (below_new (below_new (Below.refl _ w) _) _) _
/-- The cells that acceptorOf reads. -/
def Five (g off : Nat) (k0 n0 : Int) (s0 : ByteArray) (k1 n1 : Int) (s1 : ByteArray) (k2 n2 : Int) (s2 : ByteArray) (k3 n3 : Int) (s3 s4 : ByteArray) (w' : World) : Prop := w'.cell? ⟨g, off, none⟩ = some (.int .i64 k0) ∧ w'.cell? ⟨g, off + 1, none⟩ = some (.int .u64 n0) ∧ w'.cell? ⟨g, off + 2, none⟩ = some (.string s0) ∧ w'.cell? ⟨g, off + 3, none⟩ = some (.int .i64 k1) ∧ w'.cell? ⟨g, off + 4, none⟩ = some (.int .u64 n1) ∧ w'.cell? ⟨g, off + 5, none⟩ = some (.string s1) ∧ w'.cell? ⟨g, off + 6, none⟩ = some (.int .i64 k2) ∧ w'.cell? ⟨g, off + 7, none⟩ = some (.int .u64 n2) ∧ w'.cell? ⟨g, off + 8, none⟩ = some (.string s2) ∧ w'.cell? ⟨g, off + 9, none⟩ = some (.int .i64 k3) ∧ w'.cell? ⟨g, off + 10, none⟩ = some (.int .u64 n3) ∧ w'.cell? ⟨g, off + 11, none⟩ = some (.string s3) ∧ w'.cell? ⟨g, off + 14, none⟩ = some (.string s4)
theorem Five.to {g off : Nat} {k0 n0 : Int} {s0 : ByteArray} {k1 n1 : Int} {s1 : ByteArray} {k2 n2 : Int} {s2 : ByteArray} {k3 n3 : Int} {s3 s4 : ByteArray} {w w' : World} (h : Five g off k0 n0 s0 k1 n1 s1 k2 n2 s2 k3 n3 s3 s4 w) (hg : g < w.heap.size) (hb : Below w.heap.size w w') : Five g off k0 n0 s0 k1 n1 s1 k2 n2 s2 k3 n3 s3 s4 w' := by
  obtain ⟨h0, h1, h2, h3, h4, h5, h6, h7, h8, h9, h10, h11, h12⟩ := h
  exact ⟨(hb.cell (p := ⟨g, off, none⟩) hg).trans h0, (hb.cell (p := ⟨g, off + 1, none⟩) hg).trans h1, (hb.cell (p := ⟨g, off + 2, none⟩) hg).trans h2, (hb.cell (p := ⟨g, off + 3, none⟩) hg).trans h3, (hb.cell (p := ⟨g, off + 4, none⟩) hg).trans h4, (hb.cell (p := ⟨g, off + 5, none⟩) hg).trans h5, (hb.cell (p := ⟨g, off + 6, none⟩) hg).trans h6, (hb.cell (p := ⟨g, off + 7, none⟩) hg).trans h7, (hb.cell (p := ⟨g, off + 8, none⟩) hg).trans h8, (hb.cell (p := ⟨g, off + 9, none⟩) hg).trans h9, (hb.cell (p := ⟨g, off + 10, none⟩) hg).trans h10, (hb.cell (p := ⟨g, off + 11, none⟩) hg).trans h11, (hb.cell (p := ⟨g, off + 14, none⟩) hg).trans h12⟩
set_option maxHeartbeats 4000000 in
set_option maxRecDepth 100000 in
set_option linter.unusedSimpArgs false in
theorem acceptorOf_five (g off cap : Nat) (k0 n0 : Int) (s0 : ByteArray) (k1 n1 : Int) (s1 : ByteArray) (k2 n2 : Int) (s2 : ByteArray) (k3 n3 : Int) (s3 s4 : ByteArray) (w : World) (hg : g < w.heap.size) (hc : Five g off k0 n0 s0 k1 n1 s1 k2 n2 s2 k3 n3 s3 s4 w) :
    Calls Try.prog 21 #[.slice (some ⟨g, off, none⟩) 5 cap] w fun e w' => e = .returned (.agg #[.int .i64 (wrap64 n0), .int .i64 (wrap64 n1), .int .i64 (wrap64 n2), .int .i64 (wrap64 n3), .string s4]) ∧ Below w.heap.size w w' := by
  have HK := hide (enters_of Try.func41 (by kernel_rfl) rfl)
  have FA := hide (hc.to hg (below_new (Below.refl _ w) (.cells #[.int .i64 0, .int .i64 0, .int .i64 0, .int .i64 0, .string ⟨#[]⟩] 25)))
  have XA := hide (heap_alloc_new w (.cells #[.int .i64 0, .int .i64 0, .int .i64 0, .int .i64 0, .string ⟨#[]⟩] 25))
  have BA := hide (below_new (Below.refl _ w) (.cells #[.int .i64 0, .int .i64 0, .int .i64 0, .int .i64 0, .string ⟨#[]⟩] 25))
  have hgA : g < (w.alloc (.cells #[.int .i64 0, .int .i64 0, .int .i64 0, .int .i64 0, .string ⟨#[]⟩] 25)).heap.size := Nat.lt_of_lt_of_le hg BA.out.size
  clear hc hg
  go_enter Try.func21, Try.ntmps21
  go_wp2_with fail
  generalize w.alloc (.cells #[.int .i64 0, .int .i64 0, .int .i64 0, .int .i64 0, .string ⟨#[]⟩] 25) = w0 at *
  have F1 : Hid (Five g off k0 n0 s0 k1 n1 s1 k2 n2 s2 k3 n3 s3 s4 w0.drew) := FA.out
  have X1 : Hid (w0.drew.heap[w.heap.size]? = some (.cells #[.int .i64 0, .int .i64 0, .int .i64 0, .int .i64 0, .string ⟨#[]⟩] 25)) := XA.out
  have B1 : Hid (Below w.heap.size w w0.drew) := BA.out.drew
  have hgw1 : g < w0.drew.heap.size := hgA
  clear FA XA BA hgA
  refine wp_region_last 19 rfl (by kernel_rfl) rfl rfl (by kernel_rfl) ?_
  intro ops' hops'
  simp only [idle, List.setIfInBounds_toArray, List.set_cons_succ, List.set_cons_zero] at hops'
  subst hops'
  refine wpAny_of_held (S := fun w' => w'.cell? ⟨g, off, none⟩ = some (.int .i64 k0) ∧ w'.cell? ⟨g, off + 1, none⟩ = some (.int .u64 n0) ∧ w'.cell? ⟨g, off + 2, none⟩ = some (.string s0) ∧ w'.cell? ⟨g, off + 3, none⟩ = some (.int .i64 k1) ∧ w'.cell? ⟨g, off + 4, none⟩ = some (.int .u64 n1) ∧ w'.cell? ⟨g, off + 5, none⟩ = some (.string s1) ∧ w'.cell? ⟨g, off + 6, none⟩ = some (.int .i64 k2) ∧ w'.cell? ⟨g, off + 7, none⟩ = some (.int .u64 n2) ∧ w'.cell? ⟨g, off + 8, none⟩ = some (.string s2) ∧ w'.cell? ⟨g, off + 9, none⟩ = some (.int .i64 k3) ∧ w'.cell? ⟨g, off + 10, none⟩ = some (.int .u64 n3) ∧ w'.cell? ⟨g, off + 11, none⟩ = some (.string s3) ∧ w'.cell? ⟨g, off + 14, none⟩ = some (.string s4)) _ _ _ _ ?_
  have hHeld : (fun w' => w'.cell? ⟨g, off, none⟩ = some (.int .i64 k0) ∧ w'.cell? ⟨g, off + 1, none⟩ = some (.int .u64 n0) ∧ w'.cell? ⟨g, off + 2, none⟩ = some (.string s0) ∧ w'.cell? ⟨g, off + 3, none⟩ = some (.int .i64 k1) ∧ w'.cell? ⟨g, off + 4, none⟩ = some (.int .u64 n1) ∧ w'.cell? ⟨g, off + 5, none⟩ = some (.string s1) ∧ w'.cell? ⟨g, off + 6, none⟩ = some (.int .i64 k2) ∧ w'.cell? ⟨g, off + 7, none⟩ = some (.int .u64 n2) ∧ w'.cell? ⟨g, off + 8, none⟩ = some (.string s2) ∧ w'.cell? ⟨g, off + 9, none⟩ = some (.int .i64 k3) ∧ w'.cell? ⟨g, off + 10, none⟩ = some (.int .u64 n3) ∧ w'.cell? ⟨g, off + 11, none⟩ = some (.string s3) ∧ w'.cell? ⟨g, off + 14, none⟩ = some (.string s4)) w0.drew := F1.out
  refine takeIn 0 (v := ?_) rfl (by kernel_rfl) (by kernel_rfl) (by kernel_rfl) (fun _ _ _ h => h) rfl ?_ hHeld ?_
  rotate_left
  · intro w hSw; (try dsimp only at hSw); first | (go_simp; done) | (go_simp; with_reducible rfl) | with_reducible rfl
  try simp only [Act.put, List.setIfInBounds_toArray, List.set_cons_zero, List.set_cons_succ]
  refine takeIn 1 (v := ?_) rfl (by kernel_rfl) (by kernel_rfl) (by kernel_rfl) (fun _ _ _ h => h) rfl ?_ hHeld ?_
  rotate_left
  · intro w hSw; (try dsimp only at hSw); first | (go_simp; done) | (go_simp; with_reducible rfl) | with_reducible rfl
  try simp only [Act.put, List.setIfInBounds_toArray, List.set_cons_zero, List.set_cons_succ]
  refine takeIn 2 (v := ?_) rfl (by kernel_rfl) (by kernel_rfl) (by kernel_rfl) (fun _ _ _ h => h) rfl ?_ hHeld ?_
  rotate_left
  · intro w hSw; (try dsimp only at hSw); first | (go_simp; done) | (go_simp; with_reducible rfl) | with_reducible rfl
  try simp only [Act.put, List.setIfInBounds_toArray, List.set_cons_zero, List.set_cons_succ]
  refine takeIn 3 (v := ?_) rfl (by kernel_rfl) (by kernel_rfl) (by kernel_rfl) (fun _ _ _ h => h) rfl ?_ hHeld ?_
  rotate_left
  · intro w hSw; (try dsimp only at hSw); first | (go_simp; done) | (go_simp; with_reducible rfl) | with_reducible rfl
  try simp only [Act.put, List.setIfInBounds_toArray, List.set_cons_zero, List.set_cons_succ]
  refine takeIn 4 (v := ?_) rfl (by kernel_rfl) (by kernel_rfl) (by kernel_rfl) (fun _ _ _ h => h) rfl ?_ hHeld ?_
  rotate_left
  · intro w hSw; (try dsimp only at hSw); first | (go_simp; done) | (go_simp; with_reducible rfl) | with_reducible rfl
  try simp only [Act.put, List.setIfInBounds_toArray, List.set_cons_zero, List.set_cons_succ]
  refine takeIn 5 (v := ?_) rfl (by kernel_rfl) (by kernel_rfl) (by kernel_rfl) (fun _ _ _ h => h) rfl ?_ hHeld ?_
  rotate_left
  · intro w hSw; (try dsimp only at hSw); first | (go_simp; done) | (go_simp; with_reducible rfl) | with_reducible rfl
  try simp only [Act.put, List.setIfInBounds_toArray, List.set_cons_zero, List.set_cons_succ]
  refine takeIn 7 (v := ?_) rfl (by kernel_rfl) (by kernel_rfl) (by kernel_rfl) (fun _ _ _ h => h) rfl ?_ hHeld ?_
  rotate_left
  · intro w hSw; (try dsimp only at hSw); first | (go_simp; done) | (go_simp; with_reducible rfl) | with_reducible rfl
  try simp only [Act.put, List.setIfInBounds_toArray, List.set_cons_zero, List.set_cons_succ]
  refine takeIn 8 (v := ?_) rfl (by kernel_rfl) (by kernel_rfl) (by kernel_rfl) (fun _ _ _ h => h) rfl ?_ hHeld ?_
  rotate_left
  · intro w hSw; (try dsimp only at hSw); first | (go_simp; done) | (go_simp; with_reducible rfl) | with_reducible rfl
  try simp only [Act.put, List.setIfInBounds_toArray, List.set_cons_zero, List.set_cons_succ]
  refine takeIn 9 (v := ?_) rfl (by kernel_rfl) (by kernel_rfl) (by kernel_rfl) (fun _ _ _ h => h) rfl ?_ hHeld ?_
  rotate_left
  · intro w hSw; (try dsimp only at hSw); first | (go_simp; done) | (go_simp; with_reducible rfl) | with_reducible rfl
  try simp only [Act.put, List.setIfInBounds_toArray, List.set_cons_zero, List.set_cons_succ]
  refine takeIn 10 (v := ?_) rfl (by kernel_rfl) (by kernel_rfl) (by kernel_rfl) (fun _ _ _ h => h) rfl ?_ hHeld ?_
  rotate_left
  · intro w hSw; (try dsimp only at hSw); first | (go_simp; done) | (go_simp; with_reducible rfl) | with_reducible rfl
  try simp only [Act.put, List.setIfInBounds_toArray, List.set_cons_zero, List.set_cons_succ]
  refine takeIn 11 (v := ?_) rfl (by kernel_rfl) (by kernel_rfl) (by kernel_rfl) (fun _ _ _ h => h) rfl ?_ hHeld ?_
  rotate_left
  · intro w hSw; (try dsimp only at hSw); first | (go_simp; done) | (go_simp; with_reducible rfl) | with_reducible rfl
  try simp only [Act.put, List.setIfInBounds_toArray, List.set_cons_zero, List.set_cons_succ]
  refine takeIn 12 (v := ?_) rfl (by kernel_rfl) (by kernel_rfl) (by kernel_rfl) (fun _ _ _ h => h) rfl ?_ hHeld ?_
  rotate_left
  · intro w hSw; (try dsimp only at hSw); first | (go_simp; done) | (go_simp; with_reducible rfl) | with_reducible rfl
  try simp only [Act.put, List.setIfInBounds_toArray, List.set_cons_zero, List.set_cons_succ]
  refine takeIn 14 (v := ?_) rfl (by kernel_rfl) (by kernel_rfl) (by kernel_rfl) (fun _ _ _ h => h) rfl ?_ hHeld ?_
  rotate_left
  · intro w hSw; (try dsimp only at hSw); first | (go_simp; done) | (go_simp; with_reducible rfl) | with_reducible rfl
  try simp only [Act.put, List.setIfInBounds_toArray, List.set_cons_zero, List.set_cons_succ]
  refine takeIn 15 (v := ?_) rfl (by kernel_rfl) (by kernel_rfl) (by kernel_rfl) (fun _ _ _ h => h) rfl ?_ hHeld ?_
  rotate_left
  · intro w hSw; (try dsimp only at hSw); first | (go_simp; done) | (go_simp; with_reducible rfl) | with_reducible rfl
  try simp only [Act.put, List.setIfInBounds_toArray, List.set_cons_zero, List.set_cons_succ]
  refine takeIn 16 (v := ?_) rfl (by kernel_rfl) (by kernel_rfl) (by kernel_rfl) (fun _ _ _ h => h) rfl ?_ hHeld ?_
  rotate_left
  · intro w hSw; (try dsimp only at hSw); first | (go_simp; done) | (go_simp; with_reducible rfl) | with_reducible rfl
  try simp only [Act.put, List.setIfInBounds_toArray, List.set_cons_zero, List.set_cons_succ]
  refine takeIn 17 (v := ?_) rfl (by kernel_rfl) (by kernel_rfl) (by kernel_rfl) (fun _ _ _ h => h) rfl ?_ hHeld ?_
  rotate_left
  · intro w hSw; (try dsimp only at hSw); first | (go_simp; done) | (go_simp; with_reducible rfl) | with_reducible rfl
  try simp only [Act.put, List.setIfInBounds_toArray, List.set_cons_zero, List.set_cons_succ]
  refine stepIn 6 rfl (by kernel_rfl) (fun K hK => ?_)
  refine step_fn rfl 41 _ _ rfl HK.out [.agg #[.int .i64 k0, .int .u64 n0, .string s0], .agg #[.int .i64 k1, .int .u64 n1, .string s1]] rfl (ballotOf_any _ _ _ _ _ _ _) ?_
  rintro e w2 ⟨rfl, bb⟩
  refine ⟨_, rfl, ?_⟩
  have Fw2 := hide (F1.out.to hgw1 bb)
  have Xw2 := hide (Below.at bb X1.out)
  have Bw2 := hide (bthen B1.out bb)
  have hgw2 : g < w2.heap.size := Nat.lt_of_lt_of_le hgw1 bb.size
  clear bb
  refine hK.out _ _ Fw2.out (fun hHeldx => ?_)
  clear hK K hHeld
  have hHeld := hHeldx
  clear hHeldx
  try simp only [Act.put, List.setIfInBounds_toArray, List.set_cons_zero, List.set_cons_succ]
  refine stepIn 13 rfl (by kernel_rfl) (fun K hK => ?_)
  refine step_fn rfl 41 _ _ rfl HK.out [.agg #[.int .i64 k2, .int .u64 n2, .string s2], .agg #[.int .i64 k3, .int .u64 n3, .string s3]] rfl (ballotOf_any _ _ _ _ _ _ _) ?_
  rintro e w3 ⟨rfl, bb⟩
  refine ⟨_, rfl, ?_⟩
  have Fw3 := hide (Fw2.out.to hgw2 bb)
  have Xw3 := hide (Below.at bb Xw2.out)
  have Bw3 := hide (bthen Bw2.out bb)
  have hgw3 : g < w3.heap.size := Nat.lt_of_lt_of_le hgw2 bb.size
  clear bb
  refine hK.out _ _ Fw3.out (fun hHeldx => ?_)
  clear hK K hHeld
  have hHeld := hHeldx
  clear hHeldx
  try simp only [Act.put, List.setIfInBounds_toArray, List.set_cons_zero, List.set_cons_succ]
  refine takeIn 18 (v := ?_) rfl (by kernel_rfl) (by kernel_rfl) (by kernel_rfl) (fun _ _ _ h => h) rfl ?_ hHeld ?_
  rotate_left
  · intro w hSw; (try dsimp only at hSw); first | (go_simp; done) | (go_simp; with_reducible rfl) | with_reducible rfl
  try simp only [Act.put, List.setIfInBounds_toArray, List.set_cons_zero, List.set_cons_succ]
  refine takeIn 19 (v := ?_) rfl (by kernel_rfl) (by kernel_rfl) (by kernel_rfl) (fun _ _ _ h => h) rfl ?_ hHeld ?_
  rotate_left
  · intro w hSw; (try dsimp only at hSw); first | (go_simp; done) | (go_simp; with_reducible rfl) | with_reducible rfl
  try simp only [Act.put, List.setIfInBounds_toArray, List.set_cons_zero, List.set_cons_succ]
  obtain ⟨⟨c0, c1, c2, c3, c4⟩, f0, f1, f2, f3, f4⟩ := box5 Xw3.out
  refine wpAnyH_done (by kernel_rfl) ?_ _
  intro K hK
  go_simp
  refine hK _ _ ?_
  clear hK K hHeld
  go_wp2
  have K := box5 (set5_box (.int .i64 (wrap64 n0)) (.int .i64 (wrap64 n1)) (.int .i64 (wrap64 n2)) (.int .i64 (wrap64 n3)) (.string s4) Xw3.out)
  simp only [set5] at K
  obtain ⟨⟨k0, k1, k2, k3, k4⟩, _⟩ := K
  refine bodyPost_ret (v := .agg #[.int .i64 (wrap64 n0), .int .i64 (wrap64 n1), .int .i64 (wrap64 n2), .int .i64 (wrap64 n3), .string s4]) (by simp [results, Try.results21, go_sem, k0, k1, k2, k3, k4]) rfl ⟨rfl, ?_⟩
  exact set5_below _ _ _ _ _ Bw3.out (Nat.le_refl _)
end Go.Proofs.Ytpopamechapmmaa
