/-
  add, as it runs (mkt5.py).
-/
import Derived.Test.YtominplelmbecaaZT4
namespace Go.Proofs.Ytominplelmbecaa.Y
open Go.RowKit Go.Maps
set_option maxRecDepth 100000

set_option linter.unusedVariables false
set_option linter.unusedSimpArgs false
theorem q_mb {w : World} {e : TypeId} {z : Nat} {v : Value} {n : Nat} {xs : List Value} {mb k : Nat} {D : DataW Nat} (h : OwnsQ w e z v n xs) (hm : w.ownsMap Try.prog 9 lastR mb k D) : v.ownBlock ≠ some mb := by
  intro he
  obtain ⟨es, c, hb, _⟩ := hm
  rcases h.2 with ⟨hv, _⟩ | ⟨g, off, cap, cur, hv, hg, _⟩
  · rw [hv] at he; cases he
  · rw [hv] at he
    obtain rfl : g = mb := Option.some.inj he
    rw [hb] at hg
    cases hg
/-- What add leaves. -/
def addF (G : TG) (x : Rec) : TG := { G with recs := G.recs ++ [⟨G.fin, x.prod, x.seq, x.key, x.val⟩], fin := G.fin + 1, D := pput G.D x.prod.data.toList G.fin x.seq, n := G.n + 1 }
set_option maxHeartbeats 4000000 in
set_option maxRecDepth 100000 in
theorem tadd {w : World} {L : LOC} {G : TG} {c : Nat} (h : TAt w L G) (hk : G.Ok c) (hc : c + 1 ≤ 100000) (x : Rec) (hx : x.prod.size ≤ 20) : Calls Try.prog 34 #[.pointer (some ⟨L.b, 0, none⟩), x.v] w fun e w' =>
    e = .returned (.int .i64 G.fin) ∧ ∃ L', TAt w' L' (addF G x) ∧ TStep w w' L L' := by
  obtain ⟨xo, xp, xs, xk, xv⟩ := x
  simp only [Rec.v, addF] at hx ⊢
  have hkey := Go.WideMaps.keyOf_string_mk (P := Try.prog) Try.underlying9 (s := xp) (by unfold maxLen; omega)
  have HKEY := hide hkey
  have hlen := hk.len
  have hcnt := hk.cnt
  have hfin := hk.fin
  have hbl := heap_lt h.box
  have T0 := h.below ((Below.refl w.heap.size w).alloc (Nat.le_refl _) (.cells #[.int .i64 xo, .string xp, .int .i64 xs, .string xk, .string xv] 63))
  have hb1 : Below w.heap.size w (w.alloc (.cells #[.int .i64 (G.fin : Int), .string xp, .int .i64 xs, .string xk, .string xv] 63)) := (Below.refl w.heap.size w).alloc (Nat.le_refl _) _
  have B1 := hide hb1
  have H1 := hide (h.below hb1)
  have K1 := hide (heap_alloc_new w (.cells #[.int .i64 (G.fin : Int), .string xp, .int .i64 xs, .string xk, .string xv] 63))
  have HN2 : Hid ((Value.slice L.ro G.recs.length L.rc).ownBlock ≠ some w.heap.size) := fun e => by have := h.row.lt e; omega
  have HBB : Hid (∀ j, L.own j → j < w.heap.size) := fun j hj => h.lt hj
  have c2 := T0.cells.2.2.1
  have cf := box_free (heap_alloc_new w (.cells #[.int .i64 xo, .string xp, .int .i64 xs, .string xk, .string xv] 63)) 0
  clear h hk T0 hb1 hkey
  go_enter Try.func34, Try.ntmps34
  go_upto_region 2 with fail
  generalize hrb : w.heap.size = rb at *
  generalize w.alloc (.cells #[.int .i64 (G.fin : Int), .string xp, .int .i64 xs, .string xk, .string xv] 63) = w1 at *
  have HRB := hide hrb
  clear hrb c2 cf
  have X1 := hide H1.out.box
  have R1 := hide H1.out.row
  have HN := hide H1.out.row_ne
  generalize hfi : G.fin = fi at *
  generalize hn : G.recs.length = n at *
  refine wp_region_last 10 rfl (by kernel_rfl) rfl rfl (by kernel_rfl) ?_
  intro ops' hops'
  simp only [idle, List.setIfInBounds_toArray, List.set_cons_succ, List.set_cons_zero] at hops'
  subst hops'
  refine wpAny_of_held (S := fun w' => w'.cell? ⟨L.b, 3, none⟩ = some (.slice L.ro n L.rc) ∧ w'.cell? ⟨rb, 0, none⟩ = some (.int .i64 (fi : Int)) ∧ w'.cell? ⟨rb, 1, none⟩ = some (.string xp) ∧ w'.cell? ⟨rb, 2, none⟩ = some (.int .i64 xs) ∧ w'.cell? ⟨rb, 3, none⟩ = some (.string xk) ∧ w'.cell? ⟨rb, 4, none⟩ = some (.string xv)) _ _ _ _ ?_
  have hHeld : (fun w' => w'.cell? ⟨L.b, 3, none⟩ = some (.slice L.ro n L.rc) ∧ w'.cell? ⟨rb, 0, none⟩ = some (.int .i64 (fi : Int)) ∧ w'.cell? ⟨rb, 1, none⟩ = some (.string xp) ∧ w'.cell? ⟨rb, 2, none⟩ = some (.int .i64 xs) ∧ w'.cell? ⟨rb, 3, none⟩ = some (.string xk) ∧ w'.cell? ⟨rb, 4, none⟩ = some (.string xv)) w1.drew := ⟨box_cell X1.out 3 rfl, box_cell K1.out 0 rfl, box_cell K1.out 1 rfl, box_cell K1.out 2 rfl, box_cell K1.out 3 rfl, box_cell K1.out 4 rfl⟩
  refine takeIn 0 (v := ?_) rfl (by kernel_rfl) (by kernel_rfl) (by kernel_rfl) (fun _ _ _ h => h) rfl ?_ hHeld ?_
  rotate_left
  · intro w hSw; (try dsimp only at hSw); first | (go_simp; done) | (go_simp; with_reducible rfl) | with_reducible rfl
  try simp only [Act.put, List.setIfInBounds_toArray, List.set_cons_zero, List.set_cons_succ]
  refine takeIn 1 (v := ?_) rfl (by kernel_rfl) (by kernel_rfl) (by kernel_rfl) (fun _ _ _ h => h) rfl ?_ hHeld ?_
  rotate_left
  · intro w hSw; (try dsimp only at hSw); first | (go_simp; done) | (go_simp; with_reducible rfl) | with_reducible rfl
  try simp only [Act.put, List.setIfInBounds_toArray, List.set_cons_zero, List.set_cons_succ]
  refine takeIn 2 (v := ?_) rfl (by kernel_rfl) (by kernel_rfl) (by kernel_rfl) (fun _ _ _ h => h) rfl ?_ hHeld ?_
  rotate_left
  · intro w hSw; (try dsimp only at hSw); first | (go_simp; done) | (go_simp; with_reducible rfl) | with_reducible rfl
  try simp only [Act.put, List.setIfInBounds_toArray, List.set_cons_zero, List.set_cons_succ]
  refine takeIn 3 (v := ?_) rfl (by kernel_rfl) (by kernel_rfl) (by kernel_rfl) (fun _ _ _ h => h) rfl ?_ hHeld ?_
  rotate_left
  · intro w hSw; (try dsimp only at hSw); first | (go_simp; done) | (go_simp; with_reducible rfl) | with_reducible rfl
  try simp only [Act.put, List.setIfInBounds_toArray, List.set_cons_zero, List.set_cons_succ]
  refine takeIn 4 (v := ?_) rfl (by kernel_rfl) (by kernel_rfl) (by kernel_rfl) (fun _ _ _ h => h) rfl ?_ hHeld ?_
  rotate_left
  · intro w hSw; (try dsimp only at hSw); first | (go_simp; done) | (go_simp; with_reducible rfl) | with_reducible rfl
  try simp only [Act.put, List.setIfInBounds_toArray, List.set_cons_zero, List.set_cons_succ]
  refine takeIn 5 (v := ?_) rfl (by kernel_rfl) (by kernel_rfl) (by kernel_rfl) (fun _ _ _ h => h) rfl ?_ hHeld ?_
  rotate_left
  · intro w hSw; (try dsimp only at hSw); first | (go_simp; done) | (go_simp; with_reducible rfl) | with_reducible rfl
  try simp only [Act.put, List.setIfInBounds_toArray, List.set_cons_zero, List.set_cons_succ]
  refine stepIn 6 rfl (by kernel_rfl) (fun K hK => ?_)
  go_simp
  refine hK.out _ _ ⟨box_cell (box_alloc X1.out _) 3 rfl, box_cell (box_alloc K1.out _) 0 rfl, box_cell (box_alloc K1.out _) 1 rfl, box_cell (box_alloc K1.out _) 2 rfl, box_cell (box_alloc K1.out _) 3 rfl, box_cell (box_alloc K1.out _) 4 rfl⟩ (fun hHeldx => ?_)
  clear hK K hHeld
  have hHeld := hHeldx
  clear hHeldx
  try simp only [Act.put, List.setIfInBounds_toArray, List.set_cons_zero, List.set_cons_succ]
  refine stepIn 7 rfl (by kernel_rfl) (fun K hK => ?_)
  refine step_append_q (by rfl) _ _ _ (by rfl) 63 _ _ 5 64 Try.underlying43 Try.infoRec Try.zeroRec Try.sizeRec Try.bytesRec rfl (by omega) (.slice L.ro n L.rc) n (recCells G.recs) (by rfl) (R1.out.alloc _) ⟨w1.heap.size, 0, none⟩ 1 1 [.int .i64 (fi : Int), .string xp, .int .i64 xs, .string xk, .string xv] (by rfl) (by rfl) (World.news_of_block (cs := #[.int .i64 (fi : Int), .string xp, .int .i64 xs, .string xk, .string xv]) (t := 63) (fr := (0, 0)) (heap_alloc_new w1.drew _)) (rec_ones _ _ _ _ _) (by unfold maxLen; omega) (by omega) ?_
  intro a3 c3 w3 hown3 hgrow3 hat3
  have F5 : Hid (w3.heap[L.b]? = some (.cells #[.string G.name, .int .i64 G.low, .int .i64 (fi : Int), .slice L.ro n L.rc, .map (some L.mb)] 69 (0, 0))) := grown_at hgrow3 (box_alloc X1.out _) HN.out
  have F6 : Hid (w3.heap[rb]? = some (.cells #[.int .i64 (fi : Int), .string xp, .int .i64 xs, .string xk, .string xv] 63 (0, 0))) := grown_at hgrow3 (box_alloc K1.out _) HN2.out
  have q3 := box_cell F5.out 3 rfl
  have qf := box_free F5.out 3
  refine hK.out _ _ ⟨box_cell F5.out 3 rfl, box_cell F6.out 0 rfl, box_cell F6.out 1 rfl, box_cell F6.out 2 rfl, box_cell F6.out 3 rfl, box_cell F6.out 4 rfl⟩ (fun hHeldx => ?_)
  clear hK K hHeld
  have hHeld := hHeldx
  clear hHeldx
  try simp only [Act.put, List.setIfInBounds_toArray, List.set_cons_zero, List.set_cons_succ]
  refine takeIn 8 (v := ?_) rfl (by kernel_rfl) (by kernel_rfl) (by kernel_rfl) (fun _ _ _ h => h) rfl ?_ hHeld ?_
  rotate_left
  · intro w hSw; (try dsimp only at hSw); first | (go_simp; done) | (go_simp; with_reducible rfl) | with_reducible rfl
  try simp only [Act.put, List.setIfInBounds_toArray, List.set_cons_zero, List.set_cons_succ]
  refine takeIn 9 (v := ?_) rfl (by kernel_rfl) (by kernel_rfl) (by kernel_rfl) (fun _ _ _ h => h) rfl ?_ hHeld ?_
  rotate_left
  · intro w hSw; (try dsimp only at hSw); first | (go_simp; done) | (go_simp; with_reducible rfl) | with_reducible rfl
  try simp only [Act.put, List.setIfInBounds_toArray, List.set_cons_zero, List.set_cons_succ]
  refine takeIn 10 (v := ?_) rfl (by kernel_rfl) (by kernel_rfl) (by kernel_rfl) (fun _ _ _ h => h) rfl ?_ hHeld ?_
  rotate_left
  · intro w hSw; (try dsimp only at hSw); first | (go_simp; done) | (go_simp; with_reducible rfl) | with_reducible rfl
  try simp only [Act.put, List.setIfInBounds_toArray, List.set_cons_zero, List.set_cons_succ]
  refine wpAnyH_done (by kernel_rfl) ?_ _
  intro K hK
  go_simp
  refine hK _ _ ?_
  clear hK K hHeld
  rename_i K2 hK2
  have hrL : rb ≠ L.b := fun e => by have := HBB.out L.b (.inl rfl); omega
  have hvb : (Value.slice a3 (n + 1) c3).ownBlock ≠ some L.b := fun e => (hat3 _ e).elim HN.out (fun e2 => by have := HBB.out L.b (.inl rfl); have := B1.out.size; have := HRB.out; simp at e2; omega)
  have X4 := hide (box_set F5.out 3 (.slice a3 (n + 1) c3))
  have K4 := hide (box_apart F6.out hrL 3 (.slice a3 (n + 1) c3))
  have R4 := hide (hown3.set L.b 3 (.slice a3 (n + 1) c3) hvb)
  have T14 : Hid (Touch L.own w1 (w3.setCell ⟨L.b, 3, none⟩ (.slice a3 (n + 1) c3))) := (((Touch.refl L.own w1).drew.alloc _).grown hgrow3 (fun k hk _ => .inr (.inr (by rw [← hk]; exact own_block _ _ _ _)))).setCell _ _ (fun _ => .inl rfl)
  have HAT : Hid (∀ j, (Value.slice a3 (n + 1) c3).ownBlock = some j → L.own j ∨ w1.heap.size ≤ j) := fun j hj => (hat3 j hj).elim (fun e => .inl (.inr (.inr (by rw [← e]; exact own_block _ _ _ _)))) (fun e => .inr (by simp at e; omega))
  have M4 : Hid ((w3.setCell ⟨L.b, 3, none⟩ (.slice a3 (n + 1) c3)).ownsMap Try.prog 9 lastR L.mb G.n G.D) := by
    have m1 := (Touch.refl (fun k => (Value.slice L.ro n L.rc).ownBlock = some k) w1).drew.alloc (.cells #[.int .i64 (fi : Int), .string xp, .int .i64 xs, .string xk, .string xv] 63)
    have m2 := (m1.grown hgrow3 (fun _ e _ => e)).map H1.out.map (by have := H1.out.row_mb; rw [hn] at this; exact this)
    exact m2.setCell (a := ⟨L.b, 3, none⟩) H1.out.mb_ne _
  clear hgrow3 hat3 hown3 q3 qf F5 F6
  refine hK2 _ _ ?_
  clear hK2 K2
  generalize w3.setCell ⟨L.b, 3, none⟩ (.slice a3 (n + 1) c3) = w4 at *
  obtain ⟨w5, hrun, hown5, hturn⟩ := (show w4.drew.ownsMap Try.prog 9 lastR L.mb G.n G.D from M4.out).store keyedS Try.underlying67 (by unfold maxLen; omega) HKEY.out (lastR_mk (fi : Int) xs)
  have O5 := hide hown5
  have TU := hide hturn.grown
  clear hown5 hturn
  go_upto_region 3 with fail
  refine wp_region_last 11 rfl (by kernel_rfl) rfl rfl (by kernel_rfl) ?_
  intro ops' hops'
  simp only [idle, List.setIfInBounds_toArray, List.set_cons_succ, List.set_cons_zero] at hops'
  subst hops'
  refine wpAny_of_held (S := fun w' => w'.cell? ⟨L.b, 4, none⟩ = some (.map (some L.mb)) ∧ w'.cell? ⟨rb, 0, none⟩ = some (.int .i64 (fi : Int)) ∧ w'.cell? ⟨rb, 1, none⟩ = some (.string xp) ∧ w'.cell? ⟨rb, 2, none⟩ = some (.int .i64 xs)) _ _ _ _ ?_
  have hHeld : (fun w' => w'.cell? ⟨L.b, 4, none⟩ = some (.map (some L.mb)) ∧ w'.cell? ⟨rb, 0, none⟩ = some (.int .i64 (fi : Int)) ∧ w'.cell? ⟨rb, 1, none⟩ = some (.string xp) ∧ w'.cell? ⟨rb, 2, none⟩ = some (.int .i64 xs)) w4.drew := ⟨box_cell X4.out 4 rfl, box_cell K4.out 0 rfl, box_cell K4.out 1 rfl, box_cell K4.out 2 rfl⟩
  refine takeIn 0 (v := ?_) rfl (by kernel_rfl) (by kernel_rfl) (by kernel_rfl) (fun _ _ _ h => h) rfl ?_ hHeld ?_
  rotate_left
  · intro w hSw; (try dsimp only at hSw); first | (go_simp; done) | (go_simp; with_reducible rfl) | with_reducible rfl
  try simp only [Act.put, List.setIfInBounds_toArray, List.set_cons_zero, List.set_cons_succ]
  refine takeIn 1 (v := ?_) rfl (by kernel_rfl) (by kernel_rfl) (by kernel_rfl) (fun _ _ _ h => h) rfl ?_ hHeld ?_
  rotate_left
  · intro w hSw; (try dsimp only at hSw); first | (go_simp; done) | (go_simp; with_reducible rfl) | with_reducible rfl
  try simp only [Act.put, List.setIfInBounds_toArray, List.set_cons_zero, List.set_cons_succ]
  refine takeIn 2 (v := ?_) rfl (by kernel_rfl) (by kernel_rfl) (by kernel_rfl) (fun _ _ _ h => h) rfl ?_ hHeld ?_
  rotate_left
  · intro w hSw; (try dsimp only at hSw); first | (go_simp; done) | (go_simp; with_reducible rfl) | with_reducible rfl
  try simp only [Act.put, List.setIfInBounds_toArray, List.set_cons_zero, List.set_cons_succ]
  refine takeIn 3 (v := ?_) rfl (by kernel_rfl) (by kernel_rfl) (by kernel_rfl) (fun _ _ _ h => h) rfl ?_ hHeld ?_
  rotate_left
  · intro w hSw; (try dsimp only at hSw); first | (go_simp; done) | (go_simp; with_reducible rfl) | with_reducible rfl
  try simp only [Act.put, List.setIfInBounds_toArray, List.set_cons_zero, List.set_cons_succ]
  refine takeIn 4 (v := ?_) rfl (by kernel_rfl) (by kernel_rfl) (by kernel_rfl) (fun _ _ _ h => h) rfl ?_ hHeld ?_
  rotate_left
  · intro w hSw; (try dsimp only at hSw); first | (go_simp; done) | (go_simp; with_reducible rfl) | with_reducible rfl
  try simp only [Act.put, List.setIfInBounds_toArray, List.set_cons_zero, List.set_cons_succ]
  refine takeIn 5 (v := ?_) rfl (by kernel_rfl) (by kernel_rfl) (by kernel_rfl) (fun _ _ _ h => h) rfl ?_ hHeld ?_
  rotate_left
  · intro w hSw; (try dsimp only at hSw); first | (go_simp; done) | (go_simp; with_reducible rfl) | with_reducible rfl
  try simp only [Act.put, List.setIfInBounds_toArray, List.set_cons_zero, List.set_cons_succ]
  refine takeIn 6 (v := ?_) rfl (by kernel_rfl) (by kernel_rfl) (by kernel_rfl) (fun _ _ _ h => h) rfl ?_ hHeld ?_
  rotate_left
  · intro w hSw; (try dsimp only at hSw); first | (go_simp; done) | (go_simp; with_reducible rfl) | with_reducible rfl
  try simp only [Act.put, List.setIfInBounds_toArray, List.set_cons_zero, List.set_cons_succ]
  refine takeIn 7 (v := ?_) rfl (by kernel_rfl) (by kernel_rfl) (by kernel_rfl) (fun _ _ _ h => h) rfl ?_ hHeld ?_
  rotate_left
  · intro w hSw; (try dsimp only at hSw); first | (go_simp; done) | (go_simp; with_reducible rfl) | with_reducible rfl
  try simp only [Act.put, List.setIfInBounds_toArray, List.set_cons_zero, List.set_cons_succ]
  refine takeIn 8 (v := ?_) rfl (by kernel_rfl) (by kernel_rfl) (by kernel_rfl) (fun _ _ _ h => h) rfl ?_ hHeld ?_
  rotate_left
  · intro w hSw; (try dsimp only at hSw); first | (go_simp; done) | (go_simp; with_reducible rfl) | with_reducible rfl
  try simp only [Act.put, List.setIfInBounds_toArray, List.set_cons_zero, List.set_cons_succ]
  refine takeIn 9 (v := ?_) rfl (by kernel_rfl) (by kernel_rfl) (by kernel_rfl) (fun _ _ _ h => h) rfl ?_ hHeld ?_
  rotate_left
  · intro w hSw; (try dsimp only at hSw); first | (go_simp; done) | (go_simp; with_reducible rfl) | with_reducible rfl
  try simp only [Act.put, List.setIfInBounds_toArray, List.set_cons_zero, List.set_cons_succ]
  refine takeIn 10 (v := ?_) rfl (by kernel_rfl) (by kernel_rfl) (by kernel_rfl) (fun _ _ _ h => h) rfl ?_ hHeld ?_
  rotate_left
  · intro w hSw; (try dsimp only at hSw); first | (go_simp; done) | (go_simp; with_reducible rfl) | with_reducible rfl
  try simp only [Act.put, List.setIfInBounds_toArray, List.set_cons_zero, List.set_cons_succ]
  refine takeIn 11 (v := ?_) rfl (by kernel_rfl) (by kernel_rfl) (by kernel_rfl) (fun _ _ _ h => h) rfl ?_ hHeld ?_
  rotate_left
  · intro w hSw; (try dsimp only at hSw); first | (go_simp; done) | (go_simp; with_reducible rfl) | with_reducible rfl
  try simp only [Act.put, List.setIfInBounds_toArray, List.set_cons_zero, List.set_cons_succ]
  refine wpAnyH_done (by kernel_rfl) ?_ _
  intro K hK
  go_simp
  refine hK _ _ ?_
  clear hK K hHeld
  rename_i K3 hK3
  have hmb := H1.out.mb_ne
  have hrm : L.mb ≠ rb := fun e => by have := HBB.out L.mb (.inr (.inl rfl)); omega
  have X5 : Hid (w5.heap[L.b]? = some (.cells #[.string G.name, .int .i64 G.low, .int .i64 (fi : Int), .slice a3 (n + 1) c3, .map (some L.mb)] 69 (0, 0))) := grown_at TU.out X4.out (fun e => hmb (Option.some.inj e))
  have K5 := hide (grown_at TU.out (show w4.drew.heap[rb]? = _ from K4.out) (fun e => hrm (Option.some.inj e)))
  have R5 : Hid (OwnsQ w5 63 5 (.slice a3 (n + 1) c3) (n + 1) (recCells G.recs ++ [.int .i64 (fi : Int), .string xp, .int .i64 xs, .string xk, .string xv])) := R4.out.congr (fun j hj => TU.out.block j (R4.out.lt hj) (fun e => q_mb R4.out M4.out (by rw [hj, e])))
  have T45 : Hid (Touch L.own w4 w5) := ((Touch.refl L.own w4).drew).grown TU.out (fun k hk _ => .inr (.inl (Option.some.inj hk).symm))
  have x2 := box_cell X5.out 2 rfl
  have f2 := box_free X5.out 2
  have k0 := box_cell K5.out 0 rfl
  clear X4 K4 R4 TU M4 hrun X1 R1 K1
  refine hK3 _ _ ?_
  clear hK3 K3
  go_wp2
  go_ret
  have HF := hfi
  subst HF
  refine ⟨rfl, ⟨L.b, L.mb, a3, c3⟩, ⟨?_, ?_, ?_⟩, ⟨?_, rfl, ?_⟩⟩
  · have := box_set X5.out 2 (.int .i64 ((G.fin : Int) + 1))
    simp only [List.length_append, List.length_cons, List.length_nil, hn, Nat.zero_add]
    exact this
  · simp only [List.length_append, List.length_cons, List.length_nil, hn, recCells_snoc, Nat.zero_add]
    exact R5.out.set L.b 2 _ hvb
  · exact O5.out.setCell (a := ⟨L.b, 2, none⟩) hmb _
  · have t1 : Touch L.own w w1 := Touch.of_below (by rw [HRB.out]; exact B1.out)
    exact ((t1.andThen T14.out (fun _ _ e => e)).andThen T45.out (fun _ _ e => e)).setCell _ _ (fun _ => .inl rfl)
  · rintro j (rfl | rfl | hj)
    · exact .inl (.inl rfl)
    · exact .inl (.inr (.inl rfl))
    · rcases HAT.out j ((own_block _ _ _ _).trans hj) with e | e
      · exact .inl e
      · exact .inr (by have := B1.out.size; omega)
end Go.Proofs.Ytominplelmbecaa.Y
