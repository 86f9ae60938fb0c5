/-
  A topic that a call has made, held beside all that was there; pick, records.
-/
import Derived.Test.YtmkkcgkakomacaaGreatZT4
import Derived.Laws.StructEq
import Derived.Deep.QuietTactic
namespace Go.Proofs.YtmkkcgkakomacaaGreat.Y
open Go.RowKit Go.Maps
set_option maxHeartbeats 4000000
set_option maxRecDepth 100000
set_option linter.unusedVariables false
set_option linter.unusedSimpArgs false
theorem q_mb {w : World} {e : TypeId} {z : Nat} {v : Value} {n : Nat} {xs : List Value} {mb k : Nat} {D : DataW Nat} (h : OwnsQ w e z v n xs) (hm : w.ownsMap Tryz.prog 9 lastR mb k D) : v.ownBlock ≠ some mb := by
  intro he
  obtain ⟨es, c, hb, _⟩ := hm
  rcases h.2 with ⟨hv, _⟩ | ⟨g, off, cap, cur, hv, hg, _⟩
  · rw [hv] at he; cases he
  · rw [hv] at he
    obtain rfl : g = mb := Option.some.inj he
    rw [hb] at hg
    cases hg
def addF (G : TG) (x : Rec) : TG := { G with recs := G.recs ++ [⟨G.fin, x.prod, x.seq, x.key, x.val⟩], fin := G.fin + 1, D := pput G.D x.prod.data.toList G.fin x.seq, n := G.n + 1 }
theorem tadd {w : World} {L : LOC} {G : TG} {c : Nat} (h : TAt w L G) (hk : G.Ok c) (hc : c + 1 ≤ 100000) (x : Rec) (hx : x.prod.size ≤ 20) : Calls Tryz.prog 30 #[.pointer (some ⟨L.b, 0, none⟩), x.v] w fun e w' =>
    e = .returned (.int .i64 G.fin) ∧ ∃ L', TAt w' L' (addF G x) ∧ TStep w w' L L' := by
  obtain ⟨xo, xp, xs, xk, xv⟩ := x
  simp only [Rec.v, addF] at hx ⊢
  have hkey := Go.WideMaps.keyOf_string_mk (P := Tryz.prog) Tryz.underlying9 (s := xp) (by unfold maxLen; omega)
  have HKEY := hide hkey
  have hlen := hk.len
  have hcnt := hk.cnt
  have hfin := hk.fin
  have hbl := heap_lt h.box
  have T0 := h.below ((Below.refl w.heap.size w).alloc (Nat.le_refl _) (.cells #[.int .i64 xo, .string xp, .int .i64 xs, .string xk, .string xv] 39))
  have hb1 : Below w.heap.size w (w.alloc (.cells #[.int .i64 (G.fin : Int), .string xp, .int .i64 xs, .string xk, .string xv] 39)) := (Below.refl w.heap.size w).alloc (Nat.le_refl _) _
  have B1 := hide hb1
  have H1 := hide (h.below hb1)
  have K1 := hide (heap_alloc_new w (.cells #[.int .i64 (G.fin : Int), .string xp, .int .i64 xs, .string xk, .string xv] 39))
  have HN2 : Hid ((Value.slice L.ro G.recs.length L.rc).ownBlock ≠ some w.heap.size) := fun e => by have := h.row.lt e; omega
  have HBB : Hid (∀ j, L.own j → j < w.heap.size) := fun j hj => h.lt hj
  have c2 := T0.cells.2.2.1
  have cf := box_free (heap_alloc_new w (.cells #[.int .i64 xo, .string xp, .int .i64 xs, .string xk, .string xv] 39)) 0
  clear h hk T0 hb1 hkey
  go_enter Tryz.func30, Tryz.ntmps30
  go_upto_region 2 with fail
  generalize hrb : w.heap.size = rb at *
  generalize w.alloc (.cells #[.int .i64 (G.fin : Int), .string xp, .int .i64 xs, .string xk, .string xv] 39) = w1 at *
  have HRB := hide hrb
  clear hrb c2 cf
  have X1 := hide H1.out.box
  have R1 := hide H1.out.row
  have HN := hide H1.out.row_ne
  generalize hfi : G.fin = fi at *
  generalize hn : G.recs.length = n at *
  refine wp_region_last 10 rfl (by kernel_rfl) rfl rfl (by kernel_rfl) ?_
  intro ops' hops'
  simp only [idle, List.setIfInBounds_toArray, List.set_cons_succ, List.set_cons_zero] at hops'
  subst hops'
  refine wpAny_of_held (S := fun w' => w'.cell? ⟨L.b, 3, none⟩ = some (.slice L.ro n L.rc) ∧ w'.cell? ⟨rb, 0, none⟩ = some (.int .i64 (fi : Int)) ∧ w'.cell? ⟨rb, 1, none⟩ = some (.string xp) ∧ w'.cell? ⟨rb, 2, none⟩ = some (.int .i64 xs) ∧ w'.cell? ⟨rb, 3, none⟩ = some (.string xk) ∧ w'.cell? ⟨rb, 4, none⟩ = some (.string xv)) _ _ _ _ ?_
  have hHeld : (fun w' => w'.cell? ⟨L.b, 3, none⟩ = some (.slice L.ro n L.rc) ∧ w'.cell? ⟨rb, 0, none⟩ = some (.int .i64 (fi : Int)) ∧ w'.cell? ⟨rb, 1, none⟩ = some (.string xp) ∧ w'.cell? ⟨rb, 2, none⟩ = some (.int .i64 xs) ∧ w'.cell? ⟨rb, 3, none⟩ = some (.string xk) ∧ w'.cell? ⟨rb, 4, none⟩ = some (.string xv)) w1.drew := ⟨box_cell X1.out 3 rfl, box_cell K1.out 0 rfl, box_cell K1.out 1 rfl, box_cell K1.out 2 rfl, box_cell K1.out 3 rfl, box_cell K1.out 4 rfl⟩
  refine takeIn 0 (v := ?_) rfl (by kernel_rfl) (by kernel_rfl) (by kernel_rfl) (fun _ _ _ h => h) rfl ?_ hHeld ?_
  rotate_left
  · intro w hSw; (try dsimp only at hSw); first | (go_simp; done) | (go_simp; with_reducible rfl) | with_reducible rfl
  try simp only [Act.put, List.setIfInBounds_toArray, List.set_cons_zero, List.set_cons_succ]
  refine takeIn 1 (v := ?_) rfl (by kernel_rfl) (by kernel_rfl) (by kernel_rfl) (fun _ _ _ h => h) rfl ?_ hHeld ?_
  rotate_left
  · intro w hSw; (try dsimp only at hSw); first | (go_simp; done) | (go_simp; with_reducible rfl) | with_reducible rfl
  try simp only [Act.put, List.setIfInBounds_toArray, List.set_cons_zero, List.set_cons_succ]
  refine takeIn 2 (v := ?_) rfl (by kernel_rfl) (by kernel_rfl) (by kernel_rfl) (fun _ _ _ h => h) rfl ?_ hHeld ?_
  rotate_left
  · intro w hSw; (try dsimp only at hSw); first | (go_simp; done) | (go_simp; with_reducible rfl) | with_reducible rfl
  try simp only [Act.put, List.setIfInBounds_toArray, List.set_cons_zero, List.set_cons_succ]
  refine takeIn 3 (v := ?_) rfl (by kernel_rfl) (by kernel_rfl) (by kernel_rfl) (fun _ _ _ h => h) rfl ?_ hHeld ?_
  rotate_left
  · intro w hSw; (try dsimp only at hSw); first | (go_simp; done) | (go_simp; with_reducible rfl) | with_reducible rfl
  try simp only [Act.put, List.setIfInBounds_toArray, List.set_cons_zero, List.set_cons_succ]
  refine takeIn 4 (v := ?_) rfl (by kernel_rfl) (by kernel_rfl) (by kernel_rfl) (fun _ _ _ h => h) rfl ?_ hHeld ?_
  rotate_left
  · intro w hSw; (try dsimp only at hSw); first | (go_simp; done) | (go_simp; with_reducible rfl) | with_reducible rfl
  try simp only [Act.put, List.setIfInBounds_toArray, List.set_cons_zero, List.set_cons_succ]
  refine takeIn 5 (v := ?_) rfl (by kernel_rfl) (by kernel_rfl) (by kernel_rfl) (fun _ _ _ h => h) rfl ?_ hHeld ?_
  rotate_left
  · intro w hSw; (try dsimp only at hSw); first | (go_simp; done) | (go_simp; with_reducible rfl) | with_reducible rfl
  try simp only [Act.put, List.setIfInBounds_toArray, List.set_cons_zero, List.set_cons_succ]
  refine stepIn 6 rfl (by kernel_rfl) (fun K hK => ?_)
  go_simp
  refine hK.out _ _ ⟨box_cell (box_alloc X1.out _) 3 rfl, box_cell (box_alloc K1.out _) 0 rfl, box_cell (box_alloc K1.out _) 1 rfl, box_cell (box_alloc K1.out _) 2 rfl, box_cell (box_alloc K1.out _) 3 rfl, box_cell (box_alloc K1.out _) 4 rfl⟩ (fun hHeldx => ?_)
  clear hK K hHeld
  have hHeld := hHeldx
  clear hHeldx
  try simp only [Act.put, List.setIfInBounds_toArray, List.set_cons_zero, List.set_cons_succ]
  refine stepIn 7 rfl (by kernel_rfl) (fun K hK => ?_)
  refine step_append_q (by rfl) _ _ _ (by rfl) 39 _ _ 5 64 Tryz.underlying35 Tryz.infoRec Tryz.zeroRec Tryz.sizeRec Tryz.bytesRec rfl (by omega) (.slice L.ro n L.rc) n (recCells G.recs) (by rfl) (R1.out.alloc _) ⟨w1.heap.size, 0, none⟩ 1 1 [.int .i64 (fi : Int), .string xp, .int .i64 xs, .string xk, .string xv] (by rfl) (by rfl) (World.news_of_block (cs := #[.int .i64 (fi : Int), .string xp, .int .i64 xs, .string xk, .string xv]) (t := 39) (fr := (0, 0)) (heap_alloc_new w1.drew _)) (rec_ones _ _ _ _ _) (by unfold maxLen; omega) (by omega) ?_
  intro a3 c3 w3 hown3 hgrow3 hat3
  have F5 : Hid (w3.heap[L.b]? = some (.cells #[.string G.name, .int .i64 G.low, .int .i64 (fi : Int), .slice L.ro n L.rc, .map (some L.mb)] 52 (0, 0))) := grown_at hgrow3 (box_alloc X1.out _) HN.out
  have F6 : Hid (w3.heap[rb]? = some (.cells #[.int .i64 (fi : Int), .string xp, .int .i64 xs, .string xk, .string xv] 39 (0, 0))) := grown_at hgrow3 (box_alloc K1.out _) HN2.out
  have q3 := box_cell F5.out 3 rfl
  have qf := box_free F5.out 3
  refine hK.out _ _ ⟨box_cell F5.out 3 rfl, box_cell F6.out 0 rfl, box_cell F6.out 1 rfl, box_cell F6.out 2 rfl, box_cell F6.out 3 rfl, box_cell F6.out 4 rfl⟩ (fun hHeldx => ?_)
  clear hK K hHeld
  have hHeld := hHeldx
  clear hHeldx
  try simp only [Act.put, List.setIfInBounds_toArray, List.set_cons_zero, List.set_cons_succ]
  refine takeIn 8 (v := ?_) rfl (by kernel_rfl) (by kernel_rfl) (by kernel_rfl) (fun _ _ _ h => h) rfl ?_ hHeld ?_
  rotate_left
  · intro w hSw; (try dsimp only at hSw); first | (go_simp; done) | (go_simp; with_reducible rfl) | with_reducible rfl
  try simp only [Act.put, List.setIfInBounds_toArray, List.set_cons_zero, List.set_cons_succ]
  refine takeIn 9 (v := ?_) rfl (by kernel_rfl) (by kernel_rfl) (by kernel_rfl) (fun _ _ _ h => h) rfl ?_ hHeld ?_
  rotate_left
  · intro w hSw; (try dsimp only at hSw); first | (go_simp; done) | (go_simp; with_reducible rfl) | with_reducible rfl
  try simp only [Act.put, List.setIfInBounds_toArray, List.set_cons_zero, List.set_cons_succ]
  refine takeIn 10 (v := ?_) rfl (by kernel_rfl) (by kernel_rfl) (by kernel_rfl) (fun _ _ _ h => h) rfl ?_ hHeld ?_
  rotate_left
  · intro w hSw; (try dsimp only at hSw); first | (go_simp; done) | (go_simp; with_reducible rfl) | with_reducible rfl
  try simp only [Act.put, List.setIfInBounds_toArray, List.set_cons_zero, List.set_cons_succ]
  refine wpAnyH_done (by kernel_rfl) ?_ _
  intro K hK
  go_simp
  refine hK _ _ ?_
  clear hK K hHeld
  rename_i K2 hK2
  have hrL : rb ≠ L.b := fun e => by have := HBB.out L.b (.inl rfl); omega
  have hvb : (Value.slice a3 (n + 1) c3).ownBlock ≠ some L.b := fun e => (hat3 _ e).elim HN.out (fun e2 => by have := HBB.out L.b (.inl rfl); have := B1.out.size; have := HRB.out; simp at e2; omega)
  have X4 := hide (box_set F5.out 3 (.slice a3 (n + 1) c3))
  have K4 := hide (box_apart F6.out hrL 3 (.slice a3 (n + 1) c3))
  have R4 := hide (hown3.set L.b 3 (.slice a3 (n + 1) c3) hvb)
  have T14 : Hid (Touch L.own w1 (w3.setCell ⟨L.b, 3, none⟩ (.slice a3 (n + 1) c3))) := (((Touch.refl L.own w1).drew.alloc _).grown hgrow3 (fun k hk _ => .inr (.inr (by rw [← hk]; exact own_block _ _ _ _)))).setCell _ _ (fun _ => .inl rfl)
  have HAT : Hid (∀ j, (Value.slice a3 (n + 1) c3).ownBlock = some j → L.own j ∨ w1.heap.size ≤ j) := fun j hj => (hat3 j hj).elim (fun e => .inl (.inr (.inr (by rw [← e]; exact own_block _ _ _ _)))) (fun e => .inr (by simp at e; omega))
  have M4 : Hid ((w3.setCell ⟨L.b, 3, none⟩ (.slice a3 (n + 1) c3)).ownsMap Tryz.prog 9 lastR L.mb G.n G.D) := by
    have m1 := (Touch.refl (fun k => (Value.slice L.ro n L.rc).ownBlock = some k) w1).drew.alloc (.cells #[.int .i64 (fi : Int), .string xp, .int .i64 xs, .string xk, .string xv] 39)
    have m2 := (m1.grown hgrow3 (fun _ e _ => e)).map H1.out.map (by have := H1.out.row_mb; rw [hn] at this; exact this)
    exact m2.setCell (a := ⟨L.b, 3, none⟩) H1.out.mb_ne _
  clear hgrow3 hat3 hown3 q3 qf F5 F6
  refine hK2 _ _ ?_
  clear hK2 K2
  generalize w3.setCell ⟨L.b, 3, none⟩ (.slice a3 (n + 1) c3) = w4 at *
  obtain ⟨w5, hrun, hown5, hturn⟩ := (show w4.drew.ownsMap Tryz.prog 9 lastR L.mb G.n G.D from M4.out).store keyedS Tryz.underlying50 (by unfold maxLen; omega) HKEY.out (lastR_mk (fi : Int) xs)
  have O5 := hide hown5
  have TU := hide hturn.grown
  clear hown5 hturn
  go_upto_region 3 with fail
  refine wp_region_last 11 rfl (by kernel_rfl) rfl rfl (by kernel_rfl) ?_
  intro ops' hops'
  simp only [idle, List.setIfInBounds_toArray, List.set_cons_succ, List.set_cons_zero] at hops'
  subst hops'
  refine wpAny_of_held (S := fun w' => w'.cell? ⟨L.b, 4, none⟩ = some (.map (some L.mb)) ∧ w'.cell? ⟨rb, 0, none⟩ = some (.int .i64 (fi : Int)) ∧ w'.cell? ⟨rb, 1, none⟩ = some (.string xp) ∧ w'.cell? ⟨rb, 2, none⟩ = some (.int .i64 xs)) _ _ _ _ ?_
  have hHeld : (fun w' => w'.cell? ⟨L.b, 4, none⟩ = some (.map (some L.mb)) ∧ w'.cell? ⟨rb, 0, none⟩ = some (.int .i64 (fi : Int)) ∧ w'.cell? ⟨rb, 1, none⟩ = some (.string xp) ∧ w'.cell? ⟨rb, 2, none⟩ = some (.int .i64 xs)) w4.drew := ⟨box_cell X4.out 4 rfl, box_cell K4.out 0 rfl, box_cell K4.out 1 rfl, box_cell K4.out 2 rfl⟩
  refine takeIn 0 (v := ?_) rfl (by kernel_rfl) (by kernel_rfl) (by kernel_rfl) (fun _ _ _ h => h) rfl ?_ hHeld ?_
  rotate_left
  · intro w hSw; (try dsimp only at hSw); first | (go_simp; done) | (go_simp; with_reducible rfl) | with_reducible rfl
  try simp only [Act.put, List.setIfInBounds_toArray, List.set_cons_zero, List.set_cons_succ]
  refine takeIn 1 (v := ?_) rfl (by kernel_rfl) (by kernel_rfl) (by kernel_rfl) (fun _ _ _ h => h) rfl ?_ hHeld ?_
  rotate_left
  · intro w hSw; (try dsimp only at hSw); first | (go_simp; done) | (go_simp; with_reducible rfl) | with_reducible rfl
  try simp only [Act.put, List.setIfInBounds_toArray, List.set_cons_zero, List.set_cons_succ]
  refine takeIn 2 (v := ?_) rfl (by kernel_rfl) (by kernel_rfl) (by kernel_rfl) (fun _ _ _ h => h) rfl ?_ hHeld ?_
  rotate_left
  · intro w hSw; (try dsimp only at hSw); first | (go_simp; done) | (go_simp; with_reducible rfl) | with_reducible rfl
  try simp only [Act.put, List.setIfInBounds_toArray, List.set_cons_zero, List.set_cons_succ]
  refine takeIn 3 (v := ?_) rfl (by kernel_rfl) (by kernel_rfl) (by kernel_rfl) (fun _ _ _ h => h) rfl ?_ hHeld ?_
  rotate_left
  · intro w hSw; (try dsimp only at hSw); first | (go_simp; done) | (go_simp; with_reducible rfl) | with_reducible rfl
  try simp only [Act.put, List.setIfInBounds_toArray, List.set_cons_zero, List.set_cons_succ]
  refine takeIn 4 (v := ?_) rfl (by kernel_rfl) (by kernel_rfl) (by kernel_rfl) (fun _ _ _ h => h) rfl ?_ hHeld ?_
  rotate_left
  · intro w hSw; (try dsimp only at hSw); first | (go_simp; done) | (go_simp; with_reducible rfl) | with_reducible rfl
  try simp only [Act.put, List.setIfInBounds_toArray, List.set_cons_zero, List.set_cons_succ]
  refine takeIn 5 (v := ?_) rfl (by kernel_rfl) (by kernel_rfl) (by kernel_rfl) (fun _ _ _ h => h) rfl ?_ hHeld ?_
  rotate_left
  · intro w hSw; (try dsimp only at hSw); first | (go_simp; done) | (go_simp; with_reducible rfl) | with_reducible rfl
  try simp only [Act.put, List.setIfInBounds_toArray, List.set_cons_zero, List.set_cons_succ]
  refine takeIn 6 (v := ?_) rfl (by kernel_rfl) (by kernel_rfl) (by kernel_rfl) (fun _ _ _ h => h) rfl ?_ hHeld ?_
  rotate_left
  · intro w hSw; (try dsimp only at hSw); first | (go_simp; done) | (go_simp; with_reducible rfl) | with_reducible rfl
  try simp only [Act.put, List.setIfInBounds_toArray, List.set_cons_zero, List.set_cons_succ]
  refine takeIn 7 (v := ?_) rfl (by kernel_rfl) (by kernel_rfl) (by kernel_rfl) (fun _ _ _ h => h) rfl ?_ hHeld ?_
  rotate_left
  · intro w hSw; (try dsimp only at hSw); first | (go_simp; done) | (go_simp; with_reducible rfl) | with_reducible rfl
  try simp only [Act.put, List.setIfInBounds_toArray, List.set_cons_zero, List.set_cons_succ]
  refine takeIn 8 (v := ?_) rfl (by kernel_rfl) (by kernel_rfl) (by kernel_rfl) (fun _ _ _ h => h) rfl ?_ hHeld ?_
  rotate_left
  · intro w hSw; (try dsimp only at hSw); first | (go_simp; done) | (go_simp; with_reducible rfl) | with_reducible rfl
  try simp only [Act.put, List.setIfInBounds_toArray, List.set_cons_zero, List.set_cons_succ]
  refine takeIn 9 (v := ?_) rfl (by kernel_rfl) (by kernel_rfl) (by kernel_rfl) (fun _ _ _ h => h) rfl ?_ hHeld ?_
  rotate_left
  · intro w hSw; (try dsimp only at hSw); first | (go_simp; done) | (go_simp; with_reducible rfl) | with_reducible rfl
  try simp only [Act.put, List.setIfInBounds_toArray, List.set_cons_zero, List.set_cons_succ]
  refine takeIn 10 (v := ?_) rfl (by kernel_rfl) (by kernel_rfl) (by kernel_rfl) (fun _ _ _ h => h) rfl ?_ hHeld ?_
  rotate_left
  · intro w hSw; (try dsimp only at hSw); first | (go_simp; done) | (go_simp; with_reducible rfl) | with_reducible rfl
  try simp only [Act.put, List.setIfInBounds_toArray, List.set_cons_zero, List.set_cons_succ]
  refine takeIn 11 (v := ?_) rfl (by kernel_rfl) (by kernel_rfl) (by kernel_rfl) (fun _ _ _ h => h) rfl ?_ hHeld ?_
  rotate_left
  · intro w hSw; (try dsimp only at hSw); first | (go_simp; done) | (go_simp; with_reducible rfl) | with_reducible rfl
  try simp only [Act.put, List.setIfInBounds_toArray, List.set_cons_zero, List.set_cons_succ]
  refine wpAnyH_done (by kernel_rfl) ?_ _
  intro K hK
  go_simp
  refine hK _ _ ?_
  clear hK K hHeld
  rename_i K3 hK3
  have hmb := H1.out.mb_ne
  have hrm : L.mb ≠ rb := fun e => by have := HBB.out L.mb (.inr (.inl rfl)); omega
  have X5 : Hid (w5.heap[L.b]? = some (.cells #[.string G.name, .int .i64 G.low, .int .i64 (fi : Int), .slice a3 (n + 1) c3, .map (some L.mb)] 52 (0, 0))) := grown_at TU.out X4.out (fun e => hmb (Option.some.inj e))
  have K5 := hide (grown_at TU.out (show w4.drew.heap[rb]? = _ from K4.out) (fun e => hrm (Option.some.inj e)))
  have R5 : Hid (OwnsQ w5 39 5 (.slice a3 (n + 1) c3) (n + 1) (recCells G.recs ++ [.int .i64 (fi : Int), .string xp, .int .i64 xs, .string xk, .string xv])) := R4.out.congr (fun j hj => TU.out.block j (R4.out.lt hj) (fun e => q_mb R4.out M4.out (by rw [hj, e])))
  have T45 : Hid (Touch L.own w4 w5) := ((Touch.refl L.own w4).drew).grown TU.out (fun k hk _ => .inr (.inl (Option.some.inj hk).symm))
  have x2 := box_cell X5.out 2 rfl
  have f2 := box_free X5.out 2
  have k0 := box_cell K5.out 0 rfl
  clear X4 K4 R4 TU M4 hrun X1 R1 K1
  refine hK3 _ _ ?_
  clear hK3 K3
  go_wp2
  go_ret
  have HF := hfi
  subst HF
  refine ⟨rfl, ⟨L.b, L.mb, a3, c3⟩, ⟨?_, ?_, ?_⟩, ⟨?_, rfl, ?_⟩⟩
  · have := box_set X5.out 2 (.int .i64 ((G.fin : Int) + 1))
    simp only [List.length_append, List.length_cons, List.length_nil, hn, Nat.zero_add]
    exact this
  · simp only [List.length_append, List.length_cons, List.length_nil, hn, recCells_snoc, Nat.zero_add]
    exact R5.out.set L.b 2 _ hvb
  · exact O5.out.setCell (a := ⟨L.b, 2, none⟩) hmb _
  · have t1 : Touch L.own w w1 := Touch.of_below (by rw [HRB.out]; exact B1.out)
    exact ((t1.andThen T14.out (fun _ _ e => e)).andThen T45.out (fun _ _ e => e)).setCell _ _ (fun _ => .inl rfl)
  · rintro j (rfl | rfl | hj)
    · exact .inl (.inl rfl)
    · exact .inl (.inr (.inl rfl))
    · rcases HAT.out j ((own_block _ _ _ _).trans hj) with e | e
      · exact .inl e
      · exact .inr (by have := B1.out.size; omega)
end Go.Proofs.YtmkkcgkakomacaaGreat.Y
namespace Go.Proofs.YtmkkcgkakomacaaGreat.Y
open Go.RowKit Go.Maps
set_option maxHeartbeats 4000000
set_option maxRecDepth 100000
set_option linter.unusedVariables false
set_option linter.unusedSimpArgs false
def pubOk (p : ByteArray) (seq : Int) (k v : ByteArray) : Bool := wordB p && (greatB seq && (decide (k.size ≤ 100) && decide (v.size ≤ 1000)))
theorem right_pub {name p : ByteArray} {seq : Int} {k v : ByteArray} (h : wordB name = true) : CM.right ⟨2, name, p, seq, k, v, 0, 0, 0⟩ = pubOk p seq k v := by
  have h1 : manyB 2 0 = true := by decide
  have h2 : nodeB 0 = true := by decide
  have h3 : greatB 0 = true := by decide
  have h4 : kindOk 2 = true := by decide
  have h5 : hasTopic 2 = true := by decide
  have h6 : hasName 2 = true := by decide
  simp only [CM.right, fitsB, h1, h2, h3, h4, h5, h6, Bool.true_and, textB, if_true, h, seqB, keyB, valB, pubOk, Bool.and_true]
def pubF (G : TG) (p : ByteArray) (seq : Int) (k v : ByteArray) : Int × Int × TG :=
  if pubOk p seq k v = true then
    match pget G.D p.data.toList with
    | some (o, s) => if s = seq then (o, 0, G) else if seq < s then (0, 6, G) else (G.fin, 0, addF G ⟨0, p, seq, k, v⟩)
    | none => (G.fin, 0, addF G ⟨0, p, seq, k, v⟩)
  else (0, 7, G)
theorem pubOk_out {p : ByteArray} {seq : Int} {k v : ByteArray} (h : pubOk p seq k v = true) : p.size ≤ 20 ∧ 0 ≤ seq ∧ seq ≤ 9007199254740991 ∧ k.size ≤ 100 ∧ v.size ≤ 1000 := by
  simp only [pubOk, Bool.and_eq_true, decide_eq_true_eq] at h
  obtain ⟨h1, h2, h3, h4⟩ := h
  have := wordL_out h1
  have := greatB_out h2
  have e := size_listC p
  exact ⟨by omega, this.1, this.2, h3, h4⟩
theorem add_ok {c : Nat} {G : TG} (h : G.Ok c) (hc : c + 1 ≤ 100000) {p : ByteArray} {seq : Int} {k v : ByteArray} (hp : pubOk p seq k v = true) : (addF G ⟨0, p, seq, k, v⟩).Ok (c + 1) := by
  obtain ⟨h1, h2, h3, h4, h5⟩ := pubOk_out hp
  have hl := h.low
  have hf := h.fin
  have hn := h.len
  have hm := h.cnt
  refine ⟨h.word, ?_, ?_, ?_, ?_, ?_, ?_, hc⟩
  · show Rises (G.recs ++ [_])
    unfold Rises
    rw [List.pairwise_append]
    refine ⟨h.rises, List.pairwise_singleton _ _, fun a ha b hb => ?_⟩
    rw [List.mem_singleton] at hb
    subst hb
    exact (h.right a ha).hi
  · intro r hr
    rcases List.mem_append.1 hr with hr | hr
    · have q := h.right r hr
      exact ⟨q.lo, by have := q.hi; show r.off < ((G.fin + 1 : Nat) : Int); omega, q.s0, q.s1, q.p, q.k, q.v⟩
    · rw [List.mem_singleton] at hr
      subst hr
      exact ⟨by show (G.low : Int) ≤ (G.fin : Int); omega, by show (G.fin : Int) < ((G.fin + 1 : Nat) : Int); omega, h2, h3, h1, h4, h5⟩
  · show G.low ≤ G.fin + 1; omega
  · show G.fin + 1 ≤ _; omega
  · show (G.recs ++ [_]).length ≤ _; rw [List.length_append]; simp; omega
  · show G.n + 1 ≤ _; omega
theorem pub_ok {c : Nat} {G : TG} (h : G.Ok c) (hc : c + 1 ≤ 100000) (p : ByteArray) (seq : Int) (k v : ByteArray) : (pubF G p seq k v).2.2.Ok (c + 1) := by
  unfold pubF
  split
  · rename_i hp
    split
    · split
      · exact h.mono (by omega) hc
      · split
        · exact h.mono (by omega) hc
        · exact add_ok h hc hp
    · exact add_ok h hc hp
  · exact h.mono (by omega) hc
theorem tpub {w : World} {L : LOC} {G : TG} {c : Nat} (h : TAt w L G) (hk : G.Ok c) (hc : c + 1 ≤ 100000) (p : ByteArray) (seq : Int) (k v : ByteArray) (hp : p.size ≤ 281474976710656) (hy : k.size ≤ 281474976710656) (hv : v.size ≤ 281474976710656) :
    Calls Tryz.prog 10 #[.pointer (some ⟨L.b, 0, none⟩), .string p, .int .i64 seq, .string k, .string v] w fun e w' =>
    e = .returned (.tuple #[.int .i64 (pubF G p seq k v).1, .int .i64 (pubF G p seq k v).2.1]) ∧ ∃ L', TAt w' L' (pubF G p seq k v).2.2 ∧ TStep w w' L L' := by
  obtain ⟨c0, c1, c2, c3, c4⟩ := h.cells
  have hw := wordL_out hk.word
  have e20 := size_listC G.name
  have HR : Hid (∀ w, Calls Tryz.prog 29 #[.agg #[.int .i64 2, .string G.name, .string p, .int .i64 seq, .string k, .string v, .int .i64 0, .int .i64 0, .int .i64 0]] w fun e w' => e = .returned (.bool (pubOk p seq k v)) ∧ Below w.heap.size w w') := fun w => by
    have := pright ⟨2, G.name, p, seq, k, v, 0, 0, 0⟩ ⟨by simp only; omega, by simp only; omega, by simp only; omega, by simp only; omega⟩ w
    rw [right_pub hk.word] at this
    exact this
  have B1 := hide ((Below.refl w.heap.size w).alloc (Nat.le_refl _) (.cells #[.int .i64 2, .string G.name, .string p, .int .i64 seq, .string k, .string v, .int .i64 0, .int .i64 0, .int .i64 0] 54))
  have HK := hide hk
  have H0 := hide h
  clear h hk hw e20
  cases hb : pubOk p seq k v with
  | false =>
    have e : pubF G p seq k v = (0, 7, G) := by unfold pubF; rw [if_neg (by rw [hb]; decide)]
    rw [e]
    rw [hb] at HR
    clear e hb c1 c2 c3 c4
    go_enter Tryz.func10, Tryz.ntmps10
    go_wp2_with (go_at_call 29; refine (HR.out _).mono ?_; rintro e w2 ⟨rfl, b2⟩)
    go_ret2
    have b3 := B1.out.trans (b2.mono B1.out.size)
    exact ⟨rfl, L, H0.out.below b3, TStep.below b3⟩
  | true =>
    have HPB := hide hb
    rw [hb] at HR
    have hps := hide (pubOk_out hb).1
    have HX : Hid (∀ w, Calls Tryz.prog 31 #[.agg #[.int .i64 0, .string p, .int .i64 seq, .string k, .string v]] w fun e w' => e = .returned (.agg #[.int .i64 0, .string p, .int .i64 seq, .string k, .string v]) ∧ Below w.heap.size w w') := fun w => by
      obtain ⟨q1, q2, q3, q4, q5⟩ := pubOk_out hb
      exact town_any ⟨0, p, seq, k, v⟩ ⟨by simp only; omega, by simp only; omega, by simp only; omega, by simp only; omega, by simp only; omega, by simp only; omega, by simp only; omega⟩ w
    have HA : Hid (∀ w1, Below w.heap.size w w1 → Calls Tryz.prog 30 #[.pointer (some ⟨L.b, 0, none⟩), .agg #[.int .i64 0, .string p, .int .i64 seq, .string k, .string v]] w1 fun e w' => e = .returned (.int .i64 G.fin) ∧ ∃ L', TAt w' L' (addF G ⟨0, p, seq, k, v⟩) ∧ TStep w w' L L') := fun w1 b1 =>
      (tadd (H0.out.below b1) HK.out hc ⟨0, p, seq, k, v⟩ hps.out).mono fun e w' ⟨h1, L', h2, h3⟩ => ⟨h1, L', h2, (TStep.below b1).trans h3⟩
    have HLK : Hid (∀ w1, Below w.heap.size w w1 → (Instr.lookup 50 (.map (some L.mb)) (.string p) true).run Tryz.prog w1 = .ok (.tuple #[.agg #[.int .i64 (gotA (pget G.D p.data.toList)), .int .i64 (gotB (pget G.D p.data.toList))], .bool (pget G.D p.data.toList).isSome]) w1 ∧ w1.cell? ⟨L.b, 4, none⟩ = some (.map (some L.mb))) := fun w1 b1 =>
      ⟨plook (H0.out.below b1).map p (by unfold maxLen; omega), (H0.out.below b1).cells.2.2.2.2⟩
    have hpF : pubF G p seq k v = match pget G.D p.data.toList with
      | some (o, s) => if s = seq then (o, 0, G) else if seq < s then (0, 6, G) else (G.fin, 0, addF G ⟨0, p, seq, k, v⟩)
      | none => (G.fin, 0, addF G ⟨0, p, seq, k, v⟩) := by unfold pubF; rw [if_pos hb]
    rw [hpF]
    generalize pget G.D p.data.toList = g at *
    clear hb hpF c1 c2 c3 c4
    cases g with
    | none =>
      simp only [gotA, gotB, Option.getD_none, Option.isSome_none] at HLK
      go_enter Tryz.func10, Tryz.ntmps10
      go_wp2_with (first | (go_at_call 29; refine (HR.out _).mono ?_; rintro e w2 ⟨rfl, b2⟩; have B2 := hide (B1.out.trans (b2.mono B1.out.size)); obtain ⟨lk, l4⟩ := HLK.out _ B2.out; clear b2) | (go_at_call 31; refine (HX.out _).mono ?_; rintro e w3 ⟨rfl, b3⟩; have B3 := hide ((B2.out.alloc B2.out.size _).trans (b3.mono (B2.out.alloc B2.out.size _).size)); clear b3) | (go_at_call 30; refine (HA.out _ B3.out).mono ?_; rintro e w4 ⟨rfl, L', t4, s4⟩))
      go_ret2
      exact ⟨rfl, L', t4, s4⟩
    | some g =>
      obtain ⟨o, s⟩ := g
      simp only [gotA, gotB, Option.getD_some, Option.isSome_some] at HLK ⊢
      by_cases h1 : s = seq
      · rw [if_pos h1]
        have g1 : (s == seq) = true := by simpa using h1
        clear h1
        go_enter Tryz.func10, Tryz.ntmps10
        go_wp2_with (go_at_call 29; refine (HR.out _).mono ?_; rintro e w2 ⟨rfl, b2⟩; have B2 := hide (B1.out.trans (b2.mono B1.out.size)); obtain ⟨lk, l4⟩ := HLK.out _ B2.out; clear b2)
        go_ret2
        have b3 := B2.out.alloc B2.out.size (.cells #[.int .i64 o, .int .i64 s] 57)
        exact ⟨rfl, L, H0.out.below b3, TStep.below b3⟩
      · rw [if_neg h1]
        have g1 : (s == seq) = false := by simpa using h1
        clear h1
        by_cases h2 : seq < s
        · rw [if_pos h2]
          go_enter Tryz.func10, Tryz.ntmps10
          go_wp2_with (go_at_call 29; refine (HR.out _).mono ?_; rintro e w2 ⟨rfl, b2⟩; have B2 := hide (B1.out.trans (b2.mono B1.out.size)); obtain ⟨lk, l4⟩ := HLK.out _ B2.out; clear b2)
          go_ret2
          have b3 := B2.out.alloc B2.out.size (.cells #[.int .i64 o, .int .i64 s] 57)
          exact ⟨rfl, L, H0.out.below b3, TStep.below b3⟩
        · rw [if_neg h2]
          have g2 : decide (seq < s) = false := by simpa using h2
          go_enter Tryz.func10, Tryz.ntmps10
          go_wp2_with (first | (go_at_call 29; refine (HR.out _).mono ?_; rintro e w2 ⟨rfl, b2⟩; have B2 := hide (B1.out.trans (b2.mono B1.out.size)); obtain ⟨lk, l4⟩ := HLK.out _ B2.out; clear b2) | (go_at_call 31; refine (HX.out _).mono ?_; rintro e w3 ⟨rfl, b3⟩; have B3 := hide ((B2.out.alloc B2.out.size _).trans (b3.mono (B2.out.alloc B2.out.size _).size)); clear b3) | (go_at_call 30; refine (HA.out _ B3.out).mono ?_; rintro e w4 ⟨rfl, L', t4, s4⟩))
          go_ret2
          exact ⟨rfl, L', t4, s4⟩
end Go.Proofs.YtmkkcgkakomacaaGreat.Y
namespace Go.Proofs.YtmkkcgkakomacaaGreat.Y
open Go.RowKit Go.Maps
set_option maxHeartbeats 1000000
set_option maxRecDepth 100000
set_option linter.unusedVariables false
set_option linter.unusedSimpArgs false
structure Held (B : Nat) (w0 w : World) (L : LOC) (G : TG) (c : Nat) : Prop where
  at_ : TAt w L G
  ok : G.Ok c
  below : Below B w0 w
  new : ∀ j, L.own j → B ≤ j
  le : B ≤ w0.heap.size
theorem Held.to {B : Nat} {w0 w w' : World} {L : LOC} {G : TG} {c : Nat} (h : Held B w0 w L G c) (hb : Below w.heap.size w w') : Held B w0 w' L G c := ⟨h.at_.below hb, h.ok, h.below.trans (hb.mono (Nat.le_trans h.le h.below.size)), h.new, h.le⟩
theorem Held.step {B : Nat} {w0 w w' : World} {L L' : LOC} {G G' : TG} {c c' : Nat} (h : Held B w0 w L G c) (ha : TAt w' L' G') (hk : G'.Ok c') (s : TStep w w' L L') : Held B w0 w' L' G' c' := by
  have hB : B ≤ w.heap.size := Nat.le_trans h.le h.below.size
  refine ⟨ha, hk, h.below.trans (s.touch.toBelow hB fun k hk e => ?_), fun j hj => ?_, h.le⟩
  · have := h.new k e; omega
  · rcases s.own j hj with e | e
    · exact h.new j e
    · omega
theorem held_pub {B : Nat} {w0 w : World} {L : LOC} {G : TG} {c : Nat} (h : Held B w0 w L G c) (hc : c + 1 ≤ 100000) (p : ByteArray) (seq : Int) (k v : ByteArray) (hp : p.size ≤ 281474976710656) (hy : k.size ≤ 281474976710656) (hv : v.size ≤ 281474976710656) :
    Calls Tryz.prog 10 #[.pointer (some ⟨L.b, 0, none⟩), .string p, .int .i64 seq, .string k, .string v] w fun e w' =>
    e = .returned (.tuple #[.int .i64 (pubF G p seq k v).1, .int .i64 (pubF G p seq k v).2.1]) ∧ ∃ L', L'.b = L.b ∧ Held B w0 w' L' (pubF G p seq k v).2.2 (c + 1) ∧ TStep w w' L L' :=
  (tpub h.at_ h.ok hc p seq k v hp hy hv).mono fun e w' ⟨h1, L', h2, h3⟩ => ⟨h1, L', h3.b, h.step h2 (pub_ok h.ok hc _ _ _ _) h3, h3⟩
theorem held_trim {B : Nat} {w0 w : World} {L : LOC} {G : TG} {c : Nat} (h : Held B w0 w L G c) (n : Int) : Calls Tryz.prog 15 #[.pointer (some ⟨L.b, 0, none⟩), .int .i64 n] w fun e w' =>
    e = .returned (.int .i64 (trimF G n).1) ∧ ∃ L', L'.b = L.b ∧ Held B w0 w' L' (trimF G n).2 c ∧ TStep w w' L L' :=
  (ttrim h.at_ h.ok n).mono fun e w' ⟨h1, L', h2, h3⟩ => ⟨h1, L', h3.b, h.step h2 (trim_ok h.ok _) h3, h3⟩
theorem held_comp {B : Nat} {w0 w : World} {L : LOC} {G : TG} {c : Nat} (h : Held B w0 w L G c) (n : Int) : Calls Tryz.prog 17 #[.pointer (some ⟨L.b, 0, none⟩), .int .i64 n] w fun e w' =>
    e = .returned (.int .i64 0) ∧ ∃ L', L'.b = L.b ∧ Held B w0 w' L' (compF G n) c ∧ TStep w w' L L' :=
  (tcompact h.at_ h.ok n).mono fun e w' ⟨h1, L', h2, h3⟩ => ⟨h1, L', h3.b, h.step h2 (comp_ok h.ok _) h3, h3⟩
theorem held_read {B : Nat} {w0 w : World} {L : LOC} {G : TG} {c : Nat} (h : Held B w0 w L G c) (off most : Int) (h64 : most ≤ 9223372036854775807) : Calls Tryz.prog 12 #[.pointer (some ⟨L.b, 0, none⟩), .int .i64 off, .int .i64 most] w fun e w' =>
    ∃ ao cp, e = .returned (.slice ao (readF G.recs off most).length cp) ∧ w'.ownsRow w.heap.size 39 5 (.slice ao (readF G.recs off most).length cp) (readF G.recs off most).length (recCells (readF G.recs off most)) ∧ Held B w0 w' L G c ∧ Below w.heap.size w w' :=
  (tread h.at_ h.ok off most h64).mono fun e w' ⟨v', h1, h2, h3⟩ => by
    obtain ⟨ao, cp, rfl⟩ := row_slice h2
    exact ⟨ao, cp, h1, h2, h.to h3, h3⟩
theorem held_new (s : ByteArray) (hs : s.size ≤ 281474976710656) (hw : wordB s = true) {B : Nat} {w0 w : World} (hb : Below B w0 w) (hB : B ≤ w0.heap.size) : Calls Tryz.prog 7 #[.string s] w fun e w' =>
    ∃ L, e = .returned (.tuple #[.pointer (some ⟨LOC.b L, 0, none⟩), .int .i64 0]) ∧ Held B w0 w' L (TG.new s) 0 ∧ Below w.heap.size w w' ∧ ∀ j, L.own j → w.heap.size ≤ j :=
  (tnew s hs w).mono fun e w' ⟨h1, h2⟩ => by
    rcases h2 with ⟨h2, _⟩ | ⟨_, L, h3, h4, h5⟩
    · rw [hw] at h2; cases h2
    · have hB2 : B ≤ w.heap.size := Nat.le_trans hB hb.size
      exact ⟨L, h3, ⟨h4, ⟨hw, List.Pairwise.nil, (fun r hr => by cases hr), Nat.le_refl _, Nat.zero_le _, Nat.le_refl _, Nat.le_refl _, Nat.zero_le _⟩, hb.trans (h1.mono hB2), fun j hj => Nat.le_trans hB2 (h5 j hj), hB⟩, h1, h5⟩
def pickF (c n : Int) : Int := (if c < 0 then -(c + 1) else c) % n
theorem pick_any (c n : Int) (h0 : -9223372036854775808 ≤ c) (h1 : c ≤ 9223372036854775807) (hn : 0 < n) (hn2 : n ≤ 9223372036854775807) (w : World) : Calls Tryz.prog 9 #[.int .i64 c, .int .i64 n] w fun e w' => e = .returned (.int .i64 (pickF c n)) ∧ w' = w := by
  have hz : (n == 0) = false := by simp; omega
  have hz2 : ¬ n = 0 := by omega
  unfold pickF
  by_cases h : c < 0
  · rw [if_pos h]
    have e1 : (-(c + 1)).tmod n = -(c + 1) % n := Int.tmod_eq_emod_of_nonneg (by omega)
    have q0 : 0 ≤ -(c + 1) % n := Int.emod_nonneg _ hz2
    have q1 : -(c + 1) % n < n := Int.emod_lt_of_pos _ hn
    go_enter Tryz.func9, Tryz.ntmps9
    go_wp2
    go_ret
    exact ⟨rfl, rfl⟩
  · rw [if_neg h]
    have e1 : c.tmod n = c % n := Int.tmod_eq_emod_of_nonneg (by omega)
    have q0 : 0 ≤ c % n := Int.emod_nonneg _ hz2
    have q1 : c % n < n := Int.emod_lt_of_pos _ hn
    go_enter Tryz.func9, Tryz.ntmps9
    go_wp2
    go_ret
    exact ⟨rfl, rfl⟩
end Go.Proofs.YtmkkcgkakomacaaGreat.Y
