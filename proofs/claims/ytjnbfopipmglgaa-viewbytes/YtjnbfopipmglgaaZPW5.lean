/-
  The program's greatestLives (mkpw.py)
-/
import Derived.Test.YtjnbfopipmglgaaZHD
import Derived.Test.YtjnbfopipmglgaaZInR
namespace Go.Proofs.Ytjnbfopipmglgaa
open Go.RowKit Go.Shelf

attribute [local go_sem] Oper.semAt_some
set_option linter.unusedSimpArgs false
set_option linter.unusedVariables false

abbrev tLives : TypeId := 88
/-- The greatest lives, in a row of seven. -/
def livesA (L : List MB) : Array Value := #[.int .i64 (lifeOf L 0), .int .i64 (lifeOf L 1), .int .i64 (lifeOf L 2), .int .i64 (lifeOf L 3), .int .i64 (lifeOf L 4), .int .i64 (lifeOf L 5), .int .i64 (lifeOf L 6)]
theorem lifeOf_snoc (L : List MB) (x : MB) (n : Int) : lifeOf (L ++ [x]) n = if x.node = n then max (lifeOf L n) x.life else lifeOf L n := by
  unfold lifeOf
  rw [List.foldl_append]
  rfl
theorem livesA_get (L : List MB) (k : Nat) (hk : k < 7) : (livesA L)[k]? = some (.int .i64 (lifeOf L k)) := by
  match k, hk with
  | 0, _ => rfl
  | 1, _ => rfl
  | 2, _ => rfl
  | 3, _ => rfl
  | 4, _ => rfl
  | 5, _ => rfl
  | 6, _ => rfl
theorem livesA_set (L : List MB) (x : MB) (k : Nat) (hk : k < 7) (hx : x.node = (k : Int)) : (livesA L).setIfInBounds k (.int .i64 (max (lifeOf L k) x.life)) = livesA (L ++ [x]) := by
  unfold livesA
  simp only [lifeOf_snoc, hx]
  match k, hk with
  | 0, _ => rfl
  | 1, _ => rfl
  | 2, _ => rfl
  | 3, _ => rfl
  | 4, _ => rfl
  | 5, _ => rfl
  | 6, _ => rfl
theorem cells_set {W : World} {B k : Nat} {cs : Array Value} {t : TypeId} (v : Value) (h : W.heap[B]? = some (.cells cs t (0, 0))) : (W.setCell ⟨B, k, none⟩ v).heap[B]? = some (.cells (cs.setIfInBounds k v) t (0, 0)) := by
  obtain ⟨hlt, hk⟩ := Array.getElem?_eq_some_iff.1 h
  show (W.heap.modify B _)[B]? = _
  rw [Array.getElem?_eq_getElem (by rw [Array.size_modify]; exact hlt), Array.getElem_modify_self, hk]
  rfl
theorem set_ne {W : World} {B k j : Nat} {o : Obj} (v : Value) (h : W.heap[j]? = some o) (hne : j ≠ B) : (W.setCell ⟨B, k, none⟩ v).heap[j]? = some o := (Below.heap_setCell W ⟨B, k, none⟩ v j hne).trans h
abbrev RM : Type := { m : MB // m.right }
set_option maxRecDepth 100000 in
set_option maxHeartbeats 8000000 in
theorem plives (L : List RM) (ao : Option Addr) (cp : Nat) (w : World) (hM : MemsAt w ao (L.map (·.val))) (hl : L.length ≤ 4611686018427387903) : Calls Try.prog 45 #[.slice ao L.length cp] w fun e w' => e = .returned (.agg (livesA (L.map (·.val)))) ∧ Below w.heap.size w w' := by
  refine (callsIn_wide (n := 9)).1 ?_
  refine callsIn_of_wp_marks Try.func45 rfl trivial ?_ rfl
  simp only [Try.ntmps45, List.size_toArray, List.length_cons, List.length_nil, Nat.reduceAdd, Nat.reduceSub, Array.replicate_succ, Array.replicate_zero, List.push_toArray, List.append_toArray, List.nil_append, List.cons_append]
  gi_wp2_with (refine ⟨trivial, ?_⟩; gi_at_call 28; refine (each_in _ _ _ _ _).mono ?_; rintro e w' ⟨rfl, rfl⟩)
  obtain ⟨w1, e1⟩ : ∃ wn : World, w.alloc (.cells #[.int .i64 0, .int .i64 0, .int .i64 0, .int .i64 0, .int .i64 0, .int .i64 0, .int .i64 0] tLives) = wn := ⟨_, rfl⟩
  obtain ⟨w2, e2⟩ : ∃ wn : World, w1.alloc (.cells #[.int .i64 0, .int .i64 0, .int .i64 0, .int .i64 0, .int .i64 0, .int .i64 0, .int .i64 0] tLives) = wn := ⟨_, rfl⟩
  obtain ⟨wz, e3⟩ : ∃ wn : World, w2.alloc (.cells #[.slice ao L.length cp] 22) = wn := ⟨_, rfl⟩
  have s1 : w1.heap.size = w.heap.size + 1 := by rw [← e1]; simp
  have s2 : w2.heap.size = w.heap.size + 2 := by rw [← e2]; simp [s1]
  have s3 : wz.heap.size = w.heap.size + 3 := by rw [← e3]; simp [s2]
  have b1 : Below w.heap.size w wz := by
    rw [← e3, ← e2, ← e1]
    exact (((Below.refl _ w).alloc (Nat.le_refl _) _).alloc (by simp) _).alloc (by simp; omega) _
  have X0 : wz.heap[w.heap.size]? = some (.cells #[.int .i64 0, .int .i64 0, .int .i64 0, .int .i64 0, .int .i64 0, .int .i64 0, .int .i64 0] tLives (0, 0)) := by rw [← e3, ← e2]; refine heap_up (heap_up ?_); rw [← e1, show w.heap.size = w.heap.size by omega]; exact World.alloc_heap_new _ _
  have X1 : wz.heap[w.heap.size + 1]? = some (.cells #[.int .i64 0, .int .i64 0, .int .i64 0, .int .i64 0, .int .i64 0, .int .i64 0, .int .i64 0] tLives (0, 0)) := by rw [← e3]; refine heap_up ?_; rw [← e2, show w.heap.size + 1 = w1.heap.size by omega]; exact World.alloc_heap_new _ _
  have X2 : wz.heap[w.heap.size + 1 + 1]? = some (.cells #[.slice ao L.length cp] 22 (0, 0)) := by rw [← e3, show w.heap.size + 1 + 1 = w2.heap.size by omega]; exact World.alloc_heap_new _ _
  rw [e1, e2, e3]
  clear e1 e2 e3 s1 s2 w1 w2
  refine wpIn_rangeFunc_ownH rfl (by omega) (gf := 47) (lb := #[.pointer (some ⟨w.heap.size + 1 + 1, 0, none⟩)]) rfl trivial (enters_of Try.func47 (by kernel_rfl) rfl)
    (each_stops (fun m : RM => m.val) _ (w.heap.size + 1 + 1) cp ao L hl w wz (by omega) b1 (box1_cell X2) hM) belowK_t (belowK_b (by omega)) (Below.refl _ _) (fun _ => rfl)
    (fun pre W => (W.heap[w.heap.size]? = some (.cells #[.int .i64 0, .int .i64 0, .int .i64 0, .int .i64 0, .int .i64 0, .int .i64 0, .int .i64 0] tLives (0, 0)) ∧ W.heap[w.heap.size + 1]? = some (.cells (livesA (pre.map (·.val))) tLives (0, 0))) ∧ Below w.heap.size w W)
    (fun c pre W => False)
    (OwnFrom.and (Own.from (Own.and (box_own _ _ fun _ => rfl) (box_own _ (fun pre : List RM => .cells (livesA (pre.map (·.val))) tLives (0, 0)) fun _ => rfl)) _) (ownFrom_below (Nat.le_refl _) (by omega)))
    (fun _ _ _ _ _ hs _ _ => hs)
    ⟨⟨X0, X1⟩, b1⟩
    (fun x a' W => ∃ Bx, Box2 W Bx x.val ∧ a' = { tmps := #[.slice ao L.length cp, undef, .pointer (some ⟨w.heap.size, 0, none⟩), .pointer (some ⟨w.heap.size + 1, 0, none⟩), .pointer (some ⟨Bx, 0, none⟩), .slice ao L.length cp, .func (.func 47) #[] #[.pointer (some ⟨w.heap.size + 1 + 1, 0, none⟩)], x.val.v, undef, undef, undef, undef, undef, undef, undef, undef, undef, undef, undef], defers := [] })
    (fun x a' s X Y row hs hg hr => by obtain ⟨Bx, h1, h2⟩ := hs; exact ⟨Bx, Own.from (Box2.own (β := Unit) Bx fun _ => x.val) _ () X Y row h1 hg hr, h2⟩) ?assign ?body ?done ?stop
  case assign =>
    rintro l pre x W K ⟨⟨h1, h2⟩, hB⟩ hK
    simp only [MB.v]
    gi_wp2
    exact hK _ _ ((KeepsOthers.alloc _ _).from _) ((Below.refl _ W).alloc hB.size _) ⟨⟨heap_up h1, heap_up h2⟩, hB.alloc hB.size _⟩ ⟨W.heap.size, Box2.new W x.val, rfl⟩
  case body =>
    rintro l pre ⟨x, hxr⟩ a' W _ _ ⟨⟨h1, h2⟩, hB⟩ ⟨Bx, hx, rfl⟩ hlt
    obtain ⟨c0, c1⟩ := hx.cells
    obtain ⟨k, hk⟩ : ∃ k : Nat, x.node = (k : Int) := ⟨x.node.toNat, by have := hxr.1; omega⟩
    have hk7 : k < 7 := by have := hxr.2.1; omega
    have HS := hide (livesA_set (pre.map (·.val)) x k hk7 hk)
    have c2 : W.cell? ⟨w.heap.size + 1, k, none⟩ = some (.int .i64 (lifeOf (pre.map (·.val)) k)) := box_cell h2 k (livesA_get _ k hk7)
    simp only at c0 c1
    rw [hk] at c0
    generalize lifeOf (pre.map (·.val)) k = q at *
    generalize x.life = lf at *
    have k0 : (0 : Int) ≤ (k : Int) := by omega
    have k1 : (k : Int) < 7 := by omega
    have hf : W.frozen? ⟨w.heap.size + 1, k, none⟩ = false := by unfold World.frozen?; simp [h2]
    refine wpIn_block ?_
    refine wpIn_region_last 10 rfl (by kernel_rfl) rfl rfl (by kernel_rfl) (by kernel_rfl) (fun h => h.elim fun _ h => h.elim fun _ h => h) ?_
    intro ops' hops'
    simp only [idle, List.setIfInBounds_toArray, List.set_cons_succ, List.set_cons_zero] at hops'
    subst hops'
    refine wpAny_of_held (S := fun w' : World => w'.cell? ⟨Bx, 0, none⟩ = some (.int .i64 (k : Int)) ∧ w'.cell? ⟨Bx, 1, none⟩ = some (.int .i64 lf) ∧ w'.cell? ⟨w.heap.size + 1, k, none⟩ = some (.int .i64 q)) _ _ _ _ ?_
    have hHeld : (fun w' : World => w'.cell? ⟨Bx, 0, none⟩ = some (.int .i64 (k : Int)) ∧ w'.cell? ⟨Bx, 1, none⟩ = some (.int .i64 lf) ∧ w'.cell? ⟨w.heap.size + 1, k, none⟩ = some (.int .i64 q)) W.drew := ⟨c0, c1, c2⟩
    refine takeIn 0 (v := ?_) rfl (by kernel_rfl) (by kernel_rfl) (by kernel_rfl) (fun _ _ _ h => h) rfl ?_ hHeld ?_
    rotate_left
    · intro w hSw; (try dsimp only at hSw); first | (go_simp; done) | (go_simp; with_reducible rfl) | with_reducible rfl
    try simp only [Act.put, List.setIfInBounds_toArray, List.set_cons_zero, List.set_cons_succ]
    refine takeIn 1 (v := ?_) rfl (by kernel_rfl) (by kernel_rfl) (by kernel_rfl) (fun _ _ _ h => h) rfl ?_ hHeld ?_
    rotate_left
    · intro w hSw; (try dsimp only at hSw); first | (go_simp; done) | (go_simp; with_reducible rfl) | with_reducible rfl
    try simp only [Act.put, List.setIfInBounds_toArray, List.set_cons_zero, List.set_cons_succ]
    refine takeIn 2 (v := ?_) rfl (by kernel_rfl) (by kernel_rfl) (by kernel_rfl) (fun _ _ _ h => h) rfl ?_ hHeld ?_
    rotate_left
    · intro w hSw; (try dsimp only at hSw); first | (go_simp; done) | (go_simp; with_reducible rfl) | with_reducible rfl
    try simp only [Act.put, List.setIfInBounds_toArray, List.set_cons_zero, List.set_cons_succ]
    refine takeIn 3 (v := ?_) rfl (by kernel_rfl) (by kernel_rfl) (by kernel_rfl) (fun _ _ _ h => h) rfl ?_ hHeld ?_
    rotate_left
    · intro w hSw; (try dsimp only at hSw); first | (go_simp; done) | (go_simp; with_reducible rfl) | with_reducible rfl
    try simp only [Act.put, List.setIfInBounds_toArray, List.set_cons_zero, List.set_cons_succ]
    refine takeIn 4 (v := ?_) rfl (by kernel_rfl) (by kernel_rfl) (by kernel_rfl) (fun _ _ _ h => h) rfl ?_ hHeld ?_
    rotate_left
    · intro w hSw; (try dsimp only at hSw); first | (go_simp; done) | (go_simp; with_reducible rfl) | with_reducible rfl
    try simp only [Act.put, List.setIfInBounds_toArray, List.set_cons_zero, List.set_cons_succ]
    refine takeIn 5 (v := ?_) rfl (by kernel_rfl) (by kernel_rfl) (by kernel_rfl) (fun _ _ _ h => h) rfl ?_ hHeld ?_
    rotate_left
    · intro w hSw; (try dsimp only at hSw); first | (go_simp; done) | (go_simp; with_reducible rfl) | with_reducible rfl
    try simp only [Act.put, List.setIfInBounds_toArray, List.set_cons_zero, List.set_cons_succ]
    refine takeIn 6 (v := ?_) rfl (by kernel_rfl) (by kernel_rfl) (by kernel_rfl) (fun _ _ _ h => h) rfl ?_ hHeld ?_
    rotate_left
    · intro w hSw; (try dsimp only at hSw); first | (go_simp; done) | (go_simp; with_reducible rfl) | with_reducible rfl
    try simp only [Act.put, List.setIfInBounds_toArray, List.set_cons_zero, List.set_cons_succ]
    refine takeIn 7 (v := ?_) rfl (by kernel_rfl) (by kernel_rfl) (by kernel_rfl) (fun _ _ _ h => h) rfl ?_ hHeld ?_
    rotate_left
    · intro w hSw; (try dsimp only at hSw); first | (go_simp; done) | (go_simp; with_reducible rfl) | with_reducible rfl
    try simp only [Act.put, List.setIfInBounds_toArray, List.set_cons_zero, List.set_cons_succ]
    refine takeIn 8 (v := ?_) rfl (by kernel_rfl) (by kernel_rfl) (by kernel_rfl) (fun _ _ _ h => h) rfl ?_ hHeld ?_
    rotate_left
    · intro w hSw; (try dsimp only at hSw); first | (go_simp; done) | (go_simp; with_reducible rfl) | with_reducible rfl
    try simp only [Act.put, List.setIfInBounds_toArray, List.set_cons_zero, List.set_cons_succ]
    refine takeIn 9 (v := ?_) rfl (by kernel_rfl) (by kernel_rfl) (by kernel_rfl) (fun _ _ _ h => h) rfl ?_ hHeld ?_
    rotate_left
    · intro w hSw; (try dsimp only at hSw); first | (go_simp; done) | (go_simp; with_reducible rfl) | with_reducible rfl
    try simp only [Act.put, List.setIfInBounds_toArray, List.set_cons_zero, List.set_cons_succ]
    refine takeIn 10 (v := ?_) rfl (by kernel_rfl) (by kernel_rfl) (by kernel_rfl) (fun _ _ _ h => h) rfl ?_ hHeld ?_
    rotate_left
    · intro w hSw; (try dsimp only at hSw); first | (go_simp; done) | (go_simp; with_reducible rfl) | with_reducible rfl
    try simp only [Act.put, List.setIfInBounds_toArray, List.set_cons_zero, List.set_cons_succ]
    refine wpAnyH_done (by kernel_rfl) ?_ _
    intro K hK
    go_simp
    refine hK _ _ ?_
    clear hK K hHeld
    have hmax : (if q < lf then lf else q) = max q lf := by split <;> omega
    rw [hmax]
    refine ⟨((KeepsOthers.setCell _ _ _).trans (KeepsOthers.drew _)).from _, ((Below.refl _ W).setCell (p := ⟨w.heap.size + 1, k, none⟩) (by show _ ≤ w.heap.size + 1; omega) _).drew, ⟨set_ne _ h1 (by omega), ?_⟩, (hB.setCell (p := ⟨w.heap.size + 1, k, none⟩) (by show _ ≤ w.heap.size + 1; omega) _).drew⟩
    rw [List.map_append, List.map_singleton, ← HS.out]
    exact cells_set _ h2
  case done =>
    rintro D ys W hD rfl ⟨⟨h1, h2⟩, hB⟩ hK
    obtain ⟨Y, hY⟩ : ∃ Y, ys.map (·.val) = Y := ⟨_, rfl⟩
    rw [hY] at h2 hM
    have HY := hide hY
    clear hY
    have c0 : W.cell? ⟨w.heap.size + 1, 0, none⟩ = some (.int .i64 (lifeOf Y 0)) := box_cell h2 0 rfl
    have c1 : W.cell? ⟨w.heap.size + 1, 1, none⟩ = some (.int .i64 (lifeOf Y 1)) := box_cell h2 1 rfl
    have c2 : W.cell? ⟨w.heap.size + 1, 2, none⟩ = some (.int .i64 (lifeOf Y 2)) := box_cell h2 2 rfl
    have c3 : W.cell? ⟨w.heap.size + 1, 3, none⟩ = some (.int .i64 (lifeOf Y 3)) := box_cell h2 3 rfl
    have c4 : W.cell? ⟨w.heap.size + 1, 4, none⟩ = some (.int .i64 (lifeOf Y 4)) := box_cell h2 4 rfl
    have c5 : W.cell? ⟨w.heap.size + 1, 5, none⟩ = some (.int .i64 (lifeOf Y 5)) := box_cell h2 5 rfl
    have c6 : W.cell? ⟨w.heap.size + 1, 6, none⟩ = some (.int .i64 (lifeOf Y 6)) := box_cell h2 6 rfl
    have d0 : W.cell? ⟨w.heap.size, 0, none⟩ = some (.int .i64 0) := box_cell h1 0 rfl
    have d1 : W.cell? ⟨w.heap.size, 1, none⟩ = some (.int .i64 0) := box_cell h1 1 rfl
    have d2 : W.cell? ⟨w.heap.size, 2, none⟩ = some (.int .i64 0) := box_cell h1 2 rfl
    have d3 : W.cell? ⟨w.heap.size, 3, none⟩ = some (.int .i64 0) := box_cell h1 3 rfl
    have d4 : W.cell? ⟨w.heap.size, 4, none⟩ = some (.int .i64 0) := box_cell h1 4 rfl
    have d5 : W.cell? ⟨w.heap.size, 5, none⟩ = some (.int .i64 0) := box_cell h1 5 rfl
    have d6 : W.cell? ⟨w.heap.size, 6, none⟩ = some (.int .i64 0) := box_cell h1 6 rfl
    have f0 : W.frozen? ⟨w.heap.size, 0, none⟩ = false := by unfold World.frozen?; simp [h1]
    have f1 : W.frozen? ⟨w.heap.size, 1, none⟩ = false := by unfold World.frozen?; simp [h1]
    have f2 : W.frozen? ⟨w.heap.size, 2, none⟩ = false := by unfold World.frozen?; simp [h1]
    have f3 : W.frozen? ⟨w.heap.size, 3, none⟩ = false := by unfold World.frozen?; simp [h1]
    have f4 : W.frozen? ⟨w.heap.size, 4, none⟩ = false := by unfold World.frozen?; simp [h1]
    have f5 : W.frozen? ⟨w.heap.size, 5, none⟩ = false := by unfold World.frozen?; simp [h1]
    have f6 : W.frozen? ⟨w.heap.size, 6, none⟩ = false := by unfold World.frozen?; simp [h1]
    gi_wp2
    obtain ⟨V, hV⟩ : ∃ V, V = (((((((W).setCell ⟨w.heap.size, 0, none⟩ (.int .i64 (lifeOf Y 0))).setCell ⟨w.heap.size, 1, none⟩ (.int .i64 (lifeOf Y 1))).setCell ⟨w.heap.size, 2, none⟩ (.int .i64 (lifeOf Y 2))).setCell ⟨w.heap.size, 3, none⟩ (.int .i64 (lifeOf Y 3))).setCell ⟨w.heap.size, 4, none⟩ (.int .i64 (lifeOf Y 4))).setCell ⟨w.heap.size, 5, none⟩ (.int .i64 (lifeOf Y 5))).setCell ⟨w.heap.size, 6, none⟩ (.int .i64 (lifeOf Y 6)) := ⟨_, rfl⟩
    have v1 : V.heap[w.heap.size]? = some (.cells (livesA Y) tLives (0, 0)) := by rw [hV]; exact cells_set _ (cells_set _ (cells_set _ (cells_set _ (cells_set _ (cells_set _ (cells_set _ (h1)))))))
    have v2 : V.heap[D]? = some (.deferred (some [])) := by rw [hV]; exact set_ne _ (set_ne _ (set_ne _ (set_ne _ (set_ne _ (set_ne _ (set_ne _ (hK) (by omega)) (by omega)) (by omega)) (by omega)) (by omega)) (by omega)) (by omega)
    have v3 : Below w.heap.size w V := by rw [hV]; exact (((((((hB).setCell (p := ⟨w.heap.size, 0, none⟩) (Nat.le_refl _) _).setCell (p := ⟨w.heap.size, 1, none⟩) (Nat.le_refl _) _).setCell (p := ⟨w.heap.size, 2, none⟩) (Nat.le_refl _) _).setCell (p := ⟨w.heap.size, 3, none⟩) (Nat.le_refl _) _).setCell (p := ⟨w.heap.size, 4, none⟩) (Nat.le_refl _) _).setCell (p := ⟨w.heap.size, 5, none⟩) (Nat.le_refl _) _).setCell (p := ⟨w.heap.size, 6, none⟩) (Nat.le_refl _) _
    rw [← hV]
    refine ⟨by simp, .inl ⟨_, _, rfl, run_takeDeferred v2, ?_⟩⟩
    have v4 := put_keeps (o2 := .deferred none) v2 v1 rfl
    have g0 := box_cell v4 0 (livesA_get Y 0 (by decide))
    have g1 := box_cell v4 1 (livesA_get Y 1 (by decide))
    have g2 := box_cell v4 2 (livesA_get Y 2 (by decide))
    have g3 := box_cell v4 3 (livesA_get Y 3 (by decide))
    have g4 := box_cell v4 4 (livesA_get Y 4 (by decide))
    have g5 := box_cell v4 5 (livesA_get Y 5 (by decide))
    have g6 := box_cell v4 6 (livesA_get Y 6 (by decide))
    refine ⟨.agg (livesA Y), ?_, by rw [HY.out], below_put v3 (by omega) v2⟩
    simp [results, Try.f45, go_sem, g0, g1, g2, g3, g4, g5, g6, livesA]
  case stop =>
    rintro D c pre W hD hpre h hK
    exact h.elim
end Go.Proofs.Ytjnbfopipmglgaa
