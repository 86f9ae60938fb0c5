/-
  strings.Repeat at this dump: one application of a library theorem; its condition: the text that comes is at most 2^47 bytes.
-/
import Derived.Test.YtfoomgdlbkjaeaaGreatZUL
import Derived.Test.YtfoomgdlbkjaeaaGreatZUH
import Derived.Test.YtfoomgdlbkjaeaaGreatZKW6
import Derived.Shelf.Strings.Repeat
import Derived.Test.YtfoomgdlbkjaeaaGreatProg
namespace Go.Proofs.YtfoomgdlbkjaeaaGreat.Y
open Go.RowKit Go.Maps Go.Shelf
set_option maxHeartbeats 16000000
set_option maxRecDepth 100000
attribute [local go_sem] Oper.semAt_some
set_option linter.unusedSimpArgs false
set_option linter.unusedVariables false
theorem grown_cells {X Y : World} {row : Option Nat} {B : Nat} (hg : X.grownBy Y row) (hr : ∀ r, row = some r → B ≤ r ∧ ∃ o : Obj, X.heap[r]? = some o ∧ o.isCells = false) {k : Nat} {o : Obj} (h : X.heap[k]? = some o) (hc : o.isCells = true) : Y.heap[k]? = some o :=
  (hg.block k (heap_lt h) (fun e => by
    obtain ⟨_, o2, h2, h3⟩ := hr k e.symm
    rw [h] at h2
    cases h2
    rw [hc] at h3
    cases h3)).trans h
theorem grown_rowC {X Y : World} {row : Option Nat} {B base e size n : Nat} {v : Value} {xs : List Value} (hg : X.grownBy Y row) (hr : ∀ r, row = some r → B ≤ r ∧ ∃ o : Obj, X.heap[r]? = some o ∧ o.isCells = false) (h : X.ownsRow base e size v n xs) : Y.ownsRow base e size v n xs := by
  refine h.kept hg ?_
  rcases h.2 with ⟨rfl, _⟩ | ⟨g, cap, cur, rfl, _, hgb, _⟩
  · exact .inl rfl
  · refine .inr fun e' => ?_
    obtain ⟨_, o, ho, hc⟩ := hr g (by simpa [Value.ownBlock] using e'.symm)
    rw [hgb] at ho; cases ho; cases hc
def prW (p : PU) : PU := ⟨p.name, IntKind.i64.wrap p.seq, IntKind.i64.wrap p.off⟩
def recW (r : Rec) : Rec := ⟨IntKind.i64.wrap r.off, r.prod, IntKind.i64.wrap r.seq, r.key, r.val⟩
theorem prodCells_append (a b : List PU) : prodCells (a ++ b) = prodCells a ++ prodCells b := List.flatMap_append
theorem recCells_join (a b : List Rec) : recCells (a ++ b) = recCells a ++ recCells b := List.flatMap_append
def Growsprof (w : World) (b3 : Nat) {q : Nat} (f : Fin q → PU) (pre : List (Fin q)) (V : World) : Prop :=
  ∃ ro rc, V.heap[b3]? = some (.cells #[.slice ro pre.length rc] 86 (0, 0)) ∧ V.ownsRow w.heap.size 75 3 (.slice ro pre.length rc) pre.length (prodCells (pre.map f)) ∧ Below w.heap.size w V
theorem growsprof_own (w : World) (b3 : Nat) {q : Nat} (f : Fin q → PU) {B : Nat} (hB : w.heap.size ≤ B) : OwnFrom B (Growsprof w b3 f) := fun s X Y row hs hg hr => by
  obtain ⟨ro, rc, h1, h2, h4⟩ := hs
  exact ⟨ro, rc, grown_cells hg hr h1 rfl, grown_rowC hg hr h2, ownFrom_below (β := Unit) (Nat.le_refl _) hB () X Y row h4 hg hr⟩
theorem finprof_map (L : List PU) : (List.finRange L.length).map (fun i => prW L[i.val]) = L.map prW := by
  apply List.ext_getElem
  · simp
  · intro i h1 h2
    simp
theorem tprof (L : List PU) (g off cp : Nat) (ao : Option Addr) (hao : 0 < L.length → ao = some ⟨g, off, none⟩) (w : World) (hq : L.length ≤ 1000000) (hcp : 3 * L.length ≤ cp) (ct : Array Value) (hgt : w.heap[g]? = some (.cells ct 83 (0, 0)))
    (hM : ∀ i (hi : i < L.length), w.cell? ⟨g, off + i * 9 + 2, none⟩ = some (.string L[i].name) ∧ w.cell? ⟨g, off + i * 9 + 4, none⟩ = some (.int .u64 L[i].seq) ∧ w.cell? ⟨g, off + i * 9 + 7, none⟩ = some (.int .u64 L[i].off)) :
    Calls Tryz.prog 45 #[.slice ao (3 * L.length) cp] w fun e w' => ∃ ro rc, e = .returned (.slice ro L.length rc) ∧ w'.ownsRow w.heap.size 75 3 (.slice ro L.length rc) L.length (prodCells (L.map prW)) ∧ Below w.heap.size w w' := by
  have hg := heap_lt hgt
  have HM := hide hM
  have HG := hide hgt
  have HX := hide (heap_alloc_new w (.cells #[.slice none 0 0] 86))
  have HB := hide ((Below.refl w.heap.size w).alloc (Nat.le_refl _) (.cells #[.slice none 0 0] 86))
  have HS : Hid ((w.alloc (.cells #[.slice none 0 0] 86)).heap.size = w.heap.size + 1) := by show _ = _; simp
  have HC := hide (fun a len cap (w : World) => P3.chunk_in 9 a len cap w)
  clear hM hgt
  generalize hn : 3 * L.length = n at *
  refine (callsIn_wide (n := 9)).1 ?_
  refine callsIn_of_wp_marks Tryz.func45 rfl trivial ?_ rfl
  simp only [Tryz.ntmps45, List.size_toArray, List.length_cons, List.length_nil, Nat.reduceAdd, Nat.reduceSub, Array.replicate_succ, Array.replicate_zero, List.push_toArray, List.append_toArray, List.nil_append, List.cons_append]
  gi_wp2
  generalize w.alloc (.cells #[.slice none 0 0] 86) = w1 at *
  refine ⟨trivial, (P3.chunk_in 8 _ _ _ _).mono ?_⟩
  rintro e w' ⟨rfl, rfl⟩
  gi_wp2
  rename_i K1 hK1
  obtain ⟨wz, ewz⟩ : ∃ wz : World, (w1.alloc (.cells #[.slice ao n cp] 66)).alloc (.cells #[.int .i64 3] 3) = wz := ⟨_, rfl⟩
  have bz : Below w1.heap.size w1 wz := by rw [← ewz]; exact ((Below.refl _ w1).alloc (Nat.le_refl _) _).alloc (by simp) _
  have C1 : P3.ChunkAt w1.heap.size (w1.heap.size + 1) ao L.length cp wz := by
    rw [← ewz]
    refine ⟨?_, ?_⟩
    · rw [hn]
      exact P3.heap_up (heap_alloc_new _ _)
    · have e := heap_alloc_new (w1.alloc (.cells #[.slice ao n cp] 66)) (.cells #[.int .i64 3] 3)
      rw [show (w1.alloc (.cells #[.slice ao n cp] 66)).heap.size = w1.heap.size + 1 by simp] at e
      exact e
  rw [ewz]
  clear ewz
  have hBz : Below w.heap.size w wz := HB.out.trans (bz.mono HB.out.size)
  have hXz := (bz.block _ (heap_lt HX.out)).trans HX.out
  have hs1 := HS.out
  have hs2 := hBz.size
  refine wpIn_rangeFunc_ownH rfl (by omega) (gf := 100) (lb := #[.pointer (some ⟨w1.heap.size, 0, none⟩), .pointer (some ⟨w1.heap.size + 1, 0, none⟩)]) rfl trivial (enters_of Tryz.func100 (by kernel_rfl) rfl)
    (P3.chunk_stops L.length _ w1.heap.size (w1.heap.size + 1) g off cp (by omega) (by omega) ao hao wz C1) (fun h k x => k (h x)) (fun V k o o' _ h hc _ => P3.chunk_put V k o o' h hc) (Below.refl _ _) (fun _ => rfl)
    (Growsprof w w.heap.size (fun i : Fin L.length => prW L[i.val])) (fun c pre V => False) (growsprof_own w _ _ (by omega)) (fun _ _ _ _ _ hs _ _ => hs)
    ⟨none, 0, hXz, World.ownsRow_nil _ _ _ _, hBz⟩
    (fun x a' V => a'.tmps.size = 28 ∧ a'.tmps.getD 3 undef = .pointer (some ⟨w.heap.size, 0, none⟩) ∧ a'.tmps.getD 4 undef = .slice (some ⟨g, off + x.val * 9, none⟩) 3 3)
    (fun x a' s X Y row hs hg hr => hs) ?assign ?body ?done ?stop
  case assign =>
    rintro l pre x V K hi hK
    gi_wp2
    exact hK _ _ (KeepsFrom.refl _ _) (fun h => h) hi ⟨rfl, rfl, rfl⟩
  case body =>
    rintro l pre x a' V _ _ ⟨ro, rc, h1, h2, hB⟩ ⟨hsz, h3, h4⟩ hlt
    have hgv := (hB.block _ hg).trans HG.out
    have hc9 := fun k => hB.cell (p := ⟨g, k, none⟩) hg
    obtain ⟨y0, y1, y2⟩ := HM.out x.val x.isLt
    refine pf_body (by kernel_rfl) ?lets a' V hsz h3 h4 h1 h2 hB.size (by omega) (Nat.lt_of_lt_of_le hg hB.size) (fun e => row_other h2 e hgv (by decide)) ((hc9 _).trans y0) ((hc9 _).trans y1) ((hc9 _).trans y2) ?_
    case lets => exact fun h => h.elim fun _ h => h.elim fun _ h => h
    intro a9 w9 ro2 rc2 g1 g2 g3
    have hne : ∀ (i : Nat) (o : Obj), V.heap[i]? = some o → (o.isCells = false ∨ ∃ c t, o = .cells c t (0, 0) ∧ t ≠ 75 ∧ i ≠ w.heap.size) → ¬ (i = w.heap.size ∨ (Value.slice ro pre.length rc).ownBlock = some i) := by
      rintro i o ho h (rfl | e)
      · rcases h with h | ⟨c, t, rfl, _, h⟩
        · rw [h1] at ho
          cases ho
          cases h
        · exact h rfl
      · rcases h with h | ⟨c, t, rfl, h, _⟩
        · rcases h2.2 with ⟨h5, _⟩ | ⟨g5, cap, cur, h5, _, h6, _⟩
          · rw [h5] at e; cases e
          · rw [h5] at e
            obtain rfl : g5 = i := by simpa [Value.ownBlock] using e
            rw [h6] at ho
            cases ho
            cases h
        · exact row_other h2 e ho h
    have typ : ∀ {i : Nat} {c : Array Value} {t : TypeId}, V.heap[i]? = some (.cells c t (0, 0)) → t ≠ 86 → i ≠ w.heap.size := by
      intro i c t hi ht e
      subst e
      rw [h1] at hi
      injection hi with hi
      injection hi with _ h8 _
      exact ht h8.symm
    show KeepsFrom _ _ _ ∧ _ ∧ Growsprof _ _ _ _ _
    refine ⟨⟨g3.size, fun i o _ hi ho => g3.at hi (hne i o hi (.inl ho))⟩, fun hC => ⟨g3.at hC.1 (hne _ _ hC.1 (.inr ⟨_, _, rfl, by decide, typ hC.1 (by decide)⟩)), g3.at hC.2 (hne _ _ hC.2 (.inr ⟨_, _, rfl, by decide, typ hC.2 (by decide)⟩))⟩, ro2, rc2, ?_, ?_, ?_⟩
    · rw [List.length_append]
      exact g1
    · rw [List.length_append, List.map_append, prodCells_append]
      exact g2
    · refine hB.trans (g3.toBelow hB.size fun i hi h => ?_)
      rcases h with rfl | e
      · omega
      · have := (h2.lt i e).1
        omega
  case done =>
    rintro D ys V hD rfl ⟨ro, rc, h1, h2, hB⟩ hK
    rw [finprof_map] at h2
    rw [List.length_finRange] at h1 h2
    have c0 := box_cell h1 0 rfl
    refine hK1 _ _ ?_
    gi_wp2
    refine ⟨by simp, .inl ⟨_, _, rfl, run_takeDeferred hK, ?_⟩⟩
    refine ⟨.slice ro L.length rc, ?res, ro, rc, rfl, ownsRow_putObj h2 _ hK rfl, P3.below_put hB (by omega) hK⟩
    case res => simp [results, Tryz.results45, go_sem]
  case stop =>
    rintro D c pre V hD hpre h hK
    exact h.elim
def Growsrecf (w : World) (b3 : Nat) {q : Nat} (f : Fin q → Rec) (pre : List (Fin q)) (V : World) : Prop :=
  ∃ ro rc, V.heap[b3]? = some (.cells #[.slice ro pre.length rc] 35 (0, 0)) ∧ V.ownsRow w.heap.size 39 5 (.slice ro pre.length rc) pre.length (recCells (pre.map f)) ∧ Below w.heap.size w V
theorem growsrecf_own (w : World) (b3 : Nat) {q : Nat} (f : Fin q → Rec) {B : Nat} (hB : w.heap.size ≤ B) : OwnFrom B (Growsrecf w b3 f) := fun s X Y row hs hg hr => by
  obtain ⟨ro, rc, h1, h2, h4⟩ := hs
  exact ⟨ro, rc, grown_cells hg hr h1 rfl, grown_rowC hg hr h2, ownFrom_below (β := Unit) (Nat.le_refl _) hB () X Y row h4 hg hr⟩
theorem finrecf_map (L : List Rec) : (List.finRange L.length).map (fun i => recW L[i.val]) = L.map recW := by
  apply List.ext_getElem
  · simp
  · intro i h1 h2
    simp
theorem trecf (L : List Rec) (g off cp : Nat) (ao : Option Addr) (hao : 0 < L.length → ao = some ⟨g, off, none⟩) (w : World) (hq : L.length ≤ 1000000) (hcp : 5 * L.length ≤ cp) (ct : Array Value) (hgt : w.heap[g]? = some (.cells ct 83 (0, 0)))
    (hM : ∀ i (hi : i < L.length), w.cell? ⟨g, off + i * 15 + 1, none⟩ = some (.int .u64 L[i].off) ∧ w.cell? ⟨g, off + i * 15 + 5, none⟩ = some (.string L[i].prod) ∧ w.cell? ⟨g, off + i * 15 + 7, none⟩ = some (.int .u64 L[i].seq) ∧ w.cell? ⟨g, off + i * 15 + 11, none⟩ = some (.string L[i].key) ∧ w.cell? ⟨g, off + i * 15 + 14, none⟩ = some (.string L[i].val)) :
    Calls Tryz.prog 47 #[.slice ao (5 * L.length) cp] w fun e w' => ∃ ro rc, e = .returned (.slice ro L.length rc) ∧ w'.ownsRow w.heap.size 39 5 (.slice ro L.length rc) L.length (recCells (L.map recW)) ∧ Below w.heap.size w w' := by
  have hg := heap_lt hgt
  have HM := hide hM
  have HG := hide hgt
  have HX := hide (heap_alloc_new w (.cells #[.slice none 0 0] 35))
  have HB := hide ((Below.refl w.heap.size w).alloc (Nat.le_refl _) (.cells #[.slice none 0 0] 35))
  have HS : Hid ((w.alloc (.cells #[.slice none 0 0] 35)).heap.size = w.heap.size + 1) := by show _ = _; simp
  have HC := hide (fun a len cap (w : World) => P5.chunk_in 9 a len cap w)
  clear hM hgt
  generalize hn : 5 * L.length = n at *
  refine (callsIn_wide (n := 9)).1 ?_
  refine callsIn_of_wp_marks Tryz.func47 rfl trivial ?_ rfl
  simp only [Tryz.ntmps47, List.size_toArray, List.length_cons, List.length_nil, Nat.reduceAdd, Nat.reduceSub, Array.replicate_succ, Array.replicate_zero, List.push_toArray, List.append_toArray, List.nil_append, List.cons_append]
  gi_wp2
  generalize w.alloc (.cells #[.slice none 0 0] 35) = w1 at *
  refine ⟨trivial, (P5.chunk_in 8 _ _ _ _).mono ?_⟩
  rintro e w' ⟨rfl, rfl⟩
  gi_wp2
  rename_i K1 hK1
  obtain ⟨wz, ewz⟩ : ∃ wz : World, (w1.alloc (.cells #[.slice ao n cp] 66)).alloc (.cells #[.int .i64 5] 3) = wz := ⟨_, rfl⟩
  have bz : Below w1.heap.size w1 wz := by rw [← ewz]; exact ((Below.refl _ w1).alloc (Nat.le_refl _) _).alloc (by simp) _
  have C1 : P5.ChunkAt w1.heap.size (w1.heap.size + 1) ao L.length cp wz := by
    rw [← ewz]
    refine ⟨?_, ?_⟩
    · rw [hn]
      exact P5.heap_up (heap_alloc_new _ _)
    · have e := heap_alloc_new (w1.alloc (.cells #[.slice ao n cp] 66)) (.cells #[.int .i64 5] 3)
      rw [show (w1.alloc (.cells #[.slice ao n cp] 66)).heap.size = w1.heap.size + 1 by simp] at e
      exact e
  rw [ewz]
  clear ewz
  have hBz : Below w.heap.size w wz := HB.out.trans (bz.mono HB.out.size)
  have hXz := (bz.block _ (heap_lt HX.out)).trans HX.out
  have hs1 := HS.out
  have hs2 := hBz.size
  refine wpIn_rangeFunc_ownH rfl (by omega) (gf := 100) (lb := #[.pointer (some ⟨w1.heap.size, 0, none⟩), .pointer (some ⟨w1.heap.size + 1, 0, none⟩)]) rfl trivial (enters_of Tryz.func100 (by kernel_rfl) rfl)
    (P5.chunk_stops L.length _ w1.heap.size (w1.heap.size + 1) g off cp (by omega) (by omega) ao hao wz C1) (fun h k x => k (h x)) (fun V k o o' _ h hc _ => P5.chunk_put V k o o' h hc) (Below.refl _ _) (fun _ => rfl)
    (Growsrecf w w.heap.size (fun i : Fin L.length => recW L[i.val])) (fun c pre V => False) (growsrecf_own w _ _ (by omega)) (fun _ _ _ _ _ hs _ _ => hs)
    ⟨none, 0, hXz, World.ownsRow_nil _ _ _ _, hBz⟩
    (fun x a' V => a'.tmps.size = 35 ∧ a'.tmps.getD 3 undef = .pointer (some ⟨w.heap.size, 0, none⟩) ∧ a'.tmps.getD 4 undef = .slice (some ⟨g, off + x.val * 15, none⟩) 5 5)
    (fun x a' s X Y row hs hg hr => hs) ?assign ?body ?done ?stop
  case assign =>
    rintro l pre x V K hi hK
    gi_wp2
    exact hK _ _ (KeepsFrom.refl _ _) (fun h => h) hi ⟨rfl, rfl, rfl⟩
  case body =>
    rintro l pre x a' V _ _ ⟨ro, rc, h1, h2, hB⟩ ⟨hsz, h3, h4⟩ hlt
    have hgv := (hB.block _ hg).trans HG.out
    have hc9 := fun k => hB.cell (p := ⟨g, k, none⟩) hg
    obtain ⟨y0, y1, y2, y3, y4⟩ := HM.out x.val x.isLt
    refine rf_body (by kernel_rfl) ?lets a' V hsz h3 h4 h1 h2 hB.size (by omega) (Nat.lt_of_lt_of_le hg hB.size) (fun e => row_other h2 e hgv (by decide)) ((hc9 _).trans y0) ((hc9 _).trans y1) ((hc9 _).trans y2) ((hc9 _).trans y3) ((hc9 _).trans y4) ?_
    case lets => exact fun h => h.elim fun _ h => h.elim fun _ h => h
    intro a9 w9 ro2 rc2 g1 g2 g3
    have hne : ∀ (i : Nat) (o : Obj), V.heap[i]? = some o → (o.isCells = false ∨ ∃ c t, o = .cells c t (0, 0) ∧ t ≠ 39 ∧ i ≠ w.heap.size) → ¬ (i = w.heap.size ∨ (Value.slice ro pre.length rc).ownBlock = some i) := by
      rintro i o ho h (rfl | e)
      · rcases h with h | ⟨c, t, rfl, _, h⟩
        · rw [h1] at ho
          cases ho
          cases h
        · exact h rfl
      · rcases h with h | ⟨c, t, rfl, h, _⟩
        · rcases h2.2 with ⟨h5, _⟩ | ⟨g5, cap, cur, h5, _, h6, _⟩
          · rw [h5] at e; cases e
          · rw [h5] at e
            obtain rfl : g5 = i := by simpa [Value.ownBlock] using e
            rw [h6] at ho
            cases ho
            cases h
        · exact row_other h2 e ho h
    have typ : ∀ {i : Nat} {c : Array Value} {t : TypeId}, V.heap[i]? = some (.cells c t (0, 0)) → t ≠ 35 → i ≠ w.heap.size := by
      intro i c t hi ht e
      subst e
      rw [h1] at hi
      injection hi with hi
      injection hi with _ h8 _
      exact ht h8.symm
    show KeepsFrom _ _ _ ∧ _ ∧ Growsrecf _ _ _ _ _
    refine ⟨⟨g3.size, fun i o _ hi ho => g3.at hi (hne i o hi (.inl ho))⟩, fun hC => ⟨g3.at hC.1 (hne _ _ hC.1 (.inr ⟨_, _, rfl, by decide, typ hC.1 (by decide)⟩)), g3.at hC.2 (hne _ _ hC.2 (.inr ⟨_, _, rfl, by decide, typ hC.2 (by decide)⟩))⟩, ro2, rc2, ?_, ?_, ?_⟩
    · rw [List.length_append]
      exact g1
    · rw [List.length_append, List.map_append, recCells_join]
      exact g2
    · refine hB.trans (g3.toBelow hB.size fun i hi h => ?_)
      rcases h with rfl | e
      · omega
      · have := (h2.lt i e).1
        omega
  case done =>
    rintro D ys V hD rfl ⟨ro, rc, h1, h2, hB⟩ hK
    rw [finrecf_map] at h2
    rw [List.length_finRange] at h1 h2
    have c0 := box_cell h1 0 rfl
    refine hK1 _ _ ?_
    gi_wp2
    refine ⟨by simp, .inl ⟨_, _, rfl, run_takeDeferred hK, ?_⟩⟩
    refine ⟨.slice ro L.length rc, ?res, ro, rc, rfl, ownsRow_putObj h2 _ hK rfl, P5.below_put hB (by omega) hK⟩
    case res => simp [results, Tryz.results47, go_sem]
  case stop =>
    rintro D c pre V hD hpre h hK
    exact h.elim
end Go.Proofs.YtfoomgdlbkjaeaaGreat.Y
namespace Go.Proofs.YtfoomgdlbkjaeaaGreat.Y
open Go.RowKit Go.Maps
set_option maxHeartbeats 1000000
set_option maxRecDepth 100000
set_option linter.unusedSimpArgs false
set_option linter.unusedVariables false
theorem extract_take (s : ByteArray) (j : Nat) : (s.extract 0 j).data.toList = s.data.toList.take j := by
  rw [ByteArray.data_extract]
  simp
theorem take_min (s : ByteArray) (k : Nat) : (s.extract 0 (min (k : Int) (s.size : Int)).toNat).data.toList = s.data.toList.take k := by
  rw [extract_take]
  have e : s.data.toList.length = s.size := by rw [Array.length_toList]; rfl
  by_cases h : k ≤ s.size
  · rw [show (min (k : Int) (s.size : Int)).toNat = k by omega]
  · rw [show (min (k : Int) (s.size : Int)).toNat = s.size by omega, List.take_of_length_le (by omega), List.take_of_length_le (by omega)]
theorem own_one {w : World} {B : Nat} {v : Value} {x : K.It} (h : w.ownsRow B 83 3 v 1 (K.itemCells [x])) : ∃ g cp, v = .slice (some ⟨g, 0, none⟩) 1 cp ∧ w.cell? ⟨g, 1, none⟩ = some (.int .u64 x.n) := by
  rcases h.2 with ⟨h1, h2⟩ | ⟨g, cap, cur, hv, hg, hh, hn, hc, hs, ht⟩
  · omega
  · refine ⟨g, cap, hv, ?_⟩
    rw [Lib.cell_of_heap hh]
    have := congrArg (fun q : List Value => q[1]?) ht
    simpa [K.itemCells, K.It.cells] using this
def headW (s : ByteArray) : List K.It × Int := K.decF [119] (s.data.toList.take 4)
theorem headw_call (s : ByteArray) (hs : s.size ≤ 9223372036854775807) (w : World) : Calls Tryz.prog 74 #[.string ⟨#[119]⟩, .string (s.extract 0 (min 4 (s.size : Int)).toNat)] w fun e w' => ∃ v, e = .returned (.tuple #[v, .int .i64 (headW s).2]) ∧ w'.ownsRow w.heap.size 83 3 v (headW s).1.length (K.itemCells (headW s).1) ∧ Below w.heap.size w w' :=
  K.decode_any ⟨#[119]⟩ (s.extract 0 (min 4 (s.size : Int)).toNat) w (by unfold maxLen; decide) (by rw [ByteArray.size_extract]; unfold maxLen; omega) (headW s) (by unfold headW; rw [← take_min s 4]; rfl)
theorem theadof_bad (s : ByteArray) (hs : s.size ≤ 9223372036854775807) (hd : (headW s).2 ≠ 0) (w : World) : Calls Tryz.prog 75 #[.string s] w fun e w' => e = .returned (.string ⟨#[]⟩) ∧ Below w.heap.size w w' := by
  have g0 : (0 : Int) ≤ min 4 (s.size : Int) := by omega
  have g1 : min 4 (s.size : Int) ≤ (s.size : Int) := by omega
  have HD := hide (headw_call s hs w)
  generalize headW s = R at *
  obtain ⟨l, er⟩ := R
  dsimp only at hd HD
  go_enter Tryz.func75, Tryz.ntmps75
  go_wp2_with fail
  refine HD.out.mono ?_
  rintro e w1 ⟨v, rfl, ho, b1⟩
  obtain ⟨ao, cp, rfl⟩ := row_slice ho
  have B1 := hide b1
  clear b1 ho HD
  go_wp2
  go_ret
  exact ⟨rfl, B1.out⟩
theorem theadof_one (s : ByteArray) (hs : s.size ≤ 9223372036854775807) {x : K.It} (hd : headW s = ([x], 0)) (x0 : 0 ≤ x.n) (x1 : x.n ≤ 4294967296) (w : World) : Calls Tryz.prog 75 #[.string s] w fun e w' => e = .returned (.string (s.extract 0 (min (4 + x.n + 24) (s.size : Int)).toNat)) ∧ Below w.heap.size w w' := by
  have g0 : (0 : Int) ≤ min 4 (s.size : Int) := by omega
  have g1 : min 4 (s.size : Int) ≤ (s.size : Int) := by omega
  have g2 : (0 : Int) ≤ min (4 + x.n + 24) (s.size : Int) := by omega
  have g3 : min (4 + x.n + 24) (s.size : Int) ≤ (s.size : Int) := by omega
  have e1 : IntKind.i64.wrap x.n = x.n := by rw [IntKind.wrap_i64]; omega
  have e2 : IntKind.i64.wrap (4 + x.n) = 4 + x.n := by rw [IntKind.wrap_i64]; omega
  have e3 : IntKind.i64.wrap (4 + x.n + 24) = 4 + x.n + 24 := by rw [IntKind.wrap_i64]; omega
  have HD := hide (headw_call s hs w)
  rw [hd] at HD
  dsimp only at HD
  go_enter Tryz.func75, Tryz.ntmps75
  go_wp2_with fail
  refine HD.out.mono ?_
  rintro e w1 ⟨v, rfl, ho, b1⟩
  obtain ⟨g, cp, rfl, c1⟩ := own_one ho
  have B1 := hide b1
  clear b1 ho HD
  go_wp2
  go_ret
  exact ⟨rfl, B1.out⟩
end Go.Proofs.YtfoomgdlbkjaeaaGreat.Y
namespace Go.Proofs
open Go.Shelf
def Tryz.lays105_ren : Go.Shelf.Ren := ⟨fun | 105 => 76 | 212 => 97 | 99 => 98 | 165 => 71 | 166 => 93 | 170 => 99 | 169 => 73 | 263 => 129 | 264 => 130 | 206 => 131 | 240 => 90 | 241 => 91 | 276 => 123 | 277 => 124 | n => n, fun | 9 => 9 | 3 => 3 | 4 => 4 | 20 => 20 | 0 => 0 | 46 => 94 | 109 => 145 | 5 => 5 | 72 => 113 | 76 => 140 | 51 => 160 | 146 => 168 | 53 => 81 | 148 => 170 | 70 => 110 | 37 => 111 | 75 => 139 | 127 => 128 | 164 => 162 | 80 => 41 | n => n, fun | n => n⟩
theorem Tryz.lays105 : Go.Proofs.Lays.n105 Tryz.prog Tryz.lays105_ren := {
  mixed := by kernel_rfl
  f99 := Tryz.func98.trans (congrArg some (by kernel_rfl))
  f105 := Tryz.func76.trans (congrArg some (by kernel_rfl))
  f165 := Tryz.func71.trans (congrArg some (by kernel_rfl))
  f166 := Tryz.func93.trans (congrArg some (by kernel_rfl))
  f169 := Tryz.func73.trans (congrArg some (by kernel_rfl))
  f170 := Tryz.func99.trans (congrArg some (by kernel_rfl))
  f206 := Tryz.func131.trans (congrArg some (by kernel_rfl))
  f212 := Tryz.func97.trans (congrArg some (by kernel_rfl))
  f240 := Tryz.func90.trans (congrArg some (by kernel_rfl))
  f241 := Tryz.func91.trans (congrArg some (by kernel_rfl))
  f263 := Tryz.func129.trans (congrArg some (by kernel_rfl))
  f264 := Tryz.func130.trans (congrArg some (by kernel_rfl))
  f276 := Tryz.func123.trans (congrArg some (by kernel_rfl))
  f277 := Tryz.func124.trans (congrArg some (by kernel_rfl))
  t0 := Tryz.underlying0
  a0 := Tryz.isAgg0
  z0 := Tryz.sizeOf0
  v0 := Tryz.zeroValue0
  t3 := Tryz.underlying3
  a3 := Tryz.isAgg3
  z3 := Tryz.sizeOf3
  v3 := Tryz.zeroValue3
  t4 := Tryz.underlying4
  a4 := Tryz.isAgg4
  z4 := Tryz.sizeOf4
  v4 := Tryz.zeroValue4
  t5 := Tryz.underlying5
  a5 := Tryz.isAgg5
  z5 := Tryz.sizeOf5
  v5 := Tryz.zeroValue5
  t9 := Tryz.underlying9
  a9 := Tryz.isAgg9
  z9 := Tryz.sizeOf9
  v9 := Tryz.zeroValue9
  t20 := Tryz.underlying20
  a20 := Tryz.isAgg20
  z20 := Tryz.sizeOf20
  v20 := Tryz.zeroValue20
  t37 := Tryz.underlying111
  a37 := Tryz.isAgg111
  z37 := Tryz.sizeOf111
  v37 := Tryz.zeroValue111
  t46 := Tryz.underlying94
  a46 := Tryz.isAgg94
  z46 := Tryz.sizeOf94
  v46 := Tryz.zeroValue94
  t51 := Tryz.underlying160
  a51 := Tryz.isAgg160
  z51 := Tryz.sizeOf160
  v51 := Tryz.zeroValue160
  t53 := Tryz.underlying81
  a53 := Tryz.isAgg81
  z53 := Tryz.sizeOf81
  v53 := Tryz.zeroValue81
  t70 := Tryz.underlying110
  a70 := Tryz.isAgg110
  z70 := Tryz.sizeOf110
  v70 := Tryz.zeroValue110
  t72 := Tryz.underlying113
  a72 := Tryz.isAgg113
  z72 := Tryz.sizeOf113
  v72 := Tryz.zeroValue113
  t75 := Tryz.underlying139
  a75 := Tryz.isAgg139
  z75 := Tryz.sizeOf139
  v75 := Tryz.zeroValue139
  t76 := Tryz.underlying140
  a76 := Tryz.isAgg140
  z76 := Tryz.sizeOf140
  v76 := Tryz.zeroValue140
  t109 := Tryz.underlying145
  a109 := Tryz.isAgg145
  z109 := Tryz.sizeOf145
  v109 := Tryz.zeroValue145
  t127 := Tryz.underlying128
  a127 := Tryz.isAgg128
  z127 := Tryz.sizeOf128
  v127 := Tryz.zeroValue128
  t146 := Tryz.underlying168
  a146 := Tryz.isAgg168
  z146 := Tryz.sizeOf168
  v146 := Tryz.zeroValue168
  t148 := Tryz.underlying170
  a148 := Tryz.isAgg170
  z148 := Tryz.sizeOf170
  v148 := Tryz.zeroValue170
  t164 := Tryz.underlying162
  a164 := Tryz.isAgg162
  z164 := Tryz.sizeOf162
  v164 := Tryz.zeroValue162 }
theorem Tryz.Builder_Extra_105 : Builder.Extra Tryz.prog Tryz.lays105_ren := {
  sizeBuilder := by kernel_rfl
  liesBuilder := by kernel_rfl
  t5 := Tryz.underlying5
  a5 := Tryz.isAgg5
  z5 := Tryz.sizeOf5
  v5 := Tryz.zeroValue5
  infoByte := by kernel_rfl
  cellsByte := by kernel_rfl
  sizeByte := by kernel_rfl
  neB5 := by decide }
open Go.RowKit in
theorem Tryz.strings_Repeat (s : ByteArray) (c : Nat) (w : World) (hc : c ≤ 9223372036854775807) (hlen : s.size * c ≤ 140737488355328) :
    Calls Tryz.prog 76 #[.string s, .int .i64 c] w fun e w' => e = .returned (.string ⟨(Lib.repeatL s.data.toList c).toArray⟩) ∧ Below w.heap.size w w' := Any.strings_Repeat Tryz.lays105 Tryz.Builder_Extra_105 s c w hc hlen
end Go.Proofs
