/-
  New, List, Crash of the disk as they run.
-/
import Derived.Test.YtknldpaaikcedaaGreatZW15
namespace Go.Proofs.YtknldpaaikcedaaGreat
open Go.RowKit Go.Maps Go.Sort

/-- A new disk. -/
structure Fresh (G : DG) (room : Int) (q : Nat) : Prop where
  room : G.room = room
  fuse : G.fuse = -1
  down : G.down = false
  D : G.D = .map []
  LD : G.LD = .map []
  X : G.X = []
  file : G.file = fun _ => none
  n : G.n = 0
  q : G.q = q
theorem fresh_rep {w : World} {b nb lb : Nat} {room : Int} (q : Nat) (hq : q ≤ 1000000000) (hr : 0 ≤ room ∧ room ≤ 1000000000) (hb : w.heap[b]? = some (.cells #[.int .i64 room, .int .i64 (-1), .bool false, .map (some nb), .map (some lb), .slice none 0 0] 56 (0, 0)))
    (h1 : w.heap[nb]? = some (.map #[] 0)) (h2 : w.heap[lb]? = some (.map #[] 0)) (h3 : nb ≠ b) (h4 : lb ≠ b) (h5 : lb ≠ nb) :
    ∃ G, Rep w b G ∧ Fresh G room q ∧ ∀ j, G.own j → j = b ∨ j = nb ∨ j = lb := by
  have own : ∀ {j : Nat}, w.heap[j]? = some (.map #[] 0) → w.ownsMap Tryz.prog 9 ptrR j 0 (.map []) := fun {j} h =>
    ⟨#[], 0, h, ⟨by simp, Go.MapKept.stamped_empty 0, by simp⟩, Nat.le_refl _, rfl⟩
  refine ⟨⟨room, -1, false, nb, lb, none, 0, .map [], .map [], [], fun _ => none, fun j => if j = b then (1, 0) else if j = nb then (2, 0) else if j = lb then (3, 0) else (0, 0), 0, q⟩, ⟨hb, own h1, own h2, World.ownsRow_nil _ _ _ _, (fun x hx => by simp at hx), trivial, rfl, Nat.le_refl _, (fun f F hF => by cases hF), (fun k f hk => by cases hk), (fun x hx => by simp at hx), if_pos rfl, ?_, ?_, (fun j hj => by simp at hj), (fun x hx => by simp at hx), ?_, hr, ⟨(by show (-9223372036854775808 : Int) ≤ -1; omega), (by show (-1 : Int) ≤ 9223372036854775807; omega)⟩, hq, full_empty⟩, ⟨rfl, rfl, rfl, rfl, rfl, rfl, rfl, rfl, rfl⟩, ?_⟩
  · show (if nb = b then ((1, 0) : Nat × Nat) else if nb = nb then (2, 0) else _) = _
    rw [if_neg h3, if_pos rfl]
  · show (if lb = b then ((1, 0) : Nat × Nat) else if lb = nb then (2, 0) else if lb = lb then (3, 0) else _) = _
    rw [if_neg h4, if_neg h5, if_pos rfl]
  · intro j hj
    by_cases e1 : j = b
    · rw [e1]; exact heap_lt hb
    · by_cases e2 : j = nb
      · rw [e2]; exact heap_lt h1
      · by_cases e3 : j = lb
        · rw [e3]; exact heap_lt h2
        · simp only [if_neg e1, if_neg e2, if_neg e3] at hj
          exact absurd rfl hj
  · intro j hj
    by_cases e1 : j = b
    · exact .inl e1
    · by_cases e2 : j = nb
      · exact .inr (.inl e2)
      · by_cases e3 : j = lb
        · exact .inr (.inr e3)
        · have hj' : (if j = b then ((1, 0) : Nat × Nat) else if j = nb then (2, 0) else if j = lb then (3, 0) else (0, 0)) ≠ (0, 0) := hj
          rw [if_neg e1, if_neg e2, if_neg e3] at hj'
          exact absurd rfl hj'

section
set_option maxRecDepth 100000
set_option maxHeartbeats 2000000
theorem emptyDir_any (w : World) : Calls Tryz.prog 24 #[] w fun e w' => e = .returned (.agg #[.map (some (w.heap.size + 1)), .map (some (w.heap.size + 1 + 1)), .slice none 0 0]) ∧
    w'.heap[w.heap.size + 1]? = some (.map #[] 0) ∧ w'.heap[w.heap.size + 1 + 1]? = some (.map #[] 0) ∧ RowKit.Below w.heap.size w w' := by
  have hmm := @run_makeMap Tryz.prog
  go_enter Tryz.func24, Tryz.ntmps24
  go_wp2
  refine bodyPost_ret (v := .agg #[.map (some (w.heap.size + 1)), .map (some (w.heap.size + 1 + 1)), .slice none 0 0]) (by simp [results, Tryz.results24, go_sem]) rfl ⟨rfl, ?_, ?_, ?_⟩
  · refine box_alloc ?_ _
    have h := heap_alloc_new (w.alloc (.cells #[.map (some (w.heap.size + 1)), .map (some (w.heap.size + 1 + 1)), .slice none 0 0] 53)) (.map #[] 0)
    simpa using h
  · have h := heap_alloc_new ((w.alloc (.cells #[.map (some (w.heap.size + 1)), .map (some (w.heap.size + 1 + 1)), .slice none 0 0] 53)).alloc (.map #[] 0)) (.map #[] 0)
    simpa using h
  · exact (((Below.refl _ w).alloc (Nat.le_refl _) _).alloc (by simp) _).alloc (by simp; omega) _
theorem new_bad (room : Int) (w : World) (hr : ¬ (0 ≤ room ∧ room ≤ 1000000000)) : Calls Tryz.prog 5 #[.int .i64 room] w fun e w' => e = .returned (.tuple #[.pointer none, .int .i64 1]) ∧ w' = w := by
  by_cases h0 : room < 0
  · go_enter Tryz.func5, Tryz.ntmps5
    go_wp2
    go_ret2
    exact ⟨rfl, rfl⟩
  · have h1 : 1000000000 < room := by omega
    have h2 : decide (room < 0) = false := by simpa using h0
    go_enter Tryz.func5, Tryz.ntmps5
    go_wp2
    go_ret2
    exact ⟨rfl, rfl⟩
theorem new_ok (room : Int) (w : World) (hr : 0 ≤ room ∧ room ≤ 1000000000) (q : Nat) (hq : q ≤ 1000000000) :
    Calls Tryz.prog 5 #[.int .i64 room] w fun e w' => ∃ b G, e = .returned (.tuple #[.pointer (some ⟨b, 0, none⟩), .int .i64 0]) ∧ Rep w' b G ∧ Fresh G room q ∧ (∀ j, G.own j → w.heap.size ≤ j) ∧ RowKit.Below w.heap.size w w' := by
  have h0 : ¬ room < 0 := by omega
  have h1 : ¬ 1000000000 < room := by omega
  have h2 : decide (room < 0) = false := by simpa using h0
  have h3 : decide (1000000000 < room) = false := by simpa using h1
  have HE := hide (emptyDir_any w)
  go_enter Tryz.func5, Tryz.ntmps5
  go_wp2_with (go_at_call 24; refine HE.out.mono ?_; rintro e w1 ⟨rfl, a1, a2, a3⟩)
  go_ret2
  have hs := heap_lt a2
  obtain ⟨G, hR, hF, hO⟩ := fresh_rep (w := w1.alloc (.cells #[.int .i64 room, .int .i64 (-1), .bool false, .map (some (w.heap.size + 1)), .map (some (w.heap.size + 1 + 1)), .slice none 0 0] 56)) q hq hr (heap_alloc_new w1 _) (box_alloc a1 _) (box_alloc a2 _) (by omega) (by omega) (by omega)
  refine ⟨w1.heap.size, G, rfl, hR, hF, fun j hj => ?_, a3.alloc a3.size _⟩
  rcases hO j hj with e | e | e <;> omega
end

/-- A row, one of whose cells is put anew. -/
theorem row_store {w : World} {base : Nat} {e : TypeId} {g cap n : Nat} {xs : List Value} (h : w.ownsRow base e 1 (.slice (some ⟨g, 0, none⟩) n cap) n xs) (i : Nat) (v : Value) : (w.setCell ⟨g, i, none⟩ v).ownsRow base e 1 (.slice (some ⟨g, 0, none⟩) n cap) n (xs.set i v) := by
  have hl := h.1
  rcases h.2 with ⟨h0, _⟩ | ⟨g', cap', cur, h1, h2, h3, h4, h5, h6, h7⟩
  · cases h0
  · cases h1
    refine ⟨by rw [List.length_set]; exact hl, .inr ⟨g, cap, cur.setIfInBounds i v, rfl, h2, box_set h3 i v, h4, h5, by simpa using h6, ?_⟩⟩
    rw [← h7, Array.toList_setIfInBounds, List.take_set]
theorem set_same {α : Type} (l : List α) (i : Nat) (v : α) (h : l[i]? = some v) : l.set i v = l := by
  obtain ⟨hi, rfl⟩ := List.getElem?_eq_some_iff.1 h
  exact List.set_getElem_self hi
theorem row_cell {w : World} {base : Nat} {e : TypeId} {g cap n : Nat} {xs : List Value} (h : w.ownsRow base e 1 (.slice (some ⟨g, 0, none⟩) n cap) n xs) (i : Nat) (v : Value) (hv : xs[i]? = some v) : w.cell? ⟨g, i, none⟩ = some v ∧ w.frozen? ⟨g, i, none⟩ = false := by
  have h1 := h.cells rfl i v hv
  rw [Addr.add_lit] at h1
  rcases h.2 with ⟨h0, _⟩ | ⟨g', cap', cur, h1', _, h3, _⟩
  · cases h0
  · cases h1'
    exact ⟨by simpa using h1, box_free h3 i⟩

theorem mem_keys {w : World} {b n : Nat} {D : DataW Nat} (hown : w.ownsMap Tryz.prog 9 ptrR b n D) (x : List UInt8) : x ∈ strKeys D ↔ Maps.has D (.string x) = true := by
  obtain ⟨es, hD, hko⟩ := hown.keysOf
  subst hD
  rw [has_eq, List.any_eq_true]
  show x ∈ es.map (fun p => strOf p.1) ↔ _
  rw [List.mem_map]
  constructor
  · rintro ⟨p, hp, rfl⟩
    obtain ⟨v, hv⟩ := hko p hp
    obtain ⟨a, _, ha, _⟩ := Maps.keyOf_str Tryz.underlying9 hv
    exact ⟨p, hp, by rw [ha]; simp [Lit.sameKey, strOf]⟩
  · rintro ⟨p, hp, hs⟩
    obtain ⟨v, hv⟩ := hko p hp
    obtain ⟨a, _, ha, _⟩ := Maps.keyOf_str Tryz.underlying9 hv
    rw [ha] at hs
    exact ⟨p, hp, by rw [ha]; simpa [Lit.sameKey, strOf] using hs⟩
theorem nodup_keys {w : World} {b n : Nat} {D : DataW Nat} (hown : w.ownsMap Tryz.prog 9 ptrR b n D) : (strKeys D).Nodup := by
  obtain ⟨es, hD, hpw⟩ := hown.tidy keyedS
  obtain ⟨es', hD', hko⟩ := hown.keysOf
  obtain rfl : es = es' := by rw [hD] at hD'; simpa using hD'
  subst hD
  show (es.map fun p => strOf p.1).Nodup
  refine List.pairwise_map.2 (hpw.imp_of_mem fun {p q} hp' hq' hne e => hne ?_)
  obtain ⟨v, hv⟩ := hko p hp'
  obtain ⟨a, _, ha, _⟩ := Maps.keyOf_str Tryz.underlying9 hv
  obtain ⟨v', hv'⟩ := hko q hq'
  obtain ⟨c, _, hc, _⟩ := Maps.keyOf_str Tryz.underlying9 hv'
  rw [ha, hc] at e ⊢
  exact congrArg _ e
theorem has_dget {D : DataW Nat} (hf : Full D) (x : List UInt8) : Maps.has D (.string x) = true ↔ dget D x ≠ none := by
  constructor
  · exact hf x
  · intro h
    cases hh : Maps.has D (.string x) with
    | true => rfl
    | false =>
      exfalso
      apply h
      unfold dget
      rw [atKey_of_not_has hh]
      rfl
theorem mem_names {w : World} {b : Nat} {G : DG} (h : Rep w b G) (x : List UInt8) : x ∈ dnames G.D ↔ dget G.D x ≠ none := by
  unfold dnames
  rw [List.mem_mergeSort, mem_keys h.now, has_dget h.fullD]
theorem nodup_names {w : World} {b : Nat} {G : DG} (h : Rep w b G) : (dnames G.D).Nodup := (List.mergeSort_perm _ _).nodup_iff.2 (nodup_keys h.now)
theorem names_length {w : World} {b : Nat} {G : DG} (h : Rep w b G) : (dnames G.D).length = Maps.size G.D := by
  unfold dnames
  rw [List.length_mergeSort]
  obtain ⟨es, e⟩ := h.now.isMap
  rw [e]
  simp [strKeys, Maps.size]
theorem names_short {w : World} {b : Nat} {G : DG} (h : Rep w b G) : ∀ x ∈ dnames G.D, x.length ≤ 40 ∧ dget G.D x ≠ none := by
  intro x hx
  have hd := (mem_names h x).1 hx
  obtain ⟨f, hf⟩ := Option.ne_none_iff_exists'.1 hd
  exact ⟨(h.knownD x f hf).2.2, hd⟩

section
set_option maxRecDepth 100000
set_option maxHeartbeats 2000000
theorem list_down {w : World} {b : Nat} {G : DG} (h : Rep w b G) (hd : G.down = true) :
    Calls Tryz.prog 21 #[.pointer (some ⟨b, 0, none⟩)] w fun e w' => e = .returned (.tuple #[.slice none 0 0, .int .i64 9]) ∧ w' = w := by
  have c2 : w.cell? ⟨b, 2, none⟩ = some (.bool G.down) := box_cell h.box 2 rfl
  rw [hd] at c2
  clear h
  go_enter Tryz.func21, Tryz.ntmps21
  go_wp2
  go_ret2
  exact ⟨rfl, rfl⟩
theorem list_up {w : World} {b : Nat} {G : DG} (h : Rep w b G) (hn : G.n < 100000) (hd : G.down = false) :
    Calls Tryz.prog 21 #[.pointer (some ⟨b, 0, none⟩)] w fun e w' => ∃ ao cp, e = .returned (.tuple #[.slice ao (dnames G.D).length cp, .int .i64 0]) ∧ w'.ownsRow w.heap.size 9 1 (.slice ao (dnames G.D).length cp) (dnames G.D).length ((dnames G.D).map encStr) ∧ RowKit.Below w.heap.size w w' := by
  have c2 : w.cell? ⟨b, 2, none⟩ = some (.bool G.down) := box_cell h.box 2 rfl
  rw [hd] at c2
  have HN := hide (names_any b G.nb G.lb G.n (.int .i64 G.room) (.int .i64 G.fuse) (.bool G.down) (.slice G.so G.X.length G.sc) G.D w h.box h.now (by omega))
  have HS := hide (names_short h)
  have hsz : (dnames G.D).length < 100000 := by rw [names_length h]; have := h.now.size_le; omega
  clear h
  generalize dnames G.D = ss at *
  go_enter Tryz.func21, Tryz.ntmps21
  go_wp2_with (go_at_call 28; refine HN.out.mono ?_; rintro e w1 ⟨ao, cp, rfl, h1, h2⟩)
  have H1 := hide h1
  have H2 := hide h2
  clear h1 h2
  go_loopw [17] (fun iv wv => ∃ i : Nat, iv = .int .i64 i ∧ i ≤ ss.length ∧ Hid (wv.ownsRow w.heap.size 9 1 (.slice ao ss.length cp) ss.length (ss.map encStr)) ∧ Hid (RowKit.Below w.heap.size w wv)) (fun iv _ => ss.length - (intOf iv).toNat)
  case atStart => exact ⟨0, rfl, Nat.zero_le _, H1, H2⟩
  case round =>
    clear H1 H2
    obtain ⟨i, rfl, hi, H1, H2⟩ := hrel
    by_cases hlt : i < ss.length
    · obtain ⟨g, cap, hform, hgb, hgl⟩ := H1.out.form (by omega)
      obtain ⟨rfl, rfl⟩ : ao = some ⟨g, 0, none⟩ ∧ cp = cap := by cases hform; exact ⟨rfl, rfl⟩
      clear hform
      have hat : (ss.map encStr)[i]? = some (.string ⟨ss[i].toArray⟩) := by rw [List.getElem?_map, List.getElem?_eq_getElem hlt]; rfl
      obtain ⟨r0, f0⟩ := row_cell H1.out i _ hat
      have hshort := (HS.out ss[i] (List.getElem_mem hlt)).1
      have hsz2 : (⟨ss[i].toArray⟩ : ByteArray).size ≤ 40 := by show ss[i].toArray.size ≤ 40; rw [List.size_toArray]; exact hshort
      have HC := hide (fun w => clone_any ⟨ss[i].toArray⟩ w (by omega))
      have HAT := hide hat
      have hi0 : (0 : Int) ≤ (i : Int) := by omega
      have hi1 : (i : Int) < (ss.length : Int) := by omega
      clear hat hshort hsz2
      obtain ⟨s, hs⟩ : ∃ s : ByteArray, (⟨ss[i].toArray⟩ : ByteArray) = s := ⟨_, rfl⟩
      rw [hs] at r0 HC HAT
      clear hs
      go_wp2_with (go_at_call 59; refine (HC.out _).mono ?_; rintro e w2 ⟨rfl, bb⟩; have B2 := hide bb; clear bb; obtain ⟨r1, f1⟩ := row_cell (below_row B2.out H1.out) i _ HAT.out)
      go_roundw
      case rel =>
        refine ⟨i + 1, by go_num, by omega, ?_, (H2.out.trans (B2.out.mono H2.out.size)).setCell (p := ⟨g, i, none⟩) hgb _⟩
        have h3 := row_store (below_row B2.out H1.out) i (.string s)
        rw [set_same _ _ _ HAT.out] at h3
        exact h3
      case measure => simp [intOf]; omega
    · go_wp2
      go_ret2
      exact ⟨ao, cp, rfl, H1.out, H2.out⟩
end

end Go.Proofs.YtknldpaaikcedaaGreat
