/-
  linksOf and New of the net.
-/
import Derived.Test.YtjmfimllaejpnaaN3
namespace Go.Proofs.Ytjmfimllaejpnaa
open Go.RowKit Go.Maps

theorem owns_more {H : Type} {P : Program} {k : TypeId} {R : Value → Option (DataW H × List MemPlace)} {w : World} {b n m : Nat} {D : DataW H} (h : w.ownsMap P k R b n D) (hm : n ≤ m) : w.ownsMap P k R b m D := by
  obtain ⟨es, clock, h1, h2, h3, h4⟩ := h
  exact ⟨es, clock, h1, h2, Nat.le_trans h3 hm, h4⟩
/-- The links that are made ahead of the pair i, j. -/
def done (n i j : Nat) (x y : Int) : Prop := isLink n x y ∧ (x < i ∨ (x = i ∧ y < j))
instance (n i j : Nat) (x y : Int) : Decidable (done n i j x y) := by unfold done; infer_instance
structure Made (w0 w : World) (n i j mb : Nat) (D : DataW Nat) (blk : Nat → Nat → Nat) (role : Nat → Nat) : Prop where
  map : w.ownsMap Try.prog 50 ptrR mb (7 * i + j) D
  look : ∀ x y : Int, In64 x → In64 y → lk D x y = if done n i j x y then some (blk x.toNat y.toNat) else none
  full : ∀ x y : Int, In64 x → In64 y → Maps.has D (kl x y) = true → lk D x y ≠ none
  lbox : ∀ x y : Nat, done n i j x y → w.heap[blk x y]? = some (.cells #[.slice none 0 0] 56 (0, 0))
  roleM : role mb = 2
  roleL : ∀ x y : Nat, done n i j x y → role (blk x y) = lrole x y
  role0 : ∀ j, role j ≠ 0 → w0.heap.size ≤ j ∧ j < w.heap.size
  below : Below w0.heap.size w0 w
theorem made_start (w0 : World) (n : Nat) : Made w0 (w0.alloc (.map #[] 0)) n 0 0 w0.heap.size (.map []) (fun _ _ => 0) (fun j => if j = w0.heap.size then 2 else 0) := by
  have hd : ∀ x y : Int, ¬ done n 0 0 x y := fun x y hh => by
    obtain ⟨⟨h0, _, h2, _⟩, h⟩ := hh
    omega
  refine ⟨⟨#[], 0, heap_alloc_new w0 _, ⟨by simp, Go.MapKept.stamped_empty 0, by simp⟩, Nat.le_refl _, rfl⟩, fun x y _ _ => ?_, (fun x y _ _ hh => by cases hh), fun x y hh => absurd hh (hd _ _), if_pos rfl, fun x y hh => absurd hh (hd _ _), fun j hj => ?_, (Below.refl _ w0).alloc (Nat.le_refl _) _⟩
  · rw [if_neg (hd x y)]; rfl
  · have : j = w0.heap.size := by
      by_cases e : j = w0.heap.size
      · exact e
      · exact absurd (if_neg e) hj
    rw [this]
    simp
theorem made_skip {w0 w : World} {n i mb : Nat} {D : DataW Nat} {blk : Nat → Nat → Nat} {role : Nat → Nat} (h : Made w0 w n i i mb D blk role) : Made w0 w n i (i + 1) mb D blk role := by
  have hd : ∀ x y : Int, done n i (i + 1) x y ↔ done n i i x y := fun x y => by
    unfold done isLink
    constructor
    · rintro ⟨h1, h2⟩
      exact ⟨h1, by omega⟩
    · rintro ⟨h1, h2⟩
      exact ⟨h1, by omega⟩
  refine ⟨owns_more h.map (by omega), fun x y hx hy => ?_, h.full, fun x y hh => h.lbox x y ((hd _ _).1 hh), h.roleM, fun x y hh => h.roleL x y ((hd _ _).1 hh), h.role0, h.below⟩
  rw [h.look x y hx hy]
  by_cases e : done n i i x y
  · rw [if_pos e, if_pos ((hd _ _).2 e)]
  · rw [if_neg e, if_neg (fun hh => e ((hd _ _).1 hh))]
theorem made_row {w0 w : World} {n i mb : Nat} {D : DataW Nat} {blk : Nat → Nat → Nat} {role : Nat → Nat} (hn : n ≤ 7) (h : Made w0 w n i n mb D blk role) : Made w0 w n (i + 1) 0 mb D blk role := by
  have hd : ∀ x y : Int, done n (i + 1) 0 x y ↔ done n i n x y := fun x y => by
    unfold done isLink
    constructor
    · rintro ⟨h1, h2⟩
      exact ⟨h1, by omega⟩
    · rintro ⟨h1, h2⟩
      exact ⟨h1, by omega⟩
  refine ⟨owns_more h.map (by omega), fun x y hx hy => ?_, h.full, fun x y hh => h.lbox x y ((hd _ _).1 hh), h.roleM, fun x y hh => h.roleL x y ((hd _ _).1 hh), h.role0, h.below⟩
  rw [h.look x y hx hy]
  by_cases e : done n i n x y
  · rw [if_pos e, if_pos ((hd _ _).2 e)]
  · rw [if_neg e, if_neg (fun hh => e ((hd _ _).1 hh))]
theorem full_put {D : DataW Nat} (hD : IsMap D) (h : ∀ x y : Int, In64 x → In64 y → Maps.has D (kl x y) = true → lk D x y ≠ none) (a b : Int) (f : Nat) : ∀ x y : Int, In64 x → In64 y → Maps.has (lput D a b f) (kl x y) = true → lk (lput D a b f) x y ≠ none := by
  intro x y hx hy hk
  by_cases e : kl x y = kl a b
  · have e2 : lk (lput D a b f) x y = lk (lput D a b f) a b := by unfold lk; rw [e]
    rw [e2, lk_put_same hD]
    simp
  · rw [lk_put_other D e]
    refine h x y hx hy ?_
    unfold lput at hk
    rwa [has_put_other (fun h => e (by first | exact h | exact h.symm))] at hk
theorem made_put {w0 w w2 : World} {n i j mb : Nat} {D : DataW Nat} {blk : Nat → Nat → Nat} {role : Nat → Nat} (hn : n ≤ 7) (hi : i < n) (hj : j < n) (hij : i ≠ j) (h : Made w0 w n i j mb D blk role)
    (h1 : w2.ownsMap Try.prog 50 ptrR mb (7 * i + j + 1) (lput D i j w.heap.size)) (h2 : (w.alloc (.cells #[.slice none 0 0] 56)).grownBy w2 (some mb)) :
    Made w0 w2 n i (j + 1) mb (lput D i j w.heap.size) (fun x y => if x = i ∧ y = j then w.heap.size else blk x y) (fun k => if k = w.heap.size then lrole i j else role k) := by
  have I1 : In64 (i : Int) := ⟨by omega, by omega⟩
  have J1 : In64 (j : Int) := ⟨by omega, by omega⟩
  have hmb : mb < w.heap.size := (h.role0 mb (by rw [h.roleM]; omega)).2
  have hmb0 : w0.heap.size ≤ mb := (h.role0 mb (by rw [h.roleM]; omega)).1
  have hd : ∀ x y : Int, done n i (j + 1) x y ↔ done n i j x y ∨ (x = i ∧ y = j) := fun x y => by
    unfold done isLink
    constructor
    · rintro ⟨h1, h2⟩
      by_cases e : x = i ∧ y = j
      · exact .inr e
      · exact .inl ⟨h1, by omega⟩
    · rintro (⟨h1, h2⟩ | ⟨rfl, rfl⟩)
      · exact ⟨h1, by omega⟩
      · exact ⟨⟨by omega, by omega, by omega, by omega, by omega⟩, by omega⟩
  have nd : ¬ done n i j (i : Int) (j : Int) := fun hh => by
    obtain ⟨_, hh⟩ := hh
    omega
  have blt : ∀ x y : Nat, done n i j x y → blk x y < w.heap.size := fun x y hh => heap_lt (h.lbox x y hh)
  have nat : ∀ x y : Nat, done n i (j + 1) x y → done n i j x y ∧ ¬ (x = i ∧ y = j) ∨ (x = i ∧ y = j) := fun x y hh => by
    rcases (hd _ _).1 hh with e | ⟨e1, e2⟩
    · by_cases e' : x = i ∧ y = j
      · exact .inr e'
      · exact .inl ⟨e, e'⟩
    · exact .inr ⟨by omega, by omega⟩
  refine ⟨h1, fun x y hx hy => ?_, full_put h.map.isMap h.full i j _, fun x y hh => ?_, ?_, fun x y hh => ?_, fun k hk => ?_, ?_⟩
  · by_cases e : x = i ∧ y = j
    · obtain ⟨rfl, rfl⟩ := e
      rw [lk_put_same h.map.isMap, if_pos ((hd _ _).2 (.inr ⟨rfl, rfl⟩))]
      simp
    · have hne : kl x y ≠ kl i j := fun hh => e (kl_inj hx hy I1 J1 hh)
      rw [lk_put_other D hne, h.look x y hx hy]
      by_cases e' : done n i j x y
      · rw [if_pos e', if_pos ((hd _ _).2 (.inl e'))]
        have h0 := e'.1.1
        have h0' := e'.1.2.2.1
        have : ¬ (x.toNat = i ∧ y.toNat = j) := fun hh => e ⟨by omega, by omega⟩
        simp only [if_neg this]
      · rw [if_neg e', if_neg (fun hh => by
          rcases (hd _ _).1 hh with h' | h'
          · exact e' h'
          · exact e h')]
  · show w2.heap[if x = i ∧ y = j then w.heap.size else blk x y]? = _
    rcases nat x y hh with ⟨e, e'⟩ | e
    · rw [if_neg e']
      refine grown_at h2 (box_alloc (h.lbox x y e) _) (fun hh => ?_)
      have := h.roleL x y e
      rw [← Option.some.inj hh, h.roleM] at this
      unfold lrole at this
      omega
    · rw [if_pos e]
      exact grown_at h2 (heap_alloc_new w _) (fun hh => by have := Option.some.inj hh; omega)
  · show (if mb = w.heap.size then lrole i j else role mb) = 2
    rw [if_neg (by omega)]
    exact h.roleM
  · show (if (if x = i ∧ y = j then w.heap.size else blk x y) = w.heap.size then lrole i j else role (if x = i ∧ y = j then w.heap.size else blk x y)) = lrole x y
    rcases nat x y hh with ⟨e, e'⟩ | e
    · rw [if_neg e', if_neg (Nat.ne_of_lt (blt x y e))]
      exact h.roleL x y e
    · rw [if_pos e, if_pos rfl, e.1, e.2]
  · have hk' : (if k = w.heap.size then lrole i j else role k) ≠ 0 := hk
    have hs2 : w.heap.size + 1 ≤ w2.heap.size := by simpa using h2.size
    by_cases e : k = w.heap.size
    · have := h.below.size
      exact ⟨by omega, by omega⟩
    · rw [if_neg e] at hk'
      have := h.role0 k hk'
      exact ⟨this.1, by omega⟩
  · have T := ((Touch.of_below (own := fun k => k = mb) h.below).alloc (.cells #[.slice none 0 0] 56)).grown h2 (fun k e hk => (Option.some.inj e).symm)
    exact T.toBelow (Nat.le_refl _) fun k hk e => by omega

set_option maxRecDepth 100000
set_option maxHeartbeats 2000000
theorem linksOf_any (n : Nat) (hn : n ≤ 7) (w : World) : Calls Try.prog 25 #[.int .i64 n] w fun e w' => ∃ mb D blk role, e = .returned (.map (some mb)) ∧ Made w w' n n 0 mb D blk role := by
  have hmm := @run_makeMap Try.prog
  go_enter Try.func25, Try.ntmps25
  go_wp2
  go_loopw [8] (fun iv wv => ∃ i : Nat, iv = .int .i64 i ∧ i ≤ n ∧ Hid (∃ D blk role, Made w wv n i 0 w.heap.size D blk role)) (fun iv _ => n - (intOf iv).toNat)
  case atStart => exact ⟨0, rfl, Nat.zero_le _, ⟨_, _, _, made_start w n⟩⟩
  case round =>
    obtain ⟨i, rfl, hi, H1⟩ := hrel
    by_cases hlt : i < n
    · have hi1 : (i : Int) < (n : Int) := by omega
      go_wp2
      go_loopw [12] (fun jv wv => ∃ j : Nat, jv = .int .i64 j ∧ j ≤ n ∧ Hid (∃ D blk role, Made w wv n i j w.heap.size D blk role)) (fun jv _ => n - (intOf jv).toNat)
      case atStart => exact ⟨0, rfl, Nat.zero_le _, H1⟩
      case round =>
        clear H1
        obtain ⟨j, rfl, hj, H1⟩ := hrel
        by_cases hjl : j < n
        · have hj1 : (j : Int) < (n : Int) := by omega
          by_cases hij : i = j
          · subst hij
            go_wp2
            go_roundw
            case rel =>
              obtain ⟨D, blk, role, hm⟩ := H1.out
              exact ⟨i + 1, by go_num, by omega, ⟨D, blk, role, made_skip hm⟩⟩
            case measure => simp [intOf]; omega
          · have hij1 : ((i : Int) == (j : Int)) = false := by simp; omega
            have hij2 : ¬ (i : Int) = (j : Int) := by omega
            obtain ⟨D, blk, role, hm⟩ := H1.out
            have HM := hide hm
            have HO := hide (hm.map)
            have HK := hide (key_mk (a := i) (b := j) ⟨by omega, by omega⟩ ⟨by omega, by omega⟩)
            clear hm H1
            go_wp2_with (first
              | (at_mapUpdate; refine wpList_mapUpdate_in _ rfl _ _ _ 41 rfl 50 48 keyedE Try.underlying41 ptrR w.heap.size (7 * i + j) D rfl (HO.out.alloc _) (by unfold maxLen; omega) _ _ _ rfl rfl HK.out _ [] (ptrR_some wr.heap.size) ?_; intro w1 h1 h2)
              | go_in)
            go_roundw
            case rel => exact ⟨j + 1, by go_num, by omega, ⟨_, _, _, made_put hn hlt hjl hij HM.out h1 h2.grown⟩⟩
            case measure => simp [intOf]; omega
        · obtain rfl : j = n := by omega
          go_wp2
          go_roundw
          case rel =>
            obtain ⟨D, blk, role, hm⟩ := H1.out
            exact ⟨i + 1, by go_num, by omega, ⟨D, blk, role, made_row hn hm⟩⟩
          case measure => simp [intOf]; omega
    · obtain rfl : i = n := by omega
      go_wp2
      go_ret
      obtain ⟨D, blk, role, hm⟩ := H1.out
      exact ⟨_, D, blk, role, rfl, hm⟩

end Go.Proofs.Ytjmfimllaejpnaa
