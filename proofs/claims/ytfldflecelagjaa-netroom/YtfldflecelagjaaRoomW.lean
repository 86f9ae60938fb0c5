/-
  NetRoom as it runs.
-/
import Derived.Test.YtfldflecelagjaaO2
namespace Go.Proofs.Ytfldflecelagjaa
open Go.RowKit Go.Maps

/-- How many messages each link has, at 7 * a + c. -/
def cntL (N : Nat) (q : Qs) : List Value := (List.range 49).map fun k => Value.int .i64 (lenQ N q ((k / 7 : Nat) : Int) ((k % 7 : Nat) : Int))
theorem cntL_at (N : Nat) (q : Qs) (a c : Nat) (ha : a < 7) (hc : c < 7) : (cntL N q)[7 * a + c]? = some (.int .i64 (lenQ N q a c)) := by
  unfold cntL
  rw [List.getElem?_map, List.getElem?_range (by omega), Option.map_some]
  rw [show (7 * a + c) / 7 = a by omega, show (7 * a + c) % 7 = c by omega]
theorem lenQ_more (N : Nat) (q : Qs) (a c : Nat) (s : ByteArray) (hl : isLink N (a : Int) (c : Int)) (x y : Nat) : lenQ N (moreQ q a c s) x y = if x = a ∧ y = c then lenQ N q a c + 1 else lenQ N q x y := by
  unfold lenQ moreQ setQ
  by_cases e : x = a ∧ y = c
  · obtain ⟨rfl, rfl⟩ := e
    simp [hl]
  · rw [if_neg e]
    by_cases h : isLink N (x : Int) (y : Int)
    · rw [if_pos h, if_pos h]
      simp [e]
    · rw [if_neg h, if_neg h]
theorem cntL_set (N : Nat) (q : Qs) (a c : Nat) (s : ByteArray) (ha : a < 7) (hc : c < 7) (hl : isLink N (a : Int) (c : Int)) : (cntL N q).set (7 * a + c) (.int .i64 ((lenQ N q a c : Int) + 1)) = cntL N (moreQ q a c s) := by
  apply List.ext_getElem?
  intro k
  unfold cntL
  rw [List.getElem?_set]
  by_cases e : 7 * a + c = k
  · subst e
    rw [if_pos rfl, if_pos (by simp; omega), List.getElem?_map, List.getElem?_range (by omega), Option.map_some]
    rw [show (7 * a + c) / 7 = a by omega, show (7 * a + c) % 7 = c by omega, lenQ_more N q a c s hl, if_pos ⟨rfl, rfl⟩]
    rfl
  · rw [if_neg e, List.getElem?_map, List.getElem?_map]
    by_cases hk : k < 49
    · rw [List.getElem?_range hk, Option.map_some, Option.map_some, lenQ_more N q a c s hl, if_neg (fun h => e (by omega))]
    · rw [List.getElem?_eq_none (by simp; omega)]
      rfl
theorem cntL_zero (N : Nat) : cntL N q0 = List.replicate 49 (.int .i64 0) := by
  unfold cntL
  have e : (fun k : Nat => Value.int .i64 (lenQ N q0 ((k / 7 : Nat) : Int) ((k % 7 : Nat) : Int))) = fun _ => Value.int .i64 0 := by
    funext k
    have h : lenQ N q0 ((k / 7 : Nat) : Int) ((k % 7 : Nat) : Int) = 0 := by unfold lenQ; split <;> rfl
    rw [h]
    rfl
  rw [e]
  rfl
theorem lenQ_clear (N : Nat) (q : Qs) (node : Int) (a c : Nat) : lenQ N (clearAll N q node) a c = if (a : Int) = node ∨ (c : Int) = node then 0 else lenQ N q a c := by
  unfold lenQ clearAll clearQ
  by_cases h : isLink N (a : Int) (c : Int)
  · rw [if_pos h, if_pos h]
    by_cases e : (a : Int) = node ∨ (c : Int) = node
    · simp [e, h]
    · simp [e]
  · rw [if_neg h, if_neg h]
    simp
def zeros49 : Array Value := (List.replicate 49 (Value.int .i64 0)).toArray
theorem makeSent (w : World) : (Instr.makeSlice 44 (.int .i64 49) (.int .i64 49)).run Try.prog w = .ok (.slice (some ⟨w.heap.size, 0, none⟩) 49 49) (w.alloc (.cells zeros49 3)) := by kernel_rfl
/-- The loop's relation. -/
def RoomR (W : World) (g b N : Nat) (q : Qs) (wv : World) : Prop := Nt (fun j => j < W.heap.size ∨ j = g) wv b N 0 q ∧ wv.heap[g]? = some (.cells (cntL N q).toArray 3 (0, 0)) ∧ Below W.heap.size W wv ∧ W.heap.size ≤ g
theorem room_start {W w1 : World} {b N : Nat} (h : Net W.heap.size w1 b N 0 q0) (hb : Below W.heap.size W w1) : RoomR W w1.heap.size b N q0 (w1.alloc (.cells zeros49 3)) := by
  refine ⟨h.nt.move (own := fun _ => False) ((Touch.refl _ w1).alloc _) (fun _ _ e => e.elim) (fun j e => e.elim (fun h => .inl h) (fun h => .inr (by omega))), ?_, hb.alloc hb.size _, hb.size⟩
  rw [cntL_zero]
  exact heap_alloc_new w1 _
theorem room_far {W : World} {g b N : Nat} {q : Qs} {wv : World} (h : RoomR W g b N q wv) : ∀ j, (j < W.heap.size ∨ j = g) → j < wv.heap.size := fun j e => by
  have h1 := heap_lt h.2.1
  have h2 := h.2.2.1.size
  rcases e with e | e <;> omega
theorem room_same {W : World} {g b N : Nat} {q : Qs} {wv w' : World} (h : RoomR W g b N q wv) (ht : Touch (fun j => ¬ (j < W.heap.size ∨ j = g)) wv w') : w'.heap[g]? = some (.cells (cntL N q).toArray 3 (0, 0)) ∧ Below W.heap.size W w' := by
  refine ⟨ht.at h.2.1 (fun e => e (.inr rfl)), h.2.2.1.trans (ht.toBelow h.2.2.1.size fun k hk e => e (.inl hk))⟩
theorem room_next {W : World} {g b N : Nat} {q : Qs} {wv w' : World} {A C : Nat} {s : ByteArray} (hA : A < 7) (hC : C < 7) (hl : isLink N (A : Int) (C : Int)) (h : RoomR W g b N q wv) (hn : Nt (fun j => j < W.heap.size ∨ j = g) w' b N 0 (moreQ q A C s)) (ht : Touch (fun j => ¬ (j < W.heap.size ∨ j = g)) wv w') :
    RoomR W g b N (moreQ q A C s) (w'.setCell ⟨g, 7 * A + C, none⟩ (.int .i64 ((lenQ N q A C : Int) + 1))) := by
  obtain ⟨h1, h2⟩ := room_same h ht
  have T : Touch (fun j => j = g) w' (w'.setCell ⟨g, 7 * A + C, none⟩ (.int .i64 ((lenQ N q A C : Int) + 1))) := (Touch.refl _ w').setCell _ _ fun _ => rfl
  refine ⟨hn.move T (fun j _ e => .inr e) (fun j e => .inl e), ?_, h2.trans (T.toBelow h2.size fun k hk e => by have := h.2.2.2; omega), h.2.2.2⟩
  have h3 := box_set h1 (7 * A + C) (.int .i64 ((lenQ N q A C : Int) + 1))
  rw [h3, ← cntL_set N q A C s hA hC hl]
  congr 2
  apply Array.ext'
  simp
theorem room_stay {W : World} {g b N : Nat} {q : Qs} {wv w' : World} (h : RoomR W g b N q wv) (hn : Nt (fun j => j < W.heap.size ∨ j = g) w' b N 0 q) (ht : Touch (fun j => ¬ (j < W.heap.size ∨ j = g)) wv w') : RoomR W g b N q w' :=
  ⟨hn, (room_same h ht).1, (room_same h ht).2, h.2.2.2⟩
theorem room_cell {w : World} {g N : Nat} {q : Qs} (h : w.heap[g]? = some (.cells (cntL N q).toArray 3 (0, 0))) {a c : Nat} (ha : a < 7) (hc : c < 7) : w.cell? ⟨g, 7 * a + c, none⟩ = some (.int .i64 (lenQ N q a c)) ∧ w.frozen? ⟨g, 7 * a + c, none⟩ = false :=
  ⟨box_cell h (7 * a + c) (by rw [List.getElem?_toArray]; exact cntL_at N q a c ha hc), box_free h _⟩
set_option maxRecDepth 100000
set_option maxHeartbeats 4000000
theorem room_walk (n0 : Int) (ao : Option Addr) (cp : Nat) (l : List Dd) (nd : Int) (w : World) (hn : In64 n0) (hcm : Deeds w ao l) (hnd : In64 nd) :
    Calls Try.prog 6 #[.int .i64 n0, .slice ao l.length cp, .int .i64 nd] w fun e w' => e = .returned (.bool true) ∧ Below w.heap.size w w' := by
  have HE := hide (examples_any w)
  have HNI := hide hn
  have HDI := hide hnd
  have HCM := hide hcm
  have hlen := hcm.len
  have hr6 := pickZ_range n0 6 (by omega)
  obtain ⟨m, hm⟩ : ∃ m : Nat, pickZ n0 6 = m := ⟨(pickZ n0 6).toNat, by omega⟩
  have HM := hide hm
  rw [hm] at hr6
  have hm6 : (m : Int) < 6 := hr6.2
  have hm0 : (0 : Int) ≤ (m : Int) := by omega
  clear hr6
  clear hm hn hnd hcm
  go_enter Try.func6, Try.ntmps6
  go_wp2_with fail
  refine HE.out.mono ?_
  rintro e w0 ⟨rfl, be⟩
  have BE := hide be
  clear be HE
  go_wp2_with fail
  refine (pick_any n0 6 w0 HNI.out (by omega)).mono ?_
  rw [HM.out]
  rintro e wx ⟨rfl, rfl⟩
  clear HM HNI
  go_wp2_with fail
  obtain ⟨N, hN⟩ : ∃ N : Nat, (2 : Int) + (m : Int) = N := ⟨2 + m, by omega⟩
  rw [hN]
  have hN2 : N ≤ 7 := by omega
  have hN3 : 2 ≤ N := by omega
  clear hN hm6 hm0
  have ra := pickZ_range nd N (by omega)
  refine (pick_any nd N wx HDI.out (by omega)).mono ?_
  obtain ⟨A, hA⟩ : ∃ A : Nat, pickZ nd N = A := ⟨(pickZ nd N).toNat, by omega⟩
  rw [hA] at ra ⊢
  clear hA HDI
  rintro e wy ⟨rfl, rfl⟩
  have hA1 : A < N := by omega
  clear ra
  go_wp2_with fail
  refine (Net.new N _ (by omega)).mono ?_
  rintro e w1 ⟨b, rfl, n1, b1⟩
  have N1 : Hid (Net _ w1 b N 0 q0) := n1
  have B1 := hide b1
  clear n1 b1
  have hmk := makeSent
  go_wp2
  have R0 := hide (room_start N1.out B1.out)
  have BW := hide BE.out
  clear N1 B1 hmk BE
  generalize hgz : w1.heap.size = g at R0 ⊢
  clear hgz
  generalize w1.alloc (.cells zeros49 3) = w2 at R0 ⊢
  go_loopw [11] (fun iv wv => ∃ (i : Nat) (q : Qs), iv = .int .i64 i ∧ i ≤ 200 ∧ Hid (RoomR _ g b N q wv)) (fun iv _ => 200 - (intOf iv).toNat)
  case atStart => exact ⟨0, q0, rfl, Nat.zero_le _, R0⟩
  case round =>
    clear R0
    obtain ⟨i, q, rfl, hi, R⟩ := hrel
    by_cases hlt : i < l.length ∧ i < 200
    · obtain ⟨hl1, hl2⟩ := hlt
      have hdd := HCM.out.all.below (BW.out.trans (R.out.2.2.1.mono BW.out.size)) i hl1
      have hok := HCM.out.ok l[i] (List.getElem_mem hl1)
      obtain ⟨kb, off, rfl, hkb, d0, d1, d2, d3, d4⟩ := hdd
      have ra := pickZ_range l[i].a N (by omega)
      have rc := pickZ_range l[i].c N (by omega)
      have HP1 := hide (fun w => pick_any l[i].a N w hok.a (by omega))
      have HP2 := hide (fun w => pick_any l[i].c N w hok.c (by omega))
      have HOS := hide hok.s
      obtain ⟨P, hP⟩ : ∃ P : Nat, pickZ l[i].a N = P := ⟨(pickZ l[i].a N).toNat, by omega⟩
      obtain ⟨C, hC⟩ : ∃ C : Nat, pickZ l[i].c N = C := ⟨(pickZ l[i].c N).toNat, by omega⟩
      rw [hP] at HP1 ra
      rw [hC] at HP2 rc
      have hP1 : P < N := by omega
      have hC1 : C < N := by omega
      have hP7 : (P : Int) < 7 := by omega
      have hC7 : (C : Int) < 7 := by omega
      clear hP hC ra rc hok
      have IP : Hid (In64 P) := ⟨by omega, by omega⟩
      have IC : Hid (In64 C) := ⟨by omega, by omega⟩
      have HS := hide (R.out.1.send (room_far R.out) IP.out IC.out l[i].s (by have := HOS.out; omega))
      have hi0 : (0 : Int) ≤ (i : Int) := by omega
      have hi1 : (i : Int) < (l.length : Int) := by omega
      have hi2 : (i : Int) < 200 := by omega
      generalize l[i].a = va at *
      generalize l[i].c = vc at *
      generalize l[i].s = vs at *
      generalize l[i].kind = vk at *
      generalize l[i].i = vi at *
      go_wp2_with fail
      refine (HP1.out _).mono ?_
      rintro e wp ⟨rfl, rfl⟩
      go_wp2_with fail
      refine (HP2.out _).mono ?_
      rintro e wp ⟨rfl, rfl⟩
      go_wp2_with fail
      refine HS.out.mono ?_
      rintro e w3 ⟨rfl, n3, t3⟩
      have T3 := hide t3
      obtain ⟨c0, f0⟩ := room_cell (room_same R.out T3.out).1 (a := P) (c := C) (by omega) (by omega)
      have hle := R.out.1.few P C
      obtain ⟨K, hKe⟩ : ∃ K : Nat, 7 * P + C = K := ⟨_, rfl⟩
      have hK : 7 * (P : Int) + (C : Int) = (K : Int) := by omega
      have hK0 : (K : Int) < 49 := by omega
      have HKE := hide hKe
      rw [hKe] at c0 f0
      clear t3 hKe d0 d1 d2 d3 d4 HS
      by_cases hr : roomQ N q P C
      · rw [if_pos hr] at n3
        rw [decide_eq_true hr]
        have N3 := hide n3
        have HL := hide hr.1
        have hne : P ≠ C := (link_ne hP1 hC1).1 hr.1
        have hl64 : (lenQ N q P C : Int) < 64 := by have := hr.2; omega
        have hne2 : ((P : Int) != (C : Int)) = true := by simp; omega
        have hl65 : decide ((lenQ N q P C : Int) < 64) = true := by simpa using hl64
        have HR2 := hide (room_next (by omega) (by omega) HL.out R.out N3.out T3.out)
        rw [HKE.out] at HR2
        clear n3 hr N3 HL hle
        generalize lenQ N q P C = L at *
        have hL0 : (0 : Int) ≤ (L : Int) := by omega
        go_wp2
        go_roundw
        case rel => exact ⟨i + 1, _, by go_num, by omega, HR2⟩
        case measure => simp [intOf]; omega
      · rw [if_neg hr] at n3
        rw [decide_eq_false hr]
        have N3 := hide n3
        have HR2 := hide (room_stay R.out N3.out T3.out)
        by_cases hne : P = C
        · have hne2 : ((P : Int) != (C : Int)) = false := by simp; omega
          clear n3 hr N3 hle
          generalize lenQ N q P C = L at *
          go_wp2
          go_roundw
          case rel => exact ⟨i + 1, q, by go_num, by omega, HR2⟩
          case measure => simp [intOf]; omega
        · have hne2 : ((P : Int) != (C : Int)) = true := by simp; omega
          have hl64 : ¬ (lenQ N q P C : Int) < 64 := fun h => hr ⟨(link_ne hP1 hC1).2 hne, by omega⟩
          have hl65 : decide ((lenQ N q P C : Int) < 64) = false := by simpa using hl64
          clear n3 hr N3 hle
          generalize lenQ N q P C = L at *
          go_wp2
          go_roundw
          case rel => exact ⟨i + 1, q, by go_num, by omega, HR2⟩
          case measure => simp [intOf]; omega
    · have HCL := hide (R.out.1.clear (room_far R.out) (A : Int))
      by_cases hl1 : i < l.length
      · have hi1 : (i : Int) < (l.length : Int) := by omega
        have hi2 : ¬ (i : Int) < 200 := by omega
        go_wp2_with fail
        refine HCL.out.mono ?_
        rintro e w3 ⟨rfl, n3, t3⟩
        have N3 := hide n3
        have C3 := hide (room_same R.out t3).1
        have B3 := hide (BW.out.trans ((room_same R.out t3).2.mono BW.out.size))
        clear n3 t3 HCL R
        go_wp2
        go_loopw [15] (fun av wv => ∃ a : Nat, av = .int .i64 a ∧ a ≤ N ∧ wv = w3) (fun av _ => N - (intOf av).toNat)
        case atStart => exact ⟨0, rfl, Nat.zero_le _, rfl⟩
        case round =>
          obtain ⟨a, rfl, ha, hw⟩ := hrel
          obtain rfl := hw.symm
          by_cases hal : a < N
          · have ha1 : (a : Int) < (N : Int) := by omega
            have ha7 : (a : Int) < 7 := by omega
            go_wp2
            go_loopw [16] (fun cv wv => ∃ c : Nat, cv = .int .i64 c ∧ c ≤ N ∧ wv = w3) (fun cv _ => N - (intOf cv).toNat)
            case atStart => exact ⟨0, rfl, Nat.zero_le _, rfl⟩
            case round =>
              obtain ⟨c, rfl, hc, hw⟩ := hrel
              obtain rfl := hw.symm
              by_cases hcl : c < N
              · have hc1 : (c : Int) < (N : Int) := by omega
                have hc7 : (c : Int) < 7 := by omega
                obtain ⟨c0, f0⟩ := room_cell C3.out (a := a) (c := c) (by omega) (by omega)
                obtain ⟨K, hKe⟩ : ∃ K : Nat, 7 * a + c = K := ⟨_, rfl⟩
                have hK : 7 * (a : Int) + (c : Int) = (K : Int) := by omega
                have hK0 : (K : Int) < 49 := by omega
                rw [hKe] at c0 f0
                have HLN := hide (N3.out.len (x := a) (y := c) ⟨by omega, by omega⟩ ⟨by omega, by omega⟩)
                rw [lenQ_clear] at HLN
                clear hKe f0
                by_cases e1 : (a : Int) = (A : Int)
                · rw [if_pos (.inl e1)] at HLN
                  have e1' : ((a : Int) == (A : Int)) = true := by simpa using e1
                  have HE1 := hide e1
                  clear e1
                  go_wp2_with (go_at_call 26; refine HLN.out.mono ?_; rintro e wl ⟨rfl, rfl⟩)
                  go_roundw
                  case rel => exact ⟨c + 1, by go_num, by omega, trivial⟩
                  case measure => simp [intOf]; omega
                · have e1' : ((a : Int) == (A : Int)) = false := by simpa using e1
                  by_cases e2 : (c : Int) = (A : Int)
                  · rw [if_pos (.inr e2)] at HLN
                    have e2' : ((c : Int) == (A : Int)) = true := by simpa using e2
                    have HE1 := hide e1
                    have HE2 := hide e2
                    clear e1 e2
                    go_wp2_with (go_at_call 26; refine HLN.out.mono ?_; rintro e wl ⟨rfl, rfl⟩)
                    go_roundw
                    case rel => exact ⟨c + 1, by go_num, by omega, trivial⟩
                    case measure => simp [intOf]; omega
                  · rw [if_neg (fun h => h.elim e1 e2)] at HLN
                    have e2' : ((c : Int) == (A : Int)) = false := by simpa using e2
                    have HE1 := hide e1
                    have HE2 := hide e2
                    clear e1 e2
                    go_wp2_with (go_at_call 26; refine HLN.out.mono ?_; rintro e wl ⟨rfl, rfl⟩)
                    go_roundw
                    case rel => exact ⟨c + 1, by go_num, by omega, trivial⟩
                    case measure => simp [intOf]; omega
              · have hc1 : ¬ (c : Int) < (N : Int) := by omega
                go_wp2
                go_roundw
                case rel => exact ⟨a + 1, by go_num, by omega, trivial⟩
                case measure => simp [intOf]; omega
          · have ha1 : ¬ (a : Int) < (N : Int) := by omega
            go_wp2
            go_ret
            exact ⟨rfl, B3.out⟩
      · have hi1 : ¬ (i : Int) < (l.length : Int) := by omega
        go_wp2_with fail
        refine HCL.out.mono ?_
        rintro e w3 ⟨rfl, n3, t3⟩
        have N3 := hide n3
        have C3 := hide (room_same R.out t3).1
        have B3 := hide (BW.out.trans ((room_same R.out t3).2.mono BW.out.size))
        clear n3 t3 HCL R
        go_wp2
        go_loopw [15] (fun av wv => ∃ a : Nat, av = .int .i64 a ∧ a ≤ N ∧ wv = w3) (fun av _ => N - (intOf av).toNat)
        case atStart => exact ⟨0, rfl, Nat.zero_le _, rfl⟩
        case round =>
          obtain ⟨a, rfl, ha, hw⟩ := hrel
          obtain rfl := hw.symm
          by_cases hal : a < N
          · have ha1 : (a : Int) < (N : Int) := by omega
            have ha7 : (a : Int) < 7 := by omega
            go_wp2
            go_loopw [16] (fun cv wv => ∃ c : Nat, cv = .int .i64 c ∧ c ≤ N ∧ wv = w3) (fun cv _ => N - (intOf cv).toNat)
            case atStart => exact ⟨0, rfl, Nat.zero_le _, rfl⟩
            case round =>
              obtain ⟨c, rfl, hc, hw⟩ := hrel
              obtain rfl := hw.symm
              by_cases hcl : c < N
              · have hc1 : (c : Int) < (N : Int) := by omega
                have hc7 : (c : Int) < 7 := by omega
                obtain ⟨c0, f0⟩ := room_cell C3.out (a := a) (c := c) (by omega) (by omega)
                obtain ⟨K, hKe⟩ : ∃ K : Nat, 7 * a + c = K := ⟨_, rfl⟩
                have hK : 7 * (a : Int) + (c : Int) = (K : Int) := by omega
                have hK0 : (K : Int) < 49 := by omega
                rw [hKe] at c0 f0
                have HLN := hide (N3.out.len (x := a) (y := c) ⟨by omega, by omega⟩ ⟨by omega, by omega⟩)
                rw [lenQ_clear] at HLN
                clear hKe f0
                by_cases e1 : (a : Int) = (A : Int)
                · rw [if_pos (.inl e1)] at HLN
                  have e1' : ((a : Int) == (A : Int)) = true := by simpa using e1
                  have HE1 := hide e1
                  clear e1
                  go_wp2_with (go_at_call 26; refine HLN.out.mono ?_; rintro e wl ⟨rfl, rfl⟩)
                  go_roundw
                  case rel => exact ⟨c + 1, by go_num, by omega, trivial⟩
                  case measure => simp [intOf]; omega
                · have e1' : ((a : Int) == (A : Int)) = false := by simpa using e1
                  by_cases e2 : (c : Int) = (A : Int)
                  · rw [if_pos (.inr e2)] at HLN
                    have e2' : ((c : Int) == (A : Int)) = true := by simpa using e2
                    have HE1 := hide e1
                    have HE2 := hide e2
                    clear e1 e2
                    go_wp2_with (go_at_call 26; refine HLN.out.mono ?_; rintro e wl ⟨rfl, rfl⟩)
                    go_roundw
                    case rel => exact ⟨c + 1, by go_num, by omega, trivial⟩
                    case measure => simp [intOf]; omega
                  · rw [if_neg (fun h => h.elim e1 e2)] at HLN
                    have e2' : ((c : Int) == (A : Int)) = false := by simpa using e2
                    have HE1 := hide e1
                    have HE2 := hide e2
                    clear e1 e2
                    go_wp2_with (go_at_call 26; refine HLN.out.mono ?_; rintro e wl ⟨rfl, rfl⟩)
                    go_roundw
                    case rel => exact ⟨c + 1, by go_num, by omega, trivial⟩
                    case measure => simp [intOf]; omega
              · have hc1 : ¬ (c : Int) < (N : Int) := by omega
                go_wp2
                go_roundw
                case rel => exact ⟨a + 1, by go_num, by omega, trivial⟩
                case measure => simp [intOf]; omega
          · have ha1 : ¬ (a : Int) < (N : Int) := by omega
            go_wp2
            go_ret
            exact ⟨rfl, B3.out⟩

end Go.Proofs.Ytfldflecelagjaa
