/-
  carillonref05's Clear and New, as they run.
-/
import Derived.Test.YtjmfimllaejpnaaY5
namespace Go.Proofs.Ytjmfimllaejpnaa
open Go.RowKit Go.Maps

section
variable {w w' : World} {b n : Nat} {s : Int} {q : Qs} {Y : YG}
theorem YR.same {q2 : Qs} (h : YR w b n s q Y) (he : ∀ k, k < n * n → qk n q k = qk n q2 k) : YR w b n s q2 Y :=
  ⟨h.nodes, h.side, h.box, h.lst, fun k hk => by rw [← he k hk]; exact h.row k hk, fun k hk => by rw [← he k hk]; exact h.few k hk, h.apart⟩
theorem qk_ext {q1 q2 : Qs} (h : ∀ a c : Nat, isLink n (a : Int) (c : Int) → q1 a c = q2 a c) : ∀ k, k < n * n → qk n q1 k = qk n q2 k := by
  intro k hk
  unfold qk
  by_cases e : k / n = k % n
  · rw [if_pos e, if_pos e]
  · rw [if_neg e, if_neg e]
    have hn : 0 < n := by
      rcases Nat.eq_zero_or_pos n with h0 | h0
      · subst h0; omega
      · exact h0
    have h1 : k / n < n := Nat.div_lt_of_lt_mul hk
    have h2 := Nat.mod_lt k hn
    generalize k / n = x at *
    generalize k % n = y at *
    exact h x y ⟨by omega, by omega, by omega, by omega, by omega⟩
/-- What is left when the places below i are gone over. -/
def clrQ (n : Nat) (q : Qs) (node : Int) (i : Nat) : Qs := fun a c => if isLink n (a : Int) (c : Int) ∧ (((a : Int) = node ∧ c < i) ∨ ((c : Int) = node ∧ a < i)) then [] else q a c
theorem clrQ_zero (node : Int) : clrQ n q node 0 = q := by
  funext a c
  unfold clrQ
  rw [if_neg (by rintro ⟨_, h | h⟩ <;> omega)]
theorem clrQ_all (node : Int) (a c : Nat) (hl : isLink n (a : Int) (c : Int)) : clrQ n q node n a c = clearAll n q node a c := by
  obtain ⟨h1, h2, _⟩ := link_lt2 hl
  unfold clrQ clearAll clearQ
  by_cases h : (a : Int) = node ∨ (c : Int) = node
  · rw [if_pos ⟨hl, by rcases h with h | h; exact .inl ⟨h, h2⟩; exact .inr ⟨h, h1⟩⟩, if_pos ⟨hl, h, rfl⟩]
  · rw [if_neg (by rintro ⟨_, ⟨e, _⟩ | ⟨e, _⟩⟩; exact h (.inl e); exact h (.inr e)), if_neg (by rintro ⟨_, e, _⟩; exact h e)]
theorem clrQ_pass (node : Int) (i : Nat) (hi : i < n) (hl : ¬ isLink n node (i : Int)) (a c : Nat) (h : isLink n (a : Int) (c : Int)) : clrQ n q node i a c = clrQ n q node (i + 1) a c := by
  obtain ⟨h1, h2, h3⟩ := link_lt2 h
  unfold clrQ
  have e : (((a : Int) = node ∧ c < i) ∨ ((c : Int) = node ∧ a < i)) ↔ (((a : Int) = node ∧ c < i + 1) ∨ ((c : Int) = node ∧ a < i + 1)) := by
    constructor
    · rintro (⟨e1, e2⟩ | ⟨e1, e2⟩)
      · exact .inl ⟨e1, by omega⟩
      · exact .inr ⟨e1, by omega⟩
    · rintro (⟨e1, e2⟩ | ⟨e1, e2⟩)
      · refine .inl ⟨e1, ?_⟩
        by_cases ec : c = i
        · exact absurd ⟨by omega, by omega, by omega, by omega, by omega⟩ hl
        · omega
      · refine .inr ⟨e1, ?_⟩
        by_cases ec : a = i
        · exact absurd ⟨by omega, by omega, by omega, by omega, by omega⟩ hl
        · omega
  simp only [e]
theorem clrQ_put (A i : Nat) (hl : isLink n (A : Int) (i : Int)) (a c : Nat) (h : isLink n (a : Int) (c : Int)) : setQ (setQ (clrQ n q A i) A i []) i A [] a c = clrQ n q A (i + 1) a c := by
  obtain ⟨h1, h2, h3⟩ := link_lt2 h
  obtain ⟨l1, l2, l3⟩ := link_lt2 hl
  unfold setQ clrQ
  by_cases e1 : a = i ∧ c = A
  · rw [if_pos e1, if_pos ⟨h, .inr ⟨by omega, by omega⟩⟩]
  · rw [if_neg e1]
    by_cases e2 : a = A ∧ c = i
    · rw [if_pos e2, if_pos ⟨h, .inl ⟨by omega, by omega⟩⟩]
    · rw [if_neg e2]
      have e : (((a : Int) = (A : Int) ∧ c < i) ∨ ((c : Int) = (A : Int) ∧ a < i)) ↔ (((a : Int) = (A : Int) ∧ c < i + 1) ∨ ((c : Int) = (A : Int) ∧ a < i + 1)) := by
        constructor
        · rintro (⟨e1, e2⟩ | ⟨e1, e2⟩)
          · exact .inl ⟨e1, by omega⟩
          · exact .inr ⟨e1, by omega⟩
        · rintro (⟨e3, e4⟩ | ⟨e3, e4⟩)
          · refine .inl ⟨e3, ?_⟩
            by_cases ec : c = i
            · exact absurd ⟨by omega, ec⟩ e2
            · omega
          · refine .inr ⟨e3, ?_⟩
            by_cases ec : a = i
            · exact absurd ⟨ec, by omega⟩ e1
            · omega
      simp only [e]
theorem link_symm {x y : Int} (h : isLink n x y) : isLink n y x := ⟨h.2.2.1, h.2.2.2.1, h.1, h.2.1, fun e => h.2.2.2.2 e.symm⟩
theorem YR.nil (h : YR w b n s q Y) {a c : Nat} (hl : isLink n (a : Int) (c : Int)) : YR (w.setCell ⟨Y.lb, a * n + c, none⟩ (.slice none 0 0)) b n s (setQ q a c []) (Y.put (a * n + c) (.slice none 0 0)) ∧ Touch (fun j => Y.own b n j) w (w.setCell ⟨Y.lb, a * n + c, none⟩ (.slice none 0 0)) ∧ ∀ j, (Y.put (a * n + c) (.slice none 0 0)).own b n j → Y.own b n j := by
  obtain ⟨h1, h2, _⟩ := link_lt2 hl
  have hp := h.put hl (.slice none 0 0) [] (by simp) (Touch.refl _ w) (World.ownsRow_nil _ _ _ _) (fun j hj => by cases hj)
  refine ⟨hp.1, hp.2.mono fun j _ e => ?_, fun j hj => ?_⟩
  · rcases e with e | e
    · exact .inr (.inl e)
    · exact .inr (.inr ⟨_, place_lt h1 h2, e⟩)
  · rcases YG.put_own hj with e | e
    · exact e
    · cases e
set_option maxHeartbeats 2000000 in
theorem yclear_any (h : YR w b n s q Y) (node : Int) : Calls Try.prog 20 #[.pointer (some ⟨b, 0, none⟩), .int .i64 node] w fun e w' => e = .returned (.tuple #[]) ∧ ∃ Y', YR w' b n s (clearAll n q node) Y' ∧ YStep w w' b n Y Y' := by
  have hn := h.nodes
  have HH := hide h
  clear h
  go_enter Try.func20, Try.ntmps20
  go_wp2
  go_loopw [4] (fun iv wv => ∃ (i : Nat) (Y' : YG), i ≤ n ∧ iv = .int .i64 i ∧ Hid (YR wv b n s (clrQ n q node i) Y') ∧ Hid (Touch (fun j => Y.own b n j) w wv) ∧ Hid (∀ j, Y'.own b n j → Y.own b n j)) (fun iv _ => n - (intOf iv).toNat)
  case atStart => exact ⟨0, Y, Nat.zero_le _, rfl, by rw [clrQ_zero]; exact HH.out, Touch.refl _ _, fun _ e => e⟩
  case round =>
    obtain ⟨i, Y', hi, rfl, HR, HT, HO⟩ := hrel
    have c0 := HR.out.c0
    by_cases hin : i < n
    · have hi0 : (i : Int) < (n : Int) := by omega
      by_cases hl : isLink n node (i : Int)
      · obtain ⟨A, i2, rfl, e2, hl2, hk⟩ := link_place hl
        obtain rfl : i = i2 := by omega
        have HA := hide (yat_link HR.out A i hl2)
        have HB := hide (yat_link HR.out i A (link_symm hl2))
        obtain ⟨p1, p2, p3⟩ := HR.out.nil hl2
        obtain ⟨q1, q2, q3⟩ := p1.nil (link_symm hl2)
        obtain ⟨k, N, _, _, ek, eN, g1, g2, _, c1, c2, _⟩ := HR.out.look hl2
        obtain ⟨k', N', _, _, ek', eN', g1', g2', _, c1', c2', _⟩ := p1.look (link_symm hl2)
        have hl3 := place_lt (link_lt2 hl2).1 (link_lt2 hl2).2.1
        have hl4 := place_lt (link_lt2 hl2).2.1 (link_lt2 hl2).1
        have f2 := (HR.out.ck hl3).2
        have f2' := (p1.ck hl4).2
        have P2 := hide (HT.out.andThen (p2.mono fun j _ e => HO.out j e) fun _ _ e => e)
        have hY' : (Y'.put (A * n + i) (.slice none 0 0)).lb = Y'.lb := rfl
        rw [hY'] at q1 q2 c2' f2'
        rw [hY'] at c1'
        have QR : Hid (YR ((wr.setCell ⟨Y'.lb, A * n + i, none⟩ (.slice none 0 0)).setCell ⟨Y'.lb, i * n + A, none⟩ (.slice none 0 0)) b n s (clrQ n q A (i + 1)) ((Y'.put (A * n + i) (.slice none 0 0)).put (i * n + A) (.slice none 0 0))) := q1.same (qk_ext fun a c hac => clrQ_put A i hl2 a c hac)
        have QT := hide (P2.out.andThen (q2.mono fun j _ e => HO.out j (p3 j e)) fun _ _ e => e)
        have QO : Hid (∀ j, ((Y'.put (A * n + i) (.slice none 0 0)).put (i * n + A) (.slice none 0 0)).own b n j → Y.own b n j) := fun j e => HO.out j (p3 j (q3 j e))
        rw [ek] at HA c2' c1' f2 f2' QR QT QO
        rw [ek'] at HB f2' QR QT QO
        subst eN
        subst eN'
        have hk0 : (0 : Int) ≤ (k : Int) := by omega
        have hk1 : (k : Int) < ((n * n : Nat) : Int) := by omega
        have hk0' : (0 : Int) ≤ (k' : Int) := by omega
        have hk1' : (k' : Int) < ((n * n : Nat) : Int) := by omega
        generalize n * n = N at c1 c1' hk1 hk1'
        clear p1 p2 p3 q1 q2 q3 hl hl2 hl3 hl4 HR HT HO P2 e2 hk ek ek' g1 g2 g1' g2' hY' HH
        go_wp2_with fail
        refine HA.out.mono ?_
        rintro e w1 ⟨rfl, h5⟩
        obtain rfl := h5.symm
        clear h5 HA
        go_wp2_with fail
        refine HB.out.mono ?_
        rintro e w1 ⟨rfl, h5⟩
        obtain rfl := h5.symm
        clear h5 HB
        go_wp2
        go_roundw
        case rel => exact ⟨i + 1, _, by omega, by go_num, QR.out, QT.out, QO.out⟩
        case measure => simp [intOf]; omega
      · have HA := hide (yat_none HR.out node i hl)
        have HB := hide (yat_none HR.out i node fun e => hl (link_symm e))
        have QR := hide (HR.out.same (qk_ext fun a c hac => clrQ_pass (q := q) node i hin hl a c hac))
        clear hl HR HH
        go_wp2_with fail
        refine HA.out.mono ?_
        rintro e w1 ⟨rfl, h5⟩
        obtain rfl := h5.symm
        clear h5 HA
        go_wp2_with fail
        refine HB.out.mono ?_
        rintro e w1 ⟨rfl, h5⟩
        obtain rfl := h5.symm
        clear h5 HB
        go_wp2
        go_roundw
        case rel => exact ⟨i + 1, Y', by omega, by go_num, QR.out, HT.out, HO.out⟩
        case measure => simp [intOf]; omega
    · obtain rfl : i = n := by omega
      have hi0 : ¬ (i : Int) < (i : Int) := by omega
      have QR := hide (HR.out.same (qk_ext fun a c hac => clrQ_all (q := q) node a c hac))
      clear HR HH
      go_wp2
      go_end0
      exact ⟨rfl, Y', QR.out, HT.out, fun j e => .inl (HO.out j e)⟩
end
end Go.Proofs.Ytjmfimllaejpnaa
