/-
  The program's acknowledge, as it runs.
-/
import Derived.Test.YthgfijmpofbchaaZD5
namespace Go.Proofs.Ythgfijmpofbchaa
open Go.RowKit

/-- The first j are taken off. -/
def LK.off (l : LK) (j : Nat) : LK := if j = 0 then l else { l with wait := l.wait.drop j, first := l.first + j, out := l.out - j, due := l.due - j, ticks := 0 }
def waitLen (b : Nat) (w : World) : Nat := match w.cell? ⟨b, 5, none⟩ with
  | some (.slice _ n _) => n
  | _ => 0
section
variable {l : LK}
theorem off_same (j : Nat) (hj : j ≤ l.out) : (l.off j).wait = l.wait.drop j ∧ (l.off j).first = l.first + j ∧ (l.off j).out = l.out - j ∧ (l.off j).due = l.due - j ∧ (l.off j).epoch = l.epoch ∧ (l.off j).peer = l.peer ∧ (l.off j).taken = l.taken ∧ (l.off j).owes = l.owes := by
  unfold LK.off
  by_cases c : j = 0
  · rw [if_pos c]; subst c; exact ⟨rfl, rfl, rfl, rfl, rfl, rfl, rfl, rfl⟩
  · rw [if_neg c]; exact ⟨rfl, rfl, rfl, rfl, rfl, rfl, rfl, rfl⟩
theorem off_ok (h : l.ok) (j : Nat) (hj : j ≤ l.out) (h2 : l.first + j ≤ 9007199254740992) : (l.off j).ok := by
  unfold LK.off
  by_cases c : j = 0
  · rw [if_pos c]; exact h
  · rw [if_neg c]
    have h3 := h.outw
    have h4 := h.most
    have h5 := h.win
    have h6 := h.due
    have h7 := h.first
    exact ⟨h.epoch, h.peer, by show (l.wait.drop j).length ≤ 32; rw [List.length_drop]; omega, ⟨by show 1 ≤ l.first + j; omega, h2⟩, by show l.out - j ≤ (l.wait.drop j).length; rw [List.length_drop]; omega, by show l.out - j ≤ 8; omega, by show l.due - j ≤ l.out - j; omega, h.taken, Nat.zero_le _, fun s hs => h.small s (List.mem_of_mem_drop hs)⟩
theorem off_next (j : Nat) : l.off (j + 1) = { l.off j with wait := (l.off j).wait.drop 1, first := (l.off j).first + 1, out := (l.off j).out - 1, due := (l.off j).due - 1, ticks := 0 } := by
  unfold LK.off
  rw [if_neg (by omega)]
  by_cases c : j = 0
  · subst c; rw [if_pos rfl]
  · rw [if_neg c]
    simp only [List.drop_drop, LK.mk.injEq, true_and, and_true]
    omega
theorem ackd_off (A : Nat) (h : A + 1 ≤ l.first + l.out) : l.ackd A = l.off (A + 1 - l.first) := by
  unfold LK.ackd LK.off
  by_cases c : l.first ≤ A
  · rw [if_pos ⟨c, h⟩, if_neg (by omega)]
    congr 1
    omega
  · rw [if_neg (fun e => c e.1), if_pos (by omega)]
end
section
variable {w : World} {b : Nat} {l : LK}
/-- One is taken off in front, behind zeros. -/
theorem PL.pop {g off cp n : Nat} (h : PL w b (.slice (some ⟨g, off, none⟩) n cp) l) (h0 : 0 < l.out) (hf : l.first + 1 ≤ 9007199254740992) (hok : ({ l with wait := l.wait.drop 1, first := l.first + 1, out := l.out - 1, due := l.due - 1, ticks := 0 } : LK).ok) (v' : Value) (hv : v' = .slice (if cp = 1 then some ⟨g, off, none⟩ else some ⟨g, off + 3, none⟩) (n - 1) (cp - 1)) :
    PL (((((w.setCell ⟨g, off, none⟩ (.int .i64 0)).setCell ⟨g, off + 1, none⟩ (.string ⟨#[]⟩)).setCell ⟨g, off + 2, none⟩ (.bool false)).setCell ⟨b, 5, none⟩ v').setCell ⟨b, 6, none⟩ (.int .i64 0)) b v' { l with wait := l.wait.drop 1, first := l.first + 1, out := l.out - 1, due := l.due - 1, ticks := 0 } ∧ ∀ j, v'.ownBlock = some j → j = g := by
  have hne := h.ne
  have hn : n = l.wait.length := by obtain ⟨a1, c1, e1⟩ := h.row.slice; injection e1
  subst hn
  have hgb : b ≠ g := fun e => hne (by rw [e]; rfl)
  have h1 := h.ok.first
  have h2 := h.ok.outw
  have hvg : ∀ j, v'.ownBlock = some j → j = g := fun j e => by
    rw [hv] at e
    by_cases c : cp = 1
    · rw [if_pos c] at e; exact (Option.some.inj e).symm
    · rw [if_neg c] at e; exact (Option.some.inj e).symm
  have hvb : v'.ownBlock ≠ some b := fun e => hgb (hvg b e)
  refine ⟨⟨hok, fun _ => rfl, ?_, ?_⟩, hvg⟩
  · have k1 := box_set (box_set (box_apart (box_apart (box_apart h.box hgb off (.int .i64 0)) hgb (off + 1) (.string ⟨#[]⟩)) hgb (off + 2) (.bool false)) 5 v') 6 (.int .i64 0)
    rw [show pCells { l with wait := l.wait.drop 1, first := l.first + 1, out := l.out - 1, due := l.due - 1, ticks := 0 } v' = #[.int .i64 l.epoch, .int .i64 l.peer, .int .i64 l.taken, .int .i64 ((l.first - 1 + l.wait.length : Nat) : Int), .int .i64 ((l.first - 1 + l.out : Nat) : Int), v', .int .i64 0, .bool l.owes] by
      show pCells { l with wait := l.wait.drop 1, first := l.first + 1, out := l.out - 1, due := l.due - 1, ticks := 0 } v' = _
      unfold pCells
      simp only
      rw [List.length_drop, show l.first + 1 - 1 + (l.wait.length - 1) = l.first - 1 + l.wait.length by omega, show l.first + 1 - 1 + (l.out - 1) = l.first - 1 + l.out by omega]
      rfl]
    exact k1
  · have r1 := ((h.row.putCell 0 (by omega) (.int .i64 0)).putCell 1 (by omega) (.string ⟨#[]⟩)).putCell 2 (by omega) (.bool false)
    have r2 := (r1.cut 1 (by omega))
    simp only [Nat.one_mul, Nat.add_zero] at r2
    rw [← hv] at r2
    rw [List.drop_set_of_lt (by omega), List.drop_set_of_lt (by omega), List.drop_set_of_lt (by omega)] at r2
    have e3 : (wtCells (waitsOf l.first l.due l.wait)).drop 3 = wtCells (waitsOf (l.first + 1) (l.due - 1) (l.wait.drop 1)) := by
      rw [← waitsOf_drop, ← wtCells_drop]
    rw [e3] at r2
    have r3 := (r2.set b 5 v' hvb).set b 6 (.int .i64 0) hvb
    show OwnsQ _ _ 3 v' (l.wait.drop 1).length _
    rw [List.length_drop]
    exact r3
theorem PL.waitLen {v : Value} (h : PL w b v l) : waitLen b w = l.wait.length := by
  obtain ⟨ao, cp, hv⟩ := h.row.slice
  unfold Go.Proofs.Ythgfijmpofbchaa.waitLen
  rw [h.c.2.2.2.2.2.1, hv]
set_option maxHeartbeats 4000000 in
theorem pack {v : Value} (h : PL w b v l) (A : Nat) (hA : A ≤ 9007199254740991) : Calls Try.prog 32 #[.pointer (some ⟨b, 0, none⟩), .int .i64 A] w fun e w' => e = .returned (.tuple #[]) ∧ ∃ v', PL w' b v' (l.ackd A) ∧ Touch (pown b v) w w' ∧ ∀ j, pown b v' j → pown b v j := by
  obtain ⟨_, _, _, _, c4, _, _, _⟩ := h.c
  have hf := h.ok.first
  have HH := hide h
  by_cases e1 : l.first + l.out < A + 1
  · have hh : l.ackd A = l := by unfold LK.ackd; rw [if_neg (by omega)]
    rw [hh]
    have g1 : ((l.first - 1 + l.out : Nat) : Int) < (A : Int) := by omega
    generalize (l.first - 1 + l.out : Nat) = pu at *
    clear h hh
    go_enter Try.func32, Try.ntmps32
    go_wp2
    ((try simp only [Exit.inBlock, Exit.then]); refine bodyPost_ret (results_none rfl _ _ _) rfl ?_)
    exact ⟨rfl, v, HH.out, Touch.refl _ w, fun _ e => e⟩
  · rw [ackd_off A (by omega)]
    obtain ⟨m, hm⟩ : ∃ m, A + 1 - l.first = m := ⟨_, rfl⟩
    rw [hm]
    have hmo : m ≤ l.out := by omega
    have hmw : m ≤ l.wait.length := by have := h.ok.outw; omega
    have HO := hide h.ok
    have g1 : ¬ ((l.first - 1 + l.out : Nat) : Int) < (A : Int) := by omega
    generalize (l.first - 1 + l.out : Nat) = pu at *
    clear h e1
    go_enter Try.func32, Try.ntmps32
    go_wp2
    go_loopw [] (fun wv => ∃ (j : Nat) (v' : Value), j ≤ m ∧ waitLen b wv = l.wait.length - j ∧ Hid (PL wv b v' (l.off j)) ∧ Hid (Touch (pown b v) w wv) ∧ Hid (∀ i, pown b v' i → pown b v i)) (fun wv => waitLen b wv)
    case atStart =>
      refine ⟨0, v, Nat.zero_le _, ?_, by rw [show l.off 0 = l from if_pos rfl]; exact HH, Touch.refl _ w, fun _ e => e⟩
      exact HH.out.waitLen
    case round =>
      obtain ⟨j, v', hj, hwl, PV, TV, SV⟩ := hrel
      obtain ⟨o1, o2, o3, o4, o5, o6, o7, o8⟩ := off_same (l := l) j (by omega)
      have hlen : (l.off j).wait.length = l.wait.length - j := by rw [o1, List.length_drop]
      obtain ⟨ao, cp, rfl⟩ := PV.out.row.slice
      obtain ⟨_, _, _, _, _, q5, q6, _⟩ := PV.out.c
      have fb5 := PV.out.f 5
      have fb6 := PV.out.f 6
      by_cases hlt : j < m
      · obtain ⟨g, off, rfl, hgb, hgl, a0, a1, a2, ff⟩ := PV.out.at 0 (by omega)
        simp only [Nat.zero_mul, Nat.add_zero] at a0 a1 a2
        have fa0 := ff off
        have fa1 := ff (off + 1)
        have fa2 := ff (off + 2)
        have hno := off_ok HO.out (j + 1) (by omega) (by omega)
        rw [off_next] at hno
        have hncp : (l.off j).wait.length ≤ cp := by
          rcases PV.out.row.2 with ⟨e, _⟩ | ⟨g2, off2, c2, cur2, e, _, e4, _⟩
          · cases e
          · injection e with _ _ e; rw [e]; exact e4
        have PP := hide (fun v2 hv2 => PV.out.pop (by rw [o3]; omega) (by rw [o2]; omega) hno v2 hv2)
        generalize (l.off j).wait[0]'_ = x0 at a1
        generalize decide ((l.off j).due ≤ 0) = x2 at a2
        obtain ⟨n, hn⟩ : ∃ n, (l.off j).wait.length = n + 1 := ⟨(l.off j).wait.length - 1, by omega⟩
        rw [hn] at q5 PP
        obtain ⟨fn, hfn⟩ : ∃ fn, (l.off j).first = fn := ⟨_, rfl⟩
        rw [hfn] at a0
        have hfa : (fn : Int) ≤ (A : Int) := by omega
        have hn0 : (0 : Int) < (n : Int) + 1 := by omega
        have hc1 : (1 : Int) ≤ (cp : Int) := by omega
        have hbg : b ≠ g := fun e => hgb e.symm
        clear ff
        go_wp2
        obtain ⟨P5, hvg⟩ := PP.out (.slice (if cp = 1 then some ⟨g, off, none⟩ else some ⟨g, off + 3, none⟩) n (cp - 1)) rfl
        have P6 := P5
        rw [← off_next] at P6
        have hw6 := P6.waitLen
        rw [(off_same (l := l) (j + 1) (by omega)).1, List.length_drop] at hw6
        refine ⟨⟨j + 1, _, by omega, hw6, P6, ?_, ?_⟩, ?_⟩
        · have hg0 := SV.out g (.inr rfl)
          exact ((((TV.out.setCell _ _ fun _ => hg0).setCell _ _ fun _ => hg0).setCell _ _ fun _ => hg0).setCell _ _ fun _ => .inl rfl).setCell _ _ fun _ => .inl rfl
        · intro i hi
          rcases hi with e | e
          · exact .inl e
          · rw [hvg i e]; exact SV.out g (.inr rfl)
        · rw [hw6, hwl]; omega
      · obtain rfl : j = m := by omega
        by_cases hn0 : (l.off j).wait.length = 0
        · rw [hn0] at q5
          clear hn0
          go_wp2
          go_end0
          exact ⟨rfl, _, PV.out, TV.out, SV.out⟩
        · obtain ⟨g, off, rfl, hgb, hgl, a0, a1, a2, ff⟩ := PV.out.at 0 (by omega)
          simp only [Nat.zero_mul, Nat.add_zero] at a0
          obtain ⟨n, hn⟩ : ∃ n, (l.off j).wait.length = n + 1 := ⟨(l.off j).wait.length - 1, by omega⟩
          rw [hn] at q5
          obtain ⟨fn, hfn⟩ : ∃ fn, (l.off j).first = fn := ⟨_, rfl⟩
          rw [hfn] at a0
          have hfa : ¬ (fn : Int) ≤ (A : Int) := by omega
          have hn1 : (0 : Int) < (n : Int) + 1 := by omega
          clear ff a1 a2
          go_wp2
          go_end0
          exact ⟨rfl, _, PV.out, TV.out, SV.out⟩
end
end Go.Proofs.Ythgfijmpofbchaa
