/-
  What the program is held to; of views that came.
-/
import Derived.Test.YtjnbfopipmglgaaZVG
import Derived.Test.YtjnbfopipmglgaaZVV
namespace Go.Proofs.Ytjnbfopipmglgaa
open Go.RowKit

attribute [local go_sem ↓] Go.wp_at_zero Go.wp_at_succ
set_option linter.unusedSimpArgs false
set_option linter.unusedVariables false
/-- What the program answers. -/
abbrev NextSays : Prop := ∀ (x : VW) (A : List MB) (Q : List Int) (ao aa aw : Option Addr) (cp ca cw : Nat) (w : World), MemsAt w ao x.mem → MemsAt w aa A → IntsAt w aw Q → x.mem.length ≤ 4611686018427387903 → A.length ≤ 4611686018427387903 → Q.length ≤ 4611686018427387903 →
    Calls Try.prog 12 #[x.v ao cp, .slice aa A.length ca, .slice aw Q.length cw] w fun e w' => NextGave w w' e (x.next A Q)
abbrev ExSays : Prop := ∀ w : World, Calls Try.prog 5 #[] w fun e w' => e = .returned (.bool true) ∧ Below w.heap.size w w'
abbrev RightSays : Prop := ∀ (x : VW) (ao : Option Addr) (cp : Nat) (w : World), MemsAt w ao x.mem → x.mem.length ≤ 4611686018427387903 → Calls Try.prog 17 #[x.v ao cp] w fun e w' => e = .returned (.bool (decide x.right)) ∧ Below w.heap.size w w'
abbrev MemberSays : Prop := ∀ (m : MB) (w : World), Calls Try.prog 29 #[m.v] w fun e w' => e = .returned (.bool (decide m.right)) ∧ Below w.heap.size w w'
abbrev MajSays : Prop := ∀ (x : VW) (ao : Option Addr) (cp : Nat) (w : World), x.mem.length ≤ 4611686018427387903 → Calls Try.prog 14 #[x.v ao cp] w fun e w' => e = .returned (.int .i64 (x.maj : Nat)) ∧ Below w.heap.size w w'
abbrev HasSays : Prop := ∀ (x : VW) (m : MB) (ao : Option Addr) (cp : Nat) (w : World), MemsAt w ao x.mem → x.mem.length ≤ 4611686018427387903 → Calls Try.prog 16 #[x.v ao cp, m.v] w fun e w' => e = .returned (.bool (decide (m ∈ x.mem))) ∧ Below w.heap.size w w'
abbrev CommonSays : Prop := ∀ (x y : VW) (ao bo : Option Addr) (cp cq : Nat) (w : World), MemsAt w ao x.mem → MemsAt w bo y.mem → x.mem.length ≤ 4611686018427387903 → y.mem.length ≤ 4611686018427387903 → Calls Try.prog 15 #[x.v ao cp, y.v bo cq] w fun e w' => e = .returned (.int .i64 (comm x.mem y.mem : Nat)) ∧ Below w.heap.size w w'
theorem row_block {W : World} {B n cp : Nat} {ao : Option Addr} {xs : List Value} (h : W.ownsRow B tMember 2 (.slice ao n cp) n xs) (hn : 0 < n) : ∃ g cur, ao = some ⟨g, 0, none⟩ ∧ B ≤ g ∧ W.heap[g]? = some (.cells cur tMember (0, 0)) ∧ n * 2 ≤ cur.size := by
  rcases h.2 with ⟨_, h2⟩ | ⟨g, cap, cur, hv, hg, hh, hc, _, hs, _⟩
  · omega
  · injection hv with h1 _ h3
    exact ⟨g, cur, h1, hg, hh, by omega⟩
theorem mem_view {W : World} {g k : Nat} {cur cs : Array Value} (h : W.heap[g]? = some (.cells cur tMember (0, 0))) (hk : W.heap[k]? = some (.cells cs tView (0, 0))) : g ≠ k := fun e => by
  subst e
  rw [hk] at h
  injection h with h
  injection h with _ h _
  exact absurd h (by decide)
def firstOf (x : VW) : MB := if x.right then x.mem.headD ⟨0, 0⟩ else ⟨0, 0⟩
theorem head_at (L : List MB) (h : 0 < L.length) : L.headD ⟨0, 0⟩ = L[0] := by
  cases L with
  | nil => cases h
  | cons e L => rfl
abbrev FirstSays : Prop := ∀ (x : VW) (ao : Option Addr) (cp : Nat) (w : World), MemsAt w ao x.mem → x.mem.length ≤ 4611686018427387903 → Calls Try.prog 13 #[x.v ao cp] w fun e w' => e = .returned (.tuple #[(firstOf x).v, .int .i64 (if x.right then 0 else 1)]) ∧ Below w.heap.size w w'
end Go.Proofs.Ytjnbfopipmglgaa
