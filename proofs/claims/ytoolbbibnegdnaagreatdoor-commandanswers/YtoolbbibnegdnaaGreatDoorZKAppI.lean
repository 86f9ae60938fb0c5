/-
  Appending a list of items, wherever it lies, to one that the call owns.
-/
import Derived.Test.YtoolbbibnegdnaaGreatDoorZHF
import Derived.Laws.AppendOwnNone
namespace Go.Proofs.YtoolbbibnegdnaaGreatDoor.K
open Go.RowKit

theorem cell_at_of (b off j : Nat) : (⟨b, off, none⟩ : Addr).add j = ⟨b, off + j, none⟩ := addr_add b off j

theorem items_news {w : World} {ad : Addr} {l : List It} (h : ItemsAt w (some ad) l) : ∀ (j : Nat) (u : Value), (itemCells l)[j]? = some u → w.cell? (ad.add j) = some u := by
  intro j u hj
  have hjl : j < (itemCells l).length := (List.getElem?_eq_some_iff.1 hj).1
  rw [itemCells_length] at hjl
  have hi : j / 3 < l.length := by omega
  obtain ⟨b, off, hb, _, c0, c1, c2⟩ := h (j / 3) hi
  injection hb with hb
  subst hb
  have hm : j % 3 = 0 ∨ j % 3 = 1 ∨ j % 3 = 2 := by omega
  have e : j = j / 3 * 3 + j % 3 := by omega
  have hg := itemCells_get l (j / 3) (j % 3) hi (by omega)
  rw [← e, hj] at hg
  rw [addr_add]
  rcases hm with hm | hm | hm
  · rw [hm] at hg e
    have : u = .int .i64 l[j / 3].k := by simpa [It.cells] using hg
    rw [this, ← c0]
    congr 2
    omega
  · rw [hm] at hg e
    have : u = .int .u64 l[j / 3].n := by simpa [It.cells] using hg
    rw [this, ← c1]
    congr 2
    omega
  · rw [hm] at hg e
    have : u = .string l[j / 3].s := by simpa [It.cells] using hg
    rw [this, ← c2]
    congr 2
    omega

theorem itemCells_one (l : List It) : ∀ u ∈ itemCells l, u.oneCell' = true := by
  intro u hu
  obtain ⟨x, _, hx⟩ := List.mem_flatMap.1 hu
  simp [It.cells] at hx
  rcases hx with rfl | rfl | rfl <;> rfl

theorem itemCells_append (k l : List It) : itemCells (k ++ l) = itemCells k ++ itemCells l := by simp [itemCells]

theorem wpList_append_items {w : World} {ops : Array Oper} {rest : List Oper} {o : Oper} {a : Act} {Q : Exit → Act → World → Prop} (hgd : o.guard = none) (s x : Operand)
    (ho : o.op = .call { callee := .builtin .append, args := #[s, x], argTypes := #[50, 50] }) (base : Nat) (v : Value) (k : List It) (hs : a.eval s = v) (hown : w.ownsRow base 61 3 v k.length (itemCells k))
    (xo : Option Addr) (xcap : Nat) (l : List It) (hx : a.eval x = .slice xo l.length xcap) (hnil : xo = none → xcap = 0 ∧ l = []) (hat : ItemsAt w xo l) (hlen : k.length + l.length ≤ 4398046511104) (hbase : base ≤ w.heap.size)
    (h : ∀ v' w', w'.ownsRow base 61 3 v' (k ++ l).length (itemCells (k ++ l)) → w.grownBy w' v.ownBlock → wpList Tryz.prog ops Q rest (a.put o.dst v') w') : wpList Tryz.prog ops Q (o :: rest) a w := by
  cases xo with
  | none =>
    obtain ⟨rfl, rfl⟩ := hnil rfl
    refine wpList_append_own_none hgd s x 50 ho base 61 Tryz.t61 3 Tryz.underlying50 Tryz.info61 v k.length (itemCells k) hs hown hx ?_
    exact h v w (by rw [List.append_nil]; exact hown) ⟨rfl, rfl, rfl, Nat.le_refl _, fun _ _ _ => rfl⟩
  | some ad =>
    refine wpList_append_own w hgd s x 50 ho base 61 Tryz.t61 (.agg #[.int .i64 0, .int .u64 0, .string ⟨#[]⟩]) 3 32 Tryz.underlying50 Tryz.info61 Tryz.zero61 Tryz.cells61 Tryz.bytes61 rfl (by decide) v k.length (itemCells k) hs hown
      ad l.length xcap (itemCells l) hx (itemCells_length l) (items_news hat) (itemCells_one l) (by unfold maxLen; omega) (by omega) hbase ?_
    intro v' w' h1 h2 _
    exact h v' w' (by rw [List.length_append, itemCells_append]; exact h1) h2

theorem nil_open {H : Type} {enc : TypeId × Value → H} {W : World} {a0 : Option Addr} {len cap : Nat} {d : DataW H} {p : List MemPlace} (h : DataW.Trod enc Tryz.prog W 0 (fun _ => true) true 50 (.slice a0 len cap) d p) : a0 = none → cap = 0 ∧ len = 0 := by
  rintro rfl
  obtain ⟨fuel, hf⟩ := h
  rcases Go.Deep.open_slice Tryz.underlying50 hf with ⟨hcs, _⟩ | ⟨a, l', c', m, n, D, Pl, hcs, _⟩
  · simp [Value.cells] at hcs
    exact ⟨hcs.2, hcs.1⟩
  · simp [Value.cells] at hcs

end Go.Proofs.YtoolbbibnegdnaaGreatDoor.K
