/-
  A link's key: an array of two numbers; the map of the links, as a datum.
-/
import Derived.Test.YtjmfimllaejpnaaM0
import Derived.Test.YtjmfimllaejpnaaProg
import Derived.Maps.Ext
import Derived.Maps.RangeWalk
import Derived.DeepKeys4
import Derived.KernelRfl
namespace Go.Proofs.Ytjmfimllaejpnaa
open Go.RowKit Go.Maps

/-- How a pointer to a link reads: its block. -/
def ptrR (v : Value) : Option (DataW Nat × List MemPlace) :=
  match v with
  | .pointer (some ⟨b, 0, none⟩) => some (.lit (.int .i64 b), [])
  | .pointer none => some (.lit (.int .i64 (-1)), [])
  | _ => none
theorem ptrR_some (b : Nat) : ptrR (.pointer (some ⟨b, 0, none⟩)) = some (.lit (.int .i64 b), []) := rfl
theorem ptrR_none : ptrR (.pointer none) = some (.lit (.int .i64 (-1)), []) := rfl
theorem ptrR_inv {v : Value} {y : DataW Nat × List MemPlace} (h : ptrR v = some y) : (∃ b : Nat, v = .pointer (some ⟨b, 0, none⟩) ∧ y = (.lit (.int .i64 b), [])) ∨ (v = .pointer none ∧ y = (.lit (.int .i64 (-1)), [])) := by
  unfold ptrR at h
  split at h
  · rename_i b
    exact .inl ⟨b, rfl, (Option.some.inj h).symm⟩
  · exact .inr ⟨rfl, (Option.some.inj h).symm⟩
  · cases h

/-- A number of the machine. -/
def In64 (a : Int) : Prop := -9223372036854775808 ≤ a ∧ a ≤ 9223372036854775807
theorem in64_wf {a : Int} (h : In64 a) : (Lit.int .i64 a).wf = true := WalkArith.wf_i64 h
theorem wf_in64 {a : Int} (h : (Lit.int .i64 a).wf = true) : In64 a := by
  simp [Lit.wf, IntKind.min, IntKind.max, IntKind.bits, IntKind.signed] at h
  unfold In64
  omega

/-- The key of a link. -/
def kv (a b : Int) : Value := .agg #[.int .i64 a, .int .i64 b]
def kl (a b : Int) : Lit := .string (keyBytes [.int .i64 a, .int .i64 b])
theorem laidOut : laidOutB Try.prog = true := by kernel_rfl
theorem wideE : (match Try.prog.underlying 50 with | some (.array _ _) | some (.struct _) => true | _ => false) = true := by kernel_rfl
theorem keyedE : Keyed Try.prog 50 := Keyed.of_law (deep_law_laid laidOut (m := 3) (by omega) (of_decide_eq_true (by kernel_rfl)) (by kernel_rfl) wideE)
theorem keyTy : Try.prog.keyType 50 = true := by kernel_rfl
theorem cellsE : Try.prog.cellsOf 50 = 2 := by kernel_rfl
theorem cellsI : Try.prog.cellsOf 3 = 1 := by kernel_rfl
theorem sizeT : ∃ n, Try.prog.types.size + 1 = n + 2 := ⟨Try.prog.types.size - 1, by have h : 1 ≤ Try.prog.types.size := of_decide_eq_true (by kernel_rfl); omega⟩
theorem keyLits_int (n : Nat) (x : Value) (L : List Lit) : Try.prog.keyLits (n + 1) 3 [x] = some L ↔ ∃ a, x = .int .i64 a ∧ L = [.int .i64 a] ∧ In64 a := by
  unfold Program.keyLits
  rw [Try.underlying3]
  constructor
  · intro h
    cases x with
    | int q a =>
      simp only at h
      split at h
      · rename_i hc
        obtain ⟨rfl, hw⟩ := hc
        exact ⟨a, rfl, (Option.some.inj h).symm, wf_in64 hw⟩
      · cases h
    | _ => simp at h
  · rintro ⟨a, rfl, rfl, hw⟩
    simp [in64_wf hw]
theorem keyLits_ends (n : Nat) (xs : List Value) (L : List Lit) : Try.prog.keyLits (n + 2) 50 xs = some L ↔ ∃ a b, xs = [.int .i64 a, .int .i64 b] ∧ L = [.int .i64 a, .int .i64 b] ∧ In64 a ∧ In64 b := by
  rw [Program.keyLits.eq_def]
  simp only
  rw [Try.underlying50]
  simp only
  rw [cellsE]
  constructor
  · intro h
    split at h
    · rename_i hl
      match xs, hl with
      | [x, y], _ =>
        rw [cellsI] at h
        simp [List.range_succ, List.mapM_cons, Option.bind_eq_some_iff] at h
        obtain ⟨L1, h1, _, ⟨L2, h2, rfl⟩, rfl⟩ := h
        obtain ⟨a, rfl, rfl, ha⟩ := (keyLits_int n x L1).1 h1
        obtain ⟨b, rfl, rfl, hb⟩ := (keyLits_int n y L2).1 h2
        exact ⟨a, b, rfl, rfl, ha, hb⟩
    · cases h
  · rintro ⟨a, b, rfl, rfl, ha, hb⟩
    rw [if_pos (show [Value.int IntKind.i64 a, Value.int IntKind.i64 b].length = 2 from rfl), cellsI]
    simp [List.range_succ, List.mapM_cons, (keyLits_int n (.int .i64 a) [.int .i64 a]).2 ⟨a, rfl, rfl, ha⟩, (keyLits_int n (.int .i64 b) [.int .i64 b]).2 ⟨b, rfl, rfl, hb⟩]
theorem key_mk {a b : Int} (ha : In64 a) (hb : In64 b) : keyOf Try.prog 50 (kv a b) = some (kl a b) := by
  obtain ⟨n, hn⟩ := sizeT
  unfold keyOf
  rw [Try.underlying50]
  simp only
  have hf : (kv a b).formed Try.prog 50 = true := by simp [kv, Value.formed, Try.underlying50, cellsE]
  rw [keyTy, hf, hn]
  simp only [Bool.and_self, if_true]
  have h := (keyLits_ends n [.int .i64 a, .int .i64 b] _).2 ⟨a, b, rfl, rfl, ha, hb⟩
  have e : (kv a b).cells.toList = [.int .i64 a, .int .i64 b] := rfl
  rw [e, h]
  rfl
theorem key_inv {v : Value} {l : Lit} (h : keyOf Try.prog 50 v = some l) : ∃ a b, v = kv a b ∧ l = kl a b ∧ In64 a ∧ In64 b := by
  obtain ⟨n, hn⟩ := sizeT
  obtain ⟨xs, L, rfl, h1, rfl⟩ := keyOf_top wideE h
  rw [hn] at h1
  obtain ⟨a, b, hx, rfl, ha, hb⟩ := (keyLits_ends n _ _).1 h1
  obtain ⟨ys⟩ := xs
  simp only at hx
  subst hx
  exact ⟨a, b, rfl, rfl, ha, hb⟩
theorem kl_inj {a b c d : Int} (ha : In64 a) (hb : In64 b) (hc : In64 c) (hd : In64 d) (h : kl a b = kl c d) : a = c ∧ b = d := by
  have e := keyedE.inj (key_mk ha hb) (by rw [h]; exact key_mk hc hd)
  simp [kv] at e
  exact e
theorem kl_key (a b : Int) : WideAt.IsKeyLit (kl a b) := by simp [kl, WideAt.IsKeyLit]

/-- Which link goes from one node to another one. -/
def lk (D : DataW Nat) (a b : Int) : Option Nat :=
  match D.atKey (kl a b) (.lit (.int .i64 (-1))) with
  | .lit (.int _ z) => if 0 ≤ z then some z.toNat else none
  | _ => none
def lput (D : DataW Nat) (a b : Int) (f : Nat) : DataW Nat := D.put (kl a b) (.lit (.int .i64 f))
theorem lk_put_same {D : DataW Nat} (h : IsMap D) (a b : Int) (f : Nat) : lk (lput D a b f) a b = some f := by
  unfold lk lput
  rw [atKey_put_same h (kl_key a b)]
  simp
theorem lk_put_other (D : DataW Nat) {a b c d : Int} (hne : kl c d ≠ kl a b) (f : Nat) : lk (lput D a b f) c d = lk D c d := by
  unfold lk lput
  rw [atKey_put_other (fun e => hne (by first | exact e | exact e.symm))]
theorem lk_empty (a b : Int) : lk (.map []) a b = none := rfl
theorem zeroLink (w : World) : (zeroValue 48).run Try.prog w = .ok (.pointer none) w := by kernel_rfl
theorem llook {w : World} {mb n : Nat} {D : DataW Nat} (hown : w.ownsMap Try.prog 50 ptrR mb n D) {a b : Int} (ha : In64 a) (hb : In64 b) :
    (Instr.lookup 41 (.map (some mb)) (.agg #[.int .i64 a, .int .i64 b]) false).run Try.prog w = .ok (.pointer ((lk D a b).map fun j => ⟨j, 0, none⟩)) w := by
  obtain ⟨v, ps, hrun, hv⟩ := hown.lookup keyedE Try.underlying41 (zeroLink w) ptrR_none (key_mk ha hb)
  have hrun' : (Instr.lookup 41 (.map (some mb)) (.agg #[.int .i64 a, .int .i64 b]) false).run Try.prog w = .ok v w := hrun
  rw [hrun']
  unfold lk
  rcases ptrR_inv hv with ⟨j, rfl, hy⟩ | ⟨rfl, hy⟩
  · have e1 := congrArg Prod.fst hy
    simp only at e1
    rw [e1]
    simp
  · have e1 := congrArg Prod.fst hy
    simp only at e1
    rw [e1]
    simp

end Go.Proofs.Ytjmfimllaejpnaa
