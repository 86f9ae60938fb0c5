/-
  Used, Free of the disk as they run.
-/
import Derived.Test.YtknldpaaikcedaaGreatZW12
import Derived.Maps.RangeWalk
namespace Go.Proofs.YtknldpaaikcedaaGreat
open Go.RowKit Go.Maps Go.Sort

/-- How many bytes the file of a name has. -/
def flen (G : DG) (k : List UInt8) : Nat :=
  match dget G.D k with
  | some f => match G.file f with
    | some F => F.now.length
    | none => 0
  | none => 0
def usedL (G : DG) (ss : List (List UInt8)) : Nat := (ss.map (flen G)).sum
def used (G : DG) : Nat := usedL G (strKeys G.D)
theorem usedL_perm (G : DG) {a c : List (List UInt8)} (h : a.Perm c) : usedL G a = usedL G c := by
  induction h with
  | nil => rfl
  | cons x _ ih => simp only [usedL, List.map_cons, List.sum_cons] at *; omega
  | swap x y l => simp only [usedL, List.map_cons, List.sum_cons]; omega
  | trans _ _ h1 h2 => exact h1.trans h2
theorem usedL_snoc (G : DG) (ss : List (List UInt8)) (x : List UInt8) : usedL G (ss ++ [x]) = usedL G ss + flen G x := by simp [usedL]
theorem flen_le {w : World} {b : Nat} {G : DG} (h : Rep w b G) (k : List UInt8) : flen G k ≤ G.n * G.q := by
  unfold flen
  split
  · split
    · rename_i F hF
      have g := h.files _ F hF
      have h1 := runAll_length F.last F.acts
      rw [← g.eq] at h1
      have h2 := g.big
      omega
    · omega
  · omega
theorem usedL_le {w : World} {b : Nat} {G : DG} (h : Rep w b G) (ss : List (List UInt8)) : usedL G ss ≤ ss.length * (G.n * G.q) := by
  induction ss with
  | nil => simp [usedL]
  | cons x ss ih =>
    have h1 := flen_le h x
    simp only [usedL, List.map_cons, List.sum_cons, List.length_cons] at *
    rw [Nat.add_mul]
    omega
/-- A pointer to a file. -/
def mkP (c : Option Nat) : Value := .pointer (c.map fun j => ⟨j, 0, none⟩)
theorem ptrR_mk (v : Value) (y : DataW Nat × List MemPlace) (h : ptrR v = some y) : ∃ c, v = mkP c := by
  rcases ptrR_inv h with ⟨b, rfl, _⟩ | ⟨rfl, _⟩
  · exact ⟨some b, rfl⟩
  · exact ⟨none, rfl⟩
theorem dget_of_at {D : DataW Nat} {x : List UInt8} {c : Option Nat} {yd : DataW Nat} {yp : List MemPlace} (hv : ptrR (mkP c) = some (yd, yp)) (hat : ∀ zd, D.atKey (.string x) zd = yd) : dget D x = c := by
  unfold dget
  rw [hat]
  cases c with
  | none =>
    have e : ptrR (mkP none) = some (.lit (.int .i64 (-1)), []) := rfl
    rw [e] at hv
    cases hv
    rfl
  | some j =>
    have e : ptrR (mkP (some j)) = some (.lit (.int .i64 j), []) := rfl
    rw [e] at hv
    cases hv
    simp

set_option maxRecDepth 100000 in
set_option maxHeartbeats 2000000 in
theorem used_any {w : World} {b : Nat} {G : DG} (h : Rep w b G) (hn : G.n < 10000) :
    Calls Tryz.prog 43 #[.pointer (some ⟨b, 0, none⟩)] w fun e w' => e = .returned (.int .i64 (used G)) ∧ Below w.heap.size w w' := by
  have HR := hide h
  have hown := h.now
  have c3 : w.cell? ⟨b, 3, none⟩ = some (.map (some G.nb)) := box_cell h.box 3 rfl
  clear h
  go_enter Tryz.func43, Tryz.ntmps43
  go_wp2_with (first
    | (at_range; refine wpList_range_own _ rfl _ 50 rfl 9 62 keyedS Tryz.underlying50 ptrR G.nb G.n G.D rfl hown ?_; intro w0 hrg0 hg0 hs0)
    | go_in)
  go_frame
  go_loopw [3] (fun uv wr => ∃ (left : Lit → Bool) (cnt : Nat) (ss : List (List UInt8)), uv = .int .i64 (usedL G ss) ∧ Hid (wr.ranges Tryz.prog 9 ptrR G.nb w.heap.size G.n G.D left cnt ∧ w.grownBy wr none ∧ Collected G.D left ss ∧ ss.length + cnt ≤ Maps.size G.D)) (fun _ wr => wr.rangeLeft G.nb w.heap.size)
  case atStart => exact ⟨_, _, [], rfl, hrg0, hg0, Collected.start _, by simp⟩
  case round =>
    obtain ⟨left, cnt, ss, rfl, HS⟩ := hrel
    clear hrg0 hg0 hs0 c3
    go_wp2_with (first
      | (at_next; refine wpList_next_ranges _ rfl _ rfl 9 keyedS ptrR encStr mkP (fun key kl hk => by obtain ⟨x, hx, _⟩ := Maps.keyOf_str Tryz.underlying9 hk; exact ⟨x, hx⟩) ptrR_mk G.nb w.heap.size G.n G.D left cnt rfl HS.out.1 ?_ ?_)
      | go_in)
    · intro _ hl0
      go_wp2
      go_ret
      obtain ⟨hrg, hgw, hC, _⟩ := HS.out
      have hp := hC.perm hrg.owns keyedS Tryz.underlying9 hl0
      exact ⟨by rw [usedL_perm G hp]; rfl, ⟨hgw.os, hgw.tape, hgw.output, hgw.size, fun k hk => hgw.block k hk (by simp)⟩⟩
    · intro x c kl yd yp w1 cnt1 hkey hlk hv hat hrg1 hlt hg1 hs1 hen
      obtain ⟨x', ex, rfl, hxl⟩ := Maps.keyOf_str Tryz.underlying9 hkey
      obtain rfl : x = x' := encStr_inj ex
      have hc := dget_of_at hv hat
      obtain ⟨hrg, hgw, hC, hcnt⟩ := HS.out
      have hhas : Maps.has G.D (.string x) = true := Maps.has_true_of_atKey hat
      obtain ⟨f, hf⟩ : ∃ f, c = some f := by
        have h1 := HR.out.fullD x hhas
        rw [hc] at h1
        exact Option.ne_none_iff_exists'.1 h1
      subst hf
      obtain ⟨F, hF⟩ : ∃ F, G.file f = some F := Option.ne_none_iff_exists'.1 (HR.out.knownD x f hc).1
      have hfl : flen G x = F.now.length := by unfold flen; rw [hc]; simp only [hF]
      have hgw1 : w.grownBy w1 none := hgw.andThen hg1 (fun j hj => by cases hj; exact .inl (Nat.le_refl _))
      have B1 : Hid (RowKit.Below w.heap.size w w1) := ⟨hgw1.os, hgw1.tape, hgw1.output, hgw1.size, fun k hk => hgw1.block k hk (by simp)⟩
      have k0 : w1.cell? ⟨f, 0, none⟩ = some (.slice F.no F.now.length F.nc) := box_cell ((HR.out.below B1.out).files f F hF).box 0 rfl
      have HN : Hid (w1.ranges Tryz.prog 9 ptrR G.nb w.heap.size G.n G.D (fun z => left z && !z.sameKey (.string x)) cnt1 ∧ w.grownBy w1 none ∧ Collected G.D (fun z => left z && !z.sameKey (.string x)) (ss ++ [x]) ∧ (ss ++ [x]).length + cnt1 ≤ Maps.size G.D) := ⟨hrg1, hgw1, hC.step hlk hat, by simp; omega⟩
      have hu1 := usedL_le HR.out (ss ++ [x])
      have hsz := hown.size_le
      have hq := HR.out.hq
      have hlen : (ss ++ [x]).length ≤ 10000 := by have := HN.out.2.2.2; omega
      have hub : usedL G (ss ++ [x]) ≤ 10000 * (10000 * 1000000000) := Nat.le_trans hu1 (Nat.mul_le_mul hlen (Nat.mul_le_mul (by omega) hq))
      have hsn := usedL_snoc G ss x
      rw [hfl] at hsn
      have HSN := hide hsn
      have hub2 : (usedL G ss : Int) + F.now.length ≤ 9000000000000000000 := by omega
      have HL := hide hlt
      have HE : Hid (w1.rangeLeft G.nb w.heap.size = cnt1 ∧ wr.rangeLeft G.nb w.heap.size = cnt) := ⟨hrg1.left_eq, hrg.left_eq⟩
      have hen2 : (Instr.entry (.pointer (some ⟨w.heap.size, 0, none⟩))).run Tryz.prog w1 = .ok (.tuple #[encStr x, .pointer (some ⟨f, 0, none⟩)]) w1 := hen
      clear hkey hlk hv hat hrg1 hlt hg1 hs1 hen hrg hgw hC hcnt hc hhas hF hfl hgw1 hu1 hsz hlen hub hsn ex hxl
      generalize F.now.length = m at *
      go_wp2
      go_roundw
      case rel => exact ⟨_, cnt1, ss ++ [x], by rw [HSN.out]; go_num, HN.out⟩
      case measure => rw [HE.out.1, HE.out.2]; exact HL.out

end Go.Proofs.YtknldpaaikcedaaGreat
