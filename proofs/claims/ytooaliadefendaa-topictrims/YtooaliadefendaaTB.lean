/-
  TopicTrims on lists.
-/
import Derived.Test.YtooaliadefendaaTA
namespace Go.Proofs.Ytooaliadefendaa.Y
open Go.RowKit Go.Maps

set_option linter.unusedVariables false
/-- Is there, of the next m behind i, one of the same key, that is not empty? -/
def latF (T : List Rec) (i : Nat) (r : Rec) : Nat → Bool
  | 0 => false
  | m + 1 => latF T i r m || (((T[i + 1 + m]?).map Rec.kl == some r.kl) && !r.kl.isEmpty)
theorem latF_any (T : List Rec) (i : Nat) (r : Rec) : ∀ m, i + 1 + m ≤ T.length → latF T i r m = (!r.kl.isEmpty && ((T.drop (i + 1)).take m).any fun x => x.kl == r.kl)
  | 0, _ => by simp [latF]
  | m + 1, h => by
    have hd : m < (T.drop (i + 1)).length := by rw [List.length_drop]; omega
    rw [latF, latF_any T i r m (by omega), List.take_succ_eq_append_getElem hd, List.any_append, List.getElem_drop, List.getElem?_eq_getElem (by omega)]
    cases r.kl.isEmpty <;> simp
theorem latF_end (T : List Rec) (i : Nat) (r : Rec) (hi : i < T.length) : latF T i r (T.length - (i + 1)) = (!r.kl.isEmpty && laterF r.kl (T.drop (i + 1))) := by
  rw [latF_any T i r _ (by omega), List.take_of_length_le (by rw [List.length_drop]; omega)]
  rfl
/-- What is left of a topic that was published to alone, trimmed and compacted. -/
theorem trims_recs {G : TG} (h : OI G G.recs) {low : Nat} (hl : low ≤ G.fin) (upto : Int) : trimF G low = (0, { G with low := low, recs := G.recs.drop low }) := by
  unfold trimF
  by_cases h0 : low = 0
  · subst h0
    rw [if_pos (by rw [h.low]; exact Int.le_refl _)]
    have := h.low
    cases G
    simp_all
  · rw [if_neg (by rw [h.low]; omega), if_neg (by omega), place_off h.off low (by rw [← h.fin]; exact hl), Int.toNat_natCast]
theorem read_all {l : List Rec} (h0 : ∀ r ∈ l, 0 ≤ r.off) (hl : l.length ≤ 1000) : readF l 0 1000 = l := by
  have hp : placeF l 0 = 0 := by
    unfold placeF
    rw [List.countP_eq_zero]
    intro x hx
    have := h0 x hx
    simp
    omega
  unfold readF
  rw [hp, List.drop_zero]
  exact List.take_of_length_le (by simpa using hl)
/-- What the law keeps: at the place i of all, and the place at of those that are left. -/
def KI (T LL : List Rec) (upto : Int) (low i at_ : Nat) : Prop := at_ ≤ LL.length ∧ LL.drop at_ = keepF upto (T.drop (max i low))
theorem ki_start (T : List Rec) (upto : Int) (low : Nat) : KI T (keepF upto (T.drop low)) upto low 0 0 := ⟨Nat.zero_le _, by rw [Nat.max_eq_right (Nat.zero_le _)]; rfl⟩
theorem ki_low {T LL : List Rec} {upto : Int} {low i at_ : Nat} (h : KI T LL upto low i at_) (hi : i < low) : KI T LL upto low (i + 1) at_ := ⟨h.1, by rw [h.2, Nat.max_eq_right (by omega), Nat.max_eq_right (by omega)]⟩
theorem ki_go {T LL : List Rec} {upto : Int} {low i at_ : Nat} (h : KI T LL upto low i at_) (hi : low ≤ i) (hT : i < T.length) (hg : goesF upto T[i] (T.drop (i + 1)) = true) : KI T LL upto low (i + 1) at_ :=
  ⟨h.1, by rw [h.2, Nat.max_eq_left hi, Nat.max_eq_left (by omega), keepF_go hT hg]⟩
theorem ki_stay {T LL : List Rec} {upto : Int} {low i at_ : Nat} (h : KI T LL upto low i at_) (hi : low ≤ i) (hT : i < T.length) (hg : goesF upto T[i] (T.drop (i + 1)) = false) : ∃ hk : at_ < LL.length, LL[at_] = T[i] ∧ KI T LL upto low (i + 1) (at_ + 1) := by
  have h2 := h.2
  rw [Nat.max_eq_left hi, keepF_stay hT hg] at h2
  have hk : at_ < LL.length := by
    apply Classical.byContradiction
    intro hn
    rw [List.drop_eq_nil_of_le (by omega)] at h2
    cases h2
  rw [List.drop_eq_getElem_cons hk] at h2
  injection h2 with e1 e2
  exact ⟨hk, e1, by omega, by rw [e2, Nat.max_eq_left (by omega)]⟩
theorem ki_end {T LL : List Rec} {upto : Int} {low at_ : Nat} (h : KI T LL upto low T.length at_) (hl : low ≤ T.length) : at_ = LL.length := by
  have h2 := h.2
  rw [Nat.max_eq_left hl, List.drop_eq_nil_of_le (Nat.le_refl _)] at h2
  have h3 := congrArg List.length h2
  rw [List.length_drop] at h3
  have := h.1
  simp [keepF] at h3
  omega
/-- What a publish behind it tells. -/
theorem pub_end {G : TG} {T : List Rec} (h : OI G T) {G3 : TG} (hD : G3.D = G.D) (hf : G3.fin = G.fin) (p : ByteArray) (seq : Int) (k v : ByteArray) : (pubF G3 p seq k v).2.1 ≠ 0 ∨ ((pubF G3 p seq k v).2.1 = 0 ∧ (pubF G3 p seq k v).1 = (G.fin : Int)) ∨ ((pubF G3 p seq k v).2.1 = 0 ∧ (pubF G3 p seq k v).1 < (G.fin : Int)) := by
  unfold pubF
  rw [hD, hf]
  cases hb : pubOk p seq k v with
  | false => left; rw [if_neg (by decide)]; show (7 : Int) ≠ 0; decide
  | true =>
    rw [if_pos rfl]
    cases hg : pget G.D p.data.toList with
    | none => exact .inr (.inl ⟨rfl, rfl⟩)
    | some g =>
      obtain ⟨o, s⟩ := g
      obtain ⟨i, hi, e1, _⟩ := h.some_ p o s hg
      simp only
      by_cases h1 : s = seq
      · rw [if_pos h1]
        exact .inr (.inr ⟨rfl, by rw [e1, h.fin]; simp only; omega⟩)
      · rw [if_neg h1]
        by_cases h2 : seq < s
        · rw [if_pos h2]; left; show (6 : Int) ≠ 0; decide
        · rw [if_neg h2]; exact .inr (.inl ⟨rfl, rfl⟩)
end Go.Proofs.Ytooaliadefendaa.Y
