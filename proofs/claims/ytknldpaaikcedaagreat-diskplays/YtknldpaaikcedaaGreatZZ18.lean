/-
  carillonref04's Crash, on lists.
-/
import Derived.Test.YtknldpaaikcedaaGreatZZ17
import Derived.Test.YtknldpaaikcedaaGreatZZ12
import Derived.Test.YtknldpaaikcedaaGreatZGF
namespace Go.Proofs.YtknldpaaikcedaaGreat
open Go.RowKit

theorem zkept_fits (s : ByteArray) (l : List ZU) (n : Int) (h : zfits s l) : zfits s (zkept l n) := by
  induction l generalizing s n with
  | nil => exact trivial
  | cons u l ih =>
    rw [zkept]
    split
    · exact trivial
    · rename_i hn
      split
      · rename_i hu
        by_cases hc : n ≤ (u.s.size : Int)
        · have e : min n (u.s.size : Int) = n := by omega
          rw [e, zkept_none _ _ (by omega)]
          exact ⟨fun h0 => by simp only at h0; omega, trivial⟩
        · have e : min n (u.s.size : Int) = (u.s.size : Int) := by omega
          have e2 : u.s.extract 0 (u.s.size : Int).toNat = u.s := by simp
          rw [e, e2]
          exact ⟨h.1, ih _ _ h.2⟩
      · exact ⟨h.1, ih _ _ h.2⟩
theorem zkept_sum (l : List ZU) (n : Int) : zsum (zkept l n) ≤ zsum l := by
  induction l generalizing n with
  | nil => exact Nat.le_refl _
  | cons u l ih =>
    rw [zkept]
    split
    · exact Nat.zero_le _
    · split
      · have := ih (n - min n (u.s.size : Int))
        simp only [zsum, ByteArray.size_extract]
        omega
      · have := ih (n - 1)
        simp only [zsum]
        omega
theorem zkept_num (l : List ZU) (n : Int) (P : Int → Prop) (h : ∀ u ∈ l, P u.n) : ∀ u ∈ zkept l n, P u.n := by
  induction l generalizing n with
  | nil => exact h
  | cons u l ih =>
    rw [zkept]
    split
    · intro u hu; cases hu
    · split
      · intro v hv
        rcases List.mem_cons.1 hv with rfl | hv
        · exact h u List.mem_cons_self
        · exact ih _ (fun x hx => h x (List.mem_cons_of_mem _ hx)) v hv
      · intro v hv
        rcases List.mem_cons.1 hv with rfl | hv
        · exact h v List.mem_cons_self
        · exact ih _ (fun x hx => h x (List.mem_cons_of_mem _ hx)) v hv
/-- A file behind a crash that keeps n units. -/
def ZF.crashed (f : ZF) (n : Int) : ZF := ⟨zdone f.lasts (zkept f.since n), []⟩
theorem crashed_size (f : ZF) (n : Int) : (f.crashed n).lasts.size ≤ f.lasts.size + zsum f.since := by
  have h1 := zdone_size f.lasts (zkept f.since n)
  have h2 := zkept_sum f.since n
  show (zdone f.lasts (zkept f.since n)).size ≤ _
  omega
theorem crashed_ok {f : ZF} (h : f.ok) (n : Int) : (f.crashed n).ok := by
  have := crashed_size f n
  have := h.big
  exact ⟨trivial, by simp only [ZF.crashed, zsum] at *; omega, fun u hu => (by cases hu), Nat.zero_le _⟩
def zcrash1 (fs : List ZF) (id : Nat) (n : Int) : List ZF := fs.set id ((fs.getD id ⟨⟨#[]⟩, []⟩).crashed n)
def zcrashN (D : List ZN) (us : List Int) (fs : List ZF) : Nat → List ZF
  | 0 => fs
  | i + 1 => zcrash1 (zcrashN D us fs i) (D.getD i (⟨#[]⟩, 0)).2 (us.getD i 0)
theorem zcrashN_length (D : List ZN) (us : List Int) (fs : List ZF) (i : Nat) : (zcrashN D us fs i).length = fs.length := by
  induction i with
  | zero => rfl
  | succ i ih => rw [zcrashN, zcrash1, List.length_set, ih]
/-- The directory behind some of its acts. -/
def zfold (l : List ZN) (xs : List ZS) : List ZN := xs.foldl zgone l
theorem zfold_snoc (l : List ZN) (xs : List ZS) (i : Nat) (h : i < xs.length) : zfold l (xs.take (i + 1)) = zgone (zfold l (xs.take i)) xs[i] := by
  unfold zfold
  rw [List.take_succ_eq_append_getElem h, List.foldl_append]
  rfl
theorem zgone_le (l : List ZN) (x : ZS) : (zgone l x).length ≤ l.length + 1 := by
  unfold zgone
  have h1 := zwith_le l x.a x.id
  have h2 := zwith_le (zwithout l x.a) x.b (zfind l x.a).toNat
  have h3 := zwithout_le l x.a
  split
  · exact h1
  · split <;> omega
theorem zfold_le (l : List ZN) (xs : List ZS) : (zfold l xs).length ≤ l.length + xs.length := by
  unfold zfold
  induction xs generalizing l with
  | nil => simp
  | cons x xs ih =>
    have h1 := ih (zgone l x)
    have h2 := zgone_le l x
    simp only [List.foldl_cons, List.length_cons]
    omega
/-- How many acts a crash keeps. -/
def zmany (dirs : Int) (m : Nat) : Nat := min dirs.toNat m
def RD.crash (S : RD) (dirs : Int) (us : List Int) : RD :=
  let D := zfold S.lasts (S.since.take (zmany dirs S.since.length))
  ⟨S.room, -1, false, zcrashN D us S.files D.length, D, D, []⟩
end Go.Proofs.YtknldpaaikcedaaGreat
