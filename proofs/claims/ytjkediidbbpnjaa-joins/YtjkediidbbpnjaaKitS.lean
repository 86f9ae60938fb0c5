/-
  A slice of texts that came in.
-/
import Derived.Test.YtjkediidbbpnjaaKit
import Derived.Test.YtjkediidbbpnjaaJoinsW
namespace Go.Proofs.Ytjkediidbbpnjaa
open Go.ChangeShapes Go.WideShapes Go.ChangeAt Go.RowKit Go.Deep

theorem cellsString : Try.prog.cellsOf 9 = 1 := by kernel_rfl
theorem bytesString : Try.prog.bytesOf 9 = 16 := by kernel_rfl
theorem size_list (s : ByteArray) : s.data.toList.length = s.size := by simp
theorem mk_list (s : ByteArray) : (⟨s.data.toList.toArray⟩ : ByteArray) = s := by simp
theorem addr_add (b off n : Nat) : (⟨b, off, none⟩ : Addr).add n = ⟨b, off + n, none⟩ := by
  unfold Addr.add
  split
  · rename_i h; subst h; rfl
  · rfl

/-- A slice of texts that came in, read. -/
theorem strs_open {H : Type} {enc : TypeId × Value → H} {W : World} {a0 : Option Addr} {len cap : Nat} {d : DataW H} {p : List MemPlace} (h : DataW.Trod enc Try.prog W 0 (fun _ => true) true 47 (.slice a0 len cap) d p) :
    ∃ l : List (List UInt8), l.length = len ∧ StrsAt W a0 l ∧ (∀ x ∈ l, x.length ≤ maxLen) ∧ len ≤ cap ∧ cap ≤ maxLen ∧ ((d = .nil ∧ len = 0) ∨ ∃ sp, d = .slice (l.map fun x => .lit (.string x)) sp) := by
  obtain ⟨fuel, hf⟩ := h
  rcases open_slice Try.underlying47 hf with ⟨hcs, hx⟩ | ⟨a, l', c', m, n, D, Pl, hcs, _, hl, hm, hmm, hx, hel⟩
  · simp [Value.cells] at hcs
    obtain ⟨rfl, rfl, rfl⟩ := hcs
    refine ⟨[], rfl, fun i hi => by simp at hi, by simp, Nat.le_refl _, Nat.zero_le _, Or.inl ⟨?_, rfl⟩⟩
    exact congrArg Prod.fst hx
  · simp [Value.cells] at hcs
    obtain ⟨rfl, rfl, rfl⟩ := hcs
    simp only [if_true] at hmm
    subst hmm
    rw [cellsString] at hel
    have hch : ∀ i, i < len → ∃ y : List UInt8, y.length ≤ maxLen ∧ W.cells? 0 (a.add (i * 1)) 1 = some [.string ⟨y.toArray⟩] ∧ D i = .lit (.string y) := by
      intro i hi
      obtain ⟨cs', h1, h2⟩ := hel i (by omega)
      obtain ⟨s, e2, e3, w2⟩ := DataW.trod_string Try.underlying9 h2
      subst e2
      exact ⟨s.data.toList, by rw [size_list]; exact w2, by rw [mk_list]; exact h1, congrArg Prod.fst e3⟩
    obtain ⟨f, hfy⟩ := @choose_lt (List UInt8) ⟨[]⟩ len (fun i y => y.length ≤ maxLen ∧ W.cells? 0 (a.add (i * 1)) 1 = some [.string ⟨y.toArray⟩] ∧ D i = .lit (.string y)) hch
    have hDf : (List.range len).map D = ((List.range len).map f).map fun x => .lit (.string x) := by
      rw [List.map_map]
      exact List.map_congr_left fun i hi => (hfy i (List.mem_range.1 hi)).2.2
    refine ⟨(List.range len).map f, by simp, ?_, ?_, hl, hm, Or.inr ⟨_, by rw [← hDf]; exact congrArg Prod.fst hx⟩⟩
    · intro i hi
      have hi' : i < len := by simpa using hi
      obtain ⟨_, h1, _⟩ := hfy i hi'
      have hb := World.cells?_block h1 (by omega)
      obtain ⟨b, off, spot⟩ := a
      have hb' : b < W.heap.size := by
        have e : ((⟨b, off, spot⟩ : Addr).add (i * 1)).block = b := by unfold Addr.add; split <;> rfl
        rw [e] at hb; exact hb
      have hspot : spot = none := by
        obtain ⟨_, h0, _⟩ := hfy 0 (by omega)
        have h2 := (World.cells?_some h0).2.2 0 (by omega)
        have h3 : W.cell? (⟨b, off, spot⟩ : Addr) = some (.string ⟨(f 0).toArray⟩) := h2
        exact World.cell?_spot h3
      subst hspot
      have h2 := (World.cells?_some h1).2.2
      rw [addr_add] at h2
      have g0 := h2 0 (by omega)
      rw [addr_add] at g0
      have e : ((List.range len).map f)[i] = f i := by simp
      refine ⟨b, off, rfl, hb', ?_⟩
      rw [e]
      simpa using g0
    · intro x hx
      obtain ⟨i, hi, rfl⟩ := List.mem_map.1 hx
      exact (hfy i (List.mem_range.1 hi)).1

/-- A slice's bytes are within reach: so is its length. -/
theorem strs_reach {H : Type} {ds : List (DataW H)} {ts : List TypeId} {j : Nat} {d : DataW H} {l : List (List UInt8)} (hsz : (DataW.weightsEach Try.prog ts ds).all (· ≤ reachBytes) = true) (ht : ts[j]? = some 47) (hd : ds[j]? = some d)
    (h : (d = .nil ∧ l.length = 0) ∨ ∃ sp, d = .slice (l.map fun x => .lit (.string x)) sp) : l.length ≤ 8796093021952 := by
  rcases h with ⟨_, h0⟩ | ⟨sp, rfl⟩
  · omega
  · have := sized_slice hsz ht hd Try.underlying47
    rw [bytesString, List.length_map] at this
    simp only [reachBytes] at this
    omega

theorem all_mem {H : Type} {P : Program} {e : TypeId} (l : List (List UInt8)) (x : List UInt8) (hx : x ∈ l) : x.length ∈ DataW.weightsAll P e (l.map fun x => (.lit (.string x) : DataW H)) := by
  induction l with
  | nil => simp at hx
  | cons y l ih =>
    simp only [List.map_cons, DataW.weightsAll, DataW.weights, List.mem_append]
    rcases List.mem_cons.1 hx with rfl | h
    · exact Or.inl (by simp)
    · exact Or.inr (ih h)
/-- So is each text's. -/
theorem strs_each {H : Type} {ds : List (DataW H)} {ts : List TypeId} {j : Nat} {d : DataW H} {l : List (List UInt8)} (hsz : (DataW.weightsEach Try.prog ts ds).all (· ≤ reachBytes) = true) (ht : ts[j]? = some 47) (hd : ds[j]? = some d)
    (h : (d = .nil ∧ l.length = 0) ∨ ∃ sp, d = .slice (l.map fun x => .lit (.string x)) sp) : ∀ x ∈ l, x.length ≤ 281474976710656 := by
  intro x hx
  rcases h with ⟨_, h0⟩ | ⟨sp, rfl⟩
  · rw [List.length_eq_zero_iff] at h0
    rw [h0] at hx
    simp at hx
  · have h1 : x.length ∈ (DataW.slice (l.map fun x => (.lit (.string x) : DataW H)) sp).weights Try.prog 47 := by
      simp only [DataW.weights, Try.underlying47, List.mem_cons, List.mem_append]
      exact Or.inr (Or.inl (all_mem l x hx))
    have h2 := List.all_eq_true.1 hsz _ (DataW.weights_mem_each ht hd _ h1)
    have h3 : x.length ≤ reachBytes := by simpa using h2
    simp only [reachBytes] at h3
    omega

end Go.Proofs.Ytjkediidbbpnjaa
