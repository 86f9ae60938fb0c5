/-
  Steps of regions that DiskWhole draws: append, and a text taken out of a list.
-/
import Derived.Test.YtdlaicbdconbcaaWMem
import Derived.Maps.AppendAt
import Derived.Deep.RegionHeldLaw
namespace Go.Proofs.Ytdlaicbdconbcaa
open Go.RowKit Go.Maps Go.Sort

/-- append, as one step of a region that draws its order; what is appended may be nothing. -/
theorem step_append_at {P : Program} {w : World} {ops : Array Oper} {o : Oper} {a : Act} {K : Act → World → Prop} {Q : Exit → Act → World → Prop} {E : Prop} (hgd : o.guard = none) (s x : Operand) (t : TypeId)
    (ho : o.op = .call { callee := .builtin .append, args := #[s, x], argTypes := #[t, t] })
    (base : Nat) (e : TypeId) (i : TypeInfo) (z : Value) (size bytes : Nat) (ht : P.underlying t = some (.slice e)) (hi : P.info? e = some i) (hz : i.zero = some z)
    (hsize : i.size = size) (hby : i.bytes = bytes) (hzs : z.cells.size = size) (hsz : 0 < size)
    (v : Value) (n : Nat) (xs : List Value) (hs : a.eval s = v) (hown : w.ownsRow base e size v n xs)
    (ad : Addr) (m c : Nat) (news : List Value) (hx : a.eval x = .slice (some ad) m c) (hl : news.length = m * size) (hnews : ∀ j u, news[j]? = some u → w.cell? (ad.add j) = some u) (h1 : ∀ u ∈ news, u.oneCell' = true)
    (h63 : n + m ≤ maxLen) (hbytes : (n + m) * bytes ≤ 140737488355328) (hbase : base ≤ w.heap.size)
    (h : ∀ ao cp w', w'.ownsRow base e size (.slice ao (n + m) cp) (n + m) (xs ++ news) → w.grownBy w' v.ownBlock → ((Value.slice ao (n + m) cp).ownBlock = v.ownBlock ∨ (Value.slice ao (n + m) cp).ownBlock = some w.heap.size) → K (a.put o.dst (.slice ao (n + m) cp)) w') :
    if Region.wanted o (yielded ops a.tmps) = true then Oper.wp P o a w K Q else E := by
  have hw : Region.wanted o (yielded ops a.tmps) = true := by simp [Region.wanted, hgd]
  rw [if_pos hw]
  obtain ⟨v', w', hr, h2, h3, h4, h5⟩ := run_append_own_at (P := P) w base t o.type e i z size bytes ht hi hz hsize hby hzs hsz v n xs hown ad m c news hl hnews h1 h63 hbytes hbase
  obtain ⟨ao, cp, rfl⟩ := row_slice h2
  unfold Oper.wp execOp
  simp only [ho, resolve, invoke, builtin, Sem.run_bind, Sem.run_pure, Result.andThen_ok, List.map_toArray, List.map_cons, List.map_nil, hs, hx, hr]
  exact h ao cp w' h2 h3 h5
theorem tail_at {xs : List Value} {w3 : World} {g cap k : Nat} (hc : ∀ j u, xs[j]? = some u → w3.cell? ⟨g, j, none⟩ = some u) (hl : xs.length ≤ cap) : ∃ AD : Addr, (if cap = k + 1 then some (⟨g, 0, none⟩ : Addr) else some ⟨g, k + 1, none⟩) = some AD ∧
    ∀ w5, w3.drew.grownBy w5 none → ∀ j u, (xs.drop (k + 1))[j]? = some u → w5.cell? (AD.add j) = some u := by
  by_cases h : cap = k + 1
  · refine ⟨⟨g, 0, none⟩, by simp [h], fun w5 _ j u hu => ?_⟩
    rw [List.drop_of_length_le (by omega)] at hu
    simp at hu
  · refine ⟨⟨g, k + 1, none⟩, by simp [h], fun w5 hg j u hu => ?_⟩
    rw [Addr.add_lit]
    refine hg.cell (w := w3.drew) (hc (k + 1 + j) u ?_) (by simp)
    rw [List.getElem?_drop] at hu
    exact hu
theorem head_at {xs : List Value} {w3 : World} {g k : Nat} (hc : ∀ j u, xs[j]? = some u → w3.cell? ⟨g, j, none⟩ = some u) : ∀ j u, (xs.take k)[j]? = some u → w3.drew.cell? ((⟨g, 0, none⟩ : Addr).add j) = some u := by
  intro j u hu
  rw [Addr.add_lit]
  have h : w3.cell? ⟨g, 0 + j, none⟩ = some u := by
    rw [Nat.zero_add]
    refine hc j u ?_
    rw [List.getElem?_take] at hu
    split at hu
    · exact hu
    · simp at hu
  exact h
theorem one_take (l : List (List UInt8)) (k : Nat) : ∀ u ∈ (l.map encStr).take k, u.oneCell' = true := fun u hu => by
  obtain ⟨x, _, rfl⟩ := List.mem_map.1 (List.mem_of_mem_take hu)
  rfl
theorem one_drop (l : List (List UInt8)) (k : Nat) : ∀ u ∈ (l.map encStr).drop k, u.oneCell' = true := fun u hu => by
  obtain ⟨x, _, rfl⟩ := List.mem_map.1 (List.mem_of_mem_drop hu)
  rfl
/-- A row of texts: where it lies, and its cells. -/
theorem row_form {w : World} {base : Nat} {ao : Option Addr} {c : Nat} {L : List (List UInt8)} (h : w.ownsRow base 9 1 (.slice ao L.length c) L.length (L.map encStr)) (hp : 0 < L.length) : ∃ g, ao = some ⟨g, 0, none⟩ ∧ L.length ≤ c ∧ c ≤ 9223372036854775807 ∧ (∀ j u, (L.map encStr)[j]? = some u → w.cell? ⟨g, j, none⟩ = some u) := by
  rcases h.2 with ⟨h0, h1⟩ | ⟨g, cap, cur, h1, _, _, h4, h5, _⟩
  · omega
  · cases h1
    refine ⟨g, rfl, h4, by simpa [maxLen] using h5, fun j u hu => ?_⟩
    have h2 := h.cells rfl j u hu
    rw [Addr.add_lit] at h2
    simpa using h2
section
variable {w wv w5 w6 : World} {b : Nat} {G : DG} {N B : List (List UInt8)} {no bo a5 a6 : Option Addr} {nc bc c5 c6 n5 n6 k : Nat}
theorem gone_touch (h1 : wv.drew.grownBy w5 (Value.slice none 0 0).ownBlock) (h3 : (Value.slice a5 n5 c5).ownBlock = (Value.slice none 0 0).ownBlock ∨ (Value.slice a5 n5 c5).ownBlock = some wv.drew.heap.size) (h5 : w5.grownBy w6 (Value.slice a5 n5 c5).ownBlock)
    (h6 : (Value.slice a6 n6 c6).ownBlock = (Value.slice a5 n5 c5).ownBlock ∨ (Value.slice a6 n6 c6).ownBlock = some w5.heap.size) : Touch (fun _ => False) wv w6 ∧ (a6.map Addr.block = none ∨ ∃ j, a6.map Addr.block = some j ∧ wv.heap.size ≤ j) := by
  have e3 : wv.drew.heap.size = wv.heap.size := rfl
  have hs : wv.heap.size ≤ w5.heap.size := h1.size
  have T1 : Touch (fun _ => False) wv w5 := ((Touch.refl _ wv).drew).grown h1 fun j e _ => by cases e
  refine ⟨T1.grown h5 fun j e hj => ?_, ?_⟩
  · rcases h3 with h3 | h3
    · rw [h3] at e; cases e
    · rw [h3] at e
      have e2 := Option.some.inj e
      omega
  · rw [sliceBlock] at h6
    rcases h6 with h6 | h6
    · rcases h3 with h3 | h3
      · exact .inl (h6.trans h3)
      · exact .inr ⟨_, h6.trans h3, by omega⟩
    · exact .inr ⟨_, h6, hs⟩
theorem gone_row {base : Nat} (hk : k < N.length) (h4 : w6.ownsRow base 9 1 (.slice a6 n6 c6) n6 (([] ++ (N.map encStr).take k) ++ (N.map encStr).drop (k + 1))) (hn : n6 = N.length - 1) : w6.ownsRow base 9 1 (.slice a6 (N.eraseIdx k).length c6) (N.eraseIdx k).length ((N.eraseIdx k).map encStr) := by
  rw [List.length_eraseIdx_of_lt hk, ← hn, List.eraseIdx_eq_take_drop_succ, List.map_append, List.map_take, List.map_drop]
  exact h4
theorem WMem.namesNew {N' : List (List UInt8)} (h : WMem w wv b G N B no nc bo bc) (ht : Touch (fun _ => False) wv w6) (hr : w6.ownsRow w.heap.size 9 1 (.slice a6 N'.length c6) N'.length (N'.map encStr)) (hl : a6.map Addr.block = none ∨ ∃ j, a6.map Addr.block = some j ∧ wv.heap.size ≤ j) : WMem w w6 b G N' B a6 c6 bo bc := by
  rcases hl with e | e
  · exact ⟨h.rep.keep ht fun _ x => x.elim, hr, ht.row h.rb fun _ _ x => x, h.below.trans (ht.toBelow h.below.size fun _ _ x => x), h.own, (fun j x => by rw [e] at x; cases x), h.db, (fun j x => by rw [e] at x; cases x)⟩
  · exact h.names ht (fun _ x => x.elim) hr (.inr e)
theorem WMem.bytesNew {B' : List (List UInt8)} (h : WMem w wv b G N B no nc bo bc) (ht : Touch (fun _ => False) wv w6) (hr : w6.ownsRow w.heap.size 9 1 (.slice a6 B'.length c6) B'.length (B'.map encStr)) (hl : a6.map Addr.block = none ∨ ∃ j, a6.map Addr.block = some j ∧ wv.heap.size ≤ j) : WMem w w6 b G N B' no nc a6 c6 := by
  rcases hl with e | e
  · exact ⟨h.rep.keep ht fun _ x => x.elim, ht.row h.rn fun _ _ x => x, hr, h.below.trans (ht.toBelow h.below.size fun _ _ x => x), h.own, h.dn, (fun j x => by rw [e] at x; cases x), (fun j _ x => by rw [e] at x; cases x)⟩
  · exact h.bytes ht (fun _ x => x.elim) hr (.inr e)
theorem WRel.short {i m : Nat} {x y : List UInt8} (h : WRel wv b G N B i) (hx : N[m]? = some x) (hy : B[m]? = some y) : y.length ≤ 3600000 := by
  have hc := h.hit m x y hx hy
  unfold cont at hc
  obtain ⟨f, hg, hf⟩ := Option.bind_eq_some_iff.1 hc
  obtain ⟨F, hF, rfl⟩ := Option.map_eq_some_iff.1 hf
  have h1 := usedE_split h.rep.now hg G.file
  have h2 : flenF G.file f = F.now.length := by unfold flenF; rw [hF]
  have h3 := h.used
  rw [used_eq h.rep] at h3
  omega
theorem cat_str (y : List UInt8) (c : ByteArray) : (⟨y.toArray⟩ : ByteArray) ++ c = ⟨(y ++ c.data.toList).toArray⟩ := by
  apply ByteArray.ext
  rw [ByteArray.data_append]
  simp
theorem take_str (y : List UInt8) (n : Nat) : (⟨y.toArray⟩ : ByteArray).extract 0 n = ⟨(y.take n).toArray⟩ := by
  apply ByteArray.ext
  apply Array.ext'
  simp
end
end Go.Proofs.Ytdlaicbdconbcaa
