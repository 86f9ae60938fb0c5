/-
  The document's own All, as it runs.
-/
import Derived.Test.YtlalfehnkhenjaaDoorC3
import Derived.Laws.AppendOwn
import Derived.Laws.OwnMore
namespace Go.Proofs.YtlalfehnkhenjaaDoor
open Go.RowKit

def strCells (l : List (List UInt8)) : List Value := l.map fun b => .string ⟨b.toArray⟩
theorem strCells_snoc (l : List (List UInt8)) (b : List UInt8) : strCells (l ++ [b]) = strCells l ++ [.string ⟨b.toArray⟩] := by simp [strCells]

theorem takeF_ok (s : List UInt8) (h : (takeF s).2.2 = 0) : 8 ≤ (takeF s).2.1 ∧ (takeF s).2.1 ≤ s.length := by
  unfold takeF at *
  by_cases h1 : s.length < 4
  · rw [if_pos h1] at h; simp at h
  · rw [if_neg h1] at h ⊢
    by_cases h2 : 400000 < Lib.beNat (s.take 4)
    · rw [if_pos h2] at h; simp at h
    · rw [if_neg h2] at h ⊢
      by_cases h3 : s.length < 8 + Lib.beNat (s.take 4)
      · rw [if_pos h3] at h; simp at h
      · rw [if_neg h3] at h ⊢
        by_cases h4 : Lib.beNat ((s.drop 4).take 4) ≠ sumF (s.take 4 ++ (s.drop 8).take (Lib.beNat (s.take 4)))
        · rw [if_pos h4] at h; simp at h
        · rw [if_neg h4]
          exact ⟨by simp, by simp only; omega⟩

/-- What is left to tell comes, behind what was told, to the result. -/
structure AI (s : List UInt8) (out : List (List UInt8)) (used : Nat) (R : List (List UInt8) × Nat × Int) : Prop where
  le : used ≤ s.length
  many : 8 * out.length ≤ used
  spec : ∃ f, s.length - used < f ∧ R = (out ++ (allF f (s.drop used)).1, used + (allF f (s.drop used)).2.1, (allF f (s.drop used)).2.2)

theorem AI.init (s : List UInt8) : AI s [] 0 (allF (s.length + 1) s) := ⟨Nat.zero_le _, by simp, s.length + 1, by omega, by simp⟩
theorem AI.done {s : List UInt8} {out : List (List UInt8)} {used : Nat} {R : List (List UInt8) × Nat × Int} (h : AI s out used R) (he : used = s.length) : R = (out, used, 0) := by
  obtain ⟨f, hf, hR⟩ := h.spec
  obtain ⟨g, rfl⟩ : ∃ g, f = g + 1 := ⟨f - 1, by omega⟩
  rw [hR, List.drop_of_length_le (by omega), allF, if_pos rfl]
  simp
theorem AI.ne {s : List UInt8} {used : Nat} (h : used < s.length) : s.drop used ≠ [] := by
  intro e
  have := congrArg List.length e
  simp at this
  omega
theorem AI.fault {s : List UInt8} {out : List (List UInt8)} {used : Nat} {R : List (List UInt8) × Nat × Int} (h : AI s out used R) (hl : used < s.length) (he : (takeF (s.drop used)).2.2 ≠ 0) : R = (out, used, (takeF (s.drop used)).2.2) := by
  obtain ⟨f, hf, hR⟩ := h.spec
  obtain ⟨g, rfl⟩ : ∃ g, f = g + 1 := ⟨f - 1, by omega⟩
  rw [hR, allF, if_neg (AI.ne hl), if_neg he]
  simp
theorem AI.next {s : List UInt8} {out : List (List UInt8)} {used : Nat} {R : List (List UInt8) × Nat × Int} (h : AI s out used R) (hl : used < s.length) (he : (takeF (s.drop used)).2.2 = 0) : AI s (out ++ [(takeF (s.drop used)).1]) (used + (takeF (s.drop used)).2.1) R ∧ 0 < (takeF (s.drop used)).2.1 := by
  obtain ⟨h1, h2⟩ := takeF_ok _ he
  rw [List.length_drop] at h2
  have hm := h.many
  refine ⟨⟨by omega, by rw [List.length_append, List.length_singleton]; omega, ?_⟩, by omega⟩
  obtain ⟨f, hf, hR⟩ := h.spec
  obtain ⟨g, rfl⟩ : ∃ g, f = g + 1 := ⟨f - 1, by omega⟩
  refine ⟨g, by omega, ?_⟩
  rw [hR, allF, if_neg (AI.ne hl), if_pos he, List.drop_drop]
  refine Prod.ext ?_ (Prod.ext ?_ rfl)
  · simp
  · simp only; omega

theorem AI.fits {s : List UInt8} {out : List (List UInt8)} {used : Nat} {R : List (List UInt8) × Nat × Int} (h : AI s out used R) : out.length ≤ R.1.length := by
  obtain ⟨f, _, hR⟩ := h.spec
  rw [hR]
  simp

/-- The world in a round: the list that grows. -/
structure AS (w w' : World) (v : Value) (l : List (List UInt8)) : Prop where
  below : Below w.heap.size w w'
  own : w'.ownsRow w.heap.size 9 1 v l.length (strCells l)

theorem nil_owned (w : World) (b : Nat) (e : TypeId) (z : Nat) : w.ownsRow b e z (.slice none 0 0) 0 [] := ⟨by simp, Or.inl ⟨rfl, rfl⟩⟩
theorem own_below {w w' : World} {B N : Nat} {e : TypeId} {size : Nat} {v : Value} {n : Nat} {xs : List Value} (h : w.ownsRow B e size v n xs) (hb : Below N w w') (hN : w.heap.size ≤ N) : w'.ownsRow B e size v n xs := by
  refine ⟨h.1, ?_⟩
  rcases h.2 with h2 | ⟨g, cap, cur, hv, hg, hh, r⟩
  · exact Or.inl h2
  · exact Or.inr ⟨g, cap, cur, hv, hg, by rw [hb.block g (by have := (Array.getElem?_eq_some_iff.1 hh).1; omega)]; exact hh, r⟩
theorem own_shape {w : World} {B : Nat} {e : TypeId} {size : Nat} {v : Value} {n : Nat} {xs : List Value} (h : w.ownsRow B e size v n xs) : ∃ ao cap, v = .slice ao n cap := by
  rcases h.2 with ⟨h2, h3⟩ | ⟨g, cap, cur, hv, r⟩
  · exact ⟨none, 0, by rw [h2, h3]⟩
  · exact ⟨_, _, hv⟩
theorem AS.init (w : World) : AS w w (.slice none 0 0) [] := ⟨Below.refl _ _, nil_owned _ _ _ _⟩
theorem AS.after {w w' w2 : World} {v : Value} {l : List (List UInt8)} (h : AS w w' v l) (hb : Below w'.heap.size w' w2) : AS w w2 v l :=
  ⟨h.below.trans (hb.mono h.below.size), own_below h.own hb (Nat.le_refl _)⟩
theorem AS.append {w w' w4 : World} {v v' : Value} {l : List (List UInt8)} {b : List UInt8} {o : Obj} (h : AS w w' v l) (hg : (w'.alloc o).grownBy w4 v.ownBlock) (hown : w4.ownsRow w.heap.size 9 1 v' (l.length + 1) (strCells l ++ [.string ⟨b.toArray⟩])) : AS w w4 v' (l ++ [b]) := by
  have hs := h.below.size
  refine ⟨(h.below.alloc (by omega) o).grown hg (by simp; omega) (fun k hk => (h.own.lt k hk).1), ?_⟩
  rw [List.length_append, List.length_singleton, strCells_snoc]; exact hown

theorem cells_new1 (W : World) (a : Value) (t : TypeId) (n : Nat) (hn : n = W.heap.size) : ∀ (j : Nat) (u : Value), [a][j]? = some u → (W.alloc (.cells #[a] t)).cell? ((⟨n, 0, none⟩ : Addr).add j) = some u := by
  subst hn
  intro j u hj
  match j, hj with
  | 0, hj => simp at hj; subst hj; simp [Addr.add]
  | j + 1, hj => simp at hj
theorem Tryd.infoStr : Tryd.prog.info? 9 = some Tryd.t9 := by kernel_rfl
theorem Tryd.zeroStr : Tryd.t9.zero = some (.string ⟨#[]⟩) := by kernel_rfl
theorem Tryd.sizeStr : Tryd.t9.size = 1 := by kernel_rfl
theorem Tryd.bytesStr : Tryd.t9.bytes = 16 := by kernel_rfl

set_option maxHeartbeats 1000000 in
set_option maxRecDepth 100000 in
theorem rall_any (s : ByteArray) (w : World) (h63 : s.size ≤ 17592186044416) (R : List (List UInt8) × Nat × Int) (hI : AI s.data.toList [] 0 R) :
    Calls Tryd.prog 18 #[.string s] w fun e w' => ∃ v, e = .returned (.tuple #[v, .int .i64 R.2.1, .int .i64 R.2.2]) ∧ w'.ownsRow w.heap.size 9 1 v R.1.length (strCells R.1) ∧ Below w.heap.size w w' := by
  have HI := hide hI
  clear hI
  go_enter Tryd.func18, Tryd.ntmps18
  go_wp2
  go_loopw [5, 6] (fun v i wv => ∃ (used : Nat) (out : List (List UInt8)), i = .int .i64 used ∧ AI s.data.toList out used R ∧ AS w wv v out) (fun _ i _ => s.size - (intOf i).toNat)
  case atStart => exact ⟨0, [], rfl, HI.out, AS.init w⟩
  case round =>
    obtain ⟨used, out, rfl, hA, hS⟩ := hrel
    have HA := hide hA
    have HS := hide hS
    have hle := hA.le
    have hmany := hA.many
    rw [size_list] at hle
    obtain ⟨oo, ocap, rfl⟩ := own_shape hS.own
    clear hA hS
    by_cases hlt : used < s.size
    · have hl2 : used < s.data.toList.length := by rw [size_list]; exact hlt
      have hcall := fun w => rtake_any (s.extract used s.size) w (by simp; omega)
      have hd : (s.extract used s.size).data.toList = s.data.toList.drop used := by
        rw [ext_data, List.take_of_length_le (by rw [List.length_drop, size_list]; omega)]
      have hfault := HA.out.fault hl2
      have hnext := HA.out.next hl2
      have hok := takeF_ok (s.data.toList.drop used)
      rw [hd] at hcall
      rw [List.length_drop, size_list] at hok
      generalize takeF (s.data.toList.drop used) = r at *
      obtain ⟨b, n, er⟩ := r
      have HC : Hid (∀ w, Calls Tryd.prog 17 #[.string (s.extract used s.size)] w fun e w' => e = .returned (.tuple #[.string ⟨b.toArray⟩, .int .i64 n, .int .i64 er]) ∧ Below w.heap.size w w') := hcall
      clear hcall hd hl2
      by_cases he : er = 0
      · subst he
        have HN := hide (hnext rfl)
        obtain ⟨hn1, hn2⟩ := hok rfl
        simp only at hn1 hn2
        clear hfault hnext hok
        go_wp2_with fail
        refine (HC.out _).mono ?_
        rintro e w2 ⟨rfl, hb⟩
        have HS2 := hide (HS.out.after hb)
        clear hb
        go_wp2_with (at_builtin; refine wpList_append_own _ rfl _ _ 37 rfl w.heap.size 9 Tryd.t9 (.string ⟨#[]⟩) 1 16 Tryd.underlying37 ?hi ?hz ?hs ?hby rfl (by decide) _ _ _ rfl (HS2.out.own.alloc _) ⟨_, 0, none⟩ 1 1 [.string ⟨b.toArray⟩] rfl rfl ?hnews ?h1 ?h63 ?hb47 ?hbase ?_)
        case hi => exact Tryd.infoStr
        case hz => exact Tryd.zeroStr
        case hs => exact Tryd.sizeStr
        case hby => exact Tryd.bytesStr
        case hnews => exact cells_new1 _ _ _ _ rfl
        case h1 =>
          intro u hu
          simp at hu
          subst hu
          rfl
        case h63 => unfold maxLen; omega
        case hb47 => omega
        case hbase => have := HS2.out.below.size; simp; omega
        intro v' w4 hown hgrow _
        have HS4 := hide (HS2.out.append hgrow hown)
        clear hown hgrow
        go_wp2
        exact ⟨⟨used + n, out ++ [b], by go_num, HN.out.1, HS4.out⟩, by simp [intOf]; omega⟩
      · have hne : (er != 0) = true := by rw [bne_iff_ne]; exact he
        have HE := hide (hfault he)
        clear hfault hnext hok he
        go_wp2_with fail
        refine (HC.out _).mono ?_
        rintro e w2 ⟨rfl, hb⟩
        have HS2 := hide (HS.out.after hb)
        clear hb
        go_wp2
        refine bodyPost_ret (v := .tuple #[.slice oo out.length ocap, .int .i64 used, .int .i64 er]) (by simp [results, Tryd.results18, go_sem]) rfl ⟨_, by rw [HE.out], by rw [HE.out]; exact HS2.out.own, HS2.out.below⟩
    · have HE := hide (HA.out.done (by rw [size_list]; omega))
      go_wp2
      refine bodyPost_ret (v := .tuple #[.slice oo out.length ocap, .int .i64 used, .int .i64 0]) (by simp [results, Tryd.results18, go_sem]) rfl ⟨_, by rw [HE.out], by rw [HE.out]; exact HS.out.own, HS.out.below⟩

end Go.Proofs.YtlalfehnkhenjaaDoor
