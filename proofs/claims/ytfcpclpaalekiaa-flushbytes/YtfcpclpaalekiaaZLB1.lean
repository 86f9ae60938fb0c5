/-
  ViewBytes: its regions (mklb.py).
-/
import Derived.Test.YtfcpclpaalekiaaZVD1
import Derived.Test.YtfcpclpaalekiaaZPW3
import Derived.Test.YtfcpclpaalekiaaZInv
import Derived.Test.YtfcpclpaalekiaaZVE2
namespace Go.Proofs.Ytfcpclpaalekiaa
open Go.RowKit
set_option maxHeartbeats 8000000
set_option maxRecDepth 100000
attribute [local go_sem ↓] Go.wp_at_zero Go.wp_at_succ
set_option linter.unusedSimpArgs false
set_option linter.unusedVariables false
theorem i64_wrap {n : Int} (h0 : -9223372036854775808 ≤ n) (h1 : n < 9223372036854775808) : IntKind.i64.wrap n = n := by
  simp only [IntKind.wrap, IntKind.bits, IntKind.signed]
  simp
  split <;> omega
theorem vd_r12 {K : Act → World → Prop} {c : Code} (hc : regOf (Try.f37.body.getD .skip) 12 = some c) (a : Act) {v : Vvd} {wq : World} {ob b off n cp i B k oc : Nat} {num nn nl : Int} {oo : Option Addr} {D : List MB} (hF : Fvd a v) (h4v : v.v4 = .slice (some ⟨b, off, none⟩) n cp) (h6v : v.v6 = .pointer (some ⟨ob, 0, none⟩)) (h7v : v.v7 = .int .i64 (i : Int)) (hi : i + 1 < n) (hn : n ≤ 1000) (hnn : 0 ≤ nn ∧ nn ≤ 9007199254740991 ∧ 0 ≤ nl ∧ nl ≤ 9007199254740991) (hO : wq.heap[ob]? = some (.cells #[.int .i64 num, .slice oo k oc] tView (0, 0))) (hR : wq.ownsRow B tMember 2 (.slice oo k oc) k (mbCells D)) (hk : k ≤ 1000) (hB : B ≤ wq.heap.size) (hne : ∀ j, (Value.slice oo k oc).ownBlock = some j → j ≠ ob)
    (hC : ∀ W, Touch (fun j => (Value.slice oo k oc).ownBlock = some j) wq W → W.cell? ⟨b, off + i * 3 + 1, none⟩ = some (.int .u64 nn) ∧ W.cell? ⟨b, off + (i + 1) * 3 + 1, none⟩ = some (.int .u64 nl))
    (hQ : ∀ a' w' oo' oc', Fvd a' v → Touch (fun j => j = ob ∨ (Value.slice oo k oc).ownBlock = some j) wq w' → w'.heap[ob]? = some (.cells #[.int .i64 num, .slice oo' (k + 1) oc'] tView (0, 0)) → w'.ownsRow B tMember 2 (.slice oo' (k + 1) oc') (k + 1) (mbCells (D ++ [⟨nn, nl⟩])) → (∀ j, (Value.slice oo' (k + 1) oc').ownBlock = some j → (Value.slice oo k oc).ownBlock = some j ∨ wq.heap.size ≤ j) → K a' w') :
    Code.wp Try.prog c (Exit.then K fun _ _ _ => False) a wq := by
  have HQ := hide hQ
  clear hQ
  obtain ⟨v0, v2, v3, v4, v5, v6, v7, v8⟩ := v
  simp only at h4v h6v h7v HQ
  subst h4v h6v h7v
  obtain ⟨u, rfl⟩ := frx_vd hF
  clear hF
  simp only [Try.f37, Option.getD_some, regOf] at hc
  injection hc with hc
  subst hc
  generalize u 1 = u1
  generalize u 9 = u9
  generalize u 10 = u10
  generalize u 11 = u11
  generalize u 12 = u12
  generalize u 13 = u13
  generalize u 14 = u14
  generalize u 15 = u15
  generalize u 16 = u16
  generalize u 17 = u17
  generalize u 18 = u18
  generalize u 19 = u19
  generalize u 20 = u20
  generalize u 21 = u21
  generalize u 22 = u22
  generalize u 23 = u23
  generalize u 24 = u24
  generalize u 25 = u25
  generalize u 26 = u26
  generalize u 27 = u27
  generalize u 28 = u28
  generalize u 29 = u29
  generalize u 30 = u30
  generalize u 31 = u31
  generalize u 32 = u32
  generalize u 33 = u33
  generalize u 34 = u34
  generalize u 35 = u35
  generalize u 36 = u36
  generalize u 37 = u37
  generalize u 38 = u38
  generalize u 39 = u39
  generalize u 40 = u40
  generalize u 41 = u41
  generalize u 42 = u42
  generalize u 43 = u43
  generalize u 44 = u44
  generalize u 45 = u45
  generalize u 46 = u46
  generalize u 47 = u47
  generalize u 48 = u48
  generalize u 49 = u49
  generalize u 50 = u50
  generalize u 51 = u51
  generalize u 52 = u52
  generalize u 53 = u53
  generalize u 54 = u54
  generalize u 55 = u55
  generalize u 56 = u56
  generalize u 57 = u57
  generalize u 58 = u58
  generalize u 59 = u59
  generalize u 60 = u60
  generalize u 61 = u61
  generalize u 62 = u62
  generalize u 63 = u63
  generalize u 64 = u64
  generalize u 65 = u65
  generalize u 66 = u66
  generalize u 67 = u67
  generalize u 68 = u68
  clear u
  obtain ⟨i0, hi0, hz0, hz1, hz2⟩ := info_parts infoMB
  obtain ⟨n1, n2, n3, n4⟩ := hnn
  have q1 : IntKind.i64.wrap nn = nn := i64_wrap (by omega) (by omega)
  have q2 : IntKind.i64.wrap nl = nl := i64_wrap (by omega) (by omega)
  have hx5 : IntKind.i64.wrap ((i : Int) + 1) = (i : Int) + 1 := i64_wrap (by omega) (by omega)
  have Q1 := hide q1
  have Q2 := hide q2
  clear q1 q2
  have HO := hide hO
  have RO := hide hR
  have HNE := hide hne
  have KS : Hid (∀ W, Touch (fun j => (Value.slice oo k oc).ownBlock = some j) wq W → (fun w' => w'.cell? ⟨ob, 1, none⟩ = some (.slice oo k oc) ∧ w'.cell? ⟨b, off + i * 3 + 1, none⟩ = some (.int .u64 nn) ∧ w'.cell? ⟨b, off + (i + 1) * 3 + 1, none⟩ = some (.int .u64 nl)) W) := fun W t => ⟨box_cell (t.at hO fun e => hne ob e rfl) 1 rfl, (hC W t).1, (hC W t).2⟩
  clear hO hR hne hC
  have hx0 : (0 : Int) ≤ (i : Int) := by omega
  have hx1 : (i : Int) < (n : Int) := by omega
  have hx2 : (0 : Int) ≤ (i : Int) + 1 := by omega
  have hx3 : (i : Int) + 1 < (n : Int) := by omega
  have hx4 : ((i : Int) + 1).toNat = i + 1 := by omega
  refine wp_region_last 19 rfl (by kernel_rfl) rfl rfl (by kernel_rfl) ?_
  intro ops' hops'
  simp only [idle, List.setIfInBounds_toArray, List.set_cons_succ, List.set_cons_zero] at hops'
  subst hops'
  refine wpAny_of_held (S := fun w' => w'.cell? ⟨ob, 1, none⟩ = some (.slice oo k oc) ∧ w'.cell? ⟨b, off + i * 3 + 1, none⟩ = some (.int .u64 nn) ∧ w'.cell? ⟨b, off + (i + 1) * 3 + 1, none⟩ = some (.int .u64 nl)) _ _ _ _ ?_
  have hHeld : (fun w' => w'.cell? ⟨ob, 1, none⟩ = some (.slice oo k oc) ∧ w'.cell? ⟨b, off + i * 3 + 1, none⟩ = some (.int .u64 nn) ∧ w'.cell? ⟨b, off + (i + 1) * 3 + 1, none⟩ = some (.int .u64 nl)) wq.drew := KS.out _ ((Touch.refl _ wq).drew)
  refine takeIn 0 (v := ?_) rfl (by kernel_rfl) (by kernel_rfl) (by kernel_rfl) (fun _ _ _ h => h) rfl ?_ hHeld ?_
  rotate_left
  · intro w hSw; (try dsimp only at hSw); first | (go_simp; done) | (go_simp; with_reducible rfl) | with_reducible rfl
  try simp only [Act.put, List.setIfInBounds_toArray, List.set_cons_zero, List.set_cons_succ]
  refine takeIn 1 (v := ?_) rfl (by kernel_rfl) (by kernel_rfl) (by kernel_rfl) (fun _ _ _ h => h) rfl ?_ hHeld ?_
  rotate_left
  · intro w hSw; (try dsimp only at hSw); first | (go_simp; done) | (go_simp; with_reducible rfl) | with_reducible rfl
  try simp only [Act.put, List.setIfInBounds_toArray, List.set_cons_zero, List.set_cons_succ]
  refine takeIn 2 (v := ?_) rfl (by kernel_rfl) (by kernel_rfl) (by kernel_rfl) (fun _ _ _ h => h) rfl ?_ hHeld ?_
  rotate_left
  · intro w hSw; (try dsimp only at hSw); first | (go_simp; done) | (go_simp; with_reducible rfl) | with_reducible rfl
  try simp only [Act.put, List.setIfInBounds_toArray, List.set_cons_zero, List.set_cons_succ]
  refine takeIn 3 (v := ?_) rfl (by kernel_rfl) (by kernel_rfl) (by kernel_rfl) (fun _ _ _ h => h) rfl ?_ hHeld ?_
  rotate_left
  · intro w hSw; (try dsimp only at hSw); first | (go_simp; done) | (go_simp; with_reducible rfl) | with_reducible rfl
  try simp only [Act.put, List.setIfInBounds_toArray, List.set_cons_zero, List.set_cons_succ]
  refine takeIn 4 (v := ?_) rfl (by kernel_rfl) (by kernel_rfl) (by kernel_rfl) (fun _ _ _ h => h) rfl ?_ hHeld ?_
  rotate_left
  · intro w hSw; (try dsimp only at hSw); first | (go_simp; done) | (go_simp; with_reducible rfl) | with_reducible rfl
  try simp only [Act.put, List.setIfInBounds_toArray, List.set_cons_zero, List.set_cons_succ]
  refine takeIn 5 (v := ?_) rfl (by kernel_rfl) (by kernel_rfl) (by kernel_rfl) (fun _ _ _ h => h) rfl ?_ hHeld ?_
  rotate_left
  · intro w hSw; (try dsimp only at hSw); first | (go_simp; done) | (go_simp; with_reducible rfl) | with_reducible rfl
  try simp only [Act.put, List.setIfInBounds_toArray, List.set_cons_zero, List.set_cons_succ]
  refine takeIn 6 (v := ?_) rfl (by kernel_rfl) (by kernel_rfl) (by kernel_rfl) (fun _ _ _ h => h) rfl ?_ hHeld ?_
  rotate_left
  · intro w hSw; (try dsimp only at hSw); first | (go_simp; done) | (go_simp; with_reducible rfl) | with_reducible rfl
  try simp only [Act.put, List.setIfInBounds_toArray, List.set_cons_zero, List.set_cons_succ]
  refine takeIn 7 (v := ?_) rfl (by kernel_rfl) (by kernel_rfl) (by kernel_rfl) (fun _ _ _ h => h) rfl ?_ hHeld ?_
  rotate_left
  · intro w hSw; (try dsimp only at hSw); first | (go_simp; done) | (go_simp; with_reducible rfl) | with_reducible rfl
  try simp only [Act.put, List.setIfInBounds_toArray, List.set_cons_zero, List.set_cons_succ]
  refine takeIn 8 (v := ?_) rfl (by kernel_rfl) (by kernel_rfl) (by kernel_rfl) (fun _ _ _ h => h) rfl ?_ hHeld ?_
  rotate_left
  · intro w hSw; (try dsimp only at hSw); first | (go_simp; done) | (go_simp; with_reducible rfl) | with_reducible rfl
  try simp only [Act.put, List.setIfInBounds_toArray, List.set_cons_zero, List.set_cons_succ]
  refine takeIn 9 (v := ?_) rfl (by kernel_rfl) (by kernel_rfl) (by kernel_rfl) (fun _ _ _ h => h) rfl ?_ hHeld ?_
  rotate_left
  · intro w hSw; (try dsimp only at hSw); first | (go_simp; done) | (go_simp; with_reducible rfl) | with_reducible rfl
  try simp only [Act.put, List.setIfInBounds_toArray, List.set_cons_zero, List.set_cons_succ]
  refine takeIn 10 (v := ?_) rfl (by kernel_rfl) (by kernel_rfl) (by kernel_rfl) (fun _ _ _ h => h) rfl ?_ hHeld ?_
  rotate_left
  · intro w hSw; (try dsimp only at hSw); first | (go_simp; done) | (go_simp; with_reducible rfl) | with_reducible rfl
  try simp only [Act.put, List.setIfInBounds_toArray, List.set_cons_zero, List.set_cons_succ]
  refine takeIn 11 (v := ?_) rfl (by kernel_rfl) (by kernel_rfl) (by kernel_rfl) (fun _ _ _ h => h) rfl ?_ hHeld ?_
  rotate_left
  · intro w hSw; (try dsimp only at hSw); first | (go_simp; done) | (go_simp; with_reducible rfl) | with_reducible rfl
  try simp only [Act.put, List.setIfInBounds_toArray, List.set_cons_zero, List.set_cons_succ]
  refine takeIn 12 (v := ?_) rfl (by kernel_rfl) (by kernel_rfl) (by kernel_rfl) (fun _ _ _ h => h) rfl ?_ hHeld ?_
  rotate_left
  · intro w hSw; (try dsimp only at hSw); first | (go_simp; done) | (go_simp; with_reducible rfl) | with_reducible rfl
  try simp only [Act.put, List.setIfInBounds_toArray, List.set_cons_zero, List.set_cons_succ]
  refine takeIn 13 (v := ?_) rfl (by kernel_rfl) (by kernel_rfl) (by kernel_rfl) (fun _ _ _ h => h) rfl ?_ hHeld ?_
  rotate_left
  · intro w hSw; (try dsimp only at hSw); first | (go_simp; done) | (go_simp; with_reducible rfl) | with_reducible rfl
  try simp only [Act.put, List.setIfInBounds_toArray, List.set_cons_zero, List.set_cons_succ]
  refine takeIn 14 (v := ?_) rfl (by kernel_rfl) (by kernel_rfl) (by kernel_rfl) (fun _ _ _ h => h) rfl ?_ hHeld ?_
  rotate_left
  · intro w hSw; (try dsimp only at hSw); first | (go_simp; done) | (go_simp; with_reducible rfl) | with_reducible rfl
  try simp only [Act.put, List.setIfInBounds_toArray, List.set_cons_zero, List.set_cons_succ]
  refine takeIn 15 (v := ?_) rfl (by kernel_rfl) (by kernel_rfl) (by kernel_rfl) (fun _ _ _ h => h) rfl ?_ hHeld ?_
  rotate_left
  · intro w hSw; (try dsimp only at hSw); first | (go_simp; done) | (go_simp; with_reducible rfl) | with_reducible rfl
  try simp only [Act.put, List.setIfInBounds_toArray, List.set_cons_zero, List.set_cons_succ]
  refine stepIn 16 rfl (by kernel_rfl) (fun K hK => ?_)
  go_simp
  refine hK.out _ _ (KS.out _ (((Touch.refl _ wq).drew).alloc _)) (fun hHeldx => ?_)
  clear hK K hHeld
  have hHeld := hHeldx
  clear hHeldx
  try simp only [Act.put, List.setIfInBounds_toArray, List.set_cons_zero, List.set_cons_succ]
  refine stepIn 17 rfl (by kernel_rfl) (fun K hK => ?_)
  refine step_append_d (by rfl) 61 (by rfl) _ _ 33 (by rfl) B tMember i0 _ 2 16 Try.underlying33 hi0 hz0 hz1 hz2 rfl (by omega) (.slice oo k oc) k (mbCells D) (by rfl) (RO.out.drew.alloc _) ⟨wq.heap.size, 0, none⟩ 1 1 [.int .i64 (IntKind.i64.wrap nn), .int .i64 (IntKind.i64.wrap nl)] (by rfl) (by rfl) (World.news_of_block (cs := #[.int .i64 (IntKind.i64.wrap nn), .int .i64 (IntKind.i64.wrap nl)]) (t := tMember) (fr := (0, 0)) (heap_alloc_new wq.drew _)) (by simp [Value.oneCell']) (by unfold maxLen; omega) (by omega) (by simp; omega) ?_
  intro a4 c4 w4 hown4 hgrow4 hloc4
  have T4 : Hid (Touch (fun j => (Value.slice oo k oc).ownBlock = some j) wq w4) := (((Touch.refl _ wq).drew).alloc _).grown hgrow4 (fun j e _ => e)
  have F4 : Hid (w4.heap[ob]? = some (.cells #[.int .i64 num, .slice oo k oc] tView (0, 0))) := T4.out.at HO.out (fun e => HNE.out ob e rfl)
  have q5 := box_cell F4.out 1 rfl
  have qf := box_free F4.out 1
  refine hK.out _ _ (KS.out w4 T4.out) (fun hHeldx => ?_)
  clear hK K hHeld
  have hHeld := hHeldx
  clear hHeldx
  try simp only [Act.put, List.setIfInBounds_toArray, List.set_cons_zero, List.set_cons_succ]
  refine takeIn 18 (v := ?_) rfl (by kernel_rfl) (by kernel_rfl) (by kernel_rfl) (fun _ _ _ h => h) rfl ?_ hHeld ?_
  rotate_left
  · intro w hSw; (try dsimp only at hSw); first | (go_simp; done) | (go_simp; with_reducible rfl) | with_reducible rfl
  try simp only [Act.put, List.setIfInBounds_toArray, List.set_cons_zero, List.set_cons_succ]
  refine takeIn 19 (v := ?_) rfl (by kernel_rfl) (by kernel_rfl) (by kernel_rfl) (fun _ _ _ h => h) rfl ?_ hHeld ?_
  rotate_left
  · intro w hSw; (try dsimp only at hSw); first | (go_simp; done) | (go_simp; with_reducible rfl) | with_reducible rfl
  try simp only [Act.put, List.setIfInBounds_toArray, List.set_cons_zero, List.set_cons_succ]
  refine wpAnyH_done (by kernel_rfl) ?_ _
  intro K hK
  go_simp
  refine hK _ _ ?_
  clear hK K hHeld
  go_wp2
  rw [Q1.out, Q2.out] at hown4
  refine HQ.out _ _ a4 c4 ⟨rfl, rfl, rfl, rfl, rfl, rfl, rfl, rfl, rfl, rfl⟩ ?_ ?_ ?_ ?_
  · exact (T4.out.mono fun j _ e => .inr e).setCell _ _ fun _ => .inl rfl
  · have h1 := box_set F4.out 1 (.slice a4 (k + 1) c4)
    simpa using h1
  · rw [mbCells_append]
    refine set_row hown4 ob _ _ (fun e => ?_)
    rcases hloc4 with h | h
    · exact HNE.out ob (h ▸ e) rfl
    · rw [h] at e
      have h2 := Option.some.inj e
      have h3 := heap_lt HO.out
      simp at h2
      omega
  · intro j e
    rcases hloc4 with h | h
    · exact .inl (h ▸ e)
    · rw [h] at e
      have h2 := Option.some.inj e
      simp at h2
      exact .inr (by omega)
end Go.Proofs.Ytfcpclpaalekiaa
namespace Go.Proofs.Ytfcpclpaalekiaa
open Go.RowKit
set_option maxHeartbeats 16000000
set_option maxRecDepth 100000
attribute [local go_sem ↓] Go.wp_at_zero Go.wp_at_succ
set_option linter.unusedSimpArgs false
set_option linter.unusedVariables false
abbrev DecSays : Prop := ∀ (t : ByteArray) (w : World), t.size ≤ 9223372036854775807 → Calls Try.prog 36 #[.string ⟨#[108, 42, 98, 108]⟩, .string t] w fun e w' => ∃ v, e = .returned (.tuple #[v, .int .i64 (K.decF shapeV t.data.toList).2]) ∧ w'.ownsRow w.heap.size tItem 3 v (K.decF shapeV t.data.toList).1.length (itCells (K.decF shapeV t.data.toList).1) ∧ Below w.heap.size w w'
theorem items_at (L : List MB) (k : Nat) (hk : k < L.length) : (L.flatMap memItems)[2 * k]? = some ⟨1, L[k].node, ⟨#[]⟩⟩ ∧ (L.flatMap memItems)[2 * k + 1]? = some ⟨3, L[k].life, ⟨#[]⟩⟩ := by
  induction L generalizing k with
  | nil => cases hk
  | cons m L ih =>
    cases k with
    | zero => exact ⟨rfl, rfl⟩
    | succ k =>
      have := ih k (by simpa using hk)
      exact this
theorem items_node (V : VW) (k : Nat) (hk : k < V.mem.length) (h : 1 + 2 * k < (itemsV V).length) : (itemsV V)[1 + 2 * k].n = V.mem[k].node := by
  have e : (itemsV V)[1 + 2 * k]? = some ⟨1, V.mem[k].node, ⟨#[]⟩⟩ := by
    rw [show 1 + 2 * k = 2 * k + 1 by omega]
    exact (items_at V.mem k hk).1
  rw [List.getElem?_eq_getElem h] at e
  rw [Option.some.inj e]
theorem items_life (V : VW) (k : Nat) (hk : k < V.mem.length) (h : 1 + 2 * k + 1 < (itemsV V).length) : (itemsV V)[1 + 2 * k + 1].n = V.mem[k].life := by
  have e : (itemsV V)[1 + 2 * k + 1]? = some ⟨3, V.mem[k].life, ⟨#[]⟩⟩ := by
    rw [show 1 + 2 * k + 1 = 2 * k + 1 + 1 by omega]
    exact (items_at V.mem k hk).2
  rw [List.getElem?_eq_getElem h] at e
  rw [Option.some.inj e]
theorem dec_view {s : List UInt8} (h : (K.decF shapeV s).2 = 0) : ∃ V : VW, K.decF shapeV s = (itemsV V, 0) ∧ 0 ≤ V.num ∧ (∀ m ∈ V.mem, 0 ≤ m.node ∧ m.node ≤ 9007199254740991 ∧ 0 ≤ m.life) ∧ (itemsV V).length ≤ 1000 ∧ decV s = if V.right then (V, 0) else (⟨0, []⟩, 10) := by
  obtain ⟨h1, _, h3, h4, _⟩ := decF_view h
  have hf := (K.encF_zero _ (by rw [(K.again_pure shapeV s h).1])).2.1
  have w1 : (256 : Int) ^ K.widthN 1 = 256 := by decide
  refine ⟨viewOf (K.decF shapeV s).1, Prod.ext h1.symm h, ?_, ?_, by rw [h1]; exact h4, ?_⟩
  · have := h3 ⟨3, (viewOf (K.decF shapeV s).1).num, ⟨#[]⟩⟩ (by rw [← h1]; exact List.mem_cons_self)
    exact this.2.2.1
  · intro m hm
    have g1 : (⟨1, m.node, ⟨#[]⟩⟩ : IT) ∈ (K.decF shapeV s).1 := by
      rw [← h1]
      exact List.mem_cons_of_mem _ (List.mem_flatMap.2 ⟨m, hm, by simp [memItems]⟩)
    have g2 : (⟨3, m.life, ⟨#[]⟩⟩ : IT) ∈ (K.decF shapeV s).1 := by
      rw [← h1]
      exact List.mem_cons_of_mem _ (List.mem_flatMap.2 ⟨m, hm, by simp [memItems]⟩)
    refine ⟨(h3 _ g1).2.2.1, ?_, (h3 _ g2).2.2.1⟩
    rcases K.fault_shape _ (hf _ g1) with ⟨_, _, e⟩ | ⟨e, _⟩
    · simp only [w1] at e
      omega
    · simp at e
  · unfold decV
    rw [if_neg (fun e => e h)]
theorem it_mem {W : World} {B B' n n' : Nat} {v v' : Value} {xs xs' : List Value} (h : W.ownsRow B tItem 3 v n xs) (h' : W.ownsRow B' tMember 2 v' n' xs') {j : Nat} (hj : v.ownBlock = some j) (hj' : v'.ownBlock = some j) : False := by
  rcases h.2 with ⟨rfl, _⟩ | ⟨g, cap, cur, rfl, _, hh, _⟩
  · cases hj
  · obtain rfl : g = j := Option.some.inj hj
    rcases h'.2 with ⟨rfl, _⟩ | ⟨g', cap', cur', rfl, _, hh', _⟩
    · cases hj'
    · obtain rfl : g' = g := Option.some.inj hj'
      rw [hh] at hh'
      injection hh' with hh'
      injection hh' with _ hh' _
      exact absurd hh' (by decide)
theorem it_cell {w : World} {B g n cp : Nat} {L : List IT} (h : w.ownsRow B tItem 3 (.slice (some ⟨g, 0, none⟩) n cp) n (itCells L)) (hn : L.length = n) (i : Nat) (hi : i < L.length) : w.cell? ⟨g, 0 + i * 3 + 1, none⟩ = some (.int .u64 L[i].n) := by
  obtain ⟨b, off, e, _, _, h2, _⟩ := its_of_row h hn i hi
  injection e with e
  injection e with e1 e2
  subst e1 e2
  exact h2
theorem vd_ret {w W : World} {a : Act} {v : Vvd} {rb : Nat} {r : VW × Int} {ro : Option Addr} {rc : Nat} (hF : Fvd a v) (h2 : v.v2 = .pointer (some ⟨rb, 0, none⟩)) (h3 : v.v3 = .int .i64 r.2) (hR : W.heap[rb]? = some (.cells #[.int .i64 r.1.num, .slice ro r.1.mem.length rc] tView (0, 0))) (hrow : W.ownsRow w.heap.size tMember 2 (.slice ro r.1.mem.length rc) r.1.mem.length (mbCells r.1.mem)) (hB : Below w.heap.size w W) {T : VW × Int} (hT : r = T) :
    bodyPost Try.prog Try.f37 (fun e w' => NextGave w w' e T) .ret a W := by
  subst hT
  have g2 := slot_get (hF.s2.trans h2)
  have g3 := slot_get (hF.s3.trans h3)
  have c0 := box_cell hR 0 rfl
  have c1 := box_cell hR 1 rfl
  refine bodyPost_ret (v := .tuple #[.agg #[.int .i64 r.1.num, .slice ro r.1.mem.length rc], .int .i64 r.2]) ?_ hF.defers ⟨⟨ro, rc, rfl, hrow⟩, hB⟩
  simp [results, Try.results37, go_sem, g2, g3, c0, c1]
theorem rdecV (HE : DecSays) (t : ByteArray) (w : World) (hs : t.size ≤ 9223372036854775807) :
    Calls Try.prog 37 #[.string t] w fun e w' => NextGave w w' e (decV t.data.toList) := by
  have HEE := hide (fun W => HE t W hs)
  obtain ⟨T, hT⟩ : ∃ T, decV t.data.toList = T := ⟨_, rfl⟩
  rw [hT]
  have HT := hide hT
  have X0 := hide (heap_alloc_new w (.cells #[.int .i64 0, .slice none 0 0] tView))
  have HB := hide ((Below.refl w.heap.size w).alloc (Nat.le_refl _) (.cells #[.int .i64 0, .slice none 0 0] tView))
  clear hT HE hs
  go_enter Try.func37, Try.ntmps37
  go_upto_region 1 with fail
  rename_i Ko hKo
  generalize w.alloc (.cells #[.int .i64 0, .slice none 0 0] tView) = w1 at *
  refine reg_mono (vd_r1 (L := (K.decF shapeV t.data.toList).1) (z := (K.decF shapeV t.data.toList).2) (by kernel_rfl) _ (v := ⟨_, _, _, _, _, _, _, _⟩) ⟨rfl, rfl, rfl, rfl, rfl, rfl, rfl, rfl, rfl, rfl⟩ rfl ?_ ?_)
  · refine (HEE.out w1).mono ?_
    rintro e w2 ⟨v, rfl, ho, hb⟩
    obtain ⟨ao, cap, rfl⟩ := row_slice ho
    exact ⟨ao, cap, rfl, ho, hb⟩
  intro a2 w2 ao cap F2 I2 b2
  refine hKo _ _ ?_
  have R2 := (b2.block _ (heap_lt X0.out)).trans X0.out
  have B2 := HB.out.trans (b2.mono HB.out.size)
  have S1 : w.heap.size ≤ w1.heap.size := HB.out.size
  refine wp_seq (wp_seq (reg_mono (vd_r2 (by kernel_rfl) _ F2 rfl ?_)))
  intro a3 F3 h15
  by_cases c1 : (K.decF shapeV t.data.toList).2 ≠ 0
  · rw [show ((K.decF shapeV t.data.toList).2 != 0) = true by rw [bne_iff_ne]; exact c1] at h15
    refine wp_cond_true h15 (wp_seq (reg_mono (vd_r3 (by kernel_rfl) _ F3 rfl rfl R2 ?_)))
    intro a4 w4 F4 t4 r4
    refine wp_ret ?_
    have eT : T = (⟨0, []⟩, (K.decF shapeV t.data.toList).2) := by rw [← HT.out]; unfold decV; rw [if_pos c1]
    exact vd_ret (r := (⟨0, []⟩, (K.decF shapeV t.data.toList).2)) F4 rfl rfl r4 (World.ownsRow_nil _ _ _ _) (B2.trans (t4.toBelow B2.size fun k hk e => by omega)) eT.symm
  replace c1 := Decidable.not_not.1 c1
  obtain ⟨V, hV, V0, VM, Vlen, hdec⟩ := dec_view c1
  have eT : T = if V.right then (V, 0) else (⟨0, []⟩, 10) := by rw [← HT.out]; exact hdec
  have ET := hide eT
  rw [c1] at h15
  refine wp_cond_false h15 (wp_skip ?_)
  show Code.wp _ _ _ _ _
  rw [hV] at F3 I2
  have hlen : (itemsV V).length = 1 + 2 * V.mem.length := itemsV_len V
  have hbig : big = 9007199254740991 := rfl
  obtain ⟨g, rfl⟩ : ∃ g, ao = some ⟨g, 0, none⟩ := by
    rcases I2.2 with ⟨_, e⟩ | ⟨g, cap', cur, e, _⟩
    · simp only at e; omega
    · injection e with e
      exact ⟨g, e⟩
  have I3 : w2.ownsRow w.heap.size tItem 3 (.slice (some ⟨g, 0, none⟩) (itemsV V).length cap) (itemsV V).length (itCells (itemsV V)) := by
    refine ⟨I2.1, ?_⟩
    rcases I2.2 with ⟨e, _⟩ | ⟨g', cap', cur, e, hg, rest⟩
    · cases e
    · exact .inr ⟨g', cap', cur, e, Nat.le_trans S1 hg, rest⟩
  clear I2 eT hdec
  have y0 : w2.cell? ⟨g, 0 + 1, none⟩ = some (.int .u64 V.num) := it_cell I3 rfl 0 (by omega)
  refine wp_seq (wp_seq (reg_mono (vd_r4 (n := (itemsV V).length) (by kernel_rfl) _ F3 rfl (by omega) y0 ?_)))
  intro a4 F4 h22
  by_cases c2 : 9007199254740991 < V.num
  · rw [decide_eq_true c2] at h22
    refine wp_cond_true h22 (wp_seq (reg_mono (vd_r5 (by kernel_rfl) _ F4 rfl R2 ?_)))
    intro a5 w5 F5 t5 r5
    refine wp_ret ?_
    have eT : T = (⟨0, []⟩, 10) := by rw [ET.out, if_neg]; intro e; have := e.2.1; omega
    exact vd_ret (r := (⟨0, []⟩, 10)) F5 rfl rfl r5 (World.ownsRow_nil _ _ _ _) (B2.trans (t5.toBelow B2.size fun k hk e => by omega)) eT.symm
  rw [decide_eq_false c2] at h22
  refine wp_cond_false h22 (wp_skip ?_)
  show Code.wp _ _ _ _ _
  refine wp_seq (reg_mono (vd_r6 (n := (itemsV V).length) (by kernel_rfl) _ F4 rfl (by omega) y0 ⟨V0, by omega⟩ ?_))
  intro a5 F5
  have O5 := heap_alloc_new w2 (.cells #[.int .i64 V.num, .slice none 0 0] tView)
  have R5 := box_alloc R2 (.cells #[.int .i64 V.num, .slice none 0 0] tView)
  have B5 := B2.alloc B2.size (.cells #[.int .i64 V.num, .slice none 0 0] tView)
  have I5 := I3.alloc (.cells #[.int .i64 V.num, .slice none 0 0] tView)
  have hne : w.heap.size ≠ w2.heap.size := by have := heap_lt R2; omega
  have hge : w.heap.size ≤ w2.heap.size := B2.size
  generalize w2.alloc (.cells #[.int .i64 V.num, .slice none 0 0] tView) = w5 at *
  generalize w2.heap.size = ob at *
  refine wp_seq (wp_seq (reg_mono (vd_r7 (by kernel_rfl) _ F5 ?_)))
  intro a6 F6
  refine wp_block (wp_loop (fun a W => ∃ k v oo oc, k ≤ V.mem.length ∧ Fvd a v ∧ v.v2 = .pointer (some ⟨w.heap.size, 0, none⟩) ∧ v.v4 = .slice (some ⟨g, 0, none⟩) (itemsV V).length cap ∧ v.v6 = .pointer (some ⟨ob, 0, none⟩) ∧ v.v7 = .int .i64 ((1 + 2 * k : Nat) : Int) ∧ W.heap[w.heap.size]? = some (.cells #[.int .i64 0, .slice none 0 0] tView (0, 0)) ∧ W.heap[ob]? = some (.cells #[.int .i64 V.num, .slice oo k oc] tView (0, 0)) ∧ W.ownsRow w.heap.size tMember 2 (.slice oo k oc) k (mbCells (V.mem.take k)) ∧ W.ownsRow w.heap.size tItem 3 (.slice (some ⟨g, 0, none⟩) (itemsV V).length cap) (itemsV V).length (itCells (itemsV V)) ∧ Below w.heap.size w W) (fun a _ => (itemsV V).length - (intOf (a.tmps.getD 7 undef)).toNat) ⟨0, _, none, 0, Nat.zero_le _, F6, rfl, rfl, rfl, rfl, R5, O5, World.ownsRow_nil _ _ _ _, I5, B5⟩ ?_)
  clear F2 F3 F4 F5 F6 h15 h22 O5 R5 B5 I5 I3 R2 B2 y0
  rintro a7 w7 ⟨k, v7, oo, oc, hk, F7, g2, g4, g6, g7, R7, O7, M7, I7, B7⟩
  have hm7 : (intOf (a7.tmps.getD 7 undef)).toNat = 1 + 2 * k := by rw [F7.s7, g7]; simp only [intOf]; omega
  refine wp_seq (wp_seq (reg_mono (vd_r8 (by kernel_rfl) _ F7 g4 g7 ?_)))
  intro a8 F8 h33
  by_cases hlt : 1 + 2 * k < (itemsV V).length
  · rw [decide_eq_true hlt] at h33
    refine wp_cond_true h33 (wp_skip ?_)
    show Code.wp _ _ _ _ _
    have hkm : k < V.mem.length := by omega
    have hi1 : 1 + 2 * k + 1 < (itemsV V).length := by omega
    have y0 : w7.cell? ⟨g, 0 + (1 + 2 * k) * 3 + 1, none⟩ = some (.int .u64 V.mem[k].node) := by have := it_cell I7 rfl _ hlt; rw [items_node V k hkm hlt] at this; exact this
    have y1 : w7.cell? ⟨g, 0 + (1 + 2 * k + 1) * 3 + 1, none⟩ = some (.int .u64 V.mem[k].life) := by have := it_cell I7 rfl _ hi1; rw [items_life V k hkm hi1] at this; exact this
    refine wp_seq (wp_block (wp_seq (wp_seq (reg_mono (vd_r10 (by kernel_rfl) _ F8 g4 g7 hi1 Vlen y1 ?_)))))
    intro a9 F9 h42
    have hmem := VM _ (List.getElem_mem hkm)
    by_cases c3 : 9007199254740991 < V.mem[k].life
    · rw [decide_eq_true c3] at h42
      refine wp_cond_true h42 (wp_seq (reg_mono (vd_r11 (by kernel_rfl) _ F9 g2 R7 ?_)))
      intro a10 w10 F10 t10 r10
      refine wp_ret ?_
      have eT : T = (⟨0, []⟩, 10) := by rw [ET.out, if_neg]; intro e; have := (mem_right e _ (List.getElem_mem hkm)).2.2.2; omega
      exact vd_ret (r := (⟨0, []⟩, 10)) F10 g2 rfl r10 (World.ownsRow_nil _ _ _ _) (B7.trans (t10.toBelow B7.size fun k hk e => by omega)) eT.symm
    rw [decide_eq_false c3] at h42
    refine wp_cond_false h42 (wp_skip ?_)
    show Code.wp _ _ _ _ _
    refine reg_all (vd_r12 (nn := V.mem[k].node) (nl := V.mem[k].life) (by kernel_rfl) _ F9 g4 g6 g7 hi1 Vlen ⟨hmem.1, hmem.2.1, hmem.2.2, by omega⟩ O7 M7 (by omega) B7.size (fun j e => row_not M7 e O7) ?_ ?_)
    · intro W tt
      have IW := tt.row I7 fun j hj e => it_mem I7 M7 hj e
      constructor
      · have := it_cell IW rfl _ hlt; rw [items_node V k hkm hlt] at this; exact this
      · have := it_cell IW rfl _ hi1; rw [items_life V k hkm hi1] at this; exact this
    · intro a10 w10 oo10 oc10 F10 t10 O10 M10 l10
      show Code.wp _ _ _ _ _
      refine reg_all (vd_r9 (by kernel_rfl) _ F10 g7 (by omega) ?_)
      intro a11 F11
      refine ⟨⟨k + 1, _, oo10, oc10, by omega, F11, g2, g4, g6, ?_, ?_, O10, ?_, ?_, ?_⟩, ?_⟩
      · show Value.int .i64 ((1 + 2 * k + 2 : Nat) : Int) = _
        rw [show 1 + 2 * (k + 1) = 1 + 2 * k + 2 by omega]
      · exact t10.at R7 fun e => e.elim (fun e => hne e) fun e => row_not M7 e R7 rfl
      · rw [List.take_add_one, List.getElem?_eq_getElem hkm]
        exact M10
      · exact t10.row I7 fun j hj e => e.elim (fun e => it_not I7 hj O7 e) fun e => it_mem I7 M7 hj e
      · exact B7.trans (t10.toBelow B7.size fun j hj e => e.elim (fun e => by omega) fun e => by have := (M7.lt j e).1; omega)
      · have hm11 : (intOf (a11.tmps.getD 7 undef)).toNat = 1 + 2 * k + 2 := by rw [F11.s7]; simp only [intOf]; omega
        rw [hm11, hm7]
        omega
  rw [decide_eq_false hlt] at h33
  refine wp_cond_false h33 (wp_exit ?_)
  show Code.wp _ _ _ _ _
  obtain rfl : k = V.mem.length := by omega
  rw [List.take_length] at M7
  refine wp_seq (reg_mono (vd_r13 (x := V) (by kernel_rfl) _ F8 g6 O7 (mems_of_row M7 rfl) ?_))
  intro a9 w9 F9 b9
  have R9 := (b9.block _ (heap_lt R7)).trans R7
  have O9 := (b9.block _ (heap_lt O7)).trans O7
  have M9 := (Touch.of_below (own := fun _ => False) b9).row M7 fun _ _ e => e
  have B9 := B7.trans (b9.mono B7.size)
  refine wp_seq (wp_seq (reg_mono (vd_r14 (by kernel_rfl) _ F9 rfl ?_)))
  intro a10 F10 h66
  by_cases c4 : V.right
  · rw [decide_eq_true c4] at h66
    refine wp_cond_false h66 (wp_skip ?_)
    show Code.wp _ _ _ _ _
    refine wp_seq (reg_mono (vd_r16 (by kernel_rfl) _ F10 g2 g6 O9 R9 ?_))
    intro a11 w11 F11 t11 r11
    refine wp_ret ?_
    have eT : T = (V, 0) := by rw [ET.out, if_pos c4]
    exact vd_ret (r := (V, 0)) F11 g2 rfl r11 (t11.row M9 fun j hj e => row_not M9 hj R9 e) (B9.trans (t11.toBelow B9.size fun k hk e => by omega)) eT.symm
  · rw [decide_eq_false c4] at h66
    refine wp_cond_true h66 (wp_seq (reg_mono (vd_r15 (by kernel_rfl) _ F10 g2 R9 ?_)))
    intro a11 w11 F11 t11 r11
    refine wp_ret ?_
    have eT : T = (⟨0, []⟩, 10) := by rw [ET.out, if_neg c4]
    exact vd_ret (r := (⟨0, []⟩, 10)) F11 g2 rfl r11 (World.ownsRow_nil _ _ _ _) (B9.trans (t11.toBelow B9.size fun k hk e => by omega)) eT.symm
end Go.Proofs.Ytfcpclpaalekiaa
namespace Go.Proofs.Ytfcpclpaalekiaa
open Go.RowKit
attribute [local go_sem ↓] Go.wp_at_zero Go.wp_at_succ
set_option linter.unusedSimpArgs false
set_option linter.unusedVariables false
abbrev EncodeSays : Prop := ∀ (x : VW) (ao : Option Addr) (cp : Nat) (w : World), MemsAt w ao x.mem → x.mem.length ≤ 4611686018427387903 → Calls Try.prog 27 #[x.v ao cp] w fun e w' => e = .returned (.tuple #[.string ⟨(if x.right then codeV x else []).toArray⟩, .int .i64 (if x.right then 0 else 1)]) ∧ Below w.heap.size w w'
abbrev DecodeSays : Prop := ∀ (t : ByteArray) (w : World), t.size ≤ 9223372036854775807 → Calls Try.prog 34 #[.string t] w fun e w' => NextGave w w' e (decV t.data.toList)
theorem itemB_len (x : IT) (h : K.faultF x = 0) : (K.itemB x).length ≤ 100008 := by
  have hw : K.widthN x.k ≤ 8 := by unfold K.widthN; split <;> (try split) <;> omega
  have hs : x.s.size ≤ 100000 := by rcases K.fault_shape x h with ⟨_, e, _⟩ | ⟨_, _, e⟩ <;> omega
  unfold K.itemB
  rw [List.length_append, Lib.beBytes_length, show x.s.data.toList.length = x.s.size by simp]
  omega
theorem itemsB_len (l : List IT) (h : ∀ x ∈ l, K.faultF x = 0) : (l.flatMap K.itemB).length ≤ 100008 * l.length := by
  induction l with
  | nil => simp
  | cons a l ih =>
    have h1 := itemB_len a (h a (by simp))
    have h2 := ih fun x hx => h x (by simp [hx])
    rw [List.flatMap_cons, List.length_append, List.length_cons]
    omega
theorem codeV_len {v : VW} (h : v.right) : (codeV v).length ≤ 2000000 := by
  have h1 := itemsB_len (itemsV v) fun x hx => (itemsV_fault h x hx).1
  have h2 := itemsV_len v
  have h3 := h.2.2.2.1
  unfold codeV
  omega
structure Vlb where
  v1 : Value
  v2 : Value
  v4 : Value
  v5 : Value
  v6 : Value
  v7 : Value
  v8 : Value
  v9 : Value
  v10 : Value
  v11 : Value
  v12 : Value
  v13 : Value
  v14 : Value
structure Flb (a : Act) (v : Vlb) : Prop where
  size : a.tmps.size = 66
  defers : a.defers = []
  s1 : a.tmps.getD 1 undef = v.v1
  s2 : a.tmps.getD 2 undef = v.v2
  s4 : a.tmps.getD 4 undef = v.v4
  s5 : a.tmps.getD 5 undef = v.v5
  s6 : a.tmps.getD 6 undef = v.v6
  s7 : a.tmps.getD 7 undef = v.v7
  s8 : a.tmps.getD 8 undef = v.v8
  s9 : a.tmps.getD 9 undef = v.v9
  s10 : a.tmps.getD 10 undef = v.v10
  s11 : a.tmps.getD 11 undef = v.v11
  s12 : a.tmps.getD 12 undef = v.v12
  s13 : a.tmps.getD 13 undef = v.v13
  s14 : a.tmps.getD 14 undef = v.v14
end Go.Proofs.Ytfcpclpaalekiaa
