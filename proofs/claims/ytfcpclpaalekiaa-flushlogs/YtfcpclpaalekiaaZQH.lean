/-
  The program's eachCoded (mkqg.py)
-/
import Derived.Test.YtfcpclpaalekiaaZQG
namespace Go.Proofs.Ytfcpclpaalekiaa
open Go.RowKit Go.Shelf
set_option maxHeartbeats 8000000
set_option maxRecDepth 100000
attribute [local go_sem] Oper.semAt_some
set_option linter.unusedSimpArgs false
set_option linter.unusedVariables false
def wrM (m : MB) : MB := ⟨IntKind.i64.wrap m.node, IntKind.i64.wrap m.life⟩
abbrev tyY : TypeId := 102
theorem fin_map (M : List MB) : (List.finRange M.length).map (fun i => wrM M[i.val]) = M.map wrM := by
  apply List.ext_getElem
  · simp
  · intro i h1 h2
    simp
theorem ecoded_gives (M : List MB) (Bc cap b off : Nat) (ao : Option Addr) (hq : M.length ≤ 1000) (hcap : 2 * M.length ≤ cap) (hao : 0 < M.length → ao = some ⟨b, off, none⟩) (w0 : World) (hBc : w0.heap[Bc]? = some (.cells #[.slice ao (2 * M.length) cap] 60 (0, 0)))
    (hP : ∀ i (hi : i < M.length) (X : World), Below w0.heap.size w0 X → X.cell? ⟨b, off + i * 6 + 1, none⟩ = some (.int .u64 M[i].node) ∧ X.cell? ⟨b, off + i * 6 + 4, none⟩ = some (.int .u64 M[i].life)) :
    Gives Try.prog tMember 82 #[.pointer (some ⟨Bc, 0, none⟩)] (fun x : MB => (id x : MB).v) w0.heap.size (fun ys => ys = M.map wrM) M.length w0 := by
  intro l J W hW hJ hY h0 n
  refine callsIn_wide.2 ((callsIn_wide (n := 9)).1 ?_)
  have cB : (W.alloc (.cells #[.func (.yield l) #[] #[]] tyY)).cell? ⟨Bc, 0, none⟩ = some (.slice ao (2 * M.length) cap) := box1_cell (heap_up ((hW.block _ (heap_lt hBc)).trans hBc))
  show CallsIn Fence.wide 9 Try.prog 82 #[.func (.yield l) #[] #[], .pointer (some ⟨Bc, 0, none⟩)] W _
  refine callsIn_of_wp_marks Try.func82 rfl trivial ?_ rfl
  simp only [Try.ntmps82, List.size_toArray, List.length_cons, List.length_nil, Nat.reduceAdd, Nat.reduceSub, Array.replicate_succ, Array.replicate_zero, List.push_toArray, List.append_toArray, List.nil_append, List.cons_append]
  gi_wp2_with (refine ⟨trivial, ?_⟩; gi_at_call 83; refine (chunk_in _ _ _ _ _).mono ?_; rintro e w' ⟨rfl, rfl⟩)
  obtain ⟨w1, e1⟩ : ∃ wn : World, W.alloc (.cells #[.func (.yield l) #[] #[]] tyY) = wn := ⟨_, rfl⟩
  obtain ⟨w2, e2⟩ : ∃ wn : World, w1.alloc (.cells #[.slice ao (2 * M.length) cap] 60) = wn := ⟨_, rfl⟩
  obtain ⟨wz, e3⟩ : ∃ wn : World, w2.alloc (.cells #[.int .i64 2] 3) = wn := ⟨_, rfl⟩
  have s1 : w1.heap.size = W.heap.size + 1 := by rw [← e1]; simp
  have s2 : w2.heap.size = W.heap.size + 2 := by rw [← e2]; simp [s1]
  have s3 : wz.heap.size = W.heap.size + 3 := by rw [← e3]; simp [s2]
  have b1 : Below W.heap.size W wz := by
    rw [← e3, ← e2, ← e1]
    exact (((Below.refl _ W).alloc (Nat.le_refl _) _).alloc (by simp) _).alloc (by simp; omega) _
  have X0 : wz.heap[W.heap.size]? = some (.cells #[.func (.yield l) #[] #[]] tyY (0, 0)) := by rw [← e3, ← e2]; refine heap_up (heap_up ?_); rw [← e1, show W.heap.size = W.heap.size by omega]; exact World.alloc_heap_new _ _
  have X1 : wz.heap[W.heap.size + 1]? = some (.cells #[.slice ao (2 * M.length) cap] 60 (0, 0)) := by rw [← e3]; refine heap_up ?_; rw [← e2, show W.heap.size + 1 = w1.heap.size by omega]; exact World.alloc_heap_new _ _
  have X2 : wz.heap[W.heap.size + 1 + 1]? = some (.cells #[.int .i64 2] 3 (0, 0)) := by rw [← e3, show W.heap.size + 1 + 1 = w2.heap.size by omega]; exact World.alloc_heap_new _ _
  rw [e1, e2, e3]
  clear e1 e2 e3 s1 s2 w1 w2
  have hJz : J [] wz := hJ [] W wz none h0 ⟨b1.os, b1.tape, b1.output, b1.size, fun k hk _ => b1.block k hk⟩ (fun r e => by cases e)
  have hW0 := hW.size
  have hBz : Below w0.heap.size w0 wz := hW.trans (b1.mono hW0)
  refine wpIn_rangeFunc_ownH rfl (by omega) (gf := 88) (lb := #[.pointer (some ⟨W.heap.size + 1, 0, none⟩), .pointer (some ⟨W.heap.size + 1 + 1, 0, none⟩)]) rfl trivial (enters_of Try.func88 (by kernel_rfl) rfl)
    (chunk_stops M.length _ (W.heap.size + 1) (W.heap.size + 1 + 1) b off cap hq hcap ao hao wz ⟨X1, X2⟩) (fun h k x => k (h x)) (fun V k o o' _ h hc _ => chunk_put V k o o' h hc) (Below.refl _ _) (fun _ => rfl)
    (fun pre V => J (pre.map fun i : Fin M.length => wrM M[i.val]) V ∧ Below w0.heap.size w0 V ∧ V.heap[W.heap.size]? = some (.cells #[.func (.yield l) #[] #[]] tyY (0, 0)))
    (fun c pre V => False)
    (fun s X Y row hs hg hr => ⟨hJ _ X Y row hs.1 hg (fun r e => ⟨by have := (hr r e).1; omega, (hr r e).2⟩), ownFrom_below (β := Unit) (Nat.le_refl _) (by omega) () X Y row hs.2.1 hg hr, Own.from (box_own (β := Unit) W.heap.size (fun _ => .cells #[.func (.yield l) #[] #[]] tyY (0, 0)) fun _ => rfl) wz.heap.size () X Y row hs.2.2 hg hr⟩)
    (fun _ _ _ _ _ hs _ _ => hs)
    ⟨hJz, hBz, X0⟩
    (fun x a' V => a' = { tmps := #[.func (.yield l) #[] #[], .pointer (some ⟨Bc, 0, none⟩), .pointer (some ⟨W.heap.size, 0, none⟩), .slice (some ⟨b, off + x.val * 6, none⟩) 2 2, .slice ao (2 * M.length) cap, .func (.func 88) #[] #[.pointer (some ⟨W.heap.size + 1, 0, none⟩), .pointer (some ⟨W.heap.size + 1 + 1, 0, none⟩)], .slice (some ⟨b, off + x.val * 6, none⟩) 2 2, undef, undef, undef, undef, undef, undef, undef, undef, undef, undef, undef, undef, undef, undef], defers := [] })
    (fun x a' s X Y row hs hg hr => hs) ?assign ?body ?done ?stop
  case assign =>
    rintro l2 pre x V K hi hK
    gi_wp2
    exact hK _ _ (KeepsFrom.refl _ _) (fun h => h) hi rfl
  case body =>
    rintro l2 pre x a' V _ _ ⟨hJq, hBq, hzq⟩ rfl hlt
    refine wpIn_block (wpIn_seq ?_)
    have hJd : J (pre.map fun i : Fin M.length => wrM M[i.val]) V.drew := hJ _ V V.drew none hJq ⟨rfl, rfl, rfl, Nat.le_refl _, fun _ _ _ => rfl⟩ (fun r e => by cases e)
    have HK : Hid (∀ (a9 : Act) (w9 : World), a9.tmps.size = 21 → a9.defers = [] → a9.tmps.getD 20 undef = .bool false → J ((pre ++ [x]).map fun i : Fin M.length => wrM M[i.val]) w9 → Below w0.heap.size w0 w9 → w9.heap[W.heap.size]? = some (.cells #[.func (.yield l) #[] #[]] tyY (0, 0)) → KeepsT W.heap.size tMember V w9 → Code.wpIn (Fence.wide.inRound l2) (9 - 1 - 1) Try.prog (.cond (.tmp 20) .ret .skip) (Exit.inBlock 1 (ownPostG wz.heap.size (fun X Y => ChunkAt (W.heap.size + 1) (W.heap.size + 1 + 1) ao M.length cap X → ChunkAt (W.heap.size + 1) (W.heap.size + 1 + 1) ao M.length cap Y) (fun pre V => J (pre.map fun i : Fin M.length => wrM M[i.val]) V ∧ Below w0.heap.size w0 V ∧ V.heap[W.heap.size]? = some (.cells #[.func (.yield l) #[] #[]] tyY (0, 0))) (fun c pre V => False) (pre ++ [x]) V)) a9 w9) := by
      intro a9 w9 _ _ h20 g1 g2 g3 g4
      refine wpIn_cond_false h20 (wpIn_skip ?_)
      exact ⟨(g4.up (by omega)).from, fun hC => ⟨g4.same _ _ (by omega) hC.1 (fun c e => by cases e), g4.same _ _ (by omega) hC.2 (fun c e => by cases e)⟩, g1, g2, g3⟩
    refine wpIn_region_any (by kernel_rfl) (wpAnyIn_pivot (ns := 21) (uses := (fun i => match i with | 0 => [7] | 1 => [8] | 2 => [9] | 3 => [10] | 4 => [11] | 5 => [12] | 6 => [13] | 7 => [14] | 8 => [15] | 9 => [16] | 10 => [17] | 11 => [18] | 12 => [19] | 13 => [20] | _ => [])) (by kernel_rfl) (by kernel_rfl) (fun j w w' => (j ≠ 12 → w' = w) ∧ (j = 12 → (fun bb w => J (if bb = true then (pre ++ [x]).map (fun i : Fin M.length => wrM M[i.val]) else pre.map fun i : Fin M.length => wrM M[i.val]) w ∧ Below w0.heap.size w0 w ∧ w.heap[W.heap.size]? = some (.cells #[.func (.yield l) #[] #[]] tyY (0, 0)) ∧ KeepsT W.heap.size tMember V w ∧ True) true w')) 12 (by decide) (fun bb w => J (if bb = true then (pre ++ [x]).map (fun i : Fin M.length => wrM M[i.val]) else pre.map fun i : Fin M.length => wrM M[i.val]) w ∧ Below w0.heap.size w0 w ∧ w.heap[W.heap.size]? = some (.cells #[.func (.yield l) #[] #[]] tyY (0, 0)) ∧ KeepsT W.heap.size tMember V w ∧ True) (fun j b w w' hj h r => by rw [r.1 hj]; exact h) (fun w w' h r => r.2 rfl) (⟨by rw [if_neg (by simp)]; exact hJd, hBq.drew, hzq, ⟨Nat.le_refl _, fun _ _ _ h _ => h⟩, trivial⟩) (fun i => match i with | 0 => fun s w => s 7 = .func (.yield l) #[] #[] | 1 => fun s w => s 8 = .slice (some ⟨b, off + x.val * 6, none⟩) 2 2 | 2 => fun s w => s 9 = .pointer (some ⟨b, off + x.val * 6, none⟩) | 3 => fun s w => s 10 = .pointer (some ⟨b, off + x.val * 6 + 1, none⟩) | 4 => fun s w => s 11 = .int .u64 M[x.val].node | 5 => fun s w => s 12 = .int .i64 (IntKind.i64.wrap M[x.val].node) | 6 => fun s w => s 13 = .slice (some ⟨b, off + x.val * 6, none⟩) 2 2 | 7 => fun s w => s 14 = .pointer (some ⟨b, off + x.val * 6 + 3, none⟩) | 8 => fun s w => s 15 = .pointer (some ⟨b, off + x.val * 6 + 4, none⟩) | 9 => fun s w => s 16 = .int .u64 M[x.val].life | 10 => fun s w => s 17 = .int .i64 (IntKind.i64.wrap M[x.val].life) | 11 => fun s w => s 18 = .agg #[.int .i64 (IntKind.i64.wrap M[x.val].node), .int .i64 (IntKind.i64.wrap M[x.val].life)] | 12 => fun s w => s 19 = .bool true | 13 => fun s w => s 20 = .bool false | _ => fun _ _ => True) ?phc ?phh ?pstep ?pdone)
    case phc =>
      intro i s s' w hx h
      match i, hx, h with
      | 0, hx, h =>
        have e7 := hx 7 (by simp)
        first | exact (show _ from by simp only [← e7] at *; exact h) | (simp only [e7] at h; exact h)
      | 1, hx, h =>
        have e8 := hx 8 (by simp)
        first | exact (show _ from by simp only [← e8] at *; exact h) | (simp only [e8] at h; exact h)
      | 2, hx, h =>
        have e9 := hx 9 (by simp)
        first | exact (show _ from by simp only [← e9] at *; exact h) | (simp only [e9] at h; exact h)
      | 3, hx, h =>
        have e10 := hx 10 (by simp)
        first | exact (show _ from by simp only [← e10] at *; exact h) | (simp only [e10] at h; exact h)
      | 4, hx, h =>
        have e11 := hx 11 (by simp)
        first | exact (show _ from by simp only [← e11] at *; exact h) | (simp only [e11] at h; exact h)
      | 5, hx, h =>
        have e12 := hx 12 (by simp)
        first | exact (show _ from by simp only [← e12] at *; exact h) | (simp only [e12] at h; exact h)
      | 6, hx, h =>
        have e13 := hx 13 (by simp)
        first | exact (show _ from by simp only [← e13] at *; exact h) | (simp only [e13] at h; exact h)
      | 7, hx, h =>
        have e14 := hx 14 (by simp)
        first | exact (show _ from by simp only [← e14] at *; exact h) | (simp only [e14] at h; exact h)
      | 8, hx, h =>
        have e15 := hx 15 (by simp)
        first | exact (show _ from by simp only [← e15] at *; exact h) | (simp only [e15] at h; exact h)
      | 9, hx, h =>
        have e16 := hx 16 (by simp)
        first | exact (show _ from by simp only [← e16] at *; exact h) | (simp only [e16] at h; exact h)
      | 10, hx, h =>
        have e17 := hx 17 (by simp)
        first | exact (show _ from by simp only [← e17] at *; exact h) | (simp only [e17] at h; exact h)
      | 11, hx, h =>
        have e18 := hx 18 (by simp)
        first | exact (show _ from by simp only [← e18] at *; exact h) | (simp only [e18] at h; exact h)
      | 12, hx, h =>
        have e19 := hx 19 (by simp)
        first | exact (show _ from by simp only [← e19] at *; exact h) | (simp only [e19] at h; exact h)
      | 13, hx, h =>
        have e20 := hx 20 (by simp)
        first | exact (show _ from by simp only [← e20] at *; exact h) | (simp only [e20] at h; exact h)
      | (n + 14), _, h => exact h
    case phh =>
      intro i j s w w' hij h r
      iterate 14 (rcases i with _ | i; · exact h)
      exact h
    case pstep =>
      intro i o ho a' w' bb hbb hsa hb hd
      match i, ho with
      | 0, ho =>
        obtain rfl := Option.some.inj ho
        try dsimp only at hd
        have g2 : a'.tmps.getD 2 undef = .pointer (some ⟨W.heap.size, 0, none⟩) := hsa.rest 2 (by rfl)
        have c0 := box1_cell hb.2.2.1
        refine wpOpIn_of rfl rfl ?_
        refine op_runIn (v := .func (.yield l) #[] #[]) (w' := w') (by intro c e; cases e) ?_ ⟨_, rfl, ?_, ?_⟩
        · simp only [execOp, Act.eval, List.map_toArray, List.map_cons, List.map_nil, g2, c0]; first | (go_simp; done) | rfl
        · try dsimp only
          exact (slots_put (ns := 21) (hsa.size.trans rfl) (by decide))
        · exact ⟨fun _ => rfl, fun e => absurd e (by decide)⟩
      | 1, ho =>
        obtain rfl := Option.some.inj ho
        try dsimp only at hd
        have g3 : a'.tmps.getD 3 undef = .slice (some ⟨b, off + x.val * 6, none⟩) 2 2 := hsa.rest 3 (by rfl)
        refine wpOpIn_of rfl rfl ?_
        refine op_runIn (v := .slice (some ⟨b, off + x.val * 6, none⟩) 2 2) (w' := w') (by intro c e; cases e) ?_ ⟨_, rfl, ?_, ?_⟩
        · simp only [execOp, Act.eval, List.map_toArray, List.map_cons, List.map_nil, g3]; first | (go_simp; done) | rfl
        · try dsimp only
          exact (slots_put (ns := 21) (hsa.size.trans rfl) (by decide))
        · exact ⟨fun _ => rfl, fun e => absurd e (by decide)⟩
      | 2, ho =>
        obtain rfl := Option.some.inj ho
        try dsimp only at hd
        have d1 : a'.tmps.getD 8 undef = .slice (some ⟨b, off + x.val * 6, none⟩) 2 2 := hd 1 (by rfl)
        refine wpOpIn_of rfl rfl ?_
        refine op_runIn (v := .pointer (some ⟨b, off + x.val * 6, none⟩)) (w' := w') (by intro c e; cases e) ?_ ⟨_, rfl, ?_, ?_⟩
        · simp only [execOp, Act.eval, List.map_toArray, List.map_cons, List.map_nil, d1]; first | (go_simp; done) | rfl
        · try dsimp only
          exact (slots_put (ns := 21) (hsa.size.trans rfl) (by decide))
        · exact ⟨fun _ => rfl, fun e => absurd e (by decide)⟩
      | 3, ho =>
        obtain rfl := Option.some.inj ho
        try dsimp only at hd
        have d2 : a'.tmps.getD 9 undef = .pointer (some ⟨b, off + x.val * 6, none⟩) := hd 2 (by rfl)
        refine wpOpIn_of rfl rfl ?_
        refine op_runIn (v := .pointer (some ⟨b, off + x.val * 6 + 1, none⟩)) (w' := w') (by intro c e; cases e) ?_ ⟨_, rfl, ?_, ?_⟩
        · simp only [execOp, Act.eval, List.map_toArray, List.map_cons, List.map_nil, d2]; first | (go_simp; done) | rfl
        · try dsimp only
          exact (slots_put (ns := 21) (hsa.size.trans rfl) (by decide))
        · exact ⟨fun _ => rfl, fun e => absurd e (by decide)⟩
      | 4, ho =>
        obtain rfl := Option.some.inj ho
        try dsimp only at hd
        have d3 : a'.tmps.getD 10 undef = .pointer (some ⟨b, off + x.val * 6 + 1, none⟩) := hd 3 (by rfl)
        obtain ⟨y0, y1⟩ := hP x.val x.isLt w' hb.2.1
        refine wpOpIn_of rfl rfl ?_
        refine op_runIn (v := .int .u64 M[x.val].node) (w' := w') (by intro c e; cases e) ?_ ⟨_, rfl, ?_, ?_⟩
        · simp only [execOp, Act.eval, List.map_toArray, List.map_cons, List.map_nil, d3, y0]; first | (go_simp; done) | rfl
        · try dsimp only
          exact (slots_put (ns := 21) (hsa.size.trans rfl) (by decide))
        · exact ⟨fun _ => rfl, fun e => absurd e (by decide)⟩
      | 5, ho =>
        obtain rfl := Option.some.inj ho
        try dsimp only at hd
        have d4 : a'.tmps.getD 11 undef = .int .u64 M[x.val].node := hd 4 (by rfl)
        refine wpOpIn_of rfl rfl ?_
        refine op_runIn (v := .int .i64 (IntKind.i64.wrap M[x.val].node)) (w' := w') (by intro c e; cases e) ?_ ⟨_, rfl, ?_, ?_⟩
        · simp only [execOp, Act.eval, List.map_toArray, List.map_cons, List.map_nil, d4]; first | (go_simp; done) | rfl
        · try dsimp only
          exact (slots_put (ns := 21) (hsa.size.trans rfl) (by decide))
        · exact ⟨fun _ => rfl, fun e => absurd e (by decide)⟩
      | 6, ho =>
        obtain rfl := Option.some.inj ho
        try dsimp only at hd
        have g3 : a'.tmps.getD 3 undef = .slice (some ⟨b, off + x.val * 6, none⟩) 2 2 := hsa.rest 3 (by rfl)
        refine wpOpIn_of rfl rfl ?_
        refine op_runIn (v := .slice (some ⟨b, off + x.val * 6, none⟩) 2 2) (w' := w') (by intro c e; cases e) ?_ ⟨_, rfl, ?_, ?_⟩
        · simp only [execOp, Act.eval, List.map_toArray, List.map_cons, List.map_nil, g3]; first | (go_simp; done) | rfl
        · try dsimp only
          exact (slots_put (ns := 21) (hsa.size.trans rfl) (by decide))
        · exact ⟨fun _ => rfl, fun e => absurd e (by decide)⟩
      | 7, ho =>
        obtain rfl := Option.some.inj ho
        try dsimp only at hd
        have d6 : a'.tmps.getD 13 undef = .slice (some ⟨b, off + x.val * 6, none⟩) 2 2 := hd 6 (by rfl)
        refine wpOpIn_of rfl rfl ?_
        refine op_runIn (v := .pointer (some ⟨b, off + x.val * 6 + 3, none⟩)) (w' := w') (by intro c e; cases e) ?_ ⟨_, rfl, ?_, ?_⟩
        · simp only [execOp, Act.eval, List.map_toArray, List.map_cons, List.map_nil, d6]; first | (go_simp; done) | rfl
        · try dsimp only
          exact (slots_put (ns := 21) (hsa.size.trans rfl) (by decide))
        · exact ⟨fun _ => rfl, fun e => absurd e (by decide)⟩
      | 8, ho =>
        obtain rfl := Option.some.inj ho
        try dsimp only at hd
        have d7 : a'.tmps.getD 14 undef = .pointer (some ⟨b, off + x.val * 6 + 3, none⟩) := hd 7 (by rfl)
        refine wpOpIn_of rfl rfl ?_
        refine op_runIn (v := .pointer (some ⟨b, off + x.val * 6 + 4, none⟩)) (w' := w') (by intro c e; cases e) ?_ ⟨_, rfl, ?_, ?_⟩
        · simp only [execOp, Act.eval, List.map_toArray, List.map_cons, List.map_nil, d7]; first | (go_simp; done) | rfl
        · try dsimp only
          exact (slots_put (ns := 21) (hsa.size.trans rfl) (by decide))
        · exact ⟨fun _ => rfl, fun e => absurd e (by decide)⟩
      | 9, ho =>
        obtain rfl := Option.some.inj ho
        try dsimp only at hd
        have d8 : a'.tmps.getD 15 undef = .pointer (some ⟨b, off + x.val * 6 + 4, none⟩) := hd 8 (by rfl)
        obtain ⟨y0, y1⟩ := hP x.val x.isLt w' hb.2.1
        refine wpOpIn_of rfl rfl ?_
        refine op_runIn (v := .int .u64 M[x.val].life) (w' := w') (by intro c e; cases e) ?_ ⟨_, rfl, ?_, ?_⟩
        · simp only [execOp, Act.eval, List.map_toArray, List.map_cons, List.map_nil, d8, y1]; first | (go_simp; done) | rfl
        · try dsimp only
          exact (slots_put (ns := 21) (hsa.size.trans rfl) (by decide))
        · exact ⟨fun _ => rfl, fun e => absurd e (by decide)⟩
      | 10, ho =>
        obtain rfl := Option.some.inj ho
        try dsimp only at hd
        have d9 : a'.tmps.getD 16 undef = .int .u64 M[x.val].life := hd 9 (by rfl)
        refine wpOpIn_of rfl rfl ?_
        refine op_runIn (v := .int .i64 (IntKind.i64.wrap M[x.val].life)) (w' := w') (by intro c e; cases e) ?_ ⟨_, rfl, ?_, ?_⟩
        · simp only [execOp, Act.eval, List.map_toArray, List.map_cons, List.map_nil, d9]; first | (go_simp; done) | rfl
        · try dsimp only
          exact (slots_put (ns := 21) (hsa.size.trans rfl) (by decide))
        · exact ⟨fun _ => rfl, fun e => absurd e (by decide)⟩
      | 11, ho =>
        obtain rfl := Option.some.inj ho
        try dsimp only at hd
        have d5 : a'.tmps.getD 12 undef = .int .i64 (IntKind.i64.wrap M[x.val].node) := hd 5 (by rfl)
        have d10 : a'.tmps.getD 17 undef = .int .i64 (IntKind.i64.wrap M[x.val].life) := hd 10 (by rfl)
        refine wpOpIn_of rfl rfl ?_
        refine op_runIn (v := .agg #[.int .i64 (IntKind.i64.wrap M[x.val].node), .int .i64 (IntKind.i64.wrap M[x.val].life)]) (w' := w') (by intro c e; cases e) ?_ ⟨_, rfl, ?_, ?_⟩
        · simp only [execOp, Act.eval, List.map_toArray, List.map_cons, List.map_nil, d5, d10]; first | (go_simp; done) | rfl
        · try dsimp only
          exact (slots_put (ns := 21) (hsa.size.trans rfl) (by decide))
        · exact ⟨fun _ => rfl, fun e => absurd e (by decide)⟩
      | 12, ho =>
        obtain rfl := Option.some.inj ho
        try dsimp only at hd
        have d0 : a'.tmps.getD 7 undef = .func (.yield l) #[] #[] := hd 0 (by rfl)
        have d11 : a'.tmps.getD 18 undef = .agg #[.int .i64 (IntKind.i64.wrap M[x.val].node), .int .i64 (IntKind.i64.wrap M[x.val].life)] := hd 11 (by rfl)
        obtain rfl := hbb rfl
        obtain ⟨j1, j2, j3, j4, j5⟩ := hb
        rw [if_neg (by simp)] at j1
        refine wpOpIn_of rfl rfl ?_
        refine op_yieldIn (x := .agg #[.int .i64 (IntKind.i64.wrap M[x.val].node), .int .i64 (IntKind.i64.wrap M[x.val].life)]) (.tmp 7) (.tmp 18) _ rfl (by simp only [Act.eval, d0, d11]) (by simp only [Act.eval, d0, d11]) (hY (pre.map fun i : Fin M.length => wrM M[i.val]) (wrM M[x.val]) w' j1 (by rw [List.length_map]; exact hlt) (by have := heap_lt j3; omega) _) ?_
        rintro e w'' ⟨rfl, q1, q2, q3⟩
        refine ⟨_, rfl, _, rfl, ?_, ?_⟩
        · exact (slots_put (ns := 21) (hsa.size.trans rfl) (by decide))
        · exact ⟨fun e => absurd rfl e, fun _ => ⟨by rw [if_pos rfl, List.map_append]; exact q1, j2.trans q2, q3.same _ _ (Nat.le_refl _) j3 (fun c e => by cases e), j4.trans q3, j5⟩⟩
      | 13, ho =>
        obtain rfl := Option.some.inj ho
        try dsimp only at hd
        have d12 : a'.tmps.getD 19 undef = .bool true := hd 12 (by rfl)
        refine wpOpIn_of rfl rfl ?_
        refine op_runIn (v := .bool false) (w' := w') (by intro c e; cases e) ?_ ⟨_, rfl, ?_, ?_⟩
        · simp only [execOp, Act.eval, List.map_toArray, List.map_cons, List.map_nil, d12]; first | (go_simp; done) | rfl
        · try dsimp only
          exact (slots_put (ns := 21) (hsa.size.trans rfl) (by decide))
        · exact ⟨fun _ => rfl, fun e => absurd e (by decide)⟩
      | (n + 14), ho => exact absurd ho (by simp)
    case pdone =>
      intro a' w' hsa hb hd
      have d13 : a'.tmps.getD 20 undef = .bool false := hd 13 (by decide)
      obtain ⟨j1, j2, j3, j4, _⟩ := hb
      rw [if_pos rfl] at j1
      exact HK.out a' w' hsa.size hsa.defers d13 j1 j2 j3 j4
  case done =>
    rintro D ys Vd hD rfl ⟨g1, g2, g3⟩ hK
    rw [fin_map] at g1
    gi_wp2
    refine ⟨by simp, .inl ⟨_, _, rfl, run_takeDeferred hK, ?_⟩⟩
    exact ⟨_, results_none rfl _ _ _, ⟨_, rfl⟩, _, rfl, OwnFrom.putObj hJ _ g1 (by omega) hK rfl⟩
  case stop =>
    rintro D c pre V hD hpre h hK
    exact h.elim
end Go.Proofs.Ytfcpclpaalekiaa
