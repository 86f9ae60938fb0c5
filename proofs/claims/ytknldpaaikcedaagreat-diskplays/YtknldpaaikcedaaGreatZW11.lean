/-
  What a Create, a Rename, a Remove, an Append, a Truncate does with a disk in memory.
-/
import Derived.Test.YtknldpaaikcedaaGreatZW10
namespace Go.Proofs.YtknldpaaikcedaaGreat
open Go.RowKit Go.Maps

/-- An act of the directory was done, and nothing else. -/
structure Named (G G' : DG) (x : DA) : Prop where
  room : G'.room = G.room
  fuse : G'.fuse = G.fuse
  down : G'.down = G.down
  D : G'.D = x.run G.D
  LD : G'.LD = G.LD
  X : G'.X = G.X ++ [x]
  file : G'.file = G.file
  n : G'.n = G.n + 1
  q : G'.q = G.q
theorem named_act2 {w : World} {b : Nat} {G : DG} (h : Rep w b G) (hn : G.n < 100000) (x : DA) (hx : x.kind ≤ 1) (hheld : x.held w) (hc : G.role x.c = (5, 0) ∧ G.role x.d = (5, 0)) (hfit : x.fits G.D)
    (hkn : (x.kind = 0 → G.file x.id ≠ none) ∧ 1 ≤ x.a.size ∧ x.a.size ≤ 40 ∧ (x.kind = 1 → 1 ≤ x.b.size ∧ x.b.size ≤ 40)) :
    Calls Tryz.prog 50 #[.pointer (some ⟨b, 3, none⟩), .agg #[.func (.func x.fn) #[] #[.pointer (some ⟨x.c, 0, none⟩), .pointer (some ⟨x.d, 0, none⟩)]]] w fun e w' => e = .returned (.tuple #[]) ∧ ∃ G', Step w b G w' G' ∧ Named G G' x := by
  have hf := h.few
  have hd : x.d ≠ G.nb := fun e => by have := hc.2; rw [e, h.pn] at this; cases this
  have h1 := dact2_any b G.nb G.lb (G.n + 1) x.fn x.c x.d (.int .i64 G.room) (.int .i64 G.fuse) (.bool G.down) (.slice G.so G.X.length G.sc) (x.run G.D) G.X.length (G.X.map dactC) w (dfn_enters x) h.box h.row (by omega) h.now.lt
    (fun e => by have := h.pb; rw [← e, h.pn] at this; cases this) (fun e => by have := h.ps _ ((sliceBlock _ _ _).symm.trans e); rw [h.pb] at this; cases this) (fun e => by have := h.ps _ ((sliceBlock _ _ _).symm.trans e); rw [h.pn] at this; cases this)
    (fun w1 hb => do_dir2 x hx G.nb G.n G.D w1 (DA.held_of hheld (hb.block _ (DA.held_lt hheld).1) (hb.block _ (DA.held_lt hheld).2)) hfit (by unfold maxLen; omega) hd (below_map hb h.now))
  refine h1.mono fun e w' ⟨he, g, cap, a1, a2, a3, a4, a5⟩ => ⟨he, _, h.named x g cap hheld hc hfit hkn a1 a2 (by unfold dactC; rw [caps2 hx]; exact a3) a4 a5, ⟨rfl, rfl, rfl, rfl, rfl, rfl, rfl, rfl, rfl⟩⟩
theorem named_act1 {w : World} {b : Nat} {G : DG} (h : Rep w b G) (hn : G.n < 100000) (x : DA) (hx : ¬ x.kind ≤ 1) (hheld : x.held w) (hc : G.role x.c = (5, 0) ∧ G.role x.d = (5, 0)) (hfit : x.fits G.D)
    (hkn : (x.kind = 0 → G.file x.id ≠ none) ∧ 1 ≤ x.a.size ∧ x.a.size ≤ 40 ∧ (x.kind = 1 → 1 ≤ x.b.size ∧ x.b.size ≤ 40)) :
    Calls Tryz.prog 50 #[.pointer (some ⟨b, 3, none⟩), .agg #[.func (.func x.fn) #[] #[.pointer (some ⟨x.c, 0, none⟩)]]] w fun e w' => e = .returned (.tuple #[]) ∧ ∃ G', Step w b G w' G' ∧ Named G G' x := by
  have hf := h.few
  have h1 := dact1_any b G.nb G.lb (G.n + 1) x.fn x.c (.int .i64 G.room) (.int .i64 G.fuse) (.bool G.down) (.slice G.so G.X.length G.sc) (x.run G.D) G.X.length (G.X.map dactC) w (dfn_enters x) h.box h.row (by omega) h.now.lt
    (fun e => by have := h.pb; rw [← e, h.pn] at this; cases this) (fun e => by have := h.ps _ ((sliceBlock _ _ _).symm.trans e); rw [h.pb] at this; cases this) (fun e => by have := h.ps _ ((sliceBlock _ _ _).symm.trans e); rw [h.pn] at this; cases this)
    (fun w1 hb => do_dir1 x hx G.nb G.n G.D w1 (DA.held_of hheld (hb.block _ (DA.held_lt hheld).1) (hb.block _ (DA.held_lt hheld).2)) (below_map hb h.now))
  refine h1.mono fun e w' ⟨he, g, cap, a1, a2, a3, a4, a5⟩ => ⟨he, _, h.named x g cap hheld hc hfit hkn a1 a2 (by unfold dactC; rw [caps1 hx]; exact a3) a4 a5, ⟨rfl, rfl, rfl, rfl, rfl, rfl, rfl, rfl, rfl⟩⟩

/-- A block that became the disk's is new to it. -/
theorem Step.lend {w w1 : World} {b : Nat} {G : DG} (h : Rep w b G) (hb : Below w.heap.size w w1) (c : Nat) (hc : w.heap.size ≤ c) (hc1 : c < w1.heap.size) : Step w b G w1 { G with role := fun j => if j = c then (5, 0) else G.role j } := by
  have h0 : G.role c = (0, 0) := Classical.byContradiction fun e => by have := h.lt c e; omega
  refine ⟨(h.below hb).lend c hc1 (.inl h0), Touch.of_below hb, fun j e => ?_⟩
  by_cases hj : j = c
  · exact .inr (hj ▸ hc)
  · left
    show G.role j ≠ _
    have e' : (if j = c then ((5, 0) : Nat × Nat) else G.role j) ≠ (0, 0) := e
    rw [if_neg hj] at e'
    exact e'
theorem Step.lend2 {w w1 : World} {b : Nat} {G : DG} (h : Rep w b G) (hb : Below w.heap.size w w1) (c d : Nat) (hc : w.heap.size ≤ c) (hc1 : c < w1.heap.size) (hd : w.heap.size ≤ d) (hd1 : d < w1.heap.size) :
    Step w b G w1 { G with role := fun j => if j = d then (5, 0) else if j = c then (5, 0) else G.role j } := by
  have s1 := Step.lend h hb c hc hc1
  have h0 : G.role d = (0, 0) := Classical.byContradiction fun e => by have := h.lt d e; omega
  refine ⟨s1.rep.lend d hd1 ?_, s1.touch, fun j e => ?_⟩
  · show (if d = c then ((5, 0) : Nat × Nat) else G.role d) = _ ∨ (if d = c then ((5, 0) : Nat × Nat) else G.role d) = _
    by_cases e : d = c
    · rw [if_pos e]; exact .inr rfl
    · rw [if_neg e]; exact .inl h0
  · by_cases hj : j = d
    · exact .inr (hj ▸ hd)
    · have e' : (if j = d then ((5, 0) : Nat × Nat) else if j = c then (5, 0) else G.role j) ≠ (0, 0) := e
      rw [if_neg hj] at e'
      exact s1.grow j e'

/-- A file of no bytes was made under a name. -/
structure Created (G G' : DG) (s : ByteArray) (f : Nat) : Prop where
  fresh : G.file f = none
  room : G'.room = G.room
  fuse : G'.fuse = G.fuse
  down : G'.down = G.down
  D : G'.D = dput G.D s.data.toList f
  LD : G'.LD = G.LD
  X : ∃ x : DA, x.kind = 0 ∧ x.a = s ∧ x.id = f ∧ G'.X = G.X ++ [x]
  file : G'.file = fun j => if j = f then some ⟨none, 0, none, 0, none, 0, [], [], []⟩ else G.file j
  n : G'.n = G.n + 1
  q : G'.q = G.q
/-- The new file and its act are the disk's; then the act is done. -/
theorem create_made {w w1 : World} {b : Nat} {G : DG} {s : ByteArray} {c d f : Nat} (h : Rep w b G) (hn : G.n < 100000) (hs : 1 ≤ s.size ∧ s.size ≤ 40) (hb : Below w.heap.size w w1)
    (ha : w1.heap[c]? = some (.cells #[.pointer (some ⟨f, 0, none⟩)] 62 (0, 0)) ∧ w1.heap[d]? = some (.cells #[.string s] 9 (0, 0)) ∧ w1.heap[f]? = some (.cells #[.slice none 0 0, .slice none 0 0, .slice none 0 0] 66 (0, 0)) ∧ w.heap.size ≤ c ∧ w.heap.size ≤ d ∧ w.heap.size ≤ f ∧ c ≠ d ∧ c ≠ f ∧ d ≠ f) :
    Calls Tryz.prog 50 #[.pointer (some ⟨b, 3, none⟩), .agg #[.func (.func 74) #[] #[.pointer (some ⟨c, 0, none⟩), .pointer (some ⟨d, 0, none⟩)]]] w1 fun e w' => e = .returned (.tuple #[]) ∧ ∃ G', Step w b G w' G' ∧ Created G G' s f := by
  obtain ⟨a1, a2, a3, a4, a5, a6, a7, a8, a9⟩ := ha
  have f0 : G.role f = (0, 0) := Classical.byContradiction fun e => by have := h.lt f e; omega
  have fn : G.file f = none := by
    cases hf : G.file f with
    | none => rfl
    | some F => have := (h.files f F hf).pf; rw [f0] at this; cases this
  have s1 := Step.lend2 h hb c d a4 (heap_lt a1) a5 (heap_lt a2)
  have r2 := s1.rep.newFile a3 (by show (if f = d then ((5, 0) : Nat × Nat) else if f = c then (5, 0) else G.role f) = _; rw [if_neg (Ne.symm a9), if_neg (Ne.symm a8)]; exact f0)
  have s2 : Step w b G w1 { G with file := fun j => if j = f then some ⟨none, 0, none, 0, none, 0, [], [], []⟩ else G.file j, role := fun j => if j = f then (6, 0) else if j = d then (5, 0) else if j = c then (5, 0) else G.role j } := ⟨r2, s1.touch, fun j e => by
    by_cases hj : j = f
    · exact .inr (hj ▸ a6)
    · have e' : (if j = f then ((6, 0) : Nat × Nat) else if j = d then (5, 0) else if j = c then (5, 0) else G.role j) ≠ (0, 0) := e
      rw [if_neg hj] at e'
      exact s1.grow j e'⟩
  have h3 := named_act2 s2.rep hn (DA.mk 0 s ByteArray.empty f c d) (Nat.zero_le _) ⟨a1, a2, hs.2⟩ ⟨by show (if c = f then ((6, 0) : Nat × Nat) else if c = d then (5, 0) else if c = c then (5, 0) else G.role c) = _; rw [if_neg a8, if_neg a7, if_pos rfl], by show (if d = f then ((6, 0) : Nat × Nat) else if d = d then (5, 0) else if d = c then (5, 0) else G.role d) = _; rw [if_neg a9, if_pos rfl]⟩
    (fun e => by cases e) ⟨fun _ => by show (if f = f then some _ else G.file f) ≠ none; rw [if_pos rfl]; simp, hs.1, hs.2, fun e => by cases e⟩
  refine h3.mono fun e w' ⟨he, G', st, nm⟩ => ⟨he, G', s2.trans st, ⟨fn, nm.room, nm.fuse, nm.down, nm.D, nm.LD, ⟨_, rfl, rfl, rfl, nm.X⟩, nm.file, nm.n, nm.q⟩⟩
theorem rename_made {w w1 : World} {b : Nat} {G : DG} {s t : ByteArray} {c d : Nat} (h : Rep w b G) (hn : G.n < 100000) (hs : 1 ≤ s.size ∧ s.size ≤ 40) (ht : 1 ≤ t.size ∧ t.size ≤ 40) (hf : dget G.D s.data.toList ≠ none) (hb : Below w.heap.size w w1)
    (ha : w1.heap[c]? = some (.cells #[.string s] 9 (0, 0)) ∧ w1.heap[d]? = some (.cells #[.string t] 9 (0, 0)) ∧ w.heap.size ≤ c ∧ w.heap.size ≤ d) :
    Calls Tryz.prog 50 #[.pointer (some ⟨b, 3, none⟩), .agg #[.func (.func 76) #[] #[.pointer (some ⟨c, 0, none⟩), .pointer (some ⟨d, 0, none⟩)]]] w1 fun e w' => e = .returned (.tuple #[]) ∧ ∃ G' x, Step w b G w' G' ∧ Named G G' x ∧ x.kind = 1 ∧ x.a = s ∧ x.b = t := by
  obtain ⟨a1, a2, a4, a5⟩ := ha
  have s1 := Step.lend2 h hb c d a4 (heap_lt a1) a5 (heap_lt a2)
  have h3 := named_act2 s1.rep hn (DA.mk 1 s t 0 c d) (Nat.le_refl _) ⟨a1, a2, hs.2, ht.2⟩ ⟨by show (if c = d then ((5, 0) : Nat × Nat) else if c = c then (5, 0) else G.role c) = _; split <;> simp, by show (if d = d then ((5, 0) : Nat × Nat) else _) = _; rw [if_pos rfl]⟩
    (fun _ => hf) ⟨(fun e => by cases e), hs.1, hs.2, fun _ => ht⟩
  refine h3.mono fun e w' ⟨he, G', st, nm⟩ => ⟨he, G', _, s1.trans st, ⟨nm.room, nm.fuse, nm.down, nm.D, nm.LD, nm.X, nm.file, nm.n, nm.q⟩, rfl, rfl, rfl⟩
theorem remove_made {w w1 : World} {b : Nat} {G : DG} {s : ByteArray} {c : Nat} (h : Rep w b G) (hn : G.n < 100000) (hs : 1 ≤ s.size ∧ s.size ≤ 40) (hb : Below w.heap.size w w1) (a1 : w1.heap[c]? = some (.cells #[.string s] 9 (0, 0))) (a4 : w.heap.size ≤ c) :
    Calls Tryz.prog 50 #[.pointer (some ⟨b, 3, none⟩), .agg #[.func (.func 78) #[] #[.pointer (some ⟨c, 0, none⟩)]]] w1 fun e w' => e = .returned (.tuple #[]) ∧ ∃ G' x, Step w b G w' G' ∧ Named G G' x ∧ x.kind = 2 ∧ x.a = s := by
  have s1 := Step.lend h hb c a4 (heap_lt a1)
  have h3 := named_act1 s1.rep hn (DA.mk 2 s ByteArray.empty 0 c c) (by show ¬ 2 ≤ 1; omega) ⟨a1, rfl, hs.2⟩ ⟨by show (if c = c then ((5, 0) : Nat × Nat) else _) = _; rw [if_pos rfl], by show (if c = c then ((5, 0) : Nat × Nat) else _) = _; rw [if_pos rfl]⟩
    (fun e => by cases e) ⟨(fun e => by cases e), hs.1, hs.2, (fun e => by cases e)⟩
  refine h3.mono fun e w' ⟨he, G', st, nm⟩ => ⟨he, G', _, s1.trans st, ⟨nm.room, nm.fuse, nm.down, nm.D, nm.LD, nm.X, nm.file, nm.n, nm.q⟩, rfl, rfl⟩

/-- An act of a file was done, and nothing else. -/
structure Acted (G G' : DG) (f : Nat) (F F' : FG) (a : FA) : Prop where
  room : G'.room = G.room
  fuse : G'.fuse = G.fuse
  down : G'.down = G.down
  D : G'.D = G.D
  LD : G'.LD = G.LD
  X : G'.X = G.X
  file : G'.file = fun j => if j = f then some F' else G.file j
  now : F'.now = a.run F.now a.units
  last : F'.last = F.last
  acts : F'.acts = F.acts ++ [a]
  n : G'.n = G.n + 1
  q : G'.q = G.q
theorem file_acted {w : World} {b f : Nat} {G : DG} {F : FG} (h : Rep w b G) (hn : G.n < 100000) (hF : G.file f = some F) (a : FA) (hheld : a.held w) (hc : G.role a.cap = (5, 0)) (hfit : a.fits F.now) (hu : a.units ≤ G.q) :
    Calls Tryz.prog 53 #[.pointer (some ⟨f, 0, none⟩), .agg #[.int .i64 a.units, .func (.func a.fn) #[] #[.pointer (some ⟨a.cap, 0, none⟩)]]] w fun e w' => e = .returned (.tuple #[]) ∧ ∃ G' F', Step w b G w' G' ∧ Acted G G' f F F' a := by
  have hf := h.files f F hF
  have hfew := hf.few
  have hq := h.hq
  have hbig : F.now.length + a.units ≤ 140737488355328 := by
    have h1 := runAll_length F.last F.acts
    rw [← hf.eq] at h1
    have h2 := hf.big
    have h3 : G.n * G.q ≤ 99999 * 1000000000 := Nat.mul_le_mul (by omega) hq
    omega
  have h1 := fact_any f a.fn a.cap a.units (.slice F.no F.now.length F.nc) (.slice F.lo F.last.length F.lc) (.slice F.so F.acts.length F.sc) (a.run F.now a.units).length (bytesC (a.run F.now a.units)) F.acts.length (actsC F.acts) w (fn_enters a) hf.box hf.rs (by omega)
    (fun j hj => row_lt hf.rn hj) (fun e => by have := hf.pn _ ((sliceBlock _ _ _).symm.trans e); rw [hf.pf] at this; cases this) (fun e => by have := hf.ps _ ((sliceBlock _ _ _).symm.trans e); rw [hf.pf] at this; cases this)
    (fun j hj e => by have h1 := hf.pn _ ((sliceBlock _ _ _).symm.trans hj); have h2 := hf.ps _ ((sliceBlock _ _ _).symm.trans e); rw [h1] at h2; injection h2 with h3; omega)
    (fun w1 hb => do_any a _ F.now a.units w1 (FA.held_of hheld (hb.block _ (FA.held_lt hheld))) hfit (Nat.le_refl _) hbig (below_row hb hf.rn))
  refine h1.mono fun e w' ⟨he, ao, cp, g, cap, b1, b2, b3, b4, b5, b6, b7⟩ => ⟨he, _, _, h.acted hF a ao cp g cap hheld hc hfit hu b1 b2 b3 b4 b5 b6 b7, ⟨rfl, rfl, rfl, rfl, rfl, rfl, rfl, rfl, rfl, rfl, rfl, rfl⟩⟩
theorem file_made {w w1 : World} {b f : Nat} {G : DG} {F : FG} (h : Rep w b G) (hn : G.n < 100000) (hF : G.file f = some F) (a : FA) (hb : Below w.heap.size w w1) (hheld : a.held w1) (hc : w.heap.size ≤ a.cap) (hfit : a.fits F.now) (hu : a.units ≤ G.q) :
    Calls Tryz.prog 53 #[.pointer (some ⟨f, 0, none⟩), .agg #[.int .i64 a.units, .func (.func a.fn) #[] #[.pointer (some ⟨a.cap, 0, none⟩)]]] w1 fun e w' => e = .returned (.tuple #[]) ∧ ∃ G' F', Step w b G w' G' ∧ Acted G G' f F F' a := by
  have s1 := Step.lend h hb a.cap hc (FA.held_lt hheld)
  have h3 := file_acted s1.rep hn hF a hheld (by show (if a.cap = a.cap then ((5, 0) : Nat × Nat) else _) = _; rw [if_pos rfl]) hfit hu
  refine h3.mono fun e w' ⟨he, G', F', st, nm⟩ => ⟨he, G', F', s1.trans st, ⟨nm.room, nm.fuse, nm.down, nm.D, nm.LD, nm.X, nm.file, nm.now, nm.last, nm.acts, nm.n, nm.q⟩⟩
attribute [local go_sem ↓] Go.wp_at_zero Go.wp_at_succ
set_option maxRecDepth 100000 in
set_option maxHeartbeats 2000000 in
theorem create_act {w : World} {b : Nat} {G : DG} (h : Rep w b G) (hn : G.n < 100000) (p q : Nat) (s : ByteArray) (hs : 1 ≤ s.size ∧ s.size ≤ 40) (hp : w.heap[p]? = some (.cells #[.pointer (some ⟨b, 0, none⟩)] 24 (0, 0))) (hq : w.heap[q]? = some (.cells #[.string s] 9 (0, 0))) (hp0 : G.role p = (0, 0)) (hq0 : G.role q = (0, 0)) :
    Calls Tryz.prog 49 #[.pointer (some ⟨p, 0, none⟩), .pointer (some ⟨q, 0, none⟩)] w fun e w' => e = .returned (.tuple #[]) ∧ ∃ f G', Step w b G w' G' ∧ Created G G' s f := by
  have HR := hide h
  have HP := hide hp
  have HQ := hide hq
  have c1 : w.cell? ⟨p, 0, none⟩ = some (.pointer (some ⟨b, 0, none⟩)) := box_cell hp 0 rfl
  have c2 : w.cell? ⟨q, 0, none⟩ = some (.string s) := box_cell hq 0 rfl
  have HC := hide (fun w => creating_any s w (by omega))
  have HP0 := hide hp0
  have HQ0 := hide hq0
  clear h hp hq hp0 hq0
  go_enter Tryz.func49, Tryz.ntmps49
  go_wp2
  go_region_held3 (fun w' => w'.cell? ⟨p, 0, none⟩ = some (.pointer (some ⟨b, 0, none⟩)) ∧ w'.cell? ⟨q, 0, none⟩ = some (.string s))
    (go_keep)
    (first
      | (go_at_call 51; refine (HC.out w.drew).mono ?_; rintro e w1 ⟨c, d, f, rfl, a1, a2, a3, a4, a5, a6, a7, a8, a9, bb⟩; have B1 := hide (show Below w.heap.size w w1 from ⟨bb.os, bb.tape, bb.output, bb.size, bb.block⟩); clear bb; have HA := hide (And.intro a1 (And.intro a2 (And.intro a3 (And.intro a4 (And.intro a5 (And.intro a6 (And.intro a7 (And.intro a8 a9)))))))); clear a1 a2 a3 a4 a5 a6 a7 a8 a9; have d1 : w1.cell? ⟨p, 0, none⟩ = some (.pointer (some ⟨b, 0, none⟩)) := box_cell (Below.at B1.out HP.out) 0 rfl; have d2 : w1.cell? ⟨q, 0, none⟩ = some (.string s) := box_cell (Below.at B1.out HQ.out) 0 rfl)
      | (go_at_call 50; refine (create_made HR.out hn hs B1.out HA.out).mono ?_; rintro e w2 ⟨rfl, G', hst, hcr⟩; have d3 : w2.cell? ⟨p, 0, none⟩ = some (.pointer (some ⟨b, 0, none⟩)) := box_cell (hst.touch.at HP.out fun e => e HP0.out) 0 rfl; have d4 : w2.cell? ⟨q, 0, none⟩ = some (.string s) := box_cell (hst.touch.at HQ.out fun e => e HQ0.out) 0 rfl))
  go_end0
  exact ⟨rfl, f, G', hst, hcr⟩
set_option maxRecDepth 100000 in
set_option maxHeartbeats 2000000 in
theorem rename_act {w : World} {b : Nat} {G : DG} (h : Rep w b G) (hn : G.n < 100000) (p q r : Nat) (s t : ByteArray) (hs : 1 ≤ s.size ∧ s.size ≤ 40) (ht : 1 ≤ t.size ∧ t.size ≤ 40) (hf : dget G.D s.data.toList ≠ none) (hp : w.heap[p]? = some (.cells #[.pointer (some ⟨b, 0, none⟩)] 24 (0, 0))) (hp0 : G.role p = (0, 0)) (hq : w.heap[q]? = some (.cells #[.string s] 9 (0, 0))) (hq0 : G.role q = (0, 0)) (hr : w.heap[r]? = some (.cells #[.string t] 9 (0, 0))) (hr0 : G.role r = (0, 0)) :
    Calls Tryz.prog 57 #[.pointer (some ⟨p, 0, none⟩), .pointer (some ⟨q, 0, none⟩), .pointer (some ⟨r, 0, none⟩)] w fun e w' => e = .returned (.tuple #[]) ∧ ∃ G' x, Step w b G w' G' ∧ Named G G' x ∧ x.kind = 1 ∧ x.a = s ∧ x.b = t := by
  have HR := hide h
  have Hp := hide hp
  have Hp0 := hide hp0
  have cp : w.cell? ⟨p, 0, none⟩ = some (.pointer (some ⟨b, 0, none⟩)) := box_cell hp 0 rfl
  have Hq := hide hq
  have Hq0 := hide hq0
  have cq : w.cell? ⟨q, 0, none⟩ = some (.string s) := box_cell hq 0 rfl
  have Hr := hide hr
  have Hr0 := hide hr0
  have cr : w.cell? ⟨r, 0, none⟩ = some (.string t) := box_cell hr 0 rfl
  have HC := hide (fun w => renaming_any s t w (by omega) (by omega))
  have HF := hide hf
  clear hf
  clear h hp hp0 hq hq0 hr hr0
  go_enter Tryz.func57, Tryz.ntmps57
  go_wp2
  go_region_held3 (fun w' => w'.cell? ⟨p, 0, none⟩ = some (.pointer (some ⟨b, 0, none⟩)) ∧ w'.cell? ⟨q, 0, none⟩ = some (.string s) ∧ w'.cell? ⟨r, 0, none⟩ = some (.string t))
    (go_keep)
    (first
      | (go_at_call 58; refine (HC.out w.drew).mono ?_; rintro e w1 ⟨c, d, rfl, a1, a2, a3, a4, bb⟩; have B1 := hide (show Below w.heap.size w w1 from ⟨bb.os, bb.tape, bb.output, bb.size, bb.block⟩); clear bb; have HA := hide (And.intro a1 (And.intro a2 (And.intro a3 a4))); clear a1 a2 a3 a4; have dp : w1.cell? ⟨p, 0, none⟩ = some (.pointer (some ⟨b, 0, none⟩)) := box_cell (Below.at B1.out Hp.out) 0 rfl; have dq : w1.cell? ⟨q, 0, none⟩ = some (.string s) := box_cell (Below.at B1.out Hq.out) 0 rfl; have dr : w1.cell? ⟨r, 0, none⟩ = some (.string t) := box_cell (Below.at B1.out Hr.out) 0 rfl)
      | (go_at_call 50; refine (rename_made HR.out hn hs ht HF.out B1.out HA.out).mono ?_; rintro e w2 ⟨rfl, G', x, hst, hcr⟩; have ep : w2.cell? ⟨p, 0, none⟩ = some (.pointer (some ⟨b, 0, none⟩)) := box_cell (hst.touch.at Hp.out fun e => e Hp0.out) 0 rfl; have eq : w2.cell? ⟨q, 0, none⟩ = some (.string s) := box_cell (hst.touch.at Hq.out fun e => e Hq0.out) 0 rfl; have er : w2.cell? ⟨r, 0, none⟩ = some (.string t) := box_cell (hst.touch.at Hr.out fun e => e Hr0.out) 0 rfl))
  go_end0
  exact ⟨rfl, G', x, hst, hcr⟩
set_option maxRecDepth 100000 in
set_option maxHeartbeats 2000000 in
theorem remove_act {w : World} {b : Nat} {G : DG} (h : Rep w b G) (hn : G.n < 100000) (p q : Nat) (s : ByteArray) (hs : 1 ≤ s.size ∧ s.size ≤ 40) (hp : w.heap[p]? = some (.cells #[.pointer (some ⟨b, 0, none⟩)] 24 (0, 0))) (hp0 : G.role p = (0, 0)) (hq : w.heap[q]? = some (.cells #[.string s] 9 (0, 0))) (hq0 : G.role q = (0, 0)) :
    Calls Tryz.prog 60 #[.pointer (some ⟨p, 0, none⟩), .pointer (some ⟨q, 0, none⟩)] w fun e w' => e = .returned (.tuple #[]) ∧ ∃ G' x, Step w b G w' G' ∧ Named G G' x ∧ x.kind = 2 ∧ x.a = s := by
  have HR := hide h
  have Hp := hide hp
  have Hp0 := hide hp0
  have cp : w.cell? ⟨p, 0, none⟩ = some (.pointer (some ⟨b, 0, none⟩)) := box_cell hp 0 rfl
  have Hq := hide hq
  have Hq0 := hide hq0
  have cq : w.cell? ⟨q, 0, none⟩ = some (.string s) := box_cell hq 0 rfl
  have HC := hide (fun w => removing_any s w (by omega))
  clear h hp hp0 hq hq0
  go_enter Tryz.func60, Tryz.ntmps60
  go_wp2
  go_region_held3 (fun w' => w'.cell? ⟨p, 0, none⟩ = some (.pointer (some ⟨b, 0, none⟩)) ∧ w'.cell? ⟨q, 0, none⟩ = some (.string s))
    (go_keep)
    (first
      | (go_at_call 61; refine (HC.out w.drew).mono ?_; rintro e w1 ⟨c, rfl, a1, a2, bb⟩; have B1 := hide (show Below w.heap.size w w1 from ⟨bb.os, bb.tape, bb.output, bb.size, bb.block⟩); clear bb; have HA := hide (And.intro a1 a2); clear a1 a2; have dp : w1.cell? ⟨p, 0, none⟩ = some (.pointer (some ⟨b, 0, none⟩)) := box_cell (Below.at B1.out Hp.out) 0 rfl; have dq : w1.cell? ⟨q, 0, none⟩ = some (.string s) := box_cell (Below.at B1.out Hq.out) 0 rfl)
      | (go_at_call 50; refine (remove_made HR.out hn hs B1.out HA.out.1 HA.out.2).mono ?_; rintro e w2 ⟨rfl, G', x, hst, hcr⟩; have ep : w2.cell? ⟨p, 0, none⟩ = some (.pointer (some ⟨b, 0, none⟩)) := box_cell (hst.touch.at Hp.out fun e => e Hp0.out) 0 rfl; have eq : w2.cell? ⟨q, 0, none⟩ = some (.string s) := box_cell (hst.touch.at Hq.out fun e => e Hq0.out) 0 rfl))
  go_end0
  exact ⟨rfl, G', x, hst, hcr⟩
set_option maxRecDepth 100000 in
set_option maxHeartbeats 2000000 in
theorem append_act {w : World} {b : Nat} {G : DG} (h : Rep w b G) (hn : G.n < 100000) (p q : Nat) (s : ByteArray) (f : Nat) (F : FG) (hF : G.file f = some F) (hs : s.size ≤ G.q) (hp : w.heap[p]? = some (.cells #[.pointer (some ⟨f, 0, none⟩)] 62 (0, 0))) (hp0 : G.role p = (0, 0)) (hq : w.heap[q]? = some (.cells #[.string s] 9 (0, 0))) (hq0 : G.role q = (0, 0)) :
    Calls Tryz.prog 52 #[.pointer (some ⟨p, 0, none⟩), .pointer (some ⟨q, 0, none⟩)] w fun e w' => e = .returned (.tuple #[]) ∧ ∃ G' F' c, Step w b G w' G' ∧ Acted G G' f F F' (FA.mk false c s 0) := by
  have HR := hide h
  have Hp := hide hp
  have Hp0 := hide hp0
  have cp : w.cell? ⟨p, 0, none⟩ = some (.pointer (some ⟨f, 0, none⟩)) := box_cell hp 0 rfl
  have Hq := hide hq
  have Hq0 := hide hq0
  have cq : w.cell? ⟨q, 0, none⟩ = some (.string s) := box_cell hq 0 rfl
  have hq := h.hq
  have HC := hide (fun w => appending_any s w (by omega))
  have HF := hide hF
  clear hF
  clear h hp hp0 hq hq0
  go_enter Tryz.func52, Tryz.ntmps52
  go_wp2
  go_region_held3 (fun w' => w'.cell? ⟨p, 0, none⟩ = some (.pointer (some ⟨f, 0, none⟩)) ∧ w'.cell? ⟨q, 0, none⟩ = some (.string s))
    (go_keep)
    (first
      | (go_at_call 54; refine (HC.out w.drew).mono ?_; rintro e w1 ⟨c, rfl, a1, a2, bb⟩; have B1 := hide (show Below w.heap.size w w1 from ⟨bb.os, bb.tape, bb.output, bb.size, bb.block⟩); clear bb; have HA := hide (And.intro a1 a2); clear a1 a2; have dp : w1.cell? ⟨p, 0, none⟩ = some (.pointer (some ⟨f, 0, none⟩)) := box_cell (Below.at B1.out Hp.out) 0 rfl; have dq : w1.cell? ⟨q, 0, none⟩ = some (.string s) := box_cell (Below.at B1.out Hq.out) 0 rfl)
      | (go_at_call 53; refine (file_made HR.out hn HF.out (FA.mk false c s 0) B1.out HA.out.1 HA.out.2 trivial hs).mono ?_; rintro e w2 ⟨rfl, G', F', hst, hcr⟩; have ep : w2.cell? ⟨p, 0, none⟩ = some (.pointer (some ⟨f, 0, none⟩)) := box_cell (hst.touch.at Hp.out fun e => e Hp0.out) 0 rfl; have eq : w2.cell? ⟨q, 0, none⟩ = some (.string s) := box_cell (hst.touch.at Hq.out fun e => e Hq0.out) 0 rfl))
  go_end0
  exact ⟨rfl, G', F', c, hst, hcr⟩
set_option maxRecDepth 100000 in
set_option maxHeartbeats 2000000 in
theorem truncate_act {w : World} {b : Nat} {G : DG} (h : Rep w b G) (hn : G.n < 100000) (p q : Nat) (m : Nat) (f : Nat) (F : FG) (hF : G.file f = some F) (hm : m ≤ F.now.length) (hq1 : 1 ≤ G.q) (hp : w.heap[p]? = some (.cells #[.pointer (some ⟨f, 0, none⟩)] 62 (0, 0))) (hp0 : G.role p = (0, 0)) (hq : w.heap[q]? = some (.cells #[.int .i64 m] 3 (0, 0))) (hq0 : G.role q = (0, 0)) :
    Calls Tryz.prog 72 #[.pointer (some ⟨p, 0, none⟩), .pointer (some ⟨q, 0, none⟩)] w fun e w' => e = .returned (.tuple #[]) ∧ ∃ G' F' c, Step w b G w' G' ∧ Acted G G' f F F' (FA.mk true c ByteArray.empty m) := by
  have HR := hide h
  have Hp := hide hp
  have Hp0 := hide hp0
  have cp : w.cell? ⟨p, 0, none⟩ = some (.pointer (some ⟨f, 0, none⟩)) := box_cell hp 0 rfl
  have Hq := hide hq
  have Hq0 := hide hq0
  have cq : w.cell? ⟨q, 0, none⟩ = some (.int .i64 m) := box_cell hq 0 rfl
  have HC := hide (fun w => truncating_any m w)
  have HF := hide hF
  clear hF
  clear h hp hp0 hq hq0
  go_enter Tryz.func72, Tryz.ntmps72
  go_wp2
  go_region_held3 (fun w' => w'.cell? ⟨p, 0, none⟩ = some (.pointer (some ⟨f, 0, none⟩)) ∧ w'.cell? ⟨q, 0, none⟩ = some (.int .i64 m))
    (go_keep)
    (first
      | (go_at_call 73; refine (HC.out w.drew).mono ?_; rintro e w1 ⟨c, rfl, a1, a2, bb⟩; have B1 := hide (show Below w.heap.size w w1 from ⟨bb.os, bb.tape, bb.output, bb.size, bb.block⟩); clear bb; have HA := hide (And.intro a1 a2); clear a1 a2; have dp : w1.cell? ⟨p, 0, none⟩ = some (.pointer (some ⟨f, 0, none⟩)) := box_cell (Below.at B1.out Hp.out) 0 rfl; have dq : w1.cell? ⟨q, 0, none⟩ = some (.int .i64 m) := box_cell (Below.at B1.out Hq.out) 0 rfl)
      | (go_at_call 53; refine (file_made HR.out hn HF.out (FA.mk true c ByteArray.empty m) B1.out HA.out.1 HA.out.2 hm hq1).mono ?_; rintro e w2 ⟨rfl, G', F', hst, hcr⟩; have ep : w2.cell? ⟨p, 0, none⟩ = some (.pointer (some ⟨f, 0, none⟩)) := box_cell (hst.touch.at Hp.out fun e => e Hp0.out) 0 rfl; have eq : w2.cell? ⟨q, 0, none⟩ = some (.int .i64 m) := box_cell (hst.touch.at Hq.out fun e => e Hq0.out) 0 rfl))
  go_end0
  exact ⟨rfl, G', F', c, hst, hcr⟩

end Go.Proofs.YtknldpaaikcedaaGreat
