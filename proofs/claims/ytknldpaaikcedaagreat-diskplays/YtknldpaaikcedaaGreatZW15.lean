/-
  Sync, DirSync, Read, Fuse, Down of the disk as they run.
-/
import Derived.Test.YtknldpaaikcedaaGreatZW14
import Derived.Laws.IdiomStrings
namespace Go.Proofs.YtknldpaaikcedaaGreat
open Go.RowKit Go.Maps

/-- A file was synced, and nothing else. -/
structure Synced (G G' : DG) (f : Nat) (F F' : FG) : Prop where
  room : G'.room = G.room
  fuse : G'.fuse = G.fuse
  down : G'.down = G.down
  D : G'.D = G.D
  LD : G'.LD = G.LD
  X : G'.X = G.X
  file : G'.file = fun j => if j = f then some F' else G.file j
  now : F'.now = F.now
  last : F'.last = F.now
  acts : F'.acts = []
  n : G'.n = G.n
  q : G'.q = G.q
theorem mul_small {a b : Nat} (ha : a < 100000) (hb : b ≤ 1000000000) : a * b ≤ 140737488355328 := by
  have h : a * b ≤ 99999 * 1000000000 := Nat.mul_le_mul (by omega) hb
  omega
theorem sync_act {w : World} {b f : Nat} {G : DG} {F : FG} (h : Rep w b G) (hn : G.n < 100000) (hF : G.file f = some F) :
    Calls Tryz.prog 56 #[.pointer (some ⟨f, 0, none⟩)] w fun e w' => e = .returned (.tuple #[]) ∧ ∃ G' F', Step w b G w' G' ∧ Synced G G' f F F' := by
  have g := h.files f F hF
  have hb := g.big
  have hfew := g.few
  have hm := mul_small hn h.hq
  have h1 := settleAll_any f (.slice F.no F.now.length F.nc) F.lo F.lc (.slice F.so F.acts.length F.sc) F.last F.acts w g.box g.rl g.rs (by omega) g.held g.fit (by omega)
    (fun e => by have := g.pl _ e; rw [g.pf] at this; cases this) (fun e => by have := g.ps _ ((sliceBlock _ _ _).symm.trans e); rw [g.pf] at this; cases this)
    (fun j hj e => by have h1 := g.pl _ hj; have h2 := g.ps _ ((sliceBlock _ _ _).symm.trans e); rw [h1] at h2; injection h2 with h3; omega)
    (fun a ha => ⟨(fun e => by have := g.pc a ha; rw [e, g.pf] at this; cases this), (fun e => by have h1 := g.pl _ e; rw [g.pc a ha] at h1; cases h1)⟩)
  rw [← g.eq] at h1
  refine h1.mono fun e w' ⟨he, ao, cp, a1, a2, a3, a4⟩ => ?_
  have hnrow : w'.ownsRow 0 5 1 (.slice F.no F.now.length F.nc) F.now.length (bytesC F.now) := a4.row g.rn fun j hj e => by
    have h7 := g.pn j ((sliceBlock _ _ _).symm.trans hj)
    rcases e with e | e
    · rw [e, g.pf] at h7; cases h7
    · rw [g.pl j e] at h7; injection h7 with h8; omega
  refine ⟨he, _, _, h.settled hF F.now F.no F.nc ao cp (by have := runAll_length F.last F.acts; rw [← g.eq] at this; exact this) a1 hnrow a2 (.inl rfl) a3 (fun j hj e => ?_) a4, ⟨rfl, rfl, rfl, rfl, rfl, rfl, rfl, rfl, rfl, rfl, rfl, rfl⟩⟩
  have h7 := g.pn j hj
  have hlt := row_lt g.rn ((sliceBlock _ _ _).trans hj)
  rcases a3 with a3 | ⟨j', a3, hj'⟩
  · rw [a3] at e
    rw [g.pl j e] at h7; injection h7 with h8; omega
  · rw [a3] at e; cases e; omega

/-- The names were synced, and nothing else. -/
structure DirSynced (G G' : DG) : Prop where
  room : G'.room = G.room
  fuse : G'.fuse = G.fuse
  down : G'.down = G.down
  D : G'.D = G.D
  LD : G'.LD = G.D
  X : G'.X = []
  file : G'.file = G.file
  n : G'.n = G.n
  q : G'.q = G.q
theorem dirsync_act {w : World} {b : Nat} {G : DG} (h : Rep w b G) (hn : G.n < 100000) :
    Calls Tryz.prog 55 #[.pointer (some ⟨b, 3, none⟩)] w fun e w' => e = .returned (.tuple #[]) ∧ ∃ G', Step w b G w' G' ∧ DirSynced G G' := by
  have h1 := dsettleAll_any b G.nb G.lb G.n (.int .i64 G.room) (.int .i64 G.fuse) (.bool G.down) G.so G.sc G.LD G.X w (h.dAt (by omega))
  rw [← h.eq] at h1
  refine h1.mono fun e w' ⟨he, a1, a2, a3⟩ => ⟨he, _, h.dsettled G.D G.nb h.now.size_le a1 ⟨_, a3.map h.now fun e => ?_⟩ ⟨_, a2⟩ (.inl rfl) h.knownD h.fullD a3, ⟨rfl, rfl, rfl, rfl, rfl, rfl, rfl, rfl, rfl⟩⟩
  rcases e with e | e
  · have := h.pb; rw [← e, h.pn] at this; cases this
  · have := h.pl; rw [← e, h.pn] at this; cases this

section
set_option maxRecDepth 100000
set_option maxHeartbeats 2000000
theorem sync_down {w : World} {b : Nat} {G : DG} (h : Rep w b G) (k : ByteArray) (hk : k.size ≤ maxLen) (hd : G.down = true) :
    Calls Tryz.prog 19 #[.pointer (some ⟨b, 0, none⟩), .string k] w fun e w' => e = .returned (.int .i64 9) ∧ w' = w := by
  have c3 : w.cell? ⟨b, 3, none⟩ = some (.map (some G.nb)) := box_cell h.box 3 rfl
  have c2 : w.cell? ⟨b, 2, none⟩ = some (.bool G.down) := box_cell h.box 2 rfl
  have hlk := h.look k hk
  rw [hd] at c2
  clear h
  go_enter Tryz.func19, Tryz.ntmps19
  go_wp2
  go_ret
  exact ⟨rfl, rfl⟩
theorem sync_none {w : World} {b : Nat} {G : DG} (h : Rep w b G) (k : ByteArray) (hk : k.size ≤ maxLen) (hd : G.down = false) (hg : dget G.D k.data.toList = none) :
    Calls Tryz.prog 19 #[.pointer (some ⟨b, 0, none⟩), .string k] w fun e w' => e = .returned (.int .i64 7) ∧ w' = w := by
  have c3 : w.cell? ⟨b, 3, none⟩ = some (.map (some G.nb)) := box_cell h.box 3 rfl
  have c2 : w.cell? ⟨b, 2, none⟩ = some (.bool G.down) := box_cell h.box 2 rfl
  have hlk : (Instr.lookup 50 (.map (some G.nb)) (.string k) false).run Tryz.prog w = .ok (.pointer none) w := by have h1 := h.look k hk; rw [hg] at h1; exact h1
  rw [hd] at c2
  clear h
  go_enter Tryz.func19, Tryz.ntmps19
  go_wp2
  go_ret
  exact ⟨rfl, rfl⟩
theorem sync_stop {w : World} {b : Nat} {G : DG} (h : Rep w b G) (k : ByteArray) (hk : k.size ≤ maxLen) (hd : G.down = false) (f : Nat) (hg : dget G.D k.data.toList = some f) (hz : G.fuse = 0) :
    Calls Tryz.prog 19 #[.pointer (some ⟨b, 0, none⟩), .string k] w fun e w' => e = .returned (.int .i64 9) ∧ Step w b G w' G.fall := by
  have c3 : w.cell? ⟨b, 3, none⟩ = some (.map (some G.nb)) := box_cell h.box 3 rfl
  have c2 : w.cell? ⟨b, 2, none⟩ = some (.bool G.down) := box_cell h.box 2 rfl
  have hlk : (Instr.lookup 50 (.map (some G.nb)) (.string k) false).run Tryz.prog w = .ok (.pointer (some ⟨f, 0, none⟩)) w := by have h1 := h.look k hk; rw [hg] at h1; exact h1
  have hmf : ∀ (fn : Fn) (first cap : Array Value) (w : World), (Instr.makeFunc fn first cap).run Tryz.prog w = .ok (.func fn first cap) w := fun _ _ _ _ => rfl
  have HA := hide (fun fv => act_stop b fv w G h hz)
  have HR := hide h
  rw [hd] at c2
  clear h
  go_enter Tryz.func19, Tryz.ntmps19
  go_wp2_with (go_at_call 48; refine (HA.out _).mono ?_; rintro e w2 ⟨rfl, rfl⟩)
  go_ret
  exact ⟨rfl, HR.out.fall⟩
theorem sync_go {w : World} {b : Nat} {G : DG} (h : Rep w b G) (hn : G.n < 100000) (k : ByteArray) (hk : k.size ≤ maxLen) (hd : G.down = false) (f : Nat) (hg : dget G.D k.data.toList = some f) (F : FG) (hF : G.file f = some F) (hz : G.fuse ≠ 0) :
    Calls Tryz.prog 19 #[.pointer (some ⟨b, 0, none⟩), .string k] w fun e w' => e = .returned (.int .i64 0) ∧ ∃ G' F', Step w b G w' G' ∧ Synced G.tick G' f F F' := by
  have c3 : w.cell? ⟨b, 3, none⟩ = some (.map (some G.nb)) := box_cell h.box 3 rfl
  have c2 : w.cell? ⟨b, 2, none⟩ = some (.bool G.down) := box_cell h.box 2 rfl
  have hlk : (Instr.lookup 50 (.map (some G.nb)) (.string k) false).run Tryz.prog w = .ok (.pointer (some ⟨f, 0, none⟩)) w := by have h1 := h.look k hk; rw [hg] at h1; exact h1
  have hmf : ∀ (fn : Fn) (first cap : Array Value) (w : World), (Instr.makeFunc fn first cap).run Tryz.prog w = .ok (.func fn first cap) w := fun _ _ _ _ => rfl
  have HA := hide (act1_go b 56 (.pointer (some ⟨f, 0, none⟩)) w G (fun w' => ∃ G' F', Step (ticked w b G.fuse) b G.tick w' G' ∧ Synced G.tick G' f F F') h hz (enters_of Tryz.func56 (by kernel_rfl) rfl) (sync_act h.tick.rep hn hF))
  have HR := hide h
  rw [hd] at c2
  clear h
  go_enter Tryz.func19, Tryz.ntmps19
  go_wp2_with (go_at_call 48; refine HA.out.mono ?_; rintro e w2 ⟨rfl, G', F', hst, hcr⟩)
  go_ret
  exact ⟨rfl, G', F', HR.out.tick.trans hst, hcr⟩

theorem dirsync_down {w : World} {b : Nat} {G : DG} (h : Rep w b G) (hd : G.down = true) :
    Calls Tryz.prog 18 #[.pointer (some ⟨b, 0, none⟩)] w fun e w' => e = .returned (.int .i64 9) ∧ w' = w := by
  have c2 : w.cell? ⟨b, 2, none⟩ = some (.bool G.down) := box_cell h.box 2 rfl
  rw [hd] at c2
  clear h
  go_enter Tryz.func18, Tryz.ntmps18
  go_wp2
  go_ret
  exact ⟨rfl, rfl⟩
theorem dirsync_stop {w : World} {b : Nat} {G : DG} (h : Rep w b G) (hd : G.down = false) (hz : G.fuse = 0) :
    Calls Tryz.prog 18 #[.pointer (some ⟨b, 0, none⟩)] w fun e w' => e = .returned (.int .i64 9) ∧ Step w b G w' G.fall := by
  have c2 : w.cell? ⟨b, 2, none⟩ = some (.bool G.down) := box_cell h.box 2 rfl
  have hmf : ∀ (fn : Fn) (first cap : Array Value) (w : World), (Instr.makeFunc fn first cap).run Tryz.prog w = .ok (.func fn first cap) w := fun _ _ _ _ => rfl
  have HA := hide (fun fv => act_stop b fv w G h hz)
  have HR := hide h
  rw [hd] at c2
  clear h
  go_enter Tryz.func18, Tryz.ntmps18
  go_wp2_with (go_at_call 48; refine (HA.out _).mono ?_; rintro e w2 ⟨rfl, rfl⟩)
  go_ret
  exact ⟨rfl, HR.out.fall⟩
theorem dirsync_go {w : World} {b : Nat} {G : DG} (h : Rep w b G) (hn : G.n < 100000) (hd : G.down = false) (hz : G.fuse ≠ 0) :
    Calls Tryz.prog 18 #[.pointer (some ⟨b, 0, none⟩)] w fun e w' => e = .returned (.int .i64 0) ∧ ∃ G', Step w b G w' G' ∧ DirSynced G.tick G' := by
  have c2 : w.cell? ⟨b, 2, none⟩ = some (.bool G.down) := box_cell h.box 2 rfl
  have hmf : ∀ (fn : Fn) (first cap : Array Value) (w : World), (Instr.makeFunc fn first cap).run Tryz.prog w = .ok (.func fn first cap) w := fun _ _ _ _ => rfl
  have HA := hide (act1_go b 55 (.pointer (some ⟨b, 3, none⟩)) w G (fun w' => ∃ G', Step (ticked w b G.fuse) b G.tick w' G' ∧ DirSynced G.tick G') h hz (enters_of Tryz.func55 (by kernel_rfl) rfl) (dirsync_act h.tick.rep hn))
  have HR := hide h
  rw [hd] at c2
  clear h
  go_enter Tryz.func18, Tryz.ntmps18
  go_wp2_with (go_at_call 48; refine HA.out.mono ?_; rintro e w2 ⟨rfl, G', hst, hcr⟩)
  go_ret
  exact ⟨rfl, G', HR.out.tick.trans hst, hcr⟩
theorem conv_bytes {w : World} {ao : Option Addr} {cp : Nat} {l : List UInt8} (h : w.ownsRow 0 5 1 (.slice ao l.length cp) l.length (bytesC l)) : (convert 63 9 (.slice ao l.length cp)).run Tryz.prog w = .ok (.string ⟨l.toArray⟩) w := by
  rcases h.2 with ⟨h1, h0⟩ | ⟨g, cap, cur, h1, _⟩
  · rw [h1]
    have hl : l = [] := List.eq_nil_of_length_eq_zero h0
    subst hl
    simp [convert, run_underlying Tryz.underlying63, run_underlying Tryz.underlying9, run_underlying Tryz.underlying5, go_sem]
    exact rfl
  · obtain ⟨rfl, rfl⟩ : ao = some ⟨g, 0, none⟩ ∧ cp = cap := by cases h1; exact ⟨rfl, rfl⟩
    refine run_convert_bytes_back w 63 9 5 ⟨g, 0, none⟩ cp l Tryz.underlying63 Tryz.underlying5 Tryz.underlying9 fun j hj => ?_
    have h2 := h.cells rfl j (.int .u8 (l[j].toNat : Int)) (by rw [bytesC, List.getElem?_map, List.getElem?_eq_getElem hj]; rfl)
    exact h2
/-- What Read tells. -/
def readS (G : DG) (k : ByteArray) : ByteArray :=
  if G.down then ⟨#[]⟩ else match dget G.D k.data.toList with
    | some f => match G.file f with
      | some F => ⟨F.now.toArray⟩
      | none => ⟨#[]⟩
    | none => ⟨#[]⟩
def readE (G : DG) (k : ByteArray) : Int := if G.down then 9 else if dget G.D k.data.toList = none then 7 else 0
theorem read_any {w : World} {b : Nat} {G : DG} (h : Rep w b G) (k : ByteArray) (hk : k.size ≤ maxLen) :
    Calls Tryz.prog 8 #[.pointer (some ⟨b, 0, none⟩), .string k] w fun e w' => e = .returned (.tuple #[.string (readS G k), .int .i64 (readE G k)]) ∧ w' = w := by
  have c3 : w.cell? ⟨b, 3, none⟩ = some (.map (some G.nb)) := box_cell h.box 3 rfl
  have c2 : w.cell? ⟨b, 2, none⟩ = some (.bool G.down) := box_cell h.box 2 rfl
  by_cases hd : G.down = true
  · have e1 : readS G k = ⟨#[]⟩ := by unfold readS; rw [if_pos hd]
    have e2 : readE G k = 9 := by unfold readE; rw [if_pos hd]
    have hlk := h.look k hk
    rw [hd] at c2
    rw [e1, e2]
    clear h
    go_enter Tryz.func8, Tryz.ntmps8
    go_wp2
    go_ret2
    exact ⟨rfl, rfl⟩
  · have hd0 : G.down = false := by simpa using hd
    rw [hd0] at c2
    cases hg : dget G.D k.data.toList with
    | none =>
      have e1 : readS G k = ⟨#[]⟩ := by unfold readS; rw [if_neg hd, hg]
      have e2 : readE G k = 7 := by unfold readE; rw [if_neg hd, if_pos hg]
      have hlk : (Instr.lookup 50 (.map (some G.nb)) (.string k) false).run Tryz.prog w = .ok (.pointer none) w := by have h1 := h.look k hk; rw [hg] at h1; exact h1
      rw [e1, e2]
      clear h
      go_enter Tryz.func8, Tryz.ntmps8
      go_wp2
      go_ret2
      exact ⟨rfl, rfl⟩
    | some f =>
      obtain ⟨F, hF⟩ : ∃ F, G.file f = some F := Option.ne_none_iff_exists'.1 (h.knownD _ f hg).1
      have g := h.files f F hF
      have e1 : readS G k = ⟨F.now.toArray⟩ := by unfold readS; rw [if_neg hd, hg]; simp only [hF]
      have e2 : readE G k = 0 := by unfold readE; rw [if_neg hd, if_neg (by rw [hg]; simp)]
      have hlk : (Instr.lookup 50 (.map (some G.nb)) (.string k) false).run Tryz.prog w = .ok (.pointer (some ⟨f, 0, none⟩)) w := by have h1 := h.look k hk; rw [hg] at h1; exact h1
      have k0 : w.cell? ⟨f, 0, none⟩ = some (.slice F.no F.now.length F.nc) := box_cell g.box 0 rfl
      have hcv := conv_bytes g.rn
      rw [e1, e2]
      generalize (⟨F.now.toArray⟩ : ByteArray) = R at *
      clear h g
      go_enter Tryz.func8, Tryz.ntmps8
      go_wp2
      go_ret2
      exact ⟨rfl, rfl⟩
theorem fuse_any {w : World} {b : Nat} {G : DG} (h : Rep w b G) (n : Int) (hn : -9223372036854775808 ≤ n ∧ n ≤ 9223372036854775807) :
    Calls Tryz.prog 10 #[.pointer (some ⟨b, 0, none⟩), .int .i64 n] w fun e w' => e = .returned (.tuple #[]) ∧ Step w b G w' { G with fuse := n } := by
  have c1 : w.cell? ⟨b, 1, none⟩ = some (.int .i64 G.fuse) := box_cell h.box 1 rfl
  have f1 := box_free h.box 1
  have HR := hide h
  clear h
  go_enter Tryz.func10, Tryz.ntmps10
  go_wp2
  go_end0
  exact ⟨rfl, HR.out.rebox ((Touch.refl _ w).setCell _ _ fun _ => rfl) n G.down (box_set HR.out.box 1 _) hn⟩
theorem down_any {w : World} {b : Nat} {G : DG} (h : Rep w b G) : Calls Tryz.prog 23 #[.pointer (some ⟨b, 0, none⟩)] w fun e w' => e = .returned (.bool G.down) ∧ w' = w := by
  have c2 : w.cell? ⟨b, 2, none⟩ = some (.bool G.down) := box_cell h.box 2 rfl
  clear h
  go_enter Tryz.func23, Tryz.ntmps23
  go_wp2
  go_ret
  exact ⟨rfl, rfl⟩
end

end Go.Proofs.YtknldpaaikcedaaGreat
