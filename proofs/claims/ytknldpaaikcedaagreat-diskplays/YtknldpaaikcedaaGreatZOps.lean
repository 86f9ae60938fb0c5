/-
  Each deed's ways as one law, and one as it runs.
-/
import Derived.Test.YtknldpaaikcedaaGreatZPick
import Derived.Test.YtknldpaaikcedaaGreatZU1
namespace Go.Proofs.YtknldpaaikcedaaGreat
open Go.RowKit Go.Maps Go.Sort

/-- How a deed ends: the disk is down; it is refused; the disk goes down; it is done. -/
def Res (rf : Int) (does : Prop) (G : DG) (er : Int) (G' : DG) : Prop :=
  (G.down = true ∧ er = 9 ∧ G' = G) ∨ (G.down = false ∧ rf ≠ 0 ∧ er = rf ∧ G' = G) ∨ (G.down = false ∧ rf = 0 ∧ G.fuse = 0 ∧ er = 9 ∧ G' = G.fall) ∨ (G.down = false ∧ rf = 0 ∧ G.fuse ≠ 0 ∧ er = 0 ∧ does)
def rfCreate (G : DG) (s : ByteArray) : Int := if isName s = false then 5 else if dget G.D s.data.toList ≠ none then 6 else if 200 ≤ Maps.size G.D then 8 else 0
def rfAppend (G : DG) (k s : ByteArray) : Int := if dget G.D k.data.toList = none then 7 else if G.room - used G < s.size then 8 else 0
def rfSync (G : DG) (k : ByteArray) : Int := if dget G.D k.data.toList = none then 7 else 0
def rfRename (G : DG) (s t : ByteArray) : Int := if dget G.D s.data.toList = none then 7 else if isName t = false then 5 else 0
def rfTruncate (G : DG) (k : ByteArray) (m : Int) : Int := if dget G.D k.data.toList = none then 7 else if m < 0 ∨ (flen G k.data.toList : Int) < m then 1 else 0
def dCreate (G : DG) (s : ByteArray) (G' : DG) : Prop := ∃ f, Created G G' s f
def dAppend (G : DG) (k s : ByteArray) (G' : DG) : Prop := ∃ f F F' c, dget G.D k.data.toList = some f ∧ G.file f = some F ∧ Acted G G' f F F' (FA.mk false c s 0)
def dSync (G : DG) (k : ByteArray) (G' : DG) : Prop := ∃ f F F', dget G.D k.data.toList = some f ∧ G.file f = some F ∧ Synced G G' f F F'
def dRename (G : DG) (s t : ByteArray) (G' : DG) : Prop := ∃ f x, dget G.D s.data.toList = some f ∧ Named G G' x ∧ x.kind = 1 ∧ x.a = s ∧ x.b = t
def dTruncate (G : DG) (k : ByteArray) (m : Int) (G' : DG) : Prop := ∃ f F F' c, dget G.D k.data.toList = some f ∧ G.file f = some F ∧ m.toNat ≤ F.now.length ∧ Acted G G' f F F' (FA.mk true c ByteArray.empty m.toNat)
def dRemove (G : DG) (s : ByteArray) (G' : DG) : Prop := ∃ f x, dget G.D s.data.toList = some f ∧ Named G G' x ∧ x.kind = 2 ∧ x.a = s

theorem flen_of {G : DG} {k : List UInt8} {f : Nat} {F : FG} (hg : dget G.D k = some f) (hF : G.file f = some F) : flen G k = F.now.length := by
  unfold flen
  rw [hg]
  simp only [hF]
theorem Rep.fileOf {w : World} {b : Nat} {G : DG} (h : Rep w b G) {k : List UInt8} {f : Nat} (hg : dget G.D k = some f) : ∃ F, G.file f = some F := Option.ne_none_iff_exists'.1 (h.knownD k f hg).1

theorem create_sum {w : World} {b : Nat} {G : DG} (h : Rep w b G) (hn : G.n < 10000) (s : ByteArray) (hs : s.size ≤ maxLen) :
    Calls Tryz.prog 16 #[.pointer (some ⟨b, 0, none⟩), .string s] w fun e w' => ∃ er G', e = .returned (.int .i64 er) ∧ Step w b G w' G' ∧ Res (rfCreate G s) (dCreate G.tick s G') G er G' := by
  cases hd : G.down with
  | true => exact (create_down h s hs hd).mono fun e w' ⟨he, hb⟩ => ⟨9, G, he, Step.of_below h hb, .inl ⟨hd, rfl, rfl⟩⟩
  | false =>
    cases hnm : isName s with
    | false => exact (create_name h s hs hd hnm).mono fun e w' ⟨he, hb⟩ => ⟨5, G, he, Step.of_below h hb, .inr (.inl ⟨hd, by simp [rfCreate, hnm], by simp [rfCreate, hnm], rfl⟩)⟩
    | true =>
      cases hg : dget G.D s.data.toList with
      | some f => exact (create_exists h s hs hd hnm f hg).mono fun e w' ⟨he, hb⟩ => ⟨6, G, he, Step.of_below h hb, .inr (.inl ⟨hd, by simp [rfCreate, hnm, hg], by simp [rfCreate, hnm, hg], rfl⟩)⟩
      | none =>
        by_cases hz0 : 200 ≤ Maps.size G.D
        · exact (create_full h s hs hd hnm hg hz0).mono fun e w' ⟨he, hb⟩ => ⟨8, G, he, Step.of_below h hb, .inr (.inl ⟨hd, by simp [rfCreate, hnm, hg, hz0], by simp [rfCreate, hnm, hg, hz0], rfl⟩)⟩
        · have hrf : rfCreate G s = 0 := by simp [rfCreate, hnm, hg, hz0]
          by_cases hz : G.fuse = 0
          · exact (create_stop h s hs hd hnm hg hz0 hz).mono fun e w' ⟨he, hb⟩ => ⟨9, _, he, hb, .inr (.inr (.inl ⟨hd, hrf, hz, rfl, rfl⟩))⟩
          · exact (create_go h s hs (by omega) hd hnm hg hz0 hz).mono fun e w' ⟨he, f, G', st, c⟩ => ⟨0, _, he, st, .inr (.inr (.inr ⟨hd, hrf, hz, rfl, ⟨f, c⟩⟩))⟩
theorem remove_sum {w : World} {b : Nat} {G : DG} (h : Rep w b G) (hn : G.n < 10000) (s : ByteArray) (hs : s.size ≤ maxLen) :
    Calls Tryz.prog 22 #[.pointer (some ⟨b, 0, none⟩), .string s] w fun e w' => ∃ er G', e = .returned (.int .i64 er) ∧ Step w b G w' G' ∧ Res (rfSync G s) (dRemove G.tick s G') G er G' := by
  cases hd : G.down with
  | true => exact (remove_down h s hs hd).mono fun e w' ⟨he, hb⟩ => ⟨9, G, he, Step.of_below h hb, .inl ⟨hd, rfl, rfl⟩⟩
  | false =>
    cases hg : dget G.D s.data.toList with
    | none => exact (remove_none h s hs hd hg).mono fun e w' ⟨he, hb⟩ => ⟨7, G, he, Step.of_below h hb, .inr (.inl ⟨hd, by simp [rfSync, hg], by simp [rfSync, hg], rfl⟩)⟩
    | some f =>
      have hrf : rfSync G s = 0 := by simp [rfSync, hg]
      by_cases hz : G.fuse = 0
      · exact (remove_stop h s hs hd f hg hz).mono fun e w' ⟨he, hb⟩ => ⟨9, _, he, hb, .inr (.inr (.inl ⟨hd, hrf, hz, rfl, rfl⟩))⟩
      · exact (remove_go h s hs (by omega) hd f hg hz).mono fun e w' ⟨he, G', x, st, c, x1, x2⟩ => ⟨0, _, he, st, .inr (.inr (.inr ⟨hd, hrf, hz, rfl, ⟨f, x, hg, c, x1, x2⟩⟩))⟩
theorem rename_sum {w : World} {b : Nat} {G : DG} (h : Rep w b G) (hn : G.n < 10000) (s t : ByteArray) (hs : s.size ≤ maxLen) (ht : t.size ≤ maxLen) :
    Calls Tryz.prog 20 #[.pointer (some ⟨b, 0, none⟩), .string s, .string t] w fun e w' => ∃ er G', e = .returned (.int .i64 er) ∧ Step w b G w' G' ∧ Res (rfRename G s t) (dRename G.tick s t G') G er G' := by
  cases hd : G.down with
  | true => exact (rename_down h s t hs ht hd).mono fun e w' ⟨he, hb⟩ => ⟨9, G, he, Step.of_below h hb, .inl ⟨hd, rfl, rfl⟩⟩
  | false =>
    cases hg : dget G.D s.data.toList with
    | none => exact (rename_none h s t hs ht hd hg).mono fun e w' ⟨he, hb⟩ => ⟨7, G, he, Step.of_below h hb, .inr (.inl ⟨hd, by simp [rfRename, hg], by simp [rfRename, hg], rfl⟩)⟩
    | some f =>
      cases hnm : isName t with
      | false => exact (rename_name h s t hs ht hd f hg hnm).mono fun e w' ⟨he, hb⟩ => ⟨5, G, he, Step.of_below h hb, .inr (.inl ⟨hd, by simp [rfRename, hg, hnm], by simp [rfRename, hg, hnm], rfl⟩)⟩
      | true =>
        have hrf : rfRename G s t = 0 := by simp [rfRename, hg, hnm]
        by_cases hz : G.fuse = 0
        · exact (rename_stop h s t hs ht hd f hg hnm hz).mono fun e w' ⟨he, hb⟩ => ⟨9, _, he, hb, .inr (.inr (.inl ⟨hd, hrf, hz, rfl, rfl⟩))⟩
        · exact (rename_go h s t hs ht (by omega) hd f hg hnm hz).mono fun e w' ⟨he, G', x, st, c, x1, x2, x3⟩ => ⟨0, _, he, st, .inr (.inr (.inr ⟨hd, hrf, hz, rfl, ⟨f, x, hg, c, x1, x2, x3⟩⟩))⟩
theorem append_sum {w : World} {b : Nat} {G : DG} (h : Rep w b G) (hn : G.n < 10000) (k s : ByteArray) (hk : k.size ≤ maxLen) (hs : s.size ≤ maxLen) (hq : s.size ≤ G.q ∨ G.room ≤ G.q) :
    Calls Tryz.prog 17 #[.pointer (some ⟨b, 0, none⟩), .string k, .string s] w fun e w' => ∃ er G', e = .returned (.int .i64 er) ∧ Step w b G w' G' ∧ Res (rfAppend G k s) (dAppend G.tick k s G') G er G' := by
  cases hd : G.down with
  | true =>
    cases hg : dget G.D k.data.toList with
    | none => exact (append_down1 h k hk s hg hd).mono fun e w' ⟨he, hb⟩ => ⟨9, G, he, Step.of_below h hb, .inl ⟨hd, rfl, rfl⟩⟩
    | some f => exact (append_down2 h k hk s f hg hd).mono fun e w' ⟨he, hb⟩ => ⟨9, G, he, Step.of_below h hb, .inl ⟨hd, rfl, rfl⟩⟩
  | false =>
    cases hg : dget G.D k.data.toList with
    | none => exact (append_none h k hk s hg hd).mono fun e w' ⟨he, hb⟩ => ⟨7, G, he, Step.of_below h hb, .inr (.inl ⟨hd, by simp [rfAppend, hg], by simp [rfAppend, hg], rfl⟩)⟩
    | some f =>
      obtain ⟨F, hF⟩ := h.fileOf hg
      by_cases hfull : G.room - used G < s.size
      · exact (append_full h k hk s hs hn f hg hd hfull).mono fun e w' ⟨he, hb⟩ => ⟨8, G, he, Step.of_below h hb, .inr (.inl ⟨hd, by simp [rfAppend, hg, hfull], by simp [rfAppend, hg, hfull], rfl⟩)⟩
      · have hrf : rfAppend G k s = 0 := by simp only [rfAppend, hg]; rw [if_neg (by simp), if_neg hfull]
        by_cases hz : G.fuse = 0
        · exact (append_stop h k hk s hs hn f hg hd hfull hz).mono fun e w' ⟨he, hb⟩ => ⟨9, _, he, hb, .inr (.inr (.inl ⟨hd, hrf, hz, rfl, rfl⟩))⟩
        · exact (append_go h k hk s hs hn f hg F hF hd hfull hz (by have := hq; omega)).mono fun e w' ⟨he, G', F', c, st, ac⟩ => ⟨0, _, he, st, .inr (.inr (.inr ⟨hd, hrf, hz, rfl, ⟨f, F, F', c, hg, hF, ac⟩⟩))⟩
theorem truncate_sum {w : World} {b : Nat} {G : DG} (h : Rep w b G) (hn : G.n < 10000) (k : ByteArray) (m : Int) (hk : k.size ≤ maxLen) (hq : 1 ≤ G.q) :
    Calls Tryz.prog 37 #[.pointer (some ⟨b, 0, none⟩), .string k, .int .i64 m] w fun e w' => ∃ er G', e = .returned (.int .i64 er) ∧ Step w b G w' G' ∧ Res (rfTruncate G k m) (dTruncate G.tick k m G') G er G' := by
  cases hd : G.down with
  | true =>
    cases hg : dget G.D k.data.toList with
    | none => exact (truncate_down1 h k hk m hg hd).mono fun e w' ⟨he, hb⟩ => ⟨9, G, he, Step.of_below h hb, .inl ⟨hd, rfl, rfl⟩⟩
    | some f => exact (truncate_down2 h k hk m f hg hd).mono fun e w' ⟨he, hb⟩ => ⟨9, G, he, Step.of_below h hb, .inl ⟨hd, rfl, rfl⟩⟩
  | false =>
    cases hg : dget G.D k.data.toList with
    | none => exact (truncate_none h k hk m hg hd).mono fun e w' ⟨he, hb⟩ => ⟨7, G, he, Step.of_below h hb, .inr (.inl ⟨hd, by simp [rfTruncate, hg], by simp [rfTruncate, hg], rfl⟩)⟩
    | some f =>
      obtain ⟨F, hF⟩ := h.fileOf hg
      have hl := flen_of hg hF
      by_cases hm : m < 0
      · exact (truncate_neg h k hk m f hg hd hm).mono fun e w' ⟨he, hb⟩ => ⟨1, G, he, Step.of_below h hb, .inr (.inl ⟨hd, by simp [rfTruncate, hg, hm], by simp [rfTruncate, hg, hm], rfl⟩)⟩
      · by_cases hm2 : (F.now.length : Int) < m
        · exact (truncate_more h k hk m f hg F hF hd (by simpa using hm) hm2).mono fun e w' ⟨he, hb⟩ => ⟨1, G, he, Step.of_below h hb, .inr (.inl ⟨hd, by simp [rfTruncate, hg, hl, hm2], by simp [rfTruncate, hg, hl, hm2], rfl⟩)⟩
        · have hrf : rfTruncate G k m = 0 := by simp only [rfTruncate, hg, hl]; rw [if_neg (by simp), if_neg (by omega)]
          obtain ⟨j, rfl⟩ : ∃ j : Nat, m = (j : Int) := ⟨m.toNat, by omega⟩
          by_cases hz : G.fuse = 0
          · exact (truncate_stop h k hk j f hg F hF hd (by omega) hz).mono fun e w' ⟨he, hb⟩ => ⟨9, _, he, hb, .inr (.inr (.inl ⟨hd, hrf, hz, rfl, rfl⟩))⟩
          · exact (truncate_go h k hk j hn f hg F hF hd (by omega) hz hq).mono fun e w' ⟨he, G', F', c, st, ac⟩ => ⟨0, _, he, st, .inr (.inr (.inr ⟨hd, hrf, hz, rfl, ⟨f, F, F', c, hg, hF, by simp; omega, ac⟩⟩))⟩
theorem sync_sum {w : World} {b : Nat} {G : DG} (h : Rep w b G) (hn : G.n < 10000) (k : ByteArray) (hk : k.size ≤ maxLen) :
    Calls Tryz.prog 19 #[.pointer (some ⟨b, 0, none⟩), .string k] w fun e w' => ∃ er G', e = .returned (.int .i64 er) ∧ Step w b G w' G' ∧ Res (rfSync G k) (dSync G.tick k G') G er G' := by
  cases hd : G.down with
  | true => exact (sync_down h k hk hd).mono fun e w' ⟨he, hb⟩ => ⟨9, G, he, by subst hb; exact Step.refl h, .inl ⟨hd, rfl, rfl⟩⟩
  | false =>
    cases hg : dget G.D k.data.toList with
    | none => exact (sync_none h k hk hd hg).mono fun e w' ⟨he, hb⟩ => ⟨7, G, he, by subst hb; exact Step.refl h, .inr (.inl ⟨hd, by simp [rfSync, hg], by simp [rfSync, hg], rfl⟩)⟩
    | some f =>
      obtain ⟨F, hF⟩ := h.fileOf hg
      have hrf : rfSync G k = 0 := by simp [rfSync, hg]
      by_cases hz : G.fuse = 0
      · exact (sync_stop h k hk hd f hg hz).mono fun e w' ⟨he, hb⟩ => ⟨9, _, he, hb, .inr (.inr (.inl ⟨hd, hrf, hz, rfl, rfl⟩))⟩
      · exact (sync_go h (by omega) k hk hd f hg F hF hz).mono fun e w' ⟨he, G', F', st, c⟩ => ⟨0, _, he, st, .inr (.inr (.inr ⟨hd, hrf, hz, rfl, ⟨f, F, F', hg, hF, c⟩⟩))⟩
theorem dirsync_sum {w : World} {b : Nat} {G : DG} (h : Rep w b G) (hn : G.n < 10000)  :
    Calls Tryz.prog 18 #[.pointer (some ⟨b, 0, none⟩)] w fun e w' => ∃ er G', e = .returned (.int .i64 er) ∧ Step w b G w' G' ∧ Res (0) (DirSynced G.tick G') G er G' := by
  cases hd : G.down with
  | true => exact (dirsync_down h hd).mono fun e w' ⟨he, hb⟩ => ⟨9, G, he, by subst hb; exact Step.refl h, .inl ⟨hd, rfl, rfl⟩⟩
  | false =>
      by_cases hz : G.fuse = 0
      · exact (dirsync_stop h hd hz).mono fun e w' ⟨he, hb⟩ => ⟨9, _, he, hb, .inr (.inr (.inl ⟨hd, rfl, hz, rfl, rfl⟩))⟩
      · exact (dirsync_go h (by omega) hd hz).mono fun e w' ⟨he, G', st, c⟩ => ⟨0, _, he, st, .inr (.inr (.inr ⟨hd, rfl, hz, rfl, c⟩))⟩

/-- What is done. -/
structure Dd where
  kind : Int
  a : ByteArray
  b : ByteArray
  n : Int
  ko : Option Addr
  kl : Nat
  kc : Nat
def Dd.val (o : Dd) : Value := .agg #[.int .i64 o.kind, .string o.a, .string o.b, .int .i64 o.n, .slice o.ko o.kl o.kc]
structure Dd.ok (o : Dd) : Prop where
  kind : -9223372036854775808 ≤ o.kind ∧ o.kind ≤ 9223372036854775807
  a : o.a.size ≤ maxLen
  b : o.b.size ≤ maxLen
  n : -9223372036854775808 ≤ o.n ∧ o.n ≤ 9223372036854775807
def refuse (p : Int) (o : Dd) (G : DG) : Int :=
  if p = 0 then rfCreate G o.a else if p = 1 then rfAppend G o.a o.b else if p = 2 then rfSync G o.a else if p = 3 then rfRename G o.a o.b else if p = 4 then rfTruncate G o.a o.n else if p = 5 then rfSync G o.a else 0
def does (p : Int) (o : Dd) (G G' : DG) : Prop :=
  if p = 0 then dCreate G o.a G' else if p = 1 then dAppend G o.a o.b G' else if p = 2 then dSync G o.a G' else if p = 3 then dRename G o.a o.b G' else if p = 4 then dTruncate G o.a o.n G' else if p = 5 then dRemove G o.a G' else DirSynced G G'
def OneR (o : Dd) (G : DG) (er : Int) (G' : DG) : Prop := Res (refuse (pickZ o.kind 7) o G) (does (pickZ o.kind 7) o G.tick G') G er G'
theorem does_cases {o : Dd} {G G' : DG} {p : Int} (h : does p o G G') : (p = 0 ∧ dCreate G o.a G') ∨ (p = 1 ∧ dAppend G o.a o.b G') ∨ (p = 2 ∧ dSync G o.a G') ∨ (p = 3 ∧ dRename G o.a o.b G') ∨ (p = 4 ∧ dTruncate G o.a o.n G') ∨ (p = 5 ∧ dRemove G o.a G') ∨ ((p ≠ 0 ∧ p ≠ 1 ∧ p ≠ 2 ∧ p ≠ 3 ∧ p ≠ 4 ∧ p ≠ 5) ∧ DirSynced G G') := by
  unfold does at h
  split at h
  · rename_i e; exact .inl ⟨e, h⟩
  · split at h
    · rename_i e; exact .inr (.inl ⟨e, h⟩)
    · split at h
      · rename_i e; exact .inr (.inr (.inl ⟨e, h⟩))
      · split at h
        · rename_i e; exact .inr (.inr (.inr (.inl ⟨e, h⟩)))
        · split at h
          · rename_i e; exact .inr (.inr (.inr (.inr (.inl ⟨e, h⟩))))
          · split at h
            · rename_i e; exact .inr (.inr (.inr (.inr (.inr (.inl ⟨e, h⟩)))))
            · rename_i e0 e1 e2 e3 e4 e5; exact .inr (.inr (.inr (.inr (.inr (.inr ⟨⟨e0, e1, e2, e3, e4, e5⟩, h⟩)))))

end Go.Proofs.YtknldpaaikcedaaGreat
