/-
  The calls on one of some orders; the laws' examples, as they run.
-/
import Derived.Test.YtjgbgbgajadgnaaZOK
namespace Go.Proofs.Ytjgbgbgajadgnaa
open Go.RowKit

set_option linter.unusedSimpArgs false
set_option linter.unusedVariables false
section
variable {w wv : World} {X : Nat → Prop} {S : List (OL × OS)} {i : Nat} {L : OL} {o : OS}
theorem Group.one (h : Group w wv X S) (hi : i < S.length) (e : S[i] = (L, o)) : OAt wv L o := by have := h.each i hi; rw [e] at this; exact this
/-- What a change leaves. -/
theorem Group.gave (h : Group w wv X S) (hi : i < S.length) (e : S[i] = (L, o)) {w' : World} {L' : OL} {o' : OS} (h2 : OAt w' L' o') (hs : OStep wv w' L L') : L'.b = L.b ∧ Group w w' X (S.set i (L', o')) ∧ Touch (fun j => ¬ X j) wv w' := by
  have hs' : OStep wv w' S[i].1 L' := by rw [e]; exact hs
  exact ⟨hs.b, h.step hi h2 hs', hs'.touch.mono fun k _ hk => h.xa i hi k (own_all hk)⟩
theorem gpropose (h : Group w wv X S) (hi : i < S.length) (e : S[i] = (L, o)) (hk : o.Ok) (s : ByteArray) (hs : s.size ≤ 140737488351232) (hlen : o.log.length < 8796093022208) :
    Calls Try.prog 13 #[.pointer (some ⟨L.b, 0, none⟩), .string s] wv fun e w' => e = .returned (.tuple #[.int .i64 (o.propose s).2.1, .int .i64 (o.propose s).2.2]) ∧ ∃ L', L'.b = L.b ∧ Group w w' X (S.set i (L', (o.propose s).1)) ∧ Touch (fun j => ¬ X j) wv w' :=
  (ppropose (h.one hi e) hk s hs hlen).mono fun _ _ ⟨a, L', b, c⟩ => ⟨a, L', h.gave hi e b c⟩
theorem gadd (h : Group w wv X S) (hi : i < S.length) (e : S[i] = (L, o)) (hk : o.Ok) (n : Int) (s : ByteArray) (hs : s.size ≤ 140737488351232) (hlen : o.log.length < 8796093022208) :
    Calls Try.prog 15 #[.pointer (some ⟨L.b, 0, none⟩), .int .i64 n, .string s] wv fun e w' => e = .returned (.bool (o.add n s).2) ∧ ∃ L', L'.b = L.b ∧ Group w w' X (S.set i (L', (o.add n s).1)) ∧ Touch (fun j => ¬ X j) wv w' :=
  (padd (h.one hi e) hk n s hs hlen).mono fun _ _ ⟨a, L', b, c⟩ => ⟨a, L', h.gave hi e b c⟩
theorem ghas (h : Group w wv X S) (hi : i < S.length) (e : S[i] = (L, o)) (hk : o.Ok) (node n : Int) (hlen : o.log.length ≤ 17592186044416) :
    Calls Try.prog 17 #[.pointer (some ⟨L.b, 0, none⟩), .int .i64 node, .int .i64 n] wv fun e w' => e = .returned (.bool (o.has node n).2) ∧ ∃ L', L'.b = L.b ∧ Group w w' X (S.set i (L', (o.has node n).1)) ∧ Touch (fun j => ¬ X j) wv w' :=
  (phas (h.one hi e) hk node n hlen).mono fun _ _ ⟨a, b, c⟩ => ⟨a, L, h.gave hi e b c⟩
theorem glearn (h : Group w wv X S) (hi : i < S.length) (e : S[i] = (L, o)) (hk : o.Ok) (n : Int) (hn1 : -9223372036854775808 ≤ n) (hn2 : n ≤ 9223372036854775807) (hlen : o.log.length ≤ 17592186044416) :
    Calls Try.prog 19 #[.pointer (some ⟨L.b, 0, none⟩), .int .i64 n] wv fun e w' => e = .returned (.bool (o.learn n).2) ∧ ∃ L', L'.b = L.b ∧ Group w w' X (S.set i (L', (o.learn n).1)) ∧ Touch (fun j => ¬ X j) wv w' :=
  (plearn (h.one hi e) hk n hn1 hn2 hlen).mono fun _ _ ⟨a, b, c⟩ => ⟨a, L, h.gave hi e b c⟩
theorem gwants (h : Group w wv X S) (hi : i < S.length) (e : S[i] = (L, o)) (hk : o.Ok) (node most : Int) (hm : most ≤ 9223372036854775807) (hlen : o.log.length ≤ 17592186044416) :
    Calls Try.prog 21 #[.pointer (some ⟨L.b, 0, none⟩), .int .i64 node, .int .i64 most] wv fun e w' => ∃ ao cp, e = .returned (.tuple #[.int .i64 (o.wants node most).1, .slice ao (o.wants node most).2.length cp]) ∧ w'.ownsRow wv.heap.size 9 1 (.slice ao (o.wants node most).2.length cp) (o.wants node most).2.length (textC (o.wants node most).2) ∧ Group w w' X S ∧ Below wv.heap.size wv w' := by
  refine (pwants (h.one hi e) hk hlen node most hm).mono ?_
  rintro e w' ⟨v, rfl, ⟨ao, cp, rfl, h1⟩, h2⟩
  exact ⟨ao, cp, rfl, h1, h.further h2, h2⟩
theorem gsure (h : Group w wv X S) (hi : i < S.length) (e : S[i] = (L, o)) : Calls Try.prog 28 #[.pointer (some ⟨L.b, 0, none⟩)] wv fun e w' => e = .returned (.int .i64 o.sure) ∧ w' = wv := psure (h.one hi e)
theorem glen (h : Group w wv X S) (hi : i < S.length) (e : S[i] = (L, o)) : Calls Try.prog 25 #[.pointer (some ⟨L.b, 0, none⟩)] wv fun e w' => e = .returned (.int .i64 o.log.length) ∧ w' = wv := plen (h.one hi e)
theorem gbytes (h : Group w wv X S) (hi : i < S.length) (e : S[i] = (L, o)) : Calls Try.prog 26 #[.pointer (some ⟨L.b, 0, none⟩)] wv fun e w' => e = .returned (.int .i64 o.bytes) ∧ w' = wv := pbytes (h.one hi e)
theorem gfirst (h : Group w wv X S) (hi : i < S.length) (e : S[i] = (L, o)) (hk : o.Ok) : Calls Try.prog 10 #[.pointer (some ⟨L.b, 0, none⟩)] wv fun e w' => e = .returned (.bool o.first) ∧ Group w w' X S ∧ Below wv.heap.size wv w' := (pfirst (h.one hi e) hk).mono fun _ _ ⟨a, b⟩ => ⟨a, h.further b, b⟩
theorem glog (h : Group w wv X S) (hi : i < S.length) (e : S[i] = (L, o)) (hk : o.Ok) (hlen : o.log.length ≤ 17592186044416) : Calls Try.prog 24 #[.pointer (some ⟨L.b, 0, none⟩)] wv fun e w' => ∃ g, e = .returned (.slice (some ⟨g, 0, none⟩) o.log.length o.log.length) ∧ w'.ownsRow wv.heap.size 9 1 (.slice (some ⟨g, 0, none⟩) o.log.length o.log.length) o.log.length (textC o.log) ∧ Group w w' X S ∧ Below wv.heap.size wv w' := by
  refine (plog (h.one hi e) hk hlen).mono ?_
  rintro e w' ⟨g, rfl, h1, h2⟩
  exact ⟨g, rfl, h1, h.further h2, h2⟩
end
/-- Two orders of the examples. -/
def Pair (w : World) (a1 a2 : Addr) (o1 o2 : OS) (W : World) : Prop := ∃ L1 L2, a1 = ⟨L1.b, 0, none⟩ ∧ a2 = ⟨L2.b, 0, none⟩ ∧ Group w W (fun _ => False) [(L1, o1), (L2, o2)]
theorem Pair.set0 {w W : World} {a1 a2 : Addr} {o1 o2 o1' : OS} {L1 L2 L' : OL} (e1 : a1 = ⟨L1.b, 0, none⟩) (e2 : a2 = ⟨L2.b, 0, none⟩) (hb : L'.b = L1.b) (h : Group w W (fun _ => False) ([(L1, o1), (L2, o2)].set 0 (L', o1'))) : Pair w a1 a2 o1' o2 W := ⟨L', L2, by rw [hb]; exact e1, e2, h⟩
theorem Pair.set1 {w W : World} {a1 a2 : Addr} {o1 o2 o2' : OS} {L1 L2 L' : OL} (e1 : a1 = ⟨L1.b, 0, none⟩) (e2 : a2 = ⟨L2.b, 0, none⟩) (hb : L'.b = L2.b) (h : Group w W (fun _ => False) ([(L1, o1), (L2, o2)].set 1 (L', o2'))) : Pair w a1 a2 o1 o2' W := ⟨L1, L', e1, by rw [hb]; exact e2, h⟩
theorem exok0 : exO0.Ok := by have := OS.Ok.new (self := 0) (nodes := [0, 1, 2]) (log := [tA]) (by decide) (by intro s hs; simp at hs; subst hs; decide); rw [ex_new0] at this; exact this
theorem exokp : exP0.Ok := by have := OS.Ok.new (self := 1) (nodes := [0, 1, 2]) (log := [tA]) (by decide) (by intro s hs; simp at hs; subst hs; decide); rw [ex_new1] at this; exact this
theorem exok1 : exO1.Ok := by have := exok0.propose tB (by decide); rw [ex_prop] at this; exact this
theorem exok2 : exO2.Ok := by have := exok1.has 1 2; rw [ex_has] at this; exact this
theorem exokp1 : exP1.Ok := by have := exokp.add 1 tB (by decide); rw [ex_add1] at this; exact this
theorem exokp2 : exP2.Ok := by have := exokp1.learn 2; rw [ex_learn] at this; exact this
theorem three_ints (W : World) : IntsAt (W.alloc (.cells #[.int .i64 0, .int .i64 1, .int .i64 2] 3)) (some ⟨W.heap.size, 0, none⟩) [0, 1, 2] := by
  have h := heap_alloc_new W (.cells #[.int .i64 0, .int .i64 1, .int .i64 2] 3)
  intro i hi
  refine ⟨W.heap.size, 0, rfl, by simp, ?_⟩
  rw [Nat.zero_add]
  refine box_cell h i ?_
  match i, hi with
  | 0, _ => rfl
  | 1, _ => rfl
  | 2, _ => rfl
theorem ex_ret {W : World} {a : Act} {v : Vex} {x : Bool} {R : Ending → World → Prop} (hF : Fex a v) (h2 : v.v0 = .bool x) (h : R (.returned (.bool x)) W) : bodyPost Try.prog Try.f7 R .ret a W := by
  have g0 := slot_get (hF.s0.trans h2)
  refine bodyPost_ret (v := .bool x) ?_ hF.defers h
  simp [results, Try.results7, go_sem, g0]
/-- And the row that Wants told. -/
def PairX (w : World) (a1 a2 : Addr) (g off : Nat) (o1 o2 : OS) (W : World) : Prop := W.cell? ⟨g, off, none⟩ = some (.string tB) ∧ ∃ L1 L2, a1 = ⟨L1.b, 0, none⟩ ∧ a2 = ⟨L2.b, 0, none⟩ ∧ Group w W (fun j => j = g) [(L1, o1), (L2, o2)]
section
variable {w W w' : World} {a1 a2 : Addr} {g off : Nat} {o1 o2 o1' o2' : OS} {L1 L2 L' : OL}
theorem PairX.set0 (hc : W.cell? ⟨g, off, none⟩ = some (.string tB)) (e1 : a1 = ⟨L1.b, 0, none⟩) (e2 : a2 = ⟨L2.b, 0, none⟩) (hb : L'.b = L1.b) (h : Group w w' (fun j => j = g) ([(L1, o1), (L2, o2)].set 0 (L', o1'))) (ht : Touch (fun j => ¬ j = g) W w') : PairX w a1 a2 g off o1' o2 w' := ⟨ht.cell _ hc (fun h => h rfl), L', L2, by rw [hb]; exact e1, e2, h⟩
theorem PairX.set1 (hc : W.cell? ⟨g, off, none⟩ = some (.string tB)) (e1 : a1 = ⟨L1.b, 0, none⟩) (e2 : a2 = ⟨L2.b, 0, none⟩) (hb : L'.b = L2.b) (h : Group w w' (fun j => j = g) ([(L1, o1), (L2, o2)].set 1 (L', o2'))) (ht : Touch (fun j => ¬ j = g) W w') : PairX w a1 a2 g off o1 o2' w' := ⟨ht.cell _ hc (fun h => h rfl), L1, L', e1, by rw [hb]; exact e2, h⟩
end
set_option maxHeartbeats 8000000 in
set_option maxRecDepth 100000 in
theorem pexamples (w : World) : Calls Try.prog 7 #[] w fun e w' => e = .returned (.bool true) ∧ Below w.heap.size w w' := by
  go_enter Try.func7, Try.ntmps7
  refine wp_seq (reg_mono (ex_r0 (by kernel_rfl) _ (v := ⟨_, _, _, _, _, _, _, _, _, _, _, _, _, _, _, _⟩) ⟨rfl, rfl, rfl, rfl, rfl, rfl, rfl, rfl, rfl, rfl, rfl, rfl, rfl, rfl, rfl, rfl, rfl, rfl⟩ ?_))
  intro a0 F0
  try dsimp only at F0
  have two : ∀ W : World, IntsAt ((W.alloc (.cells #[.int .i64 0, .int .i64 1, .int .i64 2] 3)).alloc (.cells #[.string ⟨#[97]⟩] 9)) (some ⟨W.heap.size, 0, none⟩) [0, 1, 2] ∧ TextsAt ((W.alloc (.cells #[.int .i64 0, .int .i64 1, .int .i64 2] 3)).alloc (.cells #[.string ⟨#[97]⟩] 9)) (some ⟨W.heap.size + 1, 0, none⟩) [tA] ∧ Below W.heap.size W ((W.alloc (.cells #[.int .i64 0, .int .i64 1, .int .i64 2] 3)).alloc (.cells #[.string ⟨#[97]⟩] 9)) := by
    intro W
    refine ⟨(three_ints W).below ((Below.refl _ _).alloc (Nat.le_refl _) _), ?_, ((Below.refl _ _).alloc (Nat.le_refl _) _).alloc (by simp) _⟩
    have h := heap_alloc_new (W.alloc (.cells #[.int .i64 0, .int .i64 1, .int .i64 2] 3)) (.cells #[.string ⟨#[97]⟩] 9)
    intro i hi
    obtain rfl : i = 0 := by simpa using hi
    refine ⟨W.heap.size + 1, 0, rfl, by simp, ?_⟩
    have := box_cell h 0 (v := .string tA) rfl
    simpa using this
  have nw : ∀ (W : World) (self : Int), newOk self [0, 1, 2] = true → Calls Try.prog 8 #[.int .i64 self, .slice (some ⟨W.heap.size, 0, none⟩) 3 3, .slice (some ⟨W.heap.size + 1, 0, none⟩) 1 1] ((W.alloc (.cells #[.int .i64 0, .int .i64 1, .int .i64 2] 3)).alloc (.cells #[.string ⟨#[97]⟩] 9)) fun e w' => ∃ (po : Option Addr) (ec : Int), e = .returned (.tuple #[.pointer po, .int .i64 ec]) ∧ (ec = 0 ∧ ∃ (L : OL) (b : Nat), po = some ⟨b, 0, none⟩ ∧ NW W w' L (OS.new self [0, 1, 2] [tA]) b) := by
    intro W self hok
    obtain ⟨h1, h2, h3⟩ := two W
    refine (pnew self _ _ 3 1 [0, 1, 2] [tA] _ h1 h2 (by intro s hs; simp at hs; subst hs; decide) (by decide) hok).mono ?_
    rintro e w' ⟨L, b, rfl, hn⟩
    exact ⟨some ⟨b, 0, none⟩, 0, rfl, rfl, L, b, rfl, hn.at', hn.b', h3.trans (hn.below.mono h3.size), fun j hj => Nat.le_trans h3.size (hn.new j hj)⟩
  refine wp_seq (reg_mono (ex_r1 (by kernel_rfl) _ F0 (nw w 0 (by decide)) ?_))
  rintro a1 w1 po1 ec1 F1 ⟨rfl, L1, b1, rfl, hn1⟩
  refine wp_seq (reg_mono (ex_r2 (by kernel_rfl) _ F1 (nw w1 1 (by decide)) ?_))
  rintro a2 w2 po2 ec2 F2 ⟨rfl, L2, b2, rfl, hn2⟩
  rw [ex_new0] at hn1
  rw [ex_new1] at hn2
  have G0 := ((Group.nil (X := fun _ => False) (Below.refl w.heap.size w) (fun _ h => h.elim)).snoc hn1).snoc hn2
  have P2 : Pair w ⟨b1, 0, none⟩ ⟨b2, 0, none⟩ exO0 exP0 w2 := ⟨L1, L2, by rw [hn1.b'], by rw [hn2.b'], G0⟩
  clear G0 hn1 hn2
  generalize (⟨b1, 0, none⟩ : Addr) = A1 at *
  generalize (⟨b2, 0, none⟩ : Addr) = A2 at *
  have no : Calls Try.prog 8 #[.int .i64 3, .slice (some ⟨w2.heap.size, 0, none⟩) 3 3, .slice none 0 0] (w2.alloc (.cells #[.int .i64 0, .int .i64 1, .int .i64 2] 3)) fun e w' => ∃ (po : Option Addr) (ec : Int), e = .returned (.tuple #[.pointer po, .int .i64 ec]) ∧ (ec = 1 ∧ Pair w A1 A2 exO0 exP0 w') := by
    refine (pnew_no 3 _ none 3 0 [0, 1, 2] [] _ (three_ints w2) (by decide) (by decide)).mono ?_
    rintro e w' ⟨rfl, rfl⟩
    obtain ⟨L1, L2, e1, e2, g⟩ := P2
    exact ⟨none, 1, rfl, rfl, L1, L2, e1, e2, g.further ((Below.refl _ _).alloc (Nat.le_refl _) _)⟩
  refine wp_seq (reg_mono (ex_r3 (by kernel_rfl) _ F2 no ?_))
  rintro a3 w3 po3 ec3 F3 ⟨rfl, P3⟩
  refine wp_seq (wp_seq (reg_mono (ex_r4 (by kernel_rfl) _ F3 rfl rfl rfl rfl ?_)))
  intro a4 F4 g4
  refine wp_cond_false g4 (wp_skip ?_)
  show Code.wp _ _ _ _ _
  have cp1 : Calls Try.prog 13 #[.pointer (some A1), .string ⟨#[98]⟩] w3 fun e w' => e = .returned (.tuple #[.int .i64 1, .int .i64 0]) ∧ Pair w A1 A2 exO1 exP0 w' := by
    obtain ⟨L1, L2, rfl, e2, g⟩ := P3
    have := gpropose g (i := 0) (by simp) rfl exok0 tB (by decide) (by decide)
    rw [ex_prop] at this
    exact this.mono fun e w' ⟨h1, L', h2, h3, _⟩ => ⟨h1, Pair.set0 rfl e2 h2 h3⟩
  refine wp_seq (reg_mono (ex_r6 (by kernel_rfl) _ F4 rfl cp1 ?_))
  intro a6 w6 F6 P6
  have cs : ∀ o2, Pair w A1 A2 exO1 o2 w6 → Calls Try.prog 28 #[.pointer (some A1)] w6 fun e w' => e = .returned (.int .i64 1) ∧ Pair w A1 A2 exO1 o2 w' := fun o2 P => by
    obtain ⟨L1, L2, rfl, e2, g⟩ := P
    exact (gsure g (i := 0) (by simp) rfl).mono fun e w' ⟨h1, h2⟩ => ⟨h1, by rw [h2]; exact ⟨L1, L2, rfl, e2, g⟩⟩
  refine wp_seq (reg_mono (ex_r7 (by kernel_rfl) _ F6 rfl (cs _ P6) ?_))
  intro a7 w7 F7 P7
  have cw : Calls Try.prog 21 #[.pointer (some A1), .int .i64 1, .int .i64 9] w7 fun e w' => ∃ (ao : Option Addr) (cp : Nat), e = .returned (.tuple #[.int .i64 1, .slice ao 1 cp]) ∧ (∃ g off, ao = some ⟨g, off, none⟩ ∧ PairX w A1 A2 g off exO1 exP0 w') := by
    obtain ⟨L1, L2, rfl, e2, g⟩ := P7
    have := gwants g (i := 0) (by simp) rfl exok1 1 9 (by decide) (by decide)
    rw [ex_wants] at this
    refine this.mono ?_
    rintro e w' ⟨ao, cp, rfl, h1, h2, _⟩
    refine ⟨ao, cp, rfl, ?_⟩
    obtain ⟨gg, off, e3, h4, h5⟩ := texts_own (l := [tB]) h1 0 (by simp)
    subst e3
    have hgg := (h1.lt gg rfl).1
    refine ⟨gg, off, rfl, h5, L1, L2, rfl, e2, h2.reX (fun i hi j hj hx => ?_) (fun j hx => by rw [hx]; exact h4)⟩
    have := (g.each i hi).lt hj
    omega
  refine wp_seq (reg_mono (ex_r8 (by kernel_rfl) _ F7 rfl cw ?_))
  rintro a8 w8 ao cp F8 ⟨gg, off, rfl, P8⟩
  have add : ∀ (W : World) (o2 : OS) (n : Int) (s : ByteArray) (r : Bool) (o2' : OS), o2.Ok → s.size ≤ 140737488351232 → o2.log.length < 8796093022208 → o2.add n s = (o2', r) → PairX w A1 A2 gg off exO1 o2 W → Calls Try.prog 15 #[.pointer (some A2), .int .i64 n, .string s] W fun e w' => e = .returned (.bool r) ∧ PairX w A1 A2 gg off exO1 o2' w' := by
    rintro W o2 n s r o2' hk hs hl he ⟨hc, L1, L2, e1, rfl, g⟩
    have := gadd g (i := 1) (by simp) rfl hk n s hs hl
    rw [he] at this
    exact this.mono fun e w' ⟨h1, L', h2, h3, h4⟩ => ⟨h1, PairX.set1 hc e1 rfl h2 h3 h4⟩
  have sure1 : ∀ (W : World) (o1 o2 : OS) (n : Nat), o1.sure = n → PairX w A1 A2 gg off o1 o2 W → Calls Try.prog 28 #[.pointer (some A1)] W fun e w' => e = .returned (.int .i64 (n : Int)) ∧ PairX w A1 A2 gg off o1 o2 w' := by
    rintro W o1 o2 n rfl ⟨hc, L1, L2, rfl, e2, g⟩
    exact (gsure g (i := 0) (by simp) rfl).mono fun e w' ⟨h1, h2⟩ => ⟨h1, by rw [h2]; exact ⟨hc, L1, L2, rfl, e2, g⟩⟩
  have sure2 : ∀ (W : World) (o1 o2 : OS) (n : Nat), o2.sure = n → PairX w A1 A2 gg off o1 o2 W → Calls Try.prog 28 #[.pointer (some A2)] W fun e w' => e = .returned (.int .i64 (n : Int)) ∧ PairX w A1 A2 gg off o1 o2 w' := by
    rintro W o1 o2 n rfl ⟨hc, L1, L2, e1, rfl, g⟩
    exact (gsure g (i := 1) (by simp) rfl).mono fun e w' ⟨h1, h2⟩ => ⟨h1, by rw [h2]; exact ⟨hc, L1, L2, e1, rfl, g⟩⟩
  have has : ∀ (W : World), PairX w A1 A2 gg off exO1 exP1 W → Calls Try.prog 17 #[.pointer (some A1), .int .i64 1, .int .i64 2] W fun e w' => e = .returned (.bool true) ∧ PairX w A1 A2 gg off exO2 exP1 w' := by
    rintro W ⟨hc, L1, L2, rfl, e2, g⟩
    have := ghas g (i := 0) (by simp) rfl exok1 1 2 (by decide)
    rw [ex_has] at this
    exact this.mono fun e w' ⟨h1, L', h2, h3, h4⟩ => ⟨h1, PairX.set0 hc rfl e2 h2 h3 h4⟩
  have learn : ∀ (W : World), PairX w A1 A2 gg off exO2 exP1 W → Calls Try.prog 19 #[.pointer (some A2), .int .i64 2] W fun e w' => e = .returned (.bool true) ∧ PairX w A1 A2 gg off exO2 exP2 w' := by
    rintro W ⟨hc, L1, L2, e1, rfl, g⟩
    have := glearn g (i := 1) (by simp) rfl exokp1 2 (by decide) (by decide) (by decide)
    rw [ex_learn] at this
    exact this.mono fun e w' ⟨h1, L', h2, h3, h4⟩ => ⟨h1, PairX.set1 hc e1 rfl h2 h3 h4⟩
  have prop2 : ∀ (W : World), PairX w A1 A2 gg off exO2 exP2 W → Calls Try.prog 13 #[.pointer (some A2), .string ⟨#[99]⟩] W fun e w' => e = .returned (.tuple #[.int .i64 0, .int .i64 11]) ∧ PairX w A1 A2 gg off exO2 exP2 w' := by
    rintro W ⟨hc, L1, L2, e1, rfl, g⟩
    have := gpropose g (i := 1) (by simp) rfl exokp2 ⟨#[99]⟩ (by decide) (by decide)
    rw [ex_prop2] at this
    exact this.mono fun e w' ⟨h1, L', h2, h3, h4⟩ => ⟨h1, PairX.set1 hc e1 rfl h2 h3 h4⟩
  have len2 : ∀ (W : World), PairX w A1 A2 gg off exO2 exP2 W → Calls Try.prog 25 #[.pointer (some A2)] W fun e w' => e = .returned (.int .i64 2) ∧ PairX w A1 A2 gg off exO2 exP2 w' := by
    rintro W ⟨hc, L1, L2, e1, rfl, g⟩
    exact (glen g (i := 1) (by simp) rfl).mono fun e w' ⟨h1, h2⟩ => ⟨h1, by rw [h2]; exact ⟨hc, L1, L2, e1, rfl, g⟩⟩
  have first1 : ∀ (W : World), PairX w A1 A2 gg off exO2 exP2 W → Calls Try.prog 10 #[.pointer (some A1)] W fun e w' => e = .returned (.bool true) ∧ PairX w A1 A2 gg off exO2 exP2 w' := by
    rintro W ⟨hc, L1, L2, rfl, e2, g⟩
    exact (gfirst g (i := 0) (by simp) rfl exok2).mono fun e w' ⟨h1, h2, h3⟩ => ⟨h1, (Touch.of_below (own := fun _ => False) h3).cell _ hc id, L1, L2, rfl, e2, h2⟩
  have bytes1 : ∀ (W : World), PairX w A1 A2 gg off exO2 exP2 W → Calls Try.prog 26 #[.pointer (some A1)] W fun e w' => e = .returned (.int .i64 10) ∧ PairX w A1 A2 gg off exO2 exP2 w' := by
    rintro W ⟨hc, L1, L2, rfl, e2, g⟩
    exact (gbytes g (i := 0) (by simp) rfl).mono fun e w' ⟨h1, h2⟩ => ⟨h1, by rw [h2]; exact ⟨hc, L1, L2, rfl, e2, g⟩⟩
  refine wp_seq (reg_mono (ex_r9 (by kernel_rfl) _ F8 rfl P8 (fun W P => add W exP0 2 _ false exP0 exokp (by decide) (by decide) ex_add2 P) (fun W P => add W exP0 1 tB true exP1 exokp (by decide) (by decide) ex_add1 P) ?_))
  intro a9 w9 F9 P9
  refine wp_seq (reg_mono (ex_r10 (by kernel_rfl) _ F9 rfl rfl P9 has (fun W P => sure1 W exO2 exP1 2 rfl P) learn (fun W P => sure2 W exO2 exP2 2 rfl P) ?_))
  intro a10 w10 F10 P10
  refine wp_seq (reg_mono (ex_r11 (by kernel_rfl) _ F10 rfl (prop2 w10 P10) ?_))
  intro a11 w11 F11 P11
  refine wp_seq (reg_mono (ex_r12 (by kernel_rfl) _ F11 rfl rfl rfl rfl rfl rfl rfl rfl rfl rfl P11 P11.1 len2 first1 bytes1 ?_))
  rintro a12 w12 F12 ⟨_, L1, L2, _, _, g⟩
  refine wp_ret ?_
  exact ex_ret F12 rfl ⟨rfl, g.below⟩
end Go.Proofs.Ytjgbgbgajadgnaa
