/-
  New, as it runs.
-/
import Derived.Test.YtjgbgbgajadgnaaZOH
namespace Go.Proofs.Ytjgbgbgajadgnaa
open Go.RowKit Go.Shelf

attribute [local go_sem ↓] Go.wp_at_zero Go.wp_at_succ
set_option linter.unusedSimpArgs false
set_option linter.unusedVariables false
def OS.start (self : Nat) (nodes : List Nat) : OS := ⟨self, nodes, [], 0, 0, List.replicate 7 0⟩
def OS.keeps (o : OS) (l : List ByteArray) : OS := l.foldl OS.keep o
theorem keeps_snoc (o : OS) (l : List ByteArray) (s : ByteArray) : o.keeps (l ++ [s]) = (o.keeps l).keep s := by simp [OS.keeps, List.foldl_append]
theorem keeps_ok {o : OS} (h : o.Ok) (l : List ByteArray) (hl : ∀ s ∈ l, s.size ≤ 140737488351232) : (o.keeps l).Ok := by
  induction l generalizing o with
  | nil => exact h
  | cons s r ih => exact ih (h.keep s (hl s (by simp))) (fun x hx => hl x (by simp [hx]))
theorem keeps_log (o : OS) (l : List ByteArray) : (o.keeps l).log = o.log ++ l ∧ (o.keeps l).nodes = o.nodes ∧ (o.keeps l).self = o.self ∧ (o.keeps l).sure = o.sure ∧ (o.keeps l).bytes = l.foldl addB o.bytes ∧ ∀ i, i ≠ o.self → (o.keeps l).had.getD i 0 = o.had.getD i 0 := by
  induction l generalizing o with
  | nil => exact ⟨by simp [OS.keeps], rfl, rfl, rfl, rfl, fun _ _ => rfl⟩
  | cons s r ih =>
    obtain ⟨h1, h2, h3, h4, h5, h6⟩ := ih (o.keep s)
    refine ⟨?_, h2, h3, h4, h5, fun i hi => ?_⟩
    · show ((o.keep s).keeps r).log = _
      rw [h1]
      simp [OS.keep]
    · show ((o.keep s).keeps r).had.getD i 0 = _
      rw [h6 i hi]
      simp only [OS.keep, List.getD_eq_getElem?_getD, List.getElem?_set]
      rw [if_neg (fun e => hi e.symm)]
/-- What the nodes have, once it is written. -/
def OS.puts (o : OS) (l : List Nat) (n : Nat) : OS := { o with had := l.foldl (fun h i => h.set i n) o.had }
theorem puts_snoc (o : OS) (l : List Nat) (i n : Nat) : o.puts (l ++ [i]) n = { o.puts l n with had := (o.puts l n).had.set i n } := by simp [OS.puts, List.foldl_append]
theorem puts_len (o : OS) (l : List Nat) (n : Nat) : (o.puts l n).had.length = o.had.length := by
  induction l generalizing o with
  | nil => rfl
  | cons i r ih =>
    have := ih { o with had := o.had.set i n }
    simpa [OS.puts] using this
theorem puts_get (o : OS) (l : List Nat) (n k : Nat) (hk : k < o.had.length) : (o.puts l n).had.getD k 0 = if k ∈ l then n else o.had.getD k 0 := by
  induction l generalizing o with
  | nil => simp [OS.puts]
  | cons i r ih =>
    have := ih { o with had := o.had.set i n } (by simpa using hk)
    have e : (o.puts (i :: r) n).had = (({ o with had := o.had.set i n } : OS).puts r n).had := rfl
    rw [e, this]
    simp only [List.getD_eq_getElem?_getD, List.getElem?_set, List.mem_cons]
    by_cases h1 : k ∈ r
    · simp [h1]
    · by_cases h2 : k = i
      · subst h2
        simp [hk]
      · have h3 : ¬ i = k := fun e => h2 e.symm
        simp [h1, h2, h3]
theorem new_is {self : Int} {nodes : List Int} {log : List ByteArray} (h : newOk self nodes = true) :
    { ((OS.start self.toNat (nodes.map Int.toNat)).keeps log).puts (nodes.map Int.toNat) log.length with sure := log.length } = OS.new self nodes log := by
  obtain ⟨h1, h2, h3, h4, h5, h6⟩ := keeps_log (OS.start self.toNat (nodes.map Int.toNat)) log
  have hself : self.toNat ∈ nodes.map Int.toNat := by
    unfold newOk at h
    simp only [Bool.and_eq_true, List.any_eq_true, decide_eq_true_eq] at h
    obtain ⟨_, x, hx, rfl⟩ := h
    exact List.mem_map_of_mem hx
  have hlen : ((OS.start self.toNat (nodes.map Int.toNat)).keeps log).had.length = 7 := by
    have : ∀ (l : List ByteArray) (o : OS), (o.keeps l).had.length = o.had.length := by
      intro l
      induction l with
      | nil => exact fun _ => rfl
      | cons s r ih => intro o; rw [show o.keeps (s :: r) = (o.keep s).keeps r from rfl, ih]; simp [OS.keep]
    rw [this]
    simp [OS.start]
  generalize hK : (OS.start self.toNat (nodes.map Int.toNat)).keeps log = K at *
  have hhad : (K.puts (nodes.map Int.toNat) log.length).had = (OS.new self nodes log).had := by
    apply List.ext_getElem?
    intro k
    by_cases hk : k < 7
    · have a := puts_get K (nodes.map Int.toNat) log.length k (by omega)
      have b : (K.puts (nodes.map Int.toNat) log.length).had.length = 7 := by rw [puts_len, hlen]
      rw [List.getD_eq_getElem?_getD, List.getElem?_eq_getElem (by omega)] at a
      rw [List.getElem?_eq_getElem (by omega)]
      simp only [Option.getD_some] at a
      rw [a]
      simp only [OS.new, List.getElem?_map, List.getElem?_range hk, Option.map_some, Option.some.injEq, List.contains_iff_mem]
      by_cases hm : k ∈ nodes.map Int.toNat
      · rw [if_pos hm, if_pos hm]
      · rw [if_neg hm, if_neg hm, h6 k (fun e => hm (by rw [e]; exact hself))]
        simp [OS.start]
        match k, hk with
        | 0, _ => rfl
        | 1, _ => rfl
        | 2, _ => rfl
        | 3, _ => rfl
        | 4, _ => rfl
        | 5, _ => rfl
        | 6, _ => rfl
        | k + 7, h => omega
    · rw [List.getElem?_eq_none (by rw [puts_len, hlen]; omega), List.getElem?_eq_none (by simp [OS.new]; omega)]
  have e : ∀ (a b : OS), a.self = b.self → a.nodes = b.nodes → a.log = b.log → a.bytes = b.bytes → a.sure = b.sure → a.had = b.had → a = b := by
    intro a b g1 g2 g3 g4 g5 g6
    cases a; cases b; simp_all
  refine e _ _ ?_ ?_ ?_ ?_ rfl hhad
  · exact h3
  · exact h2
  · exact h1
  · exact h5
theorem keeps_had (o : OS) (l : List ByteArray) : (o.keeps l).had.length = o.had.length := by
  induction l generalizing o with
  | nil => rfl
  | cons s r ih => rw [show o.keeps (s :: r) = (o.keep s).keeps r from rfl, ih]; simp [OS.keep]
theorem puts_rest (o : OS) (l : List Nat) (n : Nat) : (o.puts l n).nodes = o.nodes ∧ (o.puts l n).log = o.log := ⟨rfl, rfl⟩
theorem start_ok {self : Int} {nodes : List Int} (h : newOk self nodes = true) : (OS.start self.toNat (nodes.map Int.toNat)).Ok := by
  have := OS.Ok.new (log := []) h (fun s hs => by cases hs)
  exact ⟨this.ne, this.lt, this.self, rfl, fun i hi => by simp [OS.start, List.mem_replicate] at hi; simp [OS.start, hi], Nat.le_refl _, fun s hs => by simp [OS.start] at hs, this.rises⟩
set_option maxHeartbeats 4000000 in
theorem pnew_no (self : Int) (ao lo : Option Addr) (cp lc : Nat) (nodes : List Int) (log : List ByteArray) (w : World) (hN : IntsAt w ao nodes) (hn : nodes.length ≤ 17592186044416) (hno : newOk self nodes = false) :
    Calls Try.prog 8 #[.int .i64 self, .slice ao nodes.length cp, .slice lo log.length lc] w fun e w' => e = .returned (.tuple #[.pointer none, .int .i64 1]) ∧ w' = w := by
  have HR := hide (prising ao cp nodes w hN (by omega))
  have HC := hide (pcontains ao cp nodes self w hN (by omega))
  unfold newOk at hno
  cases hr : risingF (-1) nodes with
  | false =>
    rw [hr] at HR
    clear hN hno
    go_enter Try.func8, Try.ntmps8
    go_wp2_with (first | (go_at_call 30; refine HR.out.mono ?_; rintro e w1 ⟨rfl, rfl⟩))
    go_ret2
    exact ⟨rfl, rfl⟩
  | true =>
    rw [hr, Bool.true_and] at hno
    rw [hr] at HR
    rw [hno] at HC
    clear hN hno
    go_enter Try.func8, Try.ntmps8
    go_wp2_with (first | (go_at_call 30; refine HR.out.mono ?_; rintro e w1 ⟨rfl, rfl⟩) | (go_at_call 31; refine HC.out.mono ?_; rintro e w1 ⟨rfl, rfl⟩))
    go_ret2
    exact ⟨rfl, rfl⟩

/-- An order in memory of one's own, new since w. -/
structure NW (w wv : World) (L : OL) (o : OS) (b : Nat) : Prop where
  at' : OAt wv L o
  b' : L.b = b
  below : Below w.heap.size w wv
  new : ∀ j, L.all j → w.heap.size ≤ j
theorem NW.step {w wv w' : World} {L L' : OL} {o o' : OS} {b : Nat} (h : NW w wv L o b) (h2 : OAt w' L' o') (hs : OStep wv w' L L') : NW w w' L' o' b := by
  have bb : Below w.heap.size wv w' := hs.touch.toBelow h.below.size fun k hk e => by
    have := h.new k (e.elim .inl fun e => .inr (.inl e))
    omega
  refine ⟨h2, hs.b.trans h.b', h.below.trans bb, fun j hj => ?_⟩
  rcases hj with e | e | e
  · rw [hs.b] at e; exact h.new j (.inl e)
  · rcases hs.own j (.inr e) with e2 | e2
    · exact h.new j (e2.elim .inl fun e => .inr (.inl e))
    · have := h.below.size; omega
  · rw [hs.no] at e; exact h.new j (.inr (.inr e))
theorem NW.boxed {w wv : World} {L : OL} {o o' : OS} {b : Nat} (h : NW w wv L o b) (k : Nat) (v : Value) (hb : (oBox L o).setIfInBounds k v = oBox L o') (e1 : o'.nodes = o.nodes) (e2 : o'.log = o.log) : NW w (wv.setCell ⟨b, k, none⟩ v) L o' b := by
  have := h.at'.boxed k v hb e1 e2
  rw [h.b'] at this
  exact h.step this.1 this.2
theorem newOk_nat {self : Int} {nodes : List Int} (h : newOk self nodes = true) : (∃ sn : Nat, self = (sn : Int) ∧ sn < 7) ∧ nodes = natI (nodes.map Int.toNat) ∧ nodes ≠ [] ∧ ∀ x ∈ nodes, 0 ≤ x ∧ x < 7 := by
  unfold newOk at h
  simp only [Bool.and_eq_true, List.any_eq_true, decide_eq_true_eq] at h
  obtain ⟨h1, x, hx, rfl⟩ := h
  obtain ⟨h2, _⟩ := risingF_spec (by omega) h1
  refine ⟨⟨x.toNat, by have := h2 x hx; omega, by have := h2 x hx; omega⟩, ?_, fun e => (by rw [e] at hx; cases hx), fun y hy => by have := h2 y hy; omega⟩
  unfold natI
  rw [List.map_map]
  refine (List.map_id _).symm.trans (List.map_congr_left fun y hy => ?_)
  have := h2 y hy
  simp only [id, Function.comp]
  omega
set_option maxHeartbeats 2000000 in
theorem pnew (self : Int) (ao lo : Option Addr) (cp lc : Nat) (nodes : List Int) (log : List ByteArray) (w : World) (hN : IntsAt w ao nodes) (hL : TextsAt w lo log) (hs : ∀ s ∈ log, s.size ≤ 140737488351232) (hll : log.length ≤ 8796093021952) (hyes : newOk self nodes = true) :
    Calls Try.prog 8 #[.int .i64 self, .slice ao nodes.length cp, .slice lo log.length lc] w fun e w' => ∃ (L : OL) (b : Nat), e = .returned (.tuple #[.pointer (some ⟨b, 0, none⟩), .int .i64 0]) ∧ NW w w' L (OS.new self nodes log) b := by
  obtain ⟨⟨sn, hsn, hs7⟩, hnat, hne, hin⟩ := newOk_nat hyes
  have hst := start_ok hyes
  have hnew := new_is (log := log) hyes
  have hnl : nodes.length ≤ 7 := by have := hst.len; simpa [OS.start] using this
  have HR := hide (prising ao cp nodes w hN (by omega))
  have HC := hide (pcontains ao cp nodes self w hN (by omega))
  have HK := hide (fun wv bv => pclone ao cp nodes wv (hN.below bv) hne (by omega))
  have e1 := hyes
  unfold newOk at e1
  rw [Bool.and_eq_true] at e1
  rw [e1.1] at HR
  rw [e1.2] at HC
  subst hsn
  generalize hns : nodes.map Int.toNat = ns at *
  rw [show (sn : Int).toNat = sn from rfl] at hst hnew
  have hnl2 : nodes.length = ns.length := by rw [← hns, List.length_map]
  have hmem : ∀ k (hk : k < ns.length), ns[k] < 7 := fun k hk => hst.lt _ (List.getElem_mem hk)
  have HI := hide (fun wv (bv : Below w.heap.size w wv) => hN.below bv)
  have HT := hide (fun wv (bv : Below w.heap.size w wv) => hL.below bv)
  have HKP : Hid (∀ wv L k (hk : k < log.length) b, NW w wv L ((OS.start sn ns).keeps (log.take k)) b → Calls Try.prog 33 #[.pointer (some ⟨b, 0, none⟩), .string log[k]] wv fun e w' => e = .returned (.tuple #[]) ∧ ∃ L', NW w w' L' ((OS.start sn ns).keeps (log.take (k + 1))) b) := fun wv L k hk b hW => by
    have hok := keeps_ok hst (log.take k) (fun s hx => hs s (List.mem_of_mem_take hx))
    have := pkeep hW.at' hok log[k] (hs _ (List.getElem_mem hk)) (by rw [(keeps_log _ _).1]; simp [OS.start]; omega)
    unfold OL.at at this
    rw [hW.b'] at this
    refine this.mono ?_
    rintro e w' ⟨rfl, L', h1, h2⟩
    refine ⟨rfl, L', ?_⟩
    rw [List.take_succ_eq_append_getElem hk, keeps_snoc]
    exact hW.step h1 h2
  have HNI : Hid (nodes = natI ns) := hnat
  have HNEW := hide hnew
  have HST := hide hst
  have HIN := hide hin
  have HMEM := hide hmem
  have HN2 := hide hnl2
  clear hnl2
  clear hN hL hyes e1 hne hnat hnew hst hin hmem hns hs
  go_enter Try.func8, Try.ntmps8
  go_upto_region 3 with (first | (go_at_call 30; refine HR.out.mono ?_; rintro e w1 ⟨rfl, h9⟩; subst w1) | (go_at_call 31; refine HC.out.mono ?_; rintro e w1 ⟨rfl, h9⟩; subst w1))
  go_upto_region 4 with (go_at_call 32; refine (HK.out _ (Below.refl _ _)).mono ?_; rintro e w2 ⟨bo, bp, rfl, own2, b2⟩)
  have b3 : Below w2.heap.size w2 (w2.alloc (.cells #[.int .i64 (sn : Int), .slice bo nodes.length bp, .slice none 0 0, .int .i64 0, .int .i64 0, .int .i64 0, .int .i64 0, .int .i64 0, .int .i64 0, .int .i64 0, .int .i64 0, .int .i64 0] 66)) := (Below.refl _ _).alloc (Nat.le_refl _) _
  have X3 : (w2.alloc (.cells #[.int .i64 (sn : Int), .slice bo nodes.length bp, .slice none 0 0, .int .i64 0, .int .i64 0, .int .i64 0, .int .i64 0, .int .i64 0, .int .i64 0, .int .i64 0, .int .i64 0, .int .i64 0] 66)).heap[w2.heap.size]? = some (.cells (oBox ⟨w2.heap.size, bo, bp, none, 0⟩ (OS.start sn ns)) 66 (0, 0)) := by
    refine (heap_alloc_new w2 _).trans ?_
    rw [HN2.out]
    rfl
  generalize hb : w2.heap.size = b at *
  generalize w2.alloc _ = w3 at *
  have N3 : NW w w3 ⟨b, bo, bp, none, 0⟩ (OS.start sn ns) b := by
    refine ⟨⟨X3, ?_, World.ownsRow_nil _ _ _ _⟩, rfl, b2.trans (b3.mono (by have := b2.size; omega)), ?_⟩
    · have := row_base (below_row (by rw [hb]; exact b3) own2) (Nat.zero_le _)
      rw [HN2.out, HNI.out] at this
      exact this
    · rintro j (e | e | e)
      · rw [e]; have := b2.size; show w.heap.size ≤ b; omega
      · cases e
      · exact (own2.lt j (by rw [ownBlock_slice]; exact e)).1
  have HN3 := hide N3
  clear b3 X3 N3 own2 hb
  have K0 : Hid (NW w w3 ⟨b, bo, bp, none, 0⟩ ((OS.start sn ns).keeps (log.take 0)) b) := HN3.out
  have HLL := hide hll
  go_wp2
  go_loopw [10, 29] (fun _ iv wv => ∃ k L, k ≤ log.length ∧ iv = .int .i64 (k : Nat) ∧ Hid (NW w wv L ((OS.start sn ns).keeps (log.take k)) b)) (fun _ iv _ => log.length - (intOf iv).toNat)
  case atStart => exact ⟨0, _, Nat.zero_le _, rfl, K0⟩
  case round =>
    obtain ⟨k, L, hk, rfl, NV⟩ := hrel
    by_cases hlt : k < log.length
    · obtain ⟨g, off, rfl, hg, hcell⟩ := HT.out wr NV.out.below k hlt
      have h0 : (0 : Int) ≤ (k : Int) := by omega
      have h1 : (k : Int) < (log.length : Int) := by omega
      have HK2 := hide (HKP.out wr L k hlt b NV.out)
      generalize log[k] = x at *
      go_wp2_with (go_at_call 33; refine HK2.out.mono ?_; rintro e w4 ⟨rfl, L', h4⟩)
      exact ⟨⟨k + 1, L', by omega, by go_num, h4⟩, by simp [intOf]; omega⟩
    · have hi1 : ¬ (k : Int) < (log.length : Int) := by omega
      obtain rfl : k = log.length := by omega
      have KL : Hid (NW w wr L (((OS.start sn ns).keeps log).puts (ns.take 0) log.length) b) := by
        have := NV.out
        rw [List.take_length] at this
        exact this
      have HLEN : Hid (((OS.start sn ns).keeps log).had.length = 7) := keeps_had _ _
      clear NV HKP
      go_wp2
      go_loopw [12, 39] (fun _ iv wv => ∃ k : Nat, k ≤ nodes.length ∧ iv = .int .i64 (k : Nat) ∧ Hid (NW w wv L (((OS.start sn ns).keeps log).puts (ns.take k) log.length) b)) (fun _ iv _ => nodes.length - (intOf iv).toNat)
      case atStart => exact ⟨0, Nat.zero_le _, rfl, KL⟩
      case round =>
        obtain ⟨k, hk, rfl, NV⟩ := hrel
        by_cases hlt : k < nodes.length
        · obtain ⟨g, off, rfl, hg, hcell⟩ := HI.out _ NV.out.below k hlt
          have hk2 : k < ns.length := by have := HN2.out; omega
          have HE : Hid (nodes[k] = ((ns[k] : Nat) : Int)) := by
            show _ = _
            have := HNI.out
            subst this
            simp [natI]
          have h7 := HMEM.out k hk2
          have HTK : Hid (ns.take (k + 1) = ns.take k ++ [ns[k]]) := List.take_succ_eq_append_getElem hk2
          generalize ns[k] = x at *
          rw [HE.out] at hcell
          have h0 : (0 : Int) ≤ (k : Int) := by omega
          have h1 : (k : Int) < (nodes.length : Int) := by omega
          have i0 : (0 : Int) ≤ (x : Int) := by omega
          have i1 : (x : Int) < 7 := by omega
          have HLP : Hid ((((OS.start sn ns).keeps log).puts (ns.take k) log.length).had.length = 7) := by
            show _ = 7
            rw [puts_len]; exact HLEN.out
          have HX := hide (NV.out.boxed (5 + x) (.int .i64 (log.length : Int)) (box_had L _ HLP.out x h7 log.length) rfl rfl)
          have cx := NV.out.at'.hadc x h7
          have fx := box_free NV.out.at'.box (5 + x)
          rw [NV.out.b'] at cx fx
          clear hk2
          go_wp2
          refine ⟨⟨k + 1, by omega, by go_num, ?_⟩, by simp [intOf]; omega⟩
          rw [HTK.out, puts_snoc]
          exact HX.out
        · have hi1 : ¬ (k : Int) < (nodes.length : Int) := by omega
          obtain rfl : k = nodes.length := by omega
          have KE : Hid (NW w wr L (((OS.start sn ns).keeps log).puts ns log.length) b) := by
            have := NV.out
            rw [HN2.out, List.take_length] at this
            exact this
          have cx := KE.out.at'.cells.c4
          have fx := box_free KE.out.at'.box 4
          rw [KE.out.b'] at cx fx
          have HX := hide (KE.out.boxed 4 (.int .i64 (log.length : Int)) (set_sure L _ log.length) rfl rfl)
          clear NV
          go_wp2
          go_ret2
          refine ⟨L, b, rfl, ?_⟩
          rw [← HNEW.out]
          exact HX.out
end Go.Proofs.Ytjgbgbgajadgnaa
