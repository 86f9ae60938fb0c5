/-
  carillonref04's Append and Truncate, as they run.
-/
import Derived.Test.YtknldpaaikcedaaGreatZGB
import Derived.Maps.AppendAt
namespace Go.Proofs.YtknldpaaikcedaaGreat
open Go.RowKit

/-- append, as one step of a region that draws its order; what is appended may be nothing. -/
theorem zstep_append {P : Program} {w : World} {ops : Array Oper} {o : Oper} {a : Act} {K : Act → World → Prop} {Q : Exit → Act → World → Prop} {E : Prop} (hgd : o.guard = none) (s x : Operand) (t : TypeId)
    (ho : o.op = .call { callee := .builtin .append, args := #[s, x], argTypes := #[t, t] })
    (base : Nat) (e : TypeId) (i : TypeInfo) (z : Value) (size bytes : Nat) (ht : P.underlying t = some (.slice e)) (hi : P.info? e = some i) (hz : i.zero = some z)
    (hsize : i.size = size) (hby : i.bytes = bytes) (hzs : z.cells.size = size) (hsz : 0 < size)
    (v : Value) (n : Nat) (xs : List Value) (hs : a.eval s = v) (hown : w.ownsRow base e size v n xs)
    (ad : Addr) (m c : Nat) (news : List Value) (hx : a.eval x = .slice (some ad) m c) (hl : news.length = m * size) (hnews : ∀ j u, news[j]? = some u → w.cell? (ad.add j) = some u) (h1 : ∀ u ∈ news, u.oneCell' = true)
    (h63 : n + m ≤ maxLen) (hbytes : (n + m) * bytes ≤ 140737488355328) (hbase : base ≤ w.heap.size)
    (h : ∀ ao cp w', w'.ownsRow base e size (.slice ao (n + m) cp) (n + m) (xs ++ news) → w.grownBy w' v.ownBlock → ((Value.slice ao (n + m) cp).ownBlock = v.ownBlock ∨ (Value.slice ao (n + m) cp).ownBlock = some w.heap.size) → K (a.put o.dst (.slice ao (n + m) cp)) w') :
    if Region.wanted o (yielded ops a.tmps) = true then Oper.wp P o a w K Q else E := by
  have hw : Region.wanted o (yielded ops a.tmps) = true := by simp [Region.wanted, hgd]
  rw [if_pos hw]
  obtain ⟨v', w', hr, h2, h3, h4, h5⟩ := run_append_own_at (P := P) w base t o.type e i z size bytes ht hi hz hsize hby hzs hsz v n xs hown ad m c news hl hnews h1 h63 hbytes hbase
  obtain ⟨ao, cp, rfl⟩ := row_slice h2
  unfold Oper.wp execOp
  simp only [ho, resolve, invoke, builtin, Sem.run_bind, Sem.run_pure, Result.andThen_ok, List.map_toArray, List.map_cons, List.map_nil, hs, hx, hr]
  exact h ao cp w' h2 h3 h5
theorem zset_same {l : List Value} {k : Nat} {x : Value} (h : l[k]? = some x) : l.set k x = l := by
  apply List.ext_getElem?
  intro j
  rw [List.getElem?_set]
  by_cases e : k = j
  · subst e
    rw [if_pos rfl, if_pos (List.getElem?_eq_some_iff.1 h).1, h]
  · rw [if_neg e]
theorem zinfoUn : (Tryz.prog.info? 112).map (fun i => (i.zero, i.size, i.bytes)) = some (some (.agg #[.string ⟨#[]⟩, .int .i64 0]), 2, 24) := by kernel_rfl
theorem un_ones (s : ByteArray) (n : Int) : ∀ u ∈ [Value.string s, Value.int .i64 n], u.oneCell' = true := by
  intro u hu
  simp at hu
  rcases hu with rfl | rfl <;> rfl
section
variable {w w' w2 : World} {b : Nat} {S : RD} {X X' X2 : XG} {n n' n2 : Nat}
def ZF.more (f : ZF) (u : ZU) : ZF := ⟨f.lasts, f.since ++ [u]⟩
/-- A unit more is done with a file. -/
theorem XR.addU (h : XR w b S X) {i : Nat} (hi : i < S.files.length) (u : ZU) (hok : (S.files[i].more u).ok) {g c uo : _} {uc : Nat} (hfv : X.fv = .slice (some ⟨g, 0, none⟩) S.files.length c) (hu : X.uv i = .slice uo S.files[i].since.length uc) {W w6 : World} {a6 : Option Addr} {c6 : Nat}
    (hT : Touch (fun _ => False) w W) (hg : W.grownBy w6 (Value.slice uo S.files[i].since.length uc).ownBlock) (ho : w6.ownsRow 0 112 2 (.slice a6 (S.files[i].since.length + 1) c6) (S.files[i].since.length + 1) (unCells S.files[i].since ++ [.string u.s, .int .i64 u.n]))
    (hloc : (Value.slice a6 (S.files[i].since.length + 1) c6).ownBlock = (Value.slice uo S.files[i].since.length uc).ownBlock ∨ (Value.slice a6 (S.files[i].since.length + 1) c6).ownBlock = some W.heap.size) :
    ∃ X', XR (w6.setCell ⟨g, i * 2 + 1, none⟩ (.slice a6 (S.files[i].since.length + 1) c6)) b { S with files := S.files.set i (S.files[i].more u) } X' ∧ XStep w (w6.setCell ⟨g, i * 2 + 1, none⟩ (.slice a6 (S.files[i].since.length + 1) c6)) b S.files.length S.files.length X X' := by
  have hfg : X.fv.ownBlock = some g := by rw [hfv]; rfl
  have hT6 : Touch (fun j => (X.uv i).ownBlock = some j) w w6 := (hT.mono fun _ _ e => e.elim).grown hg fun j e _ => by rw [hu]; exact e
  have hf6 : w6.ownsRow 0 75 2 X.fv S.files.length (filesC S.files X.uv) := hT6.row h.files fun k hk e => h.fneq hi e hk
  have hgb : ∃ cur, w6.heap[g]? = some (.cells cur 75 (0, 0)) := by
    rcases hf6.2 with ⟨hv, _⟩ | ⟨g', c', cur, hv, _, hh, _⟩
    · rw [hfv] at hv; cases hv
    · rw [hfv] at hv
      injection hv with e1 _ _
      injection e1 with e1
      injection e1 with e1 _ _
      subst e1
      exact ⟨cur, hh⟩
  obtain ⟨cur, hcur⟩ := hgb
  have hvg : (Value.slice a6 (S.files[i].since.length + 1) c6).ownBlock ≠ some g := fun e => absurd (zown_type ho e hcur) (by decide)
  have hset := filesC_set S.files X.uv i (S.files[i].more u) (.slice a6 (S.files[i].since.length + 1) c6)
  have hsm : (filesC S.files X.uv).set (i * 2) (.string (S.files[i].more u).lasts) = filesC S.files X.uv := zset_same (filesC_get S.files X.uv i hi).1
  rw [hsm] at hset
  have hl1 : (S.files[i].more u).since.length = S.files[i].since.length + 1 := by simp [ZF.more]
  refine ⟨_, h.fput hi (S.files[i].more u) hok (.slice a6 (S.files[i].since.length + 1) c6) ((hT6.mono fun _ _ e => .inr e).setCell _ _ fun _ => .inl hfg) ?_ ?_ ?_⟩
  · rw [hset]
    rw [hfv] at hf6 ⊢
    exact own_set hf6 _ (by omega)
  · rw [hl1]
    have e : unCells (S.files[i].more u).since = unCells S.files[i].since ++ [.string u.s, .int .i64 u.n] := unCells_snoc _ _
    rw [e]
    exact set_row ho _ _ _ hvg
  · intro j hj
    rcases hloc with e | e
    · exact .inl (by rw [hu, ← e]; exact hj)
    · rw [e] at hj
      have h1 := Option.some.inj hj
      have h2 := hT.size
      exact .inr (by omega)
set_option maxHeartbeats 4000000 in
set_option maxRecDepth 100000 in
theorem zappend_go (h : XR w b S X) (hsm : S.small) (k t : ByteArray) (ht : t.size ≤ 9223372036854775807) (i : Nat) (hi : i < S.files.length) (hz : zfind S.dir k = i) (hd : S.down = false) (hro : ¬ S.room < S.used S.dir.length + t.size) (htk : S.tick.1 = true) (hok : (S.files[i].more ⟨t, -1⟩).ok) :
    Calls Tryz.prog 34 #[.pointer (some ⟨b, 0, none⟩), .string k, .string t] w fun e w' => e = .returned (.int .i64 0) ∧ ∃ X', XR w' b { S.tick.2 with files := S.tick.2.files.set i (S.files[i].more ⟨t, -1⟩) } X' ∧ XStep w w' b S.files.length S.files.length X X' := by
  obtain ⟨ao, c, hdv, hf⟩ := h.find k
  obtain ⟨c0, _, c2, _, _, _, c6⟩ := h.c
  rw [hdv] at c2
  rw [hd] at c6
  have HF := hide (hf w (Below.refl _ _))
  rw [hz] at HF
  have HU := hide (fun W (hb : Below w.heap.size w W) => zused_any (h.below hb) hsm)
  have HA := hide (fun W (hb : Below w.heap.size w W) => zact_any (h.below hb))
  rw [htk] at HA
  have hu1 := used_small hsm S.dir.length
  have hnd := h.ok.nd
  have hro2 := h.ok.room
  have hub : b < w.heap.size := heap_lt h.box
  have HOK := hide hok
  have hi0 : ¬ (i : Int) < 0 := by omega
  have HHI := hide hi
  have HOK5 : Hid (∀ (hi5 : i < S.tick.2.files.length), (S.tick.2.files[i].more ⟨t, -1⟩).ok) := fun hi5 => by simp only [(tick_same S).2.1]; exact HOK.out
  generalize S.used S.dir.length = U at *
  have HK1 := hide (enters_of Tryz.func44 (by kernel_rfl) rfl)
  have hns := h.ok.nf
  clear h hsm hf hdv hz hd htk hok
  go_enter Tryz.func34, Tryz.ntmps34
  go_wp2_with fail
  refine HF.out.mono ?_
  rintro e w1 ⟨rfl, hw⟩
  obtain rfl := hw.symm
  clear hw HF
  have hUt : (U : Int) + (t.size : Int) ≤ S.room := by omega
  have hUt2 : ¬ S.room < (U : Int) + (t.size : Int) := by omega
  have hwr : IntKind.i64.wrap ((U : Int) + (t.size : Int)) = (U : Int) + (t.size : Int) := by rw [IntKind.wrap_i64]; omega
  have hgt : decide (S.room < (U : Int) + (t.size : Int)) = false := decide_eq_false hUt2
  generalize S.room = ro at *
  go_wp2_with fail
  go_region_held_law (fun w' => w'.cell? ⟨b, 0, none⟩ = some (.int .i64 ro)) (first | go_keep | exact z0) (first
    | (refine zstep_fn (by rfl) 24 (by rfl) 44 _ _ (by rfl) HK1.out [.pointer (some ⟨b, 0, none⟩)] (by rfl) (HU.out _ (by first | exact Below.refl _ _ | exact (Below.refl _ _).drew)) ?_; rintro e w4 ⟨rfl, b4⟩; refine ⟨_, rfl, ?_⟩; have B4 : Hid (Below w.heap.size w w4) := ⟨b4.os, b4.tape, b4.output, b4.size, b4.block⟩; have z0 := (B4.out.cell (p := ⟨b, 0, none⟩) hub).trans c0; clear b4))
  all_goals (
    clear HU HK1
    go_wp2_with fail
    refine (HA.out _ B4.out).mono ?_
    rintro e w5 ⟨rfl, x5, s5⟩
    have X5 := hide x5
    have S5 := hide s5
    clear x5 s5 HA
    go_wp2_with fail
    have hTf := (tick_same S).2.1
    have hi5 : i < S.tick.2.files.length := by rw [hTf]; exact HHI.out
    obtain ⟨g, cf, uo, uc, hfv, hgl, huv, _, f1⟩ := X5.out.file hi5
    obtain ⟨_, d1, _⟩ := X5.out.c
    rw [hfv] at d1
    have hou := X5.out.units i hi5
    rw [huv] at hou
    have OU := hide hou
    have hgf : w5.frozen? ⟨g, i * 2 + 1, none⟩ = false := by
      rcases X5.out.files.2 with ⟨hv, _⟩ | ⟨g', c', cur, hv, _, hh, _⟩
      · rw [hfv] at hv; cases hv
      · rw [hfv] at hv
        injection hv with e1 _ _
        injection e1 with e1
        injection e1 with e1 _ _
        subst e1
        exact box_free hh _
    have HFIN := hide (fun (W w6 : World) (a6 : Option Addr) (c6 : Nat) => X5.out.addU (W := W) (w6 := w6) (a6 := a6) (c6 := c6) hi5 ⟨t, -1⟩ (HOK5.out hi5) hfv huv)
    have HG : Hid (∀ (o : Obj) (W w6 : World), W.grownBy w6 (Value.slice uo S.tick.2.files[i].since.length uc).ownBlock → W.heap = (w5.alloc o).heap → w6.cell? ⟨b, 1, none⟩ = some (.slice (some ⟨g, 0, none⟩) S.tick.2.files.length cf) ∧ w6.cell? ⟨g, i * 2 + 1, none⟩ = some (.slice uo S.tick.2.files[i].since.length uc) ∧ w6.frozen? ⟨g, i * 2 + 1, none⟩ = false) := by
      intro o W w6 hg hW
      have hb6 := grown_at hg (by rw [hW]; exact box_alloc X5.out.box o) (by rw [← huv]; exact X5.out.ne _ (.inr (.inl ⟨i, hi5, rfl⟩)))
      have hgne : (Value.slice uo S.tick.2.files[i].since.length uc).ownBlock ≠ some g := by rw [← huv]; exact fun e => X5.out.fneq hi5 e (by rw [hfv]; rfl)
      rcases X5.out.files.2 with ⟨hv, _⟩ | ⟨g', c', cur, hv, _, hh, _⟩
      · rw [hfv] at hv; cases hv
      · rw [hfv] at hv
        injection hv with e1 _ _
        injection e1 with e1
        injection e1 with e1 _ _
        subst e1
        have hc6 := grown_at hg (by rw [hW]; exact box_alloc hh o) hgne
        have hc1 : w6.cell? ⟨g, i * 2 + 1, none⟩ = w5.cell? ⟨g, i * 2 + 1, none⟩ := by rw [Lib.cell_of_heap hc6, Lib.cell_of_heap hh]
        exact ⟨by have h7 := box_cell hb6 1 (v := X.fv) rfl; rw [hfv] at h7; exact h7, hc1.trans f1, box_free hc6 _⟩
    have q1 : ∀ o : Obj, (w5.alloc o).cell? ⟨b, 1, none⟩ = some (.slice (some ⟨g, 0, none⟩) S.tick.2.files.length cf) := fun o => by have h7 := box_cell (box_alloc X5.out.box o) 1 (v := X.fv) rfl; rw [hfv] at h7; exact h7
    have q2 : ∀ o : Obj, (w5.alloc o).cell? ⟨g, i * 2 + 1, none⟩ = some (.slice uo S.tick.2.files[i].since.length uc) := fun o => (World.cell?_of_block (a := ⟨g, i * 2 + 1, none⟩) (Below.heap_alloc w5 o g hgl)).trans f1
    have hfew := (X5.out.ok.files _ (List.getElem_mem hi5)).few
    have hi5' : (0 : Int) ≤ (i : Int) := by omega
    have hi6 : (i : Int) < (S.tick.2.files.length : Int) := by omega
    obtain ⟨i0, hi0', hz0, hz1, hz2⟩ := zinfo_parts zinfoUn
    have HTF := hide hTf
    have hfe : S.tick.2.files[i] = S.files[i]'HHI.out := by simp only [hTf]
    have HFE := hide hfe
    clear hfe
    have HS5 := hide S5.out
    have HS0 : Hid (XStep w w4 b S.files.length S.files.length X X) := XStep.same _ _ _ B4.out
    generalize hNU : S.tick.2.files[i].since.length = nu at f1 OU HFIN HG q2 hfew
    clear hou hTf hfv huv X5 S5 hNU
    generalize unCells S.tick.2.files[i].since = ucs at OU HFIN
    generalize S.tick.2.files.length = nf at d1 HG q1 hi6
    go_region_law (first
      | (refine zstep_append rfl _ _ 73 rfl 0 112 i0 _ 2 24 Tryz.underlying73 hi0' hz0 hz1 hz2 rfl (by omega) (.slice uo nu uc) nu ucs (by rfl) (by first | exact OU.out.alloc _ | exact OU.out.drew.alloc _) ⟨w5.heap.size, 0, none⟩ 1 1 [.string t, .int .i64 (-1)] (by rfl) (by rfl) (World.news_of_block (cs := #[.string t, .int .i64 (-1)]) (t := 112) (fr := (0, 0)) (by first | exact heap_alloc_new w5 _ | exact heap_alloc_new w5.drew _)) (un_ones _ _) (by unfold maxLen; omega) (by omega) (Nat.zero_le _) ?_; intro a6 c6 w6 hown6 hgrow6 hloc6; obtain ⟨y1, y2, y3⟩ := HG.out _ _ _ hgrow6 rfl))
    all_goals (
      go_wp2
      go_ret
      obtain ⟨X6, x6, s6⟩ := HFIN.out _ _ _ _ (by first | exact ((Touch.refl _ w5).alloc _).drew | exact ((Touch.refl _ w5).drew).alloc _) hgrow6 hown6 hloc6
      exact ⟨rfl, X6, by rw [HFE.out] at x6; exact x6, by rw [HTF.out] at s6; exact HS0.out.trans (HS5.out.trans s6)⟩))
end
end Go.Proofs.YtknldpaaikcedaaGreat
