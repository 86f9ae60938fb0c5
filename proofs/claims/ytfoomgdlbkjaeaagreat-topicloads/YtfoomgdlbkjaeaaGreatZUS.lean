/-
  The program's segment.Right and the document's, as they run, of the topic's records (mkue.py, out of wip/command's SR).
-/
import Derived.Test.YtfoomgdlbkjaeaaGreatZUC
import Derived.Test.YtfoomgdlbkjaeaaGreatZYCl
import Derived.Test.YtfoomgdlbkjaeaaGreatZT3
namespace Go.Proofs.YtfoomgdlbkjaeaaGreat.Y
open Go.RowKit Go.Maps
set_option maxHeartbeats 8000000
set_option maxRecDepth 100000
open Go.Sort Go.Shelf
set_option maxRecDepth 100000
attribute [local go_sem ↓] Go.wp_at_zero Go.wp_at_succ
set_option linter.unusedSimpArgs false
set_option linter.unusedVariables false
theorem ok_long {n : Int} (h0 : 0 ≤ n) (h1 : n < 18446744073709551616) : K.It.ok ⟨3, n, ⟨#[]⟩⟩ := ⟨by show (-9223372036854775808 : Int) ≤ 3; omega, by show (3 : Int) ≤ 9223372036854775807; omega, h0, h1, by show 0 ≤ _; omega⟩
theorem ok_text {s : ByteArray} (h : s.size ≤ 9223372036854775807) : K.It.ok ⟨4, 0, s⟩ := ⟨by show (-9223372036854775808 : Int) ≤ 4; omega, by show (4 : Int) ≤ 9223372036854775807; omega, by show (0 : Int) ≤ 0; omega, by show (0 : Int) < 18446744073709551616; omega, h⟩
def prodsF (D : DataW Nat) : List PU := (dnames D).map fun k => ⟨⟨k.toArray⟩, gotB (pget D k), gotA (pget D k)⟩
def dumpItems (G : TG) : List K.It := itemsHd G.name G.low G.fin (Maps.size G.D) ++ (prodsF G.D).flatMap itemsPr ++ G.recs.flatMap itemsY
def dumpF (G : TG) : ByteArray := ⟨(K.encF (dumpItems G)).1.toArray⟩
def ProdsOk (G : TG) : Prop := ∀ p ∈ prodsF G.D, p.name.size ≤ 20 ∧ 0 ≤ p.seq ∧ p.seq ≤ 9007199254740991 ∧ 0 ≤ p.off ∧ p.off < (G.fin : Int)
theorem look_one {w : World} {mb n : Nat} {D : DataW Nat} (hown : w.ownsMap Tryz.prog 9 lastR mb n D) (s : ByteArray) (hs : s.size ≤ maxLen) :
    (Instr.lookup 50 (.map (some mb)) (.string s) false).run Tryz.prog w = .ok (.agg #[.int .i64 (gotA (pget D s.data.toList)), .int .i64 (gotB (pget D s.data.toList))]) w := by
  have hk := Go.WideMaps.keyOf_string_mk (P := Tryz.prog) Tryz.underlying9 (s := s) hs
  obtain ⟨v, ps, hrun, hv⟩ := hown.lookup keyedS Tryz.underlying50 (zeroLast w) (lastR_mk 0 0) hk
  have h2 := plook hown s hs
  obtain ⟨v2, ps2, hrun2, hv2⟩ := hown.look_ok keyedS Tryz.underlying50 (zeroLast w) (lastR_mk 0 0) hk
  rw [hrun2] at h2
  injection h2 with h2 _
  injection h2 with h2
  have e2 : v2 = .agg #[.int .i64 (gotA (pget D s.data.toList)), .int .i64 (gotB (pget D s.data.toList))] := by
    have := congrArg (fun a : Array Value => a[0]?) h2
    simpa using this
  subst e2
  obtain ⟨a, b, rfl, e1⟩ := lastR_inv hv
  obtain ⟨a2, b2, e3, e4⟩ := lastR_inv hv2
  have e5 : (DataW.agg [.lit (.int .i64 a), .lit (.int .i64 b)] : DataW Nat) = .agg [.lit (.int .i64 a2), .lit (.int .i64 b2)] := (congrArg Prod.fst e1).symm.trans (congrArg Prod.fst e4)
  injection e5 with e5
  simp at e5
  obtain ⟨rfl, rfl⟩ := e5
  rw [hrun, e3]
theorem row_strs {w : World} {B : Nat} {ao : Option Addr} {cp : Nat} {l : List (List UInt8)} (h : w.ownsRow B 9 1 (.slice ao l.length cp) l.length (l.map Go.Proofs.encStr)) {i : Nat} (hi : i < l.length) : ∃ g, ao = some ⟨g, 0, none⟩ ∧ w.cell? ⟨g, 0 + i, none⟩ = some (.string ⟨l[i].toArray⟩) := by
  rcases h.2 with ⟨h1, h2⟩ | ⟨g, cap, cur, hv, hg, hh, hn, hc, hs, ht⟩
  · omega
  · injection hv with e1 _ _
    refine ⟨g, e1, ?_⟩
    rw [Nat.zero_add, Lib.cell_of_heap hh]
    have := congrArg (fun q : List Value => q[i]?) ht
    simp only [List.getElem?_take, List.getElem?_map, List.getElem?_eq_getElem hi, Option.map_some] at this
    rw [if_pos (by omega)] at this
    simpa [Go.Proofs.encStr] using this
theorem du_ret {W : World} {a : Act} {v : Vdu} {T : ByteArray} {R : Ending → World → Prop} (hF : Fdu a v) (h2 : v.v2 = .string T) (h : R (.returned (.string T)) W) :
    bodyPost Tryz.prog Tryz.f19 R .ret a W := by
  have g2 := slot_get (hF.s2.trans h2)
  refine bodyPost_ret (v := .string T) ?_ hF.defers h
  simp [results, Tryz.results19, go_sem, g2]
theorem flat_len3 (l : List PU) : (l.flatMap itemsPr).length = 3 * l.length := by
  induction l with
  | nil => rfl
  | cons p l ih => rw [List.flatMap_cons, List.length_append, ih]; simp [itemsPr]; omega
theorem flat_len5 (l : List Rec) : (l.flatMap itemsY).length = 5 * l.length := by
  induction l with
  | nil => rfl
  | cons p l ih => rw [List.flatMap_cons, List.length_append, ih]; simp [itemsY]; omega
theorem names_len (D : DataW Nat) : (dnames D).length = (strKeys D).length := List.length_mergeSort _
theorem keys_len (D : DataW Nat) (h : IsMap D) : (strKeys D).length = Maps.size D := by
  obtain ⟨es, rfl⟩ := h
  simp [strKeys, Maps.size]
theorem prods_len (D : DataW Nat) (h : IsMap D) : (prodsF D).length = Maps.size D := by
  unfold prodsF
  rw [List.length_map, names_len, keys_len D h]
theorem tdump {w : World} {L : LOC} {G : TG} {c : Nat} (h : TAt w L G) (hk : G.Ok c) (hp : ProdsOk G) : Calls Tryz.prog 19 #[.pointer (some ⟨L.b, 0, none⟩)] w fun e w' => e = .returned (.string (dumpF G)) ∧ Below w.heap.size w w' := by
  have hlen := hk.len
  have hcnt := hk.cnt
  have hbig := hk.big
  have hfin := hk.fin
  have hlow := hk.low
  have hsz := h.map.size_le
  have hpl := prods_len G.D h.map.isMap
  have hdl : (dnames G.D).length = Maps.size G.D := by rw [names_len, keys_len G.D h.map.isMap]
  go_enter Tryz.func19, Tryz.ntmps19
  refine wp_seq (reg_mono (du_r0 (by kernel_rfl) _ (v := ⟨_, _, _, _, _, _, _, _, _, _, _, _⟩) ⟨rfl, rfl, rfl, rfl, rfl, rfl, rfl, rfl, rfl, rfl, rfl, rfl, rfl, rfl⟩ ?_))
  intro a0 F0
  try dsimp only at F0
  refine wp_seq (reg_mono (du_r1 (by kernel_rfl) _ F0 rfl (theaditems h hk) ?_))
  rintro a1 w1 ho hc F1 ⟨R1, B1⟩
  try dsimp only at F1
  have T1 := h.below B1
  refine wp_seq (wp_seq (reg_mono (du_r2 (by kernel_rfl) _ F1 rfl T1.box (tkeys L.mb w1) (tsorted T1.map (by omega)) ?_)))
  rintro a2 w2 no nc F2 ⟨N2, B2⟩
  try dsimp only at F2
  have hB1 := B1.size
  have R2 := below_row B2 R1
  have BB2 := B1.trans (B2.mono hB1)
  generalize hHD : itemsHd G.name G.low G.fin (Maps.size G.D) = HD at *
  have hHl : HD.length = 4 := by rw [← hHD]; rfl
  refine wp_block (wp_loop (fun a W => ∃ (i : Nat) (v : Vdu) (LK : List K.It) (oo : Option Addr) (oc : Nat), i ≤ (dnames G.D).length ∧ Fdu a v ∧ v.v0 = .pointer (some ⟨L.b, 0, none⟩) ∧ v.v3 = .slice oo LK.length oc ∧ v.v17 = .slice no (dnames G.D).length nc ∧ v.v18 = .int .i64 ((dnames G.D).length : Int) ∧ v.v19 = .int .i64 (i : Int) ∧ LK = HD ++ ((prodsF G.D).take i).flatMap itemsPr ∧ W.ownsRow w.heap.size 83 3 (.slice oo LK.length oc) LK.length (K.itemCells LK) ∧ W.ownsRow w.heap.size 9 1 (.slice no (dnames G.D).length nc) (dnames G.D).length ((dnames G.D).map Go.Proofs.encStr) ∧ Below w.heap.size w W) (fun a _ => (dnames G.D).length - (intOf (a.tmps.getD 19 undef)).toNat) ⟨0, _, HD, ho, hc, Nat.zero_le _, F2, rfl, rfl, rfl, rfl, rfl, by simp, R2, own_base N2 hB1, BB2⟩ ?_)
  clear F0 F1 F2 R1 R2 N2 B1 B2 BB2 T1
  rintro a3 w3 ⟨i, v, LK, oo, oc, hi, F3, q0, q3, q17, q18, q19, hLK, R3, N3, B3⟩
  have hmi : (intOf (a3.tmps.getD 19 undef)).toNat = i := by rw [F3.s19, q19]; simp [intOf]
  have T3 := h.below B3
  have hLl : LK.length = 4 + 3 * i := by rw [hLK, List.length_append, flat_len3, List.length_take, hHl]; omega
  refine wp_seq (reg_mono (du_r3 (by kernel_rfl) _ F3 q19 q18 ?_))
  intro a4 F4 g4
  by_cases hil : i < (dnames G.D).length
  case pos =>
    rw [decide_eq_true hil] at g4
    refine wp_seq (wp_cond_true g4 (wp_skip ?_))
    show Code.wp _ _ _ _ _
    obtain ⟨g, hno, c0⟩ := row_strs N3 hil
    have q17' := q17
    rw [hno] at q17'
    have hpi : i < (prodsF G.D).length := by omega
    have hpe : (prodsF G.D)[i] = ⟨⟨(dnames G.D)[i].toArray⟩, gotB (pget G.D (dnames G.D)[i]), gotA (pget G.D (dnames G.D)[i])⟩ := by simp [prodsF]
    obtain ⟨z1, z2, z3, z4, z5⟩ := hp _ (List.getElem_mem hpi)
    have htk : (prodsF G.D).take (i + 1) = (prodsF G.D).take i ++ [(prodsF G.D)[i]] := List.take_succ_eq_append_getElem hpi
    rw [hpe] at z1 z2 z3 z4 z5 htk
    generalize (dnames G.D)[i] = nk at *
    dsimp only at z1 z2 z3 z4 z5
    refine wp_seq (wp_block (wp_seq (reg_mono (du_r4 (by kernel_rfl) _ F4 q17' q19 hil c0 ?_))))
    intro a5 F5
    try dsimp only at F5
    have hlk := look_one T3.map ⟨nk.toArray⟩ (by unfold maxLen; omega)
    rw [show ((⟨nk.toArray⟩ : ByteArray).data.toList) = nk by simp] at hlk
    refine reg_all (du_r5 (its := itemsPr ⟨⟨nk.toArray⟩, gotB (pget G.D nk), gotA (pget G.D nk)⟩) (by kernel_rfl) _ F5 q0 q3 rfl T3.box hlk R3 B3.size (by rw [hLl]; simp [itemsPr]; omega) (fun W hb => tproditems ⟨⟨nk.toArray⟩, gotB (pget G.D nk), gotA (pget G.D nk)⟩ z4 (by dsimp only; omega) z2 (by dsimp only; omega) W) ?_)
    intro a6 w6 oo' oc' F6 R6 t6
    try dsimp only at F6
    show Code.wp _ _ _ _ _
    refine reg_mono (du_r6 (by kernel_rfl) _ F6 q19 (by omega) ?_)
    intro a7 F7
    try dsimp only at F7
    refine ⟨⟨i + 1, _, _, oo', oc', by omega, F7, q0, rfl, q17, q18, rfl, ?_, R6, t6.row N3 (fun k hk e => ?_), B3.trans (t6.toBelow B3.size (fun k hk e => by have := (R3.lt k e).1; omega))⟩, ?_⟩
    · rw [hLK, htk, List.flatMap_append, List.append_assoc]
      simp
    · rcases R3.2 with ⟨h1, _⟩ | ⟨g2, cap2, cur2, h1, _, h3, _⟩
      · rw [h1] at e; cases e
      · rw [h1] at e
        obtain rfl : g2 = k := Option.some.inj e
        exact row_other N3 hk h3 (by decide)
    · rw [hmi, F7.s19]
      simp [intOf]
      omega
  rw [decide_eq_false hil] at g4
  refine wp_seq (wp_cond_false g4 (wp_exit ?_))
  show Code.wp _ _ _ _ _
  obtain rfl : i = (dnames G.D).length := by omega
  rw [show (prodsF G.D).take (dnames G.D).length = prodsF G.D from List.take_of_length_le (by omega)] at hLK
  refine wp_seq (wp_seq (reg_mono (du_r7 (by kernel_rfl) _ F4 q0 T3.box ?_)))
  intro a5 F5
  try dsimp only at F5
  generalize hPD : HD ++ (prodsF G.D).flatMap itemsPr = PD at *
  have hPl : PD.length ≤ 1000000 := by rw [← hLK]; omega
  refine wp_block (wp_loop (fun a W => ∃ (i : Nat) (v : Vdu) (LK : List K.It) (oo : Option Addr) (oc : Nat), i ≤ G.recs.length ∧ Fdu a v ∧ v.v3 = .slice oo LK.length oc ∧ v.v38 = .slice L.ro G.recs.length L.rc ∧ v.v39 = .int .i64 (G.recs.length : Int) ∧ v.v40 = .int .i64 (i : Int) ∧ LK = PD ++ (G.recs.take i).flatMap itemsY ∧ W.ownsRow w.heap.size 83 3 (.slice oo LK.length oc) LK.length (K.itemCells LK) ∧ Below w.heap.size w W) (fun a _ => G.recs.length - (intOf (a.tmps.getD 40 undef)).toNat) ⟨0, _, LK, oo, oc, Nat.zero_le _, F5, q3, rfl, rfl, rfl, by simp [hLK], R3, B3⟩ ?_)
  clear F3 F4 F5 q0 q3 q17 q18 q19 R3 N3 B3 T3 g4 hmi
  clear hLl hLK
  rintro a6 w6 ⟨i, v, LK, oo, oc, hi, F6, q3, q38, q39, q40, hLK, R6, B6⟩
  have hmi : (intOf (a6.tmps.getD 40 undef)).toNat = i := by rw [F6.s40, q40]; simp [intOf]
  have T6 := h.below B6
  have hLl : LK.length = PD.length + 5 * i := by rw [hLK, List.length_append, flat_len5, List.length_take]; omega
  refine wp_seq (reg_mono (du_r8 (by kernel_rfl) _ F6 q40 q39 ?_))
  intro a7 F7 g7
  by_cases hil : i < G.recs.length
  case pos =>
    rw [decide_eq_true hil] at g7
    refine wp_seq (wp_cond_true g7 (wp_skip ?_))
    show Code.wp _ _ _ _ _
    obtain ⟨_, g, off, hro, _, c0, c1, c2, c3, c4⟩ := T6.recs.five i hil
    have q38' := q38
    rw [hro] at q38'
    have htk : G.recs.take (i + 1) = G.recs.take i ++ [G.recs[i]] := List.take_succ_eq_append_getElem hil
    have hri := hk.right _ (List.getElem_mem hil)
    generalize G.recs[i] = x at *
    obtain ⟨xo, xp, xs, xk, xv⟩ := x
    obtain ⟨y1, y2, y3, y4, _⟩ := hri
    dsimp only at y1 y2 y3 y4 c0 c1 c2 c3 c4
    refine wp_seq (wp_block (wp_seq (reg_mono (du_r9 (by kernel_rfl) _ F7 q38' q40 hil c0 c1 c2 c3 c4 ?_))))
    intro a8 F8
    try dsimp only at F8
    have bA := (Below.refl w6.heap.size w6).alloc (Nat.le_refl _) (.cells #[.int .i64 xo, .string xp, .int .i64 xs, .string xk, .string xv] 39)
    have XA := heap_alloc_new w6 (.cells #[.int .i64 xo, .string xp, .int .i64 xs, .string xk, .string xv] 39)
    have RA := below_row bA R6
    have BA := B6.trans (bA.mono B6.size)
    generalize w6.alloc (.cells #[.int .i64 xo, .string xp, .int .i64 xs, .string xk, .string xv] 39) = w7 at *
    refine reg_all (du_r10 (its := itemsY ⟨xo, xp, xs, xk, xv⟩) (by kernel_rfl) _ F8 q3 rfl XA RA BA.size (by rw [hLl]; simp [itemsY]; omega) (fun W hb => trecitems ⟨xo, xp, xs, xk, xv⟩ (by dsimp only; omega) (by dsimp only; omega) y3 (by dsimp only; omega) W) ?_)
    intro a9 w9 oo' oc' F9 R9 t9
    try dsimp only at F9
    show Code.wp _ _ _ _ _
    refine reg_mono (du_r11 (by kernel_rfl) _ F9 q40 (by omega) ?_)
    intro a10 F10
    try dsimp only at F10
    refine ⟨⟨i + 1, _, _, oo', oc', by omega, F10, rfl, q38, q39, rfl, ?_, R9, BA.trans (t9.toBelow BA.size (fun k hk e => by have := (RA.lt k e).1; omega))⟩, ?_⟩
    · rw [hLK, htk, List.flatMap_append, List.append_assoc]
      simp
    · rw [hmi, F10.s40]
      simp [intOf]
      omega
  rw [decide_eq_false hil] at g7
  refine wp_seq (wp_cond_false g7 (wp_exit ?_))
  show Code.wp _ _ _ _ _
  obtain rfl : i = G.recs.length := by omega
  rw [List.take_length] at hLK
  have hDI : LK = dumpItems G := by rw [hLK, ← hPD, ← hHD]; rfl
  have hok : ∀ x ∈ LK, x.ok := by
    intro x hx
    rw [hLK, ← hPD, ← hHD] at hx
    rcases List.mem_append.1 hx with hx | hx
    · rcases List.mem_append.1 hx with hx | hx
      · have e20 := wordL_out hk.word
        have e21 := size_listC G.name
        simp only [itemsHd, List.mem_cons, List.not_mem_nil, or_false] at hx
        rcases hx with rfl | rfl | rfl | rfl
        · exact ok_text (by omega)
        · exact ok_long (by omega) (by omega)
        · exact ok_long (by omega) (by omega)
        · exact ok_long (by omega) (by omega)
      · obtain ⟨p, hp1, hp2⟩ := List.mem_flatMap.1 hx
        obtain ⟨z1, z2, z3, z4, z5⟩ := hp p hp1
        simp only [itemsPr, List.mem_cons, List.not_mem_nil, or_false] at hp2
        rcases hp2 with rfl | rfl | rfl
        · exact ok_text (by omega)
        · exact ok_long (by omega) (by omega)
        · exact ok_long (by omega) (by omega)
    · obtain ⟨r, hr1, hr2⟩ := List.mem_flatMap.1 hx
      obtain ⟨y1, y2, y3, y4, y5, y6, y7⟩ := hk.right r hr1
      simp only [itemsY, List.mem_cons, List.not_mem_nil, or_false] at hr2
      rcases hr2 with rfl | rfl | rfl | rfl | rfl
      · exact ok_long (by omega) (by omega)
      · exact ok_text (by omega)
      · exact ok_long (by omega) (by omega)
      · exact ok_text (by omega)
      · exact ok_text (by omega)
  have hE := K.encode_any oo oc LK w6 (items_of_row R6) hok (by unfold maxLen; omega)
  rw [hDI] at hE q3
  refine wp_seq (reg_mono (du_r12 (by kernel_rfl) _ F7 q3 hE ?_))
  intro a8 w8 F8 b8
  try dsimp only at F8
  refine wp_seq (reg_mono (du_r13 (by kernel_rfl) _ F8 rfl ?_))
  intro a9 F9
  exact wp_ret (du_ret (R := fun e w' => e = .returned (.string (dumpF G)) ∧ Below w.heap.size w w') F9 rfl ⟨rfl, B6.trans (b8.mono B6.size)⟩)
end Go.Proofs.YtfoomgdlbkjaeaaGreat.Y
namespace Go.Proofs.YtfoomgdlbkjaeaaGreat.Y
open Go.RowKit Go.Maps
set_option maxHeartbeats 2000000
set_option maxRecDepth 100000
def RightP (r : Rec) : Prop := 0 ≤ r.off ∧ r.off ≤ 9007199254740991 ∧ 0 ≤ r.seq ∧ r.seq ≤ 9007199254740991 ∧ r.prod.size ≤ 20 ∧ r.key.size ≤ 100 ∧ r.val.size ≤ 1000
instance (r : Rec) : Decidable (RightP r) := by unfold RightP; infer_instance
theorem RightP.of {off seq : Int} {prod key val : ByteArray} (h1 : 0 ≤ off) (h2 : off ≤ 9007199254740991) (h3 : 0 ≤ seq) (h4 : seq ≤ 9007199254740991) (h5 : (prod.size : Int) ≤ 20) (h6 : (key.size : Int) ≤ 100) (h7 : (val.size : Int) ≤ 1000) : RightP ⟨off, prod, seq, key, val⟩ := by
  unfold RightP
  simp only
  omega
theorem RightP.out {off seq : Int} {prod key val : ByteArray} (h : RightP ⟨off, prod, seq, key, val⟩) : 0 ≤ off ∧ off ≤ 9007199254740991 ∧ 0 ≤ seq ∧ seq ≤ 9007199254740991 ∧ (prod.size : Int) ≤ 20 ∧ (key.size : Int) ≤ 100 ∧ (val.size : Int) ≤ 1000 := by
  unfold RightP at h
  simp only at h
  omega
def numB (n : Int) : Bool := decide (0 ≤ n ∧ n ≤ 9007199254740991)
theorem isNumber_any (n : Int) (w : World) :
    Calls Tryz.prog 101 #[.int .i64 n] w fun e w' => e = .returned (.bool (numB n)) ∧ w' = w := by
  by_cases h1 : 0 ≤ n
  · by_cases h2 : n ≤ 9007199254740991
    · have hk : numB n = true := decide_eq_true ⟨h1, h2⟩
      rw [hk]
      clear hk
      go_enter Tryz.func101, Tryz.ntmps101
      go_wp2
      go_ret
      exact ⟨rfl, rfl⟩
    · have hk : numB n = false := decide_eq_false fun e => h2 e.2
      rw [hk]
      clear hk
      go_enter Tryz.func101, Tryz.ntmps101
      go_wp2
      go_ret
      exact ⟨rfl, rfl⟩
  · have hk : numB n = false := decide_eq_false fun e => h1 e.1
    rw [hk]
    clear hk
    go_enter Tryz.func101, Tryz.ntmps101
    go_wp2
    go_ret
    exact ⟨rfl, rfl⟩
theorem right_any (r : Rec) (hr : r.ok) (w : World) :
    Calls Tryz.prog 78 #[r.v] w fun e w' => e = .returned (.bool (decide (RightP r))) ∧ Below w.heap.size w w' := by
  obtain ⟨off, prod, seq, key, val⟩ := r
  obtain ⟨_, _, _, _, z1, z2, z3⟩ := hr
  have HA := hide (isNumber_any off)
  have HB := hide (isNumber_any seq)
  simp only [Rec.v] at *
  by_cases h1 : numB off = true
  · have h1' := of_decide_eq_true h1
    rw [h1] at HA
    by_cases h2 : numB seq = true
    · have h2' := of_decide_eq_true h2
      rw [h2] at HB
      by_cases h3 : (prod.size : Int) ≤ 20
      · by_cases h4 : (key.size : Int) ≤ 100
        · by_cases h5 : (val.size : Int) ≤ 1000
          · have hk : decide (RightP ⟨off, prod, seq, key, val⟩) = true := decide_eq_true (RightP.of h1'.1 h1'.2 h2'.1 h2'.2 h3 h4 h5)
            rw [hk]
            clear hk h1 h2 h1' h2'
            go_enter Tryz.func78, Tryz.ntmps78
            go_wp2_with fail
            refine (HA.out _).mono ?_
            rintro e w' ⟨rfl, rfl⟩
            go_wp2_with fail
            refine (HB.out _).mono ?_
            rintro e w' ⟨rfl, rfl⟩
            go_wp2
            go_ret
            exact ⟨rfl, (Below.refl _ _).alloc (Nat.le_refl _) _⟩
          · have hk : decide (RightP ⟨off, prod, seq, key, val⟩) = false := decide_eq_false fun e => h5 e.out.2.2.2.2.2.2
            rw [hk]
            clear hk h1 h2 h1' h2'
            go_enter Tryz.func78, Tryz.ntmps78
            go_wp2_with fail
            refine (HA.out _).mono ?_
            rintro e w' ⟨rfl, rfl⟩
            go_wp2_with fail
            refine (HB.out _).mono ?_
            rintro e w' ⟨rfl, rfl⟩
            go_wp2
            go_ret
            exact ⟨congrArg (fun b => Ending.returned (.bool b)) (decide_eq_false (by omega)), (Below.refl _ _).alloc (Nat.le_refl _) _⟩
        · have hk : decide (RightP ⟨off, prod, seq, key, val⟩) = false := decide_eq_false fun e => h4 e.out.2.2.2.2.2.1
          rw [hk]
          clear hk h1 h2 h1' h2'
          go_enter Tryz.func78, Tryz.ntmps78
          go_wp2_with fail
          refine (HA.out _).mono ?_
          rintro e w' ⟨rfl, rfl⟩
          go_wp2_with fail
          refine (HB.out _).mono ?_
          rintro e w' ⟨rfl, rfl⟩
          go_wp2
          go_ret
          exact ⟨rfl, (Below.refl _ _).alloc (Nat.le_refl _) _⟩
      · have hk : decide (RightP ⟨off, prod, seq, key, val⟩) = false := decide_eq_false fun e => h3 e.out.2.2.2.2.1
        rw [hk]
        clear hk h1 h2 h1' h2'
        go_enter Tryz.func78, Tryz.ntmps78
        go_wp2_with fail
        refine (HA.out _).mono ?_
        rintro e w' ⟨rfl, rfl⟩
        go_wp2_with fail
        refine (HB.out _).mono ?_
        rintro e w' ⟨rfl, rfl⟩
        go_wp2
        go_ret
        exact ⟨rfl, (Below.refl _ _).alloc (Nat.le_refl _) _⟩
    · have hk : decide (RightP ⟨off, prod, seq, key, val⟩) = false := decide_eq_false fun e => h2 (decide_eq_true ⟨e.out.2.2.1, e.out.2.2.2.1⟩)
      rw [hk]
      rw [Bool.not_eq_true] at h2
      rw [h2] at HB
      clear hk h1 h2 h1'
      go_enter Tryz.func78, Tryz.ntmps78
      go_wp2_with fail
      refine (HA.out _).mono ?_
      rintro e w' ⟨rfl, rfl⟩
      go_wp2_with fail
      refine (HB.out _).mono ?_
      rintro e w' ⟨rfl, rfl⟩
      go_wp2
      go_ret
      exact ⟨rfl, (Below.refl _ _).alloc (Nat.le_refl _) _⟩
  · have hk : decide (RightP ⟨off, prod, seq, key, val⟩) = false := decide_eq_false fun e => h1 (decide_eq_true ⟨e.out.1, e.out.2.1⟩)
    rw [hk]
    rw [Bool.not_eq_true] at h1
    rw [h1] at HA
    clear hk h1 HB
    go_enter Tryz.func78, Tryz.ntmps78
    go_wp2_with fail
    refine (HA.out _).mono ?_
    rintro e w' ⟨rfl, rfl⟩
    go_wp2
    go_ret
    exact ⟨rfl, (Below.refl _ _).alloc (Nat.le_refl _) _⟩
theorem rright_any (r : Rec) (hr : r.ok) (w : World) :
    Calls Tryz.prog 82 #[r.v] w fun e w' => e = .returned (.bool (decide (RightP r))) ∧ Below w.heap.size w w' := by
  obtain ⟨off, prod, seq, key, val⟩ := r
  obtain ⟨_, _, _, _, z1, z2, z3⟩ := hr
  simp only [Rec.v] at *
  by_cases h1 : 0 ≤ off
  · by_cases h2 : off ≤ 9007199254740991
    · by_cases h3 : 0 ≤ seq
      · by_cases h4 : seq ≤ 9007199254740991
        · by_cases h5 : (prod.size : Int) ≤ 20
          · by_cases h6 : (key.size : Int) ≤ 100
            · by_cases h7 : (val.size : Int) ≤ 1000
              · have hk : decide (RightP ⟨off, prod, seq, key, val⟩) = true := decide_eq_true (RightP.of h1 h2 h3 h4 h5 h6 h7)
                rw [hk]
                clear hk
                go_enter Tryz.func82, Tryz.ntmps82
                go_wp2
                go_ret
                exact ⟨rfl, (Below.refl _ _).alloc (Nat.le_refl _) _⟩
              · have hk : decide (RightP ⟨off, prod, seq, key, val⟩) = false := decide_eq_false fun e => h7 e.out.2.2.2.2.2.2
                rw [hk]
                clear hk
                go_enter Tryz.func82, Tryz.ntmps82
                go_wp2
                go_ret
                exact ⟨rfl, (Below.refl _ _).alloc (Nat.le_refl _) _⟩
            · have hk : decide (RightP ⟨off, prod, seq, key, val⟩) = false := decide_eq_false fun e => h6 e.out.2.2.2.2.2.1
              rw [hk]
              clear hk
              go_enter Tryz.func82, Tryz.ntmps82
              go_wp2
              go_ret
              exact ⟨rfl, (Below.refl _ _).alloc (Nat.le_refl _) _⟩
          · have hk : decide (RightP ⟨off, prod, seq, key, val⟩) = false := decide_eq_false fun e => h5 e.out.2.2.2.2.1
            rw [hk]
            clear hk
            go_enter Tryz.func82, Tryz.ntmps82
            go_wp2
            go_ret
            exact ⟨rfl, (Below.refl _ _).alloc (Nat.le_refl _) _⟩
        · have hk : decide (RightP ⟨off, prod, seq, key, val⟩) = false := decide_eq_false fun e => h4 e.out.2.2.2.1
          rw [hk]
          clear hk
          go_enter Tryz.func82, Tryz.ntmps82
          go_wp2
          go_ret
          exact ⟨rfl, (Below.refl _ _).alloc (Nat.le_refl _) _⟩
      · have hk : decide (RightP ⟨off, prod, seq, key, val⟩) = false := decide_eq_false fun e => h3 e.out.2.2.1
        rw [hk]
        clear hk
        go_enter Tryz.func82, Tryz.ntmps82
        go_wp2
        go_ret
        exact ⟨rfl, (Below.refl _ _).alloc (Nat.le_refl _) _⟩
    · have hk : decide (RightP ⟨off, prod, seq, key, val⟩) = false := decide_eq_false fun e => h2 e.out.2.1
      rw [hk]
      clear hk
      go_enter Tryz.func82, Tryz.ntmps82
      go_wp2
      go_ret
      exact ⟨rfl, (Below.refl _ _).alloc (Nat.le_refl _) _⟩
  · have hk : decide (RightP ⟨off, prod, seq, key, val⟩) = false := decide_eq_false fun e => h1 e.out.1
    rw [hk]
    clear hk
    go_enter Tryz.func82, Tryz.ntmps82
    go_wp2
    go_ret
    exact ⟨rfl, (Below.refl _ _).alloc (Nat.le_refl _) _⟩
end Go.Proofs.YtfoomgdlbkjaeaaGreat.Y
