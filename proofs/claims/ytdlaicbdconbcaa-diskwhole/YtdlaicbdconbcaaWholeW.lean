/-
  DiskWhole as it runs.
-/
import Derived.Test.YtdlaicbdconbcaaWMem
import Derived.Test.YtdlaicbdconbcaaFuseW
import Derived.Test.YtdlaicbdconbcaaWStep
namespace Go.Proofs.Ytdlaicbdconbcaa
open Go.RowKit Go.Maps Go.Sort

theorem cells_new1 (W : World) (a : Value) (t : TypeId) (n : Nat) (hn : n = W.heap.size) : ∀ (j : Nat) (u : Value), [a][j]? = some u → (W.alloc (.cells #[a] t)).cell? ((⟨n, 0, none⟩ : Addr).add j) = some u := by
  subst hn
  intro j u hj
  match j, hj with
  | 0, hj => simp at hj; subst hj; simp [Addr.add]
  | j + 1, hj => simp at hj
theorem Try.infoStr : Try.prog.info? 9 = some Try.t9 := by kernel_rfl
theorem Try.zeroStr : Try.t9.zero = some (.string ⟨#[]⟩) := by kernel_rfl
theorem Try.sizeStr : Try.t9.size = 1 := by kernel_rfl
theorem Try.bytesStr : Try.t9.bytes = 16 := by kernel_rfl
theorem WRel.lenN {w : World} {b : Nat} {G : DG} {N B : List (List UInt8)} {i : Nat} (h : WRel w b G N B i) : N.length ≤ 60 := by
  rw [← whole_names h, names_length h.rep]
  exact h.size
/-- Where the name is. -/
def AtIs (N : List (List UInt8)) (a : List UInt8) (v : Int) : Prop := (v = -1 ∧ a ∉ N) ∨ ∃ m : Nat, v = m ∧ N[m]? = some a
/-- Looked for in the first k. -/
def AtMid (N : List (List UInt8)) (a : List UInt8) (k : Nat) (v : Int) : Prop := (v = -1 ∧ a ∉ N.take k) ∨ ∃ m : Nat, v = m ∧ N[m]? = some a
theorem AtMid.next {N : List (List UInt8)} {a : List UInt8} {k : Nat} {v : Int} (h : AtMid N a k v) (hk : k < N.length) (hne : N[k] ≠ a) : AtMid N a (k + 1) v := by
  rcases h with ⟨h1, h2⟩ | h
  · refine .inl ⟨h1, fun e => ?_⟩
    rw [List.take_succ_eq_append_getElem hk, List.mem_append, List.mem_singleton] at e
    rcases e with e | e
    · exact h2 e
    · exact hne e.symm
  · exact .inr h
theorem AtMid.end {N : List (List UInt8)} {a : List UInt8} {k : Nat} {v : Int} (h : AtMid N a k v) (hk : N.length ≤ k) : AtIs N a v := by
  rcases h with ⟨h1, h2⟩ | h
  · exact .inl ⟨h1, by rw [List.take_of_length_le hk] at h2; exact h2⟩
  · exact .inr h
structure WAll (w wv : World) (b : Nat) (G : DG) (N B : List (List UInt8)) (no : Option Addr) (nc : Nat) (bo : Option Addr) (bc : Nat) (i : Nat) : Prop where
  mem : WMem w wv b G N B no nc bo bc
  rel : WRel wv b G N B i
theorem WAll.past {w wv w2 : World} {b : Nat} {G : DG} {N B : List (List UInt8)} {no bo : Option Addr} {nc bc i : Nat} (h : WAll w wv b G N B no nc bo bc i) (hb : RowKit.Below wv.heap.size wv w2) : WAll w w2 b G N B no nc bo bc i :=
  ⟨h.mem.past hb, h.rel.move (h.mem.past hb).rep⟩

set_option maxRecDepth 100000 in
set_option maxHeartbeats 20000000 in
theorem whole_walk (ao : Option Addr) (cp : Nat) (l : List Dd) (w : World) (hcm : Deeds w ao l) :
    Calls Try.prog 5 #[.slice ao l.length cp] w fun e w' => e = .returned (.bool true) ∧ RowKit.Below w.heap.size w w' := by
  have HE := hide (examples_any w)
  have HCM := hide hcm
  have hlen := hcm.len
  clear hcm
  go_enter Try.func5, Try.ntmps5
  go_wp2_with fail
  refine HE.out.mono ?_
  rintro e w0 ⟨rfl, be⟩
  have BE := hide be
  have HNew := hide (new_ok 1000000000 w0 (by omega) 1000 (by omega))
  clear be HE
  go_wp2_with fail
  refine HNew.out.mono ?_
  rintro e w1 ⟨b, G0, rfl, r0, fr, ow, b0⟩
  have B0 : Hid (RowKit.Below w.heap.size w w1) := BE.out.trans (b0.mono BE.out.size)
  have OW : Hid (∀ j, G0.own j → w.heap.size ≤ j) := fun j e => Nat.le_trans BE.out.size (ow j e)
  obtain ⟨i0, k0⟩ := fr.is
  have R0 := hide r0
  have I0 := hide i0
  clear b0 ow fr HNew BE r0 i0 k0
  go_wp2
  go_loopw [6, 7, 8] (fun nv bv iv wv => ∃ (i : Nat) (N B : List (List UInt8)) (G : DG) (no : Option Addr) (nc : Nat) (bo : Option Addr) (bc : Nat), nv = .slice no N.length nc ∧ bv = .slice bo B.length bc ∧ iv = .int .i64 i ∧ i ≤ 60 ∧ Hid (WAll w wv b G N B no nc bo bc i)) (fun _ _ iv _ => 60 - (intOf iv).toNat)
  case atStart => exact ⟨0, [], [], G0, none, 0, none, 0, rfl, rfl, rfl, Nat.zero_le _, WMem.start R0.out B0.out OW.out (World.ownsRow_nil w1 _ _ _), R0.out, rfl, List.nodup_nil, fun j x y h => by simp at h, fun k _ => cont_nil (by rw [I0.out.D]; rfl), by rw [I0.out.D]; exact inj_empty, I0.out.down, I0.out.fuse, I0.out.room, I0.out.q, by rw [I0.out.n]; omega, by omega⟩
  case round =>
    obtain ⟨i, N, B, G, no, nc, bo, bc, rfl, rfl, rfl, hi, HI⟩ := hrel
    by_cases hlt : i < l.length ∧ i < 60
    · obtain ⟨hl1, hl2⟩ := hlt
      have hi0 : (0 : Int) ≤ (i : Int) := by omega
      have hi1 : (i : Int) < (l.length : Int) := by omega
      have hi2 : (i : Int) < 60 := by omega
      have hok := HCM.out.ok l[i] (List.getElem_mem hl1)
      have hbs := hok.b
      unfold maxLen at hbs
      have HOK := hide hok
      have hN := HI.out.rel.lenN
      obtain ⟨kb, off, rfl, hkb, d0, d1, d2, d3, d4⟩ := HCM.out.all.below HI.out.mem.below i hl1
      clear hok
      generalize l[i] = o at *
      have hc := cut_small o.b
      generalize hcc : o.b.extract 0 (min (o.b.size : Int) 1000).toNat = c at hc
      have HC := hide hcc
      clear hcc
      go_upto_region 12 with fail
      rw [HC.out]
      clear d0 d1 d2 d3 d4 HC
      have hb1 : RowKit.Below wr.heap.size wr (wr.alloc (Obj.cells #[.int .i64 o.kind, .string o.a, .string c, .int .i64 o.n, .slice o.ko o.kl o.kc] 41)) := (Below.refl _ wr).alloc (Nat.le_refl _) _
      have p0 := heap_alloc_new wr (Obj.cells #[.int .i64 o.kind, .string o.a, .string c, .int .i64 o.n, .slice o.ko o.kl o.kc] 41)
      have F1 := hide (HI.out.past hb1)
      have NO : Hid (G.role wr.heap.size = (0, 0) ∧ no.map Addr.block ≠ some wr.heap.size ∧ bo.map Addr.block ≠ some wr.heap.size) := ⟨fresh_role HI.out.mem.rep _ (Nat.le_refl _), fun e => by have := (str_row_lt HI.out.mem.rn _ e).2; omega, fun e => by have := (str_row_lt HI.out.mem.rb _ e).2; omega⟩
      generalize wr.alloc (Obj.cells #[.int .i64 o.kind, .string o.a, .string c, .int .i64 o.n, .slice o.ko o.kl o.kc] 41) = W1 at *
      generalize wr.heap.size = ob at *
      have P0 := hide p0
      have c1 : W1.cell? ⟨ob, 1, none⟩ = some (.string o.a) := box_cell p0 1 rfl
      clear hb1 p0 hbs HI
      go_wp2
      go_loopw [10, 11] (fun av kv wv => ∃ (k n : Nat) (v : Int), av = .int .i64 v ∧ kv = .int .i64 k ∧ k ≤ N.length ∧ Hid (AtMid N o.a.data.toList k v) ∧ wv = W1.drewN n) (fun _ kv _ => N.length - (intOf kv).toNat)
      case atStart => exact ⟨0, 0, -1, rfl, rfl, Nat.zero_le _, .inl ⟨rfl, by simp⟩, rfl⟩
      case round =>
        obtain ⟨k, n, v, rfl, rfl, hk, HM, rfl⟩ := hrel
        by_cases hks : k < N.length
        · obtain ⟨g, rfl, r0⟩ := F1.out.mem.textsN k hks
          have hk0 : (0 : Int) ≤ (k : Int) := by omega
          have hk1 : (k : Int) < (N.length : Int) := by omega
          by_cases heq : N[k] = o.a.data.toList
          · have HEQ : Hid (N[k]? = some o.a.data.toList) := by show N[k]? = _; rw [List.getElem?_eq_getElem hks, heq]
            rw [heq, show (⟨o.a.data.toList.toArray⟩ : ByteArray) = o.a by simp] at r0
            clear heq
            go_wp2
            go_quiet (fail)
            go_wp2
            go_roundw
            case rel => exact ⟨k + 1, n + nq, k, rfl, by go_num, by omega, .inr ⟨k, rfl, HEQ.out⟩, by first | rfl | exact World.drewN_drewN⟩
            case measure => simp [intOf]; omega
          · have HNE := hide heq
            have hne : ((⟨N[k].toArray⟩ : ByteArray).toList == o.a.toList) = false := by rw [ByteArray.toList_mk, ByteArray.toList_eq]; simpa using heq
            generalize (⟨N[k].toArray⟩ : ByteArray) = nm at r0 hne
            clear heq
            go_wp2
            go_quiet (fail)
            go_wp2
            go_roundw
            case rel => exact ⟨k + 1, n + nq, v, rfl, by go_num, by omega, HM.out.next hks HNE.out, by first | rfl | exact World.drewN_drewN⟩
            case measure => simp [intOf]; omega
        · have hk1 : ¬ (k : Int) < (N.length : Int) := by omega
          have AT := hide (HM.out.end (by omega))
          have hbn : RowKit.Below W1.heap.size W1 (W1.drewN n) := below_drewN (Below.refl _ W1) n
          have F2 := hide (F1.out.past hbn)
          have p1 : (W1.drewN n).heap[ob]? = _ := P0.out
          have HP := hide (pick_any o.kind 7 (W1.drewN n) HOK.out.kind (by omega))
          have hz := pickZ_range o.kind 7 (by omega)
          generalize pickZ o.kind 7 = p at HP hz
          generalize W1.drewN n = W2 at *
          have c0 : W2.cell? ⟨ob, 0, none⟩ = some (.int .i64 o.kind) := box_cell p1 0 rfl
          have c1 : W2.cell? ⟨ob, 1, none⟩ = some (.string o.a) := box_cell p1 1 rfl
          have c2 : W2.cell? ⟨ob, 2, none⟩ = some (.string c) := box_cell p1 2 rfl
          have c3 : W2.cell? ⟨ob, 3, none⟩ = some (.int .i64 o.n) := box_cell p1 3 rfl
          clear hbn P0 HM p1
          go_wp2_with fail
          refine HP.out.mono ?_
          rintro e wp ⟨rfl, hw⟩
          obtain rfl := hw.symm
          clear HP hw
          obtain rfl | rfl | rfl | rfl | rfl | hp56 : p = 0 ∨ p = 1 ∨ p = 2 ∨ p = 3 ∨ p = 4 ∨ (p = 5 ∨ p = 6) := by omega
          · as_aux_lemma =>
              have HX := hide (create_sum F2.out.mem.rep (by have := F2.out.rel.n; omega) o.a HOK.out.a)
              go_wp2_with fail
              refine HX.out.mono ?_
              rintro e w3 ⟨er, G', rfl, st, rs⟩
              have M3 := hide (F2.out.mem.step st)
              have c1' : w3.cell? ⟨ob, 1, none⟩ = some (.string o.a) := st.touch.cell ⟨ob, 1, none⟩ c1 fun e => e NO.out.1
              have wc := whole_create F2.out.rel hl2 o.a st rs
              clear st rs HX c0 c1 c2 c3
              obtain ⟨rfl, hni, hnm, r3⟩ | ⟨her, hno, r3⟩ := wc
              · have hnm2 := (isName_iff o.a).1 hnm
                have hs1 : (1 : Int) ≤ (o.a.size : Int) := by omega
                have hs2 : (o.a.size : Int) ≤ 40 := by omega
                have hat : v = -1 := by
                  rcases AT.out with ⟨e, _⟩ | ⟨m, _, hm⟩
                  · exact e
                  · exact absurd (List.mem_of_getElem? hm) hni
                subst hat
                have R3 := hide r3
                have hBl : B.length ≤ 60 := by rw [← F2.out.rel.len]; exact hN
                clear hni hnm hnm2 r3
                go_wp2_with (at_builtin; refine wpList_append_own_at _ rfl _ _ 39 rfl w.heap.size 9 Try.t9 (.string ⟨#[]⟩) 1 16 Try.underlying39 ?hi ?hz ?hs ?hby rfl (by decide) _ _ _ rfl (M3.out.rn.alloc _) ⟨_, 0, none⟩ 1 1 [.string o.a] rfl rfl ?hnews ?h1 ?h63 ?hb47 ?hbase ?_)
                case hi => exact Try.infoStr
                case hz => exact Try.zeroStr
                case hs => exact Try.sizeStr
                case hby => exact Try.bytesStr
                case hnews => exact cells_new1 _ _ _ _ rfl
                case h1 =>
                  intro u hu
                  simp at hu
                  subst hu
                  rfl
                case h63 => unfold maxLen; omega
                case hb47 => omega
                case hbase => have := M3.out.below.size; simp; omega
                intro v' w4 hown hgrow _ hlies
                obtain ⟨no', nc', rfl⟩ := row_slice hown
                have t4 : Touch (fun j => no.map Addr.block = some j) w3 w4 := ((Touch.refl _ w3).alloc _).grown hgrow fun j e _ => by rw [sliceBlock] at e; exact e
                have M4 : Hid (WMem w w4 b G' (N ++ [o.a.data.toList]) B no' nc' bo bc) := M3.out.names t4 (fun j e => e) (by
                  have e1 : (N ++ [o.a.data.toList]).map encStr = N.map encStr ++ [.string o.a] := by simp [encStr]
                  have e2 : (N ++ [o.a.data.toList]).length = N.length + 1 := by simp
                  rw [e1, e2]
                  exact hown) (by
                  rw [sliceBlock, sliceBlock] at hlies
                  rcases hlies with e | e
                  · exact .inl e
                  · exact .inr ⟨_, e, by simp⟩)
                have c1 : w4.cell? ⟨ob, 1, none⟩ = some (.string o.a) := t4.cell ⟨ob, 1, none⟩ c1' fun e => NO.out.2.1 e
                clear hown hgrow hlies t4 c1' M3
                go_wp2_with (at_builtin; refine wpList_append_own_at _ rfl _ _ 39 rfl w.heap.size 9 Try.t9 (.string ⟨#[]⟩) 1 16 Try.underlying39 ?hi ?hz ?hs ?hby rfl (by decide) _ _ _ rfl (M4.out.rb.alloc _) ⟨_, 0, none⟩ 1 1 [.string ⟨#[]⟩] rfl rfl ?hnews ?h1 ?h63 ?hb47 ?hbase ?_)
                case hi => exact Try.infoStr
                case hz => exact Try.zeroStr
                case hs => exact Try.sizeStr
                case hby => exact Try.bytesStr
                case hnews => exact cells_new1 _ _ _ _ rfl
                case h1 =>
                  intro u hu
                  simp at hu
                  subst hu
                  rfl
                case h63 => unfold maxLen; omega
                case hb47 => omega
                case hbase => have := M4.out.below.size; simp; omega
                intro v' w5 hown hgrow _ hlies
                obtain ⟨bo', bc', rfl⟩ := row_slice hown
                have t5 : Touch (fun j => bo.map Addr.block = some j) w4 w5 := ((Touch.refl _ w4).alloc _).grown hgrow fun j e _ => by rw [sliceBlock] at e; exact e
                have M5 : Hid (WMem w w5 b G' (N ++ [o.a.data.toList]) (B ++ [[]]) no' nc' bo' bc') := M4.out.bytes t5 (fun j e => e) (by
                  have e1 : (B ++ [[]]).map encStr = B.map encStr ++ [.string ⟨#[]⟩] := by simp [encStr]
                  have e2 : (B ++ [[]]).length = B.length + 1 := by simp
                  rw [e1, e2]
                  exact hown) (by
                  rw [sliceBlock, sliceBlock] at hlies
                  rcases hlies with e | e
                  · exact .inl e
                  · exact .inr ⟨_, e, by simp⟩)
                have c1' : w5.cell? ⟨ob, 1, none⟩ = some (.string o.a) := t5.cell ⟨ob, 1, none⟩ c1 fun e => NO.out.2.2 e
                clear hown hgrow hlies t5 c1 M4
                go_wp2
                go_roundw
                case rel => exact ⟨i + 1, N ++ [o.a.data.toList], B ++ [[]], G', no', nc', bo', bc', by simp, by simp, by go_num, by omega, M5.out, R3.out.move M5.out.rep⟩
                case measure => simp [intOf]; omega
              · have F3 := hide (WAll.mk M3.out r3)
                have hao := HOK.out.a
                unfold maxLen at hao
                rcases AT.out with ⟨rfl, hni⟩ | ⟨m, rfl, hm⟩
                · have hnm : isName o.a = false := by
                    cases h : isName o.a with
                    | false => rfl
                    | true => exact absurd ⟨hni, h⟩ hno
                  by_cases hs0 : 1 ≤ o.a.size
                  · have hs1 : ¬ (o.a.size : Int) ≤ 40 := fun e => by
                      have := (isName_iff o.a).2 ⟨hs0, by omega⟩
                      rw [hnm] at this
                      cases this
                    have hs2 : (1 : Int) ≤ (o.a.size : Int) := by omega
                    clear r3 hno hnm hs0
                    go_wp2
                    go_roundw
                    case rel => exact ⟨i + 1, N, B, G', no, nc, bo, bc, rfl, rfl, by go_num, by omega, F3.out⟩
                    case measure => simp [intOf]; omega
                  · have hs2 : ¬ (1 : Int) ≤ (o.a.size : Int) := by omega
                    clear r3 hno hnm hs0
                    go_wp2
                    go_roundw
                    case rel => exact ⟨i + 1, N, B, G', no, nc, bo, bc, rfl, rfl, by go_num, by omega, F3.out⟩
                    case measure => simp [intOf]; omega
                · have hm0 : ¬ ((m : Nat) : Int) < 0 := by omega
                  clear r3 hno
                  go_wp2
                  go_roundw
                  case rel => exact ⟨i + 1, N, B, G', no, nc, bo, bc, rfl, rfl, by go_num, by omega, F3.out⟩
                  case measure => simp [intOf]; omega
          · as_aux_lemma =>
              have HX := hide (append_sum F2.out.mem.rep (by have := F2.out.rel.n; omega) o.a c HOK.out.a (by unfold maxLen; omega) (.inl (by rw [F2.out.rel.q]; exact hc)))
              go_wp2_with fail
              refine HX.out.mono ?_
              rintro e w3 ⟨er, G', rfl, st, rs⟩
              have M3 := hide (F2.out.mem.step st)
              have c2' : w3.cell? ⟨ob, 2, none⟩ = some (.string c) := st.touch.cell ⟨ob, 2, none⟩ c2 fun e => e NO.out.1
              have wc := whole_append F2.out.rel hl2 o.a c hc st rs
              clear st rs HX c0 c1 c2 c3
              obtain ⟨⟨rfl, hr⟩, hmem⟩ | ⟨her, hni, r3⟩ := wc
              · obtain ⟨m, rfl, hm⟩ : ∃ m : Nat, v = m ∧ N[m]? = some o.a.data.toList := by
                  rcases AT.out with ⟨_, hni⟩ | h
                  · exact absurd hmem hni
                  · exact h
                have hmN : m < N.length := (List.getElem?_eq_some_iff.1 hm).1
                have hmB : m < B.length := by rw [← F2.out.rel.len]; exact hmN
                have R3 := hide (hr m B[m] hm (List.getElem?_eq_getElem hmB))
                obtain ⟨g, rfl, r0⟩ := M3.out.textsB m hmB
                have f0 := (row_cell M3.out.rb m (encStr B[m]) (by rw [List.getElem?_map, List.getElem?_eq_getElem hmB]; rfl)).2
                have M4 := hide (M3.out.put (m := m) (g := g) (B[m] ++ c.data.toList) rfl)
                have e9 : encStr (B[m] ++ c.data.toList) = .string ((⟨B[m].toArray⟩ : ByteArray) ++ c) := by rw [cat_str]
                rw [e9] at M4
                have hm0 : (0 : Int) ≤ (m : Int) := by omega
                have hm1 : (m : Int) < (B.length : Int) := by omega
                have hm2 : ¬ (m : Int) < 0 := by omega
                have hsh := F2.out.rel.short hm (List.getElem?_eq_getElem hmB)
                have hYs : (⟨B[m].toArray⟩ : ByteArray).size = B[m].length := by show B[m].toArray.size = _; rw [List.size_toArray]
                rw [← hYs] at hsh
                clear hr hmem e9 hm hYs
                generalize (⟨B[m].toArray⟩ : ByteArray) = Y at r0 M4 hsh
                have hrb : ¬ 9223372036854775807 < Y.size + c.size := by omega
                go_upto_region 35 with fail
                go_region
                go_wp2
                go_roundw
                case rel => exact ⟨i + 1, N, B.set m (B[m] ++ c.data.toList), G', no, nc, some ⟨g, 0, none⟩, bc, rfl, by rw [List.length_set], by go_num, by omega, WAll.past ⟨M4.out, R3.out.move M4.out.rep⟩ (by first | exact below_drewN (Below.refl _ _) 1 | exact Below.refl _ _)⟩
                case measure => simp [intOf]; omega
              · have hat : v = -1 := by
                  rcases AT.out with ⟨e, _⟩ | ⟨m, _, hm⟩
                  · exact e
                  · exact absurd (List.mem_of_getElem? hm) hni
                subst hat
                have F3 := hide (WAll.mk M3.out r3)
                clear r3 hni
                go_wp2
                go_roundw
                case rel => exact ⟨i + 1, N, B, G', no, nc, bo, bc, rfl, rfl, by go_num, by omega, F3.out⟩
                case measure => simp [intOf]; omega
          · as_aux_lemma =>
              have HX := hide (sync_sum F2.out.mem.rep (by have := F2.out.rel.n; omega) o.a HOK.out.a)
              go_wp2_with fail
              refine HX.out.mono ?_
              rintro e w3 ⟨er, G', rfl, st, rs⟩
              have F3 := hide (WAll.mk (F2.out.mem.step st) (whole_sync F2.out.rel hl2 o.a st rs))
              clear st rs HX
              go_wp2
              go_roundw
              case rel => exact ⟨i + 1, N, B, G', no, nc, bo, bc, rfl, rfl, by go_num, by omega, F3.out⟩
              case measure => simp [intOf]; omega
          · as_aux_lemma =>
              have HX := hide (dirsync_sum F2.out.mem.rep (by have := F2.out.rel.n; omega))
              go_wp2_with fail
              refine HX.out.mono ?_
              rintro e w3 ⟨er, G', rfl, st, rs⟩
              have F3 := hide (WAll.mk (F2.out.mem.step st) (whole_dirsync F2.out.rel hl2 st rs))
              clear st rs HX
              go_wp2
              go_roundw
              case rel => exact ⟨i + 1, N, B, G', no, nc, bo, bc, rfl, rfl, by go_num, by omega, F3.out⟩
              case measure => simp [intOf]; omega
          · as_aux_lemma =>
              have HX := hide (truncate_sum F2.out.mem.rep (by have := F2.out.rel.n; omega) o.a o.n HOK.out.a (by rw [F2.out.rel.q]; omega))
              go_wp2_with fail
              refine HX.out.mono ?_
              rintro e w3 ⟨er, G', rfl, st, rs⟩
              have M3 := hide (F2.out.mem.step st)
              have c3' : w3.cell? ⟨ob, 3, none⟩ = some (.int .i64 o.n) := st.touch.cell ⟨ob, 3, none⟩ c3 fun e => e NO.out.1
              have wc := whole_truncate F2.out.rel hl2 o.a o.n st rs
              clear st rs HX c0 c1 c2 c3
              obtain ⟨rfl, hmem, hr⟩ | ⟨her, r3⟩ := wc
              · obtain ⟨m, rfl, hm⟩ : ∃ m : Nat, v = m ∧ N[m]? = some o.a.data.toList := by
                  rcases AT.out with ⟨_, hni⟩ | h
                  · exact absurd hmem hni
                  · exact h
                have hmN : m < N.length := (List.getElem?_eq_some_iff.1 hm).1
                have hmB : m < B.length := by rw [← F2.out.rel.len]; exact hmN
                obtain ⟨hn0, hn1, r3⟩ := hr m B[m] hm (List.getElem?_eq_getElem hmB)
                have R3 := hide r3
                obtain ⟨g, rfl, r0⟩ := M3.out.textsB m hmB
                have f0 := (row_cell M3.out.rb m (encStr B[m]) (by rw [List.getElem?_map, List.getElem?_eq_getElem hmB]; rfl)).2
                obtain ⟨tn, htn⟩ : ∃ tn : Nat, o.n = tn := ⟨o.n.toNat, by omega⟩
                have M4 := hide (M3.out.put (m := m) (g := g) (B[m].take tn) rfl)
                have e9 : encStr (B[m].take tn) = .string ((⟨B[m].toArray⟩ : ByteArray).extract 0 tn) := by rw [take_str]
                rw [e9] at M4
                have hYs : (⟨B[m].toArray⟩ : ByteArray).size = B[m].length := by show B[m].toArray.size = _; rw [List.size_toArray]
                rw [htn] at R3 c3' hn1
                rw [show ((tn : Int).toNat) = tn by omega] at R3
                rw [← hYs] at hn1
                have hm0 : (0 : Int) ≤ (m : Int) := by omega
                have hm1 : (m : Int) < (B.length : Int) := by omega
                have hm2 : ¬ (m : Int) < 0 := by omega
                have hm3 : decide ((m : Int) < 0) = false := decide_eq_false hm2
                have hn2 : ¬ (tn : Int) < 0 := by omega
                have hn3 : decide ((tn : Int) < 0) = false := decide_eq_false hn2
                clear hr hmem e9 hm r3 hYs htn hn0
                generalize (⟨B[m].toArray⟩ : ByteArray) = Y at r0 M4 hn1
                have hn4 : ¬ (Y.size : Int) < (tn : Int) := by omega
                have hn5 : decide ((Y.size : Int) < (tn : Int)) = false := decide_eq_false hn4
                go_upto_region 42 with fail
                go_region
                go_wp2_with fail
                go_region
                go_wp2
                go_roundw
                case rel => exact ⟨i + 1, N, B.set m (B[m].take tn), G', no, nc, some ⟨g, 0, none⟩, bc, rfl, by rw [List.length_set], by go_num, by omega, WAll.past ⟨M4.out, R3.out.move M4.out.rep⟩ (by first | exact below_drewN (Below.refl _ _) 2 | exact below_drewN (Below.refl _ _) 1 | exact Below.refl _ _)⟩
                case measure => simp [intOf]; omega
              · have F3 := hide (WAll.mk M3.out r3)
                clear r3
                go_wp2
                go_roundw
                case rel => exact ⟨i + 1, N, B, G', no, nc, bo, bc, rfl, rfl, by go_num, by omega, F3.out⟩
                case measure => simp [intOf]; omega
          · have HX := hide (remove_sum F2.out.mem.rep (by have := F2.out.rel.n; omega) o.a HOK.out.a)
            have hp0 : p ≠ 0 := by omega
            have hp1 : p ≠ 1 := by omega
            have hp2 : p ≠ 2 := by omega
            have hp3 : p ≠ 3 := by omega
            have hp4 : p ≠ 4 := by omega
            clear hp56
            go_wp2_with fail
            refine HX.out.mono ?_
            rintro e w3 ⟨er, G', rfl, st, rs⟩
            have M3 := hide (F2.out.mem.step st)
            have wc := whole_remove F2.out.rel hl2 o.a st rs
            clear st rs HX c0 c1 c2 c3
            obtain ⟨rfl, hmem, hr⟩ | ⟨her, hni, r3⟩ := wc
            · obtain ⟨m, rfl, hm⟩ : ∃ m : Nat, v = m ∧ N[m]? = some o.a.data.toList := by
                rcases AT.out with ⟨_, hni⟩ | h
                · exact absurd hmem hni
                · exact h
              have hmN : m < N.length := (List.getElem?_eq_some_iff.1 hm).1
              have hlen2 : N.length = B.length := F2.out.rel.len
              have hmB : m < B.length := by omega
              have hBl : B.length ≤ 60 := by omega
              clear hlen2
              have R3 := hide (hr m hm)
              obtain ⟨gN, rfl, hcN, hcN9, cellN⟩ := row_form M3.out.rn (by omega)
              obtain ⟨gB, rfl, hcB, hcB9, _⟩ := row_form M3.out.rb (by omega)
              obtain ⟨AN, hAN, hAN2⟩ := tail_at (k := m) cellN (by rw [List.length_map]; exact hcN)
              have HAN2 := hide hAN2
              have HN1 := hide (head_at (k := m) cellN)
              have hl1 := hide (show ((N.map encStr).take m).length = m * 1 by rw [List.length_take, List.length_map]; omega)
              have hl2 := hide (show ((N.map encStr).drop (m + 1)).length = (N.length - (m + 1)) * 1 by rw [List.length_drop, List.length_map]; omega)
              have hl3 := hide (show ((B.map encStr).take m).length = m * 1 by rw [List.length_take, List.length_map]; omega)
              have hl4 := hide (show ((B.map encStr).drop (m + 1)).length = (B.length - (m + 1)) * 1 by rw [List.length_drop, List.length_map]; omega)
              have hbw : w.heap.size ≤ w3.heap.size := M3.out.below.size
              have hm0 : (0 : Int) ≤ (m : Int) := by omega
              have hm2 : ¬ (m : Int) < 0 := by omega
              have hs1 : (0 : Int) ≤ (m : Int) + 1 := by omega
              have hs2 : (m : Int) + 1 ≤ (N.length : Int) := by omega
              have hs3 : (N.length : Int) ≤ (nc : Int) := by omega
              have hs4 : ((m : Int) + 1).toNat = m + 1 := by omega
              have hs5 : (m : Int) ≤ (nc : Int) := by omega
              have hs6 : IntKind.i64.wrap ((m : Int) + 1) = (m : Int) + 1 := by rw [IntKind.wrap_i64]; omega
              have hs7 : ¬ ((m : Int) + 1 < 0) := by omega
              have hs8 : ¬ ((N.length : Int) < (m : Int) + 1) := by omega
              have hs9 : m ≤ nc := by omega
              have hs10 : m + 1 ≤ nc := by omega
              have hs11 : m + 1 ≤ N.length := by omega
              have hs12 : (nc : Int) ≤ 9223372036854775807 := by omega
              clear hr hmem hm cellN hAN2
              go_upto_region 22 with fail
              go_region_held_law (fun _ => True) (trivial) (first
                | (refine step_append_at rfl (.const (.slice none 0 0)) _ 39 rfl w.heap.size 9 Try.t9 (.string ⟨#[]⟩) 1 16 Try.underlying39 Try.infoStr Try.zeroStr Try.sizeStr Try.bytesStr rfl (by omega) (.slice none 0 0) 0 [] rfl (World.ownsRow_nil _ _ _ _) ⟨gN, 0, none⟩ m nc ((N.map encStr).take m) ?hx hl1.out HN1.out (one_take _ _) (by unfold maxLen; omega) (by omega) hbw ?_; (case hx => simp [Act.eval]); intro a5 c5 w5 hown5 hgrow5 hloc5)
                | (refine step_append_at rfl _ _ 39 rfl w.heap.size 9 Try.t9 (.string ⟨#[]⟩) 1 16 Try.underlying39 Try.infoStr Try.zeroStr Try.sizeStr Try.bytesStr rfl (by omega) (.slice a5 (0 + m) c5) (0 + m) ([] ++ (N.map encStr).take m) ?hs hown5 AN (N.length - (m + 1)) (nc - (m + 1)) ((N.map encStr).drop (m + 1)) ?hx hl2.out (HAN2.out _ hgrow5) (one_drop _ _) (by unfold maxLen; omega) (by omega) (Nat.le_trans hbw hgrow5.size) ?_; (case hs => simp [Act.eval, Act.put]); (case hx => simp [Act.eval, Act.put]); intro a6 c6 w6 hown6 hgrow6 hloc6))
              all_goals (
                obtain ⟨T6, L6⟩ := gone_touch hgrow5 hloc5 hgrow6 hloc6
                have M4 := hide (M3.out.namesNew T6 (gone_row hmN hown6 (by omega)) L6)
                obtain ⟨_, hgB, _, _, cellB⟩ := row_form M4.out.rb (by omega)
                cases hgB
                obtain ⟨AB, hAB, hAB2⟩ := tail_at (k := m) cellB (by rw [List.length_map]; exact hcB)
                have HAB2 := hide hAB2
                have HB1 := hide (head_at (k := m) cellB)
                have hbw6 : w.heap.size ≤ w6.heap.size := M4.out.below.size
                have ht2 : (m : Int) + 1 ≤ (B.length : Int) := by omega
                have ht3 : (B.length : Int) ≤ (bc : Int) := by omega
                have ht5 : (m : Int) ≤ (bc : Int) := by omega
                have ht8 : ¬ ((B.length : Int) < (m : Int) + 1) := by omega
                have ht9 : m ≤ bc := by omega
                have ht10 : m + 1 ≤ bc := by omega
                have ht11 : m + 1 ≤ B.length := by omega
                have ht12 : (bc : Int) ≤ 9223372036854775807 := by omega
                clear cellB hAB2 T6 L6 hown6 hgrow6 hloc6 hown5 hgrow5 hloc5
                go_upto_region 23 with fail
                go_region_held_law (fun _ => True) (trivial) (first
                | (refine step_append_at rfl (.const (.slice none 0 0)) _ 39 rfl w.heap.size 9 Try.t9 (.string ⟨#[]⟩) 1 16 Try.underlying39 Try.infoStr Try.zeroStr Try.sizeStr Try.bytesStr rfl (by omega) (.slice none 0 0) 0 [] rfl (World.ownsRow_nil _ _ _ _) ⟨gB, 0, none⟩ m bc ((B.map encStr).take m) ?hx hl3.out HB1.out (one_take _ _) (by unfold maxLen; omega) (by omega) hbw6 ?_; (case hx => simp [Act.eval]); intro a7 c7 w7 hown7 hgrow7 hloc7)
                | (refine step_append_at rfl _ _ 39 rfl w.heap.size 9 Try.t9 (.string ⟨#[]⟩) 1 16 Try.underlying39 Try.infoStr Try.zeroStr Try.sizeStr Try.bytesStr rfl (by omega) (.slice a7 (0 + m) c7) (0 + m) ([] ++ (B.map encStr).take m) ?hs hown7 AB (B.length - (m + 1)) (bc - (m + 1)) ((B.map encStr).drop (m + 1)) ?hx hl4.out (HAB2.out _ hgrow7) (one_drop _ _) (by unfold maxLen; omega) (by omega) (Nat.le_trans hbw6 hgrow7.size) ?_; (case hs => simp [Act.eval, Act.put]); (case hx => simp [Act.eval, Act.put]); intro a8 c8 w8 hown8 hgrow8 hloc8))
                all_goals (
                  obtain ⟨T8, L8⟩ := gone_touch hgrow7 hloc7 hgrow8 hloc8
                  have M5 := hide (M4.out.bytesNew T8 (gone_row hmB hown8 (by omega)) L8)
                  go_wp2
                  go_roundw
                  case rel => exact ⟨i + 1, N.eraseIdx m, B.eraseIdx m, G', a6, c6, a8, c8, by rw [List.length_eraseIdx_of_lt hmN]; first | rfl | (congr 1; omega), by rw [List.length_eraseIdx_of_lt hmB]; first | rfl | (congr 1; omega), by go_num, by omega, M5.out, R3.out.move M5.out.rep⟩
                  case measure => simp [intOf]; omega))
            · have hat : v = -1 := by
                rcases AT.out with ⟨e, _⟩ | ⟨m, _, hm⟩
                · exact e
                · exact absurd (List.mem_of_getElem? hm) hni
              subst hat
              have F3 := hide (WAll.mk M3.out r3)
              clear r3 hni
              go_wp2
              go_roundw
              case rel => exact ⟨i + 1, N, B, G', no, nc, bo, bc, rfl, rfl, by go_num, by omega, F3.out⟩
              case measure => simp [intOf]; omega
    · as_aux_lemma =>
        have hl := list_up HI.out.mem.rep (by have := HI.out.rel.n; omega) HI.out.rel.down
        rw [whole_names HI.out.rel] at hl
        have HL := hide hl
        have hN := HI.out.rel.lenN
        clear hl
        by_cases hl1 : i < l.length
        · have hi1 : (i : Int) < (l.length : Int) := by omega
          have hi2 : ¬ (i : Int) < 60 := by omega
          go_wp2_with fail
          refine HL.out.mono ?_
          rintro e w3 ⟨lo, lc, rfl, row, b3⟩
          have F3 := hide (HI.out.past b3)
          clear row b3 HL HI
          go_wp2
          go_loopw [15] (fun kv wv => ∃ k n : Nat, kv = .int .i64 k ∧ k ≤ N.length ∧ wv = w3.drewN n) (fun kv _ => N.length - (intOf kv).toNat)
          case atStart => exact ⟨0, 0, rfl, Nat.zero_le _, rfl⟩
          case round =>
            obtain ⟨k, n, rfl, hk, rfl⟩ := hrel
            by_cases hks : k < N.length
            · have hkb : k < B.length := by rw [← F3.out.rel.len]; exact hks
              obtain ⟨g, rfl, r0⟩ := F3.out.mem.textsN k hks
              obtain ⟨g2, rfl, r1⟩ := F3.out.mem.textsB k hkb
              have hbn : RowKit.Below w3.heap.size w3 (w3.drewN n) := below_drewN (Below.refl _ w3) n
              have hsz : (⟨N[k].toArray⟩ : ByteArray).size ≤ maxLen := by
                have := (F3.out.rel.rep.knownD N[k] _ (Option.ne_none_iff_exists'.1 ((F3.out.rel.mem _).1 (List.getElem_mem hks))).choose_spec).2.2
                show N[k].toArray.size ≤ _
                rw [List.size_toArray]
                unfold maxLen
                omega
              have hr := read_any (F3.out.past hbn).mem.rep ⟨N[k].toArray⟩ hsz
              obtain ⟨e1, e2⟩ := whole_read F3.out.rel (List.getElem?_eq_getElem hks) (List.getElem?_eq_getElem hkb)
              rw [e1, e2] at hr
              generalize (⟨N[k].toArray⟩ : ByteArray) = nm at r0 hr
              generalize (⟨B[k].toArray⟩ : ByteArray) = tx at r1 hr
              have HR := hide hr
              have hk0 : (0 : Int) ≤ (k : Int) := by omega
              have hk1 : (k : Int) < (N.length : Int) := by omega
              have hk2 : (k : Int) < (B.length : Int) := by omega
              clear hr hbn hsz e1 e2
              go_wp2_with fail
              refine HR.out.mono ?_
              rintro e wx ⟨rfl, hw⟩
              obtain rfl := hw.symm
              clear HR
              go_wp2
              exact ⟨⟨k + 1, n, by go_num, by omega, rfl⟩, by simp [intOf]; omega⟩
            · have hk1 : ¬ (k : Int) < (N.length : Int) := by omega
              go_wp2
              go_ret
              exact ⟨rfl, below_drewN F3.out.mem.below n⟩
        · have hi1 : ¬ (i : Int) < (l.length : Int) := by omega
          go_wp2_with fail
          refine HL.out.mono ?_
          rintro e w3 ⟨lo, lc, rfl, row, b3⟩
          have F3 := hide (HI.out.past b3)
          clear row b3 HL HI
          go_wp2
          go_loopw [15] (fun kv wv => ∃ k n : Nat, kv = .int .i64 k ∧ k ≤ N.length ∧ wv = w3.drewN n) (fun kv _ => N.length - (intOf kv).toNat)
          case atStart => exact ⟨0, 0, rfl, Nat.zero_le _, rfl⟩
          case round =>
            obtain ⟨k, n, rfl, hk, rfl⟩ := hrel
            by_cases hks : k < N.length
            · have hkb : k < B.length := by rw [← F3.out.rel.len]; exact hks
              obtain ⟨g, rfl, r0⟩ := F3.out.mem.textsN k hks
              obtain ⟨g2, rfl, r1⟩ := F3.out.mem.textsB k hkb
              have hbn : RowKit.Below w3.heap.size w3 (w3.drewN n) := below_drewN (Below.refl _ w3) n
              have hsz : (⟨N[k].toArray⟩ : ByteArray).size ≤ maxLen := by
                have := (F3.out.rel.rep.knownD N[k] _ (Option.ne_none_iff_exists'.1 ((F3.out.rel.mem _).1 (List.getElem_mem hks))).choose_spec).2.2
                show N[k].toArray.size ≤ _
                rw [List.size_toArray]
                unfold maxLen
                omega
              have hr := read_any (F3.out.past hbn).mem.rep ⟨N[k].toArray⟩ hsz
              obtain ⟨e1, e2⟩ := whole_read F3.out.rel (List.getElem?_eq_getElem hks) (List.getElem?_eq_getElem hkb)
              rw [e1, e2] at hr
              generalize (⟨N[k].toArray⟩ : ByteArray) = nm at r0 hr
              generalize (⟨B[k].toArray⟩ : ByteArray) = tx at r1 hr
              have HR := hide hr
              have hk0 : (0 : Int) ≤ (k : Int) := by omega
              have hk1 : (k : Int) < (N.length : Int) := by omega
              have hk2 : (k : Int) < (B.length : Int) := by omega
              clear hr hbn hsz e1 e2
              go_wp2_with fail
              refine HR.out.mono ?_
              rintro e wx ⟨rfl, hw⟩
              obtain rfl := hw.symm
              clear HR
              go_wp2
              exact ⟨⟨k + 1, n, by go_num, by omega, rfl⟩, by simp [intOf]; omega⟩
            · have hk1 : ¬ (k : Int) < (N.length : Int) := by omega
              go_wp2
              go_ret
              exact ⟨rfl, below_drewN F3.out.mem.below n⟩
end Go.Proofs.Ytdlaicbdconbcaa
