/-
  carillonref09's Out: what is put out (mkxo.py).
-/
import Derived.Test.YthgfijmpofbchaaZX8
namespace Go.Proofs.Ythgfijmpofbchaa
open Go.RowKit

attribute [local go_sem ↓] Go.wp_at_zero Go.wp_at_succ
set_option linter.unusedSimpArgs false
set_option linter.unusedVariables false
set_option maxHeartbeats 8000000 in
set_option maxRecDepth 100000 in
theorem xo_r12 {K : Act → World → Prop} {c : Code} (hc : regOf (Try.f13.body.getD .skip) 12 = some c) (a : Act) {v : Vxo} {wq : World} {w0 : World} {b : Nat} {vv : Value} {oo : Option Addr} {oc : Nat} {c9 : XC} {L : List ByteArray} {D : List FR} (hF : Fxo a v) (h0v : v.v0 = .pointer (some ⟨b, 0, none⟩)) (h3v : v.v3 = .slice oo D.length oc) (hX : XO w0 b vv wq c9 L (.slice oo D.length oc) D) (hl : D.length ≤ 100)
    (hQ : ∀ a' w' oo' oc', Fxo a' { v with v3 := .slice oo' (D ++ [(⟨c9.e, c9.p, 0, c9.ta, ⟨#[]⟩⟩ : FR)]).length oc' } → XO w0 b vv w' c9 L (.slice oo' (D ++ [(⟨c9.e, c9.p, 0, c9.ta, ⟨#[]⟩⟩ : FR)]).length oc') (D ++ [(⟨c9.e, c9.p, 0, c9.ta, ⟨#[]⟩⟩ : FR)]) → K a' w') :
    Code.wp Try.prog c (Exit.then K fun _ _ _ => False) a wq := by
  have HQ := hide hQ
  clear hQ
  obtain ⟨t', d'⟩ := a
  obtain ⟨v0, v2, v3, v4⟩ := v
  simp only at h0v h3v HQ
  subst h0v h3v
  obtain ⟨hs1, hd1, q0, q2, q3, q4⟩ := hF
  obtain ⟨u, hu⟩ := frame_xo t' hs1
  simp only at hd1 q0 q2 q3 q4
  subst hu hd1
  have e0 : u 0 = .pointer (some ⟨b, 0, none⟩) := q0
  have e2 : u 2 = v2 := q2
  have e3 : u 3 = .slice oo D.length oc := q3
  have e4 : u 4 = v4 := q4
  rw [e0, e2, e3, e4]
  clear q0 e0 q2 e2 q3 e3 q4 e4 hs1
  simp only [Try.f13, Option.getD_some, regOf] at hc
  injection hc with hc
  subst hc
  generalize u 1 = u1
  generalize u 5 = u5
  generalize u 6 = u6
  generalize u 7 = u7
  generalize u 8 = u8
  generalize u 9 = u9
  generalize u 10 = u10
  generalize u 11 = u11
  generalize u 12 = u12
  generalize u 13 = u13
  generalize u 14 = u14
  generalize u 15 = u15
  generalize u 16 = u16
  generalize u 17 = u17
  generalize u 18 = u18
  generalize u 19 = u19
  generalize u 20 = u20
  generalize u 21 = u21
  generalize u 22 = u22
  generalize u 23 = u23
  generalize u 24 = u24
  generalize u 25 = u25
  generalize u 26 = u26
  generalize u 27 = u27
  generalize u 28 = u28
  generalize u 29 = u29
  generalize u 30 = u30
  generalize u 31 = u31
  generalize u 32 = u32
  generalize u 33 = u33
  generalize u 34 = u34
  generalize u 35 = u35
  generalize u 36 = u36
  generalize u 37 = u37
  generalize u 38 = u38
  generalize u 39 = u39
  generalize u 40 = u40
  generalize u 41 = u41
  generalize u 42 = u42
  generalize u 43 = u43
  generalize u 44 = u44
  generalize u 45 = u45
  generalize u 46 = u46
  generalize u 47 = u47
  generalize u 48 = u48
  generalize u 49 = u49
  generalize u 50 = u50
  generalize u 51 = u51
  generalize u 52 = u52
  generalize u 53 = u53
  generalize u 54 = u54
  generalize u 55 = u55
  generalize u 56 = u56
  generalize u 57 = u57
  generalize u 58 = u58
  generalize u 59 = u59
  generalize u 60 = u60
  generalize u 61 = u61
  generalize u 62 = u62
  generalize u 63 = u63
  generalize u 64 = u64
  generalize u 65 = u65
  generalize u 66 = u66
  generalize u 67 = u67
  generalize u 68 = u68
  generalize u 69 = u69
  generalize u 70 = u70
  generalize u 71 = u71
  generalize u 72 = u72
  generalize u 73 = u73
  generalize u 74 = u74
  generalize u 75 = u75
  generalize u 76 = u76
  generalize u 77 = u77
  generalize u 78 = u78
  generalize u 79 = u79
  generalize u 80 = u80
  generalize u 81 = u81
  generalize u 82 = u82
  generalize u 83 = u83
  generalize u 84 = u84
  generalize u 85 = u85
  generalize u 86 = u86
  generalize u 87 = u87
  generalize u 88 = u88
  generalize u 89 = u89
  generalize u 90 = u90
  generalize u 91 = u91
  generalize u 92 = u92
  generalize u 93 = u93
  generalize u 94 = u94
  generalize u 95 = u95
  generalize u 96 = u96
  generalize u 97 = u97
  generalize u 98 = u98
  generalize u 99 = u99
  generalize u 100 = u100
  generalize u 101 = u101
  generalize u 102 = u102
  generalize u 103 = u103
  generalize u 104 = u104
  generalize u 105 = u105
  generalize u 106 = u106
  generalize u 107 = u107
  clear u
  have HX := hide hX
  obtain ⟨c0, c1, c2, c3, c4, c5, c6, c7, c8⟩ := hX.c9
  obtain ⟨ce, cp, cfi, cou, cdu, cta, cow, cti⟩ := c9
  simp only at c0 c1 c2 c3 c4 c5 c6 c7 c8 HQ HX
  obtain ⟨i0, hi0, hz0, hz1, hz2⟩ := info_parts infoFR
  obtain ⟨n, hn⟩ : ∃ n, D.length = n := ⟨_, rfl⟩
  have HN := hide hn
  have hout := hX.out
  rw [hn] at hl hout ⊢
  have RO := hide hout
  have hbase := hX.touch.size
  have hlen : (D ++ [(⟨ce, cp, 0, cta, ⟨#[]⟩⟩ : FR)]).length = n + 1 := by rw [List.length_append, hn]; rfl
  rw [hlen] at HQ
  clear hX hout hn hlen
  go_region_held_law (fun w' => w'.cell? ⟨b, 0, none⟩ = some (.int .i64 ce) ∧ w'.cell? ⟨b, 1, none⟩ = some (.int .i64 cp) ∧ w'.cell? ⟨b, 6, none⟩ = some (.int .i64 cta)) (first | go_keep | exact KS.out | exact ⟨c0, c1, c6⟩) ((first | (refine step_append_d (by rfl) 103 (by rfl) _ _ 38 (by rfl) w0.heap.size 31 i0 _ 5 48 Try.underlying38 hi0 hz0 hz1 hz2 rfl (by omega) (.slice oo n oc) n (frCells D) (by rfl) (RO.out.drew.alloc _) ⟨wq.heap.size, 0, none⟩ 1 1 [.int .i64 ce, .int .i64 cp, .int .i64 0, .int .i64 cta, .string ⟨#[]⟩] (by rfl) (by rfl) (World.news_of_block (cs := #[.int .i64 ce, .int .i64 cp, .int .i64 0, .int .i64 cta, .string ⟨#[]⟩]) (t := 31) (fr := (0, 0)) (heap_alloc_new wq.drew _)) (by simp [Value.oneCell']) (by unfold maxLen; omega) (by omega) (by simp; omega) ?_; intro a4 c4 w4 hown4 hgrow4 hloc4; have T4 : Hid (Touch (fun j => (Value.slice oo n oc).ownBlock = some j) wq w4) := (((Touch.refl _ wq).alloc _).drew).grown hgrow4 (fun j e _ => e); have P4 : Hid (XO w0 b vv w4 ⟨ce, cp, cfi, cou, cdu, cta, cow, cti⟩ L (.slice a4 (n + 1) c4) (D ++ [(⟨ce, cp, 0, cta, ⟨#[]⟩⟩ : FR)])) := HX.out.grow T4.out (fun j e => (RO.out.lt j e).1) (by rw [List.length_append, HN.out, frCells_snoc]; exact hown4); have KS : Hid ((fun w' => w'.cell? ⟨b, 0, none⟩ = some (.int .i64 ce) ∧ w'.cell? ⟨b, 1, none⟩ = some (.int .i64 cp) ∧ w'.cell? ⟨b, 6, none⟩ = some (.int .i64 cta)) w4) := ⟨P4.out.c9.1, P4.out.c9.2.1, P4.out.c9.2.2.2.2.2.2.1⟩)))
  all_goals exact HQ.out _ _ a4 c4 ⟨rfl, rfl, rfl, rfl, rfl, rfl⟩ P4.out
set_option maxHeartbeats 8000000 in
set_option maxRecDepth 100000 in
theorem xo_r6 {K : Act → World → Prop} {c : Code} (hc : regOf (Try.f13.body.getD .skip) 6 = some c) (a : Act) {v : Vxo} {wq : World} {w0 : World} {b : Nat} {vv : Value} {oo : Option Addr} {oc : Nat} {c9 : XC} {L : List ByteArray} {D : List FR} {k : Nat} (hF : Fxo a v) (h0v : v.v0 = .pointer (some ⟨b, 0, none⟩)) (h3v : v.v3 = .slice oo D.length oc) (h4v : v.v4 = .int .i64 (k : Int)) (hX : XO w0 b vv wq c9 L (.slice oo D.length oc) D) (hl : D.length ≤ 100) (hk : k < L.length) (h1 : 0 ≤ c9.fi ∧ c9.fi ≤ 9007199254740992) (h2 : k ≤ 100)
    (hQ : ∀ a' w' oo' oc', Fxo a' { v with v3 := .slice oo' (D ++ [(⟨c9.e, c9.p, c9.fi + k, c9.ta, L[k]⟩ : FR)]).length oc' } → XO w0 b vv w' c9 L (.slice oo' (D ++ [(⟨c9.e, c9.p, c9.fi + k, c9.ta, L[k]⟩ : FR)]).length oc') (D ++ [(⟨c9.e, c9.p, c9.fi + k, c9.ta, L[k]⟩ : FR)]) → K a' w') :
    Code.wp Try.prog c (Exit.then K fun _ _ _ => False) a wq := by
  have HQ := hide hQ
  clear hQ
  obtain ⟨t', d'⟩ := a
  obtain ⟨v0, v2, v3, v4⟩ := v
  simp only at h0v h3v h4v HQ
  subst h0v h3v h4v
  obtain ⟨hs1, hd1, q0, q2, q3, q4⟩ := hF
  obtain ⟨u, hu⟩ := frame_xo t' hs1
  simp only at hd1 q0 q2 q3 q4
  subst hu hd1
  have e0 : u 0 = .pointer (some ⟨b, 0, none⟩) := q0
  have e2 : u 2 = v2 := q2
  have e3 : u 3 = .slice oo D.length oc := q3
  have e4 : u 4 = .int .i64 (k : Int) := q4
  rw [e0, e2, e3, e4]
  clear q0 e0 q2 e2 q3 e3 q4 e4 hs1
  simp only [Try.f13, Option.getD_some, regOf] at hc
  injection hc with hc
  subst hc
  generalize u 1 = u1
  generalize u 5 = u5
  generalize u 6 = u6
  generalize u 7 = u7
  generalize u 8 = u8
  generalize u 9 = u9
  generalize u 10 = u10
  generalize u 11 = u11
  generalize u 12 = u12
  generalize u 13 = u13
  generalize u 14 = u14
  generalize u 15 = u15
  generalize u 16 = u16
  generalize u 17 = u17
  generalize u 18 = u18
  generalize u 19 = u19
  generalize u 20 = u20
  generalize u 21 = u21
  generalize u 22 = u22
  generalize u 23 = u23
  generalize u 24 = u24
  generalize u 25 = u25
  generalize u 26 = u26
  generalize u 27 = u27
  generalize u 28 = u28
  generalize u 29 = u29
  generalize u 30 = u30
  generalize u 31 = u31
  generalize u 32 = u32
  generalize u 33 = u33
  generalize u 34 = u34
  generalize u 35 = u35
  generalize u 36 = u36
  generalize u 37 = u37
  generalize u 38 = u38
  generalize u 39 = u39
  generalize u 40 = u40
  generalize u 41 = u41
  generalize u 42 = u42
  generalize u 43 = u43
  generalize u 44 = u44
  generalize u 45 = u45
  generalize u 46 = u46
  generalize u 47 = u47
  generalize u 48 = u48
  generalize u 49 = u49
  generalize u 50 = u50
  generalize u 51 = u51
  generalize u 52 = u52
  generalize u 53 = u53
  generalize u 54 = u54
  generalize u 55 = u55
  generalize u 56 = u56
  generalize u 57 = u57
  generalize u 58 = u58
  generalize u 59 = u59
  generalize u 60 = u60
  generalize u 61 = u61
  generalize u 62 = u62
  generalize u 63 = u63
  generalize u 64 = u64
  generalize u 65 = u65
  generalize u 66 = u66
  generalize u 67 = u67
  generalize u 68 = u68
  generalize u 69 = u69
  generalize u 70 = u70
  generalize u 71 = u71
  generalize u 72 = u72
  generalize u 73 = u73
  generalize u 74 = u74
  generalize u 75 = u75
  generalize u 76 = u76
  generalize u 77 = u77
  generalize u 78 = u78
  generalize u 79 = u79
  generalize u 80 = u80
  generalize u 81 = u81
  generalize u 82 = u82
  generalize u 83 = u83
  generalize u 84 = u84
  generalize u 85 = u85
  generalize u 86 = u86
  generalize u 87 = u87
  generalize u 88 = u88
  generalize u 89 = u89
  generalize u 90 = u90
  generalize u 91 = u91
  generalize u 92 = u92
  generalize u 93 = u93
  generalize u 94 = u94
  generalize u 95 = u95
  generalize u 96 = u96
  generalize u 97 = u97
  generalize u 98 = u98
  generalize u 99 = u99
  generalize u 100 = u100
  generalize u 101 = u101
  generalize u 102 = u102
  generalize u 103 = u103
  generalize u 104 = u104
  generalize u 105 = u105
  generalize u 106 = u106
  generalize u 107 = u107
  clear u
  have HX := hide hX
  obtain ⟨c0, c1, c2, c3, c4, c5, c6, c7, c8⟩ := hX.c9
  obtain ⟨ce, cp, cfi, cou, cdu, cta, cow, cti⟩ := c9
  simp only at c0 c1 c2 c3 c4 c5 c6 c7 c8 HQ HX
  obtain ⟨i0, hi0, hz0, hz1, hz2⟩ := info_parts infoFR
  obtain ⟨n, hn⟩ : ∃ n, D.length = n := ⟨_, rfl⟩
  have HN := hide hn
  have hout := hX.out
  rw [hn] at hl hout ⊢
  have RO := hide hout
  have hbase := hX.touch.size
  obtain ⟨ao, cap, hvv⟩ := hX.row.slice
  have WC : Hid (∀ W ov' D', XO w0 b vv W ⟨ce, cp, cfi, cou, cdu, cta, cow, cti⟩ L ov' D' → ∀ g off, ao = some ⟨g, off, none⟩ → W.cell? ⟨g, off + k, none⟩ = some (.string L[k])) := by
    intro W ov' D' hW g off e
    have hr := hW.row
    rw [hvv, e] at hr
    obtain ⟨off2, e2, hc, _⟩ := hr.cell
    injection e2 with _ e2 _
    subst e2
    have := hc k (by omega)
    rw [List.getElem?_map, List.getElem?_eq_getElem hk] at this
    exact this
  obtain ⟨g, off, hao⟩ : ∃ g off, ao = some ⟨g, off, none⟩ := by
    rcases hX.row.2 with ⟨e, e2⟩ | ⟨g, off, c2, cur2, e, _⟩
    · omega
    · rw [hvv] at e
      injection e with e1 _ _
      exact ⟨g, off, e1⟩
  have y4 := WC.out _ _ _ hX g off hao
  have WD : Hid (∀ W ov' D', XO w0 b vv W ⟨ce, cp, cfi, cou, cdu, cta, cow, cti⟩ L ov' D' → W.cell? ⟨g, off + k, none⟩ = some (.string L[k])) := fun W ov' D' hW => WC.out W ov' D' hW g off hao
  obtain ⟨y, hy⟩ : ∃ y, L[k] = y := ⟨_, rfl⟩
  rw [hy] at y4 WD HQ
  rw [hvv, hao] at c2
  have WV : Hid (vv = .slice (some ⟨g, off, none⟩) L.length cap) := by show _ = _; rw [hvv, hao]
  obtain ⟨ln, hln⟩ : ∃ ln, L.length = ln := ⟨_, rfl⟩
  rw [hln] at hk
  rw [hln] at c2 WV
  simp only at h1
  have hwk : IntKind.i64.wrap (cfi + (k : Int)) = cfi + (k : Int) := by rw [IntKind.wrap_i64]; omega
  have hk0 : (0 : Int) ≤ (k : Int) := by omega
  have hk1 : (k : Int) < (ln : Int) := by omega
  clear WC hvv hao hy hln
  have hlen : (D ++ [(⟨ce, cp, cfi + k, cta, y⟩ : FR)]).length = n + 1 := by rw [List.length_append, hn]; rfl
  rw [hlen] at HQ
  clear hX hout hn hlen
  go_region_held_law (fun w' => w'.cell? ⟨b, 0, none⟩ = some (.int .i64 ce) ∧ w'.cell? ⟨b, 1, none⟩ = some (.int .i64 cp) ∧ w'.cell? ⟨b, 2, none⟩ = some (.slice (some ⟨g, off, none⟩) ln cap) ∧ w'.cell? ⟨b, 3, none⟩ = some (.int .i64 cfi) ∧ w'.cell? ⟨b, 6, none⟩ = some (.int .i64 cta) ∧ w'.cell? ⟨g, off + k, none⟩ = some (.string y)) (first | go_keep | exact KS.out | exact ⟨c0, c1, c2, c3, c6, y4⟩) ((first | (refine step_append_d (by rfl) 55 (by rfl) _ _ 38 (by rfl) w0.heap.size 31 i0 _ 5 48 Try.underlying38 hi0 hz0 hz1 hz2 rfl (by omega) (.slice oo n oc) n (frCells D) (by rfl) (RO.out.drew.alloc _) ⟨wq.heap.size, 0, none⟩ 1 1 [.int .i64 ce, .int .i64 cp, .int .i64 (cfi + k), .int .i64 cta, .string y] (by rfl) (by rfl) (World.news_of_block (cs := #[.int .i64 ce, .int .i64 cp, .int .i64 (cfi + k), .int .i64 cta, .string y]) (t := 31) (fr := (0, 0)) (heap_alloc_new wq.drew _)) (by simp [Value.oneCell']) (by unfold maxLen; omega) (by omega) (by simp; omega) ?_; intro a4 c4 w4 hown4 hgrow4 hloc4; have T4 : Hid (Touch (fun j => (Value.slice oo n oc).ownBlock = some j) wq w4) := (((Touch.refl _ wq).alloc _).drew).grown hgrow4 (fun j e _ => e); have P4 : Hid (XO w0 b vv w4 ⟨ce, cp, cfi, cou, cdu, cta, cow, cti⟩ L (.slice a4 (n + 1) c4) (D ++ [(⟨ce, cp, cfi + k, cta, y⟩ : FR)])) := HX.out.grow T4.out (fun j e => (RO.out.lt j e).1) (by rw [List.length_append, HN.out, frCells_snoc]; exact hown4); have KS : Hid ((fun w' => w'.cell? ⟨b, 0, none⟩ = some (.int .i64 ce) ∧ w'.cell? ⟨b, 1, none⟩ = some (.int .i64 cp) ∧ w'.cell? ⟨b, 2, none⟩ = some (.slice (some ⟨g, off, none⟩) ln cap) ∧ w'.cell? ⟨b, 3, none⟩ = some (.int .i64 cfi) ∧ w'.cell? ⟨b, 6, none⟩ = some (.int .i64 cta) ∧ w'.cell? ⟨g, off + k, none⟩ = some (.string y)) w4) := ⟨P4.out.c9.1, P4.out.c9.2.1, by have h9 := P4.out.c9.2.2.1; rw [WV.out] at h9; exact h9, P4.out.c9.2.2.2.1, P4.out.c9.2.2.2.2.2.2.1, WD.out _ _ _ P4.out⟩)))
  all_goals exact HQ.out _ _ a4 c4 ⟨rfl, rfl, rfl, rfl, rfl, rfl⟩ P4.out
end Go.Proofs.Ythgfijmpofbchaa
