/-
  goOn's region 2, as it runs.
-/
import Derived.Test.YtgnehnlmbodijaaDoorZF1
namespace Go.Proofs.YtgnehnlmbodijaaDoor
open Go.RowKit

set_option maxHeartbeats 8000000 in
set_option maxRecDepth 100000 in
theorem reg2_any {K : Act → World → Prop} {c : Code} (hc : regOf (Tryd.f33.body.getD .skip) 2 = some c) (a : Act) {w wq : World} {g : Nat} {s : ByteArray} {low most : Int} {n1 n2 : Nat} {xs1 xs2 : List Value} {least : Int} {pos : Nat} {er : Int} {y : Rec} {roa boa : Option Addr} {roc boc : Nat} {nv : Value} (hgl : g < w.heap.size) (hF : Fr g w.heap.size a) (hn : a.tmps.getD 3 undef = nv)
    (GQ : Hid (GX w wq g s low most n1 xs1 n2 xs2 least pos er y (.slice roa n1 roc) (.slice boa n2 boc))) (_hsz : s.size ≤ 9223372036854775807) (_hln : (n1 : Int) ≤ 9223372036854775807) (b : Bool) (hb : b = decide (pos = s.size ∨ most ≤ (n1 : Int)))
    (hQ : ∀ a' n, Fr g w.heap.size a' → a'.tmps.getD 3 undef = nv → a'.tmps.getD 27 undef = .bool b → K a' (wq.drewN n)) :
    Code.wp Tryd.prog c (Exit.then K fun _ _ _ => False) a wq := by
  have HQ := hide hQ
  clear hQ
  obtain ⟨t', d'⟩ := a
  obtain ⟨hs1, hd1, hp1, hp2⟩ := hF
  obtain ⟨u, hu⟩ := frame_row t' hs1
  simp only at hd1 hp1 hp2
  subst hu hd1
  have hp1' : u 0 = .pointer (some ⟨g, 0, none⟩) := hp1
  have hp2' : u 2 = .pointer (some ⟨w.heap.size, 0, none⟩) := hp2
  rw [hp1', hp2']
  clear hp1 hp2 hp1' hp2' hs1
  have hn' : u 3 = nv := hn
  rw [hn']
  clear hn hn'
  simp only [Tryd.f33, Option.getD_some, regOf] at hc
  injection hc with hc
  subst hc
  generalize u 1 = u1
  generalize u 4 = u4
  generalize u 5 = u5
  generalize u 6 = u6
  generalize u 7 = u7
  generalize u 8 = u8
  generalize u 9 = u9
  generalize u 10 = u10
  generalize u 11 = u11
  generalize u 12 = u12
  generalize u 13 = u13
  generalize u 14 = u14
  generalize u 15 = u15
  generalize u 16 = u16
  generalize u 17 = u17
  generalize u 18 = u18
  generalize u 19 = u19
  generalize u 20 = u20
  generalize u 21 = u21
  generalize u 22 = u22
  generalize u 23 = u23
  generalize u 24 = u24
  generalize u 25 = u25
  generalize u 26 = u26
  generalize u 27 = u27
  generalize u 28 = u28
  generalize u 29 = u29
  generalize u 30 = u30
  generalize u 31 = u31
  generalize u 32 = u32
  generalize u 33 = u33
  generalize u 34 = u34
  generalize u 35 = u35
  generalize u 36 = u36
  generalize u 37 = u37
  generalize u 38 = u38
  generalize u 39 = u39
  generalize u 40 = u40
  generalize u 41 = u41
  generalize u 42 = u42
  generalize u 43 = u43
  generalize u 44 = u44
  generalize u 45 = u45
  generalize u 46 = u46
  generalize u 47 = u47
  generalize u 48 = u48
  generalize u 49 = u49
  generalize u 50 = u50
  generalize u 51 = u51
  generalize u 52 = u52
  generalize u 53 = u53
  generalize u 54 = u54
  generalize u 55 = u55
  generalize u 56 = u56
  generalize u 57 = u57
  generalize u 58 = u58
  generalize u 59 = u59
  generalize u 60 = u60
  generalize u 61 = u61
  generalize u 62 = u62
  generalize u 63 = u63
  generalize u 64 = u64
  generalize u 65 = u65
  generalize u 66 = u66
  generalize u 67 = u67
  generalize u 68 = u68
  generalize u 69 = u69
  generalize u 70 = u70
  generalize u 71 = u71
  generalize u 72 = u72
  generalize u 73 = u73
  generalize u 74 = u74
  generalize u 75 = u75
  generalize u 76 = u76
  generalize u 77 = u77
  generalize u 78 = u78
  generalize u 79 = u79
  generalize u 80 = u80
  generalize u 81 = u81
  generalize u 82 = u82
  generalize u 83 = u83
  generalize u 84 = u84
  generalize u 85 = u85
  generalize u 86 = u86
  generalize u 87 = u87
  generalize u 88 = u88
  generalize u 89 = u89
  generalize u 90 = u90
  generalize u 91 = u91
  generalize u 92 = u92
  generalize u 93 = u93
  generalize u 94 = u94
  generalize u 95 = u95
  generalize u 96 = u96
  generalize u 97 = u97
  generalize u 98 = u98
  generalize u 99 = u99
  generalize u 100 = u100
  generalize u 101 = u101
  generalize u 102 = u102
  generalize u 103 = u103
  generalize u 104 = u104
  generalize u 105 = u105
  generalize u 106 = u106
  generalize u 107 = u107
  clear u
  obtain ⟨⟨c0, c1, c2, c3, c4, c5, c6, c7⟩, hfz⟩ := box8 GQ.out.box
  obtain ⟨⟨r0, r1, r2, r3, r4⟩, rf0, rf1, rf2, rf3, rf4⟩ := box5 GQ.out.rcd
  have hgne : g ≠ w.heap.size := by omega
  by_cases hend : pos = s.size
  · have he1 : (pos : Int) = (s.size : Int) := by omega
    have he2 : ((pos : Int) == (s.size : Int)) = true := by rw [beq_iff_eq]; exact he1
    rw [decide_eq_true (.inl hend)] at hb
    subst hb
    clear hend
    go_quiet (fail)
    exact HQ.out _ _ ⟨rfl, rfl, rfl, rfl⟩ rfl rfl
  · have he1 : ¬ (pos : Int) = (s.size : Int) := by omega
    have he2 : ((pos : Int) == (s.size : Int)) = false := by rw [beq_eq_false_iff_ne]; exact he1
    by_cases hmo : most ≤ (n1 : Int)
    · have hm2 : decide (most ≤ (n1 : Int)) = true := decide_eq_true hmo
      rw [decide_eq_true (.inr hmo)] at hb
      subst hb
      go_quiet (fail)
      exact HQ.out _ _ ⟨rfl, rfl, rfl, rfl⟩ rfl rfl
    · have hm2 : decide (most ≤ (n1 : Int)) = false := decide_eq_false hmo
      rw [decide_eq_false (fun e => e.elim hend hmo)] at hb
      subst hb
      go_quiet (fail)
      exact HQ.out _ _ ⟨rfl, rfl, rfl, rfl⟩ rfl rfl
end Go.Proofs.YtgnehnlmbodijaaDoor
/-
  goOn's region 3, as it runs.
-/
namespace Go.Proofs.YtgnehnlmbodijaaDoor
open Go.RowKit

set_option maxHeartbeats 8000000 in
set_option maxRecDepth 100000 in
theorem reg3_any {K : Act → World → Prop} {c : Code} (hc : regOf (Tryd.f33.body.getD .skip) 3 = some c) (a : Act) {w wq : World} {g : Nat} {s : ByteArray} {low most : Int} {out : List (Rec × Nat)} {least : Int} {pos : Nat} (hgl : g < w.heap.size) (hF : Fr g w.heap.size a) {x : Rec} {roa boa : Option Addr} {roc boc : Nat} (hsz : s.data.toList.length = s.size) (h63 : s.size ≤ 9223372036854775807) (hle : pos < s.size) (GSq : Hid (GS w wq g s low most out least pos 0 x (.slice roa out.length roc) (.slice boa out.length boc))) (HTq : Hid (Tab wq)) (y : Rec) (n : Nat) (er : Int) (hH : headR least (s.data.toList.drop pos) = (y, n, er))
    (hQ : ∀ a' w', Fr g w.heap.size a' → a'.tmps.getD 3 undef = .int .i64 n → GS w w' g s low most out least pos er y (.slice roa out.length roc) (.slice boa out.length boc) → K a' w') :
    Code.wp Tryd.prog c (Exit.then K fun _ _ _ => False) a wq := by
  have HQ := hide hQ
  clear hQ
  obtain ⟨t', d'⟩ := a
  obtain ⟨hs1, hd1, hp1, hp2⟩ := hF
  obtain ⟨u, hu⟩ := frame_row t' hs1
  simp only at hd1 hp1 hp2
  subst hu hd1
  have hp1' : u 0 = .pointer (some ⟨g, 0, none⟩) := hp1
  have hp2' : u 2 = .pointer (some ⟨w.heap.size, 0, none⟩) := hp2
  rw [hp1', hp2']
  clear hp1 hp2 hp1' hp2' hs1
  simp only [Tryd.f33, Option.getD_some, regOf] at hc
  injection hc with hc
  subst hc
  generalize u 1 = u1
  generalize u 3 = u3
  generalize u 4 = u4
  generalize u 5 = u5
  generalize u 6 = u6
  generalize u 7 = u7
  generalize u 8 = u8
  generalize u 9 = u9
  generalize u 10 = u10
  generalize u 11 = u11
  generalize u 12 = u12
  generalize u 13 = u13
  generalize u 14 = u14
  generalize u 15 = u15
  generalize u 16 = u16
  generalize u 17 = u17
  generalize u 18 = u18
  generalize u 19 = u19
  generalize u 20 = u20
  generalize u 21 = u21
  generalize u 22 = u22
  generalize u 23 = u23
  generalize u 24 = u24
  generalize u 25 = u25
  generalize u 26 = u26
  generalize u 27 = u27
  generalize u 28 = u28
  generalize u 29 = u29
  generalize u 30 = u30
  generalize u 31 = u31
  generalize u 32 = u32
  generalize u 33 = u33
  generalize u 34 = u34
  generalize u 35 = u35
  generalize u 36 = u36
  generalize u 37 = u37
  generalize u 38 = u38
  generalize u 39 = u39
  generalize u 40 = u40
  generalize u 41 = u41
  generalize u 42 = u42
  generalize u 43 = u43
  generalize u 44 = u44
  generalize u 45 = u45
  generalize u 46 = u46
  generalize u 47 = u47
  generalize u 48 = u48
  generalize u 49 = u49
  generalize u 50 = u50
  generalize u 51 = u51
  generalize u 52 = u52
  generalize u 53 = u53
  generalize u 54 = u54
  generalize u 55 = u55
  generalize u 56 = u56
  generalize u 57 = u57
  generalize u 58 = u58
  generalize u 59 = u59
  generalize u 60 = u60
  generalize u 61 = u61
  generalize u 62 = u62
  generalize u 63 = u63
  generalize u 64 = u64
  generalize u 65 = u65
  generalize u 66 = u66
  generalize u 67 = u67
  generalize u 68 = u68
  generalize u 69 = u69
  generalize u 70 = u70
  generalize u 71 = u71
  generalize u 72 = u72
  generalize u 73 = u73
  generalize u 74 = u74
  generalize u 75 = u75
  generalize u 76 = u76
  generalize u 77 = u77
  generalize u 78 = u78
  generalize u 79 = u79
  generalize u 80 = u80
  generalize u 81 = u81
  generalize u 82 = u82
  generalize u 83 = u83
  generalize u 84 = u84
  generalize u 85 = u85
  generalize u 86 = u86
  generalize u 87 = u87
  generalize u 88 = u88
  generalize u 89 = u89
  generalize u 90 = u90
  generalize u 91 = u91
  generalize u 92 = u92
  generalize u 93 = u93
  generalize u 94 = u94
  generalize u 95 = u95
  generalize u 96 = u96
  generalize u 97 = u97
  generalize u 98 = u98
  generalize u 99 = u99
  generalize u 100 = u100
  generalize u 101 = u101
  generalize u 102 = u102
  generalize u 103 = u103
  generalize u 104 = u104
  generalize u 105 = u105
  generalize u 106 = u106
  generalize u 107 = u107
  clear u
  have HC : Hid (∀ w, Tab w → Calls Tryd.prog 47 #[.string (s.extract pos s.size), .int .i64 least] w fun e w' => e = .returned (.tuple #[y.v, .int .i64 n, .int .i64 er]) ∧ Below w.heap.size w w') := fun w hT => by
    have := first_any (s.extract pos s.size) least (by simp; omega) w hT
    rw [show (s.extract pos s.size).data.toList = s.data.toList.drop pos by rw [ext_data, List.take_of_length_le (by rw [List.length_drop, hsz]; omega)], hH] at this
    exact this
  obtain ⟨⟨c0, c1, c2, c3, c4, c5, c6, c7⟩, hfz⟩ := box8 GSq.out.box
  have hglq := GSq.out.glt
  have hrlq := GSq.out.lt
  have hgne : g ≠ w.heap.size := by omega
  have hl0 : (0 : Int) ≤ (pos : Int) := by omega
  have hl1 : (pos : Int) ≤ (s.size : Int) := by omega
  clear hH hsz
  go_region_with (go_at_call 47; refine (HC.out _ (by first | exact HTq.out | exact HTq.out.below (Below.refl _ _).drew | exact (HTq.out.below (Below.refl _ _).drew).below (Below.refl _ _).drew)).mono ?_; rintro e w3 ⟨rfl, hb⟩; have GS3 : Hid (GS w w3 g s low most out least pos 0 x (.slice roa out.length roc) (.slice boa out.length boc)) := (by first | exact GSq.out.below hb | exact GSq.out.drew.below hb | exact GSq.out.drew.drew.below hb); obtain ⟨⟨c0, c1, c2, c3, c4, c5, c6, c7⟩, hfz⟩ := box8 GS3.out.box; obtain ⟨⟨r0, r1, r2, r3, r4⟩, rf0, rf1, rf2, rf3, rf4⟩ := box5 GS3.out.rcd; have hf3 := hfz 3; simp only [Rec.v])
  all_goals exact HQ.out _ _ ⟨rfl, rfl, rfl, rfl⟩ rfl (GS3.out.head hgl y er)
end Go.Proofs.YtgnehnlmbodijaaDoor
/-
  goOn's region 4, as it runs.
-/
namespace Go.Proofs.YtgnehnlmbodijaaDoor
open Go.RowKit

set_option maxHeartbeats 8000000 in
set_option maxRecDepth 100000 in
theorem reg4_any {K : Act → World → Prop} {c : Code} (hc : regOf (Tryd.f33.body.getD .skip) 4 = some c) (a : Act) {w wq : World} {g : Nat} {s : ByteArray} {low most : Int} {n1 n2 : Nat} {xs1 xs2 : List Value} {least : Int} {pos : Nat} {er : Int} {y : Rec} {roa boa : Option Addr} {roc boc : Nat} {nv : Value} (hgl : g < w.heap.size) (hF : Fr g w.heap.size a) (hn : a.tmps.getD 3 undef = nv)
    (GQ : Hid (GX w wq g s low most n1 xs1 n2 xs2 least pos er y (.slice roa n1 roc) (.slice boa n2 boc))) (b : Bool) (hb : b = (er != 0))
    (hQ : ∀ a', Fr g w.heap.size a' → a'.tmps.getD 3 undef = nv → a'.tmps.getD 56 undef = .bool b → K a' wq) :
    Code.wp Tryd.prog c (Exit.then K fun _ _ _ => False) a wq := by
  have HQ := hide hQ
  clear hQ
  obtain ⟨t', d'⟩ := a
  obtain ⟨hs1, hd1, hp1, hp2⟩ := hF
  obtain ⟨u, hu⟩ := frame_row t' hs1
  simp only at hd1 hp1 hp2
  subst hu hd1
  have hp1' : u 0 = .pointer (some ⟨g, 0, none⟩) := hp1
  have hp2' : u 2 = .pointer (some ⟨w.heap.size, 0, none⟩) := hp2
  rw [hp1', hp2']
  clear hp1 hp2 hp1' hp2' hs1
  have hn' : u 3 = nv := hn
  rw [hn']
  clear hn hn'
  simp only [Tryd.f33, Option.getD_some, regOf] at hc
  injection hc with hc
  subst hc
  generalize u 1 = u1
  generalize u 4 = u4
  generalize u 5 = u5
  generalize u 6 = u6
  generalize u 7 = u7
  generalize u 8 = u8
  generalize u 9 = u9
  generalize u 10 = u10
  generalize u 11 = u11
  generalize u 12 = u12
  generalize u 13 = u13
  generalize u 14 = u14
  generalize u 15 = u15
  generalize u 16 = u16
  generalize u 17 = u17
  generalize u 18 = u18
  generalize u 19 = u19
  generalize u 20 = u20
  generalize u 21 = u21
  generalize u 22 = u22
  generalize u 23 = u23
  generalize u 24 = u24
  generalize u 25 = u25
  generalize u 26 = u26
  generalize u 27 = u27
  generalize u 28 = u28
  generalize u 29 = u29
  generalize u 30 = u30
  generalize u 31 = u31
  generalize u 32 = u32
  generalize u 33 = u33
  generalize u 34 = u34
  generalize u 35 = u35
  generalize u 36 = u36
  generalize u 37 = u37
  generalize u 38 = u38
  generalize u 39 = u39
  generalize u 40 = u40
  generalize u 41 = u41
  generalize u 42 = u42
  generalize u 43 = u43
  generalize u 44 = u44
  generalize u 45 = u45
  generalize u 46 = u46
  generalize u 47 = u47
  generalize u 48 = u48
  generalize u 49 = u49
  generalize u 50 = u50
  generalize u 51 = u51
  generalize u 52 = u52
  generalize u 53 = u53
  generalize u 54 = u54
  generalize u 55 = u55
  generalize u 56 = u56
  generalize u 57 = u57
  generalize u 58 = u58
  generalize u 59 = u59
  generalize u 60 = u60
  generalize u 61 = u61
  generalize u 62 = u62
  generalize u 63 = u63
  generalize u 64 = u64
  generalize u 65 = u65
  generalize u 66 = u66
  generalize u 67 = u67
  generalize u 68 = u68
  generalize u 69 = u69
  generalize u 70 = u70
  generalize u 71 = u71
  generalize u 72 = u72
  generalize u 73 = u73
  generalize u 74 = u74
  generalize u 75 = u75
  generalize u 76 = u76
  generalize u 77 = u77
  generalize u 78 = u78
  generalize u 79 = u79
  generalize u 80 = u80
  generalize u 81 = u81
  generalize u 82 = u82
  generalize u 83 = u83
  generalize u 84 = u84
  generalize u 85 = u85
  generalize u 86 = u86
  generalize u 87 = u87
  generalize u 88 = u88
  generalize u 89 = u89
  generalize u 90 = u90
  generalize u 91 = u91
  generalize u 92 = u92
  generalize u 93 = u93
  generalize u 94 = u94
  generalize u 95 = u95
  generalize u 96 = u96
  generalize u 97 = u97
  generalize u 98 = u98
  generalize u 99 = u99
  generalize u 100 = u100
  generalize u 101 = u101
  generalize u 102 = u102
  generalize u 103 = u103
  generalize u 104 = u104
  generalize u 105 = u105
  generalize u 106 = u106
  generalize u 107 = u107
  clear u
  obtain ⟨⟨c0, c1, c2, c3, c4, c5, c6, c7⟩, hfz⟩ := box8 GQ.out.box
  obtain ⟨⟨r0, r1, r2, r3, r4⟩, rf0, rf1, rf2, rf3, rf4⟩ := box5 GQ.out.rcd
  have hgne : g ≠ w.heap.size := by omega
  subst hb
  go_wp2
  exact HQ.out _ ⟨rfl, rfl, rfl, rfl⟩ rfl rfl
end Go.Proofs.YtgnehnlmbodijaaDoor
/-
  goOn's region 5, as it runs.
-/
namespace Go.Proofs.YtgnehnlmbodijaaDoor
open Go.RowKit

set_option maxHeartbeats 8000000 in
set_option maxRecDepth 100000 in
theorem reg5_any {K : Act → World → Prop} {c : Code} (hc : regOf (Tryd.f33.body.getD .skip) 5 = some c) (a : Act) {w wq : World} {g : Nat} {s : ByteArray} {low most : Int} {n1 n2 : Nat} {xs1 xs2 : List Value} {least : Int} {pos : Nat} {er : Int} {y : Rec} {roa boa : Option Addr} {roc boc : Nat} {nv : Value} (hgl : g < w.heap.size) (hF : Fr g w.heap.size a) (hn : a.tmps.getD 3 undef = nv)
    (GQ : Hid (GX w wq g s low most n1 xs1 n2 xs2 least pos er y (.slice roa n1 roc) (.slice boa n2 boc))) (b : Bool) (hb : b = decide (low ≤ y.off))
    (hQ : ∀ a' n, Fr g w.heap.size a' → a'.tmps.getD 3 undef = nv → a'.tmps.getD 63 undef = .bool b → K a' (wq.drewN n)) :
    Code.wp Tryd.prog c (Exit.then K fun _ _ _ => False) a wq := by
  have HQ := hide hQ
  clear hQ
  obtain ⟨t', d'⟩ := a
  obtain ⟨hs1, hd1, hp1, hp2⟩ := hF
  obtain ⟨u, hu⟩ := frame_row t' hs1
  simp only at hd1 hp1 hp2
  subst hu hd1
  have hp1' : u 0 = .pointer (some ⟨g, 0, none⟩) := hp1
  have hp2' : u 2 = .pointer (some ⟨w.heap.size, 0, none⟩) := hp2
  rw [hp1', hp2']
  clear hp1 hp2 hp1' hp2' hs1
  have hn' : u 3 = nv := hn
  rw [hn']
  clear hn hn'
  simp only [Tryd.f33, Option.getD_some, regOf] at hc
  injection hc with hc
  subst hc
  generalize u 1 = u1
  generalize u 4 = u4
  generalize u 5 = u5
  generalize u 6 = u6
  generalize u 7 = u7
  generalize u 8 = u8
  generalize u 9 = u9
  generalize u 10 = u10
  generalize u 11 = u11
  generalize u 12 = u12
  generalize u 13 = u13
  generalize u 14 = u14
  generalize u 15 = u15
  generalize u 16 = u16
  generalize u 17 = u17
  generalize u 18 = u18
  generalize u 19 = u19
  generalize u 20 = u20
  generalize u 21 = u21
  generalize u 22 = u22
  generalize u 23 = u23
  generalize u 24 = u24
  generalize u 25 = u25
  generalize u 26 = u26
  generalize u 27 = u27
  generalize u 28 = u28
  generalize u 29 = u29
  generalize u 30 = u30
  generalize u 31 = u31
  generalize u 32 = u32
  generalize u 33 = u33
  generalize u 34 = u34
  generalize u 35 = u35
  generalize u 36 = u36
  generalize u 37 = u37
  generalize u 38 = u38
  generalize u 39 = u39
  generalize u 40 = u40
  generalize u 41 = u41
  generalize u 42 = u42
  generalize u 43 = u43
  generalize u 44 = u44
  generalize u 45 = u45
  generalize u 46 = u46
  generalize u 47 = u47
  generalize u 48 = u48
  generalize u 49 = u49
  generalize u 50 = u50
  generalize u 51 = u51
  generalize u 52 = u52
  generalize u 53 = u53
  generalize u 54 = u54
  generalize u 55 = u55
  generalize u 56 = u56
  generalize u 57 = u57
  generalize u 58 = u58
  generalize u 59 = u59
  generalize u 60 = u60
  generalize u 61 = u61
  generalize u 62 = u62
  generalize u 63 = u63
  generalize u 64 = u64
  generalize u 65 = u65
  generalize u 66 = u66
  generalize u 67 = u67
  generalize u 68 = u68
  generalize u 69 = u69
  generalize u 70 = u70
  generalize u 71 = u71
  generalize u 72 = u72
  generalize u 73 = u73
  generalize u 74 = u74
  generalize u 75 = u75
  generalize u 76 = u76
  generalize u 77 = u77
  generalize u 78 = u78
  generalize u 79 = u79
  generalize u 80 = u80
  generalize u 81 = u81
  generalize u 82 = u82
  generalize u 83 = u83
  generalize u 84 = u84
  generalize u 85 = u85
  generalize u 86 = u86
  generalize u 87 = u87
  generalize u 88 = u88
  generalize u 89 = u89
  generalize u 90 = u90
  generalize u 91 = u91
  generalize u 92 = u92
  generalize u 93 = u93
  generalize u 94 = u94
  generalize u 95 = u95
  generalize u 96 = u96
  generalize u 97 = u97
  generalize u 98 = u98
  generalize u 99 = u99
  generalize u 100 = u100
  generalize u 101 = u101
  generalize u 102 = u102
  generalize u 103 = u103
  generalize u 104 = u104
  generalize u 105 = u105
  generalize u 106 = u106
  generalize u 107 = u107
  clear u
  obtain ⟨⟨c0, c1, c2, c3, c4, c5, c6, c7⟩, hfz⟩ := box8 GQ.out.box
  obtain ⟨⟨r0, r1, r2, r3, r4⟩, rf0, rf1, rf2, rf3, rf4⟩ := box5 GQ.out.rcd
  have hgne : g ≠ w.heap.size := by omega
  by_cases hlo : low ≤ y.off
  · rw [decide_eq_true hlo] at hb
    subst hb
    have hd1 : decide (low ≤ y.off) = true := decide_eq_true hlo
    go_quiet (fail)
    exact HQ.out _ _ ⟨rfl, rfl, rfl, rfl⟩ rfl rfl
  · rw [decide_eq_false hlo] at hb
    subst hb
    have hd1 : decide (low ≤ y.off) = false := decide_eq_false hlo
    go_quiet (fail)
    exact HQ.out _ _ ⟨rfl, rfl, rfl, rfl⟩ rfl rfl
end Go.Proofs.YtgnehnlmbodijaaDoor
/-
  goOn's region 6, as it runs.
-/
namespace Go.Proofs.YtgnehnlmbodijaaDoor
open Go.RowKit

set_option maxHeartbeats 8000000 in
set_option maxRecDepth 100000 in
theorem reg6_any {K : Act → World → Prop} {c : Code} (hc : regOf (Tryd.f33.body.getD .skip) 6 = some c) (a : Act) {w wq : World} {g : Nat} {s : ByteArray} {low most : Int} {out : List (Rec × Nat)} {least : Int} {pos : Nat} (hgl : g < w.heap.size) (hF : Fr g w.heap.size a) {y : Rec} {roa boa : Option Addr} {roc boc : Nat} {nv : Value} (hn : a.tmps.getD 3 undef = nv) (hfit : out.length + 1 ≤ 1099511627776) (GS6 : Hid (GS w wq g s low most out least pos 0 y (.slice roa out.length roc) (.slice boa out.length boc)))
    (hQ : ∀ a' w' ra rc, Fr g w.heap.size a' → a'.tmps.getD 3 undef = nv → GX w w' g s low most (out.length + 1) (recCells out ++ y.cells) out.length (posCells out) least pos 0 y (.slice ra (out.length + 1) rc) (.slice boa out.length boc) → K a' w') :
    Code.wp Tryd.prog c (Exit.then K fun _ _ _ => False) a wq := by
  have HQ := hide hQ
  clear hQ
  obtain ⟨t', d'⟩ := a
  obtain ⟨hs1, hd1, hp1, hp2⟩ := hF
  obtain ⟨u, hu⟩ := frame_row t' hs1
  simp only at hd1 hp1 hp2
  subst hu hd1
  have hp1' : u 0 = .pointer (some ⟨g, 0, none⟩) := hp1
  have hp2' : u 2 = .pointer (some ⟨w.heap.size, 0, none⟩) := hp2
  rw [hp1', hp2']
  clear hp1 hp2 hp1' hp2' hs1
  have hn' : u 3 = nv := hn
  rw [hn']
  clear hn hn'
  simp only [Tryd.f33, Option.getD_some, regOf] at hc
  injection hc with hc
  subst hc
  generalize u 1 = u1
  generalize u 4 = u4
  generalize u 5 = u5
  generalize u 6 = u6
  generalize u 7 = u7
  generalize u 8 = u8
  generalize u 9 = u9
  generalize u 10 = u10
  generalize u 11 = u11
  generalize u 12 = u12
  generalize u 13 = u13
  generalize u 14 = u14
  generalize u 15 = u15
  generalize u 16 = u16
  generalize u 17 = u17
  generalize u 18 = u18
  generalize u 19 = u19
  generalize u 20 = u20
  generalize u 21 = u21
  generalize u 22 = u22
  generalize u 23 = u23
  generalize u 24 = u24
  generalize u 25 = u25
  generalize u 26 = u26
  generalize u 27 = u27
  generalize u 28 = u28
  generalize u 29 = u29
  generalize u 30 = u30
  generalize u 31 = u31
  generalize u 32 = u32
  generalize u 33 = u33
  generalize u 34 = u34
  generalize u 35 = u35
  generalize u 36 = u36
  generalize u 37 = u37
  generalize u 38 = u38
  generalize u 39 = u39
  generalize u 40 = u40
  generalize u 41 = u41
  generalize u 42 = u42
  generalize u 43 = u43
  generalize u 44 = u44
  generalize u 45 = u45
  generalize u 46 = u46
  generalize u 47 = u47
  generalize u 48 = u48
  generalize u 49 = u49
  generalize u 50 = u50
  generalize u 51 = u51
  generalize u 52 = u52
  generalize u 53 = u53
  generalize u 54 = u54
  generalize u 55 = u55
  generalize u 56 = u56
  generalize u 57 = u57
  generalize u 58 = u58
  generalize u 59 = u59
  generalize u 60 = u60
  generalize u 61 = u61
  generalize u 62 = u62
  generalize u 63 = u63
  generalize u 64 = u64
  generalize u 65 = u65
  generalize u 66 = u66
  generalize u 67 = u67
  generalize u 68 = u68
  generalize u 69 = u69
  generalize u 70 = u70
  generalize u 71 = u71
  generalize u 72 = u72
  generalize u 73 = u73
  generalize u 74 = u74
  generalize u 75 = u75
  generalize u 76 = u76
  generalize u 77 = u77
  generalize u 78 = u78
  generalize u 79 = u79
  generalize u 80 = u80
  generalize u 81 = u81
  generalize u 82 = u82
  generalize u 83 = u83
  generalize u 84 = u84
  generalize u 85 = u85
  generalize u 86 = u86
  generalize u 87 = u87
  generalize u 88 = u88
  generalize u 89 = u89
  generalize u 90 = u90
  generalize u 91 = u91
  generalize u 92 = u92
  generalize u 93 = u93
  generalize u 94 = u94
  generalize u 95 = u95
  generalize u 96 = u96
  generalize u 97 = u97
  generalize u 98 = u98
  generalize u 99 = u99
  generalize u 100 = u100
  generalize u 101 = u101
  generalize u 102 = u102
  generalize u 103 = u103
  generalize u 104 = u104
  generalize u 105 = u105
  generalize u 106 = u106
  generalize u 107 = u107
  clear u
  obtain ⟨⟨c0, c1, c2, c3, c4, c5, c6, c7⟩, hfz⟩ := box8 GS6.out.box
  obtain ⟨⟨r0, r1, r2, r3, r4⟩, rf0, rf1, rf2, rf3, rf4⟩ := box5 GS6.out.rcd
  have h6g := GS6.out.glt
  have h6r := GS6.out.lt
  have hgne : g ≠ w.heap.size := by omega
  have hgn6 : g ≠ wq.heap.size := by omega
  have hrn6 : w.heap.size ≠ wq.heap.size := by omega
  go_region_law (refine step_append_lies _ (by rfl) _ _ _ (by rfl) (w.heap.size + 1) 23 Tryd.t23 _ 5 64 Tryd.underlying31 Tryd.infoRec Tryd.zeroRec Tryd.sizeRec Tryd.bytesRec rfl (by omega) (.slice roa out.length roc) out.length (recCells out) (by rfl) (by first | exact GS6.out.rows.alloc _ | exact GS6.out.drew.rows.alloc _) ⟨wq.heap.size, 0, none⟩ 1 1 y.cells (by rfl) (by rfl) (World.news_of_block (cs := #[.int .i64 y.off, .string y.prod, .int .i64 y.seq, .string y.key, .string y.val]) (t := 23) (fr := (0, 0)) (by first | exact heap_alloc_new wq _ | exact heap_alloc_new wq.drew _)) y.ones (by omega) (by unfold maxLen; omega) (by omega) (by simp; omega) (wq.heap.size + 1) (by simp) ?_; intro g3 cap3 w3 hown3 hgrow3 hat3 hlt3; obtain ⟨m1, m2, m3, m4⟩ := GS6.out.drew.mid1 hgl hgrow3; obtain ⟨⟨c0, c1, c2, c3, c4, c5, c6, c7⟩, hfz⟩ := box8 m1; have hf0 := hfz 0)
  all_goals exact HQ.out _ _ _ _ ⟨rfl, rfl, rfl, rfl⟩ rfl (GS6.out.drew.rows1 hgl hgrow3 hown3 hat3)
end Go.Proofs.YtgnehnlmbodijaaDoor
/-
  goOn's region 7, as it runs.
-/
namespace Go.Proofs.YtgnehnlmbodijaaDoor
open Go.RowKit

set_option maxHeartbeats 8000000 in
set_option maxRecDepth 100000 in
theorem reg7_any {K : Act → World → Prop} {c : Code} (hc : regOf (Tryd.f33.body.getD .skip) 7 = some c) (a : Act) {w wq : World} {g : Nat} {s : ByteArray} {low most : Int} {out : List (Rec × Nat)} {least : Int} {pos : Nat} (hgl : g < w.heap.size) (hF : Fr g w.heap.size a) {y : Rec} {ra boa : Option Addr} {rc boc : Nat} {nv : Value} (hn : a.tmps.getD 3 undef = nv) (hfit : out.length + 1 ≤ 1099511627776) (GS7 : Hid (GX w wq g s low most (out.length + 1) (recCells out ++ y.cells) out.length (posCells out) least pos 0 y (.slice ra (out.length + 1) rc) (.slice boa out.length boc)))
    (hQ : ∀ a' w' ba bc, Fr g w.heap.size a' → a'.tmps.getD 3 undef = nv → GX w w' g s low most (out.length + 1) (recCells out ++ y.cells) (out.length + 1) (posCells out ++ [.int .i64 pos]) least pos 0 y (.slice ra (out.length + 1) rc) (.slice ba (out.length + 1) bc) → K a' w') :
    Code.wp Tryd.prog c (Exit.then K fun _ _ _ => False) a wq := by
  have HQ := hide hQ
  clear hQ
  obtain ⟨t', d'⟩ := a
  obtain ⟨hs1, hd1, hp1, hp2⟩ := hF
  obtain ⟨u, hu⟩ := frame_row t' hs1
  simp only at hd1 hp1 hp2
  subst hu hd1
  have hp1' : u 0 = .pointer (some ⟨g, 0, none⟩) := hp1
  have hp2' : u 2 = .pointer (some ⟨w.heap.size, 0, none⟩) := hp2
  rw [hp1', hp2']
  clear hp1 hp2 hp1' hp2' hs1
  have hn' : u 3 = nv := hn
  rw [hn']
  clear hn hn'
  simp only [Tryd.f33, Option.getD_some, regOf] at hc
  injection hc with hc
  subst hc
  generalize u 1 = u1
  generalize u 4 = u4
  generalize u 5 = u5
  generalize u 6 = u6
  generalize u 7 = u7
  generalize u 8 = u8
  generalize u 9 = u9
  generalize u 10 = u10
  generalize u 11 = u11
  generalize u 12 = u12
  generalize u 13 = u13
  generalize u 14 = u14
  generalize u 15 = u15
  generalize u 16 = u16
  generalize u 17 = u17
  generalize u 18 = u18
  generalize u 19 = u19
  generalize u 20 = u20
  generalize u 21 = u21
  generalize u 22 = u22
  generalize u 23 = u23
  generalize u 24 = u24
  generalize u 25 = u25
  generalize u 26 = u26
  generalize u 27 = u27
  generalize u 28 = u28
  generalize u 29 = u29
  generalize u 30 = u30
  generalize u 31 = u31
  generalize u 32 = u32
  generalize u 33 = u33
  generalize u 34 = u34
  generalize u 35 = u35
  generalize u 36 = u36
  generalize u 37 = u37
  generalize u 38 = u38
  generalize u 39 = u39
  generalize u 40 = u40
  generalize u 41 = u41
  generalize u 42 = u42
  generalize u 43 = u43
  generalize u 44 = u44
  generalize u 45 = u45
  generalize u 46 = u46
  generalize u 47 = u47
  generalize u 48 = u48
  generalize u 49 = u49
  generalize u 50 = u50
  generalize u 51 = u51
  generalize u 52 = u52
  generalize u 53 = u53
  generalize u 54 = u54
  generalize u 55 = u55
  generalize u 56 = u56
  generalize u 57 = u57
  generalize u 58 = u58
  generalize u 59 = u59
  generalize u 60 = u60
  generalize u 61 = u61
  generalize u 62 = u62
  generalize u 63 = u63
  generalize u 64 = u64
  generalize u 65 = u65
  generalize u 66 = u66
  generalize u 67 = u67
  generalize u 68 = u68
  generalize u 69 = u69
  generalize u 70 = u70
  generalize u 71 = u71
  generalize u 72 = u72
  generalize u 73 = u73
  generalize u 74 = u74
  generalize u 75 = u75
  generalize u 76 = u76
  generalize u 77 = u77
  generalize u 78 = u78
  generalize u 79 = u79
  generalize u 80 = u80
  generalize u 81 = u81
  generalize u 82 = u82
  generalize u 83 = u83
  generalize u 84 = u84
  generalize u 85 = u85
  generalize u 86 = u86
  generalize u 87 = u87
  generalize u 88 = u88
  generalize u 89 = u89
  generalize u 90 = u90
  generalize u 91 = u91
  generalize u 92 = u92
  generalize u 93 = u93
  generalize u 94 = u94
  generalize u 95 = u95
  generalize u 96 = u96
  generalize u 97 = u97
  generalize u 98 = u98
  generalize u 99 = u99
  generalize u 100 = u100
  generalize u 101 = u101
  generalize u 102 = u102
  generalize u 103 = u103
  generalize u 104 = u104
  generalize u 105 = u105
  generalize u 106 = u106
  generalize u 107 = u107
  clear u
  obtain ⟨⟨c0, c1, c2, c3, c4, c5, c6, c7⟩, hfz⟩ := box8 GS7.out.box
  have h7g := GS7.out.glt
  have h7r := GS7.out.lt
  have hgne : g ≠ w.heap.size := by omega
  have hgn7 : g ≠ wq.heap.size := by omega
  go_region_law (refine step_append_lies _ (by rfl) _ _ _ (by rfl) (w.heap.size + 1) 3 Tryd.t3 _ 1 8 Tryd.underlying50 Tryd.infoInt Tryd.zeroInt Tryd.sizeInt Tryd.bytesInt rfl (by omega) (.slice boa out.length boc) out.length (posCells out) (by rfl) (by first | exact GS7.out.begs.alloc _ | exact GS7.out.drew.begs.alloc _) ⟨wq.heap.size, 0, none⟩ 1 1 [.int .i64 pos] (by rfl) (by rfl) (World.news_of_block (cs := #[.int .i64 pos]) (t := 3) (fr := (0, 0)) (by first | exact heap_alloc_new wq _ | exact heap_alloc_new wq.drew _)) (by intro v hv; simp at hv; subst hv; rfl) (by omega) (by unfold maxLen; omega) (by omega) (by simp; omega) (wq.heap.size + 1) (by simp) ?_; intro g3 cap3 w3 hown3 hgrow3 hat3 hlt3; obtain ⟨m1, m2, m3, m4⟩ := GS7.out.drew.mid2 hgl hgrow3; obtain ⟨⟨c0, c1, c2, c3, c4, c5, c6, c7⟩, hfz⟩ := box8 m1; have hf1 := hfz 1)
  all_goals exact HQ.out _ _ _ _ ⟨rfl, rfl, rfl, rfl⟩ rfl (GS7.out.drew.rows2 hgl hgrow3 hown3 hat3)
end Go.Proofs.YtgnehnlmbodijaaDoor
/-
  goOn's region 8, as it runs.
-/
namespace Go.Proofs.YtgnehnlmbodijaaDoor
open Go.RowKit

set_option maxHeartbeats 8000000 in
set_option maxRecDepth 100000 in
theorem reg8_any {K : Act → World → Prop} {c : Code} (hc : regOf (Tryd.f33.body.getD .skip) 8 = some c) (a : Act) {w wq : World} {g : Nat} {s : ByteArray} {low most : Int} {n1 n2 : Nat} {xs1 xs2 : List Value} {least : Int} {pos : Nat} {er : Int} {y : Rec} {roa boa : Option Addr} {roc boc : Nat} {nv : Value} (hgl : g < w.heap.size) (hF : Fr g w.heap.size a) (hn : a.tmps.getD 3 undef = nv)
    (GQ : Hid (GX w wq g s low most n1 xs1 n2 xs2 least pos er y (.slice roa n1 roc) (.slice boa n2 boc))) (hy0 : 0 ≤ y.off) (hy1 : y.off ≤ 9007199254740991)
    (hQ : ∀ a', Fr g w.heap.size a' → a'.tmps.getD 3 undef = nv → K a' (wq.setCell ⟨g, 5, none⟩ (.int .i64 (y.off + 1)))) :
    Code.wp Tryd.prog c (Exit.then K fun _ _ _ => False) a wq := by
  have HQ := hide hQ
  clear hQ
  obtain ⟨t', d'⟩ := a
  obtain ⟨hs1, hd1, hp1, hp2⟩ := hF
  obtain ⟨u, hu⟩ := frame_row t' hs1
  simp only at hd1 hp1 hp2
  subst hu hd1
  have hp1' : u 0 = .pointer (some ⟨g, 0, none⟩) := hp1
  have hp2' : u 2 = .pointer (some ⟨w.heap.size, 0, none⟩) := hp2
  rw [hp1', hp2']
  clear hp1 hp2 hp1' hp2' hs1
  have hn' : u 3 = nv := hn
  rw [hn']
  clear hn hn'
  simp only [Tryd.f33, Option.getD_some, regOf] at hc
  injection hc with hc
  subst hc
  generalize u 1 = u1
  generalize u 4 = u4
  generalize u 5 = u5
  generalize u 6 = u6
  generalize u 7 = u7
  generalize u 8 = u8
  generalize u 9 = u9
  generalize u 10 = u10
  generalize u 11 = u11
  generalize u 12 = u12
  generalize u 13 = u13
  generalize u 14 = u14
  generalize u 15 = u15
  generalize u 16 = u16
  generalize u 17 = u17
  generalize u 18 = u18
  generalize u 19 = u19
  generalize u 20 = u20
  generalize u 21 = u21
  generalize u 22 = u22
  generalize u 23 = u23
  generalize u 24 = u24
  generalize u 25 = u25
  generalize u 26 = u26
  generalize u 27 = u27
  generalize u 28 = u28
  generalize u 29 = u29
  generalize u 30 = u30
  generalize u 31 = u31
  generalize u 32 = u32
  generalize u 33 = u33
  generalize u 34 = u34
  generalize u 35 = u35
  generalize u 36 = u36
  generalize u 37 = u37
  generalize u 38 = u38
  generalize u 39 = u39
  generalize u 40 = u40
  generalize u 41 = u41
  generalize u 42 = u42
  generalize u 43 = u43
  generalize u 44 = u44
  generalize u 45 = u45
  generalize u 46 = u46
  generalize u 47 = u47
  generalize u 48 = u48
  generalize u 49 = u49
  generalize u 50 = u50
  generalize u 51 = u51
  generalize u 52 = u52
  generalize u 53 = u53
  generalize u 54 = u54
  generalize u 55 = u55
  generalize u 56 = u56
  generalize u 57 = u57
  generalize u 58 = u58
  generalize u 59 = u59
  generalize u 60 = u60
  generalize u 61 = u61
  generalize u 62 = u62
  generalize u 63 = u63
  generalize u 64 = u64
  generalize u 65 = u65
  generalize u 66 = u66
  generalize u 67 = u67
  generalize u 68 = u68
  generalize u 69 = u69
  generalize u 70 = u70
  generalize u 71 = u71
  generalize u 72 = u72
  generalize u 73 = u73
  generalize u 74 = u74
  generalize u 75 = u75
  generalize u 76 = u76
  generalize u 77 = u77
  generalize u 78 = u78
  generalize u 79 = u79
  generalize u 80 = u80
  generalize u 81 = u81
  generalize u 82 = u82
  generalize u 83 = u83
  generalize u 84 = u84
  generalize u 85 = u85
  generalize u 86 = u86
  generalize u 87 = u87
  generalize u 88 = u88
  generalize u 89 = u89
  generalize u 90 = u90
  generalize u 91 = u91
  generalize u 92 = u92
  generalize u 93 = u93
  generalize u 94 = u94
  generalize u 95 = u95
  generalize u 96 = u96
  generalize u 97 = u97
  generalize u 98 = u98
  generalize u 99 = u99
  generalize u 100 = u100
  generalize u 101 = u101
  generalize u 102 = u102
  generalize u 103 = u103
  generalize u 104 = u104
  generalize u 105 = u105
  generalize u 106 = u106
  generalize u 107 = u107
  clear u
  obtain ⟨⟨c0, c1, c2, c3, c4, c5, c6, c7⟩, hfz⟩ := box8 GQ.out.box
  obtain ⟨⟨r0, r1, r2, r3, r4⟩, rf0, rf1, rf2, rf3, rf4⟩ := box5 GQ.out.rcd
  have hgne : g ≠ w.heap.size := by omega
  have hf5 := hfz 5
  have hw1 : wrap64 (y.off + 1) = y.off + 1 := in64 _ (by omega) (by omega)
  go_wp2
  exact HQ.out _ ⟨rfl, rfl, rfl, rfl⟩ rfl
end Go.Proofs.YtgnehnlmbodijaaDoor
/-
  goOn's region 9, as it runs.
-/
namespace Go.Proofs.YtgnehnlmbodijaaDoor
open Go.RowKit

set_option maxHeartbeats 8000000 in
set_option maxRecDepth 100000 in
theorem reg9_any {K : Act → World → Prop} {c : Code} (hc : regOf (Tryd.f33.body.getD .skip) 9 = some c) (a : Act) {w wq : World} {g : Nat} {s : ByteArray} {low most : Int} {n1 n2 : Nat} {xs1 xs2 : List Value} {least : Int} {pos : Nat} {er : Int} {y : Rec} {roa boa : Option Addr} {roc boc : Nat} {nv : Value} (hgl : g < w.heap.size) (hF : Fr g w.heap.size a) (hn : a.tmps.getD 3 undef = nv)
    (GQ : Hid (GX w wq g s low most n1 xs1 n2 xs2 least pos er y (.slice roa n1 roc) (.slice boa n2 boc))) (n : Nat) (hnv : nv = .int .i64 n) (hn1 : pos + n ≤ 9223372036854775807)
    (hQ : ∀ a', Fr g w.heap.size a' → K a' (wq.setCell ⟨g, 2, none⟩ (.int .i64 ((pos + n : Nat) : Int)))) :
    Code.wp Tryd.prog c (Exit.then K fun _ _ _ => False) a wq := by
  have HQ := hide hQ
  clear hQ
  obtain ⟨t', d'⟩ := a
  obtain ⟨hs1, hd1, hp1, hp2⟩ := hF
  obtain ⟨u, hu⟩ := frame_row t' hs1
  simp only at hd1 hp1 hp2
  subst hu hd1
  have hp1' : u 0 = .pointer (some ⟨g, 0, none⟩) := hp1
  have hp2' : u 2 = .pointer (some ⟨w.heap.size, 0, none⟩) := hp2
  rw [hp1', hp2']
  clear hp1 hp2 hp1' hp2' hs1
  have hn' : u 3 = nv := hn
  rw [hn']
  clear hn hn'
  simp only [Tryd.f33, Option.getD_some, regOf] at hc
  injection hc with hc
  subst hc
  generalize u 1 = u1
  generalize u 4 = u4
  generalize u 5 = u5
  generalize u 6 = u6
  generalize u 7 = u7
  generalize u 8 = u8
  generalize u 9 = u9
  generalize u 10 = u10
  generalize u 11 = u11
  generalize u 12 = u12
  generalize u 13 = u13
  generalize u 14 = u14
  generalize u 15 = u15
  generalize u 16 = u16
  generalize u 17 = u17
  generalize u 18 = u18
  generalize u 19 = u19
  generalize u 20 = u20
  generalize u 21 = u21
  generalize u 22 = u22
  generalize u 23 = u23
  generalize u 24 = u24
  generalize u 25 = u25
  generalize u 26 = u26
  generalize u 27 = u27
  generalize u 28 = u28
  generalize u 29 = u29
  generalize u 30 = u30
  generalize u 31 = u31
  generalize u 32 = u32
  generalize u 33 = u33
  generalize u 34 = u34
  generalize u 35 = u35
  generalize u 36 = u36
  generalize u 37 = u37
  generalize u 38 = u38
  generalize u 39 = u39
  generalize u 40 = u40
  generalize u 41 = u41
  generalize u 42 = u42
  generalize u 43 = u43
  generalize u 44 = u44
  generalize u 45 = u45
  generalize u 46 = u46
  generalize u 47 = u47
  generalize u 48 = u48
  generalize u 49 = u49
  generalize u 50 = u50
  generalize u 51 = u51
  generalize u 52 = u52
  generalize u 53 = u53
  generalize u 54 = u54
  generalize u 55 = u55
  generalize u 56 = u56
  generalize u 57 = u57
  generalize u 58 = u58
  generalize u 59 = u59
  generalize u 60 = u60
  generalize u 61 = u61
  generalize u 62 = u62
  generalize u 63 = u63
  generalize u 64 = u64
  generalize u 65 = u65
  generalize u 66 = u66
  generalize u 67 = u67
  generalize u 68 = u68
  generalize u 69 = u69
  generalize u 70 = u70
  generalize u 71 = u71
  generalize u 72 = u72
  generalize u 73 = u73
  generalize u 74 = u74
  generalize u 75 = u75
  generalize u 76 = u76
  generalize u 77 = u77
  generalize u 78 = u78
  generalize u 79 = u79
  generalize u 80 = u80
  generalize u 81 = u81
  generalize u 82 = u82
  generalize u 83 = u83
  generalize u 84 = u84
  generalize u 85 = u85
  generalize u 86 = u86
  generalize u 87 = u87
  generalize u 88 = u88
  generalize u 89 = u89
  generalize u 90 = u90
  generalize u 91 = u91
  generalize u 92 = u92
  generalize u 93 = u93
  generalize u 94 = u94
  generalize u 95 = u95
  generalize u 96 = u96
  generalize u 97 = u97
  generalize u 98 = u98
  generalize u 99 = u99
  generalize u 100 = u100
  generalize u 101 = u101
  generalize u 102 = u102
  generalize u 103 = u103
  generalize u 104 = u104
  generalize u 105 = u105
  generalize u 106 = u106
  generalize u 107 = u107
  clear u
  obtain ⟨⟨c0, c1, c2, c3, c4, c5, c6, c7⟩, hfz⟩ := box8 GQ.out.box
  obtain ⟨⟨r0, r1, r2, r3, r4⟩, rf0, rf1, rf2, rf3, rf4⟩ := box5 GQ.out.rcd
  have hgne : g ≠ w.heap.size := by omega
  subst hnv
  have hf2 := hfz 2
  have hw2 : wrap64 ((pos : Int) + (n : Int)) = ((pos + n : Nat) : Int) := by rw [in64 _ (by omega) (by omega)]; omega
  go_wp2
  rw [show (pos : Int) + (n : Int) = ((pos + n : Nat) : Int) by omega]
  exact HQ.out _ ⟨rfl, rfl, rfl, rfl⟩
end Go.Proofs.YtgnehnlmbodijaaDoor
