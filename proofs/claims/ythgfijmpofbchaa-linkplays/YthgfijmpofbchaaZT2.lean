/-
  turn: its frame, and where its parts are (mkturn.py).
-/
import Derived.Test.YthgfijmpofbchaaZT1
import Derived.Test.YthgfijmpofbchaaZPick
import Derived.Test.YthgfijmpofbchaaZLast
import Derived.Test.YthgfijmpofbchaaZS1
import Derived.ScopeJumps
import Derived.WalkMore
import Derived.Deep.DrawnRows
import Derived.Deep.RegionHeldLaw
import Derived.Deep.AppendLies
import Derived.Shelf.Abstract
import Derived.Deep.QuietTactic
import Derived.BigRegion
import Derived.Maps.AppendAt
import Derived.Laws.OwnMore
namespace Go.Proofs.Ythgfijmpofbchaa
open Go.RowKit

/-- The region of that number. -/
def regOf : Code → Nat → Option Code
  | .region i ops d, k => match i == k with
    | true => some (.region i ops d)
    | false => none
  | .seq a b, k => match regOf a k with
    | some c => some c
    | none => regOf b k
  | .cond _ a b, k => match regOf a k with
    | some c => some c
    | none => regOf b k
  | .block _ c, k => regOf c k
  | .loop c, k => regOf c k
  | .scope c, k => regOf c k
  | _, _ => none
set_option maxRecDepth 100000 in
theorem frame_row (t : Array Value) (h : t.size = 229) : ∃ u : Nat → Value, t = List.toArray (u 0 :: u 1 :: u 2 :: u 3 :: u 4 :: u 5 :: u 6 :: u 7 :: u 8 :: u 9 :: u 10 :: u 11 :: u 12 :: u 13 :: u 14 :: u 15 :: u 16 :: u 17 :: u 18 :: u 19 :: u 20 :: u 21 :: u 22 :: u 23 :: u 24 :: u 25 :: u 26 :: u 27 :: u 28 :: u 29 :: u 30 :: u 31 :: u 32 :: u 33 :: u 34 :: u 35 :: u 36 :: u 37 :: u 38 :: u 39 :: u 40 :: u 41 :: u 42 :: u 43 :: u 44 :: u 45 :: u 46 :: u 47 :: u 48 :: u 49 :: u 50 :: u 51 :: u 52 :: u 53 :: u 54 :: u 55 :: u 56 :: u 57 :: u 58 :: u 59 :: u 60 :: u 61 :: u 62 :: u 63 :: u 64 :: u 65 :: u 66 :: u 67 :: u 68 :: u 69 :: u 70 :: u 71 :: u 72 :: u 73 :: u 74 :: u 75 :: u 76 :: u 77 :: u 78 :: u 79 :: u 80 :: u 81 :: u 82 :: u 83 :: u 84 :: u 85 :: u 86 :: u 87 :: u 88 :: u 89 :: u 90 :: u 91 :: u 92 :: u 93 :: u 94 :: u 95 :: u 96 :: u 97 :: u 98 :: u 99 :: u 100 :: u 101 :: u 102 :: u 103 :: u 104 :: u 105 :: u 106 :: u 107 :: u 108 :: u 109 :: u 110 :: u 111 :: u 112 :: u 113 :: u 114 :: u 115 :: u 116 :: u 117 :: u 118 :: u 119 :: u 120 :: u 121 :: u 122 :: u 123 :: u 124 :: u 125 :: u 126 :: u 127 :: u 128 :: u 129 :: u 130 :: u 131 :: u 132 :: u 133 :: u 134 :: u 135 :: u 136 :: u 137 :: u 138 :: u 139 :: u 140 :: u 141 :: u 142 :: u 143 :: u 144 :: u 145 :: u 146 :: u 147 :: u 148 :: u 149 :: u 150 :: u 151 :: u 152 :: u 153 :: u 154 :: u 155 :: u 156 :: u 157 :: u 158 :: u 159 :: u 160 :: u 161 :: u 162 :: u 163 :: u 164 :: u 165 :: u 166 :: u 167 :: u 168 :: u 169 :: u 170 :: u 171 :: u 172 :: u 173 :: u 174 :: u 175 :: u 176 :: u 177 :: u 178 :: u 179 :: u 180 :: u 181 :: u 182 :: u 183 :: u 184 :: u 185 :: u 186 :: u 187 :: u 188 :: u 189 :: u 190 :: u 191 :: u 192 :: u 193 :: u 194 :: u 195 :: u 196 :: u 197 :: u 198 :: u 199 :: u 200 :: u 201 :: u 202 :: u 203 :: u 204 :: u 205 :: u 206 :: u 207 :: u 208 :: u 209 :: u 210 :: u 211 :: u 212 :: u 213 :: u 214 :: u 215 :: u 216 :: u 217 :: u 218 :: u 219 :: u 220 :: u 221 :: u 222 :: u 223 :: u 224 :: u 225 :: u 226 :: u 227 :: u 228 :: []) := by
  refine ⟨fun i => t.getD i undef, ?_⟩
  have e : (List.toArray ((fun i => t.getD i undef) 0 :: (fun i => t.getD i undef) 1 :: (fun i => t.getD i undef) 2 :: (fun i => t.getD i undef) 3 :: (fun i => t.getD i undef) 4 :: (fun i => t.getD i undef) 5 :: (fun i => t.getD i undef) 6 :: (fun i => t.getD i undef) 7 :: (fun i => t.getD i undef) 8 :: (fun i => t.getD i undef) 9 :: (fun i => t.getD i undef) 10 :: (fun i => t.getD i undef) 11 :: (fun i => t.getD i undef) 12 :: (fun i => t.getD i undef) 13 :: (fun i => t.getD i undef) 14 :: (fun i => t.getD i undef) 15 :: (fun i => t.getD i undef) 16 :: (fun i => t.getD i undef) 17 :: (fun i => t.getD i undef) 18 :: (fun i => t.getD i undef) 19 :: (fun i => t.getD i undef) 20 :: (fun i => t.getD i undef) 21 :: (fun i => t.getD i undef) 22 :: (fun i => t.getD i undef) 23 :: (fun i => t.getD i undef) 24 :: (fun i => t.getD i undef) 25 :: (fun i => t.getD i undef) 26 :: (fun i => t.getD i undef) 27 :: (fun i => t.getD i undef) 28 :: (fun i => t.getD i undef) 29 :: (fun i => t.getD i undef) 30 :: (fun i => t.getD i undef) 31 :: (fun i => t.getD i undef) 32 :: (fun i => t.getD i undef) 33 :: (fun i => t.getD i undef) 34 :: (fun i => t.getD i undef) 35 :: (fun i => t.getD i undef) 36 :: (fun i => t.getD i undef) 37 :: (fun i => t.getD i undef) 38 :: (fun i => t.getD i undef) 39 :: (fun i => t.getD i undef) 40 :: (fun i => t.getD i undef) 41 :: (fun i => t.getD i undef) 42 :: (fun i => t.getD i undef) 43 :: (fun i => t.getD i undef) 44 :: (fun i => t.getD i undef) 45 :: (fun i => t.getD i undef) 46 :: (fun i => t.getD i undef) 47 :: (fun i => t.getD i undef) 48 :: (fun i => t.getD i undef) 49 :: (fun i => t.getD i undef) 50 :: (fun i => t.getD i undef) 51 :: (fun i => t.getD i undef) 52 :: (fun i => t.getD i undef) 53 :: (fun i => t.getD i undef) 54 :: (fun i => t.getD i undef) 55 :: (fun i => t.getD i undef) 56 :: (fun i => t.getD i undef) 57 :: (fun i => t.getD i undef) 58 :: (fun i => t.getD i undef) 59 :: (fun i => t.getD i undef) 60 :: (fun i => t.getD i undef) 61 :: (fun i => t.getD i undef) 62 :: (fun i => t.getD i undef) 63 :: (fun i => t.getD i undef) 64 :: (fun i => t.getD i undef) 65 :: (fun i => t.getD i undef) 66 :: (fun i => t.getD i undef) 67 :: (fun i => t.getD i undef) 68 :: (fun i => t.getD i undef) 69 :: (fun i => t.getD i undef) 70 :: (fun i => t.getD i undef) 71 :: (fun i => t.getD i undef) 72 :: (fun i => t.getD i undef) 73 :: (fun i => t.getD i undef) 74 :: (fun i => t.getD i undef) 75 :: (fun i => t.getD i undef) 76 :: (fun i => t.getD i undef) 77 :: (fun i => t.getD i undef) 78 :: (fun i => t.getD i undef) 79 :: (fun i => t.getD i undef) 80 :: (fun i => t.getD i undef) 81 :: (fun i => t.getD i undef) 82 :: (fun i => t.getD i undef) 83 :: (fun i => t.getD i undef) 84 :: (fun i => t.getD i undef) 85 :: (fun i => t.getD i undef) 86 :: (fun i => t.getD i undef) 87 :: (fun i => t.getD i undef) 88 :: (fun i => t.getD i undef) 89 :: (fun i => t.getD i undef) 90 :: (fun i => t.getD i undef) 91 :: (fun i => t.getD i undef) 92 :: (fun i => t.getD i undef) 93 :: (fun i => t.getD i undef) 94 :: (fun i => t.getD i undef) 95 :: (fun i => t.getD i undef) 96 :: (fun i => t.getD i undef) 97 :: (fun i => t.getD i undef) 98 :: (fun i => t.getD i undef) 99 :: (fun i => t.getD i undef) 100 :: (fun i => t.getD i undef) 101 :: (fun i => t.getD i undef) 102 :: (fun i => t.getD i undef) 103 :: (fun i => t.getD i undef) 104 :: (fun i => t.getD i undef) 105 :: (fun i => t.getD i undef) 106 :: (fun i => t.getD i undef) 107 :: (fun i => t.getD i undef) 108 :: (fun i => t.getD i undef) 109 :: (fun i => t.getD i undef) 110 :: (fun i => t.getD i undef) 111 :: (fun i => t.getD i undef) 112 :: (fun i => t.getD i undef) 113 :: (fun i => t.getD i undef) 114 :: (fun i => t.getD i undef) 115 :: (fun i => t.getD i undef) 116 :: (fun i => t.getD i undef) 117 :: (fun i => t.getD i undef) 118 :: (fun i => t.getD i undef) 119 :: (fun i => t.getD i undef) 120 :: (fun i => t.getD i undef) 121 :: (fun i => t.getD i undef) 122 :: (fun i => t.getD i undef) 123 :: (fun i => t.getD i undef) 124 :: (fun i => t.getD i undef) 125 :: (fun i => t.getD i undef) 126 :: (fun i => t.getD i undef) 127 :: (fun i => t.getD i undef) 128 :: (fun i => t.getD i undef) 129 :: (fun i => t.getD i undef) 130 :: (fun i => t.getD i undef) 131 :: (fun i => t.getD i undef) 132 :: (fun i => t.getD i undef) 133 :: (fun i => t.getD i undef) 134 :: (fun i => t.getD i undef) 135 :: (fun i => t.getD i undef) 136 :: (fun i => t.getD i undef) 137 :: (fun i => t.getD i undef) 138 :: (fun i => t.getD i undef) 139 :: (fun i => t.getD i undef) 140 :: (fun i => t.getD i undef) 141 :: (fun i => t.getD i undef) 142 :: (fun i => t.getD i undef) 143 :: (fun i => t.getD i undef) 144 :: (fun i => t.getD i undef) 145 :: (fun i => t.getD i undef) 146 :: (fun i => t.getD i undef) 147 :: (fun i => t.getD i undef) 148 :: (fun i => t.getD i undef) 149 :: (fun i => t.getD i undef) 150 :: (fun i => t.getD i undef) 151 :: (fun i => t.getD i undef) 152 :: (fun i => t.getD i undef) 153 :: (fun i => t.getD i undef) 154 :: (fun i => t.getD i undef) 155 :: (fun i => t.getD i undef) 156 :: (fun i => t.getD i undef) 157 :: (fun i => t.getD i undef) 158 :: (fun i => t.getD i undef) 159 :: (fun i => t.getD i undef) 160 :: (fun i => t.getD i undef) 161 :: (fun i => t.getD i undef) 162 :: (fun i => t.getD i undef) 163 :: (fun i => t.getD i undef) 164 :: (fun i => t.getD i undef) 165 :: (fun i => t.getD i undef) 166 :: (fun i => t.getD i undef) 167 :: (fun i => t.getD i undef) 168 :: (fun i => t.getD i undef) 169 :: (fun i => t.getD i undef) 170 :: (fun i => t.getD i undef) 171 :: (fun i => t.getD i undef) 172 :: (fun i => t.getD i undef) 173 :: (fun i => t.getD i undef) 174 :: (fun i => t.getD i undef) 175 :: (fun i => t.getD i undef) 176 :: (fun i => t.getD i undef) 177 :: (fun i => t.getD i undef) 178 :: (fun i => t.getD i undef) 179 :: (fun i => t.getD i undef) 180 :: (fun i => t.getD i undef) 181 :: (fun i => t.getD i undef) 182 :: (fun i => t.getD i undef) 183 :: (fun i => t.getD i undef) 184 :: (fun i => t.getD i undef) 185 :: (fun i => t.getD i undef) 186 :: (fun i => t.getD i undef) 187 :: (fun i => t.getD i undef) 188 :: (fun i => t.getD i undef) 189 :: (fun i => t.getD i undef) 190 :: (fun i => t.getD i undef) 191 :: (fun i => t.getD i undef) 192 :: (fun i => t.getD i undef) 193 :: (fun i => t.getD i undef) 194 :: (fun i => t.getD i undef) 195 :: (fun i => t.getD i undef) 196 :: (fun i => t.getD i undef) 197 :: (fun i => t.getD i undef) 198 :: (fun i => t.getD i undef) 199 :: (fun i => t.getD i undef) 200 :: (fun i => t.getD i undef) 201 :: (fun i => t.getD i undef) 202 :: (fun i => t.getD i undef) 203 :: (fun i => t.getD i undef) 204 :: (fun i => t.getD i undef) 205 :: (fun i => t.getD i undef) 206 :: (fun i => t.getD i undef) 207 :: (fun i => t.getD i undef) 208 :: (fun i => t.getD i undef) 209 :: (fun i => t.getD i undef) 210 :: (fun i => t.getD i undef) 211 :: (fun i => t.getD i undef) 212 :: (fun i => t.getD i undef) 213 :: (fun i => t.getD i undef) 214 :: (fun i => t.getD i undef) 215 :: (fun i => t.getD i undef) 216 :: (fun i => t.getD i undef) 217 :: (fun i => t.getD i undef) 218 :: (fun i => t.getD i undef) 219 :: (fun i => t.getD i undef) 220 :: (fun i => t.getD i undef) 221 :: (fun i => t.getD i undef) 222 :: (fun i => t.getD i undef) 223 :: (fun i => t.getD i undef) 224 :: (fun i => t.getD i undef) 225 :: (fun i => t.getD i undef) 226 :: (fun i => t.getD i undef) 227 :: (fun i => t.getD i undef) 228 :: []) : Array Value) = ((List.range 229).map fun i => t.getD i undef).toArray := rfl
  refine Eq.trans ?_ e.symm
  apply Array.ext
  · simp [h]
  · intro k h1 h2
    simp [Array.getD, h1]
theorem reg_mono {P : Program} {K : Act → World → Prop} {Q : Exit → Act → World → Prop} {c : Code} {a : Act} {w : World} (h : Code.wp P c (Exit.then K fun _ _ _ => False) a w) : Code.wp P c (Exit.then K Q) a w :=
  wp_mono h fun e a w q => by
    cases e with
    | normal => exact q
    | _ => exact False.elim q
theorem reg_all {P : Program} {Q : Exit → Act → World → Prop} {c : Code} {a : Act} {w : World} (h : Code.wp P c (Exit.then (fun a w => Q .normal a w) fun _ _ _ => False) a w) : Code.wp P c Q a w :=
  wp_mono h fun e a w q => by
    cases e with
    | normal => exact q
    | _ => exact False.elim q
/-- What holds of the frame. -/
structure FT (a : Act) (pb d : Nat) (k o : Nat) (v7 v8 v9 v10 v11 v19 : Value) : Prop where
  size : a.tmps.size = 229
  defers : a.defers = []
  s0 : a.tmps.getD 0 undef = .pointer (some ⟨pb, 0, none⟩)
  s3 : a.tmps.getD 3 undef = .pointer (some ⟨d, 0, none⟩)
  s5 : a.tmps.getD 5 undef = .int .i64 k
  s6 : a.tmps.getD 6 undef = .int .i64 o
  s7 : a.tmps.getD 7 undef = v7
  s8 : a.tmps.getD 8 undef = v8
  s9 : a.tmps.getD 9 undef = v9
  s10 : a.tmps.getD 10 undef = v10
  s11 : a.tmps.getD 11 undef = v11
  s19 : a.tmps.getD 19 undef = v19
/-- append, as one step of a region that draws its order; what is appended may be nothing. -/
theorem step_append_at {P : Program} {w : World} {ops : Array Oper} {o : Oper} {a : Act} {K : Act → World → Prop} {Q : Exit → Act → World → Prop} {E : Prop} (hgd : o.guard = none) (s x : Operand) (t : TypeId)
    (ho : o.op = .call { callee := .builtin .append, args := #[s, x], argTypes := #[t, t] })
    (base : Nat) (e : TypeId) (i : TypeInfo) (z : Value) (size bytes : Nat) (ht : P.underlying t = some (.slice e)) (hi : P.info? e = some i) (hz : i.zero = some z)
    (hsize : i.size = size) (hby : i.bytes = bytes) (hzs : z.cells.size = size) (hsz : 0 < size)
    (v : Value) (n : Nat) (xs : List Value) (hs : a.eval s = v) (hown : w.ownsRow base e size v n xs)
    (ad : Addr) (m c : Nat) (news : List Value) (hx : a.eval x = .slice (some ad) m c) (hl : news.length = m * size) (hnews : ∀ j u, news[j]? = some u → w.cell? (ad.add j) = some u) (h1 : ∀ u ∈ news, u.oneCell' = true)
    (h63 : n + m ≤ maxLen) (hbytes : (n + m) * bytes ≤ 140737488355328) (hbase : base ≤ w.heap.size)
    (h : ∀ ao cp w', w'.ownsRow base e size (.slice ao (n + m) cp) (n + m) (xs ++ news) → w.grownBy w' v.ownBlock → ((Value.slice ao (n + m) cp).ownBlock = v.ownBlock ∨ (Value.slice ao (n + m) cp).ownBlock = some w.heap.size) → K (a.put o.dst (.slice ao (n + m) cp)) w') :
    if Region.wanted o (yielded ops a.tmps) = true then Oper.wp P o a w K Q else E := by
  have hw : Region.wanted o (yielded ops a.tmps) = true := by simp [Region.wanted, hgd]
  rw [if_pos hw]
  obtain ⟨v', w', hr, h2, h3, h4, h5⟩ := run_append_own_at (P := P) w base t o.type e i z size bytes ht hi hz hsize hby hzs hsz v n xs hown ad m c news hl hnews h1 h63 hbytes hbase
  obtain ⟨ao, cp, rfl⟩ := row_slice h2
  unfold Oper.wp execOp
  simp only [ho, resolve, invoke, builtin, Sem.run_bind, Sem.run_pure, Result.andThen_ok, List.map_toArray, List.map_cons, List.map_nil, hs, hx, hr]
  exact h ao cp w' h2 h3 h5
theorem step_fn_d {P : Program} {w : World} {ops : Array Oper} {o : Oper} {a : Act} {K : Act → World → Prop} {Q : Exit → Act → World → Prop} {E : Prop} (hw : Region.wanted o (yielded ops a.tmps) = true) (d : Nat) (hd : o.dst = some d) (k : Nat) (args : Array Operand) (ts : Array TypeId)
    (ho : o.op = .call { callee := .value (.func k), args := args, argTypes := ts }) (hk : ∀ args w, (callFunc k args).run P w = .ok (.enter k args) w) (vs : List Value) (hvs' : args.toList.map a.eval = vs) {R : Ending → World → Prop} (hc : Calls P k vs.toArray w R)
    (h : ∀ e w', R e w' → ∃ v, e = .returned v ∧ K (a.put (some d) v) w') :
    if Region.wanted o (yielded ops a.tmps) = true then Oper.wp P o a w K Q else E := by
  rw [if_pos hw]
  have hvs : args.map a.eval = vs.toArray := by rw [← hvs', ← Array.toList_map, Array.toArray_toList]
  unfold Oper.wp
  simp [execOp, ho, resolve, invoke, hvs, Act.eval, Deferred.ofValue, hk, Oper.upon]
  refine hc.mono ?_
  intro e w' hr
  obtain ⟨v, rfl, hv⟩ := h e w' hr
  rw [hd]
  exact hv
/-- append of nothing. -/
theorem step_append_none {P : Program} {w : World} {ops : Array Oper} {o : Oper} {a : Act} {K : Act → World → Prop} {Q : Exit → Act → World → Prop} {E : Prop} (hgd : o.guard = none) (s x : Operand) (t : TypeId)
    (ho : o.op = .call { callee := .builtin .append, args := #[s, x], argTypes := #[t, t] })
    (base : Nat) (e : TypeId) (i : TypeInfo) (size : Nat) (ht : P.underlying t = some (.slice e)) (hi : P.info? e = some i)
    (v : Value) (n : Nat) (xs : List Value) (hs : a.eval s = v) (hown : w.ownsRow base e size v n xs) (hx : a.eval x = .slice none 0 0) (h : K (a.put o.dst v) w) :
    if Region.wanted o (yielded ops a.tmps) = true then Oper.wp P o a w K Q else E := by
  have hw : Region.wanted o (yielded ops a.tmps) = true := by simp [Region.wanted, hgd]
  rw [if_pos hw]
  have hr := run_append_owned_none (P := P) w base t o.type e i size ht hi v n xs hown
  unfold Oper.wp execOp
  simp only [ho, resolve, invoke, builtin, Sem.run_bind, Sem.run_pure, Result.andThen_ok, List.map_toArray, List.map_cons, List.map_nil, hs, hx, hr]
  exact h
/-- A turn. -/
structure TN where
  kind : Int
  who : Int
  i : Int
  s : ByteArray
abbrev TN.c (t : TN) : Array Value := #[.int .i64 t.kind, .int .i64 t.who, .int .i64 t.i, .string t.s]
def TN.v (t : TN) : Value := .agg t.c
/-- The pair, and a turn in a box. -/
structure PT (B : BE) (w : World) (G : PG) (r : Nat → Nat) (p : PR) (d : Nat) (t : TN) : Prop where
  pa : PA B w G r p
  tn : w.heap[d]? = some (.cells t.c 52 (0, 0))
  rd : r d = 0
  dB : B.n ≤ d
theorem PT.to {B : BE} {w w' : World} {G G' : PG} {r r' : Nat → Nat} {p p' : PR} {d : Nat} {t : TN} {own : Nat → Prop} (h : PT B w G r p d t) (hp : PA B w' G' r' p') (ht : Touch own w w') (hn : ¬ own d) (hr : r' d = 0) : PT B w' G' r' p' d t :=
  ⟨hp, ht.at h.tn hn, hr, h.dB⟩
theorem PT.below {B : BE} {w w' : World} {G : PG} {r : Nat → Nat} {p : PR} {d : Nat} {t : TN} (h : PT B w G r p d t) (hb : Below w.heap.size w w') : PT B w' G r p d t :=
  ⟨h.pa.below hb, (hb.block d (heap_lt h.tn)).trans h.tn, h.rd, h.dB⟩
/-- An end was called. -/
theorem PT.call {B : BE} {w w' : World} {G : PG} {r : Nat → Nat} {p : PR} {d : Nat} {t : TN} (h : PT B w G r p d t) (x : Bool) {v' : Value} {l' : LK} (hp : PL w' (G.b x) v' l') (hs : PStep w w' (G.b x) (G.v x) v') : PT B w' { G with v := set G.v x v' } (upd r w.heap.size v'.ownBlock (8 + ix x)) { p with l := set p.l x l' } d t ∧ Below B w w' := by
  have own : ∀ j, pown (G.b x) (G.v x) j → 1 ≤ r j := fun j hj => by
    rcases hj with rfl | hj
    · rw [h.pa.rb x]; omega
    · rw [h.pa.rv x j hj]; omega
  exact ⟨⟨h.pa.call x hp hs, hs.touch.at h.tn (fun e => by have := own d e; rw [h.rd] at this; omega), by rw [upd_old (heap_lt h.tn)]; exact h.rd, h.dB⟩, h.pa.toBelow hs.touch fun j hj _ => own j hj⟩
theorem PT.ways {B : BE} {w w' : World} {G : PG} {r : Nat → Nat} {p : PR} {d : Nat} {t : TN} (h : PT B w G r p d t) (x : Bool) {v' : Value} {L : List FR} (ht : Touch (fun j => r j = 3 ∨ r j = 10 + ix x) w w') (hb : w'.heap[G.wb]? = some (.cells (two (set G.wv x v')) 38 (0, 0))) (hr : w'.ownsRow B 31 5 v' L.length (frCells L)) (hg : ∀ j, v'.ownBlock = some j → (G.wv x).ownBlock = some j ∨ w.heap.size ≤ j) : PT B w' { G with wv := set G.wv x v' } (upd r w.heap.size v'.ownBlock (10 + ix x)) { p with way := set p.way x L } d t ∧ Below B w w' :=
  ⟨⟨h.pa.ways x ht hb hr hg, ht.at h.tn (by rw [h.rd]; omega), by rw [upd_old (heap_lt h.tn)]; exact h.rd, h.dB⟩, h.pa.toBelow ht fun j hj _ => by omega⟩
theorem PT.sents {B : BE} {w w' : World} {G : PG} {r : Nat → Nat} {p : PR} {d : Nat} {t : TN} (h : PT B w G r p d t) (x : Bool) {v' : Value} {L : List ByteArray} (ht : Touch (fun j => r j = 4 ∨ r j = 12 + ix x) w w') (hb : w'.heap[G.sb]? = some (.cells (two (set G.sv x v')) 40 (0, 0))) (hr : w'.ownsRow B 9 1 v' L.length (L.map .string)) (hg : ∀ j, v'.ownBlock = some j → (G.sv x).ownBlock = some j ∨ w.heap.size ≤ j) : PT B w' { G with sv := set G.sv x v' } (upd r w.heap.size v'.ownBlock (12 + ix x)) { p with sent := set p.sent x L } d t ∧ Below B w w' :=
  ⟨⟨h.pa.sents x ht hb hr hg, ht.at h.tn (by rw [h.rd]; omega), by rw [upd_old (heap_lt h.tn)]; exact h.rd, h.dB⟩, h.pa.toBelow ht fun j hj _ => by omega⟩
theorem PT.tolds {B : BE} {w w' : World} {G : PG} {r : Nat → Nat} {p : PR} {d : Nat} {t : TN} (h : PT B w G r p d t) (x : Bool) {v' : Value} {L : List ByteArray} (ht : Touch (fun j => r j = 5 ∨ r j = 14 + ix x) w w') (hb : w'.heap[G.tb]? = some (.cells (two (set G.tv x v')) 40 (0, 0))) (hr : w'.ownsRow B 9 1 v' L.length (L.map .string)) (hg : ∀ j, v'.ownBlock = some j → (G.tv x).ownBlock = some j ∨ w.heap.size ≤ j) : PT B w' { G with tv := set G.tv x v' } (upd r w.heap.size v'.ownBlock (14 + ix x)) { p with told := set p.told x L } d t ∧ Below B w w' :=
  ⟨⟨h.pa.tolds x ht hb hr hg, ht.at h.tn (by rw [h.rd]; omega), by rw [upd_old (heap_lt h.tn)]; exact h.rd, h.dB⟩, h.pa.toBelow ht fun j hj _ => by omega⟩
theorem set_self {α : Type} (f : Bool → α) (x : Bool) : set f x (f x) = f := by
  funext y
  unfold set
  split
  · rename_i h; rw [h]
  · rfl
theorem below_of_drew {B : Nat} {w w' : World} (h : Below B w.drew w') : Below B w w' := ⟨h.os, h.tape, h.output, h.size, h.block⟩
theorem PT.drew {B : BE} {w : World} {G : PG} {r : Nat → Nat} {p : PR} {d : Nat} {t : TN} (h : PT B w G r p d t) : PT B w.drew G r p d t := ⟨h.pa.drew, h.tn, h.rd, h.dB⟩
theorem PT.lt {B : BE} {w : World} {G : PG} {r : Nat → Nat} {p : PR} {d : Nat} {t : TN} (h : PT B w G r p d t) : d < w.heap.size := heap_lt h.tn
section
variable {B : BE} {w : World} {G : PG} {r : Nat → Nat} {p : PR}
theorem PA.cp (h : PA B w G r p) : w.cell? ⟨G.pb, 0, none⟩ = some (sl2 G.lb) ∧ w.cell? ⟨G.pb, 1, none⟩ = some (sl2 G.wb) ∧ w.cell? ⟨G.pb, 2, none⟩ = some (sl2 G.sb) ∧ w.cell? ⟨G.pb, 3, none⟩ = some (sl2 G.tb) := ⟨box_cell h.box 0 rfl, box_cell h.box 1 rfl, box_cell h.box 2 rfl, box_cell h.box 3 rfl⟩
theorem PA.cl (h : PA B w G r p) (x : Bool) : w.cell? ⟨G.lb, ix x, none⟩ = some (.pointer (some ⟨G.b x, 0, none⟩)) := box_cell h.lbox (ix x) (two_at (fun x => .pointer (some ⟨G.b x, 0, none⟩)) x)
theorem PA.cw (h : PA B w G r p) (x : Bool) : w.cell? ⟨G.wb, ix x, none⟩ = some (G.wv x) := box_cell h.wbox (ix x) (two_at G.wv x)
theorem PA.cs (h : PA B w G r p) (x : Bool) : w.cell? ⟨G.sb, ix x, none⟩ = some (G.sv x) := box_cell h.sbox (ix x) (two_at G.sv x)
theorem PA.ct (h : PA B w G r p) (x : Bool) : w.cell? ⟨G.tb, ix x, none⟩ = some (G.tv x) := box_cell h.tbox (ix x) (two_at G.tv x)
end
end Go.Proofs.Ythgfijmpofbchaa
