/-
  LinkAnew: its frame, and what lies in memory (mkanew.py).
-/
import Derived.Test.YthgfijmpofbchaaZTB
import Derived.Test.YthgfijmpofbchaaZTK
import Derived.Laws.AppendOwnNone
namespace Go.Proofs.Ythgfijmpofbchaa
open Go.RowKit

set_option maxRecDepth 100000 in
theorem frame300 (t : Array Value) (h : t.size = 300) : ∃ u : Nat → Value, t = List.toArray (u 0 :: u 1 :: u 2 :: u 3 :: u 4 :: u 5 :: u 6 :: u 7 :: u 8 :: u 9 :: u 10 :: u 11 :: u 12 :: u 13 :: u 14 :: u 15 :: u 16 :: u 17 :: u 18 :: u 19 :: u 20 :: u 21 :: u 22 :: u 23 :: u 24 :: u 25 :: u 26 :: u 27 :: u 28 :: u 29 :: u 30 :: u 31 :: u 32 :: u 33 :: u 34 :: u 35 :: u 36 :: u 37 :: u 38 :: u 39 :: u 40 :: u 41 :: u 42 :: u 43 :: u 44 :: u 45 :: u 46 :: u 47 :: u 48 :: u 49 :: u 50 :: u 51 :: u 52 :: u 53 :: u 54 :: u 55 :: u 56 :: u 57 :: u 58 :: u 59 :: u 60 :: u 61 :: u 62 :: u 63 :: u 64 :: u 65 :: u 66 :: u 67 :: u 68 :: u 69 :: u 70 :: u 71 :: u 72 :: u 73 :: u 74 :: u 75 :: u 76 :: u 77 :: u 78 :: u 79 :: u 80 :: u 81 :: u 82 :: u 83 :: u 84 :: u 85 :: u 86 :: u 87 :: u 88 :: u 89 :: u 90 :: u 91 :: u 92 :: u 93 :: u 94 :: u 95 :: u 96 :: u 97 :: u 98 :: u 99 :: u 100 :: u 101 :: u 102 :: u 103 :: u 104 :: u 105 :: u 106 :: u 107 :: u 108 :: u 109 :: u 110 :: u 111 :: u 112 :: u 113 :: u 114 :: u 115 :: u 116 :: u 117 :: u 118 :: u 119 :: u 120 :: u 121 :: u 122 :: u 123 :: u 124 :: u 125 :: u 126 :: u 127 :: u 128 :: u 129 :: u 130 :: u 131 :: u 132 :: u 133 :: u 134 :: u 135 :: u 136 :: u 137 :: u 138 :: u 139 :: u 140 :: u 141 :: u 142 :: u 143 :: u 144 :: u 145 :: u 146 :: u 147 :: u 148 :: u 149 :: u 150 :: u 151 :: u 152 :: u 153 :: u 154 :: u 155 :: u 156 :: u 157 :: u 158 :: u 159 :: u 160 :: u 161 :: u 162 :: u 163 :: u 164 :: u 165 :: u 166 :: u 167 :: u 168 :: u 169 :: u 170 :: u 171 :: u 172 :: u 173 :: u 174 :: u 175 :: u 176 :: u 177 :: u 178 :: u 179 :: u 180 :: u 181 :: u 182 :: u 183 :: u 184 :: u 185 :: u 186 :: u 187 :: u 188 :: u 189 :: u 190 :: u 191 :: u 192 :: u 193 :: u 194 :: u 195 :: u 196 :: u 197 :: u 198 :: u 199 :: u 200 :: u 201 :: u 202 :: u 203 :: u 204 :: u 205 :: u 206 :: u 207 :: u 208 :: u 209 :: u 210 :: u 211 :: u 212 :: u 213 :: u 214 :: u 215 :: u 216 :: u 217 :: u 218 :: u 219 :: u 220 :: u 221 :: u 222 :: u 223 :: u 224 :: u 225 :: u 226 :: u 227 :: u 228 :: u 229 :: u 230 :: u 231 :: u 232 :: u 233 :: u 234 :: u 235 :: u 236 :: u 237 :: u 238 :: u 239 :: u 240 :: u 241 :: u 242 :: u 243 :: u 244 :: u 245 :: u 246 :: u 247 :: u 248 :: u 249 :: u 250 :: u 251 :: u 252 :: u 253 :: u 254 :: u 255 :: u 256 :: u 257 :: u 258 :: u 259 :: u 260 :: u 261 :: u 262 :: u 263 :: u 264 :: u 265 :: u 266 :: u 267 :: u 268 :: u 269 :: u 270 :: u 271 :: u 272 :: u 273 :: u 274 :: u 275 :: u 276 :: u 277 :: u 278 :: u 279 :: u 280 :: u 281 :: u 282 :: u 283 :: u 284 :: u 285 :: u 286 :: u 287 :: u 288 :: u 289 :: u 290 :: u 291 :: u 292 :: u 293 :: u 294 :: u 295 :: u 296 :: u 297 :: u 298 :: u 299 :: []) := by
  refine ⟨fun i => t.getD i undef, ?_⟩
  have e : (List.toArray ((fun i => t.getD i undef) 0 :: (fun i => t.getD i undef) 1 :: (fun i => t.getD i undef) 2 :: (fun i => t.getD i undef) 3 :: (fun i => t.getD i undef) 4 :: (fun i => t.getD i undef) 5 :: (fun i => t.getD i undef) 6 :: (fun i => t.getD i undef) 7 :: (fun i => t.getD i undef) 8 :: (fun i => t.getD i undef) 9 :: (fun i => t.getD i undef) 10 :: (fun i => t.getD i undef) 11 :: (fun i => t.getD i undef) 12 :: (fun i => t.getD i undef) 13 :: (fun i => t.getD i undef) 14 :: (fun i => t.getD i undef) 15 :: (fun i => t.getD i undef) 16 :: (fun i => t.getD i undef) 17 :: (fun i => t.getD i undef) 18 :: (fun i => t.getD i undef) 19 :: (fun i => t.getD i undef) 20 :: (fun i => t.getD i undef) 21 :: (fun i => t.getD i undef) 22 :: (fun i => t.getD i undef) 23 :: (fun i => t.getD i undef) 24 :: (fun i => t.getD i undef) 25 :: (fun i => t.getD i undef) 26 :: (fun i => t.getD i undef) 27 :: (fun i => t.getD i undef) 28 :: (fun i => t.getD i undef) 29 :: (fun i => t.getD i undef) 30 :: (fun i => t.getD i undef) 31 :: (fun i => t.getD i undef) 32 :: (fun i => t.getD i undef) 33 :: (fun i => t.getD i undef) 34 :: (fun i => t.getD i undef) 35 :: (fun i => t.getD i undef) 36 :: (fun i => t.getD i undef) 37 :: (fun i => t.getD i undef) 38 :: (fun i => t.getD i undef) 39 :: (fun i => t.getD i undef) 40 :: (fun i => t.getD i undef) 41 :: (fun i => t.getD i undef) 42 :: (fun i => t.getD i undef) 43 :: (fun i => t.getD i undef) 44 :: (fun i => t.getD i undef) 45 :: (fun i => t.getD i undef) 46 :: (fun i => t.getD i undef) 47 :: (fun i => t.getD i undef) 48 :: (fun i => t.getD i undef) 49 :: (fun i => t.getD i undef) 50 :: (fun i => t.getD i undef) 51 :: (fun i => t.getD i undef) 52 :: (fun i => t.getD i undef) 53 :: (fun i => t.getD i undef) 54 :: (fun i => t.getD i undef) 55 :: (fun i => t.getD i undef) 56 :: (fun i => t.getD i undef) 57 :: (fun i => t.getD i undef) 58 :: (fun i => t.getD i undef) 59 :: (fun i => t.getD i undef) 60 :: (fun i => t.getD i undef) 61 :: (fun i => t.getD i undef) 62 :: (fun i => t.getD i undef) 63 :: (fun i => t.getD i undef) 64 :: (fun i => t.getD i undef) 65 :: (fun i => t.getD i undef) 66 :: (fun i => t.getD i undef) 67 :: (fun i => t.getD i undef) 68 :: (fun i => t.getD i undef) 69 :: (fun i => t.getD i undef) 70 :: (fun i => t.getD i undef) 71 :: (fun i => t.getD i undef) 72 :: (fun i => t.getD i undef) 73 :: (fun i => t.getD i undef) 74 :: (fun i => t.getD i undef) 75 :: (fun i => t.getD i undef) 76 :: (fun i => t.getD i undef) 77 :: (fun i => t.getD i undef) 78 :: (fun i => t.getD i undef) 79 :: (fun i => t.getD i undef) 80 :: (fun i => t.getD i undef) 81 :: (fun i => t.getD i undef) 82 :: (fun i => t.getD i undef) 83 :: (fun i => t.getD i undef) 84 :: (fun i => t.getD i undef) 85 :: (fun i => t.getD i undef) 86 :: (fun i => t.getD i undef) 87 :: (fun i => t.getD i undef) 88 :: (fun i => t.getD i undef) 89 :: (fun i => t.getD i undef) 90 :: (fun i => t.getD i undef) 91 :: (fun i => t.getD i undef) 92 :: (fun i => t.getD i undef) 93 :: (fun i => t.getD i undef) 94 :: (fun i => t.getD i undef) 95 :: (fun i => t.getD i undef) 96 :: (fun i => t.getD i undef) 97 :: (fun i => t.getD i undef) 98 :: (fun i => t.getD i undef) 99 :: (fun i => t.getD i undef) 100 :: (fun i => t.getD i undef) 101 :: (fun i => t.getD i undef) 102 :: (fun i => t.getD i undef) 103 :: (fun i => t.getD i undef) 104 :: (fun i => t.getD i undef) 105 :: (fun i => t.getD i undef) 106 :: (fun i => t.getD i undef) 107 :: (fun i => t.getD i undef) 108 :: (fun i => t.getD i undef) 109 :: (fun i => t.getD i undef) 110 :: (fun i => t.getD i undef) 111 :: (fun i => t.getD i undef) 112 :: (fun i => t.getD i undef) 113 :: (fun i => t.getD i undef) 114 :: (fun i => t.getD i undef) 115 :: (fun i => t.getD i undef) 116 :: (fun i => t.getD i undef) 117 :: (fun i => t.getD i undef) 118 :: (fun i => t.getD i undef) 119 :: (fun i => t.getD i undef) 120 :: (fun i => t.getD i undef) 121 :: (fun i => t.getD i undef) 122 :: (fun i => t.getD i undef) 123 :: (fun i => t.getD i undef) 124 :: (fun i => t.getD i undef) 125 :: (fun i => t.getD i undef) 126 :: (fun i => t.getD i undef) 127 :: (fun i => t.getD i undef) 128 :: (fun i => t.getD i undef) 129 :: (fun i => t.getD i undef) 130 :: (fun i => t.getD i undef) 131 :: (fun i => t.getD i undef) 132 :: (fun i => t.getD i undef) 133 :: (fun i => t.getD i undef) 134 :: (fun i => t.getD i undef) 135 :: (fun i => t.getD i undef) 136 :: (fun i => t.getD i undef) 137 :: (fun i => t.getD i undef) 138 :: (fun i => t.getD i undef) 139 :: (fun i => t.getD i undef) 140 :: (fun i => t.getD i undef) 141 :: (fun i => t.getD i undef) 142 :: (fun i => t.getD i undef) 143 :: (fun i => t.getD i undef) 144 :: (fun i => t.getD i undef) 145 :: (fun i => t.getD i undef) 146 :: (fun i => t.getD i undef) 147 :: (fun i => t.getD i undef) 148 :: (fun i => t.getD i undef) 149 :: (fun i => t.getD i undef) 150 :: (fun i => t.getD i undef) 151 :: (fun i => t.getD i undef) 152 :: (fun i => t.getD i undef) 153 :: (fun i => t.getD i undef) 154 :: (fun i => t.getD i undef) 155 :: (fun i => t.getD i undef) 156 :: (fun i => t.getD i undef) 157 :: (fun i => t.getD i undef) 158 :: (fun i => t.getD i undef) 159 :: (fun i => t.getD i undef) 160 :: (fun i => t.getD i undef) 161 :: (fun i => t.getD i undef) 162 :: (fun i => t.getD i undef) 163 :: (fun i => t.getD i undef) 164 :: (fun i => t.getD i undef) 165 :: (fun i => t.getD i undef) 166 :: (fun i => t.getD i undef) 167 :: (fun i => t.getD i undef) 168 :: (fun i => t.getD i undef) 169 :: (fun i => t.getD i undef) 170 :: (fun i => t.getD i undef) 171 :: (fun i => t.getD i undef) 172 :: (fun i => t.getD i undef) 173 :: (fun i => t.getD i undef) 174 :: (fun i => t.getD i undef) 175 :: (fun i => t.getD i undef) 176 :: (fun i => t.getD i undef) 177 :: (fun i => t.getD i undef) 178 :: (fun i => t.getD i undef) 179 :: (fun i => t.getD i undef) 180 :: (fun i => t.getD i undef) 181 :: (fun i => t.getD i undef) 182 :: (fun i => t.getD i undef) 183 :: (fun i => t.getD i undef) 184 :: (fun i => t.getD i undef) 185 :: (fun i => t.getD i undef) 186 :: (fun i => t.getD i undef) 187 :: (fun i => t.getD i undef) 188 :: (fun i => t.getD i undef) 189 :: (fun i => t.getD i undef) 190 :: (fun i => t.getD i undef) 191 :: (fun i => t.getD i undef) 192 :: (fun i => t.getD i undef) 193 :: (fun i => t.getD i undef) 194 :: (fun i => t.getD i undef) 195 :: (fun i => t.getD i undef) 196 :: (fun i => t.getD i undef) 197 :: (fun i => t.getD i undef) 198 :: (fun i => t.getD i undef) 199 :: (fun i => t.getD i undef) 200 :: (fun i => t.getD i undef) 201 :: (fun i => t.getD i undef) 202 :: (fun i => t.getD i undef) 203 :: (fun i => t.getD i undef) 204 :: (fun i => t.getD i undef) 205 :: (fun i => t.getD i undef) 206 :: (fun i => t.getD i undef) 207 :: (fun i => t.getD i undef) 208 :: (fun i => t.getD i undef) 209 :: (fun i => t.getD i undef) 210 :: (fun i => t.getD i undef) 211 :: (fun i => t.getD i undef) 212 :: (fun i => t.getD i undef) 213 :: (fun i => t.getD i undef) 214 :: (fun i => t.getD i undef) 215 :: (fun i => t.getD i undef) 216 :: (fun i => t.getD i undef) 217 :: (fun i => t.getD i undef) 218 :: (fun i => t.getD i undef) 219 :: (fun i => t.getD i undef) 220 :: (fun i => t.getD i undef) 221 :: (fun i => t.getD i undef) 222 :: (fun i => t.getD i undef) 223 :: (fun i => t.getD i undef) 224 :: (fun i => t.getD i undef) 225 :: (fun i => t.getD i undef) 226 :: (fun i => t.getD i undef) 227 :: (fun i => t.getD i undef) 228 :: (fun i => t.getD i undef) 229 :: (fun i => t.getD i undef) 230 :: (fun i => t.getD i undef) 231 :: (fun i => t.getD i undef) 232 :: (fun i => t.getD i undef) 233 :: (fun i => t.getD i undef) 234 :: (fun i => t.getD i undef) 235 :: (fun i => t.getD i undef) 236 :: (fun i => t.getD i undef) 237 :: (fun i => t.getD i undef) 238 :: (fun i => t.getD i undef) 239 :: (fun i => t.getD i undef) 240 :: (fun i => t.getD i undef) 241 :: (fun i => t.getD i undef) 242 :: (fun i => t.getD i undef) 243 :: (fun i => t.getD i undef) 244 :: (fun i => t.getD i undef) 245 :: (fun i => t.getD i undef) 246 :: (fun i => t.getD i undef) 247 :: (fun i => t.getD i undef) 248 :: (fun i => t.getD i undef) 249 :: (fun i => t.getD i undef) 250 :: (fun i => t.getD i undef) 251 :: (fun i => t.getD i undef) 252 :: (fun i => t.getD i undef) 253 :: (fun i => t.getD i undef) 254 :: (fun i => t.getD i undef) 255 :: (fun i => t.getD i undef) 256 :: (fun i => t.getD i undef) 257 :: (fun i => t.getD i undef) 258 :: (fun i => t.getD i undef) 259 :: (fun i => t.getD i undef) 260 :: (fun i => t.getD i undef) 261 :: (fun i => t.getD i undef) 262 :: (fun i => t.getD i undef) 263 :: (fun i => t.getD i undef) 264 :: (fun i => t.getD i undef) 265 :: (fun i => t.getD i undef) 266 :: (fun i => t.getD i undef) 267 :: (fun i => t.getD i undef) 268 :: (fun i => t.getD i undef) 269 :: (fun i => t.getD i undef) 270 :: (fun i => t.getD i undef) 271 :: (fun i => t.getD i undef) 272 :: (fun i => t.getD i undef) 273 :: (fun i => t.getD i undef) 274 :: (fun i => t.getD i undef) 275 :: (fun i => t.getD i undef) 276 :: (fun i => t.getD i undef) 277 :: (fun i => t.getD i undef) 278 :: (fun i => t.getD i undef) 279 :: (fun i => t.getD i undef) 280 :: (fun i => t.getD i undef) 281 :: (fun i => t.getD i undef) 282 :: (fun i => t.getD i undef) 283 :: (fun i => t.getD i undef) 284 :: (fun i => t.getD i undef) 285 :: (fun i => t.getD i undef) 286 :: (fun i => t.getD i undef) 287 :: (fun i => t.getD i undef) 288 :: (fun i => t.getD i undef) 289 :: (fun i => t.getD i undef) 290 :: (fun i => t.getD i undef) 291 :: (fun i => t.getD i undef) 292 :: (fun i => t.getD i undef) 293 :: (fun i => t.getD i undef) 294 :: (fun i => t.getD i undef) 295 :: (fun i => t.getD i undef) 296 :: (fun i => t.getD i undef) 297 :: (fun i => t.getD i undef) 298 :: (fun i => t.getD i undef) 299 :: []) : Array Value) = ((List.range 300).map fun i => t.getD i undef).toArray := rfl
  refine Eq.trans ?_ e.symm
  apply Array.ext
  · simp [h]
  · intro k h1 h2
    simp [Array.getD, h1]
/-- The slots that matter. -/
structure AV where
  v0 : Value
  v1 : Value
  v5 : Value
  v6 : Value
  v7 : Value
  v8 : Value
  v9 : Value
  v11 : Value
  v12 : Value
  v13 : Value
  v14 : Value
  v15 : Value
  v16 : Value
  v17 : Value
  v18 : Value
  v19 : Value
  v20 : Value
  v21 : Value
  v22 : Value
  v23 : Value
  v24 : Value
  v85 : Value
structure AF (a : Act) (v : AV) : Prop where
  size : a.tmps.size = 300
  defers : a.defers = []
  s0 : a.tmps.getD 0 undef = v.v0
  s1 : a.tmps.getD 1 undef = v.v1
  s5 : a.tmps.getD 5 undef = v.v5
  s6 : a.tmps.getD 6 undef = v.v6
  s7 : a.tmps.getD 7 undef = v.v7
  s8 : a.tmps.getD 8 undef = v.v8
  s9 : a.tmps.getD 9 undef = v.v9
  s11 : a.tmps.getD 11 undef = v.v11
  s12 : a.tmps.getD 12 undef = v.v12
  s13 : a.tmps.getD 13 undef = v.v13
  s14 : a.tmps.getD 14 undef = v.v14
  s15 : a.tmps.getD 15 undef = v.v15
  s16 : a.tmps.getD 16 undef = v.v16
  s17 : a.tmps.getD 17 undef = v.v17
  s18 : a.tmps.getD 18 undef = v.v18
  s19 : a.tmps.getD 19 undef = v.v19
  s20 : a.tmps.getD 20 undef = v.v20
  s21 : a.tmps.getD 21 undef = v.v21
  s22 : a.tmps.getD 22 undef = v.v22
  s23 : a.tmps.getD 23 undef = v.v23
  s24 : a.tmps.getD 24 undef = v.v24
  s85 : a.tmps.getD 85 undef = v.v85
/-- The pair, and rows of texts of the law's own: r, q say what a block is for. -/
structure AM (B : BE) (w : World) (G : PG) (r q : Nat → Nat) (p : PR) (rv : Nat → Value) (rl : Nat → List ByteArray) : Prop where
  pa : PA B w G r p
  nil : ∀ j, B.e j = none
  row : ∀ i, w.ownsRow B.n 9 1 (rv i) (rl i).length ((rl i).map .string)
  role : ∀ i j, (rv i).ownBlock = some j → r j = 0 ∧ q j = i + 1
/-- A box beside them. -/
structure BX (w : World) (r q : Nat → Nat) (d : Nat) (o : Obj) : Prop where
  at_ : w.heap[d]? = some o
  r0 : r d = 0
  q0 : q d = 0
section
variable {B : BE} {w w' : World} {G G' : PG} {r r' q : Nat → Nat} {p p' : PR} {rv : Nat → Value} {rl : Nat → List ByteArray} {own : Nat → Prop} {d : Nat} {o : Obj}
theorem AM.pair (h : AM B w G r q p rv rl) (hp : PA B w' G' r' p') (ht : Touch own w w') (hn : ∀ j, own j → j < w.heap.size → 1 ≤ r j) (hr : ∀ j, j < w.heap.size → r' j = r j) : AM B w' G' r' q p' rv rl :=
  ⟨hp, h.nil, fun i => ht.row (h.row i) fun j hj e => by have h1 := hn j e (row_lt (h.row i) hj); have h2 := (h.role i j hj).1; omega, fun i j hj => ⟨by rw [hr j (row_lt (h.row i) hj)]; exact (h.role i j hj).1, (h.role i j hj).2⟩⟩
theorem BX.pair (h : BX w r q d o) (ht : Touch own w w') (hn : ∀ j, own j → j < w.heap.size → 1 ≤ r j) (hr : ∀ j, j < w.heap.size → r' j = r j) : BX w' r' q d o :=
  ⟨ht.at h.at_ fun e => by have h1 := hn d e (heap_lt h.at_); have h2 := h.r0; omega, by rw [hr d (heap_lt h.at_)]; exact h.r0, h.q0⟩
theorem BX.below (h : BX w r q d o) (hb : Below w.heap.size w w') : BX w' r q d o := ⟨(hb.block d (heap_lt h.at_)).trans h.at_, h.r0, h.q0⟩
theorem AM.below (h : AM B w G r q p rv rl) (hb : Below w.heap.size w w') : AM B w' G r q p rv rl :=
  h.pair (own := fun _ => False) (h.pa.below hb) (Touch.of_below hb) (fun _ e => e.elim) fun _ _ => rfl
theorem AM.drew (h : AM B w G r q p rv rl) : AM B w.drew G r q p rv rl := h.below (Below.refl _ w).drew
theorem BX.drew (h : BX w r q d o) : BX w.drew r q d o := h.below (Below.refl _ w).drew
theorem AM.fresh (h : AM B w G r q p rv rl) : AM B w G (upd r w.heap.size none 0) (upd q w.heap.size none 0) p rv rl :=
  ⟨h.pa.fresh, h.nil, h.row, fun i j hj => by rw [upd_old (row_lt (h.row i) hj), upd_old (row_lt (h.row i) hj)]; exact h.role i j hj⟩
theorem BX.fresh (h : BX w r q d o) : BX w (upd r w.heap.size none 0) (upd q w.heap.size none 0) d o :=
  ⟨h.at_, by rw [upd_old (heap_lt h.at_)]; exact h.r0, by rw [upd_old (heap_lt h.at_)]; exact h.q0⟩
theorem upd_none (r : Nat → Nat) (n : Nat) {j : Nat} (h : n ≤ j) : upd r n none 0 j = 0 := by unfold upd; rw [if_pos h, if_neg (by simp)]
/-- A new box. -/
theorem AM.box (h : AM B w G r q p rv rl) (o : Obj) : AM B (w.alloc o) G (upd r w.heap.size none 0) (upd q w.heap.size none 0) p rv rl ∧ BX (w.alloc o) (upd r w.heap.size none 0) (upd q w.heap.size none 0) w.heap.size o :=
  ⟨h.fresh.below ((Below.refl _ w).alloc (Nat.le_refl _) o), heap_alloc_new w o, upd_none _ _ (Nat.le_refl _), upd_none _ _ (Nat.le_refl _)⟩
theorem AM.box' (h : AM B w G r q p rv rl) {o : Obj} (hb : Below w.heap.size w w') (ho : w'.heap[w.heap.size]? = some o) : AM B w' G (upd r w.heap.size none 0) (upd q w.heap.size none 0) p rv rl ∧ BX w' (upd r w.heap.size none 0) (upd q w.heap.size none 0) w.heap.size o :=
  ⟨h.fresh.below hb, ho, upd_none _ _ (Nat.le_refl _), upd_none _ _ (Nat.le_refl _)⟩
def putv {α : Type} (f : Nat → α) (i : Nat) (x : α) : Nat → α := fun k => if k = i then x else f k
theorem putv_same {α : Type} (f : Nat → α) (i : Nat) (x : α) : putv f i x i = x := if_pos rfl
theorem putv_other {α : Type} (f : Nat → α) {i k : Nat} (x : α) (h : k ≠ i) : putv f i x k = f k := if_neg h
/-- A row is another one. -/
theorem AM.grow (h : AM B w G r q p rv rl) (i : Nat) {v' : Value} {L : List ByteArray} (ht : Touch (fun j => (rv i).ownBlock = some j) w w') (hrow : w'.ownsRow B.n 9 1 v' L.length (L.map .string)) (hg : ∀ j, v'.ownBlock = some j → (rv i).ownBlock = some j ∨ w.heap.size ≤ j) :
    AM B w' G (upd r w.heap.size none 0) (upd q w.heap.size v'.ownBlock (i + 1)) p (putv rv i v') (putv rl i L) := by
  refine ⟨h.pa.fresh.keep ht (fun j e hj => by rw [upd_old hj]; exact (h.role i j e).1) (fun j _ _ => h.nil j), h.nil, fun k => ?_, fun k j hj => ?_⟩
  · by_cases e : k = i
    · subst e
      rw [putv_same, putv_same]
      exact hrow
    · rw [putv_other _ _ e, putv_other _ _ e]
      refine ht.row (h.row k) fun j hj e2 => ?_
      have h1 := (h.role k j hj).2
      have h2 := (h.role i j e2).2
      omega
  · by_cases e : k = i
    · subst e
      rw [putv_same] at hj
      rcases hg j hj with e2 | e2
      · rw [upd_old (row_lt (h.row k) e2), upd_old (row_lt (h.row k) e2)]
        exact h.role k j e2
      · exact ⟨upd_none _ _ e2, upd_new e2 hj⟩
    · rw [putv_other _ _ e] at hj
      rw [upd_old (row_lt (h.row k) hj), upd_old (row_lt (h.row k) hj)]
      exact h.role k j hj
theorem BX.grow (h : AM B w G r q p rv rl) (hx : BX w r q d o) (i : Nat) {v' : Value} (ht : Touch (fun j => (rv i).ownBlock = some j) w w') : BX w' (upd r w.heap.size none 0) (upd q w.heap.size v'.ownBlock (i + 1)) d o :=
  ⟨ht.at hx.at_ fun e => by have h1 := (h.role i d e).2; have h2 := hx.q0; omega, by rw [upd_old (heap_lt hx.at_)]; exact hx.r0, by rw [upd_old (heap_lt hx.at_)]; exact hx.q0⟩
theorem AM.toBelow (h : AM B w G r q p rv rl) (i : Nat) (ht : Touch (fun j => (rv i).ownBlock = some j) w w') : Below B.n w w' :=
  ht.toBelow h.pa.size fun k hk e => by have := ((h.row i).lt k e).1; omega
/-- The second end is a new one. -/
theorem PA.anew (h : PA B w G r p) (hn : ∀ j, B.e j = none) {w1 : World} (hb : Below w.heap.size w w1) {l' : LK} (hp : PL w1 w.heap.size (.slice none 0 0) l') :
    PA B (w1.setCell ⟨G.lb, 1, none⟩ (.pointer (some ⟨w.heap.size, 0, none⟩))) { G with b := set G.b true w.heap.size, v := set G.v true (.slice none 0 0) } (fun j => if j = w.heap.size then 7 else r j) { p with l := set p.l true l' } ∧ Below B.n w (w1.setCell ⟨G.lb, 1, none⟩ (.pointer (some ⟨w.heap.size, 0, none⟩))) := by
  have T : Touch (fun j => j = G.lb) w (w1.setCell ⟨G.lb, 1, none⟩ (.pointer (some ⟨w.heap.size, 0, none⟩))) := (Touch.of_below hb).setCell _ _ fun _ => rfl
  have old : ∀ j, j < w.heap.size → (if j = w.heap.size then 7 else r j) = r j := fun j hj => if_neg (by omega)
  have key : ∀ j, r j ≠ 2 → ¬ j = G.lb := fun j hj e => hj (by rw [e]; exact h.rl)
  have hl := heap_lt h.lbox
  refine ⟨⟨⟨T.at h.box (key _ (by rw [h.rp]; omega)), ?_, T.at h.wbox (key _ (by rw [h.rw]; omega)), T.at h.sbox (key _ (by rw [h.rs]; omega)), T.at h.tbox (key _ (by rw [h.rt]; omega)), fun x => ?_, fun x => T.row (h.way x) fun j hj => key _ (by rw [h.rwv x j hj]; omega), fun x => T.row (h.sent x) fun j hj => key _ (by rw [h.rsv x j hj]; omega), fun x => T.row (h.told x) fun j hj => key _ (by rw [h.rtv x j hj]; omega), by rw [old _ (heap_lt h.box)]; exact h.rp, by rw [old _ hl]; exact h.rl, by rw [old _ (heap_lt h.wbox)]; exact h.rw, by rw [old _ (heap_lt h.sbox)]; exact h.rs, by rw [old _ (heap_lt h.tbox)]; exact h.rt, fun x => ?_, fun x j hj => ?_, fun x j hj => by rw [old _ (row_lt (h.way x) hj)]; exact h.rwv x j hj, fun x j hj => by rw [old _ (row_lt (h.sent x) hj)]; exact h.rsv x j hj, fun x j hj => by rw [old _ (row_lt (h.told x) hj)]; exact h.rtv x j hj, fun j hj => ?_, Nat.le_trans h.size T.size⟩, fun j o e => by rw [hn j] at e; cases e⟩, T.toBelow h.size fun k hk e => ?_⟩
  · have e1 := box_set ((hb.block _ hl).trans h.lbox) 1 (.pointer (some ⟨w.heap.size, 0, none⟩))
    rw [e1]
    rfl
  · cases x
    · refine (h.link false).keep T fun j hj => key _ ?_
      rcases hj with rfl | hj
      · rw [h.rb]; simp [ix]
      · rw [h.rv false j hj]; simp [ix]
    · refine hp.keep (own := fun j => j = G.lb) ((Touch.refl _ w1).setCell _ _ fun _ => rfl) fun j hj e => ?_
      rcases hj with rfl | hj
      · have e2 : w.heap.size = G.lb := e
        omega
      · cases hj
  · cases x
    · show (if G.b false = w.heap.size then 7 else r (G.b false)) = _
      rw [old _ (heap_lt (h.link false).box)]
      exact h.rb false
    · show (if w.heap.size = w.heap.size then 7 else r w.heap.size) = _
      rw [if_pos rfl]
      rfl
  · cases x
    · have hj2 : (G.v false).ownBlock = some j := hj
      rw [old _ ((h.link false).lt (.inr hj2))]
      exact h.rv false j hj2
    · cases hj
  · have h1 := h.size
    split at hj
    · omega
    · exact h.low j hj
  · have h1 := h.low G.lb (by rw [h.rl]; omega)
    omega
end
end Go.Proofs.Ythgfijmpofbchaa
