/-
  The sum as a function on numbers and lists of bytes: it is linear, and turns nothing but nothing into nothing; nothing of the program is in this text.
-/
import Derived.Lib.Endian
import Derived.Lib.Bytealg
import Derived.Lib.Strings
namespace Go.Proofs.YtoolbbibnegdnaaGreatDoor

def poly : Nat := 2197175160
def ones : Nat := 4294967295

/-- One bit's step of what there is, where the bit has been put in already. -/
def lin (x : Nat) : Nat := if x % 2 = 1 then (x / 2) ^^^ poly else x / 2
def linN : Nat → Nat → Nat
  | 0, x => x
  | n + 1, x => linN n (lin x)

/-- The chapter's step: a bit, what there is. -/
def bitF (v b : Nat) : Nat := if b ≠ v % 2 then (v / 2) ^^^ poly else v / 2
/-- The bits of a byte from the k-th one on. -/
def bitsF : Nat → Nat → Nat → Nat
  | 0, v, _ => v
  | n + 1, v, c => bitsF n (bitF v (c % 2)) (c / 2)
def byteF (v : Nat) (c : UInt8) : Nat := bitsF 8 v c.toNat
def crcF (v : Nat) (l : List UInt8) : Nat := l.foldl byteF v
def moreF (sum : Nat) (l : List UInt8) : Nat := crcF (sum ^^^ ones) l ^^^ ones
def sumF (l : List UInt8) : Nat := moreF 0 l

theorem poly_lt : poly < 2 ^ 32 := by decide
theorem xor_lt {a b : Nat} (h1 : a < 2 ^ 32) (h2 : b < 2 ^ 32) : a ^^^ b < 2 ^ 32 := Nat.xor_lt_two_pow h1 h2
theorem xor_mod2 (a b : Nat) : (a ^^^ b) % 2 = (a + b) % 2 := by
  have h := Nat.testBit_xor a b 0
  simp only [Nat.testBit_zero] at h
  have h1 : a % 2 = 0 ∨ a % 2 = 1 := by omega
  have h2 : b % 2 = 0 ∨ b % 2 = 1 := by omega
  have h3 : (a ^^^ b) % 2 = 0 ∨ (a ^^^ b) % 2 = 1 := by omega
  rcases h1 with h1 | h1 <;> rcases h2 with h2 | h2 <;> rcases h3 with h3 | h3 <;> simp [h1, h2, h3] at h <;> omega
theorem xor_div2 (a b : Nat) : (a ^^^ b) / 2 = a / 2 ^^^ b / 2 := by
  apply Nat.eq_of_testBit_eq
  intro i
  simp [Nat.testBit_xor, Nat.testBit_div_two]

theorem lin_zero : lin 0 = 0 := rfl
theorem lin_xor (a b : Nat) : lin (a ^^^ b) = lin a ^^^ lin b := by
  unfold lin
  rw [xor_mod2, xor_div2]
  have h1 : a % 2 = 0 ∨ a % 2 = 1 := by omega
  have h2 : b % 2 = 0 ∨ b % 2 = 1 := by omega
  rcases h1 with h1 | h1 <;> rcases h2 with h2 | h2
  · rw [if_neg (by omega), if_neg (by omega), if_neg (by omega)]
  · rw [if_pos (by omega), if_neg (by omega), if_pos (by omega), Nat.xor_assoc]
  · rw [if_pos (by omega), if_pos (by omega), if_neg (by omega), Nat.xor_assoc, Nat.xor_assoc, Nat.xor_comm poly]
  · rw [if_neg (by omega), if_pos (by omega), if_pos (by omega), Nat.xor_assoc, Nat.xor_comm poly, Nat.xor_assoc, Nat.xor_self, Nat.xor_zero]
theorem lin_lt (x : Nat) (h : x < 2 ^ 32) : lin x < 2 ^ 32 := by
  unfold lin
  split
  · exact xor_lt (by omega) poly_lt
  · omega
theorem lin_even (x : Nat) : lin (2 * x) = x := by
  unfold lin
  rw [if_neg (by omega)]
  omega
theorem lin_ne (x : Nat) (h : x < 2 ^ 32) (h0 : x ≠ 0) : lin x ≠ 0 := by
  unfold lin
  split
  · intro e
    have h1 : x / 2 = poly := by
      have := congrArg (· ^^^ poly) e
      simpa [Nat.xor_assoc] using this
    have h2 : poly = 2197175160 := rfl
    omega
  · omega

theorem linN_add (m n x : Nat) : linN (m + n) x = linN n (linN m x) := by
  induction m generalizing x with
  | zero => rw [Nat.zero_add]; rfl
  | succ m ih => rw [Nat.succ_add]; exact ih (lin x)
theorem linN_xor (n a b : Nat) : linN n (a ^^^ b) = linN n a ^^^ linN n b := by
  induction n generalizing a b with
  | zero => rfl
  | succ n ih => show linN n (lin (a ^^^ b)) = _; rw [lin_xor, ih]; rfl
theorem linN_zero (n : Nat) : linN n 0 = 0 := by
  induction n with
  | zero => rfl
  | succ n ih => exact ih
theorem linN_lt (n x : Nat) (h : x < 2 ^ 32) : linN n x < 2 ^ 32 := by
  induction n generalizing x with
  | zero => exact h
  | succ n ih => exact ih _ (lin_lt x h)
theorem linN_ne (n x : Nat) (h : x < 2 ^ 32) (h0 : x ≠ 0) : linN n x ≠ 0 := by
  induction n generalizing x with
  | zero => exact h0
  | succ n ih => exact ih _ (lin_lt x h) (lin_ne x h h0)
theorem linN_shift (n x : Nat) : linN n (2 ^ n * x) = x := by
  induction n generalizing x with
  | zero => simp [linN]
  | succ n ih =>
    show linN n (lin (2 ^ (n + 1) * x)) = x
    rw [show 2 ^ (n + 1) * x = 2 * (2 ^ n * x) by rw [Nat.pow_succ]; rw [Nat.mul_comm (2 ^ n) 2, Nat.mul_assoc], lin_even]
    exact ih x

theorem bitF_lin (v b : Nat) (hb : b < 2) : bitF v b = lin (v ^^^ b) := by
  unfold bitF lin
  rw [xor_mod2, xor_div2, show b / 2 = 0 by omega, Nat.xor_zero]
  by_cases h : b = v % 2
  · rw [if_neg (by simp [h]), if_neg (by omega)]
  · rw [if_pos h, if_pos (by omega)]
theorem split2 (c : Nat) : c = c % 2 ^^^ 2 * (c / 2) := by
  have : 2 * (c / 2) = (c / 2) <<< 1 := by rw [Nat.shiftLeft_eq]; omega
  apply Nat.eq_of_testBit_eq
  intro i
  cases i with
  | zero => simp [Nat.testBit_zero]
  | succ i =>
    rw [Nat.testBit_xor, this, Nat.testBit_shiftLeft]
    have h1 : (c % 2).testBit (i + 1) = false := Nat.testBit_lt_two_pow (Nat.lt_of_lt_of_le (Nat.mod_lt _ (by omega)) (by rw [Nat.pow_succ]; have := Nat.one_le_two_pow (n := i); omega))
    simp [h1, Nat.testBit_div_two]
theorem bitsF_lin (n v c : Nat) (hc : c < 2 ^ n) : bitsF n v c = linN n (v ^^^ c) := by
  induction n generalizing v c with
  | zero => have : c = 0 := by omega
            subst this
            simp [bitsF, linN]
  | succ n ih =>
    show bitsF n (bitF v (c % 2)) (c / 2) = linN n (lin (v ^^^ c))
    rw [ih _ _ (by rw [Nat.pow_succ] at hc; omega), bitF_lin v _ (by omega)]
    conv => rhs; rw [split2 c, ← Nat.xor_assoc, lin_xor, lin_even]
theorem byteF_lin (v : Nat) (c : UInt8) : byteF v c = linN 8 (v ^^^ c.toNat) := bitsF_lin 8 v _ c.toNat_lt

/-- A text as a number, its first byte the least. -/
def leF : List UInt8 → Nat
  | [] => 0
  | c :: t => c.toNat ^^^ 2 ^ 8 * leF t

/-- The sum of a text is one linear step of it as a number. -/
theorem crcF_lin (v : Nat) (l : List UInt8) : crcF v l = linN (8 * l.length) (v ^^^ leF l) := by
  induction l generalizing v with
  | nil => simp [crcF, leF, linN]
  | cons c t ih =>
    show crcF (byteF v c) t = _
    rw [ih, byteF_lin, List.length_cons, show 8 * (t.length + 1) = 8 + 8 * t.length by omega, linN_add]
    show _ = linN (8 * t.length) (linN 8 (v ^^^ (c.toNat ^^^ 2 ^ 8 * leF t)))
    rw [← Nat.xor_assoc, linN_xor 8 (v ^^^ c.toNat), linN_shift]

theorem byteF_lt (v : Nat) (c : UInt8) (h : v < 2 ^ 32) : byteF v c < 2 ^ 32 := by
  rw [byteF_lin]
  exact linN_lt _ _ (xor_lt h (Nat.lt_trans c.toNat_lt (by decide)))
theorem crcF_lt (v : Nat) (l : List UInt8) (h : v < 2 ^ 32) : crcF v l < 2 ^ 32 := by
  induction l generalizing v with
  | nil => exact h
  | cons c t ih => exact ih _ (byteF_lt v c h)
theorem crcF_append (v : Nat) (a b : List UInt8) : crcF v (a ++ b) = crcF (crcF v a) b := by simp [crcF]
theorem moreF_lt (v : Nat) (l : List UInt8) (h : v < 2 ^ 32) : moreF v l < 2 ^ 32 := xor_lt (crcF_lt _ _ (xor_lt h (by decide))) (by decide)
theorem sumF_lt (l : List UInt8) : sumF l < 2 ^ 32 := moreF_lt 0 l (by decide)
/-- P2.4: More of Sum(a) and b is Sum of both. -/
theorem moreF_join (v : Nat) (a b : List UInt8) : moreF (moreF v a) b = moreF v (a ++ b) := by
  unfold moreF
  rw [Nat.xor_assoc, Nat.xor_self, Nat.xor_zero, crcF_append]
theorem sumF_join (a b : List UInt8) : moreF (sumF a) b = sumF (a ++ b) := moreF_join 0 a b
theorem moreF_nil (v : Nat) : moreF v [] = v := by
  unfold moreF crcF
  simp [Nat.xor_assoc]

/-- The table: a byte's step at once. -/
def tableF (i : Nat) : Nat := linN 8 i
theorem split8 (x : Nat) : x = x % 256 ^^^ 2 ^ 8 * (x / 256) := by
  have : 2 ^ 8 * (x / 256) = (x / 256) <<< 8 := by rw [Nat.shiftLeft_eq, Nat.mul_comm]
  apply Nat.eq_of_testBit_eq
  intro i
  rw [Nat.testBit_xor, this, Nat.testBit_shiftLeft, show (256 : Nat) = 2 ^ 8 from rfl, Nat.testBit_mod_two_pow, Nat.testBit_div_two_pow]
  by_cases h : i < 8
  · have h8 : ¬ 8 ≤ i := by omega
    simp [h, h8]
  · have h8 : 8 ≤ i := by omega
    simp [h8, h, show i - 8 + 8 = i by omega]
theorem byteF_table (v : Nat) (c : UInt8) : byteF v c = tableF ((v ^^^ c.toNat) % 256) ^^^ v / 256 := by
  rw [byteF_lin]
  unfold tableF
  conv => lhs; rw [split8 (v ^^^ c.toNat), linN_xor, linN_shift]
  congr 1
  have : (v ^^^ c.toNat) / 256 = v / 256 ^^^ c.toNat / 256 := by
    apply Nat.eq_of_testBit_eq
    intro i
    rw [show (256 : Nat) = 2 ^ 8 from rfl, Nat.testBit_xor, Nat.testBit_div_two_pow, Nat.testBit_div_two_pow, Nat.testBit_div_two_pow, Nat.testBit_xor]
  rw [this, Nat.div_eq_of_lt c.toNat_lt, Nat.xor_zero]

/-- Two texts of one length that part in a stretch of at most 32 bits have different sums. -/
theorem sumF_burst (a b : List UInt8) (from' p : Nat) (hl : a.length = b.length) (hp : p < 2 ^ 32) (h0 : p ≠ 0) (hf : from' ≤ 8 * a.length) (hd : leF b = leF a ^^^ 2 ^ from' * p) : sumF b ≠ sumF a := by
  intro e
  unfold sumF moreF at e
  have e2 : crcF (0 ^^^ ones) b = crcF (0 ^^^ ones) a := by
    have := congrArg (· ^^^ ones) e
    simpa [Nat.xor_assoc] using this
  rw [crcF_lin, crcF_lin, hd, ← hl, ← Nat.xor_assoc, linN_xor] at e2
  have e3 : linN (8 * a.length) (2 ^ from' * p) = 0 := by
    have := congrArg (linN (8 * a.length) (0 ^^^ ones ^^^ leF a) ^^^ ·) e2
    simpa [← Nat.xor_assoc] using this
  obtain ⟨m, hm⟩ : ∃ m, 8 * a.length = from' + m := ⟨8 * a.length - from', by omega⟩
  rw [hm, linN_add, linN_shift] at e3
  exact linN_ne m p hp h0 e3

end Go.Proofs.YtoolbbibnegdnaaGreatDoor
/-
  Frames on lists of bytes: framed, taken, told one behind the other; torn; with bits turned. Nothing of the program is in this text.
-/
namespace Go.Proofs.YtoolbbibnegdnaaGreatDoor

theorem beFrom_snoc (l : List UInt8) (a : Nat) (c : UInt8) : Lib.beFrom a (l ++ [c]) = Lib.beFrom a l * 256 + c.toNat := by
  induction l generalizing a with
  | nil => rfl
  | cons b r ih => simp [Lib.beFrom, ih]
theorem beNat_snoc (l : List UInt8) (c : UInt8) : Lib.beNat (l ++ [c]) = Lib.beNat l * 256 + c.toNat := beFrom_snoc l 0 c
theorem beBytes_succ (k v : Nat) : Lib.beBytes (k + 1) v = Lib.beBytes k (v / 256) ++ [(v % 256).toUInt8] := by
  simp [Lib.beBytes, Lib.leBytes]
theorem beNat_beBytes (k v : Nat) (h : v < 256 ^ k) : Lib.beNat (Lib.beBytes k v) = v := by
  induction k generalizing v with
  | zero => simp at h; subst h; rfl
  | succ k ih =>
    rw [beBytes_succ, beNat_snoc, ih (v / 256) (by rw [Nat.pow_succ] at h; omega), Lib.toUInt8_mod]
    omega
theorem snoc_of (l : List UInt8) (k : Nat) (h : l.length = k + 1) : ∃ a c, l = a ++ [c] ∧ a.length = k := by
  have hne : l ≠ [] := by intro e; rw [e] at h; simp at h
  refine ⟨l.dropLast, l.getLast hne, (List.dropLast_concat_getLast hne).symm, by rw [List.length_dropLast]; omega⟩
theorem beBytes_beNat (k : Nat) (l : List UInt8) (h : l.length = k) : Lib.beBytes k (Lib.beNat l) = l := by
  induction k generalizing l with
  | zero => simp at h; subst h; rfl
  | succ k ih =>
    obtain ⟨a, c, rfl, ha⟩ := snoc_of l k h
    have hc := c.toNat_lt
    have h1 : (Lib.beNat a * 256 + c.toNat) / 256 = Lib.beNat a := by omega
    have h2 : (Lib.beNat a * 256 + c.toNat) % 256 = c.toNat := by omega
    rw [beNat_snoc, beBytes_succ, h1, h2, ih a ha]
    simp

def lenB (body : List UInt8) : List UInt8 := Lib.beBytes 4 body.length
def sumB (body : List UInt8) : List UInt8 := Lib.beBytes 4 (sumF (lenB body ++ body))
def frameB (body : List UInt8) : List UInt8 := lenB body ++ (sumB body ++ body)
def frameF (body : List UInt8) : List UInt8 × Int := if 400000 < body.length then ([], 3) else (frameB body, 0)

def takeF (s : List UInt8) : List UInt8 × Nat × Int :=
  if s.length < 4 then ([], 0, 2)
  else if 400000 < Lib.beNat (s.take 4) then ([], 0, 3)
  else if s.length < 8 + Lib.beNat (s.take 4) then ([], 0, 2)
  else if Lib.beNat ((s.drop 4).take 4) ≠ sumF (s.take 4 ++ (s.drop 8).take (Lib.beNat (s.take 4))) then ([], 0, 4)
  else ((s.drop 8).take (Lib.beNat (s.take 4)), 8 + Lib.beNat (s.take 4), 0)

def allF : Nat → List UInt8 → List (List UInt8) × Nat × Int
  | 0, _ => ([], 0, 0)
  | f + 1, s =>
    if s = [] then ([], 0, 0)
    else if (takeF s).2.2 = 0 then ((takeF s).1 :: (allF f (s.drop (takeF s).2.1)).1, (takeF s).2.1 + (allF f (s.drop (takeF s).2.1)).2.1, (allF f (s.drop (takeF s).2.1)).2.2)
    else ([], 0, (takeF s).2.2)

theorem lenB_length (b : List UInt8) : (lenB b).length = 4 := Lib.beBytes_length _ _
theorem sumB_length (b : List UInt8) : (sumB b).length = 4 := Lib.beBytes_length _ _
theorem frameB_length (b : List UInt8) : (frameB b).length = b.length + 8 := by
  unfold frameB
  rw [List.length_append, List.length_append, lenB_length, sumB_length]
  omega
theorem lenB_nat (b : List UInt8) (h : b.length ≤ 400000) : Lib.beNat (lenB b) = b.length := beNat_beBytes 4 _ (by omega)
theorem sumB_nat (b : List UInt8) : Lib.beNat (sumB b) = sumF (lenB b ++ b) := beNat_beBytes 4 _ (by have := sumF_lt (lenB b ++ b); omega)

/-- What stands where a frame would: four bytes of a length, four of a sum, the body, the rest. -/
theorem takeF_parts (n4 s4 body rest : List UInt8) (h1 : n4.length = 4) (h2 : s4.length = 4) (h3 : Lib.beNat n4 = body.length) (h4 : body.length ≤ 400000) :
    takeF (n4 ++ (s4 ++ (body ++ rest))) = if Lib.beNat s4 ≠ sumF (n4 ++ body) then ([], 0, 4) else (body, 8 + body.length, 0) := by
  have e1 : (n4 ++ (s4 ++ (body ++ rest))).take 4 = n4 := List.take_left' h1
  have e2 : (n4 ++ (s4 ++ (body ++ rest))).drop 4 = s4 ++ (body ++ rest) := List.drop_left' h1
  have e3 : (n4 ++ (s4 ++ (body ++ rest))).drop 8 = body ++ rest := by
    rw [show (8 : Nat) = 4 + 4 from rfl, ← List.drop_drop, e2]
    exact List.drop_left' h2
  have e4 : (s4 ++ (body ++ rest)).take 4 = s4 := List.take_left' h2
  have e5 : (body ++ rest).take body.length = body := List.take_left' rfl
  unfold takeF
  rw [e1, e2, e3, e4, h3, e5]
  rw [if_neg (by simp only [List.length_append]; omega), if_neg (by omega), if_neg (by simp only [List.length_append]; omega)]

/-- P2.4: a frame, whatever stands behind it, is taken. -/
theorem take_frame (b rest : List UInt8) (h : b.length ≤ 400000) : takeF (frameB b ++ rest) = (b, 8 + b.length, 0) := by
  unfold frameB
  rw [List.append_assoc, List.append_assoc, takeF_parts _ _ _ _ (lenB_length b) (sumB_length b) (lenB_nat b h) h, sumB_nat, if_neg (by simp)]

theorem drop_frame (b rest : List UInt8) : (frameB b ++ rest).drop (8 + b.length) = rest := List.drop_left' (by rw [frameB_length]; omega)
theorem frame_ne (b rest : List UInt8) : frameB b ++ rest ≠ [] := by
  intro e
  have := congrArg List.length e
  rw [List.length_append, frameB_length] at this
  simp at this

/-- P2.4: frames, one behind the other, are told as they were. -/
theorem all_frames (bs : List (List UInt8)) (f : Nat) (h : ∀ b ∈ bs, b.length ≤ 400000) (hf : bs.length < f) :
    allF f (bs.flatMap frameB) = (bs, (bs.flatMap frameB).length, 0) := by
  induction bs generalizing f with
  | nil =>
    obtain ⟨g, rfl⟩ : ∃ g, f = g + 1 := ⟨f - 1, by simp at hf; omega⟩
    simp [allF]
  | cons b bs ih =>
    obtain ⟨g, rfl⟩ : ∃ g, f = g + 1 := ⟨f - 1, by simp at hf; omega⟩
    have h1 := h b (by simp)
    have h2 := ih g (fun x hx => h x (by simp [hx])) (by simp at hf; omega)
    rw [List.flatMap_cons, allF, if_neg (frame_ne b _), take_frame b _ h1]
    simp only [if_true]
    rw [drop_frame, h2]
    simp only [List.length_append, frameB_length]
    refine Prod.ext rfl (Prod.ext ?_ rfl)
    show 8 + b.length + _ = b.length + 8 + _
    omega

/-- How many frames of a beginning are all there, and how many bytes these have. -/
def wholeF : List (List UInt8) → Nat → Nat × Nat
  | [], _ => (0, 0)
  | b :: bs, cut => if b.length + 8 ≤ cut then ((wholeF bs (cut - (b.length + 8))).1 + 1, (wholeF bs (cut - (b.length + 8))).2 + (b.length + 8)) else (0, 0)

theorem take_torn (b rest : List UInt8) (cut : Nat) (h : b.length ≤ 400000) (h1 : cut < b.length + 8) : takeF ((frameB b ++ rest).take cut) = ([], 0, 2) := by
  have hl : ((frameB b ++ rest).take cut).length = cut := by
    rw [List.length_take, List.length_append, frameB_length]
    omega
  unfold takeF
  by_cases h4 : cut < 4
  · rw [if_pos (by omega)]
  · have e1 : ((frameB b ++ rest).take cut).take 4 = lenB b := by
      rw [List.take_take, Nat.min_eq_left (by omega)]
      unfold frameB
      rw [List.append_assoc]
      exact List.take_left' (lenB_length b)
    rw [if_neg (by omega), e1, lenB_nat b h, if_neg (by omega), if_pos (by omega)]

/-- P2.4: of a beginning of frames those that are all there are told; within one it is torn. -/
theorem all_torn (bs : List (List UInt8)) (f cut : Nat) (h : ∀ b ∈ bs, b.length ≤ 400000) (hf : bs.length < f) (hc : cut ≤ (bs.flatMap frameB).length) :
    allF f ((bs.flatMap frameB).take cut) = (bs.take (wholeF bs cut).1, (wholeF bs cut).2, if (wholeF bs cut).2 = cut then 0 else 2) := by
  induction bs generalizing f cut with
  | nil =>
    obtain ⟨g, rfl⟩ : ∃ g, f = g + 1 := ⟨f - 1, by simp at hf; omega⟩
    simp at hc
    subst hc
    simp [allF, wholeF]
  | cons b bs ih =>
    obtain ⟨g, rfl⟩ : ∃ g, f = g + 1 := ⟨f - 1, by simp at hf; omega⟩
    have hb := h b (by simp)
    rw [List.flatMap_cons, List.length_append, frameB_length] at hc
    rw [List.flatMap_cons, allF]
    unfold wholeF
    by_cases h1 : b.length + 8 ≤ cut
    · have h2 := ih g (cut - (b.length + 8)) (fun x hx => h x (by simp [hx])) (by simp at hf; omega) (by omega)
      have e : (frameB b ++ bs.flatMap frameB).take cut = frameB b ++ (bs.flatMap frameB).take (cut - (b.length + 8)) := by
        rw [List.take_append, frameB_length, List.take_of_length_le (by rw [frameB_length]; omega)]
      rw [if_pos h1, e, if_neg (frame_ne b _), take_frame b _ hb]
      simp only [if_true]
      rw [drop_frame, h2]
      refine Prod.ext rfl (Prod.ext ?_ ?_)
      · show 8 + b.length + (wholeF bs (cut - (b.length + 8))).2 = (wholeF bs (cut - (b.length + 8))).2 + (b.length + 8)
        omega
      · show (if (wholeF bs (cut - (b.length + 8))).2 = cut - (b.length + 8) then (0 : Int) else 2) = if (wholeF bs (cut - (b.length + 8))).2 + (b.length + 8) = cut then 0 else 2
        by_cases h3 : (wholeF bs (cut - (b.length + 8))).2 = cut - (b.length + 8)
        · rw [if_pos h3, if_pos (by omega)]
        · rw [if_neg h3, if_neg (by omega)]
    · rw [if_neg h1]
      by_cases h0 : cut = 0
      · subst h0
        simp
      · have hne : (frameB b ++ bs.flatMap frameB).take cut ≠ [] := by
          intro e
          have := congrArg List.length e
          rw [List.length_take, List.length_append, frameB_length] at this
          simp at this
          omega
        rw [if_neg hne, take_torn b _ cut hb (by omega), if_neg (by simp), if_neg (by simpa using Ne.symm h0)]
        simp

/-- P2.2: two bodies have one frame just if they are one. -/
theorem frame_only (a b : List UInt8) : frameB a = frameB b ↔ a = b := by
  constructor
  · intro e
    have h := congrArg (List.drop 8) e
    have e1 : ∀ x, (frameB x).drop 8 = x := by
      intro x
      have := drop_frame x []
      unfold frameB
      rw [show (8 : Nat) = 4 + 4 from rfl, ← List.drop_drop, List.drop_left' (lenB_length x)]
      exact List.drop_left' (sumB_length x)
    rw [e1, e1] at h
    exact h
  · rintro rfl; rfl

/-- The bit of a text that is turned. -/
def flipF (l : List UInt8) (k : Nat) : List UInt8 := l.modify (k / 8) fun c => UInt8.ofNat (c.toNat ^^^ 2 ^ (k % 8))

theorem flipF_length (l : List UInt8) (k : Nat) : (flipF l k).length = l.length := by simp [flipF]
theorem mul_xor (n a b : Nat) : 2 ^ n * (a ^^^ b) = 2 ^ n * a ^^^ 2 ^ n * b := by
  rw [Nat.mul_comm, Nat.mul_comm _ a, Nat.mul_comm _ b, ← Nat.shiftLeft_eq, ← Nat.shiftLeft_eq, ← Nat.shiftLeft_eq]
  exact Nat.shiftLeft_xor_distrib ..
theorem flip_byte (c : UInt8) (j : Nat) (h : j < 8) : (UInt8.ofNat (c.toNat ^^^ 2 ^ j)).toNat = c.toNat ^^^ 2 ^ j := by
  rw [UInt8.toNat_ofNat']
  refine Nat.mod_eq_of_lt (Nat.xor_lt_two_pow (n := 8) c.toNat_lt ?_)
  exact Nat.pow_lt_pow_right (by omega) h
theorem leF_flip (l : List UInt8) (k : Nat) (h : k < 8 * l.length) : leF (flipF l k) = leF l ^^^ 2 ^ k := by
  induction l generalizing k with
  | nil => simp at h
  | cons c t ih =>
    by_cases h8 : k < 8
    · have e : flipF (c :: t) k = UInt8.ofNat (c.toNat ^^^ 2 ^ (k % 8)) :: t := by
        unfold flipF
        rw [show k / 8 = 0 by omega]
        rfl
      rw [e, Nat.mod_eq_of_lt h8]
      show (UInt8.ofNat (c.toNat ^^^ 2 ^ k)).toNat ^^^ 2 ^ 8 * leF t = c.toNat ^^^ 2 ^ 8 * leF t ^^^ 2 ^ k
      rw [flip_byte c k h8, Nat.xor_assoc, Nat.xor_assoc, Nat.xor_comm (2 ^ k)]
    · have e : flipF (c :: t) k = c :: flipF t (k - 8) := by
        unfold flipF
        rw [show k / 8 = (k - 8) / 8 + 1 by omega, show k % 8 = (k - 8) % 8 by omega]
        rfl
      rw [e]
      show c.toNat ^^^ 2 ^ 8 * leF (flipF t (k - 8)) = c.toNat ^^^ 2 ^ 8 * leF t ^^^ 2 ^ k
      rw [ih (k - 8) (by simp at h; omega), mul_xor, ← Nat.xor_assoc, ← Nat.pow_add, show 8 + (k - 8) = k by omega]
theorem leF_append (a b : List UInt8) : leF (a ++ b) = leF a ^^^ 2 ^ (8 * a.length) * leF b := by
  induction a with
  | nil => simp [leF]
  | cons c t ih =>
    show c.toNat ^^^ 2 ^ 8 * leF (t ++ b) = c.toNat ^^^ 2 ^ 8 * leF t ^^^ 2 ^ (8 * (t.length + 1)) * leF b
    rw [ih, mul_xor, ← Nat.xor_assoc, ← Nat.mul_assoc, ← Nat.pow_add, show 8 + 8 * t.length = 8 * (t.length + 1) by omega]
theorem flip_ne (l : List UInt8) (k : Nat) (h : k < 8 * l.length) : flipF l k ≠ l := by
  intro e
  have h1 := leF_flip l k h
  rw [e] at h1
  have h2 := congrArg (leF l ^^^ ·) h1
  simp only [← Nat.xor_assoc, Nat.xor_self, Nat.zero_xor] at h2
  exact absurd h2.symm (Nat.pos_iff_ne_zero.1 (Nat.two_pow_pos k))

theorem beNat_inj (a b : List UInt8) (k : Nat) (h1 : a.length = k) (h2 : b.length = k) (h : Lib.beNat a = Lib.beNat b) : a = b := by
  rw [← beBytes_beNat k a h1, h, beBytes_beNat k b h2]

/-- The sum's own bytes turned: another sum. -/
theorem take_sum (b s4 rest : List UInt8) (h : b.length ≤ 400000) (h4 : s4.length = 4) (hne : s4 ≠ sumB b) : takeF (lenB b ++ (s4 ++ (b ++ rest))) = ([], 0, 4) := by
  rw [takeF_parts _ _ _ _ (lenB_length b) h4 (lenB_nat b h) h, if_pos]
  intro e
  rw [← sumB_nat] at e
  exact hne (beNat_inj _ _ 4 h4 (sumB_length b) e)

/-- A stretch of at most 32 bits of the body turned: another sum. -/
theorem take_burst (b b2 rest : List UInt8) (from' p : Nat) (h : b.length ≤ 400000) (hl : b2.length = b.length) (hp : p < 2 ^ 32) (h0 : p ≠ 0) (hf : from' ≤ 8 * b.length) (hd : leF b2 = leF b ^^^ 2 ^ from' * p) :
    takeF (lenB b ++ (sumB b ++ (b2 ++ rest))) = ([], 0, 4) := by
  rw [takeF_parts _ _ _ _ (lenB_length b) (sumB_length b) (by rw [lenB_nat b h, hl]) (by omega), if_pos]
  rw [sumB_nat]
  refine Ne.symm (sumF_burst (lenB b ++ b) (lenB b ++ b2) (32 + from') p (by simp [hl]) hp h0 (by rw [List.length_append, lenB_length]; omega) ?_)
  rw [leF_append, leF_append, hd, lenB_length, mul_xor, ← Nat.xor_assoc, ← Nat.mul_assoc, ← Nat.pow_add]

theorem flip_append_left (a b : List UInt8) (k : Nat) (h : k < 8 * a.length) : flipF (a ++ b) k = flipF a k ++ b := by
  unfold flipF
  generalize (fun c : UInt8 => UInt8.ofNat (c.toNat ^^^ 2 ^ (k % 8))) = g
  have h1 : k / 8 < a.length := by omega
  clear h
  generalize k / 8 = i at h1
  induction a generalizing i with
  | nil => simp at h1
  | cons c t ih =>
    cases i with
    | zero => rfl
    | succ i =>
      have := ih i (by simpa using h1)
      simp [this]
theorem flip_append_right (a b : List UInt8) (k : Nat) : flipF (a ++ b) (8 * a.length + k) = a ++ flipF b k := by
  unfold flipF
  rw [show (8 * a.length + k) / 8 = a.length + k / 8 by omega, show (8 * a.length + k) % 8 = k % 8 by omega]
  induction a with
  | nil => simp
  | cons c t ih =>
    rw [List.length_cons, show t.length + 1 + k / 8 = (t.length + k / 8) + 1 by omega]
    exact congrArg (c :: ·) ih

/-- P2.4: a frame with one bit turned, but for its length's, is none. -/
theorem take_bit (b : List UInt8) (k : Nat) (h : b.length ≤ 400000) (h1 : 32 ≤ k) (h2 : k < 8 * (b.length + 8)) : takeF (flipF (frameB b) k) = ([], 0, 4) := by
  unfold frameB
  by_cases h3 : k < 64
  · obtain ⟨j, rfl⟩ : ∃ j, k = 8 * (lenB b).length + j := ⟨k - 32, by rw [lenB_length]; omega⟩
    rw [lenB_length] at h3
    have hj : j < 8 * (sumB b).length := by rw [sumB_length]; omega
    rw [flip_append_right, flip_append_left _ _ _ hj]
    have := take_sum b (flipF (sumB b) j) [] h (by rw [flipF_length, sumB_length]) (flip_ne _ _ hj)
    rw [List.append_nil] at this
    exact this
  · obtain ⟨j, rfl⟩ : ∃ j, k = 8 * (lenB b).length + (8 * (sumB b).length + j) := ⟨k - 64, by rw [lenB_length, sumB_length]; omega⟩
    rw [lenB_length, sumB_length] at h2
    have hj : j < 8 * b.length := by omega
    rw [flip_append_right, flip_append_right]
    have := take_burst b (flipF b j) [] j 1 h (flipF_length b j) (by omega) (by omega) (by omega) (by rw [leF_flip b j hj, Nat.mul_one])
    rw [List.append_nil] at this
    exact this

/-- The bits of a number that are turned in a text, one by one. -/
theorem mod_step (p k : Nat) : p % 2 ^ (k + 1) = p % 2 ^ k ^^^ 2 ^ k * (p / 2 ^ k % 2) := by
  apply Nat.eq_of_testBit_eq
  intro i
  rw [Nat.testBit_xor, Nat.testBit_mod_two_pow, Nat.testBit_mod_two_pow, Nat.testBit_two_pow_mul]
  rcases Nat.lt_trichotomy i k with h | h | h
  · have h1 : ¬ k ≤ i := by omega
    simp [h, h1, show i < k + 1 by omega]
  · subst h
    simp [Nat.testBit_eq_decide_div_mod_eq]
  · have h1 : (p / 2 ^ k % 2).testBit (i - k) = false := Nat.testBit_lt_two_pow (Nat.lt_of_lt_of_le (Nat.mod_lt _ (by omega)) (by
      have : 2 ^ 1 ≤ 2 ^ (i - k) := Nat.pow_le_pow_right (by omega) (by omega)
      omega))
    simp [h1, show ¬ i < k + 1 by omega, show ¬ i < k by omega]

/-- One more round: the k-th bit of p, if it is set, is turned at from + k. -/
theorem burst_step (b l : List UInt8) (from' p k : Nat) (hl : l.length = b.length) (h : leF l = leF b ^^^ 2 ^ from' * (p % 2 ^ k)) (hk : from' + k < 8 * b.length) :
    leF (if p / 2 ^ k % 2 = 1 then flipF l (from' + k) else l) = leF b ^^^ 2 ^ from' * (p % 2 ^ (k + 1)) := by
  rw [mod_step, mul_xor, ← Nat.xor_assoc, ← h]
  by_cases hb : p / 2 ^ k % 2 = 1
  · rw [if_pos hb, leF_flip l _ (by omega), hb, Nat.mul_one, Nat.pow_add]
  · rw [if_neg hb, show p / 2 ^ k % 2 = 0 by omega]
    simp

end Go.Proofs.YtoolbbibnegdnaaGreatDoor
/-
  The sum, half a byte at a time, on numbers. Nothing of the program is in this text.
-/
namespace Go.Proofs.YtoolbbibnegdnaaGreatDoor

/-- What is put in while four bits are shifted out. -/
def tab4 (i : Nat) : Nat := linN 4 i
def halfF (x : Nat) : Nat := x / 16 ^^^ tab4 (x % 16)

theorem split4 (x : Nat) : x = x % 16 ^^^ 2 ^ 4 * (x / 16) := by
  have : 2 ^ 4 * (x / 16) = (x / 16) <<< 4 := by rw [Nat.shiftLeft_eq, Nat.mul_comm]
  apply Nat.eq_of_testBit_eq
  intro i
  rw [Nat.testBit_xor, this, Nat.testBit_shiftLeft, show (16 : Nat) = 2 ^ 4 from rfl, Nat.testBit_mod_two_pow, Nat.testBit_div_two_pow]
  by_cases h : i < 4
  · have h8 : ¬ 4 ≤ i := by omega
    simp [h, h8]
  · have h8 : 4 ≤ i := by omega
    simp [h8, h, show i - 4 + 4 = i by omega]
theorem halfF_lin (x : Nat) : halfF x = linN 4 x := by
  unfold halfF tab4
  conv => rhs; rw [split4 x, linN_xor, linN_shift]
  exact Nat.xor_comm _ _
theorem byteF_half (v : Nat) (c : UInt8) : byteF v c = halfF (halfF (v ^^^ c.toNat)) := by
  rw [byteF_lin, halfF_lin, halfF_lin, ← linN_add]
theorem halfF_lt (x : Nat) (h : x < 2 ^ 32) : halfF x < 2 ^ 32 := by rw [halfF_lin]; exact linN_lt 4 x h
theorem tab4_lt (i : Nat) (h : i < 16) : tab4 i < 2 ^ 32 := linN_lt 4 i (by omega)

def tabZ : List Int := [0, 274646895, 549293790, 820201905, 1098587580, 1361435347, 1640403810, 1905808397, 2197175160, 2460548119, 2722870694, 2987750089, 3280807620, 3553878443, 3811616794, 4084100981]
theorem tab4_all : ∀ i : Fin 16, tabZ.getD i.val 0 = ((tab4 i.val : Nat) : Int) := by decide +kernel
theorem tab4_at (i : Nat) (h : i < 16) : tabZ.getD i 0 = ((tab4 i : Nat) : Int) := tab4_all ⟨i, h⟩

end Go.Proofs.YtoolbbibnegdnaaGreatDoor
