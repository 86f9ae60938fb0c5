/-
  The sum as a function on numbers and lists of bytes: it is linear, and turns nothing but nothing into nothing; nothing of the program is in this text.
-/
import Derived.Lib.Endian
import Derived.Lib.Bytealg
import Derived.Lib.Strings
namespace Go.Proofs.YtlalfehnkhenjabDoor

def poly : Nat := 2197175160
def ones : Nat := 4294967295

/-- One bit's step of what there is, where the bit has been put in already. -/
def lin (x : Nat) : Nat := if x % 2 = 1 then (x / 2) ^^^ poly else x / 2
def linN : Nat → Nat → Nat
  | 0, x => x
  | n + 1, x => linN n (lin x)

/-- The chapter's step: a bit, what there is. -/
def bitF (v b : Nat) : Nat := if b ≠ v % 2 then (v / 2) ^^^ poly else v / 2
/-- The bits of a byte from the k-th one on. -/
def bitsF : Nat → Nat → Nat → Nat
  | 0, v, _ => v
  | n + 1, v, c => bitsF n (bitF v (c % 2)) (c / 2)
def byteF (v : Nat) (c : UInt8) : Nat := bitsF 8 v c.toNat
def crcF (v : Nat) (l : List UInt8) : Nat := l.foldl byteF v
def moreF (sum : Nat) (l : List UInt8) : Nat := crcF (sum ^^^ ones) l ^^^ ones
def sumF (l : List UInt8) : Nat := moreF 0 l

theorem poly_lt : poly < 2 ^ 32 := by decide
theorem xor_lt {a b : Nat} (h1 : a < 2 ^ 32) (h2 : b < 2 ^ 32) : a ^^^ b < 2 ^ 32 := Nat.xor_lt_two_pow h1 h2
theorem xor_mod2 (a b : Nat) : (a ^^^ b) % 2 = (a + b) % 2 := by
  have h := Nat.testBit_xor a b 0
  simp only [Nat.testBit_zero] at h
  have h1 : a % 2 = 0 ∨ a % 2 = 1 := by omega
  have h2 : b % 2 = 0 ∨ b % 2 = 1 := by omega
  have h3 : (a ^^^ b) % 2 = 0 ∨ (a ^^^ b) % 2 = 1 := by omega
  rcases h1 with h1 | h1 <;> rcases h2 with h2 | h2 <;> rcases h3 with h3 | h3 <;> simp [h1, h2, h3] at h <;> omega
theorem xor_div2 (a b : Nat) : (a ^^^ b) / 2 = a / 2 ^^^ b / 2 := by
  apply Nat.eq_of_testBit_eq
  intro i
  simp [Nat.testBit_xor, Nat.testBit_div_two]

theorem lin_zero : lin 0 = 0 := rfl
theorem lin_xor (a b : Nat) : lin (a ^^^ b) = lin a ^^^ lin b := by
  unfold lin
  rw [xor_mod2, xor_div2]
  have h1 : a % 2 = 0 ∨ a % 2 = 1 := by omega
  have h2 : b % 2 = 0 ∨ b % 2 = 1 := by omega
  rcases h1 with h1 | h1 <;> rcases h2 with h2 | h2
  · rw [if_neg (by omega), if_neg (by omega), if_neg (by omega)]
  · rw [if_pos (by omega), if_neg (by omega), if_pos (by omega), Nat.xor_assoc]
  · rw [if_pos (by omega), if_pos (by omega), if_neg (by omega), Nat.xor_assoc, Nat.xor_assoc, Nat.xor_comm poly]
  · rw [if_neg (by omega), if_pos (by omega), if_pos (by omega), Nat.xor_assoc, Nat.xor_comm poly, Nat.xor_assoc, Nat.xor_self, Nat.xor_zero]
theorem lin_lt (x : Nat) (h : x < 2 ^ 32) : lin x < 2 ^ 32 := by
  unfold lin
  split
  · exact xor_lt (by omega) poly_lt
  · omega
theorem lin_even (x : Nat) : lin (2 * x) = x := by
  unfold lin
  rw [if_neg (by omega)]
  omega
theorem lin_ne (x : Nat) (h : x < 2 ^ 32) (h0 : x ≠ 0) : lin x ≠ 0 := by
  unfold lin
  split
  · intro e
    have h1 : x / 2 = poly := by
      have := congrArg (· ^^^ poly) e
      simpa [Nat.xor_assoc] using this
    have h2 : poly = 2197175160 := rfl
    omega
  · omega

theorem linN_add (m n x : Nat) : linN (m + n) x = linN n (linN m x) := by
  induction m generalizing x with
  | zero => rw [Nat.zero_add]; rfl
  | succ m ih => rw [Nat.succ_add]; exact ih (lin x)
theorem linN_xor (n a b : Nat) : linN n (a ^^^ b) = linN n a ^^^ linN n b := by
  induction n generalizing a b with
  | zero => rfl
  | succ n ih => show linN n (lin (a ^^^ b)) = _; rw [lin_xor, ih]; rfl
theorem linN_zero (n : Nat) : linN n 0 = 0 := by
  induction n with
  | zero => rfl
  | succ n ih => exact ih
theorem linN_lt (n x : Nat) (h : x < 2 ^ 32) : linN n x < 2 ^ 32 := by
  induction n generalizing x with
  | zero => exact h
  | succ n ih => exact ih _ (lin_lt x h)
theorem linN_ne (n x : Nat) (h : x < 2 ^ 32) (h0 : x ≠ 0) : linN n x ≠ 0 := by
  induction n generalizing x with
  | zero => exact h0
  | succ n ih => exact ih _ (lin_lt x h) (lin_ne x h h0)
theorem linN_shift (n x : Nat) : linN n (2 ^ n * x) = x := by
  induction n generalizing x with
  | zero => simp [linN]
  | succ n ih =>
    show linN n (lin (2 ^ (n + 1) * x)) = x
    rw [show 2 ^ (n + 1) * x = 2 * (2 ^ n * x) by rw [Nat.pow_succ]; rw [Nat.mul_comm (2 ^ n) 2, Nat.mul_assoc], lin_even]
    exact ih x

theorem bitF_lin (v b : Nat) (hb : b < 2) : bitF v b = lin (v ^^^ b) := by
  unfold bitF lin
  rw [xor_mod2, xor_div2, show b / 2 = 0 by omega, Nat.xor_zero]
  by_cases h : b = v % 2
  · rw [if_neg (by simp [h]), if_neg (by omega)]
  · rw [if_pos h, if_pos (by omega)]
theorem split2 (c : Nat) : c = c % 2 ^^^ 2 * (c / 2) := by
  have : 2 * (c / 2) = (c / 2) <<< 1 := by rw [Nat.shiftLeft_eq]; omega
  apply Nat.eq_of_testBit_eq
  intro i
  cases i with
  | zero => simp [Nat.testBit_zero]
  | succ i =>
    rw [Nat.testBit_xor, this, Nat.testBit_shiftLeft]
    have h1 : (c % 2).testBit (i + 1) = false := Nat.testBit_lt_two_pow (Nat.lt_of_lt_of_le (Nat.mod_lt _ (by omega)) (by rw [Nat.pow_succ]; have := Nat.one_le_two_pow (n := i); omega))
    simp [h1, Nat.testBit_div_two]
theorem bitsF_lin (n v c : Nat) (hc : c < 2 ^ n) : bitsF n v c = linN n (v ^^^ c) := by
  induction n generalizing v c with
  | zero => have : c = 0 := by omega
            subst this
            simp [bitsF, linN]
  | succ n ih =>
    show bitsF n (bitF v (c % 2)) (c / 2) = linN n (lin (v ^^^ c))
    rw [ih _ _ (by rw [Nat.pow_succ] at hc; omega), bitF_lin v _ (by omega)]
    conv => rhs; rw [split2 c, ← Nat.xor_assoc, lin_xor, lin_even]
theorem byteF_lin (v : Nat) (c : UInt8) : byteF v c = linN 8 (v ^^^ c.toNat) := bitsF_lin 8 v _ c.toNat_lt

/-- A text as a number, its first byte the least. -/
def leF : List UInt8 → Nat
  | [] => 0
  | c :: t => c.toNat ^^^ 2 ^ 8 * leF t

/-- The sum of a text is one linear step of it as a number. -/
theorem crcF_lin (v : Nat) (l : List UInt8) : crcF v l = linN (8 * l.length) (v ^^^ leF l) := by
  induction l generalizing v with
  | nil => simp [crcF, leF, linN]
  | cons c t ih =>
    show crcF (byteF v c) t = _
    rw [ih, byteF_lin, List.length_cons, show 8 * (t.length + 1) = 8 + 8 * t.length by omega, linN_add]
    show _ = linN (8 * t.length) (linN 8 (v ^^^ (c.toNat ^^^ 2 ^ 8 * leF t)))
    rw [← Nat.xor_assoc, linN_xor 8 (v ^^^ c.toNat), linN_shift]

theorem byteF_lt (v : Nat) (c : UInt8) (h : v < 2 ^ 32) : byteF v c < 2 ^ 32 := by
  rw [byteF_lin]
  exact linN_lt _ _ (xor_lt h (Nat.lt_trans c.toNat_lt (by decide)))
theorem crcF_lt (v : Nat) (l : List UInt8) (h : v < 2 ^ 32) : crcF v l < 2 ^ 32 := by
  induction l generalizing v with
  | nil => exact h
  | cons c t ih => exact ih _ (byteF_lt v c h)
theorem crcF_append (v : Nat) (a b : List UInt8) : crcF v (a ++ b) = crcF (crcF v a) b := by simp [crcF]
theorem moreF_lt (v : Nat) (l : List UInt8) (h : v < 2 ^ 32) : moreF v l < 2 ^ 32 := xor_lt (crcF_lt _ _ (xor_lt h (by decide))) (by decide)
theorem sumF_lt (l : List UInt8) : sumF l < 2 ^ 32 := moreF_lt 0 l (by decide)
/-- P2.4: More of Sum(a) and b is Sum of both. -/
theorem moreF_join (v : Nat) (a b : List UInt8) : moreF (moreF v a) b = moreF v (a ++ b) := by
  unfold moreF
  rw [Nat.xor_assoc, Nat.xor_self, Nat.xor_zero, crcF_append]
theorem sumF_join (a b : List UInt8) : moreF (sumF a) b = sumF (a ++ b) := moreF_join 0 a b
theorem moreF_nil (v : Nat) : moreF v [] = v := by
  unfold moreF crcF
  simp [Nat.xor_assoc]

/-- The table: a byte's step at once. -/
def tableF (i : Nat) : Nat := linN 8 i
theorem split8 (x : Nat) : x = x % 256 ^^^ 2 ^ 8 * (x / 256) := by
  have : 2 ^ 8 * (x / 256) = (x / 256) <<< 8 := by rw [Nat.shiftLeft_eq, Nat.mul_comm]
  apply Nat.eq_of_testBit_eq
  intro i
  rw [Nat.testBit_xor, this, Nat.testBit_shiftLeft, show (256 : Nat) = 2 ^ 8 from rfl, Nat.testBit_mod_two_pow, Nat.testBit_div_two_pow]
  by_cases h : i < 8
  · have h8 : ¬ 8 ≤ i := by omega
    simp [h, h8]
  · have h8 : 8 ≤ i := by omega
    simp [h8, h, show i - 8 + 8 = i by omega]
theorem byteF_table (v : Nat) (c : UInt8) : byteF v c = tableF ((v ^^^ c.toNat) % 256) ^^^ v / 256 := by
  rw [byteF_lin]
  unfold tableF
  conv => lhs; rw [split8 (v ^^^ c.toNat), linN_xor, linN_shift]
  congr 1
  have : (v ^^^ c.toNat) / 256 = v / 256 ^^^ c.toNat / 256 := by
    apply Nat.eq_of_testBit_eq
    intro i
    rw [show (256 : Nat) = 2 ^ 8 from rfl, Nat.testBit_xor, Nat.testBit_div_two_pow, Nat.testBit_div_two_pow, Nat.testBit_div_two_pow, Nat.testBit_xor]
  rw [this, Nat.div_eq_of_lt c.toNat_lt, Nat.xor_zero]

/-- Two texts of one length that part in a stretch of at most 32 bits have different sums. -/
theorem sumF_burst (a b : List UInt8) (from' p : Nat) (hl : a.length = b.length) (hp : p < 2 ^ 32) (h0 : p ≠ 0) (hf : from' ≤ 8 * a.length) (hd : leF b = leF a ^^^ 2 ^ from' * p) : sumF b ≠ sumF a := by
  intro e
  unfold sumF moreF at e
  have e2 : crcF (0 ^^^ ones) b = crcF (0 ^^^ ones) a := by
    have := congrArg (· ^^^ ones) e
    simpa [Nat.xor_assoc] using this
  rw [crcF_lin, crcF_lin, hd, ← hl, ← Nat.xor_assoc, linN_xor] at e2
  have e3 : linN (8 * a.length) (2 ^ from' * p) = 0 := by
    have := congrArg (linN (8 * a.length) (0 ^^^ ones ^^^ leF a) ^^^ ·) e2
    simpa [← Nat.xor_assoc] using this
  obtain ⟨m, hm⟩ : ∃ m, 8 * a.length = from' + m := ⟨8 * a.length - from', by omega⟩
  rw [hm, linN_add, linN_shift] at e3
  exact linN_ne m p hp h0 e3

end Go.Proofs.YtlalfehnkhenjabDoor
