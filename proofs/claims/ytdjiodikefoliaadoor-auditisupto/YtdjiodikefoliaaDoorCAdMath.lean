/- Plain arithmetic of addresses and prefixes: sizes, masks, the common prefix of two addresses. No program stands here. -/
import Derived.WalkKit
import Derived.Lib.BitFns
namespace Bur
open Go

/-- A number is an address. -/
def isA (a : Int) : Bool := decide (0 ≤ a) && decide (a ≤ 4294967295)
theorem isA_true {a : Int} (h : isA a = true) : 0 ≤ a ∧ a ≤ 4294967295 := by simpa [isA] using h
theorem isA_mk {a : Int} (h0 : 0 ≤ a) (h1 : a ≤ 4294967295) : isA a = true := by simp [isA, h0, h1]
theorem isA_false {a : Int} (h : isA a = false) : a < 0 ∨ 4294967295 < a := by
  simp [isA] at h; omega

/-- How many addresses a prefix of a length has. -/
def sz (n : Int) : Int := 2 ^ (32 - n).toNat
theorem sz_pos (n : Int) : 0 < sz n := by unfold sz; exact Int.pow_pos (by decide)
theorem sz_le (n : Int) (h : 0 ≤ n) : sz n ≤ 4294967296 := by
  unfold sz
  have : (32 - n).toNat ≤ 32 := by omega
  have h2 : (2 : Nat) ^ (32 - n).toNat ≤ 2 ^ 32 := Nat.pow_le_pow_right (by decide) this
  have h3 : ((2 : Int) ^ (32 - n).toNat) = ((2 ^ (32 - n).toNat : Nat) : Int) := by simp
  rw [h3]; have : (2 : Nat) ^ 32 = 4294967296 := by decide
  omega
theorem sz_32 : sz 32 = 1 := by decide
theorem sz_0 : sz 0 = 4294967296 := by decide
theorem sz_half (n : Int) (h : n < 32) : sz n = 2 * sz (n + 1) := by
  unfold sz
  have : (32 - n).toNat = (32 - (n + 1)).toNat + 1 := by omega
  rw [this, Int.pow_succ]; omega
theorem sz_nat (n : Int) : sz n = ((2 ^ (32 - n).toNat : Nat) : Int) := by unfold sz; simp

/-- The fault of a prefix: 0 none, 1 range, 2 shape. -/
def fault (a l : Int) : Int := if l < 0 ∨ 32 < l ∨ isA a = false then 1 else if a % sz l = 0 then 0 else 2
theorem fault_ok {a l : Int} (h : fault a l = 0) : 0 ≤ l ∧ l ≤ 32 ∧ 0 ≤ a ∧ a ≤ 4294967295 ∧ a % sz l = 0 := by
  unfold fault at h
  split at h
  · omega
  · rename_i h1
    split at h
    · rename_i h2
      have : isA a = true := by cases hh : isA a <;> simp_all
      have := isA_true this
      omega
    · omega
theorem fault_mk {a l : Int} (h1 : 0 ≤ l) (h2 : l ≤ 32) (h3 : isA a = true) (h4 : a % sz l = 0) : fault a l = 0 := by
  unfold fault
  rw [if_neg (by simp [h3]; omega), if_pos h4]
theorem fault_cases (a l : Int) : (fault a l = 1 ∧ (l < 0 ∨ 32 < l ∨ isA a = false)) ∨ (fault a l = 2 ∧ 0 ≤ l ∧ l ≤ 32 ∧ isA a = true ∧ a % sz l ≠ 0) ∨ (fault a l = 0 ∧ 0 ≤ l ∧ l ≤ 32 ∧ isA a = true ∧ a % sz l = 0) := by
  unfold fault
  by_cases h : l < 0 ∨ 32 < l ∨ isA a = false
  · left; rw [if_pos h]; exact ⟨rfl, h⟩
  · right
    rw [if_neg h]
    have h0 : isA a = true := by cases hh : isA a <;> simp_all
    by_cases h2 : a % sz l = 0
    · right; rw [if_pos h2]; exact ⟨rfl, by omega, by omega, h0, h2⟩
    · left; rw [if_neg h2]; exact ⟨rfl, by omega, by omega, h0, h2⟩
theorem fault_range (a l : Int) : 0 ≤ fault a l ∧ fault a l ≤ 2 := by
  rcases fault_cases a l with h | h | h <;> omega

/-! Bits of an int. -/
theorem wrap_i64_id (n : Int) (h0 : 0 ≤ n) (h1 : n < 9223372036854775808) : IntKind.i64.wrap n = n := by
  simp [IntKind.wrap, IntKind.bits, IntKind.signed]; omega
theorem i64_and_nat (a b : Nat) (ha : a < 9223372036854775808) (hb : b < 9223372036854775808) : bits .and .i64 (a : Int) (b : Int) = ((a &&& b : Nat) : Int) := by
  have hx : a &&& b < 2 ^ 63 := Nat.and_lt_two_pow _ (by omega)
  show IntKind.i64.wrap ((BitVec.ofInt 64 (a : Int) &&& BitVec.ofInt 64 (b : Int)).toNat : Int) = _
  rw [BitVec.toNat_and, ofInt_u64 a (by omega), ofInt_u64 b (by omega)]
  exact wrap_i64_id _ (by omega) (by omega)
theorem i64_or_nat (a b : Nat) (ha : a < 9223372036854775808) (hb : b < 9223372036854775808) : bits .or .i64 (a : Int) (b : Int) = ((a ||| b : Nat) : Int) := by
  have hx : a ||| b < 2 ^ 63 := Nat.or_lt_two_pow (by omega) (by omega)
  show IntKind.i64.wrap ((BitVec.ofInt 64 (a : Int) ||| BitVec.ofInt 64 (b : Int)).toNat : Int) = _
  rw [BitVec.toNat_or, ofInt_u64 a (by omega), ofInt_u64 b (by omega)]
  exact wrap_i64_id _ (by omega) (by omega)
theorem i64_xor_nat (a b : Nat) (ha : a < 9223372036854775808) (hb : b < 9223372036854775808) : bits .xor .i64 (a : Int) (b : Int) = ((a ^^^ b : Nat) : Int) := by
  have hx : a ^^^ b < 2 ^ 63 := Nat.xor_lt_two_pow (by omega) (by omega)
  show IntKind.i64.wrap ((BitVec.ofInt 64 (a : Int) ^^^ BitVec.ofInt 64 (b : Int)).toNat : Int) = _
  rw [BitVec.toNat_xor, ofInt_u64 a (by omega), ofInt_u64 b (by omega)]
  exact wrap_i64_id _ (by omega) (by omega)
theorem i64_andNot_nat (a b : Nat) (ha : a < 9223372036854775808) (hb : b < 9223372036854775808) : bits .andNot .i64 (a : Int) (b : Int) = ((a &&& (18446744073709551615 - b) : Nat) : Int) := by
  have hx : a &&& (18446744073709551615 - b) < 2 ^ 63 := by
    have := @Nat.and_le_left a (18446744073709551615 - b); omega
  show IntKind.i64.wrap ((BitVec.ofInt 64 (a : Int) &&& ~~~BitVec.ofInt 64 (b : Int)).toNat : Int) = _
  rw [BitVec.toNat_and, BitVec.toNat_not, ofInt_u64 a (by omega), ofInt_u64 b (by omega)]
  have e : 2 ^ 64 - 1 - b = 18446744073709551615 - b := by omega
  rw [e]
  exact wrap_i64_id _ (by omega) (by omega)

theorem pow_lt (k : Nat) (hk : k ≤ 32) : (2 : Nat) ^ k ≤ 4294967296 := by
  have h2 : (2 : Nat) ^ k ≤ 2 ^ 32 := Nat.pow_le_pow_right (by decide) hk
  have : (2 : Nat) ^ 32 = 4294967296 := by decide
  omega

theorem and_mask (a n : Int) (h0 : 0 ≤ a) (h1 : a ≤ 4294967295) (hn : 0 ≤ n) : bits .and .i64 a (sz n - 1) = a % sz n := by
  obtain ⟨A, rfl⟩ := Int.eq_ofNat_of_zero_le h0
  have hk := pow_lt (32 - n).toNat (by omega)
  have hp : 0 < (2 : Nat) ^ (32 - n).toNat := Nat.pow_pos (by decide)
  rw [sz_nat, show (((2 ^ (32 - n).toNat : Nat) : Int) - 1) = ((2 ^ (32 - n).toNat - 1 : Nat) : Int) from by omega]
  rw [i64_and_nat A _ (by omega) (by omega), Nat.and_two_pow_sub_one_eq_mod]
  omega
theorem andNot_mask (a n : Int) (h0 : 0 ≤ a) (h1 : a ≤ 4294967295) (hn : 0 ≤ n) : bits .andNot .i64 a (sz n - 1) = a - a % sz n := by
  obtain ⟨A, rfl⟩ := Int.eq_ofNat_of_zero_le h0
  have hk := pow_lt (32 - n).toNat (by omega)
  have hp : 0 < (2 : Nat) ^ (32 - n).toNat := Nat.pow_pos (by decide)
  rw [sz_nat, show (((2 ^ (32 - n).toNat : Nat) : Int) - 1) = ((2 ^ (32 - n).toNat - 1 : Nat) : Int) from by omega]
  rw [i64_andNot_nat A _ (by omega) (by omega)]
  have e : 18446744073709551615 - (2 ^ (32 - n).toNat - 1) = 2 ^ 64 - 2 ^ (32 - n).toNat := by omega
  rw [e, nat_midmask 64 (32 - n).toNat A (by omega)]
  rw [Nat.mod_eq_of_lt (by omega)]
  have := Nat.div_add_mod A (2 ^ (32 - n).toNat)
  rw [Nat.mul_comm] at this
  omega
theorem or_mask (a n : Int) (h0 : 0 ≤ a) (h1 : a ≤ 4294967295) (hn : 0 ≤ n) (hm : a % sz n = 0) : bits .or .i64 a (sz n - 1) = a + (sz n - 1) := by
  obtain ⟨A, rfl⟩ := Int.eq_ofNat_of_zero_le h0
  have hk := pow_lt (32 - n).toNat (by omega)
  have hp : 0 < (2 : Nat) ^ (32 - n).toNat := Nat.pow_pos (by decide)
  rw [sz_nat] at hm ⊢
  rw [show (((2 ^ (32 - n).toNat : Nat) : Int) - 1) = ((2 ^ (32 - n).toNat - 1 : Nat) : Int) from by omega]
  rw [i64_or_nat A _ (by omega) (by omega), nat_join (32 - n).toNat A _ (by omega) (by omega)]
  omega

/-! The common prefix of two addresses. -/
theorem div_eq_iff_xor (a b k : Nat) : a / 2 ^ k = b / 2 ^ k ↔ a ^^^ b < 2 ^ k := by
  have h : (a ^^^ b) / 2 ^ k = (a / 2 ^ k) ^^^ (b / 2 ^ k) := by
    rw [← Nat.shiftRight_eq_div_pow, ← Nat.shiftRight_eq_div_pow, ← Nat.shiftRight_eq_div_pow, Nat.shiftRight_xor_distrib]
  have hp : 0 < (2 : Nat) ^ k := Nat.pow_pos (by decide)
  rw [← Nat.div_eq_zero_iff_lt hp, h]
  constructor
  · intro e; rw [e]; simp
  · intro e
    have := congrArg (fun t => t ^^^ (b / 2 ^ k)) e
    simpa [Nat.xor_assoc] using this
/-- The bits that are not common. -/
def bl (a b : Int) : Int := (Lib.bitLen (a.toNat ^^^ b.toNat) : Int)
end Bur
namespace Bur
open Go
theorem bitLenAux_le : ∀ (f x k : Nat), x < 2 ^ f → (Lib.bitLenAux f x ≤ k ↔ x < 2 ^ k)
  | 0, x, k, hx => by
    have : x = 0 := by simpa using hx
    subst this
    simp [Lib.bitLenAux, Nat.pow_pos]
  | f + 1, x, k, hx => by
    simp only [Lib.bitLenAux]
    by_cases h0 : x = 0
    · subst h0; simp [Nat.pow_pos]
    · rw [if_neg h0]
      cases k with
      | zero => simp; exact h0
      | succ k =>
        have := bitLenAux_le f (x / 2) k (by rw [Nat.pow_succ] at hx; omega)
        rw [Nat.pow_succ]
        omega
theorem bitLen_le_iff (x k : Nat) (hx : x < 2 ^ 64) : Lib.bitLen x ≤ k ↔ x < 2 ^ k := bitLenAux_le 64 x k hx

theorem xor_lt (a b : Int) (ha : isA a = true) (hb : isA b = true) : a.toNat ^^^ b.toNat < 2 ^ 32 := by
  obtain ⟨_, _⟩ := isA_true ha
  obtain ⟨_, _⟩ := isA_true hb
  exact Nat.xor_lt_two_pow (by omega) (by omega)
theorem bl_bd (a b : Int) (ha : isA a = true) (hb : isA b = true) : 0 ≤ bl a b ∧ bl a b ≤ 32 := by
  have h := xor_lt a b ha hb
  have := (bitLen_le_iff (a.toNat ^^^ b.toNat) 32 (by omega)).2 h
  unfold bl; omega
/-- Two addresses lie in one prefix of length n just if n leaves out as many bits as they do not have in common. -/
theorem div_sz (a b n : Int) (ha : isA a = true) (hb : isA b = true) (h1 : n ≤ 32) : a / sz n = b / sz n ↔ n ≤ 32 - bl a b := by
  have h := xor_lt a b ha hb
  obtain ⟨a0, _⟩ := isA_true ha
  obtain ⟨b0, _⟩ := isA_true hb
  have hi := bitLen_le_iff (a.toNat ^^^ b.toNat) (32 - n).toNat (by omega)
  have hd := div_eq_iff_xor a.toNat b.toNat (32 - n).toNat
  obtain ⟨A, rfl⟩ := Int.eq_ofNat_of_zero_le a0
  obtain ⟨B, rfl⟩ := Int.eq_ofNat_of_zero_le b0
  simp only [Int.toNat_natCast] at *
  rw [sz_nat]
  have e : ((A : Int) / ((2 ^ (32 - n).toNat : Nat) : Int) = (B : Int) / ((2 ^ (32 - n).toNat : Nat) : Int)) ↔ A / 2 ^ (32 - n).toNat = B / 2 ^ (32 - n).toNat := by
    rw [← Int.natCast_ediv, ← Int.natCast_ediv]; omega
  rw [e, hd, ← hi]
  unfold bl
  simp only [Int.toNat_natCast]
  omega
theorem mul_div_sz (a n : Int) : a / sz n * sz n = a - a % sz n := by
  have := Int.emod_add_mul_ediv a (sz n)
  rw [Int.mul_comm] at this
  omega
end Bur
namespace Bur
open Go
/-- The last address of a prefix is an address. -/
theorem last_le {a l : Int} (h0 : 0 ≤ l) (h1 : l ≤ 32) (a0 : 0 ≤ a) (a1 : a ≤ 4294967295) (hz : a % sz l = 0) : a + (sz l - 1) ≤ 4294967295 := by
  have hp := sz_pos l
  have hw : sz l * 2 ^ l.toNat = 4294967296 := by
    unfold sz
    rw [← Int.pow_add, show (32 - l).toNat + l.toNat = 32 from by omega]; rfl
  obtain ⟨q, hq⟩ := Int.dvd_of_emod_eq_zero hz
  have hlt : sz l * q < sz l * 2 ^ l.toNat := by rw [hw, ← hq]; omega
  have hq1 : q < 2 ^ l.toNat := Int.lt_of_mul_lt_mul_left hlt (Int.le_of_lt hp)
  have : sz l * (q + 1) ≤ sz l * 2 ^ l.toNat := Int.mul_le_mul_of_nonneg_left (by omega) (Int.le_of_lt hp)
  rw [hw, Int.mul_add, ← hq] at this
  omega
theorem half_low {a l : Int} (h1 : l < 32) (hz : a % sz l = 0) : a - a % sz (l + 1) = a := by
  have hh := sz_half l h1
  rw [hh] at hz
  have : a % sz (l + 1) = 0 := by
    obtain ⟨q, hq⟩ := Int.dvd_of_emod_eq_zero hz
    exact Int.emod_eq_zero_of_dvd ⟨2 * q, by rw [hq, Int.mul_comm 2 (sz (l + 1)), Int.mul_assoc]⟩
  omega
theorem half_high {a l : Int} (h1 : l < 32) (hz : a % sz l = 0) : a + (sz l - 1) - (a + (sz l - 1)) % sz (l + 1) = a + sz (l + 1) := by
  have hh := sz_half l h1
  have hp := sz_pos (l + 1)
  have hlo := half_low h1 hz
  have e0 : a % sz (l + 1) = 0 := by omega
  have : (a + (sz l - 1)) % sz (l + 1) = sz (l + 1) - 1 := by
    rw [hh, show a + (2 * sz (l + 1) - 1) = (a + (sz (l + 1) - 1)) + sz (l + 1) * 1 from by omega, Int.add_mul_emod_self_left, Int.add_emod, e0, Int.zero_add, Int.emod_emod_of_dvd _ (Int.dvd_refl _)]
    exact Int.emod_eq_of_lt (by omega) (by omega)
  omega
end Bur
namespace Bur
open Go
/-- Is each address of one prefix that of the other? -/
def inB (a l a2 l2 : Int) : Bool := decide (a2 ≤ a) && decide (a + sz l ≤ a2 + sz l2)
theorem sz_mul {l l2 : Int} (h1 : l ≤ 32) (h : l2 ≤ l) : sz l2 = sz l * 2 ^ (l - l2).toNat := by
  unfold sz
  rw [← Int.pow_add, show (32 - l).toNat + (l - l2).toNat = (32 - l2).toNat from by omega]
theorem sz_lt {l l2 : Int} (h2 : l2 ≤ 32) (h : l < l2) : sz l2 < sz l := by
  have e := sz_mul h2 (Int.le_of_lt h)
  have hp := sz_pos l2
  have : (2 : Int) ≤ 2 ^ (l2 - l).toNat := by
    rw [show (l2 - l).toNat = ((l2 - l).toNat - 1) + 1 from by omega, Int.pow_succ]
    have : (0 : Int) < 2 ^ ((l2 - l).toNat - 1) := Int.pow_pos (by decide)
    omega
  have h2 := Int.mul_le_mul_of_nonneg_left this (Int.le_of_lt hp)
  omega
theorem within_eq {a l a2 l2 : Int} (_h0 : 0 ≤ l) (h1 : l ≤ 32) (hz : a % sz l = 0) (_h2 : 0 ≤ l2) (h3 : l2 ≤ 32) (hz2 : a2 % sz l2 = 0) :
    inB a l a2 l2 = (decide (l2 ≤ l) && decide (a - a % sz l2 = a2)) := by
  have hp := sz_pos l
  have hp2 := sz_pos l2
  have hm := Int.emod_nonneg a (Int.ne_of_gt hp2)
  have hl := Int.emod_lt_of_pos a hp2
  rw [Bool.eq_iff_iff]
  simp only [inB, Bool.and_eq_true, decide_eq_true_eq]
  constructor
  · rintro ⟨g1, g2⟩
    refine ⟨?_, ?_⟩
    · apply Int.not_lt.1
      intro hlt
      have := sz_lt h3 hlt
      omega
    · obtain ⟨q, hq⟩ := Int.dvd_of_emod_eq_zero hz2
      have : a % sz l2 = a - a2 := by
        rw [show a = (a - a2) + sz l2 * q from by omega, Int.add_mul_emod_self_left]
        have := Int.emod_eq_of_lt (a := a - a2) (b := sz l2) (by omega) (by omega)
        omega
      omega
  · rintro ⟨g1, g2⟩
    refine ⟨by omega, ?_⟩
    have e := sz_mul h1 g1
    have hd : a % sz l2 % sz l = 0 := by
      rw [e, Int.emod_emod_of_dvd _ ⟨2 ^ (l - l2).toNat, rfl⟩]; exact hz
    obtain ⟨q, hq⟩ := Int.dvd_of_emod_eq_zero hd
    have hlt : sz l * q < sz l * 2 ^ (l - l2).toNat := by rw [← e, ← hq]; exact hl
    have hq1 : q < 2 ^ (l - l2).toNat := Int.lt_of_mul_lt_mul_left hlt (Int.le_of_lt hp)
    have h5 : sz l * (q + 1) ≤ sz l * 2 ^ (l - l2).toNat := Int.mul_le_mul_of_nonneg_left (by omega) (Int.le_of_lt hp)
    rw [← e, Int.mul_add, ← hq] at h5
    omega
end Bur
namespace Bur
def endA (a l : Int) : Int := if fault a l = 0 then a else 0
def endB (a l : Int) : Int := if fault a l = 0 then a + (sz l - 1) else 0
def halF (a l : Int) : Int := if fault a l = 0 ∧ l = 32 then 4 else fault a l
def h32 (a l : Int) : Bool := decide (fault a l = 0 ∧ l = 32)
def u0 (a l : Int) : Bool := decide (fault a l = 0 ∧ l = 0)
def lowA (a l : Int) : Int := if halF a l = 0 then a else 0
def higA (a l : Int) : Int := if halF a l = 0 then a + sz (l + 1) else 0
def halL (a l : Int) : Int := if halF a l = 0 then l + 1 else 0
def upF (a l : Int) : Int := if fault a l = 0 ∧ l = 0 then 4 else fault a l
def upA (a l : Int) : Int := if upF a l = 0 then a - a % sz (l - 1) else 0
def upL (a l : Int) : Int := if upF a l = 0 then l - 1 else 0
def witF (a l a2 l2 : Int) : Int := if fault a l = 0 then fault a2 l2 else fault a l
def witB (a l a2 l2 : Int) : Bool := decide (witF a l a2 l2 = 0) && inB a l a2 l2
def bAB (a b : Int) : Bool := isA a && isA b
def botF (a b : Int) : Int := if isA a = true ∧ isA b = true then 0 else 1
def botA (a b : Int) : Int := if botF a b = 0 then a - a % sz (32 - bl a b) else 0
def botL (a b : Int) : Int := if botF a b = 0 then 32 - bl a b else 0
end Bur
