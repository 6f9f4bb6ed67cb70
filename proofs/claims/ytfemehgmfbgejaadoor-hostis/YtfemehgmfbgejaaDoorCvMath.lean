/- A span as prefixes: the greatest one first, again and again; halving comes to the same; no fewer will do. No program stands here. -/
import Derived.Test.YtfemehgmfbgejaaDoorSpMath
import Derived.Lib.TrailingZeros
namespace Bur
open Go

theorem pw_pos (k : Nat) : (0 : Int) < 2 ^ k := Int.pow_pos (by decide)
theorem pw_succ (k : Nat) : (2 : Int) ^ (k + 1) = 2 * 2 ^ k := by rw [Int.pow_succ]; omega
theorem pw_dvd {j k : Nat} (h : j ≤ k) : (2 : Int) ^ j ∣ 2 ^ k := ⟨2 ^ (k - j), by rw [← Int.pow_add]; congr 1; omega⟩
theorem pw_le {j k : Nat} (h : j ≤ k) : (2 : Int) ^ j ≤ 2 ^ k := Int.le_of_dvd (pw_pos k) (pw_dvd h)
theorem pw_32 : (2 : Int) ^ 32 = 4294967296 := by decide
/-- Multiples of m that are apart are m apart. -/
theorem apart {m x y : Int} (hm : 0 < m) (hx : m ∣ x) (hy : m ∣ y) (h : x < y) : x + m ≤ y := by
  obtain ⟨p, rfl⟩ := hx
  obtain ⟨q, rfl⟩ := hy
  have hpq : p < q := Int.lt_of_mul_lt_mul_left h (Int.le_of_lt hm)
  have := Int.mul_le_mul_of_nonneg_left (show p + 1 ≤ q by omega) (Int.le_of_lt hm)
  rw [Int.mul_add] at this
  omega
/-- How many bits are free in the greatest prefix that begins at lo and ends at hi at last. -/
def fr (lo hi : Int) : Nat := min (Lib.ctz 64 lo.toNat) (Lib.bitLen (hi - lo + 1).toNat - 1)
theorem ctz_iff (x j : Nat) (h0 : 0 < x) (h1 : x < 2 ^ 64) : 2 ^ j ∣ x ↔ j ≤ Lib.ctz 64 x := by
  unfold Lib.ctz
  rw [if_neg (by omega)]
  obtain ⟨m, hm, hk⟩ := Lib.ctzFrom_spec 64 x h0 h1
  generalize Lib.ctzFrom 64 x = k at hm hk
  constructor
  · intro h
    apply Nat.le_of_not_lt
    intro hlt
    have h2 : 2 ^ (k + 1) ∣ x := Nat.dvd_trans (Nat.pow_dvd_pow 2 hlt) h
    rw [hm, Nat.pow_succ] at h2
    have := Nat.dvd_of_mul_dvd_mul_left (Nat.pow_pos (by decide)) h2
    omega
  · intro h
    rw [hm]
    exact Nat.dvd_trans (Nat.pow_dvd_pow 2 h) (Nat.dvd_mul_right _ _)
theorem fr_spec {lo hi : Int} (h0 : 0 ≤ lo) (h1 : lo ≤ hi) (h2 : hi ≤ 4294967295) :
    (2 : Int) ^ fr lo hi ∣ lo ∧ lo + 2 ^ fr lo hi ≤ hi + 1 ∧ (∀ j : Nat, (2 : Int) ^ j ∣ lo → lo + 2 ^ j ≤ hi + 1 → j ≤ fr lo hi) ∧ fr lo hi ≤ 32 := by
  obtain ⟨x, rfl⟩ := Int.eq_ofNat_of_zero_le h0
  obtain ⟨n, hn⟩ : ∃ n : Nat, (n : Int) = hi - x + 1 := ⟨(hi - x + 1).toNat, by omega⟩
  have hn1 : 0 < n := by omega
  have hn2 : n ≤ 4294967296 := by omega
  have e1 : (hi - (x : Int) + 1).toNat = n := by omega
  have fill : ∀ j : Nat, j ≤ Lib.bitLen n - 1 ↔ 2 ^ j ≤ n := by
    intro j
    have ha := bitLen_le_iff n j (by omega)
    have hb := bitLen_le_iff n 0 (by omega)
    constructor
    · intro h
      apply Nat.le_of_not_lt
      intro hlt
      have := ha.2 hlt
      have hz : ¬ Lib.bitLen n ≤ 0 := fun hh => by have := hb.1 hh; simp at this; omega
      omega
    · intro h
      have : ¬ Lib.bitLen n ≤ j := fun hh => by have := ha.1 hh; omega
      omega
  have dv : ∀ j : Nat, ((2 : Int) ^ j ∣ (x : Int)) ↔ 2 ^ j ∣ x := by
    intro j
    rw [← Int.natCast_dvd_natCast]; simp
  have pc : ∀ j : Nat, ((2 : Int) ^ j) = ((2 ^ j : Nat) : Int) := fun j => by simp
  have key : ∀ j : Nat, 2 ^ j ≤ n → (2 ^ j ∣ x ↔ j ≤ Lib.ctz 64 x) := by
    intro j hj
    by_cases hx : x = 0
    · subst hx
      have : j < 64 := by
        apply Nat.lt_of_not_le
        intro hh
        have := Nat.pow_le_pow_right (n := 2) (by decide) hh
        have h64 : (2 : Nat) ^ 64 = 18446744073709551616 := by decide
        omega
      simp [Lib.ctz]; omega
    · exact ctz_iff x j (by omega) (by omega)
  have hfr : fr (x : Int) hi = min (Lib.ctz 64 x) (Lib.bitLen n - 1) := by unfold fr; rw [e1]; simp
  have hf : 2 ^ fr (x : Int) hi ≤ n := (fill _).1 (by rw [hfr]; omega)
  refine ⟨(dv _).2 ((key _ hf).2 (by rw [hfr]; omega)), by rw [pc]; omega, fun j hd hj => ?_, ?_⟩
  · rw [pc] at hj
    have hj' : 2 ^ j ≤ n := by omega
    have a1 := (key j hj').1 ((dv j).1 hd)
    have a2 := (fill j).2 hj'
    rw [hfr]; omega
  · apply Nat.le_of_not_lt
    intro hh
    have := Nat.pow_le_pow_right (n := 2) (by decide) hh
    have h33 : (2 : Nat) ^ 33 = 8589934592 := by decide
    have e : Nat.succ 32 = 33 := rfl
    rw [e] at this
    omega
theorem fr_eq {lo hi : Int} {k : Nat} (h0 : 0 ≤ lo) (h1 : lo ≤ hi) (h2 : hi ≤ 4294967295) (hd : (2 : Int) ^ k ∣ lo) (hf : lo + 2 ^ k ≤ hi + 1) (hn : ¬ ((2 : Int) ^ (k + 1) ∣ lo ∧ lo + 2 ^ (k + 1) ≤ hi + 1)) : fr lo hi = k := by
  obtain ⟨a, b, c, d⟩ := fr_spec h0 h1 h2
  have h3 := c k hd hf
  apply Nat.le_antisymm _ h3
  apply Nat.le_of_not_lt
  intro hlt
  apply hn
  refine ⟨Int.dvd_trans (pw_dvd hlt) a, ?_⟩
  have := pw_le hlt
  have e : Nat.succ k = k + 1 := rfl
  rw [e] at this
  omega

/-- The prefixes of a span, the greatest first, again and again; n bounds how many. -/
def gr : Nat → Int → Int → List Sp
  | 0, _, _ => []
  | n + 1, lo, hi => if lo ≤ hi then (lo, 32 - (fr lo hi : Int)) :: gr n (lo + 2 ^ fr lo hi) hi else []
theorem gr_fuel : ∀ (n m : Nat) (lo hi : Int), hi - lo + 1 ≤ n → hi - lo + 1 ≤ m → gr n lo hi = gr m lo hi
  | 0, 0, _, _, _, _ => rfl
  | 0, m + 1, lo, hi, h, _ => by rw [gr, gr, if_neg (by omega)]
  | n + 1, 0, lo, hi, _, h => by rw [gr, gr, if_neg (by omega)]
  | n + 1, m + 1, lo, hi, h1, h2 => by
    have := pw_pos (fr lo hi)
    rw [gr, gr, gr_fuel n m _ _ (by omega) (by omega)]
def cov (lo hi : Int) : List Sp := gr (hi - lo + 1).toNat lo hi
theorem cov_no {lo hi : Int} (h : hi < lo) : cov lo hi = [] := by
  unfold cov
  rw [show (hi - lo + 1).toNat = 0 from by omega]; rfl
theorem cov_yes {lo hi : Int} (h : lo ≤ hi) : cov lo hi = (lo, 32 - (fr lo hi : Int)) :: cov (lo + 2 ^ fr lo hi) hi := by
  have hp := pw_pos (fr lo hi)
  unfold cov
  obtain ⟨n, hn⟩ : ∃ n, (hi - lo + 1).toNat = n + 1 := ⟨(hi - lo).toNat, by omega⟩
  rw [hn, gr, if_pos h, gr_fuel n (hi - (lo + 2 ^ fr lo hi) + 1).toNat _ _ (by omega) (by omega)]
/-- A multiple of a great power in the middle parts the prefixes, if no one has all. -/
theorem cov_part {a H : Int} {k : Nat} (ha : (2 : Int) ^ (k + 1) ∣ a) (hH0 : a + 2 ^ k ≤ H) (hH : H ≤ 4294967295) : ∀ (n : Nat) (L : Int), (a + 2 ^ k - L).toNat ≤ n → 0 ≤ L → a ≤ L → L < a + 2 ^ k → (L = a → H < a + 2 ^ (k + 1) - 1) → H ≤ a + 2 ^ (k + 1) - 1 → cov L H = cov L (a + 2 ^ k - 1) ++ cov (a + 2 ^ k) H
  | 0, L, hn, _, _, hlt, _, _ => by omega
  | n + 1, L, hn, h0, hle, hlt, hne, hH2 => by
    have hp := pw_pos k
    have hps := pw_succ k
    obtain ⟨s1, s2, s3, s4⟩ := fr_spec (lo := L) (hi := H) h0 (by omega) hH
    have hd0 : (2 : Int) ^ k ∣ a := Int.dvd_trans (pw_dvd (Nat.le_succ k)) ha
    have hdm : (2 : Int) ^ k ∣ a + 2 ^ k := Int.dvd_add hd0 (Int.dvd_refl _)
    have hj : fr L H ≤ k := by
      apply Nat.le_of_not_lt
      intro hk
      have h1 : (2 : Int) ^ (k + 1) ∣ L := Int.dvd_trans (pw_dvd hk) s1
      have hLa : L = a := by
        rcases Int.lt_or_eq_of_le hle with g | g
        · have := apart (pw_pos (k + 1)) ha h1 g; omega
        · exact g.symm
      have h2 := pw_le hk
      have e : Nat.succ k = k + 1 := rfl
      rw [e] at h2
      have := hne hLa
      omega
    have hfit : L + 2 ^ fr L H ≤ a + 2 ^ k := apart (pw_pos _) s1 (Int.dvd_trans (pw_dvd hj) hdm) hlt
    have hfp := pw_pos (fr L H)
    have e1 : fr L (a + 2 ^ k - 1) = fr L H := by
      refine fr_eq h0 (by omega) (by omega) s1 (by omega) ?_
      rintro ⟨g1, g2⟩
      have := s3 _ g1 (by omega)
      omega
    rw [cov_yes (show L ≤ H by omega), cov_yes (show L ≤ a + 2 ^ k - 1 by omega), e1, List.cons_append]
    congr 1
    by_cases hend : L + 2 ^ fr L H < a + 2 ^ k
    · exact cov_part ha hH0 hH n _ (by omega) (by omega) (by omega) hend (fun h => by omega) hH2
    · have : L + 2 ^ fr L H = a + 2 ^ k := by omega
      rw [this, cov_no (lo := a + 2 ^ k) (hi := a + 2 ^ k - 1) (by omega), List.nil_append]

/-- The prefixes of a span within the one at a with k free bits, by halving. -/
def hv : Nat → Int → Int → Int → List Sp
  | 0, a, lo, hi => if hi < a ∨ a < lo then [] else [(a, 32)]
  | k + 1, a, lo, hi => if hi < a ∨ a + 2 ^ (k + 1) - 1 < lo then [] else if lo ≤ a ∧ a + 2 ^ (k + 1) - 1 ≤ hi then [(a, 32 - ((k + 1 : Nat) : Int))] else hv k a lo hi ++ hv k (a + 2 ^ k) lo hi
theorem cov_whole {a : Int} {k : Nat} (h0 : 0 ≤ a) (ha : (2 : Int) ^ k ∣ a) (hb : a + 2 ^ k - 1 ≤ 4294967295) : cov a (a + 2 ^ k - 1) = [(a, 32 - (k : Int))] := by
  have hp := pw_pos k
  have hps := pw_succ k
  have e : fr a (a + 2 ^ k - 1) = k := fr_eq h0 (by omega) hb ha (by omega) (by rintro ⟨_, g⟩; omega)
  rw [cov_yes (by omega), e, cov_no (by omega)]
theorem hv_cov : ∀ (k : Nat) (a lo hi : Int), 0 ≤ a → (2 : Int) ^ k ∣ a → a + 2 ^ k - 1 ≤ 4294967295 → lo ≤ hi → hv k a lo hi = cov (max lo a) (min hi (a + 2 ^ k - 1))
  | 0, a, lo, hi, h0, hd, hb, hle => by
    rw [hv]
    simp only [Int.pow_zero] at *
    split
    · rw [cov_no (by omega)]
    · rw [show max lo a = a from by omega, show min hi (a + 1 - 1) = a + 2 ^ 0 - 1 from by simp; omega, cov_whole h0 (by simp) (by simp; omega)]; rfl
  | k + 1, a, lo, hi, h0, hd, hb, hle => by
    have hp := pw_pos k
    have hps := pw_succ k
    have hd0 : (2 : Int) ^ k ∣ a := Int.dvd_trans (pw_dvd (Nat.le_succ k)) hd
    rw [hv]
    split
    · rw [cov_no (by omega)]
    · split
      · rw [show max lo a = a from by omega, show min hi (a + 2 ^ (k + 1) - 1) = a + 2 ^ (k + 1) - 1 from by omega, cov_whole h0 hd hb]
      · rename_i h1 h2
        rw [hv_cov k a lo hi h0 hd0 (by omega) hle, hv_cov k (a + 2 ^ k) lo hi (by omega) (Int.dvd_add hd0 (Int.dvd_refl _)) (by omega) hle]
        by_cases g1 : hi < a + 2 ^ k
        · rw [show max lo (a + 2 ^ k) = max lo (a + 2 ^ k) from rfl, cov_no (lo := max lo (a + 2 ^ k)) (by omega), List.append_nil, show min hi (a + 2 ^ k - 1) = min hi (a + 2 ^ (k + 1) - 1) from by omega]
        · by_cases g2 : a + 2 ^ k ≤ lo
          · rw [cov_no (lo := max lo a) (hi := min hi (a + 2 ^ k - 1)) (by omega), List.nil_append, show max lo (a + 2 ^ k) = max lo a from by omega, show a + 2 ^ k + 2 ^ k - 1 = a + 2 ^ (k + 1) - 1 from by omega]
          · rw [show min hi (a + 2 ^ k - 1) = a + 2 ^ k - 1 from by omega, show max lo (a + 2 ^ k) = a + 2 ^ k from by omega, show a + 2 ^ k + 2 ^ k - 1 = a + 2 ^ (k + 1) - 1 from by omega]
            exact (cov_part hd (by omega) (by omega) _ _ (Nat.le_refl _) (by omega) (by omega) (by omega) (fun h => by omega) (by omega)).symm
/-- Halving the whole comes to the same. -/
theorem hv_all {lo hi : Int} (h0 : 0 ≤ lo) (h1 : lo ≤ hi) (h2 : hi ≤ 4294967295) : hv 32 0 lo hi = cov lo hi := by
  rw [hv_cov 32 0 lo hi (by omega) ⟨0, by simp⟩ (by rw [pw_32]; omega) h1, pw_32, show max lo 0 = lo from by omega, show min hi (0 + 4294967296 - 1) = hi from by omega]
end Bur
