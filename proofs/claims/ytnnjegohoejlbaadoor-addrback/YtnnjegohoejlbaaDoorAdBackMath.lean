/- Plain arithmetic for the law AddrBack: halves go up again; two addresses lie in their prefix, on either side of its middle. -/
import Derived.Test.YtnnjegohoejlbaaDoorAdMath
namespace Bur
open Go
theorem emod_half {a l : Int} (h1 : l < 32) (hz : a % sz l = 0) : a % sz (l + 1) = 0 := by
  have := half_low h1 hz
  omega
theorem low_ok {a l : Int} (h : fault a l = 0) (hl : l < 32) : fault a (l + 1) = 0 ∧ a - a % sz (l + 1 - 1) = a := by
  obtain ⟨l0, l1, a0, a1, hz⟩ := fault_ok h
  refine ⟨fault_mk (by omega) (by omega) (isA_mk a0 a1) (emod_half hl hz), ?_⟩
  rw [show l + 1 - 1 = l from by omega, hz]; omega
theorem high_ok {a l : Int} (h : fault a l = 0) (hl : l < 32) : fault (a + sz (l + 1)) (l + 1) = 0 ∧ a + sz (l + 1) - (a + sz (l + 1)) % sz (l + 1 - 1) = a := by
  obtain ⟨l0, l1, a0, a1, hz⟩ := fault_ok h
  have hh := sz_half l hl
  have hp := sz_pos (l + 1)
  have hm := last_le l0 l1 a0 a1 hz
  have h0 := emod_half hl hz
  refine ⟨fault_mk (by omega) (by omega) (isA_mk (by omega) (by omega)) ?_, ?_⟩
  · rw [Int.add_emod, h0, Int.emod_self]; rfl
  · rw [show l + 1 - 1 = l from by omega, Int.add_emod, hz, Int.zero_add, Int.emod_emod_of_dvd _ (Int.dvd_refl _), Int.emod_eq_of_lt (by omega) (by omega)]
    omega
/-- The prefix of two addresses. -/
theorem both_in {a b : Int} (ha : isA a = true) (hb : isA b = true) : fault (a - a % sz (32 - bl a b)) (32 - bl a b) = 0 ∧
    a - a % sz (32 - bl a b) ≤ a ∧ a ≤ a - a % sz (32 - bl a b) + (sz (32 - bl a b) - 1) ∧ a - a % sz (32 - bl a b) ≤ b ∧ b ≤ a - a % sz (32 - bl a b) + (sz (32 - bl a b) - 1) := by
  obtain ⟨a0, a1⟩ := isA_true ha
  obtain ⟨b0, b1⟩ := isA_true hb
  obtain ⟨l0, l1⟩ := bl_bd a b ha hb
  have hd := (div_sz a b (32 - bl a b) ha hb (by omega)).2 (by omega)
  have hp := sz_pos (32 - bl a b)
  have m1 := mul_div_sz a (32 - bl a b)
  have m2 := mul_div_sz b (32 - bl a b)
  have e1 := Int.emod_nonneg a (Int.ne_of_gt hp)
  have e2 := Int.emod_lt_of_pos a hp
  have e3 := Int.emod_nonneg b (Int.ne_of_gt hp)
  have e4 := Int.emod_lt_of_pos b hp
  rw [← hd] at m2
  have hn := Int.ediv_nonneg a0 (Int.le_of_lt hp)
  have hmn := Int.mul_nonneg hn (Int.le_of_lt hp)
  refine ⟨fault_mk (by omega) (by omega) (isA_mk (by omega) (by omega)) ?_, by omega, by omega, by omega, by omega⟩
  rw [← m1]; exact Int.mul_emod_left _ _
theorem both_32 {a b : Int} (ha : isA a = true) (hb : isA b = true) (h : 32 - bl a b = 32) : a = b := by
  have hd := (div_sz a b (32 - bl a b) ha hb (by omega)).2 (by omega)
  rw [h, sz_32, Int.ediv_one, Int.ediv_one] at hd
  exact hd
theorem both_mid {a b : Int} (ha : isA a = true) (hb : isA b = true) (h : 32 - bl a b < 32) :
    (decide (a ≤ a - a % sz (32 - bl a b) + (sz (32 - bl a b + 1) - 1)) != decide (b ≤ a - a % sz (32 - bl a b) + (sz (32 - bl a b + 1) - 1))) = true := by
  obtain ⟨_, g1, g2, g3, g4⟩ := both_in ha hb
  have hh := sz_half (32 - bl a b) h
  have hp := sz_pos (32 - bl a b + 1)
  have hn : ¬ a / sz (32 - bl a b + 1) = b / sz (32 - bl a b + 1) := fun e => by
    have := (div_sz a b (32 - bl a b + 1) ha hb (by omega)).1 e; omega
  have m1 := mul_div_sz a (32 - bl a b)
  generalize hA : a - a % sz (32 - bl a b) = A at *
  generalize hs : sz (32 - bl a b + 1) = s at *
  have hA2 : A = (a / sz (32 - bl a b) * 2) * s := by rw [← m1, hh, Int.mul_assoc]
  generalize a / sz (32 - bl a b) * 2 = q at *
  have dv : ∀ x, A ≤ x → x ≤ A + (s - 1) → x / s = q := by
    intro x h1 h2
    rw [show x = (x - A) + q * s from by omega, Int.add_mul_ediv_right _ _ (Int.ne_of_gt hp), Int.ediv_eq_zero_of_lt (by omega) (by omega)]; omega
  have dv2 : ∀ x, A + s ≤ x → x ≤ A + (sz (32 - bl a b) - 1) → x / s = q + 1 := by
    intro x h1 h2
    rw [show x = (x - A - s) + (q + 1) * s from by rw [Int.add_mul]; omega, Int.add_mul_ediv_right _ _ (Int.ne_of_gt hp), Int.ediv_eq_zero_of_lt (by omega) (by omega)]; omega
  by_cases c1 : a ≤ A + (s - 1) <;> by_cases c2 : b ≤ A + (s - 1)
  · exact absurd ((dv a g1 c1).trans (dv b g3 c2).symm) hn
  · simp [c1, c2]
  · simp [c1, c2]
  · exact absurd ((dv2 a (by omega) g2).trans (dv2 b (by omega) g4).symm) hn
end Bur
