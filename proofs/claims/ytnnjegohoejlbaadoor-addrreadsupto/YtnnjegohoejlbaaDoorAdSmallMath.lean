/- A small number of at most three digits, and the number that is read with a bound. No program stands here. -/
import Derived.Test.YtnnjegohoejlbaaDoorAdStrMath
namespace Bur
open Go
def smGo : Int → List UInt8 → Int
  | n, [] => n
  | n, c :: r => if 48 ≤ c.toNat ∧ c.toNat ≤ 57 then smGo (n * 10 + (c.toNat : Int) - 48) r else -1
def smBad (l : List UInt8) : Bool := decide (l.length < 1 ∨ 3 < l.length ∨ (1 < l.length ∧ l.head? = some 48))
def sm (l : List UInt8) : Int := if smBad l = true then -1 else smGo 0 l
theorem smGo_lo : ∀ (l : List UInt8) (n : Int), 0 ≤ n → smGo n l = -1 ∨ n ≤ smGo n l
  | [], n, _ => Or.inr (Int.le_refl _)
  | c :: r, n, h => by
    simp only [smGo]
    split
    · rename_i hc
      rcases smGo_lo r (n * 10 + (c.toNat : Int) - 48) (by omega) with e | e
      · exact Or.inl e
      · right; omega
    · exact Or.inl rfl
/-- Where the bounded reading comes to an end it is the small one; where it doesn't, the small one is none or too great. -/
theorem rdGo_sm (most : Int) : ∀ (l : List UInt8) (n : Int), 0 ≤ n → n ≤ most → (∃ m, rdGo most n l = some m ∧ smGo n l = m) ∨ (rdGo most n l = none ∧ (smGo n l = -1 ∨ most < smGo n l))
  | [], n, _, _ => Or.inl ⟨n, rfl, rfl⟩
  | c :: r, n, h0, h1 => by
    simp only [rdGo, smGo]
    by_cases hc : 48 ≤ c.toNat ∧ c.toNat ≤ 57
    · rw [if_pos hc, if_pos hc, show n * 10 + (c.toNat : Int) - 48 = 10 * n + ((c.toNat : Int) - 48) from by omega]
      by_cases hm : most < 10 * n + ((c.toNat : Int) - 48)
      · right
        rw [if_pos hm]
        refine ⟨rfl, ?_⟩
        rcases smGo_lo r (10 * n + ((c.toNat : Int) - 48)) (by omega) with e | e
        · exact Or.inl e
        · right; omega
      · rw [if_neg hm]
        exact rdGo_sm most r _ (by omega) (by omega)
    · rw [if_neg hc, if_neg hc]
      exact Or.inr ⟨rfl, Or.inl rfl⟩
theorem rdGo_pow (most : Int) : ∀ (l : List UInt8) (n m : Int), 0 ≤ n → rdGo most n l = some m → n * 10 ^ l.length ≤ m
  | [], n, m, _, h => by simp [rdGo] at h; simp; omega
  | c :: r, n, m, h0, h => by
    simp only [rdGo] at h
    split at h
    · split at h
      · simp at h
      · rename_i hc _
        have := rdGo_pow most r _ m (by omega) h
        have hp : (0 : Int) < 10 ^ r.length := Int.pow_pos (by decide)
        have h2 : n * 10 * 10 ^ r.length ≤ (10 * n + ((c.toNat : Int) - 48)) * 10 ^ r.length := Int.mul_le_mul_of_nonneg_right (by omega) (Int.le_of_lt hp)
        rw [List.length_cons, Int.pow_succ, Int.mul_comm (10 ^ r.length) 10, ← Int.mul_assoc]
        omega
    · simp at h
theorem rd_sm {most : Int} (m0 : 0 ≤ most) (m1 : most ≤ 255) (l : List UInt8) : (rdB most l = true ∧ rdV most l = sm l ∧ 0 ≤ sm l ∧ sm l ≤ most) ∨ (rdB most l = false ∧ (sm l < 0 ∨ most < sm l)) := by
  unfold rdB rdV
  by_cases hb : bad l = true
  · right
    rw [rd_bad hb]
    refine ⟨rfl, Or.inl ?_⟩
    have hs : smBad l = true := by
      unfold smBad
      unfold bad at hb
      simp only [decide_eq_true_eq] at hb ⊢
      rcases hb with rfl | ⟨h1, h2⟩
      · left; simp
      · match l, h1, h2 with
        | [c], h1, h2 => exact absurd (by simp at h1; rw [h1]) h2
        | c :: d :: r, h1, h2 => right; right; exact ⟨by simp, h1⟩
    rw [show sm l = -1 from if_pos hs]; decide
  · have hb' : bad l = false := by simpa using hb
    rw [rd_good hb']
    by_cases hs : smBad l = true
    · right
      rw [show sm l = -1 from if_pos hs]
      refine ⟨?_, Or.inl (by decide)⟩
      unfold smBad at hs
      unfold bad at hb'
      simp only [decide_eq_true_eq] at hs
      simp only [decide_eq_false_iff_not, not_or, not_and] at hb'
      cases hr : rdGo most 0 l with
      | none => rfl
      | some m =>
        exfalso
        have hbd := rdGo_bd most l 0 m (by omega) m0 hr
        match l, hs, hb', hr with
        | [], _, hb', _ => exact hb'.1 rfl
        | [c], hs, _, _ => simp at hs
        | c :: d :: r, hs, hb', hr =>
          have hc : c ≠ 48 := fun e => by
            have := hb'.2 (by simp [e])
            simp at this
          have hlen : 3 < (c :: d :: r).length := by
            rcases hs with h | h | h
            · simp at h
            · exact h
            · exact absurd (by simpa using h.2) hc
          simp only [rdGo] at hr
          split at hr
          · rename_i hd
            split at hr
            · simp at hr
            · have hc2 : c.toNat ≠ 48 := fun e => hc (UInt8.toNat_inj.1 e)
              have hp := rdGo_pow most (d :: r) (10 * 0 + ((c.toNat : Int) - 48)) m (by omega) (by simp only [rdGo]; exact hr)
              have h3 : (10 : Int) ^ 3 ≤ 10 ^ (d :: r).length := by
                rw [show (d :: r).length = ((d :: r).length - 3) + 3 from by simp at hlen ⊢; omega, Int.pow_add]
                have : (0 : Int) < 10 ^ ((d :: r).length - 3) := Int.pow_pos (by decide)
                omega
              have h4 : (1 : Int) * 10 ^ (d :: r).length ≤ (10 * 0 + ((c.toNat : Int) - 48)) * 10 ^ (d :: r).length := Int.mul_le_mul_of_nonneg_right (by omega) (by omega)
              have h5 : (10 : Int) ^ 3 = 1000 := by decide
              omega
          · simp at hr
    · have e : sm l = smGo 0 l := if_neg hs
      rw [e]
      rcases rdGo_sm most l 0 (by omega) m0 with ⟨m, h1, h2⟩ | ⟨h1, h2⟩
      · left
        have hbd := rdGo_bd most l 0 m (by omega) m0 h1
        rw [h1, h2]
        exact ⟨rfl, rfl, hbd.1, hbd.2⟩
      · right
        rw [h1]
        exact ⟨rfl, by omega⟩
end Bur
