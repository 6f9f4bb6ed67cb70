/- A text cut at a byte; four numbers between dots; an address and a prefix as a text. No program stands here. -/
import Derived.Test.YtdokenlljeajmaaDoorAdStrMath
import Derived.Lib.IndexMore
import Derived.Lib.ItoaNum
namespace Bur
open Go

/-- A text cut at the first c: what is ahead, what is behind, whether there is one. -/
def cutc (c : UInt8) : List UInt8 → List UInt8 × List UInt8 × Bool
  | [] => ([], [], false)
  | b :: l => if b = c then ([], l, true) else (b :: (cutc c l).1, (cutc c l).2.1, (cutc c l).2.2)
theorem cut_eq (c : UInt8) : ∀ l : List UInt8, Lib.cut l [c] = cutc c l
  | [] => by simp [Lib.cut, Lib.index, cutc]
  | b :: l => by
    have ih := cut_eq c l
    unfold Lib.cut at ih ⊢
    simp only [cutc]
    by_cases h : b = c
    · subst h
      simp [Lib.index]
    · have h2 : ([c] : List UInt8).isPrefixOf (b :: l) = false := by
        show (c == b && _) = false
        rw [beq_eq_false_iff_ne.2 (Ne.symm h)]; rfl
      rw [if_neg h, ← ih]
      simp only [Lib.index, h2]
      by_cases h3 : Lib.index l [c] = -1
      · simp [h3]
      · have h4 : 0 ≤ Lib.index l [c] := by
          have := ih
          exact Int.not_lt.1 (fun hn => h3 (by have := Lib.index_ge l [c]; omega))
        have h5 : (Lib.index l [c] == -1) = false := by simp [h3]
        rw [if_pos h4]
        simp only [h5]
        have e : (Lib.index l [c] + 1).toNat = (Lib.index l [c]).toNat + 1 := by omega
        simp [e, show 0 ≤ Lib.index l [c] + 1 from by omega]
theorem cutc_len (c : UInt8) : ∀ l : List UInt8, (cutc c l).1.length ≤ l.length ∧ (cutc c l).2.1.length ≤ l.length
  | [] => by simp [cutc]
  | b :: l => by
    have := cutc_len c l
    simp only [cutc]
    split
    · simp
    · simp; omega
theorem cutc_hit {c : UInt8} : ∀ (x y : List UInt8), c ∉ x → cutc c (x ++ c :: y) = (x, y, true)
  | [], y, _ => by simp [cutc]
  | b :: x, y, h => by
    simp only [List.mem_cons, not_or] at h
    have := cutc_hit x y h.2
    simp only [List.cons_append, cutc]
    rw [if_neg (Ne.symm h.1), this]
theorem cutc_miss {c : UInt8} : ∀ (x : List UInt8), c ∉ x → cutc c x = (x, [], false)
  | [], _ => rfl
  | b :: x, h => by
    simp only [List.mem_cons, not_or] at h
    have := cutc_miss x h.2
    simp only [cutc]
    rw [if_neg (Ne.symm h.1), this]
end Bur
