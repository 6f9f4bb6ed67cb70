/- What sets made of spans are. No program stands here. -/
import Derived.Test.YtbajhdpgaimkkaaSpMath
namespace Bur
theorem mem_reverse (l : List Sp) (x : Int) : mem l.reverse x = mem l x := by
  rw [Bool.eq_iff_iff, mem_iff, mem_iff]; simp
theorem inA_reverse {l : List Sp} (h : InA l) : InA l.reverse := fun s hs => h s (by simpa using hs)
theorem mk_eq {l m : List Sp} (hl : InA l) (hm : IsS (-2) m) (e : ∀ x, mem m x = mem l x) : mk l = m := by
  obtain ⟨h1, h2, _, _⟩ := mk_set hl
  exact h1.uniq hm (fun x => by rw [h2, e])
theorem mk_reverse {l : List Sp} (hl : InA l) : mk l.reverse = mk l := by
  obtain ⟨h1, h2, _, _⟩ := mk_set hl
  exact mk_eq (inA_reverse hl) h1 (fun x => by rw [h2, mem_reverse])
theorem mk_mk {l : List Sp} (hl : InA l) : mk (mk l) = mk l := by
  obtain ⟨h1, h2, h3, _⟩ := mk_set hl
  exact mk_eq h3 h1 (fun x => rfl)
theorem mk_fact : mkF [(5, 9), (1, 4)] = 0 ∧ mk [(5, 9), (1, 4)] = [(1, 9)] := by
  have hA : InA [(5, 9), (1, 4)] := fun s hs => by
    simp at hs
    rcases hs with rfl | rfl <;> decide
  refine ⟨mkF_mk (by decide) hA, mk_eq hA ⟨by decide, by decide, trivial⟩ (fun x => ?_)⟩
  rw [Bool.eq_iff_iff, mem_iff, mem_iff]
  simp
  omega
end Bur
