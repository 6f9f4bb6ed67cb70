/- How long what is answered can be. No program stands here. -/
import Derived.Test.YtncimpicnhleeaaDoorTrMath3
namespace Bur
theorem abvS_le (l : List Sp) (p : Sp) : (abvS l p).length ≤ 60 := by
  unfold abvS
  split
  · rename_i h
    obtain ⟨t1, t2⟩ := tpF_ok h
    obtain ⟨o1, o2⟩ := treF_ok t1
    rw [← abv_keep o2 t2]
    exact Nat.le_trans (List.length_filter_le _ _) o1
  · simp
theorem blwS_le (l : List Sp) (p : Sp) : (blwS l p).length ≤ 60 := by
  unfold blwS
  split
  · rename_i h
    obtain ⟨t1, t2⟩ := tpF_ok h
    obtain ⟨o1, o2⟩ := treF_ok t1
    exact Nat.le_trans (List.length_filter_le _ _) o1
  · simp
theorem rtsS_le (l : List Sp) : (rtsS l).length ≤ 60 := by
  unfold rtsS
  split
  · rename_i h
    obtain ⟨o1, o2⟩ := treF_ok h
    exact Nat.le_trans (List.length_filter_le _ _) o1
  · simp
theorem putS_le (l : List Sp) (p : Sp) : (putS l p).length ≤ 60 := by
  unfold putS
  split
  · rename_i h
    rw [insT_len]
    unfold putF at h
    split at h
    · split at h
      · omega
      · split at h <;> omega
    · contradiction
  · simp
theorem drpS_le (l : List Sp) (p : Sp) : (drpS l p).length ≤ 60 := by
  unfold drpS
  split
  · rename_i h
    unfold drpF at h
    split at h
    · rename_i h1
      obtain ⟨t1, t2⟩ := tpF_ok h1
      obtain ⟨o1, o2⟩ := treF_ok t1
      rw [drpT_eq]
      exact Nat.le_trans (List.length_filter_le _ _) o1
    · contradiction
  · simp
end Bur
