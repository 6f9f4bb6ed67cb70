/- A key and the one behind it. No program stands here. -/
import Derived.Test.YtickoadcficdeaaGreatDoorVsMath2
import Derived.Test.YtickoadcficdeaaGreatDoorCdMath
namespace Vs
open Go

theorem bl_more (k : ByteArray) : bl k (mkB (k.data.toList ++ [0])) = true := by
  unfold bl
  rw [Lib.toList_data, Lib.toList_data, mkB_list]
  generalize k.data.toList = l
  induction l with
  | nil => rfl
  | cons x r ih => simp [Op.bytesLess, ih]
theorem bls_zero : ∀ (x l : List UInt8), Op.bytesLess x (l ++ [0]) = true → Op.bytesLess x l = false → x = l
  | [], [], _, _ => rfl
  | [], a :: r, _, h => by simp [Op.bytesLess] at h
  | y :: ys, [], h, _ => by
    simp [Op.bytesLess] at h
  | y :: ys, a :: r, h, g => by
    simp only [List.cons_append, Op.bytesLess, Bool.or_eq_true, Bool.and_eq_true, decide_eq_true_eq, beq_iff_eq, Bool.or_eq_false_iff, Bool.and_eq_false_iff, decide_eq_false_iff_not, beq_eq_false_iff_ne] at h g
    rcases h with h | ⟨rfl, h⟩
    · exact absurd h g.1
    · have := g.2.resolve_left (fun q => q rfl)
      rw [bls_zero ys r h this]
/-- The key behind. -/
def kz (k : ByteArray) : ByteArray := mkB (k.data.toList ++ [0])
theorem btw_kz (k x : ByteArray) : btw k (kz k) x = true ↔ x = k := by
  constructor
  · intro h
    simp only [btw, Bool.and_eq_true, Bool.not_eq_true'] at h
    have h1 := h.1
    have h2 := h.2
    unfold bl at h1 h2
    rw [Lib.toList_data, Lib.toList_data] at h1
    rw [Lib.toList_data, Lib.toList_data, kz, mkB_list] at h2
    have := bls_zero _ _ h2 h1
    exact toL.1 (by rw [Lib.toList_data, Lib.toList_data]; exact this)
  · rintro rfl
    simp only [btw, bl_irr, Bool.not_false, Bool.true_and]
    exact bl_more x
theorem kz_add (k : ByteArray) : k ++ ({ data := #[0] } : ByteArray) = kz k := by
  apply toL.1
  rw [Lib.toList_data, Lib.toList_data, kz, mkB_list]
  simp
end Vs
