/- A text split at a byte. No program stands here. -/
import Derived.Test.YtdokenlljeajmaaDoorAdCutMath
namespace Bur
open Go
/-- The pieces of a text between the bytes c; cur: what was met of the first one. -/
def spc (c : UInt8) : List UInt8 → List UInt8 → List (List UInt8)
  | cur, [] => [cur]
  | cur, b :: l => if b = c then cur :: spc c [] l else spc c (cur ++ [b]) l
theorem spc_hit {c b : UInt8} {cur l : List UInt8} (h : b = c) : spc c cur (b :: l) = cur :: spc c [] l := if_pos h
theorem spc_miss {c b : UInt8} {cur l : List UInt8} (h : b ≠ c) : spc c cur (b :: l) = spc c (cur ++ [b]) l := if_neg h
theorem spc_cut (c : UInt8) : ∀ (l cur : List UInt8), spc c cur l = if (cutc c l).2.2 = true then (cur ++ (cutc c l).1) :: spc c [] (cutc c l).2.1 else [cur ++ (cutc c l).1]
  | [], cur => by simp [spc, cutc]
  | b :: l, cur => by
    by_cases h : b = c
    · rw [spc_hit h]; simp [cutc, h]
    · rw [spc_miss h, spc_cut c l]; simp [cutc, h]
theorem spc_yes {c : UInt8} {l : List UInt8} (h : (cutc c l).2.2 = true) : spc c [] l = (cutc c l).1 :: spc c [] (cutc c l).2.1 := by
  rw [spc_cut, if_pos h]; rfl
theorem spc_no {c : UInt8} {l : List UInt8} (h : (cutc c l).2.2 = false) : spc c [] l = [(cutc c l).1] := by
  rw [spc_cut, if_neg (by simp [h])]; rfl
theorem spc_pos (c : UInt8) (l : List UInt8) : 0 < (spc c [] l).length := by
  cases h : (cutc c l).2.2
  · rw [spc_no h]; simp
  · rw [spc_yes h]; simp
theorem ext_list (s : ByteArray) (a b : Nat) : (s.extract a b).data.toList = (s.data.toList.drop a).take (b - a) := by
  rw [ByteArray.data_extract, Array.toList_extract]
theorem ext_next (l : List UInt8) (a k : Nat) (h1 : a ≤ k) (b : UInt8) (r : List UInt8) (h : l.drop k = b :: r) : (l.drop a).take (k + 1 - a) = (l.drop a).take (k - a) ++ [b] := by
  have e : k + 1 - a = (k - a) + 1 := by omega
  have e2 : (l.drop a)[k - a]? = some b := by
    rw [List.getElem?_drop, show a + (k - a) = k from by omega]
    have : (l.drop k)[0]? = some b := by rw [h]; rfl
    rwa [List.getElem?_drop, Nat.add_zero] at this
  rw [e, List.take_add_one, e2]; rfl
end Bur
