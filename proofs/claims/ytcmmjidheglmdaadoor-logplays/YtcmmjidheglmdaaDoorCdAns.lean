/- What is told of changes as bytes, and of bytes as changes. No program stands here. -/
import Derived.Test.YtcmmjidheglmdaaDoorCdMath2
namespace Vs
/-- The bytes that are told, and the changes. -/
def enS (l : List Chg) : List UInt8 := if chF l = 0 then encL l else []
def deS (b : List UInt8) : List Chg := (dec b).getD []
def deF (b : List UInt8) : Int := if (dec b).isSome = true then 0 else 5
theorem dec_len {b : List UInt8} : (deS b).length ≤ 20 := by
  unfold deS
  cases h : dec b with
  | none => simp
  | some l => exact (chF_ok (dec_sound h).1).1
end Vs
