/- The walk of the law VersStays: its last pieces. -/
import Derived.Test.YtollgepjgeoeiaaDoorVtOn
import Derived.Test.YtollgepjgeoeiaaDoorVsSame
import Derived.Test.YtollgepjgeoeiaaDoorAdErr2
import Derived.Deep.CutBlock
namespace Vs
/-- What was told, said at once. -/
theorem gtF_cases (l : List Ver) (k : ByteArray) (a : Int) (h : atF a = 0) : gtF l k a = 0 ∨ gtF l k a = 4 := by
  unfold gtF
  rw [if_pos h]
  split
  · exact .inl rfl
  · exact .inr rfl
theorem gt_eq {l m : List Ver} {k : ByteArray} {a : Int} (h : vget l k a = vget m k a) : gtF l k a = gtF m k a ∧ gtS l k a = gtS m k a := by
  unfold gtF gtS; rw [h]; exact ⟨rfl, rfl⟩
theorem put_new {top a : Int} (h0 : 0 ≤ a) (h1 : a < 1000000) (h2 : top ≤ a) : ptF ⟨⟨#[98]⟩, ⟨#[110, 101, 119]⟩, a + 1, false⟩ top = 0 := by
  have e : shF ⟨#[98]⟩ ⟨#[110, 101, 119]⟩ = 0 := by decide
  unfold ptF
  rw [if_pos e, if_neg (by show ¬ (a + 1 < 1 ∨ 1000000 < a + 1); omega), if_neg (by show ¬ a + 1 < top; omega)]
end Vs
namespace Go.Proofs.YtollgepjgeoeiaaDoor
open Go.RowKit

end Go.Proofs.YtollgepjgeoeiaaDoor
