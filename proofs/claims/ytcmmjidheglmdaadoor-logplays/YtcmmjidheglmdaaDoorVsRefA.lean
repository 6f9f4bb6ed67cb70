/- The contracts of the reference's KeyFault, Seen, Get and Touched. -/
import Derived.Test.YtcmmjidheglmdaaDoorVsBase
namespace Vs
theorem seeI_drop {key : ByteArray} {a : Int} {l : List Ver} {k : Nat} {x : Ver} (hx : l[k]? = some x) (b : Int) : seeI key a k b (l.drop k) = if hit key a x = true then seeI key a (k + 1) k (l.drop (k + 1)) else seeI key a (k + 1) b (l.drop (k + 1)) := by
  obtain ⟨h, e⟩ := List.getElem?_eq_some_iff.1 hx
  rw [List.drop_eq_getElem_cons h, e, seeI]
theorem less_of {l : List Ver} {top : Int} (hT : OkT l top) {i j : Nat} {x y : Ver} (hij : i < j) (hx : l[i]? = some x) (hy : l[j]? = some y) (hk : x.k = y.k) : x.n < y.n := by
  obtain ⟨h1, e1⟩ := List.getElem?_eq_some_iff.1 hx
  obtain ⟨h2, e2⟩ := List.getElem?_eq_some_iff.1 hy
  have a1 := List.pairwise_iff_getElem.1 hT.rise i j h1 h2 hij
  have a2 := List.pairwise_iff_getElem.1 hT.once i j h1 h2 hij
  rw [e1, e2] at a1 a2
  have : x.n ≠ y.n := fun e => a2 ⟨hk, e⟩
  omega
theorem getsome {α : Type} {l : List α} {k : Nat} (h : k < l.length) : ∃ x, l[k]? = some x := ⟨l[k], List.getElem?_eq_getElem h⟩
end Vs
namespace Go.Proofs.YtcmmjidheglmdaaDoor
open Go.RowKit

theorem keyFault (k v : ByteArray) (w : World) : Calls Tryd.prog 34 #[.string k, .string v] w fun e w' => e = .returned (.int .i64 (Vs.shF k v)) ∧ w' = w := by
  unfold Vs.shF
  by_cases h1 : k.size < 1
  · rw [if_pos (.inl h1)]
    go_enter Tryd.func34, Tryd.ntmps34
    go_wp2
    go_ret
    exact ⟨rfl, rfl⟩
  by_cases h2 : 24 < k.size
  · rw [if_pos (.inr (.inl h2))]
    go_enter Tryd.func34, Tryd.ntmps34
    go_wp2
    go_ret
    exact ⟨rfl, rfl⟩
  by_cases h3 : 12 < v.size
  · rw [if_pos (.inr (.inr h3))]
    go_enter Tryd.func34, Tryd.ntmps34
    go_wp2
    go_ret
    exact ⟨rfl, rfl⟩
  · rw [if_neg (by omega)]
    go_enter Tryd.func34, Tryd.ntmps34
    go_wp2
    go_ret
    exact ⟨rfl, rfl⟩

end Go.Proofs.YtcmmjidheglmdaaDoor
