/- Rows of the call's own: how they look, one more, one that grows. -/
import Derived.Test.YtfhidiedmenliaaGreatDoorSpWalkD
namespace Go.Proofs.YtfhidiedmenliaaGreatDoor
open Go.RowKit

/-- How a slice looks that owns a row. -/
theorem own_form {w : World} {B e size n : Nat} {v : Value} {xs : List Value} (h : w.ownsRow B e size v n xs) : ∃ p cp, v = .slice p n cp := by
  rcases h.2 with ⟨rfl, rfl⟩ | ⟨g, cp, _, rfl, _⟩
  · exact ⟨_, _, rfl⟩
  · exact ⟨_, _, rfl⟩
theorem own_drewN {w : World} {B e size n : Nat} {v : Value} {xs : List Value} (h : w.ownsRow B e size v n xs) (k : Nat) : (w.drewN k).ownsRow B e size v n xs := own_below h (below_drewN (below_self _) k)
theorem two_new {W : World} {x y : Int} {t : Nat} {N : Nat} (hN : N = W.heap.size) : ∀ (j : Nat) (u : Value), ([.int .i64 x, .int .i64 y] : List Value)[j]? = some u → (W.alloc (.cells #[.int .i64 x, .int .i64 y] t)).cell? ((⟨N, 0, none⟩ : Addr).add j) = some u := by
  subst hN
  intro j u hj
  match j, hj with
  | 0, hj => simp at hj; subst hj; simp [Addr.add]
  | 1, hj => simp at hj; subst hj; simp [Addr.add]
theorem two_one {x y : Int} : ∀ u ∈ ([.int .i64 x, .int .i64 y] : List Value), u.oneCell' = true := by
  intro u hu; simp at hu; rcases hu with rfl | rfl <;> rfl
/-- The row while it is made: what is done, and the span that may still grow. -/
def rowT (done : List Bur.Sp) : Option Bur.Sp → List Bur.Sp
  | none => done
  | some s => done ++ [s]
theorem spV_grow (done : List Bur.Sp) (s : Bur.Sp) (e : Int) : (spV (done ++ [s])).set (done.length * 2 + 1) (.int .i64 e) = spV (done ++ [(s.1, e)]) := by
  rw [spV_app, spV_app]
  show (spV done ++ [Value.int .i64 s.1, Value.int .i64 s.2]).set (done.length * 2 + 1) (.int .i64 e) = spV done ++ [Value.int .i64 s.1, Value.int .i64 e]
  rw [List.set_append_right _ _ (by rw [spV_len]; omega), spV_len, show done.length * 2 + 1 - done.length * 2 = 1 from by omega]
  rfl
end Go.Proofs.YtfhidiedmenliaaGreatDoor
