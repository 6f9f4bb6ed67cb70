/- A box that holds a prefix. -/
import Derived.Test.YtfhidiedmenliaaGreatDoorAdBase
import Derived.Test.YtfhidiedmenliaaGreatDoorSpWalkA
namespace Go.Proofs.YtfhidiedmenliaaGreatDoor
open Go.RowKit

/-- A prefix lies in a box. -/
def Pb (w : World) (B : Nat) (p : Bur.Sp) : Prop := B < w.heap.size ∧ w.cell? ⟨B, 0, none⟩ = some (.int .i64 p.1) ∧ w.cell? ⟨B, 1, none⟩ = some (.int .i64 p.2)
theorem Pb.step {w w' : World} {B : Nat} {p : Bur.Sp} (h : Pb w B p) (hb : Below w.heap.size w w') : Pb w' B p :=
  ⟨Nat.lt_of_lt_of_le h.1 hb.size, (hb.cell (p := ⟨B, 0, none⟩) h.1).trans h.2.1, (hb.cell (p := ⟨B, 1, none⟩) h.1).trans h.2.2⟩
theorem Pb.new (w : World) (t : Nat) (x y : Int) : Pb (w.alloc (.cells #[.int .i64 x, .int .i64 y] t)) w.heap.size (x, y) := ⟨by simp, by simp, by simp⟩
theorem atMem {l : List Bur.Sp} {i : Nat} (hlt : i < l.length) : (lo l i, hi l i) ∈ l := by
  have : (lo l i, hi l i) = l[i] := by simp [lo, hi, List.getD, List.getElem?_eq_getElem hlt]
  rw [this]
  exact List.getElem_mem hlt
end Go.Proofs.YtfhidiedmenliaaGreatDoor
