/- Steps of a script in memory; what is new between two worlds. -/
import Derived.Test.YtickoadcficdeaaGreatDoorVsBase
namespace Go.Proofs.YtickoadcficdeaaGreatDoor
open Go.RowKit

/-- What is new between two worlds, and what was one's own. -/
abbrev Nw (F : Nat → Prop) (w w' : World) : Nat → Prop := fun j => F j ∨ (w.heap.size ≤ j ∧ j < w'.heap.size)
/-- A step of a script. -/
structure Stp where
  what : Int
  who : Int
  key : ByteArray
  hi : ByteArray
  val : ByteArray
  n : Int
/-- Steps lie at the address of a slice, six cells each, to be read; their texts are no longer than texts may be. -/
def StC (w : World) (b off : Nat) (l : List Stp) : Prop :=
  ∀ i x, l[i]? = some x → w.cell? ⟨b, off + i * 6, none⟩ = some (.int .i64 x.what) ∧ w.cell? ⟨b, off + i * 6 + 1, none⟩ = some (.int .i64 x.who) ∧ w.cell? ⟨b, off + i * 6 + 2, none⟩ = some (.string x.key) ∧ w.cell? ⟨b, off + i * 6 + 3, none⟩ = some (.string x.hi) ∧ w.cell? ⟨b, off + i * 6 + 4, none⟩ = some (.string x.val) ∧ w.cell? ⟨b, off + i * 6 + 5, none⟩ = some (.int .i64 x.n) ∧ x.key.size ≤ maxLen ∧ x.hi.size ≤ maxLen ∧ x.val.size ≤ maxLen
def StAt (w : World) (p : Option Addr) (l : List Stp) : Prop :=
  0 < l.length → ∃ b off, p = some ⟨b, off, none⟩ ∧ b < w.heap.size ∧ StC w b off l
theorem StAt.step {w w' : World} {p : Option Addr} {l : List Stp} (h : StAt w p l) (hb : Below w.heap.size w w') : StAt w' p l := by
  intro hl
  obtain ⟨b, off, rfl, hlt, hc⟩ := h hl
  refine ⟨b, off, rfl, Nat.lt_of_lt_of_le hlt hb.size, fun i x hx => ?_⟩
  rw [hb.cell (p := ⟨b, off + i * 6, none⟩) hlt, hb.cell (p := ⟨b, off + i * 6 + 1, none⟩) hlt, hb.cell (p := ⟨b, off + i * 6 + 2, none⟩) hlt, hb.cell (p := ⟨b, off + i * 6 + 3, none⟩) hlt, hb.cell (p := ⟨b, off + i * 6 + 4, none⟩) hlt, hb.cell (p := ⟨b, off + i * 6 + 5, none⟩) hlt]
  exact hc i x hx
/-- A step in a box. -/
structure Sb (w : World) (B : Nat) (x : Stp) : Prop where
  c0 : w.cell? ⟨B, 0, none⟩ = some (.int .i64 x.what)
  c2 : w.cell? ⟨B, 2, none⟩ = some (.string x.key)
  c3 : w.cell? ⟨B, 3, none⟩ = some (.string x.hi)
  c4 : w.cell? ⟨B, 4, none⟩ = some (.string x.val)
  c5 : w.cell? ⟨B, 5, none⟩ = some (.int .i64 x.n)
theorem Sb.lt {w : World} {B : Nat} {x : Stp} (h : Sb w B x) : B < w.heap.size := World.block_lt_of_cell? _ _ h.c0
theorem Sb.but {F : Nat → Prop} {w w' : World} {B : Nat} {x : Stp} (h : Sb w B x) (hb : But F w w') (hF : ¬ F B) : Sb w' B x :=
  ⟨(hb.cell (p := ⟨B, 0, none⟩) h.lt hF).trans h.c0, (hb.cell (p := ⟨B, 2, none⟩) h.lt hF).trans h.c2, (hb.cell (p := ⟨B, 3, none⟩) h.lt hF).trans h.c3, (hb.cell (p := ⟨B, 4, none⟩) h.lt hF).trans h.c4, (hb.cell (p := ⟨B, 5, none⟩) h.lt hF).trans h.c5⟩
theorem Sb.step {w w' : World} {B : Nat} {x : Stp} (h : Sb w B x) (hb : Below w.heap.size w w') : Sb w' B x := h.but (F := fun _ => False) (.below hb) id
theorem Sb.new (w : World) (t : Nat) (x : Stp) : Sb (w.alloc (.cells #[.int .i64 x.what, .int .i64 x.who, .string x.key, .string x.hi, .string x.val, .int .i64 x.n] t)) w.heap.size x := ⟨by simp, by simp, by simp, by simp, by simp⟩
end Go.Proofs.YtickoadcficdeaaGreatDoor
