/- A box of two numbers that may be written. -/
import Derived.Test.YtfemehgmfbgejaaAdBase
namespace Go.Proofs.Ytfemehgmfbgejaa
open Go.RowKit

/-- A box of two numbers that may be written. -/
structure Bx (w : World) (B : Nat) (u v : Int) : Prop where
  c0 : w.cell? ⟨B, 0, none⟩ = some (.int .i64 u)
  c1 : w.cell? ⟨B, 1, none⟩ = some (.int .i64 v)
  f0 : w.frozen? ⟨B, 0, none⟩ = false
  f1 : w.frozen? ⟨B, 1, none⟩ = false
theorem Bx.lt {w : World} {B : Nat} {u v : Int} (h : Bx w B u v) : B < w.heap.size := World.block_lt_of_cell? _ _ h.c0
theorem Bx.step {w w' : World} {B : Nat} {u v : Int} (h : Bx w B u v) (hb : Below w.heap.size w w') : Bx w' B u v :=
  ⟨(hb.cell (p := ⟨B, 0, none⟩) h.lt).trans h.c0, (hb.cell (p := ⟨B, 1, none⟩) h.lt).trans h.c1, (hb.frozen (p := ⟨B, 0, none⟩) h.lt).trans h.f0, (hb.frozen (p := ⟨B, 1, none⟩) h.lt).trans h.f1⟩
theorem Bx.new (w : World) (t : Nat) (u v : Int) : Bx (w.alloc (.cells #[.int .i64 u, .int .i64 v] t)) w.heap.size u v := ⟨by simp, by simp, by simp, by simp⟩
theorem Bx.put {w : World} {B : Nat} {u v : Int} (h : Bx w B u v) (x y : Int) : (w.setCell ⟨B, 0, none⟩ (.int .i64 x)).cell? ⟨B, 0, none⟩ = some (.int .i64 x) ∧ ((w.setCell ⟨B, 0, none⟩ (.int .i64 x)).setCell ⟨B, 1, none⟩ (.int .i64 y)).cell? ⟨B, 1, none⟩ = some (.int .i64 y) := by
  obtain ⟨c0, c1, f0, f1⟩ := h
  exact ⟨by go_simp, by go_simp⟩
end Go.Proofs.Ytfemehgmfbgejaa
