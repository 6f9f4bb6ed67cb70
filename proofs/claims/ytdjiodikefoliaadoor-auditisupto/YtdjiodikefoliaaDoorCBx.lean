/- A box of two numbers that may be written. -/
import Derived.Test.YtdjiodikefoliaaDoorCAdBase
namespace Go.Proofs.YtdjiodikefoliaaDoor
open Go.RowKit

/-- A box of two numbers that may be written. -/
structure Bx (w : World) (B : Nat) (u v : Int) : Prop where
  c0 : w.cell? ⟨B, 0, none⟩ = some (.int .i64 u)
  c1 : w.cell? ⟨B, 1, none⟩ = some (.int .i64 v)
  f0 : w.frozen? ⟨B, 0, none⟩ = false
  f1 : w.frozen? ⟨B, 1, none⟩ = false
theorem Bx.lt {w : World} {B : Nat} {u v : Int} (h : Bx w B u v) : B < w.heap.size := World.block_lt_of_cell? _ _ h.c0
theorem Bx.step {w w' : World} {B : Nat} {u v : Int} (h : Bx w B u v) (hb : Below w.heap.size w w') : Bx w' B u v :=
  ⟨(hb.cell (p := ⟨B, 0, none⟩) h.lt).trans h.c0, (hb.cell (p := ⟨B, 1, none⟩) h.lt).trans h.c1, (hb.frozen (p := ⟨B, 0, none⟩) h.lt).trans h.f0, (hb.frozen (p := ⟨B, 1, none⟩) h.lt).trans h.f1⟩
theorem Bx.new (w : World) (t : Nat) (u v : Int) : Bx (w.alloc (.cells #[.int .i64 u, .int .i64 v] t)) w.heap.size u v := ⟨by simp, by simp, by simp, by simp⟩
theorem Bx.put {w : World} {B : Nat} {u v : Int} (h : Bx w B u v) (x y : Int) : (w.setCell ⟨B, 0, none⟩ (.int .i64 x)).cell? ⟨B, 0, none⟩ = some (.int .i64 x) ∧ ((w.setCell ⟨B, 0, none⟩ (.int .i64 x)).setCell ⟨B, 1, none⟩ (.int .i64 y)).cell? ⟨B, 1, none⟩ = some (.int .i64 y) := by
  obtain ⟨c0, c1, f0, f1⟩ := h
  exact ⟨by go_simp, by go_simp⟩
theorem Bx.put2 {w : World} {B C : Nat} {u v s t : Int} (h : Bx w B u v) (g : Bx w C s t) (hne : C ≠ B) (x y : Int) :
    Bx ((w.setCell ⟨B, 0, none⟩ (.int .i64 x)).setCell ⟨B, 1, none⟩ (.int .i64 y)) B x y ∧ Bx ((w.setCell ⟨B, 0, none⟩ (.int .i64 x)).setCell ⟨B, 1, none⟩ (.int .i64 y)) C s t := by
  obtain ⟨c0, c1, f0, f1⟩ := h
  obtain ⟨d0, d1, g0, g1⟩ := g
  have e1 : ∀ o o', (⟨C, o, none⟩ : Addr) ≠ ⟨B, o', none⟩ := fun o o' e => hne (by injection e)
  exact ⟨⟨by go_simp, by go_simp, by go_simp, by go_simp⟩, ⟨by go_simp, by go_simp, by go_simp, by go_simp⟩⟩
end Go.Proofs.YtdjiodikefoliaaDoor
