/- What all texts lean on: the contract of addr.Valid, errors as values, blocks that are new. -/
import Derived.Test.YtdjiodikefoliaaDoorProg
import Derived.Test.YtdjiodikefoliaaDoorCAdMath
import Derived.WalkKit
import Derived.WalkSpells
import Derived.StillTactics
import Derived.Laws.Pointers
import Derived.Deep.QuietTactic
import Derived.BigQuiet
import Derived.Deep.RegionHeld3
import Derived.Deep.RegionWith
import Derived.RowKit3
import Derived.WalkSmall
import Derived.Deep.DeepCutAuto
namespace Go.Proofs.YtdjiodikefoliaaDoor
open Go.RowKit

theorem ret_bool {a b : Bool} (h : a = b) : Ending.returned (.bool a) = .returned (.bool b) := by rw [h]
theorem ret_int {k : IntKind} {a b : Int} (h : a = b) : Ending.returned (.int k a) = .returned (.int k b) := by rw [h]
theorem bcell {W w1 : World} (hb : Below W.heap.size W w1) : (∀ b o, b < W.heap.size → w1.cell? ⟨b, o, none⟩ = W.cell? ⟨b, o, none⟩) ∧ (∀ b o, b < W.heap.size → w1.frozen? ⟨b, o, none⟩ = W.frozen? ⟨b, o, none⟩) :=
  ⟨fun b o h => hb.cell (p := ⟨b, o, none⟩) h, fun b o h => hb.frozen (p := ⟨b, o, none⟩) h⟩
theorem isAddress (a : Int) (w : World) : Calls Tryd.prog 53 #[.int .i64 a] w fun e w' => e = .returned (.bool (Bur.isA a)) ∧ w' = w := by
  go_enter Tryd.func53, Tryd.ntmps53
  go_wp2
  all_goals (go_ret; refine ⟨ret_bool ?_, rfl⟩; simp [Bur.isA]; try omega)
/-- An error of the number n. -/
abbrev errN (n : Int) : Value := .iface 25 (.int .i64 n)
/-- A prefix. -/
abbrev pfx (a l : Int) : Value := .agg #[.int .i64 a, .int .i64 l]
theorem below_box (w : World) (o : Obj) (n : Nat) : Below w.heap.size w ((w.alloc o).drewN n) :=
  below_drewN ((Below.refl _ _).alloc (Nat.le_refl _) _) n

theorem below_via {w v w' : World} (h : Below w.heap.size w v) (hb : Below v.heap.size v w') : Below w.heap.size w w' := h.trans (hb.mono h.size)
theorem below_al {w v : World} (h : Below w.heap.size w v) (o : Obj) : Below w.heap.size w (v.alloc o) := h.alloc h.size o
theorem below_self (w : World) : Below w.heap.size w w := Below.refl _ _
/-- One block more, and all else as it was. -/
def Box1 (w : World) (o : Obj) (w' : World) : Prop :=
  (∀ x, w'.cell? x = (w.alloc o).cell? x) ∧ (∀ x, w'.frozen? x = (w.alloc o).frozen? x) ∧ w'.heap.size = w.heap.size + 1 ∧ Below (w.alloc o).heap.size (w.alloc o) w'
theorem box1 (w : World) (o : Obj) (n : Nat) : Box1 w o ((w.alloc o).drewN n) :=
  ⟨fun _ => rfl, fun _ => rfl, by simp, below_drewN (Below.refl _ _) n⟩

/-- The error of a number: none at 0. -/
def ev (n : Int) : Value := if n = 0 then .nilIface else errN n
theorem ev_0 : ev 0 = .nilIface := rfl
theorem ev_ne {n : Int} (h : n ≠ 0) : ev n = errN n := if_neg h
/-- What is left of a body behind its first statements. -/
def dropSeq : Nat → Code → Code
  | 0, c => c
  | n + 1, .seq _ b => dropSeq n b
  | _ + 1, c => c
end Go.Proofs.YtdjiodikefoliaaDoor
