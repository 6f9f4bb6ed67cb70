/- All blocks but some are as they were. -/
import Derived.Test.YtickoadcficdeaaGreatDoorAdBase
namespace Go.Proofs.YtickoadcficdeaaGreatDoor
open Go.RowKit

/-- All blocks that were there are as they were, but for those of F. -/
structure But (F : Nat → Prop) (w w' : World) : Prop where
  os : w'.os = w.os
  tape : w'.tape = w.tape
  output : w'.output = w.output
  size : w.heap.size ≤ w'.heap.size
  block : ∀ k, k < w.heap.size → ¬ F k → w'.heap[k]? = w.heap[k]?
theorem But.refl (F : Nat → Prop) (w : World) : But F w w := ⟨rfl, rfl, rfl, Nat.le_refl _, fun _ _ _ => rfl⟩
theorem But.trans {F : Nat → Prop} {a b c : World} (h : But F a b) (k : But F b c) : But F a c :=
  ⟨k.os.trans h.os, k.tape.trans h.tape, k.output.trans h.output, Nat.le_trans h.size k.size, fun i hi hF => (k.block i (Nat.lt_of_lt_of_le hi h.size) hF).trans (h.block i hi hF)⟩
/-- What is done to blocks of G that were not there, or that are of F. -/
theorem But.then {F G : Nat → Prop} {a b c : World} (h : But F a b) (k : But G b c) (hG : ∀ i, i < a.heap.size → G i → F i) : But F a c :=
  ⟨k.os.trans h.os, k.tape.trans h.tape, k.output.trans h.output, Nat.le_trans h.size k.size, fun i hi hF => (k.block i (Nat.lt_of_lt_of_le hi h.size) (fun g => hF (hG i hi g))).trans (h.block i hi hF)⟩
theorem But.mono {F G : Nat → Prop} {w w' : World} (h : But F w w') (hG : ∀ k, k < w.heap.size → F k → G k) : But G w w' := ⟨h.os, h.tape, h.output, h.size, fun k hk hF => h.block k hk (fun g => hF (hG k hk g))⟩
theorem But.below {F : Nat → Prop} {w w' : World} (h : Below w.heap.size w w') : But F w w' := ⟨h.os, h.tape, h.output, h.size, fun k hk _ => h.block k hk⟩
theorem But.step {F : Nat → Prop} {a b c : World} (h : But F a b) (k : Below b.heap.size b c) : But F a c := h.trans (.below k)
/-- Below a number that nothing of F is below. -/
theorem But.under {F : Nat → Prop} {w w' : World} (h : But F w w') {n : Nat} (hn : n ≤ w.heap.size) (hF : ∀ k, k < n → ¬ F k) : Below n w w' := ⟨h.os, h.tape, h.output, h.size, fun k hk => h.block k (by omega) (hF k hk)⟩
theorem But.under2 {F : Nat → Prop} {n : Nat} {a b c : World} (h : Below n a b) (k : But F b c) (hn : n ≤ b.heap.size) (hF : ∀ i, i < n → ¬ F i) : Below n a c := h.trans (k.under hn hF)
theorem But.alloc {F : Nat → Prop} {a w : World} (h : But F a w) (o : Obj) : But F a (w.alloc o) := h.step (below_al (below_self _) _)
theorem But.drew {F : Nat → Prop} {a w : World} (h : But F a w) : But F a w.drew := ⟨h.os, h.tape, h.output, h.size, h.block⟩
theorem But.drewN {F : Nat → Prop} {a w : World} (h : But F a w) (n : Nat) : But F a (w.drewN n) := h.step (below_drewN (below_self _) n)
theorem But.setCell {F : Nat → Prop} {a w : World} (h : But F a w) {p : Addr} (hp : F p.block ∨ a.heap.size ≤ p.block) (u : Value) : But F a (w.setCell p u) :=
  ⟨h.os, h.tape, h.output, by have := h.size; simpa [World.setCell] using this, fun k hk hF => by
    have hne : k ≠ p.block := fun e => by
      subst e
      rcases hp with g | g
      · exact hF g
      · omega
    exact (Below.heap_setCell w p u k hne).trans (h.block k hk hF)⟩
theorem But.grown {F : Nat → Prop} {a w w' : World} {row : Option Nat} (h : But F a w) (hg : w.grownBy w' row) (hr : ∀ k, row = some k → F k ∨ a.heap.size ≤ k) : But F a w' :=
  ⟨hg.os.trans h.os, hg.tape.trans h.tape, hg.output.trans h.output, Nat.le_trans h.size hg.size, fun k hk hF => by
    exact (hg.block k (Nat.lt_of_lt_of_le hk h.size) (fun e => (hr k e.symm).elim hF (fun g => by omega))).trans (h.block k hk hF)⟩
theorem But.cell {F : Nat → Prop} {w w' : World} (h : But F w w') {p : Addr} (hp : p.block < w.heap.size) (hF : ¬ F p.block) : w'.cell? p = w.cell? p := World.cell?_of_block (w := w) (h.block p.block hp hF)
theorem But.frozen {F : Nat → Prop} {w w' : World} (h : But F w w') {p : Addr} (hp : p.block < w.heap.size) (hF : ¬ F p.block) : w'.frozen? p = w.frozen? p := World.frozen?_of_block (w := w) (h.block p.block hp hF)
end Go.Proofs.YtickoadcficdeaaGreatDoor
