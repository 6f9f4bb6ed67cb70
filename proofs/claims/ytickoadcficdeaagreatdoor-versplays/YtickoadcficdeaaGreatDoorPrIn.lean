/- Pairs in memory, in a block of one's choice. -/
import Derived.Test.YtickoadcficdeaaGreatDoorVsBase
namespace Go.Proofs.YtickoadcficdeaaGreatDoor
open Go.RowKit

/-- Pairs that lie in a block of G. -/
def PrIn (G : Nat → Prop) (w : World) (p : Option Addr) (l : List Vs.Pr) : Prop :=
  0 < l.length → ∃ b off, p = some ⟨b, off, none⟩ ∧ b < w.heap.size ∧ G b ∧ PrC w b off l
theorem PrIn.at {G : Nat → Prop} {w : World} {p : Option Addr} {l : List Vs.Pr} (h : PrIn G w p l) : PrAt w p l := fun hl => by
  obtain ⟨b, off, h1, h2, _, h3⟩ := h hl
  exact ⟨b, off, h1, h2, h3⟩
theorem PrIn.but {E G : Nat → Prop} {w w' : World} {p : Option Addr} {l : List Vs.Pr} (h : PrIn G w p l) (hb : But E w w') (hE : ∀ j, j < w.heap.size → G j → ¬ E j) : PrIn G w' p l := by
  intro hl
  obtain ⟨b, off, rfl, hlt, hg, hc⟩ := h hl
  have hn := hE b hlt hg
  refine ⟨b, off, rfl, Nat.lt_of_lt_of_le hlt hb.size, hg, fun i x hx => ?_⟩
  rw [hb.cell (p := ⟨b, off + i * 2, none⟩) hlt hn, hb.cell (p := ⟨b, off + i * 2 + 1, none⟩) hlt hn]
  exact hc i x hx
theorem PrIn.mono {G H : Nat → Prop} {w : World} {p : Option Addr} {l : List Vs.Pr} (h : PrIn G w p l) (hH : ∀ j, j < w.heap.size → G j → H j) : PrIn H w p l := fun hl => by
  obtain ⟨b, off, h1, h2, h4, h3⟩ := h hl
  exact ⟨b, off, h1, h2, hH b h2 h4, h3⟩
theorem PrIn.step {G : Nat → Prop} {w w' : World} {p : Option Addr} {l : List Vs.Pr} (h : PrIn G w p l) (hb : Below w.heap.size w w') : PrIn G w' p l := h.but (E := fun _ => False) (.below hb) (fun _ _ _ => id)
end Go.Proofs.YtickoadcficdeaaGreatDoor
