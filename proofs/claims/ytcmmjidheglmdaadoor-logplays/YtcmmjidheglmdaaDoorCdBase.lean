/- Changes in memory. -/
import Derived.Test.YtcmmjidheglmdaaDoorVsBase
import Derived.Test.YtcmmjidheglmdaaDoorCdMath
namespace Go.Proofs.YtcmmjidheglmdaaDoor
open Go.RowKit

/-- Changes lie at the address of a slice, three cells each, to be read. -/
def ChC (w : World) (b off : Nat) (l : List Vs.Chg) : Prop :=
  ∀ i x, l[i]? = some x → w.cell? ⟨b, off + i * 3, none⟩ = some (.string x.k) ∧ w.cell? ⟨b, off + i * 3 + 1, none⟩ = some (.string x.v) ∧ w.cell? ⟨b, off + i * 3 + 2, none⟩ = some (.bool x.g)
def ChAt (w : World) (p : Option Addr) (l : List Vs.Chg) : Prop :=
  0 < l.length → ∃ b off, p = some ⟨b, off, none⟩ ∧ b < w.heap.size ∧ ChC w b off l
theorem ChAt.nil (w : World) (p : Option Addr) : ChAt w p [] := fun h => by simp at h
theorem ChAt.step {w w' : World} {p : Option Addr} {l : List Vs.Chg} (h : ChAt w p l) (hb : Below w.heap.size w w') : ChAt w' p l := by
  intro hl
  obtain ⟨b, off, rfl, hlt, hc⟩ := h hl
  refine ⟨b, off, rfl, Nat.lt_of_lt_of_le hlt hb.size, fun i x hx => ?_⟩
  rw [hb.cell (p := ⟨b, off + i * 3, none⟩) hlt, hb.cell (p := ⟨b, off + i * 3 + 1, none⟩) hlt, hb.cell (p := ⟨b, off + i * 3 + 2, none⟩) hlt]
  exact hc i x hx
def chV (l : List Vs.Chg) : List Value := l.flatMap fun x => [.string x.k, .string x.v, .bool x.g]
theorem chV_len : ∀ l : List Vs.Chg, (chV l).length = l.length * 3
  | [] => rfl
  | s :: r => by show ((chV r).length + 1 + 1 + 1) = _; rw [chV_len r, List.length_cons]; omega
theorem chV_app (l m : List Vs.Chg) : chV (l ++ m) = chV l ++ chV m := by simp [chV]
theorem chV_at : ∀ (l : List Vs.Chg) (i : Nat) (x : Vs.Chg), l[i]? = some x → (chV l)[i * 3]? = some (.string x.k) ∧ (chV l)[i * 3 + 1]? = some (.string x.v) ∧ (chV l)[i * 3 + 2]? = some (.bool x.g)
  | s :: r, 0, x, h => by cases (Option.some.inj h); exact ⟨rfl, rfl, rfl⟩
  | s :: r, i + 1, x, h => by
    have := chV_at r i x (by simpa using h)
    rw [show (i + 1) * 3 = i * 3 + 3 from by omega, show i * 3 + 3 + 1 = i * 3 + 1 + 3 from by omega, show i * 3 + 3 + 2 = i * 3 + 2 + 3 from by omega]
    exact this
theorem chV_one (l : List Vs.Chg) : ∀ y ∈ chV l, y.oneCell' = true := by
  intro y hy
  simp only [chV, List.mem_flatMap] at hy
  obtain ⟨s, _, hs⟩ := hy
  simp at hs
  rcases hs with rfl | rfl | rfl <;> rfl
theorem chAt_own {w : World} {B n cap e : Nat} {p : Option Addr} {l : List Vs.Chg} (h : w.ownsRow B e 3 (.slice p n cap) l.length (chV l)) : n = l.length ∧ ChAt w p l := by
  rcases h.2 with ⟨h0, h1⟩ | ⟨g, cap', cur, h0, _, hg, _, _, _, _⟩
  · cases h0; exact ⟨h1.symm, fun hp => by omega⟩
  · cases h0
    refine ⟨rfl, fun _ => ⟨g, 0, rfl, (Array.getElem?_eq_some_iff.1 hg).1, fun i x hx => ?_⟩⟩
    have hi := (List.getElem?_eq_some_iff.1 hx).1
    have := chV_at l i x hx
    rw [Nat.zero_add, h.cellAt (i * 3) (by omega), h.cellAt (i * 3 + 1) (by omega), h.cellAt (i * 3 + 2) (by omega)]
    exact this
end Go.Proofs.YtcmmjidheglmdaaDoor
