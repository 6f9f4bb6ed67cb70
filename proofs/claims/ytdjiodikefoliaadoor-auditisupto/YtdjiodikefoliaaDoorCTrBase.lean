/- Prefixes in memory, read and owned. -/
import Derived.Test.YtdjiodikefoliaaDoorCAdBase
import Derived.Test.YtdjiodikefoliaaDoorCQD
import Derived.Deep.AppendLies
import Derived.OneCell
namespace Go.Proofs.YtdjiodikefoliaaDoor.Ta
open Go.RowKit

abbrev lo (l : List Bur.Sp) (i : Nat) : Int := (l.getD i (0, 0)).1
abbrev hi (l : List Bur.Sp) (i : Nat) : Int := (l.getD i (0, 0)).2
/-- A block's cells hold the spans, two cells each. -/
def SpC (w : World) (b off : Nat) (l : List Bur.Sp) : Prop :=
  ∀ i, i < l.length → w.cell? ⟨b, off + i * 2, none⟩ = some (.int .i64 (lo l i)) ∧ w.cell? ⟨b, off + i * 2 + 1, none⟩ = some (.int .i64 (hi l i))
/-- The spans lie at the address of a slice, to be read. -/
def SpAt (w : World) (p : Option Addr) (l : List Bur.Sp) : Prop :=
  0 < l.length → ∃ b off, p = some ⟨b, off, none⟩ ∧ b < w.heap.size ∧ SpC w b off l
theorem SpAt.step {w w' : World} {p : Option Addr} {l : List Bur.Sp} (h : SpAt w p l) (hb : Below w.heap.size w w') : SpAt w' p l := by
  intro hl
  obtain ⟨b, off, rfl, hlt, hc⟩ := h hl
  refine ⟨b, off, rfl, Nat.lt_of_lt_of_le hlt hb.size, fun i hi => ?_⟩
  rw [hb.cell (p := ⟨b, off + i * 2, none⟩) hlt, hb.cell (p := ⟨b, off + i * 2 + 1, none⟩) hlt]
  exact hc i hi
theorem SpAt.alloc {w : World} {p : Option Addr} {l : List Bur.Sp} (h : SpAt w p l) (o : Obj) : SpAt (w.alloc o) p l := h.step (below_al (below_self _) _)
theorem SpAt.nil (w : World) (p : Option Addr) : SpAt w p [] := fun h => by simp at h
theorem drop_sp {l : List Bur.Sp} {k : Nat} (h : k < l.length) : l.drop k = (lo l k, hi l k) :: l.drop (k + 1) := by
  rw [List.drop_eq_getElem_cons h]
  simp only [lo, hi, List.getD, List.getElem?_eq_getElem h, Option.getD_some]

theorem own_below {w w' : World} {B e size n : Nat} {v : Value} {xs : List Value} (h : w.ownsRow B e size v n xs) (hb : Below w.heap.size w w') : w'.ownsRow B e size v n xs := by
  refine ⟨h.1, ?_⟩
  rcases h.2 with hn | ⟨g, cap, cur, rfl, h1, hg, rest⟩
  · exact .inl hn
  · exact .inr ⟨g, cap, cur, rfl, h1, (hb.block g (Array.getElem?_eq_some_iff.1 hg).1).trans hg, rest⟩
/-- Spans as cells. -/
def spV (l : List Bur.Sp) : List Value := l.flatMap fun s => [.int .i64 s.1, .int .i64 s.2]
theorem spV_len : ∀ l : List Bur.Sp, (spV l).length = l.length * 2
  | [] => rfl
  | s :: r => by show ((spV r).length + 1 + 1) = _; rw [spV_len r, List.length_cons]; omega
theorem spV_app (l m : List Bur.Sp) : spV (l ++ m) = spV l ++ spV m := by simp [spV]
theorem spV_at : ∀ (l : List Bur.Sp) (i : Nat), i < l.length → (spV l)[i * 2]? = some (.int .i64 (lo l i)) ∧ (spV l)[i * 2 + 1]? = some (.int .i64 (hi l i))
  | s :: r, 0, _ => ⟨rfl, rfl⟩
  | s :: r, i + 1, h => by
    have := spV_at r i (by simpa using h)
    rw [show (i + 1) * 2 = i * 2 + 2 from by omega, show i * 2 + 2 + 1 = i * 2 + 1 + 2 from by omega]
    exact this
/-- What a row of the call's own holds can be read. -/
theorem spAt_own {w : World} {B n cap : Nat} {p : Option Addr} {l : List Bur.Sp} (h : w.ownsRow B 24 2 (.slice p n cap) l.length (spV l)) : n = l.length ∧ SpAt w p l := by
  rcases h.2 with ⟨h0, h1⟩ | ⟨g, cap', cur, h0, _, hg, _, _, _, _⟩
  · cases h0; exact ⟨h1.symm, fun hp => by omega⟩
  · cases h0
    refine ⟨rfl, fun _ => ⟨g, 0, rfl, (Array.getElem?_eq_some_iff.1 hg).1, fun i hi => ?_⟩⟩
    have := spV_at l i hi
    rw [Nat.zero_add, h.cellAt (i * 2) (by omega), h.cellAt (i * 2 + 1) (by omega)]
    exact this
theorem info_pfx : (Tryd.prog.info? 24).map (fun i => (i.zero, i.size, i.bytes)) = some (some (.agg #[.int .i64 0, .int .i64 0]), 2, 16) := by kernel_rfl
end Go.Proofs.YtdjiodikefoliaaDoor.Ta
