/- Rows of prefixes copied, two cells each; one more laid between. No program stands here but the types' numbers. -/
import Derived.Test.YtncimpicnhleeaaDoorTrBase
import Derived.Shelf.Spec.SlicesInsert
import Derived.Lib.AppendZerosOnto
import Derived.Laws.NewBlocks
namespace Go.Proofs.YtncimpicnhleeaaDoor
open Go.RowKit

theorem run_copy2 (w : World) (dT sT ty elem : TypeId) (b o dLen dCap : Nat) (a : Addr) (sLen sCap : Nat) (cs : List Value)
    (hu : Tryd.prog.underlying dT = some (.slice elem)) (hs : (Tryd.prog.info? elem).map (·.size) = some 2) (hn : cs.length = Nat.min sLen dLen * 2)
    (hsrc : ∀ j v, cs[j]? = some v → w.cell? (a.add j) = some v) (hc : ∀ j, j < cs.length → (w.cell? ⟨b, o + j, none⟩).isSome = true) (hf : ∀ j, j < cs.length → w.frozen? ⟨b, o + j, none⟩ = false) (h1 : ∀ v ∈ cs, v.oneCell' = true) :
    (Builtin.copy_ #[dT, sT] ty #[.slice (some ⟨b, o, none⟩) dLen dCap, .slice (some a) sLen sCap]).run Tryd.prog w = .ok (goInt (Nat.min sLen dLen)) (w.setCells b o cs) := by
  have hl := run_loadCells_list (P := Tryd.prog) w a cs hsrc
  have hst := run_storeCells_cells (P := Tryd.prog) b o cs 0 w (by simpa using hc) (by simpa using hf) h1
  cases hq : Tryd.prog.info? elem with
  | none => simp [hq] at hs
  | some i =>
    have hi : i.size = 2 := by simpa [hq] using hs
    rw [hn] at hl
    simp [Builtin.copy_, run_underlying hu, Builtin.lenOf, Builtin.firstCells, sizeOf, typeInfo, hq, hi, hl, hst]
theorem below_setCells {B b : Nat} {w0 : World} (hB : B ≤ b) : ∀ (vs : List Value) (o : Nat) {w : World}, Below B w0 w → Below B w0 (w.setCells b o vs)
  | [], _, _, h => h
  | v :: r, o, w, h => below_setCells hB r (o + 1) (h.setCell (by exact hB) _)
theorem size_setCells (b : Nat) : ∀ (vs : List Value) (o : Nat) (w : World), (w.setCells b o vs).heap.size = w.heap.size
  | [], _, _ => rfl
  | v :: r, o, w => by rw [World.setCells, size_setCells b r]; simp
theorem spV_one : ∀ (l : List Bur.Sp) (v : Value), v ∈ spV l → v.oneCell' = true
  | [], _, h => by cases h
  | s :: r, v, h => by
    have h' : v ∈ [Value.int .i64 s.1, Value.int .i64 s.2] ++ spV r := h
    rcases List.mem_append.1 h' with h | h
    · simp at h
      rcases h with rfl | rfl <;> rfl
    · exact spV_one r v h
/-- Cells that hold them, one behind the other. -/
theorem spAt_cells {w : World} {b off : Nat} {l : List Bur.Sp} (hb : b < w.heap.size) (h : ∀ j v, (spV l)[j]? = some v → w.cell? ⟨b, off + j, none⟩ = some v) : SpAt w (some ⟨b, off, none⟩) l := fun _ =>
  ⟨b, off, rfl, hb, fun i hi => ⟨h _ _ (spV_at l i hi).1, h _ _ (spV_at l i hi).2⟩⟩
theorem spV_take (l : List Bur.Sp) : ∀ i, (spV l).take (i * 2) = spV (l.take i) := by
  induction l with
  | nil => intro i; simp [spV]
  | cons s r ih =>
    intro i
    cases i with
    | zero => simp [spV]
    | succ i =>
      rw [List.take_succ_cons, show (i + 1) * 2 = i * 2 + 2 from by omega]
      show List.take (i * 2 + 2) (Value.int .i64 s.1 :: Value.int .i64 s.2 :: spV r) = Value.int .i64 s.1 :: Value.int .i64 s.2 :: spV (r.take i)
      rw [List.take_succ_cons, List.take_succ_cons, ih]
theorem spV_drop (l : List Bur.Sp) : ∀ i, (spV l).drop (i * 2) = spV (l.drop i) := by
  induction l with
  | nil => intro i; simp [spV]
  | cons s r ih =>
    intro i
    cases i with
    | zero => simp
    | succ i =>
      rw [List.drop_succ_cons, show (i + 1) * 2 = i * 2 + 2 from by omega]
      show List.drop (i * 2 + 2) (Value.int .i64 s.1 :: Value.int .i64 s.2 :: spV r) = spV (r.drop i)
      rw [List.drop_succ_cons, List.drop_succ_cons, ih]
/-- One more laid between: the cells ahead, its two, those behind. -/
theorem spAt_ins {W : World} {b i : Nat} {x y : Int} {l : List Bur.Sp} (hi : i ≤ l.length) (hb : b < W.heap.size)
    (hA : ∀ j v, (spV (l.take i))[j]? = some v → W.cell? ⟨b, j, none⟩ = some v) (hX : W.cell? ⟨b, i * 2, none⟩ = some (.int .i64 x)) (hY : W.cell? ⟨b, i * 2 + 1, none⟩ = some (.int .i64 y))
    (hC : ∀ j v, (spV (l.drop i))[j]? = some v → W.cell? ⟨b, (i + 1) * 2 + j, none⟩ = some v) : SpAt W (some ⟨b, 0, none⟩) (l.take i ++ (x, y) :: l.drop i) := by
  have hl1 : (spV (l.take i)).length = i * 2 := by rw [spV_len, List.length_take]; omega
  refine spAt_cells hb (fun j v hj => ?_)
  rw [Nat.zero_add]
  rw [spV_app, show spV ((x, y) :: l.drop i) = [Value.int .i64 x, Value.int .i64 y] ++ spV (l.drop i) from rfl] at hj
  by_cases g1 : j < i * 2
  · rw [List.getElem?_append_left (by omega)] at hj
    exact hA j v hj
  · rw [List.getElem?_append_right (by omega), hl1] at hj
    by_cases g2 : j < i * 2 + 2
    · rw [List.getElem?_append_left (by simp; omega)] at hj
      by_cases g3 : j = i * 2
      · subst g3
        simp at hj
        rw [← hj]
        exact hX
      · have : j = i * 2 + 1 := by omega
        subst this
        simp at hj
        rw [← hj]
        exact hY
    · rw [List.getElem?_append_right (by simp; omega)] at hj
      simp only [List.length_cons, List.length_nil, Nat.zero_add] at hj
      have := hC _ v hj
      rwa [show (i + 1) * 2 + (j - i * 2 - (1 + 1)) = j from by omega] at this
theorem spV_take_at {l : List Bur.Sp} {i j : Nat} {v : Value} (h : (spV (l.take i))[j]? = some v) : (spV l)[j]? = some v ∧ j < i * 2 := by
  rw [← spV_take, List.getElem?_take] at h
  split at h
  · exact ⟨h, by assumption⟩
  · cases h
theorem spV_drop_at {l : List Bur.Sp} {i j : Nat} {v : Value} (h : (spV (l.drop i))[j]? = some v) : (spV l)[i * 2 + j]? = some v := by
  rw [← spV_drop, List.getElem?_drop] at h
  exact h
end Go.Proofs.YtncimpicnhleeaaDoor
