/- The contracts of the program's calls, each in one form for whatever it is given. -/
import Derived.Test.YtnnjegohoejlbaaDoorAdWalkD
import Derived.Test.YtnnjegohoejlbaaDoorAdErr2
namespace Bur
def endA (a l : Int) : Int := if fault a l = 0 then a else 0
def endB (a l : Int) : Int := if fault a l = 0 then a + (sz l - 1) else 0
def halF (a l : Int) : Int := if fault a l = 0 ∧ l = 32 then 4 else fault a l
def h32 (a l : Int) : Bool := decide (fault a l = 0 ∧ l = 32)
def u0 (a l : Int) : Bool := decide (fault a l = 0 ∧ l = 0)
def lowA (a l : Int) : Int := if halF a l = 0 then a else 0
def higA (a l : Int) : Int := if halF a l = 0 then a + sz (l + 1) else 0
def halL (a l : Int) : Int := if halF a l = 0 then l + 1 else 0
def upF (a l : Int) : Int := if fault a l = 0 ∧ l = 0 then 4 else fault a l
def upA (a l : Int) : Int := if upF a l = 0 then a - a % sz (l - 1) else 0
def upL (a l : Int) : Int := if upF a l = 0 then l - 1 else 0
def witF (a l a2 l2 : Int) : Int := if fault a l = 0 then fault a2 l2 else fault a l
def witB (a l a2 l2 : Int) : Bool := decide (witF a l a2 l2 = 0) && inB a l a2 l2
def bAB (a b : Int) : Bool := isA a && isA b
def botF (a b : Int) : Int := if isA a = true ∧ isA b = true then 0 else 1
def botA (a b : Int) : Int := if botF a b = 0 then a - a % sz (32 - bl a b) else 0
def botL (a b : Int) : Int := if botF a b = 0 then 32 - bl a b else 0
end Bur
namespace Go.Proofs.YtnnjegohoejlbaaDoor
open Go.RowKit

theorem check_any (a l : Int) (w : World) : Calls Tryd.prog 16 #[pfx a l] w fun e w' => e = .returned (ev (Bur.fault a l)) ∧ Below w.heap.size w w' := by
  by_cases h : Bur.fault a l = 0
  · refine (check_ok a l w h).mono ?_
    rintro e w' ⟨rfl, _, _, _, hb⟩
    exact ⟨by rw [h, ev_0], below_via (below_al (below_self _) _) hb⟩
  · refine (check_no a l w h).mono ?_
    rintro e w' ⟨rfl, _, _, _, hb⟩
    exact ⟨by rw [ev_ne h], below_via (below_al (below_self _) _) hb⟩
theorem ends_any (a l : Int) (w : World) : Calls Tryd.prog 18 #[pfx a l] w fun e w' => e = .returned (.tuple #[.int .i64 (Bur.endA a l), .int .i64 (Bur.endB a l), ev (Bur.fault a l)]) ∧ Below w.heap.size w w' := by
  by_cases h : Bur.fault a l = 0
  · rw [show Bur.endA a l = a from if_pos h, show Bur.endB a l = a + (Bur.sz l - 1) from if_pos h, show ev (Bur.fault a l) = .nilIface from by rw [h, ev_0]]
    exact ends_ok a l w h
  · rw [show Bur.endA a l = 0 from if_neg h, show Bur.endB a l = 0 from if_neg h, ev_ne h]
    exact ends_no a l w h
theorem halves_any (a l : Int) (w : World) : Calls Tryd.prog 21 #[pfx a l] w fun e w' => e = .returned (.tuple #[pfx (Bur.lowA a l) (Bur.halL a l), pfx (Bur.higA a l) (Bur.halL a l), ev (Bur.halF a l)]) ∧ Below w.heap.size w w' := by
  by_cases h : Bur.fault a l = 0
  · by_cases h2 : l = 32
    · subst h2
      have e : Bur.halF a 32 = 4 := by simp [Bur.halF, h]
      simp only [Bur.lowA, Bur.higA, Bur.halL, e]
      exact halves_none a w h
    · have e : Bur.halF a l = 0 := by simp [Bur.halF, h, h2]
      have := (Bur.fault_ok h).2.1
      simp only [Bur.lowA, Bur.higA, Bur.halL, e, if_true]
      exact halves_ok a l w h (by omega)
  · have e : Bur.halF a l = Bur.fault a l := by simp [Bur.halF, h]
    simp only [Bur.lowA, Bur.higA, Bur.halL, e, if_neg h, ev_ne h]
    exact halves_no a l w h
theorem up_any (a l : Int) (w : World) : Calls Tryd.prog 23 #[pfx a l] w fun e w' => e = .returned (.tuple #[pfx (Bur.upA a l) (Bur.upL a l), ev (Bur.upF a l)]) ∧ Below w.heap.size w w' := by
  by_cases h : Bur.fault a l = 0
  · by_cases h2 : l = 0
    · subst h2
      have e : Bur.upF a 0 = 4 := by simp [Bur.upF, h]
      simp only [Bur.upA, Bur.upL, e]
      exact up_none a w h
    · have e : Bur.upF a l = 0 := by simp [Bur.upF, h, h2]
      have := (Bur.fault_ok h).1
      simp only [Bur.upA, Bur.upL, e, if_true]
      exact up_ok a l w h (by omega)
  · have e : Bur.upF a l = Bur.fault a l := by simp [Bur.upF, h]
    simp only [Bur.upA, Bur.upL, e, if_neg h, ev_ne h]
    exact up_no a l w h
theorem within_any (a l a2 l2 : Int) (w : World) : Calls Tryd.prog 24 #[pfx a l, pfx a2 l2] w fun e w' => e = .returned (.tuple #[.bool (Bur.witB a l a2 l2), ev (Bur.witF a l a2 l2)]) ∧ Below w.heap.size w w' := by
  by_cases h : Bur.fault a l = 0
  · have e : Bur.witF a l a2 l2 = Bur.fault a2 l2 := if_pos h
    by_cases h2 : Bur.fault a2 l2 = 0
    · rw [show Bur.witB a l a2 l2 = Bur.inB a l a2 l2 from by simp [Bur.witB, e, h2], e, h2, ev_0]
      exact within_ok a l a2 l2 w h h2
    · rw [show Bur.witB a l a2 l2 = false from by simp [Bur.witB, e, h2], e, ev_ne h2]
      exact within_no2 a l a2 l2 w h h2
  · have e : Bur.witF a l a2 l2 = Bur.fault a l := if_neg h
    rw [show Bur.witB a l a2 l2 = false from by simp [Bur.witB, e, h], e, ev_ne h]
    exact within_no1 a l a2 l2 w h
theorem both_any (a b : Int) (w : World) : Calls Tryd.prog 27 #[.int .i64 a, .int .i64 b] w fun e w' => e = .returned (.tuple #[pfx (Bur.botA a b) (Bur.botL a b), ev (Bur.botF a b)]) ∧ Below w.heap.size w w' := by
  by_cases h : Bur.isA a = true ∧ Bur.isA b = true
  · have e : Bur.botF a b = 0 := if_pos h
    simp only [Bur.botA, Bur.botL, e, if_true]
    exact both_ok a b w h.1 h.2
  · have e : Bur.botF a b = 1 := if_neg h
    simp only [Bur.botA, Bur.botL, e]
    exact both_no a b w (by cases h1 : Bur.isA a <;> cases h2 : Bur.isA b <;> simp_all)

/-- A prefix lies in a block, and may be written. -/
structure Pf (w : World) (b : Nat) (x y : Int) : Prop where
  c0 : w.cell? ⟨b, 0, none⟩ = some (.int .i64 x)
  c1 : w.cell? ⟨b, 1, none⟩ = some (.int .i64 y)
  f0 : w.frozen? ⟨b, 0, none⟩ = false
  f1 : w.frozen? ⟨b, 1, none⟩ = false
  lt : b < w.heap.size
theorem Pf.step {w w' : World} {b : Nat} {x y : Int} (h : Pf w b x y) (hb : Below w.heap.size w w') : Pf w' b x y := by
  have hl := h.lt
  refine ⟨?_, ?_, ?_, ?_, ?_⟩
  · rw [hb.cell (p := ⟨b, 0, none⟩) hl]; exact h.c0
  · rw [hb.cell (p := ⟨b, 1, none⟩) hl]; exact h.c1
  · rw [hb.frozen (p := ⟨b, 0, none⟩) hl]; exact h.f0
  · rw [hb.frozen (p := ⟨b, 1, none⟩) hl]; exact h.f1
  · have := hb.size; omega
theorem Pf.alloc {w : World} {b : Nat} {x y : Int} (h : Pf w b x y) (o : Obj) : Pf (w.alloc o) b x y := h.step (below_al (below_self _) _)
theorem Pf.drewN {w : World} {b : Nat} {x y : Int} (h : Pf w b x y) (n : Nat) : Pf (w.drewN n) b x y := h.step (below_drewN (below_self _) n)
theorem Pf.drew {w : World} {b : Nat} {x y : Int} (h : Pf w b x y) : Pf w.drew b x y := h.step (below_self _).drew
theorem Pf.new (w : World) (x y : Int) : Pf (w.alloc (pcs x y)) w.heap.size x y := ⟨by simp, by simp, by simp, by simp, by simp⟩
theorem Pf.set {w : World} {b : Nat} {x y : Int} (h : Pf w b x y) {p : Addr} (hp : p.block ≠ b) (v : Value) : Pf (w.setCell p v) b x y := by
  have e : (w.setCell p v).heap[b]? = w.heap[b]? := Below.heap_setCell _ _ _ _ (Ne.symm hp)
  refine ⟨?_, ?_, ?_, ?_, ?_⟩
  · rw [World.cell?_of_block (w := w) (a := ⟨b, 0, none⟩) e]; exact h.c0
  · rw [World.cell?_of_block (w := w) (a := ⟨b, 1, none⟩) e]; exact h.c1
  · rw [World.frozen?_of_block (w := w) (a := ⟨b, 0, none⟩) e]; exact h.f0
  · rw [World.frozen?_of_block (w := w) (a := ⟨b, 1, none⟩) e]; exact h.f1
  · have := h.lt; simpa [World.setCell] using this

/-- What the law keeps: its two prefixes in their boxes, what errors.errorType holds, and all that was there. -/
structure PQ (pa pl qa ql : Int) (w0 w : World) : Prop where
  p0 : w.cell? ⟨w0.heap.size, 0, none⟩ = some (.int .i64 pa)
  p1 : w.cell? ⟨w0.heap.size, 1, none⟩ = some (.int .i64 pl)
  q0 : w.cell? ⟨w0.heap.size + 1, 0, none⟩ = some (.int .i64 qa)
  q1 : w.cell? ⟨w0.heap.size + 1, 1, none⟩ = some (.int .i64 ql)
  et : ErrType w
  sz : w0.heap.size + 1 < w.heap.size
  g0 : 0 < w0.heap.size
  bw : Below w0.heap.size w0 w
theorem PQ.step {pa pl qa ql : Int} {w0 w w' : World} (h : PQ pa pl qa ql w0 w) (hb : Below w.heap.size w w') : PQ pa pl qa ql w0 w' := by
  have hs := h.sz
  have hg := h.g0
  refine ⟨?_, ?_, ?_, ?_, ?_, ?_, hg, below_via h.bw (hb.mono (Nat.le_refl _))⟩
  · rw [hb.cell (p := ⟨w0.heap.size, 0, none⟩) (by simp; omega)]; exact h.p0
  · rw [hb.cell (p := ⟨w0.heap.size, 1, none⟩) (by simp; omega)]; exact h.p1
  · rw [hb.cell (p := ⟨w0.heap.size + 1, 0, none⟩) (by simp; omega)]; exact h.q0
  · rw [hb.cell (p := ⟨w0.heap.size + 1, 1, none⟩) (by simp; omega)]; exact h.q1
  · show World.cell? _ _ = _
    rw [hb.cell (p := ⟨0, 0, none⟩) (by simp <;> omega)]; exact h.et
  · have := hb.size; omega
theorem PQ.alloc {pa pl qa ql : Int} {w0 w : World} (h : PQ pa pl qa ql w0 w) (o : Obj) : PQ pa pl qa ql w0 (w.alloc o) := h.step (below_al (below_self _) _)
theorem PQ.drewN {pa pl qa ql : Int} {w0 w : World} (h : PQ pa pl qa ql w0 w) (n : Nat) : PQ pa pl qa ql w0 (w.drewN n) := h.step (below_drewN (below_self _) n)
theorem PQ.drew {pa pl qa ql : Int} {w0 w : World} (h : PQ pa pl qa ql w0 w) : PQ pa pl qa ql w0 w.drew := h.step (below_self _).drew
theorem PQ.set {pa pl qa ql : Int} {w0 w : World} (h : PQ pa pl qa ql w0 w) {p : Addr} (hp : w0.heap.size + 2 ≤ p.block) (v : Value) : PQ pa pl qa ql w0 (w.setCell p v) := by
  have hg := h.g0
  have hb : Below (w0.heap.size + 2) w (w.setCell p v) := (Below.refl _ _).setCell hp v
  refine ⟨?_, ?_, ?_, ?_, ?_, ?_, hg, h.bw.trans (hb.mono (by omega))⟩
  · rw [hb.cell (p := ⟨w0.heap.size, 0, none⟩) (by simp)]; exact h.p0
  · rw [hb.cell (p := ⟨w0.heap.size, 1, none⟩) (by simp)]; exact h.p1
  · rw [hb.cell (p := ⟨w0.heap.size + 1, 0, none⟩) (by simp)]; exact h.q0
  · rw [hb.cell (p := ⟨w0.heap.size + 1, 1, none⟩) (by simp)]; exact h.q1
  · show World.cell? _ _ = _
    rw [hb.cell (p := ⟨0, 0, none⟩) (by simp <;> omega)]; exact h.et
  · have := hb.size; have := h.sz; omega
end Go.Proofs.YtnnjegohoejlbaaDoor
