/- Prefixes compared; the contracts of tree's under and keep. -/
import Derived.Test.YtncimpicnhleeaaDoorTrWalkA
import Derived.Test.YtncimpicnhleeaaDoorTrAdA
namespace Go.Proofs.YtncimpicnhleeaaDoor
open Go.RowKit

theorem eqGuard_pfx : Tryd.prog.eqGuardType Tryd.prog.depth 24 = false := by kernel_rfl
theorem eqPfx (a l a2 l2 : Int) (w : World) : (Op.equalIn 10000 24 (pfx a l) (pfx a2 l2)).run Tryd.prog w = .ok (Bur.sm (a, l) (a2, l2)) w := by
  have u3 := Tryd.underlying3
  have a3 := Tryd.isAgg3
  have z3 := Tryd.sizeOf3
  have hS : Tryd.prog.underlying 24 = some (.struct (Tryd.prog.fieldsOf 24)) := by kernel_rfl
  have hp : Tryd.prog.stoodInHeld 24 = false := by kernel_rfl
  rw [show (10000 : Nat) = 9999 + 1 from rfl, run_equalIn_agg w 9999 24 _ _ hS hp]
  simp only [Program.fieldsOf, Tryd.underlying24]
  go_simp
  unfold Bur.sm
  by_cases h1 : a = a2 <;> by_cases h2 : l = l2 <;> simp [h1, h2]

set_option maxHeartbeats 1000000 in
theorem under (p q : Bur.Sp) (w : World) (hp : Bur.OkP p) (hq : Bur.OkP q) : Calls Tryd.prog 37 #[pfx p.1 p.2, pfx q.1 q.2] w fun e w' => e = .returned (.bool (Bur.und p q)) ∧ Below w.heap.size w w' := by
  obtain ⟨a, l⟩ := p
  obtain ⟨a2, l2⟩ := q
  have hm := eqGuard_pfx
  have E := fun w => eqPfx a l a2 l2 w
  have hF : Hid (Bur.witF a l a2 l2 = 0) := (if_pos hp).trans hq
  have hB : Hid (Bur.witB a l a2 l2 = Bur.inP (a, l) (a2, l2)) := by
    show _ = _
    simp only [Bur.witB, hF.out, Bur.inP]
    rfl
  clear hp hq
  have U : Hid (Bur.und (a, l) (a2, l2) = (Bur.inP (a, l) (a2, l2) && !Bur.sm (a, l) (a2, l2))) := rfl
  generalize hi : Bur.inP (a, l) (a2, l2) = i at hB U
  generalize hs : Bur.sm (a, l) (a2, l2) = s at E U
  clear hi hs
  cases i
  · go_enter Tryd.func37, Tryd.ntmps37
    go_wp2_with fail
    refine (within_any _ _ _ _ _).mono ?_
    rintro e w1 ⟨rfl, hb1⟩
    rw [hF.out, hB.out, ev_0]
    have hb2 := below_via (below_al (below_al (below_self w) _) _) hb1
    go_wp2
    go_ret
    exact ⟨by rw [U.out]; rfl, hb2⟩
  · go_enter Tryd.func37, Tryd.ntmps37
    go_wp2_with fail
    refine (within_any _ _ _ _ _).mono ?_
    rintro e w1 ⟨rfl, hb1⟩
    rw [hF.out, hB.out, ev_0]
    have hb2 := below_via (below_al (below_al (below_self w) _) _) hb1
    have c0 : w1.cell? ⟨w.heap.size, 0, none⟩ = some (.int .i64 a) := (hb1.cell (p := ⟨w.heap.size, 0, none⟩) (by simp; omega)).trans (by go_simp)
    have c1 : w1.cell? ⟨w.heap.size, 1, none⟩ = some (.int .i64 l) := (hb1.cell (p := ⟨w.heap.size, 1, none⟩) (by simp; omega)).trans (by go_simp)
    have c2 : w1.cell? ⟨w.heap.size + 1, 0, none⟩ = some (.int .i64 a2) := (hb1.cell (p := ⟨w.heap.size + 1, 0, none⟩) (by simp)).trans (by go_simp)
    have c3 : w1.cell? ⟨w.heap.size + 1, 1, none⟩ = some (.int .i64 l2) := (hb1.cell (p := ⟨w.heap.size + 1, 1, none⟩) (by simp)).trans (by go_simp)
    clear hb1
    cases s
    all_goals
      go_wp2
      go_ret
      exact ⟨by rw [U.out]; rfl, hb2⟩

end Go.Proofs.YtncimpicnhleeaaDoor
