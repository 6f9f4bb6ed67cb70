/- The contract of addr.Ends, in one form for whatever it is given. -/
import Derived.Test.YtdjiodikefoliaaDoorCTrAdA
namespace Go.Proofs.YtdjiodikefoliaaDoor
open Go.RowKit

theorem ends_no (a l : Int) (w : World) (h : Bur.fault a l ≠ 0) :
    Calls Tryd.prog 69 #[pfx a l] w fun e w' => e = .returned (.tuple #[.int .i64 0, .int .i64 0, errN (Bur.fault a l)]) ∧ Below w.heap.size w w' := by
  go_enter Tryd.func69, Tryd.ntmps69
  go_wp2_with (go_at_call 37; refine (check_no _ _ _ h).mono ?_; rintro e w' ⟨rfl, hc, hf, hs, hb⟩)
  go_ret3
  exact ⟨rfl, below_via (below_al (below_al (below_self _) _) _) hb⟩
theorem ends_ok (a l : Int) (w : World) (h : Bur.fault a l = 0) :
    Calls Tryd.prog 69 #[pfx a l] w fun e w' => e = .returned (.tuple #[.int .i64 a, .int .i64 (a + (Bur.sz l - 1)), .nilIface]) ∧ Below w.heap.size w w' := by
  obtain ⟨h0, h1, a0, a1, hz⟩ := Bur.fault_ok h
  have hm := Bur.or_mask a l a0 a1 h0 hz
  go_enter Tryd.func69, Tryd.ntmps69
  go_wp2_with (go_at_call 37; refine (check_ok _ _ _ h).mono ?_; rintro e w' ⟨rfl, hc, hf, hs, hb⟩)
  go_quiet ((go_at_call 54; exact Calls.quiet_of_same (behind _ _ h0 h1)))
  go_wp2
  go_ret3
  exact ⟨rfl, below_drewN (below_via (below_al (below_al (below_self _) _) _) hb) _⟩
theorem ends_any (a l : Int) (w : World) : Calls Tryd.prog 69 #[pfx a l] w fun e w' => e = .returned (.tuple #[.int .i64 (Bur.endA a l), .int .i64 (Bur.endB a l), ev (Bur.fault a l)]) ∧ Below w.heap.size w w' := by
  by_cases h : Bur.fault a l = 0
  · rw [show Bur.endA a l = a from if_pos h, show Bur.endB a l = a + (Bur.sz l - 1) from if_pos h, show ev (Bur.fault a l) = .nilIface from by rw [h, ev_0]]
    exact ends_ok a l w h
  · rw [show Bur.endA a l = 0 from if_neg h, show Bur.endB a l = 0 from if_neg h, ev_ne h]
    exact ends_no a l w h
end Go.Proofs.YtdjiodikefoliaaDoor
