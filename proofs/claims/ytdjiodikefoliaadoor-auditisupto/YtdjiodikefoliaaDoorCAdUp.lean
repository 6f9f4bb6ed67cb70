/- The contracts of addr's Up, and of Both at one address twice. -/
import Derived.Test.YtdjiodikefoliaaDoorCTrAdA
namespace Go.Proofs.YtdjiodikefoliaaDoor.Au
open Go.RowKit

theorem up_no (a l : Int) (w : World) (h : Bur.fault a l ≠ 0) :
    Calls Tryd.prog 48 #[pfx a l] w fun e w' => e = .returned (.tuple #[pfx 0 0, errN (Bur.fault a l)]) ∧ Below w.heap.size w w' := by
  go_enter Tryd.func48, Tryd.ntmps48
  go_wp2_with (go_at_call 37; refine (check_no _ _ _ h).mono ?_; rintro e w' ⟨rfl, hc, hf, hs, hb⟩)
  exact bodyPost_ret (v := .tuple #[pfx 0 0, errN (Bur.fault a l)]) (by simp [results, Tryd.results48, go_sem, hc]) rfl ⟨rfl, ((below_via (below_al (below_al (below_al (below_self _) _) _) _) hb).setCell (by simp) _).setCell (by simp) _⟩
theorem up_none (a : Int) (w : World) (h : Bur.fault a 0 = 0) :
    Calls Tryd.prog 48 #[pfx a 0] w fun e w' => e = .returned (.tuple #[pfx 0 0, errN 4]) ∧ Below w.heap.size w w' := by
  go_enter Tryd.func48, Tryd.ntmps48
  go_wp2_with (go_at_call 37; refine (check_ok _ _ _ h).mono ?_; rintro e w' ⟨rfl, hc, hf, hs, hb⟩)
  exact bodyPost_ret (v := .tuple #[pfx 0 0, errN 4]) (by simp [results, Tryd.results48, go_sem, hc]) rfl ⟨rfl, ((below_via (below_al (below_al (below_al (below_self _) _) _) _) hb).setCell (by simp) _).setCell (by simp) _⟩
theorem up_ok (a l : Int) (w : World) (h : Bur.fault a l = 0) (hl : 0 < l) :
    Calls Tryd.prog 48 #[pfx a l] w fun e w' => e = .returned (.tuple #[pfx (a - a % Bur.sz (l - 1)) (l - 1), .nilIface]) ∧ Below w.heap.size w w' := by
  obtain ⟨h0, h1, a0, a1, hz⟩ := Bur.fault_ok h
  have ha := Bur.isA_mk a0 a1
  go_enter Tryd.func48, Tryd.ntmps48
  go_wp2_with (first | (go_at_call 37; refine (check_ok _ _ _ h).mono ?_; rintro e w' ⟨rfl, hc, hf, hs, hb⟩) | (go_at_call 39; refine (cut _ _ _ ha (by omega) (by omega)).mono ?_; rintro e w2 ⟨rfl, rfl⟩))
  exact bodyPost_ret (v := .tuple #[pfx (a - a % Bur.sz (l - 1)) (l - 1), .nilIface]) (by simp [results, Tryd.results48, go_sem, hc, hs]) rfl ⟨rfl, below_al (((below_via (below_al (below_al (below_al (below_self _) _) _) _) hb).setCell (by simp) _).setCell (by simp) _) _⟩

theorem up_any (a l : Int) (w : World) : Calls Tryd.prog 48 #[pfx a l] w fun e w' => e = .returned (.tuple #[pfx (Bur.upA a l) (Bur.upL a l), ev (Bur.upF a l)]) ∧ Below w.heap.size w w' := by
  by_cases h : Bur.fault a l = 0
  · by_cases h2 : l = 0
    · subst h2
      have e : Bur.upF a 0 = 4 := by simp [Bur.upF, h]
      simp only [Bur.upA, Bur.upL, e]
      exact up_none a w h
    · have e : Bur.upF a l = 0 := by simp [Bur.upF, h, h2]
      have := (Bur.fault_ok h).1
      simp only [Bur.upA, Bur.upL, e, if_true]
      exact up_ok a l w h (by omega)
  · have e : Bur.upF a l = Bur.fault a l := by simp [Bur.upF, h]
    simp only [Bur.upA, Bur.upL, e, if_neg h, ev_ne h]
    exact up_no a l w h
theorem len64_0 (w : World) : Calls Tryd.prog 74 #[.int .u64 0] w fun e w' => e = .returned (.int .i64 0) ∧ w' = w := by
  go_enter Tryd.func74, Tryd.ntmps74
  go_wp2
  go_ret
  exact ⟨ret_int (by rw [show Lib.len8 0 = 0 from by kernel_rfl, IntWalk.wrap64_in 0 (by omega), IntWalk.wrap64_in 0 (by omega)]), rfl⟩
theorem len_0 (w : World) : Calls Tryd.prog 63 #[.int .u64 0] w fun e w' => e = .returned (.int .i64 0) ∧ w' = w := by
  go_enter Tryd.func63, Tryd.ntmps63
  go_wp2_with (go_at_call 74; refine (len64_0 _).mono ?_; rintro e w' ⟨rfl, rfl⟩)
  go_ret
  exact ⟨rfl, rfl⟩
theorem both_no (a : Int) (w : World) (h : Bur.isA a = false) :
    Calls Tryd.prog 45 #[.int .i64 a, .int .i64 a] w fun e w' => e = .returned (.tuple #[pfx 0 0, errN 1]) ∧ Below w.heap.size w w' := by
  go_enter Tryd.func45, Tryd.ntmps45
  go_wp2_with (go_at_call 53; refine (isAddress _ _).mono ?_; rintro e w' ⟨rfl, rfl⟩)
  exact bodyPost_ret (v := .tuple #[pfx 0 0, errN 1]) (by simp [results, Tryd.results45, go_sem]) rfl ⟨rfl, below_al (below_self _) _⟩
theorem both_ok (a : Int) (w : World) (ha : Bur.isA a = true) :
    Calls Tryd.prog 45 #[.int .i64 a, .int .i64 a] w fun e w' => e = .returned (.tuple #[pfx a 32, .nilIface]) ∧ Below w.heap.size w w' := by
  obtain ⟨a0, a1⟩ := Bur.isA_true ha
  have hx : bits .xor .i64 a a = 0 := by
    obtain ⟨A, rfl⟩ := Int.eq_ofNat_of_zero_le a0
    have := Bur.i64_xor_nat A A (by omega) (by omega)
    rw [Nat.xor_self] at this
    exact this
  have hc : Hid (a - a % Bur.sz 32 = a) := by show _ = _; rw [Bur.sz_32]; omega
  go_enter Tryd.func45, Tryd.ntmps45
  go_wp2_with (first | (go_at_call 53; refine (isAddress _ _).mono ?_; rintro e w' ⟨rfl, rfl⟩) | (go_at_call 63; refine (len_0 _).mono ?_; rintro e w' ⟨rfl, rfl⟩) | (go_at_call 39; refine (cut _ _ _ ha (by omega) (by omega)).mono ?_; rintro e w' ⟨rfl, rfl⟩))
  rw [hc.out]
  exact bodyPost_ret (v := .tuple #[pfx a 32, .nilIface]) (by simp [results, Tryd.results45, go_sem]) rfl ⟨rfl, below_al (below_al (below_self _) _) _⟩

end Go.Proofs.YtdjiodikefoliaaDoor.Au
