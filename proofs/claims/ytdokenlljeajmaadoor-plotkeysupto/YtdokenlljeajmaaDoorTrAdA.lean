/- The contracts of addr's cut, Check and Within, each in one form for whatever it is given. -/
import Derived.Test.YtdokenlljeajmaaDoorAdBase
namespace Go.Proofs.YtdokenlljeajmaaDoor
open Go.RowKit

theorem behind_eq (n : Int) (h0 : 0 ≤ n) : wrap64 (wrap64 (2 ^ (32 - n).toNat) - 1) = Bur.sz n - 1 := by
  have h1 := Bur.sz_pos n
  have h2 := Bur.sz_le n h0
  unfold Bur.sz at *
  rw [IntWalk.wrap64_in (2 ^ (32 - n).toNat) (by omega), IntWalk.wrap64_in _ (by omega)]
theorem behind (n : Int) (w : World) (h0 : 0 ≤ n) (h1 : n ≤ 32) : Calls Tryd.prog 35 #[.int .i64 n] w fun e w' => e = .returned (.int .i64 (Bur.sz n - 1)) ∧ w' = w := by
  go_enter Tryd.func35, Tryd.ntmps35
  go_wp2
  go_ret
  exact ⟨ret_int (behind_eq n h0), rfl⟩

/-- The cells of a prefix. -/
abbrev pcs (a l : Int) : Obj := .cells #[.int .i64 a, .int .i64 l] 23

theorem check_range (a l : Int) (w : World) (h : l < 0 ∨ 32 < l ∨ Bur.isA a = false) :
    Calls Tryd.prog 23 #[pfx a l] w fun e w' => e = .returned (errN 1) ∧ w' = w.alloc (pcs a l) := by
  by_cases h0 : l < 0
  · go_enter Tryd.func23, Tryd.ntmps23
    go_wp2
    go_ret
    exact ⟨rfl, rfl⟩
  by_cases h1 : 32 < l
  · go_enter Tryd.func23, Tryd.ntmps23
    go_wp2
    go_ret
    exact ⟨rfl, rfl⟩
  have h2 : Bur.isA a = false := by
    rcases h with h | h | h
    · exact absurd h h0
    · exact absurd h h1
    · exact h
  clear h
  go_enter Tryd.func23, Tryd.ntmps23
  go_wp2_with (go_at_call 34; refine (isAddress _ _).mono ?_; rintro e w' ⟨rfl, rfl⟩)
  go_ret
  exact ⟨rfl, rfl⟩


theorem check_in0 (a l : Int) (w : World) (h0 : 0 ≤ l) (h1 : l ≤ 32) (ha : Bur.isA a = true) (hz : (a % Bur.sz l != 0) = false) :
    Calls Tryd.prog 23 #[pfx a l] w fun e w' => e = .returned .nilIface ∧ ∃ n, w' = (w.alloc (pcs a l)).drewN n := by
  obtain ⟨a0, a1⟩ := Bur.isA_true ha
  have hm := Bur.and_mask a l a0 a1 h0
  go_enter Tryd.func23, Tryd.ntmps23
  go_wp2_with (go_at_call 34; refine (isAddress _ _).mono ?_; rintro e w' ⟨rfl, rfl⟩)
  go_quiet ((go_at_call 35; exact Calls.quiet_of_same (behind _ _ h0 h1)))
  go_wp2
  go_ret
  exact ⟨rfl, _, rfl⟩
theorem check_in2 (a l : Int) (w : World) (h0 : 0 ≤ l) (h1 : l ≤ 32) (ha : Bur.isA a = true) (hz : (a % Bur.sz l != 0) = true) :
    Calls Tryd.prog 23 #[pfx a l] w fun e w' => e = .returned (errN 2) ∧ ∃ n, w' = (w.alloc (pcs a l)).drewN n := by
  obtain ⟨a0, a1⟩ := Bur.isA_true ha
  have hm := Bur.and_mask a l a0 a1 h0
  go_enter Tryd.func23, Tryd.ntmps23
  go_wp2_with (go_at_call 34; refine (isAddress _ _).mono ?_; rintro e w' ⟨rfl, rfl⟩)
  go_quiet ((go_at_call 35; exact Calls.quiet_of_same (behind _ _ h0 h1)))
  go_wp2
  go_ret
  exact ⟨rfl, _, rfl⟩

theorem check_ok (a l : Int) (w : World) (h : Bur.fault a l = 0) :
    Calls Tryd.prog 23 #[pfx a l] w fun e w' => e = .returned .nilIface ∧ Box1 w (pcs a l) w' := by
  rcases Bur.fault_cases a l with ⟨e, _⟩ | ⟨e, _⟩ | ⟨_, h0, h1, ha, hz⟩
  · omega
  · omega
  refine (check_in0 a l w h0 h1 ha (by simp [hz])).mono ?_
  rintro e w' ⟨rfl, n, rfl⟩
  exact ⟨rfl, box1 _ _ _⟩
theorem check_no (a l : Int) (w : World) (h : Bur.fault a l ≠ 0) :
    Calls Tryd.prog 23 #[pfx a l] w fun e w' => e = .returned (errN (Bur.fault a l)) ∧ Box1 w (pcs a l) w' := by
  rcases Bur.fault_cases a l with ⟨e, hr⟩ | ⟨e, h0, h1, ha, hz⟩ | ⟨e, _⟩
  · refine (check_range a l w hr).mono ?_
    rintro e' w' ⟨rfl, rfl⟩
    exact ⟨by rw [e], box1 _ _ 0⟩
  · refine (check_in2 a l w h0 h1 ha (by simp [hz])).mono ?_
    rintro e' w' ⟨rfl, n, rfl⟩
    exact ⟨by rw [e], box1 _ _ _⟩
  · omega

theorem check_any (a l : Int) (w : World) : Calls Tryd.prog 23 #[pfx a l] w fun e w' => e = .returned (ev (Bur.fault a l)) ∧ Below w.heap.size w w' := by
  by_cases h : Bur.fault a l = 0
  · refine (check_ok a l w h).mono ?_
    rintro e w' ⟨rfl, _, _, _, hb⟩
    exact ⟨by rw [h, ev_0], below_via (below_al (below_self _) _) hb⟩
  · refine (check_no a l w h).mono ?_
    rintro e w' ⟨rfl, _, _, _, hb⟩
    exact ⟨by rw [ev_ne h], below_via (below_al (below_self _) _) hb⟩
end Go.Proofs.YtdokenlljeajmaaDoor
