/- The contracts of addr's cut, Check and Within, each in one form for whatever it is given. -/
import Derived.Test.YtdjiodikefoliaaDoorCAdBase
namespace Go.Proofs.YtdjiodikefoliaaDoor
open Go.RowKit

theorem behind_eq (n : Int) (h0 : 0 ≤ n) : wrap64 (wrap64 (2 ^ (32 - n).toNat) - 1) = Bur.sz n - 1 := by
  have h1 := Bur.sz_pos n
  have h2 := Bur.sz_le n h0
  unfold Bur.sz at *
  rw [IntWalk.wrap64_in (2 ^ (32 - n).toNat) (by omega), IntWalk.wrap64_in _ (by omega)]
theorem behind (n : Int) (w : World) (h0 : 0 ≤ n) (h1 : n ≤ 32) : Calls Tryd.prog 54 #[.int .i64 n] w fun e w' => e = .returned (.int .i64 (Bur.sz n - 1)) ∧ w' = w := by
  go_enter Tryd.func54, Tryd.ntmps54
  go_wp2
  go_ret
  exact ⟨ret_int (behind_eq n h0), rfl⟩

theorem cut (a n : Int) (w : World) (ha : Bur.isA a = true) (h0 : 0 ≤ n) (h1 : n ≤ 32) : Calls Tryd.prog 39 #[.int .i64 a, .int .i64 n] w fun e w' => e = .returned (.agg #[.int .i64 (a - a % Bur.sz n), .int .i64 n]) ∧ w' = w.alloc (.cells #[.int .i64 (a - a % Bur.sz n), .int .i64 n] 24) := by
  obtain ⟨a0, a1⟩ := Bur.isA_true ha
  have hm := Bur.andNot_mask a n a0 a1 h0
  go_enter Tryd.func39, Tryd.ntmps39
  go_wp2_with (go_at_call 54; refine (behind _ _ h0 h1).mono ?_; rintro e w' ⟨rfl, rfl⟩)
  exact bodyPost_ret (v := .agg #[.int .i64 (a - a % Bur.sz n), .int .i64 n]) (by simp [results, Tryd.results39, go_sem]) rfl ⟨rfl, rfl⟩

/-- The cells of a prefix. -/
abbrev pcs (a l : Int) : Obj := .cells #[.int .i64 a, .int .i64 l] 24

theorem check_range (a l : Int) (w : World) (h : l < 0 ∨ 32 < l ∨ Bur.isA a = false) :
    Calls Tryd.prog 37 #[pfx a l] w fun e w' => e = .returned (errN 1) ∧ w' = w.alloc (pcs a l) := by
  by_cases h0 : l < 0
  · go_enter Tryd.func37, Tryd.ntmps37
    go_wp2
    go_ret
    exact ⟨rfl, rfl⟩
  by_cases h1 : 32 < l
  · go_enter Tryd.func37, Tryd.ntmps37
    go_wp2
    go_ret
    exact ⟨rfl, rfl⟩
  have h2 : Bur.isA a = false := by
    rcases h with h | h | h
    · exact absurd h h0
    · exact absurd h h1
    · exact h
  clear h
  go_enter Tryd.func37, Tryd.ntmps37
  go_wp2_with (go_at_call 53; refine (isAddress _ _).mono ?_; rintro e w' ⟨rfl, rfl⟩)
  go_ret
  exact ⟨rfl, rfl⟩


theorem check_in0 (a l : Int) (w : World) (h0 : 0 ≤ l) (h1 : l ≤ 32) (ha : Bur.isA a = true) (hz : (a % Bur.sz l != 0) = false) :
    Calls Tryd.prog 37 #[pfx a l] w fun e w' => e = .returned .nilIface ∧ ∃ n, w' = (w.alloc (pcs a l)).drewN n := by
  obtain ⟨a0, a1⟩ := Bur.isA_true ha
  have hm := Bur.and_mask a l a0 a1 h0
  go_enter Tryd.func37, Tryd.ntmps37
  go_wp2_with (go_at_call 53; refine (isAddress _ _).mono ?_; rintro e w' ⟨rfl, rfl⟩)
  go_quiet ((go_at_call 54; exact Calls.quiet_of_same (behind _ _ h0 h1)))
  go_wp2
  go_ret
  exact ⟨rfl, _, rfl⟩
theorem check_in2 (a l : Int) (w : World) (h0 : 0 ≤ l) (h1 : l ≤ 32) (ha : Bur.isA a = true) (hz : (a % Bur.sz l != 0) = true) :
    Calls Tryd.prog 37 #[pfx a l] w fun e w' => e = .returned (errN 2) ∧ ∃ n, w' = (w.alloc (pcs a l)).drewN n := by
  obtain ⟨a0, a1⟩ := Bur.isA_true ha
  have hm := Bur.and_mask a l a0 a1 h0
  go_enter Tryd.func37, Tryd.ntmps37
  go_wp2_with (go_at_call 53; refine (isAddress _ _).mono ?_; rintro e w' ⟨rfl, rfl⟩)
  go_quiet ((go_at_call 54; exact Calls.quiet_of_same (behind _ _ h0 h1)))
  go_wp2
  go_ret
  exact ⟨rfl, _, rfl⟩

theorem check_ok (a l : Int) (w : World) (h : Bur.fault a l = 0) :
    Calls Tryd.prog 37 #[pfx a l] w fun e w' => e = .returned .nilIface ∧ Box1 w (pcs a l) w' := by
  rcases Bur.fault_cases a l with ⟨e, _⟩ | ⟨e, _⟩ | ⟨_, h0, h1, ha, hz⟩
  · omega
  · omega
  refine (check_in0 a l w h0 h1 ha (by simp [hz])).mono ?_
  rintro e w' ⟨rfl, n, rfl⟩
  exact ⟨rfl, box1 _ _ _⟩
theorem check_no (a l : Int) (w : World) (h : Bur.fault a l ≠ 0) :
    Calls Tryd.prog 37 #[pfx a l] w fun e w' => e = .returned (errN (Bur.fault a l)) ∧ Box1 w (pcs a l) w' := by
  rcases Bur.fault_cases a l with ⟨e, hr⟩ | ⟨e, h0, h1, ha, hz⟩ | ⟨e, _⟩
  · refine (check_range a l w hr).mono ?_
    rintro e' w' ⟨rfl, rfl⟩
    exact ⟨by rw [e], box1 _ _ 0⟩
  · refine (check_in2 a l w h0 h1 ha (by simp [hz])).mono ?_
    rintro e' w' ⟨rfl, n, rfl⟩
    exact ⟨by rw [e], box1 _ _ _⟩
  · omega

theorem within_no1 (a l a2 l2 : Int) (w : World) (h : Bur.fault a l ≠ 0) :
    Calls Tryd.prog 26 #[pfx a l, pfx a2 l2] w fun e w' => e = .returned (.tuple #[.bool false, errN (Bur.fault a l)]) ∧ Below w.heap.size w w' := by
  go_enter Tryd.func26, Tryd.ntmps26
  go_wp2_with (go_at_call 37; refine (check_no _ _ _ h).mono ?_; rintro e w' ⟨rfl, hc, hf, hs, hb⟩)
  go_ret2
  exact ⟨rfl, below_via (below_al (below_al (below_al (below_self _) _) _) _) hb⟩
theorem within_no2 (a l a2 l2 : Int) (w : World) (h : Bur.fault a l = 0) (h2 : Bur.fault a2 l2 ≠ 0) :
    Calls Tryd.prog 26 #[pfx a l, pfx a2 l2] w fun e w' => e = .returned (.tuple #[.bool false, errN (Bur.fault a2 l2)]) ∧ Below w.heap.size w w' := by
  go_enter Tryd.func26, Tryd.ntmps26
  go_wp2_with fail
  refine (check_ok _ _ _ h).mono ?_; rintro e w' ⟨rfl, hc, hf, hs, hb⟩
  go_wp2_with fail
  refine (check_no _ _ _ h2).mono ?_; rintro e w2 ⟨rfl, hc2, hf2, hs2, hb2⟩
  go_wp2
  go_ret2
  exact ⟨rfl, below_via (below_al (below_via (below_al (below_al (below_al (below_self _) _) _) _) hb) _) hb2⟩
theorem within_lt (a l a2 l2 : Int) (w : World) (h : Bur.fault a l = 0) (h2 : Bur.fault a2 l2 = 0) (hlt : l < l2) :
    Calls Tryd.prog 26 #[pfx a l, pfx a2 l2] w fun e w' => e = .returned (.tuple #[.bool false, .nilIface]) ∧ Below w.heap.size w w' := by
  have hd : decide (l2 ≤ l) = false := by simp; omega
  go_enter Tryd.func26, Tryd.ntmps26
  go_wp2_with fail
  refine (check_ok _ _ _ h).mono ?_; rintro e w' ⟨rfl, hc, hf, hs, hb⟩
  go_wp2_with fail
  refine (check_ok _ _ _ h2).mono ?_; rintro e w2 ⟨rfl, hc2, hf2, hs2, hb2⟩
  go_wp2
  go_quiet (fail)
  go_wp2
  go_ret2
  exact ⟨rfl, below_drewN (below_via (below_al (below_via (below_al (below_al (below_al (below_self _) _) _) _) hb) _) hb2) _⟩
theorem within_ge (a l a2 l2 : Int) (w : World) (h : Bur.fault a l = 0) (h2 : Bur.fault a2 l2 = 0) (hge : l2 ≤ l) :
    Calls Tryd.prog 26 #[pfx a l, pfx a2 l2] w fun e w' => e = .returned (.tuple #[.bool (a - a % Bur.sz l2 == a2), .nilIface]) ∧ Below w.heap.size w w' := by
  have hd : decide (l2 ≤ l) = true := by simp; omega
  obtain ⟨g0, g1, a0, a1, hz⟩ := Bur.fault_ok h
  obtain ⟨g2, g3, _, _, _⟩ := Bur.fault_ok h2
  have ha := Bur.isA_mk a0 a1
  cases hq : (a - a % Bur.sz l2 == a2)
  all_goals
    go_enter Tryd.func26, Tryd.ntmps26
    go_wp2_with fail
    refine (check_ok _ _ _ h).mono ?_; rintro e w' ⟨rfl, hc, hf, hs, hb⟩
    go_wp2_with fail
    refine (check_ok _ _ _ h2).mono ?_; rintro e w2 ⟨rfl, hc2, hf2, hs2, hb2⟩
    go_wp2
    have k0 : w2.cell? ⟨w.heap.size, 0, none⟩ = some (.int .i64 a) := by go_simp
    have k1 : w2.cell? ⟨w.heap.size, 1, none⟩ = some (.int .i64 l) := by go_simp
    have k2 : w2.cell? ⟨w.heap.size + 1, 0, none⟩ = some (.int .i64 a2) := by go_simp
    have k3 : w2.cell? ⟨w.heap.size + 1, 1, none⟩ = some (.int .i64 l2) := by go_simp
    have k4 : w2.heap.size = w.heap.size + 4 := by rw [hs2]; simp; rw [hs]; simp
    have hb' := below_via (below_al (below_via (below_al (below_al (below_al (below_self w) _) _) _) hb) _) hb2
    clear hc hf hs hb hc2 hf2 hs2 hb2
    go_region_held3 (fun w2 => w2.cell? ⟨w.heap.size, 0, none⟩ = some (.int .i64 a) ∧ w2.cell? ⟨w.heap.size, 1, none⟩ = some (.int .i64 l) ∧ w2.cell? ⟨w.heap.size + 1, 0, none⟩ = some (.int .i64 a2) ∧ w2.cell? ⟨w.heap.size + 1, 1, none⟩ = some (.int .i64 l2)) (go_simp)
      (first
        | (go_at_call 39; refine (cut _ _ _ ha g2 g3).mono ?_; rintro e w2 ⟨rfl, rfl⟩))
    go_wp2
    go_ret2
    exact ⟨rfl, (below_al hb' _).drew⟩
theorem within_ok (a l a2 l2 : Int) (w : World) (h : Bur.fault a l = 0) (h2 : Bur.fault a2 l2 = 0) :
    Calls Tryd.prog 26 #[pfx a l, pfx a2 l2] w fun e w' => e = .returned (.tuple #[.bool (Bur.inB a l a2 l2), .nilIface]) ∧ Below w.heap.size w w' := by
  obtain ⟨g0, g1, a0, a1, hz⟩ := Bur.fault_ok h
  obtain ⟨g2, g3, b0, b1, hz2⟩ := Bur.fault_ok h2
  rw [Bur.within_eq g0 g1 hz g2 g3 hz2]
  by_cases hl : l2 ≤ l
  · refine (within_ge a l a2 l2 w h h2 hl).mono ?_
    rintro e w' ⟨rfl, hb⟩
    refine ⟨?_, hb⟩
    rw [show (decide (l2 ≤ l) && decide (a - a % Bur.sz l2 = a2)) = (a - a % Bur.sz l2 == a2) from by simp [hl]; rfl]
  · refine (within_lt a l a2 l2 w h h2 (by omega)).mono ?_
    rintro e w' ⟨rfl, hb⟩
    refine ⟨?_, hb⟩
    rw [show (decide (l2 ≤ l) && decide (a - a % Bur.sz l2 = a2)) = false from by simp [hl]]

theorem check_any (a l : Int) (w : World) : Calls Tryd.prog 37 #[pfx a l] w fun e w' => e = .returned (ev (Bur.fault a l)) ∧ Below w.heap.size w w' := by
  by_cases h : Bur.fault a l = 0
  · refine (check_ok a l w h).mono ?_
    rintro e w' ⟨rfl, _, _, _, hb⟩
    exact ⟨by rw [h, ev_0], below_via (below_al (below_self _) _) hb⟩
  · refine (check_no a l w h).mono ?_
    rintro e w' ⟨rfl, _, _, _, hb⟩
    exact ⟨by rw [ev_ne h], below_via (below_al (below_self _) _) hb⟩
theorem within_any (a l a2 l2 : Int) (w : World) : Calls Tryd.prog 26 #[pfx a l, pfx a2 l2] w fun e w' => e = .returned (.tuple #[.bool (Bur.witB a l a2 l2), ev (Bur.witF a l a2 l2)]) ∧ Below w.heap.size w w' := by
  by_cases h : Bur.fault a l = 0
  · have e : Bur.witF a l a2 l2 = Bur.fault a2 l2 := if_pos h
    by_cases h2 : Bur.fault a2 l2 = 0
    · rw [show Bur.witB a l a2 l2 = Bur.inB a l a2 l2 from by simp [Bur.witB, e, h2], e, h2, ev_0]
      exact within_ok a l a2 l2 w h h2
    · rw [show Bur.witB a l a2 l2 = false from by simp [Bur.witB, e, h2], e, ev_ne h2]
      exact within_no2 a l a2 l2 w h h2
  · have e : Bur.witF a l a2 l2 = Bur.fault a l := if_neg h
    rw [show Bur.witB a l a2 l2 = false from by simp [Bur.witB, e, h], e, ev_ne h]
    exact within_no1 a l a2 l2 w h
end Go.Proofs.YtdjiodikefoliaaDoor
