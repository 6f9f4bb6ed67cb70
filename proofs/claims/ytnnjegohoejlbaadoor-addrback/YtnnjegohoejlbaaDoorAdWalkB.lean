/- The contracts of Ends, Up, Halves, In, Within, BothOf, Prefixes. -/
import Derived.Test.YtnnjegohoejlbaaDoorAdWalkA
namespace Go.Proofs.YtnnjegohoejlbaaDoor
open Go.RowKit

theorem ends_no (a l : Int) (w : World) (h : Bur.fault a l ≠ 0) :
    Calls Tryd.prog 18 #[pfx a l] w fun e w' => e = .returned (.tuple #[.int .i64 0, .int .i64 0, errN (Bur.fault a l)]) ∧ Below w.heap.size w w' := by
  go_enter Tryd.func18, Tryd.ntmps18
  go_wp2_with (go_at_call 16; refine (check_no _ _ _ h).mono ?_; rintro e w' ⟨rfl, hc, hf, hs, hb⟩)
  go_ret3
  exact ⟨rfl, below_via (below_al (below_al (below_self _) _) _) hb⟩
theorem ends_ok (a l : Int) (w : World) (h : Bur.fault a l = 0) :
    Calls Tryd.prog 18 #[pfx a l] w fun e w' => e = .returned (.tuple #[.int .i64 a, .int .i64 (a + (Bur.sz l - 1)), .nilIface]) ∧ Below w.heap.size w w' := by
  obtain ⟨h0, h1, a0, a1, hz⟩ := Bur.fault_ok h
  have hm := Bur.or_mask a l a0 a1 h0 hz
  go_enter Tryd.func18, Tryd.ntmps18
  go_wp2_with (go_at_call 16; refine (check_ok _ _ _ h).mono ?_; rintro e w' ⟨rfl, hc, hf, hs, hb⟩)
  go_quiet ((go_at_call 37; exact Calls.quiet_of_same (behind _ _ h0 h1)))
  go_wp2
  go_ret3
  exact ⟨rfl, below_drewN (below_via (below_al (below_al (below_self _) _) _) hb) _⟩

theorem up_no (a l : Int) (w : World) (h : Bur.fault a l ≠ 0) :
    Calls Tryd.prog 23 #[pfx a l] w fun e w' => e = .returned (.tuple #[pfx 0 0, errN (Bur.fault a l)]) ∧ Below w.heap.size w w' := by
  go_enter Tryd.func23, Tryd.ntmps23
  go_wp2_with (go_at_call 16; refine (check_no _ _ _ h).mono ?_; rintro e w' ⟨rfl, hc, hf, hs, hb⟩)
  exact bodyPost_ret (v := .tuple #[pfx 0 0, errN (Bur.fault a l)]) (by simp [results, Tryd.results23, go_sem, hc]) rfl ⟨rfl, ((below_via (below_al (below_al (below_al (below_self _) _) _) _) hb).setCell (by simp) _).setCell (by simp) _⟩
theorem up_none (a : Int) (w : World) (h : Bur.fault a 0 = 0) :
    Calls Tryd.prog 23 #[pfx a 0] w fun e w' => e = .returned (.tuple #[pfx 0 0, errN 4]) ∧ Below w.heap.size w w' := by
  go_enter Tryd.func23, Tryd.ntmps23
  go_wp2_with (go_at_call 16; refine (check_ok _ _ _ h).mono ?_; rintro e w' ⟨rfl, hc, hf, hs, hb⟩)
  exact bodyPost_ret (v := .tuple #[pfx 0 0, errN 4]) (by simp [results, Tryd.results23, go_sem, hc]) rfl ⟨rfl, ((below_via (below_al (below_al (below_al (below_self _) _) _) _) hb).setCell (by simp) _).setCell (by simp) _⟩
theorem up_ok (a l : Int) (w : World) (h : Bur.fault a l = 0) (hl : 0 < l) :
    Calls Tryd.prog 23 #[pfx a l] w fun e w' => e = .returned (.tuple #[pfx (a - a % Bur.sz (l - 1)) (l - 1), .nilIface]) ∧ Below w.heap.size w w' := by
  obtain ⟨h0, h1, a0, a1, hz⟩ := Bur.fault_ok h
  have ha := Bur.isA_mk a0 a1
  go_enter Tryd.func23, Tryd.ntmps23
  go_wp2_with (first | (go_at_call 16; refine (check_ok _ _ _ h).mono ?_; rintro e w' ⟨rfl, hc, hf, hs, hb⟩) | (go_at_call 39; refine (cut _ _ _ ha (by omega) (by omega)).mono ?_; rintro e w2 ⟨rfl, rfl⟩))
  exact bodyPost_ret (v := .tuple #[pfx (a - a % Bur.sz (l - 1)) (l - 1), .nilIface]) (by simp [results, Tryd.results23, go_sem, hc, hs]) rfl ⟨rfl, below_al (((below_via (below_al (below_al (below_al (below_self _) _) _) _) hb).setCell (by simp) _).setCell (by simp) _) _⟩

theorem halves_no (a l : Int) (w : World) (h : Bur.fault a l ≠ 0) :
    Calls Tryd.prog 21 #[pfx a l] w fun e w' => e = .returned (.tuple #[pfx 0 0, pfx 0 0, errN (Bur.fault a l)]) ∧ Below w.heap.size w w' := by
  go_enter Tryd.func21, Tryd.ntmps21
  go_wp2_with (go_at_call 16; refine (check_no _ _ _ h).mono ?_; rintro e w' ⟨rfl, hc, hf, hs, hb⟩)
  exact bodyPost_ret (v := .tuple #[pfx 0 0, pfx 0 0, errN (Bur.fault a l)]) (by simp [results, Tryd.results21, go_sem, hc]) rfl ⟨rfl, ((((below_via (below_al (below_al (below_al (below_al (below_self _) _) _) _) _) hb).setCell (by simp) _).setCell (by simp) _).setCell (by simp; omega) _).setCell (by simp; omega) _⟩
theorem halves_none (a : Int) (w : World) (h : Bur.fault a 32 = 0) :
    Calls Tryd.prog 21 #[pfx a 32] w fun e w' => e = .returned (.tuple #[pfx 0 0, pfx 0 0, errN 4]) ∧ Below w.heap.size w w' := by
  go_enter Tryd.func21, Tryd.ntmps21
  go_wp2_with (go_at_call 16; refine (check_ok _ _ _ h).mono ?_; rintro e w' ⟨rfl, hc, hf, hs, hb⟩)
  exact bodyPost_ret (v := .tuple #[pfx 0 0, pfx 0 0, errN 4]) (by simp [results, Tryd.results21, go_sem, hc]) rfl ⟨rfl, ((((below_via (below_al (below_al (below_al (below_al (below_self _) _) _) _) _) hb).setCell (by simp) _).setCell (by simp) _).setCell (by simp; omega) _).setCell (by simp; omega) _⟩

set_option maxHeartbeats 1000000 in
theorem halves_ok (a l : Int) (w : World) (h : Bur.fault a l = 0) (hl : l < 32) :
    Calls Tryd.prog 21 #[pfx a l] w fun e w' => e = .returned (.tuple #[pfx a (l + 1), pfx (a + Bur.sz (l + 1)) (l + 1), .nilIface]) ∧ Below w.heap.size w w' := by
  obtain ⟨h0, h1, a0, a1, hz⟩ := Bur.fault_ok h
  have hp := Bur.sz_pos l
  have ha := Bur.isA_mk a0 a1
  have hb2 := Bur.isA_mk (a := a + (Bur.sz l - 1)) (by omega) (Bur.last_le h0 h1 a0 a1 hz)
  have hm := Bur.or_mask a l a0 a1 h0 hz
  have e1 : Hid _ := Bur.half_low hl hz
  have e2 : Hid _ := Bur.half_high hl hz
  go_enter Tryd.func21, Tryd.ntmps21
  go_wp2_with (go_at_call 16; refine (check_ok _ _ _ h).mono ?_; rintro e w' ⟨rfl, hc, hf, hs, hb⟩)
  clear h hz
  have k0 : w'.cell? ⟨w.heap.size, 0, none⟩ = some (.int .i64 a) := by go_simp
  have k1 : w'.cell? ⟨w.heap.size, 1, none⟩ = some (.int .i64 l) := by go_simp
  have k2 : w'.heap.size = w.heap.size + 4 := by rw [hs]; simp
  have k3 : w'.cell? ⟨w.heap.size + 1, 0, none⟩ = some (.int .i64 0) := by go_simp
  have k4 : w'.cell? ⟨w.heap.size + 1, 1, none⟩ = some (.int .i64 0) := by go_simp
  have k5 : w'.cell? ⟨w.heap.size + 1 + 1, 0, none⟩ = some (.int .i64 0) := by go_simp
  have k6 : w'.cell? ⟨w.heap.size + 1 + 1, 1, none⟩ = some (.int .i64 0) := by go_simp
  have f3 : w'.frozen? ⟨w.heap.size + 1, 0, none⟩ = false := by go_simp
  have f4 : w'.frozen? ⟨w.heap.size + 1, 1, none⟩ = false := by go_simp
  have f5 : w'.frozen? ⟨w.heap.size + 1 + 1, 0, none⟩ = false := by go_simp
  have f6 : w'.frozen? ⟨w.heap.size + 1 + 1, 1, none⟩ = false := by go_simp
  have hb' := below_via (below_al (below_al (below_al (below_al (below_self w) _) _) _) _) hb
  clear hc hf hs hb
  go_region_held3 (fun w2 => w2.cell? ⟨w.heap.size, 0, none⟩ = some (.int .i64 a) ∧ w2.cell? ⟨w.heap.size, 1, none⟩ = some (.int .i64 l)) (go_simp)
    (first
      | (go_at_call_of 39 (Value.int IntKind.i64 a); refine (cut _ _ _ ha (by omega) (by omega)).mono ?_; rintro e w2 ⟨rfl, rfl⟩)
      | (go_at_call 39; refine (cut _ _ _ hb2 (by omega) (by omega)).mono ?_; rintro e w2 ⟨rfl, rfl⟩)
      | (go_at_call 37; refine (behind _ _ h0 h1).mono ?_; rintro e w2 ⟨rfl, rfl⟩))
  go_wp2
  rw [e1.out, e2.out]
  exact bodyPost_ret (v := .tuple #[pfx a (l + 1), pfx (a + Bur.sz (l + 1)) (l + 1), .nilIface]) (by simp [results, Tryd.results21, go_sem, k2, k3, k4, k5, k6]) rfl ⟨rfl, (below_al (below_al ((((hb'.setCell (by simp) _).setCell (by simp) _).setCell (by simp; omega) _).setCell (by simp; omega) _) _) _).drew⟩

theorem in_lt (a l a2 l2 : Int) (w : World) (hlt : a < a2) :
    Calls Tryd.prog 25 #[pfx a l, pfx a2 l2] w fun e w' => e = .returned (.bool false) ∧ Below w.heap.size w w' := by
  have hd : decide (a2 ≤ a) = false := by simp; omega
  go_enter Tryd.func25, Tryd.ntmps25
  go_wp2
  go_quiet (fail)
  go_wp2
  go_ret
  exact ⟨rfl, below_drewN (below_al (below_al (below_self _) _) _) _⟩
theorem in_ge (a l a2 l2 : Int) (w : World) (h0 : 0 ≤ l) (h1 : l ≤ 32) (ha : Bur.isA a = true) (h2 : 0 ≤ l2) (h3 : l2 ≤ 32) (ha2 : Bur.isA a2 = true) (hge : a2 ≤ a) :
    Calls Tryd.prog 25 #[pfx a l, pfx a2 l2] w fun e w' => e = .returned (.bool (decide (a + Bur.sz l ≤ a2 + Bur.sz l2))) ∧ Below w.heap.size w w' := by
  have hd : decide (a2 ≤ a) = true := by simp; omega
  go_enter Tryd.func25, Tryd.ntmps25
  go_wp2
  go_region_held3 (fun w2 => w2.cell? ⟨w.heap.size, 0, none⟩ = some (.int .i64 a) ∧ w2.cell? ⟨w.heap.size, 1, none⟩ = some (.int .i64 l) ∧ w2.cell? ⟨w.heap.size + 1, 0, none⟩ = some (.int .i64 a2) ∧ w2.cell? ⟨w.heap.size + 1, 1, none⟩ = some (.int .i64 l2)) (go_simp)
    (first
      | (go_at_call_of 19 (Value.int IntKind.i64 l); refine (lastOf _ _ _ h0 h1 ha).mono ?_; rintro e w2 ⟨rfl, n, rfl⟩)
      | (go_at_call 19; refine (lastOf _ _ _ h2 h3 ha2).mono ?_; rintro e w2 ⟨rfl, n, rfl⟩))
  go_wp2
  go_ret
  exact ⟨rfl, below_drewN (below_al (below_drewN (below_al (below_al (below_al (below_self _) _) _) _) _) _) _⟩
theorem refIn (a l a2 l2 : Int) (w : World) (h0 : 0 ≤ l) (h1 : l ≤ 32) (ha : Bur.isA a = true) (h2 : 0 ≤ l2) (h3 : l2 ≤ 32) (ha2 : Bur.isA a2 = true) :
    Calls Tryd.prog 25 #[pfx a l, pfx a2 l2] w fun e w' => e = .returned (.bool (Bur.inB a l a2 l2)) ∧ Below w.heap.size w w' := by
  by_cases h : a2 ≤ a
  · refine (in_ge a l a2 l2 w h0 h1 ha h2 h3 ha2 h).mono ?_
    rintro e w' ⟨rfl, hb⟩
    exact ⟨ret_bool (by simp [Bur.inB, h]), hb⟩
  · refine (in_lt a l a2 l2 w (by omega)).mono ?_
    rintro e w' ⟨rfl, hb⟩
    exact ⟨ret_bool (by simp [Bur.inB, h]), hb⟩

theorem within_no1 (a l a2 l2 : Int) (w : World) (h : Bur.fault a l ≠ 0) :
    Calls Tryd.prog 24 #[pfx a l, pfx a2 l2] w fun e w' => e = .returned (.tuple #[.bool false, errN (Bur.fault a l)]) ∧ Below w.heap.size w w' := by
  go_enter Tryd.func24, Tryd.ntmps24
  go_wp2_with (go_at_call 16; refine (check_no _ _ _ h).mono ?_; rintro e w' ⟨rfl, hc, hf, hs, hb⟩)
  go_ret2
  exact ⟨rfl, below_via (below_al (below_al (below_al (below_self _) _) _) _) hb⟩
theorem within_no2 (a l a2 l2 : Int) (w : World) (h : Bur.fault a l = 0) (h2 : Bur.fault a2 l2 ≠ 0) :
    Calls Tryd.prog 24 #[pfx a l, pfx a2 l2] w fun e w' => e = .returned (.tuple #[.bool false, errN (Bur.fault a2 l2)]) ∧ Below w.heap.size w w' := by
  go_enter Tryd.func24, Tryd.ntmps24
  go_wp2_with fail
  refine (check_ok _ _ _ h).mono ?_; rintro e w' ⟨rfl, hc, hf, hs, hb⟩
  go_wp2_with fail
  refine (check_no _ _ _ h2).mono ?_; rintro e w2 ⟨rfl, hc2, hf2, hs2, hb2⟩
  go_wp2
  go_ret2
  exact ⟨rfl, below_via (below_al (below_via (below_al (below_al (below_al (below_self _) _) _) _) hb) _) hb2⟩
theorem within_lt (a l a2 l2 : Int) (w : World) (h : Bur.fault a l = 0) (h2 : Bur.fault a2 l2 = 0) (hlt : l < l2) :
    Calls Tryd.prog 24 #[pfx a l, pfx a2 l2] w fun e w' => e = .returned (.tuple #[.bool false, .nilIface]) ∧ Below w.heap.size w w' := by
  have hd : decide (l2 ≤ l) = false := by simp; omega
  go_enter Tryd.func24, Tryd.ntmps24
  go_wp2_with fail
  refine (check_ok _ _ _ h).mono ?_; rintro e w' ⟨rfl, hc, hf, hs, hb⟩
  go_wp2_with fail
  refine (check_ok _ _ _ h2).mono ?_; rintro e w2 ⟨rfl, hc2, hf2, hs2, hb2⟩
  go_wp2
  go_quiet (fail)
  go_wp2
  go_ret2
  exact ⟨rfl, below_drewN (below_via (below_al (below_via (below_al (below_al (below_al (below_self _) _) _) _) hb) _) hb2) _⟩
theorem within_ge (a l a2 l2 : Int) (w : World) (h : Bur.fault a l = 0) (h2 : Bur.fault a2 l2 = 0) (hge : l2 ≤ l) :
    Calls Tryd.prog 24 #[pfx a l, pfx a2 l2] w fun e w' => e = .returned (.tuple #[.bool (a - a % Bur.sz l2 == a2), .nilIface]) ∧ Below w.heap.size w w' := by
  have hd : decide (l2 ≤ l) = true := by simp; omega
  obtain ⟨g0, g1, a0, a1, hz⟩ := Bur.fault_ok h
  obtain ⟨g2, g3, _, _, _⟩ := Bur.fault_ok h2
  have ha := Bur.isA_mk a0 a1
  cases hq : (a - a % Bur.sz l2 == a2)
  all_goals
    go_enter Tryd.func24, Tryd.ntmps24
    go_wp2_with fail
    refine (check_ok _ _ _ h).mono ?_; rintro e w' ⟨rfl, hc, hf, hs, hb⟩
    go_wp2_with fail
    refine (check_ok _ _ _ h2).mono ?_; rintro e w2 ⟨rfl, hc2, hf2, hs2, hb2⟩
    go_wp2
    have k0 : w2.cell? ⟨w.heap.size, 0, none⟩ = some (.int .i64 a) := by go_simp
    have k1 : w2.cell? ⟨w.heap.size, 1, none⟩ = some (.int .i64 l) := by go_simp
    have k2 : w2.cell? ⟨w.heap.size + 1, 0, none⟩ = some (.int .i64 a2) := by go_simp
    have k3 : w2.cell? ⟨w.heap.size + 1, 1, none⟩ = some (.int .i64 l2) := by go_simp
    have k4 : w2.heap.size = w.heap.size + 4 := by rw [hs2]; simp; rw [hs]; simp
    have hb' := below_via (below_al (below_via (below_al (below_al (below_al (below_self w) _) _) _) hb) _) hb2
    clear hc hf hs hb hc2 hf2 hs2 hb2
    go_region_held3 (fun w2 => w2.cell? ⟨w.heap.size, 0, none⟩ = some (.int .i64 a) ∧ w2.cell? ⟨w.heap.size, 1, none⟩ = some (.int .i64 l) ∧ w2.cell? ⟨w.heap.size + 1, 0, none⟩ = some (.int .i64 a2) ∧ w2.cell? ⟨w.heap.size + 1, 1, none⟩ = some (.int .i64 l2)) (go_simp)
      (first
        | (go_at_call 39; refine (cut _ _ _ ha g2 g3).mono ?_; rintro e w2 ⟨rfl, rfl⟩))
    go_wp2
    go_ret2
    exact ⟨rfl, (below_al hb' _).drew⟩
theorem within_ok (a l a2 l2 : Int) (w : World) (h : Bur.fault a l = 0) (h2 : Bur.fault a2 l2 = 0) :
    Calls Tryd.prog 24 #[pfx a l, pfx a2 l2] w fun e w' => e = .returned (.tuple #[.bool (Bur.inB a l a2 l2), .nilIface]) ∧ Below w.heap.size w w' := by
  obtain ⟨g0, g1, a0, a1, hz⟩ := Bur.fault_ok h
  obtain ⟨g2, g3, b0, b1, hz2⟩ := Bur.fault_ok h2
  rw [Bur.within_eq g0 g1 hz g2 g3 hz2]
  by_cases hl : l2 ≤ l
  · refine (within_ge a l a2 l2 w h h2 hl).mono ?_
    rintro e w' ⟨rfl, hb⟩
    refine ⟨?_, hb⟩
    rw [show (decide (l2 ≤ l) && decide (a - a % Bur.sz l2 = a2)) = (a - a % Bur.sz l2 == a2) from by simp [hl]; rfl]
  · refine (within_lt a l a2 l2 w h h2 (by omega)).mono ?_
    rintro e w' ⟨rfl, hb⟩
    refine ⟨?_, hb⟩
    rw [show (decide (l2 ≤ l) && decide (a - a % Bur.sz l2 = a2)) = false from by simp [hl]]

end Go.Proofs.YtnnjegohoejlbaaDoor
