/- The contracts of addr's Check, Ends, Up, each in one form for whatever it is given; the likeness of prefixes. -/
import Derived.Test.YtfncclkmnkigoaaDoorAdWalkA
import Derived.Test.YtfncclkmnkigoaaDoorSpWalkB
namespace Go.Proofs.YtfncclkmnkigoaaDoor
open Go.RowKit

theorem ends_no (a l : Int) (w : World) (h : Bur.fault a l ≠ 0) :
    Calls Tryd.prog 27 #[pfx a l] w fun e w' => e = .returned (.tuple #[.int .i64 0, .int .i64 0, errN (Bur.fault a l)]) ∧ Below w.heap.size w w' := by
  go_enter Tryd.func27, Tryd.ntmps27
  go_wp2_with (go_at_call 46; refine (check_no _ _ _ h).mono ?_; rintro e w' ⟨rfl, hc, hf, hs, hb⟩)
  go_ret3
  exact ⟨rfl, below_via (below_al (below_al (below_self _) _) _) hb⟩
theorem ends_ok (a l : Int) (w : World) (h : Bur.fault a l = 0) :
    Calls Tryd.prog 27 #[pfx a l] w fun e w' => e = .returned (.tuple #[.int .i64 a, .int .i64 (a + (Bur.sz l - 1)), .nilIface]) ∧ Below w.heap.size w w' := by
  obtain ⟨h0, h1, a0, a1, hz⟩ := Bur.fault_ok h
  have hm := Bur.or_mask a l a0 a1 h0 hz
  go_enter Tryd.func27, Tryd.ntmps27
  go_wp2_with (go_at_call 46; refine (check_ok _ _ _ h).mono ?_; rintro e w' ⟨rfl, hc, hf, hs, hb⟩)
  go_quiet ((go_at_call 47; exact Calls.quiet_of_same (behind _ _ h0 h1)))
  go_wp2
  go_ret3
  exact ⟨rfl, below_drewN (below_via (below_al (below_al (below_self _) _) _) hb) _⟩

theorem up_no (a l : Int) (w : World) (h : Bur.fault a l ≠ 0) :
    Calls Tryd.prog 28 #[pfx a l] w fun e w' => e = .returned (.tuple #[pfx 0 0, errN (Bur.fault a l)]) ∧ Below w.heap.size w w' := by
  go_enter Tryd.func28, Tryd.ntmps28
  go_wp2_with (go_at_call 46; refine (check_no _ _ _ h).mono ?_; rintro e w' ⟨rfl, hc, hf, hs, hb⟩)
  exact bodyPost_ret (v := .tuple #[pfx 0 0, errN (Bur.fault a l)]) (by simp [results, Tryd.results28, go_sem, hc]) rfl ⟨rfl, ((below_via (below_al (below_al (below_al (below_self _) _) _) _) hb).setCell (by simp) _).setCell (by simp) _⟩
theorem up_none (a : Int) (w : World) (h : Bur.fault a 0 = 0) :
    Calls Tryd.prog 28 #[pfx a 0] w fun e w' => e = .returned (.tuple #[pfx 0 0, errN 4]) ∧ Below w.heap.size w w' := by
  go_enter Tryd.func28, Tryd.ntmps28
  go_wp2_with (go_at_call 46; refine (check_ok _ _ _ h).mono ?_; rintro e w' ⟨rfl, hc, hf, hs, hb⟩)
  exact bodyPost_ret (v := .tuple #[pfx 0 0, errN 4]) (by simp [results, Tryd.results28, go_sem, hc]) rfl ⟨rfl, ((below_via (below_al (below_al (below_al (below_self _) _) _) _) hb).setCell (by simp) _).setCell (by simp) _⟩
theorem up_ok (a l : Int) (w : World) (h : Bur.fault a l = 0) (hl : 0 < l) :
    Calls Tryd.prog 28 #[pfx a l] w fun e w' => e = .returned (.tuple #[pfx (a - a % Bur.sz (l - 1)) (l - 1), .nilIface]) ∧ Below w.heap.size w w' := by
  obtain ⟨h0, h1, a0, a1, hz⟩ := Bur.fault_ok h
  have ha := Bur.isA_mk a0 a1
  go_enter Tryd.func28, Tryd.ntmps28
  go_wp2_with (first | (go_at_call 46; refine (check_ok _ _ _ h).mono ?_; rintro e w' ⟨rfl, hc, hf, hs, hb⟩) | (go_at_call 48; refine (cut _ _ _ ha (by omega) (by omega)).mono ?_; rintro e w2 ⟨rfl, rfl⟩))
  exact bodyPost_ret (v := .tuple #[pfx (a - a % Bur.sz (l - 1)) (l - 1), .nilIface]) (by simp [results, Tryd.results28, go_sem, hc, hs]) rfl ⟨rfl, below_al (((below_via (below_al (below_al (below_al (below_self _) _) _) _) hb).setCell (by simp) _).setCell (by simp) _) _⟩

theorem check_any (a l : Int) (w : World) : Calls Tryd.prog 46 #[pfx a l] w fun e w' => e = .returned (ev (Bur.fault a l)) ∧ Below w.heap.size w w' := by
  by_cases h : Bur.fault a l = 0
  · refine (check_ok a l w h).mono ?_
    rintro e w' ⟨rfl, _, _, _, hb⟩
    exact ⟨by rw [h, ev_0], below_via (below_al (below_self _) _) hb⟩
  · refine (check_no a l w h).mono ?_
    rintro e w' ⟨rfl, _, _, _, hb⟩
    exact ⟨by rw [ev_ne h], below_via (below_al (below_self _) _) hb⟩
theorem ends_any (a l : Int) (w : World) : Calls Tryd.prog 27 #[pfx a l] w fun e w' => e = .returned (.tuple #[.int .i64 (Bur.endA a l), .int .i64 (Bur.endB a l), ev (Bur.fault a l)]) ∧ Below w.heap.size w w' := by
  by_cases h : Bur.fault a l = 0
  · rw [show Bur.endA a l = a from if_pos h, show Bur.endB a l = a + (Bur.sz l - 1) from if_pos h, show ev (Bur.fault a l) = .nilIface from by rw [h, ev_0]]
    exact ends_ok a l w h
  · rw [show Bur.endA a l = 0 from if_neg h, show Bur.endB a l = 0 from if_neg h, ev_ne h]
    exact ends_no a l w h
theorem up_any (a l : Int) (w : World) : Calls Tryd.prog 28 #[pfx a l] w fun e w' => e = .returned (.tuple #[pfx (Bur.upA a l) (Bur.upL a l), ev (Bur.upF a l)]) ∧ Below w.heap.size w w' := by
  by_cases h : Bur.fault a l = 0
  · by_cases h2 : l = 0
    · subst h2
      have e : Bur.upF a 0 = 4 := by simp [Bur.upF, h]
      simp only [Bur.upA, Bur.upL, e]
      exact up_none a w h
    · have e : Bur.upF a l = 0 := by simp [Bur.upF, h, h2]
      have := (Bur.fault_ok h).1
      simp only [Bur.upA, Bur.upL, e, if_true]
      exact up_ok a l w h (by omega)
  · have e : Bur.upF a l = Bur.fault a l := by simp [Bur.upF, h]
    simp only [Bur.upA, Bur.upL, e, if_neg h, ev_ne h]
    exact up_no a l w h


set_option maxHeartbeats 4000000 in
theorem prefixes_same (p q : Option Addr) (ca cb : Nat) (l : List Bur.Sp) (w : World) (hl : l.length ≤ 9223372036854775807) (hs : SpAt w p l) (ht : SpAt w q l) : Calls Tryd.prog 21 #[.slice p l.length ca, .slice q l.length cb] w fun e w' => e = .returned (.bool true) ∧ Below w.heap.size w w' := by
  have hne : ((l.length : Int) != (l.length : Int)) = false := by simp
  go_enter Tryd.func21, Tryd.ntmps21
  go_wp2
  go_loopw [5] (fun i wr => ∃ (k m : Nat), k ≤ l.length ∧ i = .int .i64 k ∧ wr = w.drewN m) (fun i _ => (l.length - intOf i).toNat)
  case atStart => exact ⟨0, 0, by omega, rfl, rfl⟩
  case round =>
    obtain ⟨k, m, hk, rfl, rfl⟩ := hrel
    by_cases hlt : k < l.length
    · have hlt' : (k : Int) < (l.length : Int) := by omega
      obtain ⟨A, oa, rfl, hbl, hc⟩ := hs (by omega)
      obtain ⟨B, ob, rfl, hbl2, hd⟩ := ht (by omega)
      have c0 : (w.drewN m).cell? ⟨A, oa + k * 2, none⟩ = some (.int .i64 (lo l k)) := (hc k hlt).1
      have c1 : (w.drewN m).cell? ⟨A, oa + k * 2 + 1, none⟩ = some (.int .i64 (hi l k)) := (hc k hlt).2
      have c2 : (w.drewN m).cell? ⟨B, ob + k * 2, none⟩ = some (.int .i64 (lo l k)) := (hd k hlt).1
      have c3 : (w.drewN m).cell? ⟨B, ob + k * 2 + 1, none⟩ = some (.int .i64 (hi l k)) := (hd k hlt).2
      generalize hW : w.drewN m = W at c0 c1 c2 c3 ⊢
      have HW : Hid (w.drewN m = W) := hW
      have b1 : (lo l k != lo l k) = false := by simp
      have b2 : (hi l k != hi l k) = false := by simp
      clear hW hc hd hs ht
      go_wp2
      go_quiet (fail)
      go_wp2
      exact ⟨⟨k + 1, m + nq, by omega, by go_num, by rw [← HW.out]; simp⟩, by simp [intOf]; omega⟩
    · clear hs ht
      go_wp2
      go_ret
      exact ⟨rfl, below_drewN (below_self _) m⟩
end Go.Proofs.YtfncclkmnkigoaaDoor
