/- The contracts of the functions on numbers and prefixes: IsAddr, isAddress, behind, Size, cut, Check, Fault, LastOf, Ends. -/
import Derived.Test.YtfncclkmnkigoaaDoorAdIsA
namespace Go.Proofs.YtfncclkmnkigoaaDoor
open Go.RowKit



theorem behind_eq (n : Int) (h0 : 0 ≤ n) : wrap64 (wrap64 (2 ^ (32 - n).toNat) - 1) = Bur.sz n - 1 := by
  have h1 := Bur.sz_pos n
  have h2 := Bur.sz_le n h0
  unfold Bur.sz at *
  rw [IntWalk.wrap64_in (2 ^ (32 - n).toNat) (by omega), IntWalk.wrap64_in _ (by omega)]
theorem behind (n : Int) (w : World) (h0 : 0 ≤ n) (h1 : n ≤ 32) : Calls Tryd.prog 47 #[.int .i64 n] w fun e w' => e = .returned (.int .i64 (Bur.sz n - 1)) ∧ w' = w := by
  go_enter Tryd.func47, Tryd.ntmps47
  go_wp2
  go_ret
  exact ⟨ret_int (behind_eq n h0), rfl⟩

theorem size_eq (n : Int) (h0 : 0 ≤ n) (h : n ≤ 32) (w : World) : Calls Tryd.prog 42 #[.int .i64 n] w fun e w' => e = .returned (.int .i64 (Bur.sz n)) ∧ w' = w := by
  go_enter Tryd.func42, Tryd.ntmps42
  go_wp2
  go_loop [3, 4] (fun s i => ∃ k : Int, n ≤ k ∧ k ≤ 32 ∧ i = .int .i64 k ∧ s = .int .i64 (2 ^ (k - n).toNat)) (fun _ i => (32 - intOf i).toNat)
  case atStart => exact ⟨n, by omega, h, rfl, by simp⟩
  case round =>
    obtain ⟨k, hk0, hk1, rfl, rfl⟩ := hrel
    by_cases hlt : k < 32
    · have hp : (2 : Int) ^ (k - n).toNat ≤ 4294967296 := by
        have := Bur.sz_le (32 - (k - n)) (by omega)
        unfold Bur.sz at this
        rwa [show (32 - (32 - (k - n))) = k - n from by omega] at this
      have hq : (0 : Int) < 2 ^ (k - n).toNat := Int.pow_pos (by decide)
      have HS : Hid ((2 : Int) ^ (k + 1 - n).toNat = 2 ^ (k - n).toNat * 2) := by
        show _ = _
        rw [show (k + 1 - n).toNat = (k - n).toNat + 1 from by omega, Int.pow_succ]
      go_wp2
      go_round
      case rel => exact ⟨k + 1, by omega, by omega, rfl, by rw [HS.out]⟩
      case measure => simp [intOf]; omega
    · have : k = 32 := by omega
      subst this
      go_wp2
      go_ret
      exact ⟨rfl, rfl⟩

theorem cut (a n : Int) (w : World) (ha : Bur.isA a = true) (h0 : 0 ≤ n) (h1 : n ≤ 32) : Calls Tryd.prog 48 #[.int .i64 a, .int .i64 n] w fun e w' => e = .returned (.agg #[.int .i64 (a - a % Bur.sz n), .int .i64 n]) ∧ w' = w.alloc (.cells #[.int .i64 (a - a % Bur.sz n), .int .i64 n] 46) := by
  obtain ⟨a0, a1⟩ := Bur.isA_true ha
  have hm := Bur.andNot_mask a n a0 a1 h0
  go_enter Tryd.func48, Tryd.ntmps48
  go_wp2_with (go_at_call 47; refine (behind _ _ h0 h1).mono ?_; rintro e w' ⟨rfl, rfl⟩)
  exact bodyPost_ret (v := .agg #[.int .i64 (a - a % Bur.sz n), .int .i64 n]) (by simp [results, Tryd.results48, go_sem]) rfl ⟨rfl, rfl⟩

/-- The cells of a prefix. -/
abbrev pcs (a l : Int) : Obj := .cells #[.int .i64 a, .int .i64 l] 46

theorem check_range (a l : Int) (w : World) (h : l < 0 ∨ 32 < l ∨ Bur.isA a = false) :
    Calls Tryd.prog 46 #[pfx a l] w fun e w' => e = .returned (errN 1) ∧ w' = w.alloc (pcs a l) := by
  by_cases h0 : l < 0
  · go_enter Tryd.func46, Tryd.ntmps46
    go_wp2
    go_ret
    exact ⟨rfl, rfl⟩
  by_cases h1 : 32 < l
  · go_enter Tryd.func46, Tryd.ntmps46
    go_wp2
    go_ret
    exact ⟨rfl, rfl⟩
  have h2 : Bur.isA a = false := by
    rcases h with h | h | h
    · exact absurd h h0
    · exact absurd h h1
    · exact h
  clear h
  go_enter Tryd.func46, Tryd.ntmps46
  go_wp2_with (go_at_call 36; refine (isAddress _ _).mono ?_; rintro e w' ⟨rfl, rfl⟩)
  go_ret
  exact ⟨rfl, rfl⟩


theorem check_in0 (a l : Int) (w : World) (h0 : 0 ≤ l) (h1 : l ≤ 32) (ha : Bur.isA a = true) (hz : (a % Bur.sz l != 0) = false) :
    Calls Tryd.prog 46 #[pfx a l] w fun e w' => e = .returned .nilIface ∧ ∃ n, w' = (w.alloc (pcs a l)).drewN n := by
  obtain ⟨a0, a1⟩ := Bur.isA_true ha
  have hm := Bur.and_mask a l a0 a1 h0
  go_enter Tryd.func46, Tryd.ntmps46
  go_wp2_with (go_at_call 36; refine (isAddress _ _).mono ?_; rintro e w' ⟨rfl, rfl⟩)
  go_quiet ((go_at_call 47; exact Calls.quiet_of_same (behind _ _ h0 h1)))
  go_wp2
  go_ret
  exact ⟨rfl, _, rfl⟩
theorem check_in2 (a l : Int) (w : World) (h0 : 0 ≤ l) (h1 : l ≤ 32) (ha : Bur.isA a = true) (hz : (a % Bur.sz l != 0) = true) :
    Calls Tryd.prog 46 #[pfx a l] w fun e w' => e = .returned (errN 2) ∧ ∃ n, w' = (w.alloc (pcs a l)).drewN n := by
  obtain ⟨a0, a1⟩ := Bur.isA_true ha
  have hm := Bur.and_mask a l a0 a1 h0
  go_enter Tryd.func46, Tryd.ntmps46
  go_wp2_with (go_at_call 36; refine (isAddress _ _).mono ?_; rintro e w' ⟨rfl, rfl⟩)
  go_quiet ((go_at_call 47; exact Calls.quiet_of_same (behind _ _ h0 h1)))
  go_wp2
  go_ret
  exact ⟨rfl, _, rfl⟩

theorem check_ok (a l : Int) (w : World) (h : Bur.fault a l = 0) :
    Calls Tryd.prog 46 #[pfx a l] w fun e w' => e = .returned .nilIface ∧ Box1 w (pcs a l) w' := by
  rcases Bur.fault_cases a l with ⟨e, _⟩ | ⟨e, _⟩ | ⟨_, h0, h1, ha, hz⟩
  · omega
  · omega
  refine (check_in0 a l w h0 h1 ha (by simp [hz])).mono ?_
  rintro e w' ⟨rfl, n, rfl⟩
  exact ⟨rfl, box1 _ _ _⟩
theorem check_no (a l : Int) (w : World) (h : Bur.fault a l ≠ 0) :
    Calls Tryd.prog 46 #[pfx a l] w fun e w' => e = .returned (errN (Bur.fault a l)) ∧ Box1 w (pcs a l) w' := by
  rcases Bur.fault_cases a l with ⟨e, hr⟩ | ⟨e, h0, h1, ha, hz⟩ | ⟨e, _⟩
  · refine (check_range a l w hr).mono ?_
    rintro e' w' ⟨rfl, rfl⟩
    exact ⟨by rw [e], box1 _ _ 0⟩
  · refine (check_in2 a l w h0 h1 ha (by simp [hz])).mono ?_
    rintro e' w' ⟨rfl, n, rfl⟩
    exact ⟨by rw [e], box1 _ _ _⟩
  · omega

theorem fault_range (a l : Int) (w : World) (h : l < 0 ∨ 32 < l ∨ Bur.isA a = false) :
    Calls Tryd.prog 44 #[pfx a l] w fun e w' => e = .returned (.int .i64 1) ∧ w' = w.alloc (pcs a l) := by
  by_cases h0 : l < 0
  · go_enter Tryd.func44, Tryd.ntmps44
    go_wp2_with (go_at_call 14; refine (refIsAddr _ _).mono ?_; rintro e w' ⟨rfl, rfl⟩)
    go_ret
    exact ⟨rfl, rfl⟩
  by_cases h1 : 32 < l
  · go_enter Tryd.func44, Tryd.ntmps44
    go_wp2_with (go_at_call 14; refine (refIsAddr _ _).mono ?_; rintro e w' ⟨rfl, rfl⟩)
    go_ret
    exact ⟨rfl, rfl⟩
  have h2 : Bur.isA a = false := by
    rcases h with h | h | h
    · exact absurd h h0
    · exact absurd h h1
    · exact h
  clear h
  go_enter Tryd.func44, Tryd.ntmps44
  go_wp2_with (go_at_call 14; refine (refIsAddr _ _).mono ?_; rintro e w' ⟨rfl, rfl⟩)
  go_ret
  exact ⟨rfl, rfl⟩
theorem fault_in0 (a l : Int) (w : World) (h0 : 0 ≤ l) (h1 : l ≤ 32) (ha : Bur.isA a = true) (hz : (a % Bur.sz l != 0) = false) :
    Calls Tryd.prog 44 #[pfx a l] w fun e w' => e = .returned (.int .i64 0) ∧ ∃ n, w' = (w.alloc (pcs a l)).drewN n := by
  obtain ⟨a0, a1⟩ := Bur.isA_true ha
  have hp := Bur.sz_pos l
  have hq := Bur.sz_le l h0
  go_enter Tryd.func44, Tryd.ntmps44
  go_wp2_with (go_at_call 14; refine (refIsAddr _ _).mono ?_; rintro e w' ⟨rfl, rfl⟩)
  go_quiet ((go_at_call 42; exact Calls.quiet_of_same (size_eq _ h0 h1 _)))
  go_wp2
  go_ret
  exact ⟨rfl, _, rfl⟩
theorem fault_in2 (a l : Int) (w : World) (h0 : 0 ≤ l) (h1 : l ≤ 32) (ha : Bur.isA a = true) (hz : (a % Bur.sz l != 0) = true) :
    Calls Tryd.prog 44 #[pfx a l] w fun e w' => e = .returned (.int .i64 2) ∧ ∃ n, w' = (w.alloc (pcs a l)).drewN n := by
  obtain ⟨a0, a1⟩ := Bur.isA_true ha
  have hp := Bur.sz_pos l
  have hq := Bur.sz_le l h0
  go_enter Tryd.func44, Tryd.ntmps44
  go_wp2_with (go_at_call 14; refine (refIsAddr _ _).mono ?_; rintro e w' ⟨rfl, rfl⟩)
  go_quiet ((go_at_call 42; exact Calls.quiet_of_same (size_eq _ h0 h1 _)))
  go_wp2
  go_ret
  exact ⟨rfl, _, rfl⟩
theorem refFault (a l : Int) (w : World) :
    Calls Tryd.prog 44 #[pfx a l] w fun e w' => e = .returned (.int .i64 (Bur.fault a l)) ∧ Below w.heap.size w w' := by
  rcases Bur.fault_cases a l with ⟨e, hr⟩ | ⟨e, h0, h1, ha, hz⟩ | ⟨e, h0, h1, ha, hz⟩
  · refine (fault_range a l w hr).mono ?_
    rintro e' w' ⟨rfl, rfl⟩
    exact ⟨by rw [e], below_box _ _ 0⟩
  · refine (fault_in2 a l w h0 h1 ha (by simp [hz])).mono ?_
    rintro e' w' ⟨rfl, n, rfl⟩
    exact ⟨by rw [e], below_box _ _ _⟩
  · refine (fault_in0 a l w h0 h1 ha (by simp [hz])).mono ?_
    rintro e' w' ⟨rfl, n, rfl⟩
    exact ⟨by rw [e], below_box _ _ _⟩

theorem lastOf (a l : Int) (w : World) (h0 : 0 ≤ l) (h1 : l ≤ 32) (ha : Bur.isA a = true) :
    Calls Tryd.prog 41 #[pfx a l] w fun e w' => e = .returned (.int .i64 (a + Bur.sz l - 1)) ∧ ∃ n, w' = (w.alloc (pcs a l)).drewN n := by
  obtain ⟨a0, a1⟩ := Bur.isA_true ha
  have hp := Bur.sz_pos l
  have hq := Bur.sz_le l h0
  go_enter Tryd.func41, Tryd.ntmps41
  go_wp2
  go_quiet ((go_at_call 42; exact Calls.quiet_of_same (size_eq _ h0 h1 _)))
  go_wp2
  go_ret
  exact ⟨rfl, _, rfl⟩
end Go.Proofs.YtfncclkmnkigoaaDoor
