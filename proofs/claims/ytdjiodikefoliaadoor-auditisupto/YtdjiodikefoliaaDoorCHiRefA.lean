/- The contracts of the reference's UsableOf, UsedFault, among and NextOf. -/
import Derived.Test.YtdjiodikefoliaaDoorCTrRefA
import Derived.Test.YtdjiodikefoliaaDoorCHsA
namespace Go.Proofs.YtdjiodikefoliaaDoor.Ha
open Go.RowKit

set_option maxHeartbeats 2000000 in
theorem usableOf (a l : Int) (w : World) (h : Bur.fault a l = 0) :
    Calls Tryd.prog 23 #[pfx a l] w fun e w' => e = .returned (pfx (Bur.usa (a, l)).1 (Bur.usa (a, l)).2) ∧ Below w.heap.size w w' := by
  obtain ⟨h0, h1, a0, a1, hz⟩ := Bur.fault_ok h
  have hp := Bur.sz_pos l
  have hq := Bur.sz_le l h0
  have hA := Bur.isA_mk a0 a1
  by_cases h31 : 30 < l
  · rw [show Bur.usa (a, l) = (a, a + Bur.sz l - 1) from by rw [Bur.usa, if_pos (by show 30 < l; omega)]]
    go_enter Tryd.func23, Tryd.ntmps23
    go_wp2_with fail
    go_region_with (go_at_call 15; refine (lastOf _ _ _ h0 h1 hA).mono ?_; rintro e w2 ⟨rfl, n, rfl⟩)
    all_goals
      go_wp2
      exact bodyPost_ret (v := pfx a (a + Bur.sz l - 1)) (by simp [results, Tryd.results23, go_sem]) rfl ⟨rfl, by repeat (first | exact below_self _ | refine below_al ?_ _ | refine Below.drew ?_ | refine below_drewN ?_ _ | refine Below.setCell ?_ (by simp) _)⟩
  · have hw1 : IntKind.i64.wrap (a + 1) = a + 1 := by simp [IntKind.wrap, IntKind.bits, IntKind.signed]; omega
    have hw2 : IntKind.i64.wrap (a + Bur.sz l - 1 - 1) = a + Bur.sz l - 1 - 1 := by simp [IntKind.wrap, IntKind.bits, IntKind.signed]; omega
    rw [show Bur.usa (a, l) = (a + 1, a + Bur.sz l - 1 - 1) from by rw [Bur.usa, if_neg (by show ¬ 30 < l; omega)]; show (a + 1, a + Bur.sz l - 2) = _; rw [show a + Bur.sz l - 2 = a + Bur.sz l - 1 - 1 from by omega]]
    go_enter Tryd.func23, Tryd.ntmps23
    go_wp2_with fail
    go_region_with (go_at_call 15; refine (lastOf _ _ _ h0 h1 hA).mono ?_; rintro e w2 ⟨rfl, n, rfl⟩)
    all_goals
      go_wp2
      exact bodyPost_ret (v := pfx (a + 1) (a + Bur.sz l - 1 - 1)) (by simp [results, Tryd.results23, go_sem]) rfl ⟨rfl, by repeat (first | exact below_self _ | refine below_al ?_ _ | refine Below.drew ?_ | refine below_drewN ?_ _ | refine Below.setCell ?_ (by simp) _)⟩

theorem among (x : Int) (u : List Int) (p : Option Addr) (n cap : Nat) (w : World) (hn : n = u.length) (hl : n ≤ 1000000) (hu : InAt w p u) :
    Calls Tryd.prog 24 #[.slice p n cap, .int .i64 x] w fun e w' => e = .returned (.bool (decide (x ∈ u))) ∧ w' = w := by
  subst hn
  obtain ⟨R, hR⟩ : ∃ R, R = decide (x ∈ u) := ⟨_, rfl⟩
  rw [← hR]
  go_enter Tryd.func24, Tryd.ntmps24
  go_wp2
  go_loopw [5] (fun i wr => ∃ (k : Nat), k ≤ u.length ∧ i = .int .i64 k ∧ Hid (R = decide (x ∈ u.drop k)) ∧ wr = w) (fun i _ => u.length - (intOf i).toNat)
  case atStart => exact ⟨0, by omega, rfl, hR, rfl⟩
  case round =>
    obtain ⟨k, hk, rfl, hM, hw⟩ := hrel
    subst hw
    by_cases hlt : k < u.length
    · have hlt' : (k : Int) < (u.length : Int) := by omega
      obtain ⟨b, off, rfl, hbl, hc⟩ := hu (by omega)
      have c0 := hc k hlt
      have hd : Hid (u.drop k = u.getD k 0 :: u.drop (k + 1)) := drop_int hlt
      obtain ⟨z, hz⟩ : ∃ z, z = u.getD k 0 := ⟨_, rfl⟩
      rw [← hz] at c0 hd
      clear hz hc hu hR
      cases he : (z == x)
      · have hM2 : Hid (R = decide (x ∈ u.drop (k + 1))) := by
          show _ = _
          have hne : ¬ x = z := fun g => by simp [g] at he
          rw [hM.out, hd.out]; simp [hne]
        clear hM hd
        go_wp2
        exact ⟨⟨k + 1, by omega, by go_num, hM2, trivial⟩, by simp [intOf]; omega⟩
      · have hM2 : Hid (R = true) := by
          show _ = _
          have hne : z = x := by simpa using he
          rw [hM.out, hd.out]; simp [hne]
        clear hM hd
        go_wp2
        go_ret
        exact ⟨by rw [hM2.out]; rfl, rfl⟩
    · have hM2 : Hid (R = false) := by
        show _ = _
        rw [hM.out, List.drop_eq_nil_of_le (by omega)]; simp
      clear hM hu hR
      go_wp2
      go_ret
      exact ⟨by rw [hM2.out]; rfl, rfl⟩

end Go.Proofs.YtdjiodikefoliaaDoor.Ha
