/- The contracts of addr's Both at one address twice, of tree's Find. -/
import Derived.Test.YtncimpicnhleeaaDoorTrWalkF
namespace Go.Proofs.YtncimpicnhleeaaDoor
open Go.RowKit

theorem len64_0 (w : World) : Calls Tryd.prog 64 #[.int .u64 0] w fun e w' => e = .returned (.int .i64 0) ∧ w' = w := by
  go_enter Tryd.func64, Tryd.ntmps64
  go_wp2
  go_ret
  exact ⟨ret_int (by rw [show Lib.len8 0 = 0 from by kernel_rfl, IntWalk.wrap64_in 0 (by omega), IntWalk.wrap64_in 0 (by omega)]), rfl⟩
theorem len_0 (w : World) : Calls Tryd.prog 52 #[.int .u64 0] w fun e w' => e = .returned (.int .i64 0) ∧ w' = w := by
  go_enter Tryd.func52, Tryd.ntmps52
  go_wp2_with (go_at_call 64; refine (len64_0 _).mono ?_; rintro e w' ⟨rfl, rfl⟩)
  go_ret
  exact ⟨rfl, rfl⟩
theorem both_no (a : Int) (w : World) (h : Bur.isA a = false) :
    Calls Tryd.prog 35 #[.int .i64 a, .int .i64 a] w fun e w' => e = .returned (.tuple #[pfx 0 0, errN 1]) ∧ Below w.heap.size w w' := by
  go_enter Tryd.func35, Tryd.ntmps35
  go_wp2_with (go_at_call 44; refine (isAddress _ _).mono ?_; rintro e w' ⟨rfl, rfl⟩)
  exact bodyPost_ret (v := .tuple #[pfx 0 0, errN 1]) (by simp [results, Tryd.results35, go_sem]) rfl ⟨rfl, below_al (below_self _) _⟩
theorem both_ok (a : Int) (w : World) (ha : Bur.isA a = true) :
    Calls Tryd.prog 35 #[.int .i64 a, .int .i64 a] w fun e w' => e = .returned (.tuple #[pfx a 32, .nilIface]) ∧ Below w.heap.size w w' := by
  obtain ⟨a0, a1⟩ := Bur.isA_true ha
  have hx : bits .xor .i64 a a = 0 := by
    obtain ⟨A, rfl⟩ := Int.eq_ofNat_of_zero_le a0
    have := Bur.i64_xor_nat A A (by omega) (by omega)
    rw [Nat.xor_self] at this
    exact this
  have hc : Hid (a - a % Bur.sz 32 = a) := by show _ = _; rw [Bur.sz_32]; omega
  go_enter Tryd.func35, Tryd.ntmps35
  go_wp2_with (first | (go_at_call 44; refine (isAddress _ _).mono ?_; rintro e w' ⟨rfl, rfl⟩) | (go_at_call 52; refine (len_0 _).mono ?_; rintro e w' ⟨rfl, rfl⟩) | (go_at_call 51; refine (cut _ _ _ ha (by omega) (by omega)).mono ?_; rintro e w' ⟨rfl, rfl⟩))
  rw [hc.out]
  exact bodyPost_ret (v := .tuple #[pfx a 32, .nilIface]) (by simp [results, Tryd.results35, go_sem]) rfl ⟨rfl, below_al (below_al (below_self _) _) _⟩

set_option maxHeartbeats 1000000 in
theorem find1 (q : Bur.Sp) (a : Int) (b : Nat) (w : World) (hq : Bur.OkP q) (ha : Bur.isA a = true) (h : PfAt w b (a, 32)) : Calls Tryd.prog 36 #[pfx q.1 q.2, .pointer (some ⟨b, 0, none⟩)] w fun e w' => e = .returned (.bool (Bur.hs q a)) ∧ Below w.heap.size w w' := by
  obtain ⟨x, y⟩ := q
  obtain ⟨h0, h1, h2⟩ := h
  have hm := eqGuard_pfx
  have E := fun w => eqPfx x y a 32 w
  have K : Hid (Bur.hs (x, y) a = (Bur.sm (x, y) (a, 32) || Bur.und (a, 32) (x, y))) := (Bur.has_keep a (x, y)).symm
  have hU := fun w => under (a, 32) (x, y) w (Bur.ok32 ha) hq
  obtain ⟨s, hs⟩ : ∃ s, Bur.sm (x, y) (a, 32) = s := ⟨_, rfl⟩
  obtain ⟨u, hu⟩ : ∃ u, Bur.und (a, 32) (x, y) = u := ⟨_, rfl⟩
  rw [hs, hu] at K
  rw [hu] at hU
  rw [hs] at E
  clear hs hu hq ha
  cases s
  · go_enter Tryd.func36, Tryd.ntmps36
    go_wp2_with fail
    refine (hU _).mono ?_
    rintro e w1 ⟨rfl, hb1⟩
    have hb2 := below_via (below_al (below_self w) _) hb1
    clear hb1
    go_wp2
    go_ret
    exact ⟨by rw [K.out]; rfl, hb2⟩
  · go_enter Tryd.func36, Tryd.ntmps36
    go_wp2_with fail
    go_ret
    exact ⟨by rw [K.out]; rfl, below_al (below_self w) _⟩

set_option maxHeartbeats 2000000 in
theorem find_any (q : Option Addr) (cap : Nat) (l : List Bur.Sp) (a : Int) (w : World) (hl : l.length ≤ 9223372036854775807) (hs : SpAt w q l) :
    Calls Tryd.prog 15 #[.slice q l.length cap, .int .i64 a] w fun e w' => e = .returned (.tuple #[pfx (Bur.fndS l a).1 (Bur.fndS l a).2, ev (Bur.fndF l a)]) ∧ Below w.heap.size w w' := by
  by_cases h : Bur.treF l = 0
  rotate_left
  · have F : Bur.fndF l a = Bur.treF l := if_neg h
    have E0 : Hid (ev (Bur.treF l) = errN (Bur.treF l)) := if_neg h
    rw [show Bur.fndS l a = (0, 0) from if_neg (by rw [F]; exact h), F, E0.out]
    clear h F
    go_enter Tryd.func15, Tryd.ntmps15
    go_wp2_with fail
    refine (tcheck q cap l _ hl (hs.alloc _)).mono ?_
    rintro e w1 ⟨rfl, hb1⟩
    rw [E0.out]
    have hc0 : w1.cell? ⟨w.heap.size, 0, none⟩ = some (.int .i64 0) := (hb1.cell (p := ⟨w.heap.size, 0, none⟩) (by simp)).trans (by go_simp)
    have hc1 : w1.cell? ⟨w.heap.size, 1, none⟩ = some (.int .i64 0) := (hb1.cell (p := ⟨w.heap.size, 1, none⟩) (by simp)).trans (by go_simp)
    have hf0 : w1.frozen? ⟨w.heap.size, 0, none⟩ = false := (hb1.frozen (p := ⟨w.heap.size, 0, none⟩) (by simp)).trans (by go_simp)
    have hf1 : w1.frozen? ⟨w.heap.size, 1, none⟩ = false := (hb1.frozen (p := ⟨w.heap.size, 1, none⟩) (by simp)).trans (by go_simp)
    have hb2 := below_via (below_al (below_self w) _) hb1
    clear hb1 hs
    go_wp2
    exact bodyPost_ret (v := .tuple #[pfx 0 0, errN (Bur.treF l)]) (by simp [results, Tryd.results15, go_sem, hc0, hc1]) rfl ⟨rfl, (hb2.setCell (by simp) _).setCell (by simp) _⟩
  have E0 : Hid (ev (Bur.treF l) = .nilIface) := by show _ = _; rw [h]; rfl
  obtain ⟨o1, o2⟩ := Bur.treF_ok h
  have F : Bur.fndF l a = if Bur.isA a = true then (if (Bur.fnd a none l).isSome = true then 0 else 4) else 1 := if_pos h
  cases ha : Bur.isA a
  · have F' : Bur.fndF l a = 1 := by rw [F, ha]; rfl
    rw [show Bur.fndS l a = (0, 0) from if_neg (by rw [F']; decide), F']
    clear h F F' o2
    go_enter Tryd.func15, Tryd.ntmps15
    go_wp2_with fail
    refine (tcheck q cap l _ hl (hs.alloc _)).mono ?_
    rintro e w1 ⟨rfl, hb1⟩
    rw [E0.out]
    have hc0 : w1.cell? ⟨w.heap.size, 0, none⟩ = some (.int .i64 0) := (hb1.cell (p := ⟨w.heap.size, 0, none⟩) (by simp)).trans (by go_simp)
    have hc1 : w1.cell? ⟨w.heap.size, 1, none⟩ = some (.int .i64 0) := (hb1.cell (p := ⟨w.heap.size, 1, none⟩) (by simp)).trans (by go_simp)
    have hf0 : w1.frozen? ⟨w.heap.size, 0, none⟩ = false := (hb1.frozen (p := ⟨w.heap.size, 0, none⟩) (by simp)).trans (by go_simp)
    have hf1 : w1.frozen? ⟨w.heap.size, 1, none⟩ = false := (hb1.frozen (p := ⟨w.heap.size, 1, none⟩) (by simp)).trans (by go_simp)
    have hb2 := below_via (below_al (below_self w) _) hb1
    have hlt : w.heap.size < w1.heap.size := Nat.lt_of_lt_of_le (by simp) hb1.size
    clear hb1 hs
    go_wp2_with fail
    refine (both_no a w1 ha).mono ?_
    rintro e w2 ⟨rfl, hb3⟩
    have hd0 := (hb3.cell (p := ⟨w.heap.size, 0, none⟩) hlt).trans hc0
    have hd1 := (hb3.cell (p := ⟨w.heap.size, 1, none⟩) hlt).trans hc1
    have hg0 := (hb3.frozen (p := ⟨w.heap.size, 0, none⟩) hlt).trans hf0
    have hg1 := (hb3.frozen (p := ⟨w.heap.size, 1, none⟩) hlt).trans hf1
    have hlt2 : w.heap.size < w2.heap.size := Nat.lt_of_lt_of_le hlt hb3.size
    have hb4 := below_via hb2 hb3
    have hne : ¬ (w.heap.size = w2.heap.size) := by omega
    clear hb3 hb2 hc0 hc1 hf0 hf1
    go_wp2
    exact bodyPost_ret (v := .tuple #[pfx 0 0, errN 1]) (by simp [results, Tryd.results15, go_sem, hd0, hd1, hlt2]) rfl ⟨rfl, below_al ((hb4.setCell (Nat.le_refl _) _).setCell (Nat.le_refl _) _) _⟩
  have HKP := Bur.fnd_keep o2 a
  obtain ⟨H, hH⟩ : ∃ H, Hid (l.filter (fun q => Bur.hs q a) = H) := ⟨_, rfl⟩
  have hHl : H.length ≤ 60 := by rw [← hH.out]; exact Nat.le_trans (List.length_filter_le _ _) o1
  rw [hH.out] at HKP
  cases H with
  | nil =>
    have F' : Bur.fndF l a = 4 := by rw [F, ha, HKP]; rfl
    rw [show Bur.fndS l a = (0, 0) from if_neg (by rw [F']; decide), F']
    clear h F F' HKP
    go_enter Tryd.func15, Tryd.ntmps15
    go_wp2_with fail
    refine (tcheck q cap l _ hl (hs.alloc _)).mono ?_
    rintro e w1 ⟨rfl, hb1⟩
    rw [E0.out]
    have hc0 : w1.cell? ⟨w.heap.size, 0, none⟩ = some (.int .i64 0) := (hb1.cell (p := ⟨w.heap.size, 0, none⟩) (by simp)).trans (by go_simp)
    have hc1 : w1.cell? ⟨w.heap.size, 1, none⟩ = some (.int .i64 0) := (hb1.cell (p := ⟨w.heap.size, 1, none⟩) (by simp)).trans (by go_simp)
    have hf0 : w1.frozen? ⟨w.heap.size, 0, none⟩ = false := (hb1.frozen (p := ⟨w.heap.size, 0, none⟩) (by simp)).trans (by go_simp)
    have hf1 : w1.frozen? ⟨w.heap.size, 1, none⟩ = false := (hb1.frozen (p := ⟨w.heap.size, 1, none⟩) (by simp)).trans (by go_simp)
    have hb2 := below_via (below_al (below_self w) _) hb1
    have hlt : w.heap.size < w1.heap.size := Nat.lt_of_lt_of_le (by simp) hb1.size
    have hs1 := (hs.alloc _).step hb1
    clear hb1 hs
    go_wp2_with fail
    refine (both_ok a w1 ha).mono ?_
    rintro e w2 ⟨rfl, hb3⟩
    have hlt2 : w.heap.size < w2.heap.size := Nat.lt_of_lt_of_le hlt hb3.size
    have hb4 := below_via hb2 hb3
    have hd0 := (hb3.cell (p := ⟨w.heap.size, 0, none⟩) hlt).trans hc0
    have hd1 := (hb3.cell (p := ⟨w.heap.size, 1, none⟩) hlt).trans hc1
    have hg0 := (hb3.frozen (p := ⟨w.heap.size, 0, none⟩) hlt).trans hf0
    have hg1 := (hb3.frozen (p := ⟨w.heap.size, 1, none⟩) hlt).trans hf1
    have hn := PfAt.new w2 a 32
    have HK := keepL 36 #[.pointer (some ⟨w2.heap.size, 0, none⟩)] (enters_of Tryd.func36 (by kernel_rfl) rfl) (fun q => Bur.hs q a) q cap l (w2.alloc (.cells #[.int .i64 a, .int .i64 32] 24)) (by omega) ((hs1.step hb3).alloc _) (fun i w1 hi hb => find1 _ _ _ w1 (ok_at o2.2 hi) ha (hn.step hb))
    rw [hH.out] at HK
    clear hb3 hb2 hc0 hc1 hf0 hf1 hn o2 hs1
    go_wp2_with fail
    refine HK.mono ?_
    rintro e w3 ⟨p', cap', rfl, hp', hb5⟩
    have he0 : w3.cell? ⟨w.heap.size, 0, none⟩ = some (.int .i64 0) := (hb5.cell (p := ⟨w.heap.size, 0, none⟩) (by simp; omega)).trans ((World.cell?_alloc_lt _ _ _ hlt2).trans hd0)
    have he1 : w3.cell? ⟨w.heap.size, 1, none⟩ = some (.int .i64 0) := (hb5.cell (p := ⟨w.heap.size, 1, none⟩) (by simp; omega)).trans ((World.cell?_alloc_lt _ _ _ hlt2).trans hd1)
    have hi0 : w3.frozen? ⟨w.heap.size, 0, none⟩ = false := (hb5.frozen (p := ⟨w.heap.size, 0, none⟩) (by simp; omega)).trans (by go_simp)
    have hi1 : w3.frozen? ⟨w.heap.size, 1, none⟩ = false := (hb5.frozen (p := ⟨w.heap.size, 1, none⟩) (by simp; omega)).trans (by go_simp)
    have hb6 := below_via (below_al hb4 _) hb5
    clear hb5 hb4 hd0 hd1 hg0 hg1 hp'
    go_wp2
    exact bodyPost_ret (v := .tuple #[pfx 0 0, errN 4]) (by simp [results, Tryd.results15, go_sem, he0, he1]) rfl ⟨rfl, (hb6.setCell (Nat.le_refl _) _).setCell (Nat.le_refl _) _⟩
  | cons s r =>
    obtain ⟨H, hHH⟩ : ∃ H, s :: r = H := ⟨_, rfl⟩
    have hpos : 0 < H.length := by rw [← hHH]; simp
    rw [hHH] at hH hHl HKP
    clear hHH
    obtain ⟨j, hj⟩ : ∃ j, H.length = j + 1 := ⟨H.length - 1, by omega⟩
    have hS : Bur.fndS l a = (lo H j, hi H j) ∧ Bur.fndF l a = 0 := by
      have e1 : H.getLast? = some (lo H j, hi H j) := by
        rw [List.getLast?_eq_getElem?, show H.length - 1 = j from by omega]
        simp [lo, hi, List.getD, List.getElem?_eq_getElem (show j < H.length by omega)]
      rw [e1] at HKP
      have F' : Bur.fndF l a = 0 := by rw [F, ha, HKP]; rfl
      refine ⟨?_, F'⟩
      unfold Bur.fndS
      rw [if_pos F', HKP]
      rfl
    rw [hS.1, hS.2, ev_0]
    clear h F HKP hS
    go_enter Tryd.func15, Tryd.ntmps15
    go_wp2_with fail
    refine (tcheck q cap l _ hl (hs.alloc _)).mono ?_
    rintro e w1 ⟨rfl, hb1⟩
    rw [E0.out]
    have hc0 : w1.cell? ⟨w.heap.size, 0, none⟩ = some (.int .i64 0) := (hb1.cell (p := ⟨w.heap.size, 0, none⟩) (by simp)).trans (by go_simp)
    have hc1 : w1.cell? ⟨w.heap.size, 1, none⟩ = some (.int .i64 0) := (hb1.cell (p := ⟨w.heap.size, 1, none⟩) (by simp)).trans (by go_simp)
    have hf0 : w1.frozen? ⟨w.heap.size, 0, none⟩ = false := (hb1.frozen (p := ⟨w.heap.size, 0, none⟩) (by simp)).trans (by go_simp)
    have hf1 : w1.frozen? ⟨w.heap.size, 1, none⟩ = false := (hb1.frozen (p := ⟨w.heap.size, 1, none⟩) (by simp)).trans (by go_simp)
    have hb2 := below_via (below_al (below_self w) _) hb1
    have hlt : w.heap.size < w1.heap.size := Nat.lt_of_lt_of_le (by simp) hb1.size
    have hs1 := (hs.alloc _).step hb1
    clear hb1 hs
    go_wp2_with fail
    refine (both_ok a w1 ha).mono ?_
    rintro e w2 ⟨rfl, hb3⟩
    have hlt2 : w.heap.size < w2.heap.size := Nat.lt_of_lt_of_le hlt hb3.size
    have hb4 := below_via hb2 hb3
    have hd0 := (hb3.cell (p := ⟨w.heap.size, 0, none⟩) hlt).trans hc0
    have hd1 := (hb3.cell (p := ⟨w.heap.size, 1, none⟩) hlt).trans hc1
    have hg0 := (hb3.frozen (p := ⟨w.heap.size, 0, none⟩) hlt).trans hf0
    have hg1 := (hb3.frozen (p := ⟨w.heap.size, 1, none⟩) hlt).trans hf1
    have hn := PfAt.new w2 a 32
    have HK := keepL 36 #[.pointer (some ⟨w2.heap.size, 0, none⟩)] (enters_of Tryd.func36 (by kernel_rfl) rfl) (fun q => Bur.hs q a) q cap l (w2.alloc (.cells #[.int .i64 a, .int .i64 32] 24)) (by omega) ((hs1.step hb3).alloc _) (fun i w1 hi hb => find1 _ _ _ w1 (ok_at o2.2 hi) ha (hn.step hb))
    rw [hH.out] at HK
    clear hb3 hb2 hc0 hc1 hf0 hf1 hn o2 hs1 hH
    go_wp2_with fail
    refine HK.mono ?_
    rintro e w3 ⟨p', cap', rfl, hp', hb5⟩
    have he0 : w3.cell? ⟨w.heap.size, 0, none⟩ = some (.int .i64 0) := (hb5.cell (p := ⟨w.heap.size, 0, none⟩) (by simp; omega)).trans ((World.cell?_alloc_lt _ _ _ hlt2).trans hd0)
    have he1 : w3.cell? ⟨w.heap.size, 1, none⟩ = some (.int .i64 0) := (hb5.cell (p := ⟨w.heap.size, 1, none⟩) (by simp; omega)).trans ((World.cell?_alloc_lt _ _ _ hlt2).trans hd1)
    have hi0 : w3.frozen? ⟨w.heap.size, 0, none⟩ = false := (hb5.frozen (p := ⟨w.heap.size, 0, none⟩) (by simp; omega)).trans (by go_simp)
    have hi1 : w3.frozen? ⟨w.heap.size, 1, none⟩ = false := (hb5.frozen (p := ⟨w.heap.size, 1, none⟩) (by simp; omega)).trans (by go_simp)
    have hb6 := below_via (below_al hb4 _) hb5
    obtain ⟨b, off, rfl, hbl, hc⟩ := hp' (by omega)
    obtain ⟨k0, k1⟩ := hc j (by omega)
    have hne : ((H.length : Int) == 0) = false := beq_false_of_ne (by omega)
    have hj1 : IntKind.i64.wrap ((H.length : Int) - 1) = (j : Int) := by rw [Bur.wrap_i64_id _ (by omega) (by omega)]; omega
    have hj2 : (0 : Int) ≤ (j : Int) := by omega
    have hj3 : (j : Int) < (H.length : Int) := by omega
    obtain ⟨u, hu⟩ : ∃ u, lo H j = u := ⟨_, rfl⟩
    obtain ⟨v, hv⟩ : ∃ v, hi H j = v := ⟨_, rfl⟩
    rw [hu] at k0
    rw [hv] at k1
    have HU : Hid _ := hu
    have HV : Hid _ := hv
    clear hb5 hb4 hd0 hd1 hg0 hg1 hp' hc hj hpos hHl hu hv
    go_wp2
    exact bodyPost_ret (v := .tuple #[pfx u v, .nilIface]) (by simp [results, Tryd.results15, go_sem, he0, he1]) rfl ⟨by rw [HU.out, HV.out], (hb6.setCell (Nat.le_refl _) _).setCell (Nat.le_refl _) _⟩
end Go.Proofs.YtncimpicnhleeaaDoor
