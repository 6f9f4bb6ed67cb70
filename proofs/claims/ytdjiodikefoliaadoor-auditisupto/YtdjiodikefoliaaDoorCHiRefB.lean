/- The contracts of the reference's NextOf and ShareOf. -/
import Derived.Test.YtdjiodikefoliaaDoorCHiRefA
namespace Bur
theorem shr_step (lo hi x : Int) (u : List Int) (k : Nat) (h : k < u.length) (hx : x = u.getD k 0) : shr lo hi (u.take k) (u.drop k) = (if lo ≤ x ∧ x ≤ hi ∧ x ∉ u.take k then 1 else 0) + shr lo hi (u.take (k + 1)) (u.drop (k + 1)) := by
  have e1 : u.drop k = x :: u.drop (k + 1) := by
    rw [List.drop_eq_getElem_cons h, hx]
    simp only [List.getD, List.getElem?_eq_getElem h, Option.getD_some]
  have e2 : u.take (k + 1) = u.take k ++ [x] := by
    rw [List.take_add_one, hx]
    simp [List.getD, List.getElem?_eq_getElem h]
  rw [e1, shr, e2]
end Bur
namespace Go.Proofs.YtdjiodikefoliaaDoor.Ha
open Go.RowKit

theorem InAt.take {w : World} {p : Option Addr} {u : List Int} (h : InAt w p u) (k : Nat) (hk : k ≤ u.length) : InAt w p (u.take k) := by
  intro hl
  have hl2 : 0 < k := by simp at hl; omega
  obtain ⟨b, off, rfl, hlt, hc⟩ := h (by omega)
  refine ⟨b, off, rfl, hlt, fun i hi => ?_⟩
  have hik : i < k := by simp at hi; omega
  rw [hc i (by omega)]
  simp [List.getD, List.getElem?_take_of_lt hik]

set_option maxHeartbeats 2000000 in
theorem shareOf (a l : Int) (u : List Int) (p : Option Addr) (cap : Nat) (w : World) (h : Bur.fault a l = 0) (hl : u.length ≤ 1000000) (hcap : u.length ≤ cap) (hu : InAt w p u) :
    Calls Tryd.prog 11 #[pfx a l, .slice p u.length cap] w fun e w' => e = .returned (.tuple #[.int .i64 (Bur.shp (a, l) u), .int .i64 (Bur.alp (a, l))]) ∧ Below w.heap.size w w' := by
  have hbA := below_al (below_self w) (.cells #[.int .i64 a, .int .i64 l] 24)
  have hin := Bur.usa_in (p := (a, l)) h
  have K := fun W => usableOf a l W h
  unfold Bur.shp Bur.alp
  obtain ⟨x, hx⟩ : ∃ x, x = (Bur.usa (a, l)).1 := ⟨_, rfl⟩
  obtain ⟨y, hy⟩ : ∃ y, y = (Bur.usa (a, l)).2 := ⟨_, rfl⟩
  rw [← hx, ← hy] at hin K ⊢
  obtain ⟨N, hNN⟩ : ∃ N, N = Bur.shr x y [] u := ⟨_, rfl⟩
  rw [← hNN]
  replace hNN : Hid _ := hNN
  clear hx hy h
  go_enter Tryd.func11, Tryd.ntmps11
  go_wp2_with fail
  refine (K _).mono ?_
  rintro e w1 ⟨rfl, hb1⟩
  have hb2 := below_al (below_via hbA hb1) (.cells #[.int .i64 x, .int .i64 y] 64)
  have bs := Bx.new w1 64 x y
  replace hu := hu.step hb2
  clear hbA K hb1
  go_wp2
  obtain ⟨w2, hw2⟩ : ∃ w2, w2 = w1.alloc (.cells #[.int .i64 x, .int .i64 y] 64) := ⟨_, rfl⟩
  rw [← hw2] at hb2 hu bs ⊢
  clear hw2
  go_loopw [7, 8] (fun s i wr => ∃ (k : Nat) (n : Int), k ≤ u.length ∧ i = .int .i64 k ∧ s = .int .i64 n ∧ 0 ≤ n ∧ n ≤ k ∧ Hid (N = n + Bur.shr x y (u.take k) (u.drop k)) ∧ Below w2.heap.size w2 wr) (fun _ i _ => u.length - (intOf i).toNat)
  case atStart => exact ⟨0, 0, by omega, rfl, rfl, by omega, by omega, by show _ = _; rw [hNN.out]; simp, below_self _⟩
  case round =>
    obtain ⟨k, n, hk, rfl, rfl, hn0, hn1, hM, hb⟩ := hrel
    obtain ⟨s0, s1, _, _⟩ := bs.step hb
    by_cases hlt : k < u.length
    · have hlt' : (k : Int) < (u.length : Int) := by omega
      have hur := hu.step hb
      obtain ⟨b, off, rfl, hbl, hc⟩ := hur (by omega)
      have c0 := hc k hlt
      obtain ⟨z, hz⟩ : ∃ z, z = u.getD k 0 := ⟨_, rfl⟩
      rw [← hz] at c0
      have hst : Hid _ := Bur.shr_step x y z u k hlt hz
      have KA := fun W (hW : InAt W (some ⟨b, off, none⟩) (u.take k)) => among z (u.take k) (some ⟨b, off, none⟩) k cap W (by simp; omega) (by omega) hW
      have hT := InAt.take hur k (by omega)
      clear hz hc hNN bs hur
      have hz0 : Hid (¬ (x ≤ z ∧ z ≤ y ∧ z ∉ u.take k) → N = n + Bur.shr x y (u.take (k + 1)) (u.drop (k + 1))) := fun g => by
        rw [hM.out, hst.out, if_neg g]; omega
      have hz1 : Hid (x ≤ z ∧ z ≤ y ∧ z ∉ u.take k → N = n + 1 + Bur.shr x y (u.take (k + 1)) (u.drop (k + 1))) := fun g => by
        rw [hM.out, hst.out, if_pos g]; omega
      clear hM hst
      by_cases h1 : x ≤ z
      · have d1 : decide (x ≤ z) = true := by simpa using h1
        by_cases h2 : z ≤ y
        · have d2 : decide (z ≤ y) = true := by simpa using h2
          cases hm : decide (z ∈ u.take k)
          · have R : Hid _ := hz1.out ⟨h1, h2, by simpa using hm⟩
            rw [hm] at KA
            clear hz0 hz1 hm
            go_wp2_with fail
            go_quiet ((go_at_call 24; exact Calls.quiet_of_same (KA _ hT)))
            clear KA hT
            go_wp2
            go_quiet (fail)
            go_wp2
            exact ⟨⟨k + 1, n + 1, by omega, by go_num, rfl, by omega, by omega, R, below_drewN hb _⟩, by simp [intOf]; omega⟩
          · have R : Hid _ := hz0.out (fun g => g.2.2 (by simpa using hm))
            rw [hm] at KA
            clear hz0 hz1 hm
            go_wp2_with fail
            go_quiet ((go_at_call 24; exact Calls.quiet_of_same (KA _ hT)))
            clear KA hT
            go_wp2
            go_quiet (fail)
            go_wp2
            exact ⟨⟨k + 1, n, by omega, by go_num, rfl, by omega, by omega, R, below_drewN hb _⟩, by simp [intOf]; omega⟩
        · have d2 : decide (z ≤ y) = false := by simpa using h2
          have R : Hid _ := hz0.out (fun g => h2 g.2.1)
          clear hz0 hz1
          obtain ⟨B, hB⟩ : ∃ B, B = decide (z ∈ u.take k) := ⟨_, rfl⟩
          rw [← hB] at KA
          clear hB
          go_wp2_with fail
          go_quiet ((go_at_call 24; exact Calls.quiet_of_same (KA _ hT)))
          clear KA hT
          go_wp2
          go_quiet (fail)
          go_wp2
          exact ⟨⟨k + 1, n, by omega, by go_num, rfl, by omega, by omega, R, below_drewN hb _⟩, by simp [intOf]; omega⟩
      · have d1 : decide (x ≤ z) = false := by simpa using h1
        have R : Hid _ := hz0.out (fun g => h1 g.1)
        clear hz0 hz1
        obtain ⟨B, hB⟩ : ∃ B, B = decide (z ∈ u.take k) := ⟨_, rfl⟩
        rw [← hB] at KA
        clear hB
        go_wp2_with fail
        go_quiet ((go_at_call 24; exact Calls.quiet_of_same (KA _ hT)))
        clear KA hT
        go_wp2
        go_quiet (fail)
        go_wp2
        exact ⟨⟨k + 1, n, by omega, by go_num, rfl, by omega, by omega, R, below_drewN hb _⟩, by simp [intOf]; omega⟩
    · have hE : Hid (N = n) := by
        show _ = _
        rw [hM.out, List.drop_eq_nil_of_le (by omega)]; simp [Bur.shr]
      clear hM hNN hu
      go_wp2
      go_quiet (fail)
      go_wp2
      go_ret2
      exact ⟨by rw [hE.out]; rfl, below_drewN (below_via hb2 hb) _⟩
end Go.Proofs.YtdjiodikefoliaaDoor.Ha
