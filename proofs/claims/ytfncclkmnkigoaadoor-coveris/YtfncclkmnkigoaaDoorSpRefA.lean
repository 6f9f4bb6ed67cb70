/- The contracts of the reference's SpanFault, SetFault and inside. -/
import Derived.Test.YtfncclkmnkigoaaDoorAdIsA
import Derived.Test.YtfncclkmnkigoaaDoorSpWalkE
namespace Go.Proofs.YtfncclkmnkigoaaDoor
open Go.RowKit

set_option maxHeartbeats 1000000 in
theorem refSpanFault (a b : Int) (w : World) : Calls Tryd.prog 6 #[pfx a b] w fun e w' => e = .returned (.int .i64 (Bur.spF a b)) ∧ Below w.heap.size w w' := by
  have hb0 : Below w.heap.size w (w.alloc (scs a b)) := below_al (below_self _) _
  cases h1 : Bur.isA a
  · have E : Bur.spF a b = 1 := by simp [Bur.spF, h1]
    rw [E]
    go_enter Tryd.func6, Tryd.ntmps6
    go_wp2_with (go_at_call 14; refine (refIsAddr _ _).mono ?_; rintro e w' ⟨rfl, rfl⟩)
    go_ret
    exact ⟨rfl, hb0⟩
  · cases h2 : Bur.isA b
    · have E : Bur.spF a b = 1 := by simp [Bur.spF, h2]
      rw [E]
      go_enter Tryd.func6, Tryd.ntmps6
      go_wp2_with (go_at_call 14; refine (refIsAddr _ _).mono ?_; rintro e w' ⟨rfl, rfl⟩)
      go_ret
      exact ⟨rfl, hb0⟩
    · by_cases h3 : b < a
      · have E : Bur.spF a b = 2 := by simp [Bur.spF, h1, h2, h3]
        rw [E]
        go_enter Tryd.func6, Tryd.ntmps6
        go_wp2_with (go_at_call 14; refine (refIsAddr _ _).mono ?_; rintro e w' ⟨rfl, rfl⟩)
        go_ret
        exact ⟨rfl, hb0⟩
      · have E : Bur.spF a b = 0 := by simp [Bur.spF, h1, h2, h3]
        rw [E]
        go_enter Tryd.func6, Tryd.ntmps6
        go_wp2_with (go_at_call 14; refine (refIsAddr _ _).mono ?_; rintro e w' ⟨rfl, rfl⟩)
        go_ret
        exact ⟨rfl, hb0⟩

set_option maxHeartbeats 4000000 in
theorem refSetFault (p : Option Addr) (cap : Nat) (l : List Bur.Sp) (w : World) (hl : l.length ≤ 9223372036854775807) (hs : SpAt w p l) : Calls Tryd.prog 11 #[.slice p l.length cap] w fun e w' => e = .returned (.int .i64 (Bur.setF l)) ∧ Below w.heap.size w w' := by
  by_cases h64 : 64 < l.length
  · have E : Bur.setF l = 3 := if_pos h64
    rw [E]
    go_enter Tryd.func11, Tryd.ntmps11
    go_wp2
    go_ret
    exact ⟨rfl, below_self _⟩
  have E : Bur.setF l = Bur.stF (-2) l := if_neg h64
  rw [E]
  clear E
  go_enter Tryd.func11, Tryd.ntmps11
  go_wp2
  go_loopw [3] (fun i wr => ∃ k : Nat, k ≤ l.length ∧ i = .int .i64 k ∧ Hid (Bur.stF (-2) l = Bur.stF (prv l k) (l.drop k)) ∧ Hid (0 < k → Bur.isA (hi l (k - 1)) = true) ∧ Below w.heap.size w wr) (fun i _ => l.length - (intOf i).toNat)
  case atStart => exact ⟨0, by omega, rfl, rfl, fun h => by omega, below_self _⟩
  case round =>
    obtain ⟨k, hk, rfl, R, hA, hb⟩ := hrel
    by_cases hlt : k < l.length
    · have hlt' : (k : Int) < (l.length : Int) := by omega
      obtain ⟨b, off, rfl, hbl, hc⟩ := hs (by omega)
      have hcb := bcell hb
      have c0 : wr.cell? ⟨b, off + k * 2, none⟩ = some (.int .i64 (lo l k)) := (hcb.1 _ _ hbl).trans (hc k hlt).1
      have c1 : wr.cell? ⟨b, off + k * 2 + 1, none⟩ = some (.int .i64 (hi l k)) := (hcb.1 _ _ hbl).trans (hc k hlt).2
      have S : Hid _ := stF_at (h := prv l k) hlt
      have hsz := hb.size
      by_cases hf : Bur.spF (lo l k) (hi l k) = 0
      · have ok := Bur.spF_ok hf
        have hev : Hid (Bur.spF (lo l k) (hi l k) = 0) := hf
        have A2 : Hid (0 < k + 1 → Bur.isA (hi l (k + 1 - 1)) = true) := fun _ => Bur.isA_mk (by simp only [Nat.add_sub_cancel]; omega) (by simp only [Nat.add_sub_cancel]; omega)
        by_cases hk0 : 0 < k
        · have cp : wr.cell? ⟨b, off + (k - 1) * 2 + 1, none⟩ = some (.int .i64 (hi l (k - 1))) := (hcb.1 _ _ hbl).trans (hc (k - 1) (by omega)).2
          have hp := Bur.isA_true (hA.out hk0)
          have hg : decide ((0 : Int) < (k : Int)) = true := by simp; omega
          have eP : prv l k = hi l (k - 1) := if_neg (by omega)
          cases hd : decide (lo l k - hi l (k - 1) < 2)
          · have S2 : Hid (Bur.stF (-2) l = Bur.stF (prv l (k + 1)) (l.drop (k + 1))) := by
              show _ = _
              rw [R.out, S.out, if_pos hf, if_neg (by rw [eP]; simp at hd; omega)]
              rfl
            clear S hf hc hcb hs R hA eP
            go_wp2_with (go_at_call 6; refine (refSpanFault _ _ _).mono ?_; rintro e w1 ⟨rfl, hb1⟩; rw [hev.out]; have hb2 : Below w.heap.size w w1 := below_via hb hb1; have d0 : w1.cell? ⟨b, off + k * 2, none⟩ = some (.int .i64 (lo l k)) := (hb1.cell (p := ⟨b, off + k * 2, none⟩) (by simp; omega)).trans c0; have d1 : w1.cell? ⟨b, off + (k - 1) * 2 + 1, none⟩ = some (.int .i64 (hi l (k - 1))) := (hb1.cell (p := ⟨b, off + (k - 1) * 2 + 1, none⟩) (by simp; omega)).trans cp; clear hb1)
            go_quiet (fail)
            go_wp2
            exact ⟨⟨k + 1, by omega, by go_num, S2, A2, below_drewN hb2 _⟩, by simp [intOf]; omega⟩
          · have S2 : Hid (Bur.stF (-2) l = 2) := by
              show _ = _
              rw [R.out, S.out, if_pos hf, if_pos (by rw [eP]; simp at hd; omega)]
            clear S hf hc hcb hs R hA eP
            go_wp2_with (go_at_call 6; refine (refSpanFault _ _ _).mono ?_; rintro e w1 ⟨rfl, hb1⟩; rw [hev.out]; have hb2 : Below w.heap.size w w1 := below_via hb hb1; have d0 : w1.cell? ⟨b, off + k * 2, none⟩ = some (.int .i64 (lo l k)) := (hb1.cell (p := ⟨b, off + k * 2, none⟩) (by simp; omega)).trans c0; have d1 : w1.cell? ⟨b, off + (k - 1) * 2 + 1, none⟩ = some (.int .i64 (hi l (k - 1))) := (hb1.cell (p := ⟨b, off + (k - 1) * 2 + 1, none⟩) (by simp; omega)).trans cp; clear hb1)
            go_quiet (fail)
            go_wp2
            go_ret
            exact ⟨by rw [S2.out]; rfl, below_drewN hb2 _⟩
        · have S2 : Hid (Bur.stF (-2) l = Bur.stF (prv l (k + 1)) (l.drop (k + 1))) := by
            show _ = _
            rw [R.out, S.out, if_pos hf, if_neg (by simp only [prv]; rw [if_pos (by omega)]; omega)]
            rfl
          have hg : decide ((0 : Int) < (k : Int)) = false := by simp; omega
          clear S hf hc hcb hs R hA
          go_wp2_with (go_at_call 6; refine (refSpanFault _ _ _).mono ?_; rintro e w1 ⟨rfl, hb1⟩; rw [hev.out]; have hb2 : Below w.heap.size w w1 := below_via hb hb1; clear hb1)
          go_quiet (fail)
          go_wp2
          exact ⟨⟨k + 1, by omega, by go_num, S2, A2, below_drewN hb2 _⟩, by simp [intOf]; omega⟩
      · have hne : (Bur.spF (lo l k) (hi l k) != 0) = true := by simpa using hf
        have S2 : Hid (Bur.stF (-2) l = Bur.spF (lo l k) (hi l k)) := by
          show _ = _
          rw [R.out, S.out, if_neg hf]
        clear S hc hcb hs R hA hf
        go_wp2_with (go_at_call 6; refine (refSpanFault _ _ _).mono ?_; rintro e w1 ⟨rfl, hb1⟩; have hb2 : Below w.heap.size w w1 := below_via hb hb1; clear hb1)
        go_ret
        exact ⟨by rw [S2.out]; rfl, hb2⟩
    · have S2 : Hid (Bur.stF (-2) l = 0) := by
        show _ = _
        rw [R.out, List.drop_eq_nil_of_le (by omega)]; rfl
      clear R hA hs
      go_wp2
      go_ret
      exact ⟨by rw [S2.out]; rfl, hb⟩

set_option maxHeartbeats 4000000 in
theorem refInside (p : Option Addr) (cap : Nat) (l : List Bur.Sp) (x : Int) (w : World) (hl : l.length ≤ 9223372036854775807) (hs : SpAt w p l) : Calls Tryd.prog 30 #[.slice p l.length cap, .int .i64 x] w fun e w' => e = .returned (.bool (Bur.mem l x)) ∧ w' = w := by
  go_enter Tryd.func30, Tryd.ntmps30
  go_wp2
  go_loop [5] (fun i => ∃ (k : Nat), k ≤ l.length ∧ i = .int .i64 k ∧ Hid (Bur.mem l x = Bur.mem (l.drop k) x)) (fun i => l.length - (intOf i).toNat)
  case atStart => exact ⟨0, by omega, rfl, rfl⟩
  case round =>
    obtain ⟨k, hk, rfl, R⟩ := hrel
    by_cases hlt : k < l.length
    · have hlt' : (k : Int) < (l.length : Int) := by omega
      obtain ⟨b, off, rfl, hbl, hc⟩ := hs (by omega)
      have c0 : w.cell? ⟨b, off + k * 2, none⟩ = some (.int .i64 (lo l k)) := (hc k hlt).1
      have c1 : w.cell? ⟨b, off + k * 2 + 1, none⟩ = some (.int .i64 (hi l k)) := (hc k hlt).2
      have hd : Hid (Bur.mem l x = ((decide (lo l k ≤ x) && decide (x ≤ hi l k)) || Bur.mem (l.drop (k + 1)) x)) := by
        show _ = _
        rw [R.out, drop_sp hlt, Bur.mem_cons]
      clear hc hs R
      cases h1 : decide (lo l k ≤ x)
      · have R2 : Hid (Bur.mem l x = Bur.mem (l.drop (k + 1)) x) := by show _ = _; rw [hd.out, h1]; rfl
        clear hd
        go_wp2
        go_round
        case rel => exact ⟨k + 1, by omega, by go_num, R2⟩
        case measure => simp [intOf]; omega
      · cases h2 : decide (x ≤ hi l k)
        · have R2 : Hid (Bur.mem l x = Bur.mem (l.drop (k + 1)) x) := by show _ = _; rw [hd.out, h1, h2]; rfl
          clear hd
          go_wp2
          go_round
          case rel => exact ⟨k + 1, by omega, by go_num, R2⟩
          case measure => simp [intOf]; omega
        · have R2 : Hid (Bur.mem l x = true) := by show _ = _; rw [hd.out, h1, h2]; rfl
          clear hd
          go_wp2
          go_ret
          exact ⟨by rw [R2.out]; rfl, rfl⟩
    · have R2 : Hid (Bur.mem l x = false) := by
        show _ = _
        rw [R.out, List.drop_eq_nil_of_le (by omega)]; rfl
      clear R hs
      go_wp2
      go_ret
      exact ⟨by rw [R2.out]; rfl, rfl⟩
end Go.Proofs.YtfncclkmnkigoaaDoor
