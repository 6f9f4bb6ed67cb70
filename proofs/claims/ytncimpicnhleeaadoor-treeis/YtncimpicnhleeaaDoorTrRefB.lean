/- The contracts of the reference's ahead, same and TreeFault. -/
import Derived.Test.YtncimpicnhleeaaDoorTrRefA
import Derived.Test.YtncimpicnhleeaaDoorTrWalkD
namespace Go.Proofs.YtncimpicnhleeaaDoor
open Go.RowKit

theorem refAhead (p q : Bur.Sp) (w : World) : Calls Tryd.prog 22 #[pfx p.1 p.2, pfx q.1 q.2] w fun e w' => e = .returned (.bool (Bur.ahd p q)) ∧ Below w.heap.size w w' := by
  obtain ⟨a, l⟩ := p
  obtain ⟨a2, l2⟩ := q
  have hb0 : Below w.heap.size w ((w.alloc (.cells #[.int .i64 a, .int .i64 l] 24)).alloc (.cells #[.int .i64 a2, .int .i64 l2] 24)) := below_al (below_al (below_self _) _) _
  cases h1 : decide (a < a2)
  · cases h2 : (a == a2)
    · have E : Bur.ahd (a, l) (a2, l2) = false := by simp [Bur.ahd, h1]; intro e; simp [e] at h2
      rw [E]
      go_enter Tryd.func22, Tryd.ntmps22
      go_wp2
      go_ret
      exact ⟨rfl, hb0⟩
    · have e : a = a2 := by simpa using h2
      have E : Bur.ahd (a, l) (a2, l2) = decide (l < l2) := by simp [Bur.ahd, e]
      rw [E]
      clear e
      go_enter Tryd.func22, Tryd.ntmps22
      go_wp2
      go_ret
      exact ⟨rfl, hb0⟩
  · have E : Bur.ahd (a, l) (a2, l2) = true := by simp [Bur.ahd, h1]
    rw [E]
    go_enter Tryd.func22, Tryd.ntmps22
    go_wp2
    go_ret
    exact ⟨rfl, hb0⟩
theorem refSame (p q : Bur.Sp) (w : World) : Calls Tryd.prog 26 #[pfx p.1 p.2, pfx q.1 q.2] w fun e w' => e = .returned (.bool (Bur.sm p q)) ∧ Below w.heap.size w w' := by
  obtain ⟨a, l⟩ := p
  obtain ⟨a2, l2⟩ := q
  have hb0 : Below w.heap.size w ((w.alloc (.cells #[.int .i64 a, .int .i64 l] 24)).alloc (.cells #[.int .i64 a2, .int .i64 l2] 24)) := below_al (below_al (below_self _) _) _
  cases h1 : (a == a2)
  · have E : Bur.sm (a, l) (a2, l2) = false := by simp only [Bur.sm, h1]; rfl
    rw [E]
    go_enter Tryd.func26, Tryd.ntmps26
    go_wp2
    go_ret
    exact ⟨rfl, hb0⟩
  · have E : Bur.sm (a, l) (a2, l2) = (l == l2) := by simp only [Bur.sm, h1, Bool.true_and]
    rw [E]
    go_enter Tryd.func26, Tryd.ntmps26
    go_wp2
    go_ret
    exact ⟨rfl, hb0⟩

set_option maxRecDepth 100000 in
set_option maxHeartbeats 4000000 in
theorem treeFault (p : Option Addr) (cap : Nat) (l : List Bur.Sp) (w : World) (hl : l.length ≤ 9223372036854775807) (hs : SpAt w p l) : Calls Tryd.prog 5 #[.slice p l.length cap] w fun e w' => e = .returned (.int .i64 (Bur.treF l)) ∧ Below w.heap.size w w' := by
  by_cases h60 : 60 < l.length
  · have E : Bur.treF l = 3 := if_pos h60
    rw [E]
    go_enter Tryd.func5, Tryd.ntmps5
    go_wp2
    go_ret
    exact ⟨rfl, below_self _⟩
  have E : Bur.treF l = Bur.tF none l := if_neg h60
  rw [E]
  clear E
  go_enter Tryd.func5, Tryd.ntmps5
  go_wp2
  go_loopw [3] (fun i wr => ∃ k : Nat, k ≤ l.length ∧ i = .int .i64 k ∧ Hid (Bur.tF none l = Bur.tF (prvT l k) (l.drop k)) ∧ Below w.heap.size w wr) (fun i _ => l.length - (intOf i).toNat)
  case atStart => exact ⟨0, by omega, rfl, rfl, below_self _⟩
  case round =>
    obtain ⟨k, hk, rfl, R, hb⟩ := hrel
    by_cases hlt : k < l.length
    · have hlt' : (k : Int) < (l.length : Int) := by omega
      obtain ⟨b, off, rfl, hbl, hc⟩ := hs (by omega)
      have hcb := bcell hb
      have c0 : wr.cell? ⟨b, off + k * 2, none⟩ = some (.int .i64 (lo l k)) := (hcb.1 _ _ hbl).trans (hc k hlt).1
      have c1 : wr.cell? ⟨b, off + k * 2 + 1, none⟩ = some (.int .i64 (hi l k)) := (hcb.1 _ _ hbl).trans (hc k hlt).2
      have S : Hid _ := tF_at (c := prvT l k) hlt
      have hsz := hb.size
      have hbl2 : b < wr.heap.size := by omega
      by_cases hf : Bur.fault (lo l k) (hi l k) = 0
      · have hf0 : Hid (Bur.fault (lo l k) (hi l k) = 0) := hf
        by_cases hk0 : 0 < k
        rotate_left
        · have S2 : Hid (Bur.tF none l = Bur.tF (prvT l (k + 1)) (l.drop (k + 1))) := by
            show _ = _
            rw [R.out, S.out, if_pos hf, if_pos (by rw [show prvT l k = none from if_pos (by omega)]; rfl)]
            rfl
          have hg : decide ((0 : Int) < (k : Int)) = false := by simp; omega
          clear S hf hc hcb hs R
          go_wp2_with (go_at_call 16; refine (refFault _ _ _).mono ?_; rintro e w1 ⟨rfl, hb1⟩; rw [hf0.out]; have hb2 : Below w.heap.size w w1 := below_via hb hb1; clear hb1)
          go_quiet (fail)
          go_wp2
          exact ⟨⟨k + 1, by omega, by go_num, S2, below_drewN hb2 _⟩, by simp [intOf]; omega⟩
        · obtain ⟨j, hj⟩ : ∃ j, k = j + 1 := ⟨k - 1, by omega⟩
          have cp0 : wr.cell? ⟨b, off + j * 2, none⟩ = some (.int .i64 (lo l j)) := (hcb.1 _ _ hbl).trans (hc j (by omega)).1
          have cp1 : wr.cell? ⟨b, off + j * 2 + 1, none⟩ = some (.int .i64 (hi l j)) := (hcb.1 _ _ hbl).trans (hc j (by omega)).2
          have hg : decide ((0 : Int) < (k : Int)) = true := by simp; omega
          have hj1 : IntKind.i64.wrap ((k : Int) - 1) = (j : Int) := by rw [Bur.wrap_i64_id _ (by omega) (by omega)]; omega
          have hj2 : (0 : Int) ≤ (j : Int) := by omega
          have hj3 : (j : Int) < (l.length : Int) := by omega
          have hj4 : j < l.length := by omega
          have eP : prvT l k = some (lo l j, hi l j) := by rw [hj]; rfl
          have hO := refAhead (lo l j, hi l j) (lo l k, hi l k)
          cases hd : Bur.ahd (lo l j, hi l j) (lo l k, hi l k)
          · have S2 : Hid (Bur.tF none l = 2) := by
              show _ = _
              rw [R.out, S.out, if_pos hf, if_neg]
              rw [eP]
              show ¬ Bur.ahd _ _ = true
              rw [hd]
              simp
            rw [hd] at hO
            clear S hf hc hcb hs R eP hd hj
            go_wp2_with (go_at_call 16; refine (refFault _ _ _).mono ?_; rintro e w1 ⟨rfl, hb1⟩; rw [hf0.out]; have hb2 : Below w.heap.size w w1 := below_via hb hb1; have d0 := (hb1.cell (p := ⟨b, off + k * 2, none⟩) hbl2).trans c0; have d1 := (hb1.cell (p := ⟨b, off + k * 2 + 1, none⟩) hbl2).trans c1; have d2 := (hb1.cell (p := ⟨b, off + j * 2, none⟩) hbl2).trans cp0; have d3 := (hb1.cell (p := ⟨b, off + j * 2 + 1, none⟩) hbl2).trans cp1; have hw1 : b < w1.heap.size := Nat.lt_of_lt_of_le hbl2 hb1.size; clear hb1)
            go_region_held3 (fun wy => wy.cell? ⟨b, off + k * 2, none⟩ = some (.int .i64 (lo l k)) ∧ wy.cell? ⟨b, off + k * 2 + 1, none⟩ = some (.int .i64 (hi l k)) ∧ wy.cell? ⟨b, off + j * 2, none⟩ = some (.int .i64 (lo l j)) ∧ wy.cell? ⟨b, off + j * 2 + 1, none⟩ = some (.int .i64 (hi l j))) (first | exact ⟨d0, d1, d2, d3⟩ | exact ⟨e0, e1, e2, e3⟩)
              (first | (go_at_call 22; refine (hO _).mono ?_; rintro e w2 ⟨rfl, hb3⟩; have e0 := (hb3.cell (p := ⟨b, off + k * 2, none⟩) hw1).trans d0; have e1 := (hb3.cell (p := ⟨b, off + k * 2 + 1, none⟩) hw1).trans d1; have e2 := (hb3.cell (p := ⟨b, off + j * 2, none⟩) hw1).trans d2; have e3 := (hb3.cell (p := ⟨b, off + j * 2 + 1, none⟩) hw1).trans d3))
            go_wp2
            go_ret
            exact ⟨by rw [S2.out]; rfl, below_via (hb2.drew) hb3⟩
          · have S2 : Hid (Bur.tF none l = Bur.tF (prvT l (k + 1)) (l.drop (k + 1))) := by
              show _ = _
              rw [R.out, S.out, if_pos hf, if_pos]
              · rfl
              · rw [eP]
                exact hd
            rw [hd] at hO
            clear S hf hc hcb hs R eP hd hj
            go_wp2_with (go_at_call 16; refine (refFault _ _ _).mono ?_; rintro e w1 ⟨rfl, hb1⟩; rw [hf0.out]; have hb2 : Below w.heap.size w w1 := below_via hb hb1; have d0 := (hb1.cell (p := ⟨b, off + k * 2, none⟩) hbl2).trans c0; have d1 := (hb1.cell (p := ⟨b, off + k * 2 + 1, none⟩) hbl2).trans c1; have d2 := (hb1.cell (p := ⟨b, off + j * 2, none⟩) hbl2).trans cp0; have d3 := (hb1.cell (p := ⟨b, off + j * 2 + 1, none⟩) hbl2).trans cp1; have hw1 : b < w1.heap.size := Nat.lt_of_lt_of_le hbl2 hb1.size; clear hb1)
            go_region_held3 (fun wy => wy.cell? ⟨b, off + k * 2, none⟩ = some (.int .i64 (lo l k)) ∧ wy.cell? ⟨b, off + k * 2 + 1, none⟩ = some (.int .i64 (hi l k)) ∧ wy.cell? ⟨b, off + j * 2, none⟩ = some (.int .i64 (lo l j)) ∧ wy.cell? ⟨b, off + j * 2 + 1, none⟩ = some (.int .i64 (hi l j))) (first | exact ⟨d0, d1, d2, d3⟩ | exact ⟨e0, e1, e2, e3⟩)
              (first | (go_at_call 22; refine (hO _).mono ?_; rintro e w2 ⟨rfl, hb3⟩; have e0 := (hb3.cell (p := ⟨b, off + k * 2, none⟩) hw1).trans d0; have e1 := (hb3.cell (p := ⟨b, off + k * 2 + 1, none⟩) hw1).trans d1; have e2 := (hb3.cell (p := ⟨b, off + j * 2, none⟩) hw1).trans d2; have e3 := (hb3.cell (p := ⟨b, off + j * 2 + 1, none⟩) hw1).trans d3))
            go_wp2
            exact ⟨⟨k + 1, by omega, by go_num, S2, below_via (hb2.drew) hb3⟩, by simp [intOf]; omega⟩
      · have S2 : Hid (Bur.tF none l = Bur.fault (lo l k) (hi l k)) := by
          show _ = _
          rw [R.out, S.out, if_neg hf]
        have hne : (Bur.fault (lo l k) (hi l k) != 0) = true := by simpa using hf
        obtain ⟨E, hE⟩ : ∃ E, Bur.fault (lo l k) (hi l k) = E := ⟨_, rfl⟩
        rw [hE] at hne S2
        have HE : Hid _ := hE
        clear S hc hcb hs R hf hE
        go_wp2_with (go_at_call 16; refine (refFault _ _ _).mono ?_; rintro e w1 ⟨rfl, hb1⟩; rw [HE.out]; have hb2 : Below w.heap.size w w1 := below_via hb hb1; clear hb1)
        go_ret
        exact ⟨by rw [S2.out]; rfl, hb2⟩
    · have S2 : Hid (Bur.tF none l = 0) := by
        show _ = _
        rw [R.out, List.drop_eq_nil_of_le (by omega)]
        cases prvT l k <;> rfl
      clear R hs
      go_wp2
      go_ret
      exact ⟨by rw [S2.out]; rfl, hb⟩
end Go.Proofs.YtncimpicnhleeaaDoor
