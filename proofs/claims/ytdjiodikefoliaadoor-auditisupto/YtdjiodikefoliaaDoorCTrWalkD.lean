/- The contracts of tree's Check and checkBoth. -/
import Derived.Test.YtdjiodikefoliaaDoorCTrWalkA
import Derived.Test.YtdjiodikefoliaaDoorCTrAdA
namespace Go.Proofs.YtdjiodikefoliaaDoor.Ta
open Go.RowKit

/-- The one that element k must stand behind. -/
def prvT (l : List Bur.Sp) (k : Nat) : Option Bur.Sp := if k = 0 then none else some (lo l (k - 1), hi l (k - 1))
theorem tF_at {l : List Bur.Sp} {c : Option Bur.Sp} {k : Nat} (hk : k < l.length) : Bur.tF c (l.drop k) = if Bur.fault (lo l k) (hi l k) = 0 then (if Bur.okc c (lo l k, hi l k) = true then Bur.tF (some (lo l k, hi l k)) (l.drop (k + 1)) else 2) else Bur.fault (lo l k) (hi l k) := by
  rw [drop_sp hk, Bur.tF_cons]

set_option maxRecDepth 100000 in
set_option maxHeartbeats 4000000 in
theorem tcheck (p : Option Addr) (cap : Nat) (l : List Bur.Sp) (w : World) (hl : l.length ≤ 9223372036854775807) (hs : SpAt w p l) : Calls Tryd.prog 22 #[.slice p l.length cap] w fun e w' => e = .returned (ev (Bur.treF l)) ∧ Below w.heap.size w w' := by
  by_cases h60 : 60 < l.length
  · have E : Bur.treF l = 3 := if_pos h60
    rw [E]
    go_enter Tryd.func22, Tryd.ntmps22
    go_wp2
    go_ret
    exact ⟨rfl, below_self _⟩
  have E : Bur.treF l = Bur.tF none l := if_neg h60
  rw [E]
  clear E
  go_enter Tryd.func22, Tryd.ntmps22
  go_wp2
  go_loopw [12] (fun i wr => ∃ k : Nat, k ≤ l.length ∧ i = .int .i64 k ∧ Hid (Bur.tF none l = Bur.tF (prvT l k) (l.drop k)) ∧ Below w.heap.size w wr) (fun i _ => l.length - (intOf i).toNat)
  case atStart => exact ⟨0, by omega, rfl, rfl, below_self _⟩
  case round =>
    obtain ⟨k, hk, rfl, R, hb⟩ := hrel
    by_cases hlt : k < l.length
    · have hlt' : (k : Int) < (l.length : Int) := by omega
      obtain ⟨b, off, rfl, hbl, hc⟩ := hs (by omega)
      have hcb := bcell hb
      have c0 : wr.cell? ⟨b, off + k * 2, none⟩ = some (.int .i64 (lo l k)) := (hcb.1 _ _ hbl).trans (hc k hlt).1
      have c1 : wr.cell? ⟨b, off + k * 2 + 1, none⟩ = some (.int .i64 (hi l k)) := (hcb.1 _ _ hbl).trans (hc k hlt).2
      have S : Hid _ := tF_at (c := prvT l k) hlt
      have hsz := hb.size
      by_cases hf : Bur.fault (lo l k) (hi l k) = 0
      · have hev : Hid (ev (Bur.fault (lo l k) (hi l k)) = .nilIface) := by show _ = _; rw [hf]; rfl
        by_cases hk0 : 0 < k
        rotate_left
        · have S2 : Hid (Bur.tF none l = Bur.tF (prvT l (k + 1)) (l.drop (k + 1))) := by
            show _ = _
            rw [R.out, S.out, if_pos hf, if_pos (by rw [show prvT l k = none from if_pos (by omega)]; rfl)]
            rfl
          have hg : decide ((0 : Int) < (k : Int)) = false := by simp; omega
          clear S hf hc hcb hs R
          go_wp2_with (go_at_call 37; refine (check_any _ _ _).mono ?_; rintro e w1 ⟨rfl, hb1⟩; rw [hev.out]; have hb2 : Below w.heap.size w w1 := below_via (below_al hb _) hb1; clear hb1)
          go_quiet (fail)
          go_wp2
          exact ⟨⟨k + 1, by omega, by go_num, S2, below_drewN hb2 _⟩, by simp [intOf]; omega⟩
        · obtain ⟨j, hj⟩ : ∃ j, k = j + 1 := ⟨k - 1, by omega⟩
          have cp0 : wr.cell? ⟨b, off + j * 2, none⟩ = some (.int .i64 (lo l j)) := (hcb.1 _ _ hbl).trans (hc j (by omega)).1
          have cp1 : wr.cell? ⟨b, off + j * 2 + 1, none⟩ = some (.int .i64 (hi l j)) := (hcb.1 _ _ hbl).trans (hc j (by omega)).2
          have hg : decide ((0 : Int) < (k : Int)) = true := by simp; omega
          have hj1 : IntKind.i64.wrap ((k : Int) - 1) = (j : Int) := by rw [Bur.wrap_i64_id _ (by omega) (by omega)]; omega
          have hj2 : (0 : Int) ≤ (j : Int) := by omega
          have hj3 : (j : Int) < (l.length : Int) := by omega
          have hj4 : j < l.length := by omega
          have eP : prvT l k = some (lo l j, hi l j) := by rw [hj]; rfl
          have hbd := Bur.ordP_ge (lo l j, hi l j) (lo l k, hi l k)
          have hO := order (lo l j, hi l j) (lo l k, hi l k)
          cases hd : decide (0 ≤ Bur.ordP (lo l j, hi l j) (lo l k, hi l k))
          · have S2 : Hid (Bur.tF none l = Bur.tF (prvT l (k + 1)) (l.drop (k + 1))) := by
              show _ = _
              rw [R.out, S.out, if_pos hf, if_pos]
              · rfl
              · rw [eP]
                show Bur.ahd _ _ = true
                cases h : Bur.ahd (lo l j, hi l j) (lo l k, hi l k) with
                | true => rfl
                | false => rw [h] at hbd; simp [hbd.2 rfl] at hd
            clear S hf hc hcb hs R eP hbd hj
            generalize hgO : Bur.ordP (lo l j, hi l j) (lo l k, hi l k) = O at hd hO
            clear hgO
            go_wp2_with (go_at_call 37; refine (check_any _ _ _).mono ?_; rintro e w1 ⟨rfl, hb1⟩; rw [hev.out]; have hb2 : Below w.heap.size w w1 := below_via (below_al hb _) hb1; have d0 : w1.cell? ⟨wr.heap.size, 0, none⟩ = some (.int .i64 (lo l k)) := (hb1.cell (p := ⟨wr.heap.size, 0, none⟩) (by simp)).trans (by simp); have d1 : w1.cell? ⟨wr.heap.size, 1, none⟩ = some (.int .i64 (hi l k)) := (hb1.cell (p := ⟨wr.heap.size, 1, none⟩) (by simp)).trans (by simp); have d2 : w1.cell? ⟨b, off + j * 2, none⟩ = some (.int .i64 (lo l j)) := (hb1.cell (p := ⟨b, off + j * 2, none⟩) (by simp; omega)).trans ((World.cell?_alloc_lt _ _ _ (by simp; omega)).trans cp0); have d3 : w1.cell? ⟨b, off + j * 2 + 1, none⟩ = some (.int .i64 (hi l j)) := (hb1.cell (p := ⟨b, off + j * 2 + 1, none⟩) (by simp; omega)).trans ((World.cell?_alloc_lt _ _ _ (by simp; omega)).trans cp1); have hw1 : wr.heap.size < w1.heap.size := Nat.lt_of_lt_of_le (by simp) hb1.size; clear hb1)
            go_region_held3 (fun wy => wy.cell? ⟨wr.heap.size, 0, none⟩ = some (.int .i64 (lo l k)) ∧ wy.cell? ⟨wr.heap.size, 1, none⟩ = some (.int .i64 (hi l k)) ∧ wy.cell? ⟨b, off + j * 2, none⟩ = some (.int .i64 (lo l j)) ∧ wy.cell? ⟨b, off + j * 2 + 1, none⟩ = some (.int .i64 (hi l j))) (first | exact ⟨d0, d1, d2, d3⟩ | exact ⟨e0, e1, e2, e3⟩)
              (first | (go_at_call 38; refine (hO _).mono ?_; rintro e w2 ⟨rfl, hb3⟩; have e0 := (hb3.cell (p := ⟨wr.heap.size, 0, none⟩) hw1).trans d0; have e1 := (hb3.cell (p := ⟨wr.heap.size, 1, none⟩) hw1).trans d1; have e2 := (hb3.cell (p := ⟨b, off + j * 2, none⟩) (Nat.lt_of_lt_of_le hbl hb2.size)).trans d2; have e3 := (hb3.cell (p := ⟨b, off + j * 2 + 1, none⟩) (Nat.lt_of_lt_of_le hbl hb2.size)).trans d3))
            go_wp2
            exact ⟨⟨k + 1, by omega, by go_num, S2, below_via (hb2.drew) hb3⟩, by simp [intOf]; omega⟩
          · have S2 : Hid (Bur.tF none l = 2) := by
              show _ = _
              rw [R.out, S.out, if_pos hf, if_neg]
              rw [eP]
              show ¬ Bur.ahd _ _ = true
              rw [hbd.1 (by simpa using hd)]
              simp
            clear S hf hc hcb hs R eP hbd hj
            generalize hgO : Bur.ordP (lo l j, hi l j) (lo l k, hi l k) = O at hd hO
            clear hgO
            go_wp2_with (go_at_call 37; refine (check_any _ _ _).mono ?_; rintro e w1 ⟨rfl, hb1⟩; rw [hev.out]; have hb2 : Below w.heap.size w w1 := below_via (below_al hb _) hb1; have d0 : w1.cell? ⟨wr.heap.size, 0, none⟩ = some (.int .i64 (lo l k)) := (hb1.cell (p := ⟨wr.heap.size, 0, none⟩) (by simp)).trans (by simp); have d1 : w1.cell? ⟨wr.heap.size, 1, none⟩ = some (.int .i64 (hi l k)) := (hb1.cell (p := ⟨wr.heap.size, 1, none⟩) (by simp)).trans (by simp); have d2 : w1.cell? ⟨b, off + j * 2, none⟩ = some (.int .i64 (lo l j)) := (hb1.cell (p := ⟨b, off + j * 2, none⟩) (by simp; omega)).trans ((World.cell?_alloc_lt _ _ _ (by simp; omega)).trans cp0); have d3 : w1.cell? ⟨b, off + j * 2 + 1, none⟩ = some (.int .i64 (hi l j)) := (hb1.cell (p := ⟨b, off + j * 2 + 1, none⟩) (by simp; omega)).trans ((World.cell?_alloc_lt _ _ _ (by simp; omega)).trans cp1); have hw1 : wr.heap.size < w1.heap.size := Nat.lt_of_lt_of_le (by simp) hb1.size; clear hb1)
            go_region_held3 (fun wy => wy.cell? ⟨wr.heap.size, 0, none⟩ = some (.int .i64 (lo l k)) ∧ wy.cell? ⟨wr.heap.size, 1, none⟩ = some (.int .i64 (hi l k)) ∧ wy.cell? ⟨b, off + j * 2, none⟩ = some (.int .i64 (lo l j)) ∧ wy.cell? ⟨b, off + j * 2 + 1, none⟩ = some (.int .i64 (hi l j))) (first | exact ⟨d0, d1, d2, d3⟩ | exact ⟨e0, e1, e2, e3⟩)
              (first | (go_at_call 38; refine (hO _).mono ?_; rintro e w2 ⟨rfl, hb3⟩; have e0 := (hb3.cell (p := ⟨wr.heap.size, 0, none⟩) hw1).trans d0; have e1 := (hb3.cell (p := ⟨wr.heap.size, 1, none⟩) hw1).trans d1; have e2 := (hb3.cell (p := ⟨b, off + j * 2, none⟩) (Nat.lt_of_lt_of_le hbl hb2.size)).trans d2; have e3 := (hb3.cell (p := ⟨b, off + j * 2 + 1, none⟩) (Nat.lt_of_lt_of_le hbl hb2.size)).trans d3))
            go_wp2
            go_ret
            exact ⟨by rw [S2.out]; rfl, below_via (hb2.drew) hb3⟩
      · have hev : Hid (ev (Bur.fault (lo l k) (hi l k)) = errN (Bur.fault (lo l k) (hi l k))) := if_neg hf
        have S2 : Hid (Bur.tF none l = Bur.fault (lo l k) (hi l k)) := by
          show _ = _
          rw [R.out, S.out, if_neg hf]
        clear S hc hcb hs R
        go_wp2_with (go_at_call 37; refine (check_any _ _ _).mono ?_; rintro e w1 ⟨rfl, hb1⟩; rw [hev.out]; have hb2 : Below w.heap.size w w1 := below_via (below_al hb _) hb1; clear hb1)
        go_ret
        exact ⟨by rw [S2.out, hev.out]; rfl, hb2⟩
    · have S2 : Hid (Bur.tF none l = 0) := by
        show _ = _
        rw [R.out, List.drop_eq_nil_of_le (by omega)]
        cases prvT l k <;> rfl
      clear R hs
      go_wp2
      go_ret
      exact ⟨by rw [S2.out]; rfl, hb⟩

end Go.Proofs.YtdjiodikefoliaaDoor.Ta
