/- The contract of package plot's ReadPrefix. -/
import Derived.Test.YtdokenlljeajmaaDoorPkI
namespace Bur
theorem pkR_no {l : List UInt8} (h : kcB 112 l = false) : pkR l = none := by
  unfold pkR
  rw [if_neg (fun q => by rw [h] at q; exact absurd q.1 (by decide))]
theorem pkR_len {l : List UInt8} (h : (pkD l).length ≠ 10) : pkR l = none := by
  unfold pkR
  rw [if_neg (fun q => h q.2)]
theorem pkR_ok {l : List UInt8} (h : kcB 112 l = true) (h10 : (pkD l).length = 10) : pkR l = pxD (pkD l) := by
  unfold pkR
  rw [if_pos ⟨h, h10⟩]
end Bur
namespace Go.Proofs.YtdokenlljeajmaaDoor
open Go.RowKit

theorem set_at {W : World} {b i : Nat} {x u : Value} (h : W.cell? ⟨b, i, none⟩ = some x) : (W.setCell ⟨b, i, none⟩ u).cell? ⟨b, i, none⟩ = some u := by go_simp
theorem set_off {W : World} {b i j : Nat} {x u : Value} (h : W.cell? ⟨b, j, none⟩ = some x) (hij : i ≠ j) : (W.setCell ⟨b, i, none⟩ u).cell? ⟨b, j, none⟩ = some x := by
  have hji : j ≠ i := fun e => hij e.symm
  go_simp
theorem fz_set {W : World} {b i j : Nat} {u : Value} (h : W.frozen? ⟨b, j, none⟩ = false) : (W.setCell ⟨b, i, none⟩ u).frozen? ⟨b, j, none⟩ = false := by go_simp
theorem two_one {W : World} {b : Nat} {u v x y : Value} (h0 : W.cell? ⟨b, 0, none⟩ = some x) (h1 : W.cell? ⟨b, 1, none⟩ = some y) : ((W.setCell ⟨b, 0, none⟩ u).setCell ⟨b, 1, none⟩ v).cell? ⟨b, 0, none⟩ = some u ∧ ((W.setCell ⟨b, 0, none⟩ u).setCell ⟨b, 1, none⟩ v).cell? ⟨b, 1, none⟩ = some v :=
  ⟨set_off (set_at h0) (by decide), set_at (set_off h1 (by decide))⟩
theorem two_set {W : World} {b : Nat} {u v u' v' x y : Value} (h0 : W.cell? ⟨b, 0, none⟩ = some x) (h1 : W.cell? ⟨b, 1, none⟩ = some y) : ((((W.setCell ⟨b, 0, none⟩ u).setCell ⟨b, 1, none⟩ v).setCell ⟨b, 0, none⟩ u').setCell ⟨b, 1, none⟩ v').cell? ⟨b, 0, none⟩ = some u' ∧ ((((W.setCell ⟨b, 0, none⟩ u).setCell ⟨b, 1, none⟩ v).setCell ⟨b, 0, none⟩ u').setCell ⟨b, 1, none⟩ v').cell? ⟨b, 1, none⟩ = some v' :=
  two_one (two_one h0 h1).1 (two_one h0 h1).2
def rpV (n : List UInt8) : Option (Int × Int) → Value
  | some p => .tuple #[.string ⟨n.toArray⟩, pfx p.1 p.2, .nilIface]
  | none => .tuple #[.string ⟨#[]⟩, pfx 0 0, errN 5]
set_option maxHeartbeats 4000000 in
set_option maxRecDepth 100000 in
theorem plReadPrefix (l : List UInt8) (w : World) (hl : l.length < 4294967281) (hm : MaxL w) : Calls Tryd.prog 8 #[.string ⟨l.toArray⟩] w fun e w' => e = .returned (rpV (Bur.pkN l) (Bur.pkR l)) ∧ Below w.heap.size w w' := by
  have hb0 := below_al (below_self w) (.cells #[.int .i64 0, .int .i64 0] 23)
  have hC := plCut 112 l (w.alloc (.cells #[.int .i64 0, .int .i64 0] 23)) hl (hm.step hb0)
  have hnl : (Bur.pkN l).length ≤ l.length := Nat.le_trans (Bur.cutc_len 47 (l.drop 2)).1 (by rw [List.length_drop]; omega)
  obtain ⟨R, hR⟩ : ∃ R, R = Bur.pkR l := ⟨_, rfl⟩
  rw [← hR]
  have fin : ∀ {W : World} (u v : Value), Below w.heap.size w W → Below w.heap.size w ((W.setCell ⟨w.heap.size, 0, none⟩ u).setCell ⟨w.heap.size, 1, none⟩ v) := fun u v h => (h.setCell (Nat.le_refl _) _).setCell (Nat.le_refl _) _
  go_enter Tryd.func8, Tryd.ntmps8
  go_wp2_with fail
  refine hC.mono ?_
  clear hC
  rintro e w1 ⟨⟨x, y, rfl, hxy⟩, hb1⟩
  have hbw := below_via hb0 hb1
  have glw : w.heap.size < w1.heap.size := by have := hb1.size; simp at this; omega
  have q0 : w1.cell? ⟨w.heap.size, 0, none⟩ = some (.int .i64 0) := (hb1.cell (p := ⟨w.heap.size, 0, none⟩) (by simp)).trans (by simp)
  have q1 : w1.cell? ⟨w.heap.size, 1, none⟩ = some (.int .i64 0) := (hb1.cell (p := ⟨w.heap.size, 1, none⟩) (by simp)).trans (by simp)
  have f0 : w1.frozen? ⟨w.heap.size, 0, none⟩ = false := (hb1.frozen (p := ⟨w.heap.size, 0, none⟩) (by simp)).trans (by simp)
  have f1 : w1.frozen? ⟨w.heap.size, 1, none⟩ = false := (hb1.frozen (p := ⟨w.heap.size, 1, none⟩) (by simp)).trans (by simp)
  clear hb0 hb1 hm
  cases hk : Bur.kcB 112 l with
  | false =>
    have hR0 : Hid (R = none) := by show _ = _; rw [hR]; exact Bur.pkR_no hk
    clear hR hk hxy
    go_wp2
    exact bodyPost_ret (v := rpV [] none) (by simp [results, Tryd.results8, go_sem, rpV, q0, q1]) rfl ⟨by rw [hR0.out]; rfl, fin _ _ hbw⟩
  | true =>
    obtain ⟨rfl, rfl⟩ := hxy hk
    by_cases h10 : (Bur.pkD l).length = 10
    · have hRk := hR.trans (Bur.pkR_ok hk h10)
      obtain ⟨nn, hnn⟩ : ∃ nn, nn = Bur.pkN l := ⟨_, rfl⟩
      rw [← hnn]
      have hNN : Hid (Bur.pkN l = nn) := hnn.symm
      clear hnn
      generalize Bur.pkD l = d at *
      clear hR hk hxy
      have he10 : ((d.length : Int) == 10) = true := by simp [h10]
      have hx8 : ((ByteArray.mk d.toArray).extract 0 8).data.toList = d.take 8 := by rw [Bur.ext_list]; rfl
      have hx2 : ((ByteArray.mk d.toArray).extract 8 10).data.toList = d.drop 8 := by
        rw [Bur.ext_list]
        show (d.drop 8).take _ = _
        rw [List.take_of_length_le (by rw [List.length_drop]; omega)]
      have hd8 : (8 : Int) ≤ (d.length : Int) := by omega
      have r16 := fun W => plRead16 ((ByteArray.mk d.toArray).extract 0 8) W (by have h1 := congrArg List.length hx8; simp at h1 ⊢; omega)
      have r10 := fun W => plRead10 ((ByteArray.mk d.toArray).extract 8 10) W (by have h1 := congrArg List.length hx2; simp at h1 ⊢; omega)
      rw [hx8] at r16
      rw [hx2] at r10
      unfold Bur.pxD at hRk
      clear hx8 hx2
      cases eA : Bur.rx Bur.hv 16 0 (d.take 8) with
      | none =>
        rw [eA] at r16 hRk
        have hR0 : Hid (R = none) := by show _ = _; rw [hRk]
        clear hRk eA
        have r16' : ∀ W : World, Calls Tryd.prog 22 #[.string ((ByteArray.mk d.toArray).extract 0 8), .int .i64 16] W fun e w' => e = .returned (.tuple #[.int .i64 0, .bool false]) ∧ Below W.heap.size W w' := r16
        have r10' : ∀ W : World, Calls Tryd.prog 22 #[.string ((ByteArray.mk d.toArray).extract 8 10), .int .i64 10] W fun e w' => e = .returned (.tuple #[.int .i64 (Bur.rdN (Bur.rx Bur.dv 10 0 (d.drop 8))), .bool (Bur.rx Bur.dv 10 0 (d.drop 8)).isSome]) ∧ Below W.heap.size W w' := r10
        generalize Bur.rdN (Bur.rx Bur.dv 10 0 (d.drop 8)) = nv at r10'
        generalize (Bur.rx Bur.dv 10 0 (d.drop 8)).isSome = nb at r10'
        clear r16 r10
        go_wp2_with (first
          | (go_at_call_of 22 (Value.int IntKind.i64 16); refine (r16' _).mono ?_; rintro e w2 ⟨rfl, hb2⟩)
          | (go_at_call_of 22 (Value.int IntKind.i64 10); refine (r10' _).mono ?_; rintro e w3 ⟨rfl, hb3⟩; have hb13 := below_via hb2 hb3; have hbz := below_via hbw hb13; have q03 := (hb13.cell (p := ⟨w.heap.size, 0, none⟩) glw).trans q0; have q13 := (hb13.cell (p := ⟨w.heap.size, 1, none⟩) glw).trans q1; have f03 := (hb13.frozen (p := ⟨w.heap.size, 0, none⟩) glw).trans f0; have f13 := (hb13.frozen (p := ⟨w.heap.size, 1, none⟩) glw).trans f1; have hs13 := hb13.size))
        exact bodyPost_ret (v := rpV [] none) (by simp [results, Tryd.results8, go_sem, rpV, (two_set q03 q13).1, (two_set q03 q13).2]) rfl ⟨by rw [hR0.out]; rfl, fin _ _ (fin _ _ hbz)⟩
      | some a =>
        rw [eA] at r16 hRk
        have r16' : ∀ W : World, Calls Tryd.prog 22 #[.string ((ByteArray.mk d.toArray).extract 0 8), .int .i64 16] W fun e w' => e = .returned (.tuple #[.int .i64 a, .bool true]) ∧ Below W.heap.size W w' := r16
        clear r16 eA
        cases eN : Bur.rx Bur.dv 10 0 (d.drop 8) with
        | none =>
          rw [eN] at r10 hRk
          have r10' : ∀ W : World, Calls Tryd.prog 22 #[.string ((ByteArray.mk d.toArray).extract 8 10), .int .i64 10] W fun e w' => e = .returned (.tuple #[.int .i64 0, .bool false]) ∧ Below W.heap.size W w' := r10
          have hR0 : Hid (R = none) := hRk
          clear r10 eN hRk
          go_wp2_with (first
            | (go_at_call_of 22 (Value.int IntKind.i64 16); refine (r16' _).mono ?_; rintro e w2 ⟨rfl, hb2⟩)
            | (go_at_call_of 22 (Value.int IntKind.i64 10); refine (r10' _).mono ?_; rintro e w3 ⟨rfl, hb3⟩; have hb13 := below_via hb2 hb3; have hbz := below_via hbw hb13; have q03 := (hb13.cell (p := ⟨w.heap.size, 0, none⟩) glw).trans q0; have q13 := (hb13.cell (p := ⟨w.heap.size, 1, none⟩) glw).trans q1; have f03 := (hb13.frozen (p := ⟨w.heap.size, 0, none⟩) glw).trans f0; have f13 := (hb13.frozen (p := ⟨w.heap.size, 1, none⟩) glw).trans f1; have hs13 := hb13.size))
          exact bodyPost_ret (v := rpV [] none) (by simp [results, Tryd.results8, go_sem, rpV, (two_set q03 q13).1, (two_set q03 q13).2]) rfl ⟨by rw [hR0.out]; rfl, fin _ _ (fin _ _ hbz)⟩
        | some n =>
          rw [eN] at r10 hRk
          have r10' : ∀ W : World, Calls Tryd.prog 22 #[.string ((ByteArray.mk d.toArray).extract 8 10), .int .i64 10] W fun e w' => e = .returned (.tuple #[.int .i64 n, .bool true]) ∧ Below W.heap.size W w' := r10
          simp only at hRk
          clear r10 eN
          by_cases hf : Bur.fault a n = 0
          · rw [if_pos hf] at hRk
            have hR0 : Hid (R = some (a, n)) := hRk
            clear hRk
            have hK := fun W => check_ok a n W hf
            clear hf
            go_wp2_with (first
              | (go_at_call_of 22 (Value.int IntKind.i64 16); refine (r16' _).mono ?_; rintro e w2 ⟨rfl, hb2⟩)
              | (go_at_call_of 22 (Value.int IntKind.i64 10); refine (r10' _).mono ?_; rintro e w3 ⟨rfl, hb3⟩; have hb13 := below_via hb2 hb3; have hbz := below_via hbw hb13; have q03 := (hb13.cell (p := ⟨w.heap.size, 0, none⟩) glw).trans q0; have q13 := (hb13.cell (p := ⟨w.heap.size, 1, none⟩) glw).trans q1; have f03 := (hb13.frozen (p := ⟨w.heap.size, 0, none⟩) glw).trans f0; have f13 := (hb13.frozen (p := ⟨w.heap.size, 1, none⟩) glw).trans f1; have hs13 := hb13.size)
              | (go_at_call 23; refine (hK _).mono ?_; rintro e w5 ⟨rfl, hc5, hf5, hs5, hb5⟩; have hszA : w.heap.size < ((w3.setCell ⟨w.heap.size, 0, none⟩ (.int .i64 a)).setCell ⟨w.heap.size, 1, none⟩ (.int .i64 n)).heap.size := World.block_lt_of_cell? _ _ (two_one q03 q13).1; have q05 : w5.cell? ⟨w.heap.size, 0, none⟩ = some (.int .i64 a) := (hc5 _).trans ((World.cell?_alloc_lt _ _ ⟨w.heap.size, 0, none⟩ hszA).trans (two_one q03 q13).1); have q15 : w5.cell? ⟨w.heap.size, 1, none⟩ = some (.int .i64 n) := (hc5 _).trans ((World.cell?_alloc_lt _ _ ⟨w.heap.size, 1, none⟩ hszA).trans (two_one q03 q13).2); have f05 : w5.frozen? ⟨w.heap.size, 0, none⟩ = false := (hf5 _).trans (((below_al (below_self _) _).frozen (p := ⟨w.heap.size, 0, none⟩) hszA).trans (fz_set (fz_set f03))); have f15 : w5.frozen? ⟨w.heap.size, 1, none⟩ = false := (hf5 _).trans (((below_al (below_self _) _).frozen (p := ⟨w.heap.size, 1, none⟩) hszA).trans (fz_set (fz_set f13))); have hbv := below_via (below_al (fin (.int .i64 a) (.int .i64 n) hbz) (pcs a n)) hb5; clear hc5 hf5 hb5 hs5))
            go_region_held3 (fun wy => wy.cell? ⟨w.heap.size, 0, none⟩ = some (.int .i64 a) ∧ wy.cell? ⟨w.heap.size, 1, none⟩ = some (.int .i64 n)) (go_simp) (fail)
            go_wp2
            exact bodyPost_ret (v := rpV nn (some (a, n))) (by simp [results, Tryd.results8, go_sem, rpV, (two_one q05 q15).1, (two_one q05 q15).2]) rfl ⟨by rw [hR0.out, hNN.out], below_drewN (fin _ _ hbv) _⟩
          · rw [if_neg hf] at hRk
            have hR0 : Hid (R = none) := hRk
            clear hRk
            have hK := fun W => check_no a n W hf
            clear hf
            go_wp2_with (first
              | (go_at_call_of 22 (Value.int IntKind.i64 16); refine (r16' _).mono ?_; rintro e w2 ⟨rfl, hb2⟩)
              | (go_at_call_of 22 (Value.int IntKind.i64 10); refine (r10' _).mono ?_; rintro e w3 ⟨rfl, hb3⟩; have hb13 := below_via hb2 hb3; have hbz := below_via hbw hb13; have q03 := (hb13.cell (p := ⟨w.heap.size, 0, none⟩) glw).trans q0; have q13 := (hb13.cell (p := ⟨w.heap.size, 1, none⟩) glw).trans q1; have f03 := (hb13.frozen (p := ⟨w.heap.size, 0, none⟩) glw).trans f0; have f13 := (hb13.frozen (p := ⟨w.heap.size, 1, none⟩) glw).trans f1; have hs13 := hb13.size)
              | (go_at_call 23; refine (hK _).mono ?_; rintro e w5 ⟨rfl, hc5, hf5, hs5, hb5⟩; have hszA : w.heap.size < ((w3.setCell ⟨w.heap.size, 0, none⟩ (.int .i64 a)).setCell ⟨w.heap.size, 1, none⟩ (.int .i64 n)).heap.size := World.block_lt_of_cell? _ _ (two_one q03 q13).1; have q05 : w5.cell? ⟨w.heap.size, 0, none⟩ = some (.int .i64 a) := (hc5 _).trans ((World.cell?_alloc_lt _ _ ⟨w.heap.size, 0, none⟩ hszA).trans (two_one q03 q13).1); have q15 : w5.cell? ⟨w.heap.size, 1, none⟩ = some (.int .i64 n) := (hc5 _).trans ((World.cell?_alloc_lt _ _ ⟨w.heap.size, 1, none⟩ hszA).trans (two_one q03 q13).2); have f05 : w5.frozen? ⟨w.heap.size, 0, none⟩ = false := (hf5 _).trans (((below_al (below_self _) _).frozen (p := ⟨w.heap.size, 0, none⟩) hszA).trans (fz_set (fz_set f03))); have f15 : w5.frozen? ⟨w.heap.size, 1, none⟩ = false := (hf5 _).trans (((below_al (below_self _) _).frozen (p := ⟨w.heap.size, 1, none⟩) hszA).trans (fz_set (fz_set f13))); have hbv := below_via (below_al (fin (.int .i64 a) (.int .i64 n) hbz) (pcs a n)) hb5; clear hc5 hf5 hb5 hs5))
            exact bodyPost_ret (v := rpV [] none) (by simp [results, Tryd.results8, go_sem, rpV, (two_one q05 q15).1, (two_one q05 q15).2]) rfl ⟨by rw [hR0.out]; rfl, fin _ _ hbv⟩
    · have hR0 : Hid (R = none) := by show _ = _; rw [hR]; exact Bur.pkR_len h10
      have he10 : (((Bur.pkD l).length : Int) == 10) = false := beq_eq_false_iff_ne.2 (by omega)
      clear hR hk hxy h10
      go_wp2
      exact bodyPost_ret (v := rpV [] none) (by simp [results, Tryd.results8, go_sem, rpV, q0, q1]) rfl ⟨by rw [hR0.out]; rfl, fin _ _ hbw⟩
end Go.Proofs.YtdokenlljeajmaaDoor
