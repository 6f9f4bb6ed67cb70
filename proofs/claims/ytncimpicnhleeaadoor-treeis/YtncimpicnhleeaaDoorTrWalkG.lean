/- The contract of slices.BinarySearchFunc at prefixes, asked by tree's order. -/
import Derived.Test.YtncimpicnhleeaaDoorTrWalkF
import Derived.Deep.CutBlock
namespace Go.Proofs.YtncimpicnhleeaaDoor
open Go.RowKit

set_option maxRecDepth 100000 in
set_option maxHeartbeats 4000000 in
theorem search (q : Option Addr) (cap : Nat) (l : List Bur.Sp) (p : Bur.Sp) (w : World) (hz : l.length ≤ 60) (hs : SpAt w q l) (ht : Hid (Bur.IsT l)) :
    Calls Tryd.prog 28 #[.slice q l.length cap, pfx p.1 p.2, .func (.func 25) #[] #[]] w fun e w' => ∃ i : Nat, i ≤ l.length ∧ Hid (Bur.AtP l p i i) ∧ e = .returned (.tuple #[.int .i64 i, .bool (Bur.hasP p l)]) ∧ Below w.heap.size w w' := by
  obtain ⟨x, y⟩ := p
  go_enter Tryd.func28, Tryd.ntmps28
  have pb : PfAt (w.alloc (.cells #[.int .i64 x, .int .i64 y] 24)) w.heap.size (x, y) := PfAt.new w x y
  have hb0 : Below w.heap.size w (w.alloc (.cells #[.int .i64 x, .int .i64 y] 24)) := below_al (below_self _) _
  go_wp2_with fail
  go_loopw [9, 10] (fun u v wr => ∃ i j : Nat, i ≤ j ∧ j ≤ l.length ∧ u = .int .i64 i ∧ v = .int .i64 j ∧ Hid (Bur.AtP l (x, y) i j) ∧ Below w.heap.size w wr ∧ PfAt wr w.heap.size (x, y)) (fun u v _ => (intOf v - intOf u).toNat)
  case atStart => exact ⟨0, l.length, by omega, by omega, rfl, rfl, ⟨fun t h => by omega, fun t h1 h2 => by omega⟩, hb0, pb⟩
  case round =>
    obtain ⟨i, j, hij, hj, rfl, rfl, R, hb, pbw⟩ := hrel
    clear pb hb0
    by_cases hlt : i < j
    · have hlt' : (i : Int) < (j : Int) := by omega
      obtain ⟨h, hh⟩ : ∃ h : Nat, ((i : Int) + (j : Int)) / 2 = (h : Int) := ⟨(i + j) / 2, by omega⟩
      have hlo : i ≤ h := by omega
      have hhi : h < j := by omega
      have hhl : h < l.length := by omega
      have hh1 : (0 : Int) ≤ (h : Int) := by omega
      have hh2 : (h : Int) < (l.length : Int) := by omega
      obtain ⟨b, off, rfl, hbl, hc⟩ := hs (by omega)
      have hcb := bcell hb
      have c0 : wr.cell? ⟨b, off + h * 2, none⟩ = some (.int .i64 (lo l h)) := (hcb.1 _ _ hbl).trans (hc h hhl).1
      have c1 : wr.cell? ⟨b, off + h * 2 + 1, none⟩ = some (.int .i64 (hi l h)) := (hcb.1 _ _ hbl).trans (hc h hhl).2
      obtain ⟨p0, p1, p2⟩ := pbw
      have hbl2 : b < wr.heap.size := Nat.lt_of_lt_of_le hbl hb.size
      have hO := order (lo l h, hi l h) (x, y)
      have oL := Bur.ordP_lt (lo l h, hi l h) (x, y)
      obtain ⟨O, hOO⟩ : ∃ O, Bur.ordP (lo l h, hi l h) (x, y) = O := ⟨_, rfl⟩
      rw [hOO] at hO oL
      have up : Hid (O < 0 → Bur.AtP l (x, y) (h + 1) j) := fun g => R.out.up ht.out hhl (oL.1 g)
      have down : Hid (¬ O < 0 → Bur.AtP l (x, y) i h) := fun g => R.out.down ht.out (by
        cases e : Bur.ahd (l.getD h (0, 0)) (x, y) with
        | false => rfl
        | true => exact absurd (oL.2 e) g)
      have hij' : Hid (i ≤ j ∧ j ≤ l.length) := ⟨hij, hj⟩
      have hhij : Hid (i ≤ h ∧ h < j) := ⟨hlo, hhi⟩
      obtain ⟨u, hu⟩ : ∃ u, lo l h = u := ⟨_, rfl⟩
      obtain ⟨v, hv⟩ : ∃ v, hi l h = v := ⟨_, rfl⟩
      rw [hu] at c0
      rw [hv] at c1
      rw [hu, hv] at hO
      have hh0 : Hid _ := hh
      clear R hc hcb hs oL hOO hu hv hlo hhi ht
      cases hd : decide (O < 0)
      · have dn := down.out (by simpa using hd)
        have Dn : Hid _ := dn
        clear dn down up hh
        go_upto_region 5 with fail
        rw [hh0.out]
        clear hh0
        go_region_held3 (fun wy => wy.cell? ⟨b, off + h * 2, none⟩ = some (.int .i64 u) ∧ wy.cell? ⟨b, off + h * 2 + 1, none⟩ = some (.int .i64 v) ∧ wy.cell? ⟨w.heap.size, 0, none⟩ = some (.int .i64 x) ∧ wy.cell? ⟨w.heap.size, 1, none⟩ = some (.int .i64 y)) (first | exact ⟨c0, c1, p1, p2⟩ | exact ⟨d0, d1, d2, d3⟩)
          (first | (go_at_call 25; refine (hO _).mono ?_; rintro e w1 ⟨rfl, hb1⟩; have d0 := (hb1.cell (p := ⟨b, off + h * 2, none⟩) hbl2).trans c0; have d1 := (hb1.cell (p := ⟨b, off + h * 2 + 1, none⟩) hbl2).trans c1; have d2 := (hb1.cell (p := ⟨w.heap.size, 0, none⟩) p0).trans p1; have d3 := (hb1.cell (p := ⟨w.heap.size, 1, none⟩) p0).trans p2))
        have hb2 := below_via hb.drew hb1
        have q0 : w.heap.size < w1.heap.size := Nat.lt_of_lt_of_le p0 hb1.size
        clear hb1 c0 c1 p1 p2
        go_wp2_with fail
        exact ⟨⟨i, h, hhij.out.1, by have := hij'.out; have := hhij.out; omega, rfl, rfl, Dn, hb2, ⟨q0, d2, d3⟩⟩, by have := hhij.out; simp [intOf]; omega⟩
      · have dn := up.out (by simpa using hd)
        have Dn : Hid _ := dn
        clear dn down up hh
        go_upto_region 5 with fail
        rw [hh0.out]
        clear hh0
        go_region_held3 (fun wy => wy.cell? ⟨b, off + h * 2, none⟩ = some (.int .i64 u) ∧ wy.cell? ⟨b, off + h * 2 + 1, none⟩ = some (.int .i64 v) ∧ wy.cell? ⟨w.heap.size, 0, none⟩ = some (.int .i64 x) ∧ wy.cell? ⟨w.heap.size, 1, none⟩ = some (.int .i64 y)) (first | exact ⟨c0, c1, p1, p2⟩ | exact ⟨d0, d1, d2, d3⟩)
          (first | (go_at_call 25; refine (hO _).mono ?_; rintro e w1 ⟨rfl, hb1⟩; have d0 := (hb1.cell (p := ⟨b, off + h * 2, none⟩) hbl2).trans c0; have d1 := (hb1.cell (p := ⟨b, off + h * 2 + 1, none⟩) hbl2).trans c1; have d2 := (hb1.cell (p := ⟨w.heap.size, 0, none⟩) p0).trans p1; have d3 := (hb1.cell (p := ⟨w.heap.size, 1, none⟩) p0).trans p2))
        have hb2 := below_via hb.drew hb1
        have q0 : w.heap.size < w1.heap.size := Nat.lt_of_lt_of_le p0 hb1.size
        clear hb1 c0 c1 p1 p2
        go_wp2_with fail
        exact ⟨⟨h + 1, j, by have := hhij.out; omega, hij'.out.2, by go_num, rfl, Dn, hb2, ⟨q0, d2, d3⟩⟩, by have := hhij.out; simp [intOf]; omega⟩
    · have hji : j = i := by omega
      subst hji
      have hE := R.out.has ht.out
      by_cases hjl : j < l.length
      · have hjl' : (j : Int) < (l.length : Int) := by omega
        have hj0 : (0 : Int) ≤ (j : Int) := by omega
        obtain ⟨b, off, rfl, hbl, hc⟩ := hs (by omega)
        have hcb := bcell hb
        have c0 : wr.cell? ⟨b, off + j * 2, none⟩ = some (.int .i64 (lo l j)) := (hcb.1 _ _ hbl).trans (hc j hjl).1
        have c1 : wr.cell? ⟨b, off + j * 2 + 1, none⟩ = some (.int .i64 (hi l j)) := (hcb.1 _ _ hbl).trans (hc j hjl).2
        obtain ⟨p0, p1, p2⟩ := pbw
        have hbl2 : b < wr.heap.size := Nat.lt_of_lt_of_le hbl hb.size
        have hO := order (lo l j, hi l j) (x, y)
        have o0 := Bur.ordP_0 (lo l j, hi l j) (x, y)
        obtain ⟨O, hOO⟩ : ∃ O, Bur.ordP (lo l j, hi l j) (x, y) = O := ⟨_, rfl⟩
        rw [hOO] at hO o0
        have hP : Hid (Bur.hasP (x, y) l = (O == 0)) := by
          show _ = _
          rw [hE]
          simp only [hjl, decide_true, Bool.true_and]
          rw [Bool.eq_iff_iff, decide_eq_true_eq, beq_iff_eq]
          exact o0.symm
        obtain ⟨u, hu⟩ : ∃ u, lo l j = u := ⟨_, rfl⟩
        obtain ⟨v, hv⟩ : ∃ v, hi l j = v := ⟨_, rfl⟩
        rw [hu] at c0
        rw [hv] at c1
        rw [hu, hv] at hO
        have hg : decide ((j : Int) < (l.length : Int)) = true := by simp; omega
        clear hc hcb hs o0 hOO hu hv ht hE
        go_upto_region 8 with fail
        go_region_held3 (fun wy => wy.cell? ⟨b, off + j * 2, none⟩ = some (.int .i64 u) ∧ wy.cell? ⟨b, off + j * 2 + 1, none⟩ = some (.int .i64 v) ∧ wy.cell? ⟨w.heap.size, 0, none⟩ = some (.int .i64 x) ∧ wy.cell? ⟨w.heap.size, 1, none⟩ = some (.int .i64 y)) (first | exact ⟨c0, c1, p1, p2⟩ | exact ⟨d0, d1, d2, d3⟩)
          (first | (go_at_call 25; refine (hO _).mono ?_; rintro e w1 ⟨rfl, hb1⟩; have d0 := (hb1.cell (p := ⟨b, off + j * 2, none⟩) hbl2).trans c0; have d1 := (hb1.cell (p := ⟨b, off + j * 2 + 1, none⟩) hbl2).trans c1; have d2 := (hb1.cell (p := ⟨w.heap.size, 0, none⟩) p0).trans p1; have d3 := (hb1.cell (p := ⟨w.heap.size, 1, none⟩) p0).trans p2))
        have hb2 := below_via hb.drew hb1
        go_wp2_with fail
        go_ret2
        exact ⟨j, hj, R, by rw [hP.out]; rfl, hb2⟩
      · have hP : Hid (Bur.hasP (x, y) l = false) := by
          show _ = _
          rw [hE]
          simp [hjl]
        have hg : decide ((j : Int) < (l.length : Int)) = false := by simp; omega
        clear hs ht hE pbw
        go_upto_region 8 with fail
        go_quiet (fail)
        go_wp2_with fail
        go_ret2
        exact ⟨j, hj, R, by rw [hP.out]; rfl, below_drewN hb _⟩
end Go.Proofs.YtncimpicnhleeaaDoor
