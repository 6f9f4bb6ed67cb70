/- The contract of the reference's AboveOf. -/
import Derived.Test.YtncimpicnhleeaaDoorTrRefE
import Derived.Test.YtncimpicnhleeaaDoorTrMath4
namespace Bur
open Go
theorem abv_le {l : List Sp} {p : Sp} (h : treF l = 0) (hp : OkP p) : (abv l p).length ≤ 60 := by
  obtain ⟨o1, o2⟩ := treF_ok h
  rw [← abv_keep o2 hp]
  exact Nat.le_trans (List.length_filter_le _ _) o1
end Bur
namespace Go.Proofs.YtncimpicnhleeaaDoor
open Go.RowKit

set_option maxRecDepth 100000 in
set_option maxHeartbeats 8000000 in
theorem aboveOf (q : Option Addr) (cap : Nat) (l : List Bur.Sp) (p : Bur.Sp) (w : World) (hs : SpAt w q l) (hF : Bur.treF l = 0) (hp : Bur.OkP p) :
    Calls Tryd.prog 17 #[.slice q l.length cap, pfx p.1 p.2] w fun e w' => ∃ (p' : Option Addr) (cap' : Nat), e = .returned (.slice p' (Bur.abv l p).length cap') ∧ SpAt w' p' (Bur.abv l p) ∧ Below w.heap.size w w' := by
  obtain ⟨x, y⟩ := p
  obtain ⟨i0, hi0, hz0, hz1, hz2⟩ := info_parts info_pfx
  have hLEN := Bur.abv_le hF hp
  obtain ⟨hl, hT⟩ := Bur.treF_ok hF
  have hO : Hid (∀ p ∈ l, Bur.OkP p) := hT.2
  have hP : Hid (Bur.OkP (x, y)) := hp
  obtain ⟨y0, y1, _, _, _⟩ := Bur.fault_ok hp
  simp only at y0 y1
  obtain ⟨Y, hY⟩ : ∃ Y : Nat, y = (Y : Int) := ⟨y.toNat, by omega⟩
  subst hY
  have R0 : Hid (Bur.abv l (x, (Y : Int)) = [] ++ Bur.abN l (x, (Y : Int)) ((0 : Nat) : Int) (Y - 0)) := by
    show _ = _
    unfold Bur.abv
    simp
  obtain ⟨T, hTT⟩ : ∃ T, Bur.abv l (x, (Y : Int)) = T := ⟨_, rfl⟩
  rw [hTT] at hLEN R0 ⊢
  clear hF hp hT hTT
  have pb : PfAt (w.alloc (.cells #[.int .i64 x, .int .i64 (Y : Int)] 24)) w.heap.size (x, (Y : Int)) := PfAt.new w x Y
  have hb0 : Below w.heap.size w (w.alloc (.cells #[.int .i64 x, .int .i64 (Y : Int)] 24)) := below_al (below_self _) _
  have hs1 := hs.step hb0
  clear hs
  go_enter Tryd.func17, Tryd.ntmps17
  go_wp2_with fail
  generalize hW1 : w.alloc (.cells #[.int .i64 x, .int .i64 (Y : Int)] 24) = w1 at pb hb0 hs1 ⊢
  clear hW1
  go_loopw [5, 6] (fun v i wr => ∃ (n : Nat) (acc : List Bur.Sp), n ≤ Y ∧ i = .int .i64 n ∧ Hid (T = acc ++ Bur.abN l (x, (Y : Int)) (n : Int) (Y - n)) ∧ wr.ownsRow w1.heap.size 24 2 v acc.length (spV acc) ∧ Below w1.heap.size w1 wr) (fun _ i _ => Y - (intOf i).toNat)
  case atStart => exact ⟨0, [], by omega, rfl, R0, World.ownsRow_nil _ _ _ _, below_self _⟩
  case round =>
    obtain ⟨n, acc, hn, rfl, R, hown, hb⟩ := hrel
    have pbw := pb.step hb
    obtain ⟨p0, p1, p2⟩ := pbw
    by_cases hlt : n < Y
    · have hlt' : (n : Int) < (Y : Int) := by omega
      obtain ⟨m, hm⟩ : ∃ m, Y - n = m + 1 := ⟨Y - n - 1, by omega⟩
      have hm2 : Y - (n + 1) = m := by omega
      have S0 : Hid (T = acc ++ ((l.drop 0).filter (fun q => decide (q.2 = (n : Int)) && Bur.inP (x, (Y : Int)) q) ++ Bur.abN l (x, (Y : Int)) ((n + 1 : Nat) : Int) m)) := by
        show _ = _
        rw [R.out, hm, Bur.abN]
        rfl
      have hM2 : Hid _ := hm2
      have hnM : Hid (n + 1 ≤ Y ∧ Y - (n + 1) < Y - n) := ⟨by omega, by omega⟩
      clear R hm hm2 R0
      go_wp2_with fail
      go_loopw [5, 7] (fun v i wr => ∃ (k : Nat) (acc : List Bur.Sp), k ≤ l.length ∧ i = .int .i64 k ∧ Hid (T = acc ++ ((l.drop k).filter (fun q => decide (q.2 = (n : Int)) && Bur.inP (x, (Y : Int)) q) ++ Bur.abN l (x, (Y : Int)) ((n + 1 : Nat) : Int) m)) ∧ wr.ownsRow w1.heap.size 24 2 v acc.length (spV acc) ∧ Below w1.heap.size w1 wr) (fun _ i _ => l.length - (intOf i).toNat)
      case atStart => exact ⟨0, acc, by omega, rfl, S0, hown, hb⟩
      case round =>
        clear hown hb p0 p1 p2 S0
        obtain ⟨k, acc2, hk, rfl, R, hown, hb⟩ := hrel
        have hsz := hb.size
        by_cases hkl : k < l.length
        · have hkl' : (k : Int) < (l.length : Int) := by omega
          obtain ⟨b, off, rfl, hbl, hc⟩ := hs1 (by omega)
          have c0 : wr.cell? ⟨b, off + k * 2, none⟩ = some (.int .i64 (lo l k)) := (hb.cell (p := ⟨b, off + k * 2, none⟩) hbl).trans (hc k hkl).1
          have c1 : wr.cell? ⟨b, off + k * 2 + 1, none⟩ = some (.int .i64 (hi l k)) := (hb.cell (p := ⟨b, off + k * 2 + 1, none⟩) hbl).trans (hc k hkl).2
          have hok := ok_at hO.out hkl
          have R1 := R.out
          rw [drop_sp hkl, List.filter_cons] at R1
          have hal : acc2.length ≤ 60 := by
            have := congrArg List.length R1
            rw [List.length_append] at this
            omega
          obtain ⟨u, hu⟩ : ∃ u, lo l k = u := ⟨_, rfl⟩
          obtain ⟨v2, hv⟩ : ∃ v, hi l k = v := ⟨_, rfl⟩
          rw [hu] at c0
          rw [hv] at c1
          rw [hu, hv] at hok R1
          obtain ⟨p0, p1, p2⟩ := pb.step hb
          have hbl2 : b < wr.heap.size := by omega
          have hI := fun w => refInP (x, (Y : Int)) (u, v2) w hP.out hok
          obtain ⟨I, hII⟩ : ∃ I, Bur.inP (x, (Y : Int)) (u, v2) = I := ⟨_, rfl⟩
          rw [hII] at hI R1
          have hk1 : Hid (k + 1 ≤ l.length ∧ l.length - (k + 1) < l.length - k) := ⟨by omega, by omega⟩
          clear hc hs1 hok hu hv R hII
          cases hE : (v2 == (n : Int))
          · have R2 : Hid (T = acc2 ++ ((l.drop (k + 1)).filter (fun q => decide (q.2 = (n : Int)) && Bur.inP (x, (Y : Int)) q) ++ Bur.abN l (x, (Y : Int)) ((n + 1 : Nat) : Int) m)) := by
              show _ = _
              rw [R1, if_neg]
              have : ¬ (v2 = (n : Int)) := by simpa using hE
              simp [this]
            clear R1
            go_upto_region 8 with fail
            go_region_held3 (fun wy => wy.cell? ⟨b, off + k * 2, none⟩ = some (.int .i64 u) ∧ wy.cell? ⟨b, off + k * 2 + 1, none⟩ = some (.int .i64 v2) ∧ wy.cell? ⟨w.heap.size, 0, none⟩ = some (.int .i64 x) ∧ wy.cell? ⟨w.heap.size, 1, none⟩ = some (.int .i64 (Y : Int))) (first | exact ⟨c0, c1, p1, p2⟩ | exact ⟨d0, d1, d2, d3⟩)
              (first | (go_at_call 39; refine (hI _).mono ?_; rintro e w3 ⟨rfl, hb5⟩; have d0 := (hb5.cell (p := ⟨b, off + k * 2, none⟩) hbl2).trans c0; have d1 := (hb5.cell (p := ⟨b, off + k * 2 + 1, none⟩) hbl2).trans c1; have d2 := (hb5.cell (p := ⟨w.heap.size, 0, none⟩) p0).trans p1; have d3 := (hb5.cell (p := ⟨w.heap.size, 1, none⟩) p0).trans p2))
            have hb6 := below_via hb.drew hb5
            have hown2 := own_below (own_below hown (below_self _).drew) hb5
            clear hb5 c0 c1 p1 p2 hown hb
            go_wp2_with fail
            exact ⟨⟨k + 1, acc2, hk1.out.1, by go_num, R2, hown2, hb6⟩, by simp [intOf]; omega⟩
          · cases I
            · have R2 : Hid (T = acc2 ++ ((l.drop (k + 1)).filter (fun q => decide (q.2 = (n : Int)) && Bur.inP (x, (Y : Int)) q) ++ Bur.abN l (x, (Y : Int)) ((n + 1 : Nat) : Int) m)) := by
                show _ = _
                rw [R1, if_neg]
                simp
              clear R1
              go_upto_region 8 with fail
              go_region_held3 (fun wy => wy.cell? ⟨b, off + k * 2, none⟩ = some (.int .i64 u) ∧ wy.cell? ⟨b, off + k * 2 + 1, none⟩ = some (.int .i64 v2) ∧ wy.cell? ⟨w.heap.size, 0, none⟩ = some (.int .i64 x) ∧ wy.cell? ⟨w.heap.size, 1, none⟩ = some (.int .i64 (Y : Int))) (first | exact ⟨c0, c1, p1, p2⟩ | exact ⟨d0, d1, d2, d3⟩)
                (first | (go_at_call 39; refine (hI _).mono ?_; rintro e w3 ⟨rfl, hb5⟩; have d0 := (hb5.cell (p := ⟨b, off + k * 2, none⟩) hbl2).trans c0; have d1 := (hb5.cell (p := ⟨b, off + k * 2 + 1, none⟩) hbl2).trans c1; have d2 := (hb5.cell (p := ⟨w.heap.size, 0, none⟩) p0).trans p1; have d3 := (hb5.cell (p := ⟨w.heap.size, 1, none⟩) p0).trans p2))
              have hb6 := below_via hb.drew hb5
              have hown2 := own_below (own_below hown (below_self _).drew) hb5
              clear hb5 c0 c1 p1 p2 hown hb
              go_wp2_with fail
              exact ⟨⟨k + 1, acc2, hk1.out.1, by go_num, R2, hown2, hb6⟩, by simp [intOf]; omega⟩
            · have R2 : Hid (T = (acc2 ++ [(u, v2)]) ++ ((l.drop (k + 1)).filter (fun q => decide (q.2 = (n : Int)) && Bur.inP (x, (Y : Int)) q) ++ Bur.abN l (x, (Y : Int)) ((n + 1 : Nat) : Int) m)) := by
                show _ = _
                rw [R1, if_pos (show (decide (v2 = (n : Int)) && true) = true from by rw [show decide (v2 = (n : Int)) = true from by simpa using hE]; rfl)]
                simp
              clear R1
              go_upto_region 8 with fail
              go_region_held3 (fun wy => wy.cell? ⟨b, off + k * 2, none⟩ = some (.int .i64 u) ∧ wy.cell? ⟨b, off + k * 2 + 1, none⟩ = some (.int .i64 v2) ∧ wy.cell? ⟨w.heap.size, 0, none⟩ = some (.int .i64 x) ∧ wy.cell? ⟨w.heap.size, 1, none⟩ = some (.int .i64 (Y : Int))) (first | exact ⟨c0, c1, p1, p2⟩ | exact ⟨d0, d1, d2, d3⟩)
                (first | (go_at_call 39; refine (hI _).mono ?_; rintro e w3 ⟨rfl, hb5⟩; have d0 := (hb5.cell (p := ⟨b, off + k * 2, none⟩) hbl2).trans c0; have d1 := (hb5.cell (p := ⟨b, off + k * 2 + 1, none⟩) hbl2).trans c1; have d2 := (hb5.cell (p := ⟨w.heap.size, 0, none⟩) p0).trans p1; have d3 := (hb5.cell (p := ⟨w.heap.size, 1, none⟩) p0).trans p2))
              have hb6 := below_via hb.drew hb5
              have hown2 := own_below (own_below hown (below_self _).drew) hb5
              have hsz2 := hb6.size
              have k3 : acc2.length + 1 ≤ maxLen := by unfold maxLen; omega
              have k4 : (acc2.length + 1) * 16 ≤ 140737488355328 := by omega
              have k5 : w1.heap.size ≤ (w3.alloc (.cells #[.int .i64 u, .int .i64 v2] 24)).heap.size := by simp; omega
              clear hb5 c0 c1 p1 p2 hown hb
              go_wp2_with (at_builtin; refine wpList_append_own _ rfl _ _ 22 rfl w1.heap.size 24 i0 (.agg #[.int .i64 0, .int .i64 0]) 2 16 Tryd.underlying22 hi0 hz0 hz1 hz2 rfl (by decide) _ _ _ rfl (hown2.alloc _) ⟨w3.heap.size, 0, none⟩ 1 1 [.int .i64 u, .int .i64 v2] rfl rfl (two_cells _ u v2) (two_one u v2) k3 k4 k5 ?_)
              intro v' w4 hown3 hgrow _
              have hb7 : Below w1.heap.size w1 w4 := (below_al hb6 _).grown hgrow (by simp; omega) (fun j hj => (hown2.lt j hj).1)
              clear hown2 hgrow
              go_wp2
              exact ⟨⟨k + 1, acc2 ++ [(u, v2)], hk1.out.1, by go_num, R2, by simpa [spV_app, spV] using hown3, hb7⟩, by simp [intOf]; omega⟩
        · have R2 : Hid (T = acc2 ++ Bur.abN l (x, (Y : Int)) ((n + 1 : Nat) : Int) (Y - (n + 1))) := by
            show _ = _
            rw [R.out, List.drop_eq_nil_of_le (by omega), hM2.out]
            simp
          clear R hs1
          go_wp2_with fail
          exact ⟨⟨n + 1, acc2, hnM.out.1, by go_num, R2, hown, hb⟩, by simp [intOf]; omega⟩
    · have R2 : Hid (T = acc) := by
        show _ = _
        rw [R.out, show Y - n = 0 from by omega, Bur.abN]
        simp
      have hb9 := below_via hb0 hb
      rw [← R2.out] at hown
      clear R R2 R0 hs1 hO hP
      go_wp2_with fail
      rcases hown.2 with ⟨rfl, h0⟩ | ⟨g2, cp, cur', rfl, _⟩
      · go_ret
        first | exact ⟨none, 0, by rw [h0]; rfl, fun h => by omega, hb9⟩ | exact ⟨none, ⟨0, by rw [h0]; rfl⟩, fun h => by omega, hb9⟩
      · go_ret
        first | exact ⟨some ⟨g2, 0, none⟩, cp, rfl, (spAt_own hown).2, hb9⟩ | exact ⟨some ⟨g2, 0, none⟩, ⟨cp, rfl⟩, (spAt_own hown).2, hb9⟩
end Go.Proofs.YtncimpicnhleeaaDoor
