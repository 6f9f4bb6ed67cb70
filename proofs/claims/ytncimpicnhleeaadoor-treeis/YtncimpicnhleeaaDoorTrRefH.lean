/- The contract of the reference's BelowOf at one prefix. -/
import Derived.Test.YtncimpicnhleeaaDoorTrRefG
import Derived.Deep.CutBlock
namespace Go.Proofs.YtncimpicnhleeaaDoor
open Go.RowKit

set_option maxRecDepth 100000 in
set_option maxHeartbeats 16000000 in
theorem belowOfF (q : Option Addr) (cap : Nat) (l : List Bur.Sp) (p : Bur.Sp) (w : World) (hs : SpAt w q l) (hF : Bur.treF l = 0) (hp : Bur.OkP p) :
    Calls Tryd.prog 18 #[.slice q l.length cap, pfx p.1 p.2, .bool false] w fun e w' => ∃ (p' : Option Addr) (cap' : Nat), e = .returned (.slice p' (Bur.blw l p false).length cap') ∧ SpAt w' p' (Bur.blw l p false) ∧ Below w.heap.size w w' := by
  obtain ⟨x, y⟩ := p
  obtain ⟨i0, hi0, hz0, hz1, hz2⟩ := info_parts info_pfx
  obtain ⟨hl, hT⟩ := Bur.treF_ok hF
  have hO : Hid (∀ p ∈ l, Bur.OkP p) := hT.2
  have hP : Hid (Bur.OkP (x, y)) := hp
  have R0 : Hid (Bur.blw l (x, y) false = [] ++ (l.drop 0).filter (fun q => Bur.gA false (x, y) q && !l.any (Bur.hA false (x, y) q))) := rfl
  obtain ⟨T, hTT⟩ : ∃ T, Bur.blw l (x, y) false = T := ⟨_, rfl⟩
  rw [hTT] at R0 ⊢
  clear hF hT hTT hp
  have pb : PfAt (w.alloc (.cells #[.int .i64 x, .int .i64 y] 24)) w.heap.size (x, y) := PfAt.new w x y
  have hb0 : Below w.heap.size w (w.alloc (.cells #[.int .i64 x, .int .i64 y] 24)) := below_al (below_self _) _
  have hs1 := hs.step hb0
  clear hs
  go_enter Tryd.func18, Tryd.ntmps18
  go_wp2_with fail
  generalize hW1 : w.alloc (.cells #[.int .i64 x, .int .i64 y] 24) = w1 at pb hb0 hs1 ⊢
  clear hW1
  go_loopw [7, 8] (fun v i wr => ∃ (k : Nat) (acc : List Bur.Sp), k ≤ l.length ∧ i = .int .i64 k ∧ acc.length ≤ k ∧ Hid (T = acc ++ (l.drop k).filter (fun q => Bur.gA false (x, y) q && !l.any (Bur.hA false (x, y) q))) ∧ wr.ownsRow w1.heap.size 24 2 v acc.length (spV acc) ∧ Below w1.heap.size w1 wr) (fun _ i _ => l.length - (intOf i).toNat)
  case atStart => exact ⟨0, [], by omega, rfl, by simp, R0, World.ownsRow_nil _ _ _ _, below_self _⟩
  case round =>
    obtain ⟨i, acc, hile, rfl, hacc, R, hown, hb⟩ := hrel
    have hsz := hb.size
    clear R0
    by_cases hlt : i < l.length
    · have hlt' : (i : Int) < (l.length : Int) := by omega
      obtain ⟨b, off, rfl, hbl, hc0⟩ := hs1 (by omega)
      have c0 : wr.cell? ⟨b, off + i * 2, none⟩ = some (.int .i64 (lo l i)) := (hb.cell (p := ⟨b, off + i * 2, none⟩) hbl).trans (hc0 i hlt).1
      have c1 : wr.cell? ⟨b, off + i * 2 + 1, none⟩ = some (.int .i64 (hi l i)) := (hb.cell (p := ⟨b, off + i * 2 + 1, none⟩) hbl).trans (hc0 i hlt).2
      have hok := ok_at hO.out hlt
      have R1 := R.out
      rw [drop_sp hlt, List.filter_cons] at R1
      obtain ⟨u, hu⟩ : ∃ u, lo l i = u := ⟨_, rfl⟩
      obtain ⟨v, hv⟩ : ∃ v, hi l i = v := ⟨_, rfl⟩
      rw [hu] at c0
      rw [hv] at c1
      rw [hu, hv] at hok R1
      have HU : Hid _ := hu
      have HV : Hid _ := hv
      have hokH : Hid _ := hok
      have hi1 : Hid (i + 1 ≤ l.length ∧ l.length - (i + 1) < l.length - i) := ⟨by omega, by omega⟩
      have hacc1 : Hid (acc.length ≤ i + 1) := by show _ ≤ _; omega
      obtain ⟨p0, p1, p2⟩ := pb.step hb
      have hbl2 : b < wr.heap.size := by omega
      clear hs1 R hu hv
      have hS := refSame (u, v) (x, y)
      have hI := fun w => refInP (u, v) (x, y) w hok hP.out
      obtain ⟨s1, hs1e⟩ : ∃ s, Bur.sm (u, v) (x, y) = s := ⟨_, rfl⟩
      obtain ⟨n1, hn1e⟩ : ∃ s, Bur.inP (u, v) (x, y) = s := ⟨_, rfl⟩
      have hG : Bur.gA false (x, y) (u, v) = (!s1 && n1) := by
        show (false || (!Bur.sm (u, v) (x, y) && Bur.inP (u, v) (x, y))) = _
        rw [hs1e, hn1e, Bool.false_or]
      rw [hG] at R1
      rw [hs1e] at hS
      rw [hn1e] at hI
      clear hG hs1e hn1e
      go_upto_region 5 with fail
      go_cut [36] from 18 to 35 (fun c wy => c = .bool (!(!s1 && n1)) ∧ Below wr.heap.size wr wy)
      case first =>
        clear R1
        cases s1
        · go_region_held3 (fun wy => wy.cell? ⟨b, off + i * 2, none⟩ = some (.int .i64 u) ∧ wy.cell? ⟨b, off + i * 2 + 1, none⟩ = some (.int .i64 v) ∧ wy.cell? ⟨w.heap.size, 0, none⟩ = some (.int .i64 x) ∧ wy.cell? ⟨w.heap.size, 1, none⟩ = some (.int .i64 y)) (first | exact ⟨c0, c1, p1, p2⟩ | exact ⟨d0, d1, d2, d3⟩ | exact ⟨f0, f1, f2, f3⟩)
            (first
              | (go_at_call 26; refine (hS _).mono ?_; rintro e w3 ⟨rfl, hb5⟩; have d0 := (hb5.cell (p := ⟨b, off + i * 2, none⟩) hbl2).trans c0; have d1 := (hb5.cell (p := ⟨b, off + i * 2 + 1, none⟩) hbl2).trans c1; have d2 := (hb5.cell (p := ⟨w.heap.size, 0, none⟩) p0).trans p1; have d3 := (hb5.cell (p := ⟨w.heap.size, 1, none⟩) p0).trans p2; have r0 : w.heap.size < w3.heap.size := Nat.lt_of_lt_of_le p0 hb5.size; have hbl3 : b < w3.heap.size := Nat.lt_of_lt_of_le hbl2 hb5.size)
              | (go_at_call 39; refine (hI _).mono ?_; rintro e w4 ⟨rfl, hb7⟩; have f0 := (hb7.cell (p := ⟨b, off + i * 2, none⟩) hbl3).trans d0; have f1 := (hb7.cell (p := ⟨b, off + i * 2 + 1, none⟩) hbl3).trans d1; have f2 := (hb7.cell (p := ⟨w.heap.size, 0, none⟩) r0).trans d2; have f3 := (hb7.cell (p := ⟨w.heap.size, 1, none⟩) r0).trans d3))
          have hb8 := below_via (below_via (below_self wr).drew hb5) hb7
          clear d0 d1 d2 d3 hb5 hb7
          go_wp2_with fail
          go_meet
          case rel => exact ⟨rfl, hb8⟩
        · refine wp_region_held_drew (S := (fun wy => wy.cell? ⟨b, off + i * 2, none⟩ = some (.int .i64 u) ∧ wy.cell? ⟨b, off + i * 2 + 1, none⟩ = some (.int .i64 v) ∧ wy.cell? ⟨w.heap.size, 0, none⟩ = some (.int .i64 x) ∧ wy.cell? ⟨w.heap.size, 1, none⟩ = some (.int .i64 y))) (by kernel_rfl) ⟨c0, c1, p1, p2⟩ (fun hHeld0 => ?_)
          refine wpAnyH_take (i := 0) (oi := ⟨_, _, _, _, _, _⟩) (v := ?_) rfl (by kernel_rfl) (by kernel_rfl) (by kernel_rfl) (fun _ _ _ h => h) (Or.inl ⟨by rfl, ?_⟩) (by assumption) ?_
          rotate_left
          · (intro w hSw; (try dsimp only at hSw); go_simp; try with_reducible rfl)
          try simp only [Act.put, List.setIfInBounds_toArray, List.set_cons_zero, List.set_cons_succ]
          refine wpAnyH_take (i := 1) (oi := ⟨_, _, _, _, _, _⟩) (v := ?_) rfl (by kernel_rfl) (by kernel_rfl) (by kernel_rfl) (fun _ _ _ h => h) (Or.inl ⟨by rfl, ?_⟩) (by assumption) ?_
          rotate_left
          · (intro w hSw; (try dsimp only at hSw); go_simp; try with_reducible rfl)
          try simp only [Act.put, List.setIfInBounds_toArray, List.set_cons_zero, List.set_cons_succ]
          refine wpAnyH_take (i := 2) (oi := ⟨_, _, _, _, _, _⟩) (v := ?_) rfl (by kernel_rfl) (by kernel_rfl) (by kernel_rfl) (fun _ _ _ h => h) (Or.inl ⟨by rfl, ?_⟩) (by assumption) ?_
          rotate_left
          · (intro w hSw; (try dsimp only at hSw); go_simp; try with_reducible rfl)
          try simp only [Act.put, List.setIfInBounds_toArray, List.set_cons_zero, List.set_cons_succ]
          refine wpAnyH_take (i := 3) (oi := ⟨_, _, _, _, _, _⟩) (v := ?_) rfl (by kernel_rfl) (by kernel_rfl) (by kernel_rfl) (fun _ _ _ h => h) (Or.inl ⟨by rfl, ?_⟩) (by assumption) ?_
          rotate_left
          · (intro w hSw; (try dsimp only at hSw); go_simp; try with_reducible rfl)
          try simp only [Act.put, List.setIfInBounds_toArray, List.set_cons_zero, List.set_cons_succ]
          refine wpAnyH_take (i := 4) (oi := ⟨_, _, _, _, _, _⟩) (v := ?_) rfl (by kernel_rfl) (by kernel_rfl) (by kernel_rfl) (fun _ _ _ h => h) (Or.inl ⟨by rfl, ?_⟩) (by assumption) ?_
          rotate_left
          · (intro w hSw; (try dsimp only at hSw); go_simp; try with_reducible rfl)
          try simp only [Act.put, List.setIfInBounds_toArray, List.set_cons_zero, List.set_cons_succ]
          refine wpAnyH_take (i := 5) (oi := ⟨_, _, _, _, _, _⟩) (v := ?_) rfl (by kernel_rfl) (by kernel_rfl) (by kernel_rfl) (fun _ _ _ h => h) (Or.inl ⟨by rfl, ?_⟩) (by assumption) ?_
          rotate_left
          · (intro w hSw; (try dsimp only at hSw); go_simp; try with_reducible rfl)
          try simp only [Act.put, List.setIfInBounds_toArray, List.set_cons_zero, List.set_cons_succ]
          refine wpAnyH_take (i := 6) (oi := ⟨_, _, _, _, _, _⟩) (v := ?_) rfl (by kernel_rfl) (by kernel_rfl) (by kernel_rfl) (fun _ _ _ h => h) (Or.inl ⟨by rfl, ?_⟩) (by assumption) ?_
          rotate_left
          · (intro w hSw; (try dsimp only at hSw); go_simp; try with_reducible rfl)
          try simp only [Act.put, List.setIfInBounds_toArray, List.set_cons_zero, List.set_cons_succ]
          refine wpAnyH_take (i := 7) (oi := ⟨_, _, _, _, _, _⟩) (v := ?_) rfl (by kernel_rfl) (by kernel_rfl) (by kernel_rfl) (fun _ _ _ h => h) (Or.inl ⟨by rfl, ?_⟩) (by assumption) ?_
          rotate_left
          · (intro w hSw; (try dsimp only at hSw); go_simp; try with_reducible rfl)
          try simp only [Act.put, List.setIfInBounds_toArray, List.set_cons_zero, List.set_cons_succ]
          refine wpAnyH_ready (rs := [8]) (by kernel_rfl) (by simp) ?_
          refine AllReadyH.cons (o := ⟨_, _, _, _, _, _⟩) rfl (fun K hK => ?_) AllReadyH.nil
          go_simp
          refine (hS _).mono ?_
          rintro e w3 ⟨rfl, hb5⟩
          have d0 := (hb5.cell (p := ⟨b, off + i * 2, none⟩) hbl2).trans c0
          have d1 := (hb5.cell (p := ⟨b, off + i * 2 + 1, none⟩) hbl2).trans c1
          have d2 := (hb5.cell (p := ⟨w.heap.size, 0, none⟩) p0).trans p1
          have d3 := (hb5.cell (p := ⟨w.heap.size, 1, none⟩) p0).trans p2
          refine hK.out _ _ ⟨d0, d1, d2, d3⟩ (fun hHeld1 => ?_)
          clear hK K
          try simp only [Act.put, List.setIfInBounds_toArray, List.set_cons_zero, List.set_cons_succ]
          refine wpAnyH_take (i := 9) (oi := ⟨_, _, _, _, _, _⟩) (v := ?_) rfl (by kernel_rfl) (by kernel_rfl) (by kernel_rfl) (fun _ _ _ h => h) (Or.inl ⟨by rfl, ?_⟩) (by assumption) ?_
          rotate_left
          · (intro w hSw; (try dsimp only at hSw); go_simp; try with_reducible rfl)
          try simp only [Act.put, List.setIfInBounds_toArray, List.set_cons_zero, List.set_cons_succ]
          refine wpAnyH_take (i := 10) (oi := ⟨_, _, _, _, _, _⟩) (v := undef) rfl (by kernel_rfl) (by kernel_rfl) (by kernel_rfl) (fun _ _ _ h => h) (Or.inr ⟨by rfl, rfl⟩) (by assumption) ?_
          try simp only [Act.put, List.setIfInBounds_toArray, List.set_cons_zero, List.set_cons_succ]
          refine wpAnyH_take (i := 11) (oi := ⟨_, _, _, _, _, _⟩) (v := undef) rfl (by kernel_rfl) (by kernel_rfl) (by kernel_rfl) (fun _ _ _ h => h) (Or.inr ⟨by rfl, rfl⟩) (by assumption) ?_
          try simp only [Act.put, List.setIfInBounds_toArray, List.set_cons_zero, List.set_cons_succ]
          refine wpAnyH_take (i := 12) (oi := ⟨_, _, _, _, _, _⟩) (v := undef) rfl (by kernel_rfl) (by kernel_rfl) (by kernel_rfl) (fun _ _ _ h => h) (Or.inr ⟨by rfl, rfl⟩) (by assumption) ?_
          try simp only [Act.put, List.setIfInBounds_toArray, List.set_cons_zero, List.set_cons_succ]
          refine wpAnyH_take (i := 13) (oi := ⟨_, _, _, _, _, _⟩) (v := undef) rfl (by kernel_rfl) (by kernel_rfl) (by kernel_rfl) (fun _ _ _ h => h) (Or.inr ⟨by rfl, rfl⟩) (by assumption) ?_
          try simp only [Act.put, List.setIfInBounds_toArray, List.set_cons_zero, List.set_cons_succ]
          refine wpAnyH_take (i := 14) (oi := ⟨_, _, _, _, _, _⟩) (v := undef) rfl (by kernel_rfl) (by kernel_rfl) (by kernel_rfl) (fun _ _ _ h => h) (Or.inr ⟨by rfl, rfl⟩) (by assumption) ?_
          try simp only [Act.put, List.setIfInBounds_toArray, List.set_cons_zero, List.set_cons_succ]
          refine wpAnyH_take (i := 15) (oi := ⟨_, _, _, _, _, _⟩) (v := undef) rfl (by kernel_rfl) (by kernel_rfl) (by kernel_rfl) (fun _ _ _ h => h) (Or.inr ⟨by rfl, rfl⟩) (by assumption) ?_
          try simp only [Act.put, List.setIfInBounds_toArray, List.set_cons_zero, List.set_cons_succ]
          refine wpAnyH_take (i := 16) (oi := ⟨_, _, _, _, _, _⟩) (v := undef) rfl (by kernel_rfl) (by kernel_rfl) (by kernel_rfl) (fun _ _ _ h => h) (Or.inr ⟨by rfl, rfl⟩) (by assumption) ?_
          try simp only [Act.put, List.setIfInBounds_toArray, List.set_cons_zero, List.set_cons_succ]
          refine wpAnyH_take (i := 17) (oi := ⟨_, _, _, _, _, _⟩) (v := ?_) rfl (by kernel_rfl) (by kernel_rfl) (by kernel_rfl) (fun _ _ _ h => h) (Or.inl ⟨by rfl, ?_⟩) (by assumption) ?_
          rotate_left
          · (intro w hSw; (try dsimp only at hSw); go_simp; try with_reducible rfl)
          try simp only [Act.put, List.setIfInBounds_toArray, List.set_cons_zero, List.set_cons_succ]
          refine wpAnyH_take (i := 18) (oi := ⟨_, _, _, _, _, _⟩) (v := ?_) rfl (by kernel_rfl) (by kernel_rfl) (by kernel_rfl) (fun _ _ _ h => h) (Or.inl ⟨by rfl, ?_⟩) (by assumption) ?_
          rotate_left
          · (intro w hSw; (try dsimp only at hSw); go_simp; try with_reducible rfl)
          try simp only [Act.put, List.setIfInBounds_toArray, List.set_cons_zero, List.set_cons_succ]
          refine wpAnyH_done (by kernel_rfl) ?_ _
          have hb8 := below_via (below_self wr).drew hb5
          clear hb5
          go_wp2_with fail
          go_meet
          case rel => exact ⟨rfl, hb8⟩
      case rest =>
      obtain ⟨rfl, hbc⟩ := hcut
      obtain ⟨G, hGG⟩ : ∃ G, (!s1 && n1) = G := ⟨_, rfl⟩
      rw [hGG] at R1 ⊢
      clear hGG hS hI
      cases G
      · have R2 : Hid (T = acc ++ (l.drop (i + 1)).filter (fun q => Bur.gA false (x, y) q && !l.any (Bur.hA false (x, y) q))) := by
          show _ = _
          rw [R1, if_neg (by simp)]
        have hb9 := below_via hb hbc
        have hown9 := own_below hown hbc
        clear R1 hb hbc hown c0 c1 p1 p2
        go_wp2_with fail
        exact ⟨⟨i + 1, acc, hi1.out.1, by go_num, hacc1.out, R2, hown9, hb9⟩, by simp [intOf]; omega⟩
      · obtain ⟨W, hWW⟩ : ∃ W, W = wc := ⟨_, rfl⟩
        subst hWW
        have hb9 := below_via hb hbc
        have hown9 := own_below hown hbc
        obtain ⟨p0', p1', p2'⟩ := pb.step hb9
        have sl9 : SpC W b off l := fun j hj => ⟨(hb9.cell (p := ⟨b, off + j * 2, none⟩) hbl).trans (hc0 j hj).1, (hb9.cell (p := ⟨b, off + j * 2 + 1, none⟩) hbl).trans (hc0 j hj).2⟩
        have hblW : b < W.heap.size := Nat.lt_of_lt_of_le hbl hb9.size
        clear hb hbc hown c0 c1 p0 p1 p2 hbl2
        go_upto_block 2 with fail
        go_cut [9, 10, 11] from 37 to 87 (fun hv _ _ wy => hv = .bool (l.any (Bur.hA false (x, y) (u, v))) ∧ Below W.heap.size W wy)
        case rest =>
          obtain ⟨rfl, hb10⟩ := hcut
          have hb11 := below_via hb9 hb10
          have hown11 := own_below hown9 hb10
          have k0 : wc.cell? ⟨b, off + i * 2, none⟩ = some (.int .i64 u) := by rw [← HU.out]; exact (hb10.cell (p := ⟨b, off + i * 2, none⟩) hblW).trans (sl9 i hlt).1
          have k1 : wc.cell? ⟨b, off + i * 2 + 1, none⟩ = some (.int .i64 v) := by rw [← HV.out]; exact (hb10.cell (p := ⟨b, off + i * 2 + 1, none⟩) hblW).trans (sl9 i hlt).2
          obtain ⟨h, hh⟩ : ∃ h, l.any (Bur.hA false (x, y) (u, v)) = h := ⟨_, rfl⟩
          rw [hh] at R1 ⊢
          clear hh hb10 hb9 hown9 sl9 p1' p2'
          cases h
          · have R2 : Hid (T = (acc ++ [(u, v)]) ++ (l.drop (i + 1)).filter (fun q => Bur.gA false (x, y) q && !l.any (Bur.hA false (x, y) q))) := by
              show _ = _
              rw [R1, if_pos (by rfl)]
              simp
            have hsz2 := hb11.size
            have k3 : acc.length + 1 ≤ maxLen := by unfold maxLen; omega
            have k4 : (acc.length + 1) * 16 ≤ 140737488355328 := by omega
            have k5 : w1.heap.size ≤ (wc.alloc (.cells #[.int .i64 u, .int .i64 v] 24)).heap.size := by simp; omega
            clear R1
            go_wp2_with (at_builtin; refine wpList_append_own _ rfl _ _ 22 rfl w1.heap.size 24 i0 (.agg #[.int .i64 0, .int .i64 0]) 2 16 Tryd.underlying22 hi0 hz0 hz1 hz2 rfl (by decide) _ _ _ rfl (hown11.alloc _) ⟨wc.heap.size, 0, none⟩ 1 1 [.int .i64 u, .int .i64 v] rfl rfl (two_cells _ u v) (two_one u v) k3 k4 k5 ?_)
            intro v' w4 hown3 hgrow _
            have hb7 : Below w1.heap.size w1 w4 := (below_al hb11 _).grown hgrow (by simp; omega) (fun j hj => (hown11.lt j hj).1)
            clear hown11 hgrow hb11
            go_wp2
            exact ⟨⟨i + 1, acc ++ [(u, v)], hi1.out.1, by go_num, by simp; omega, R2, by simpa [spV_app, spV] using hown3, hb7⟩, by simp [intOf]; omega⟩
          · have R2 : Hid (T = acc ++ (l.drop (i + 1)).filter (fun q => Bur.gA false (x, y) q && !l.any (Bur.hA false (x, y) q))) := by
              show _ = _
              rw [R1, if_neg (by simp)]
            clear R1
            go_wp2_with fail
            exact ⟨⟨i + 1, acc, hi1.out.1, by go_num, hacc1.out, R2, hown11, hb11⟩, by simp [intOf]; omega⟩
        case first =>
        clear R1 hown9 hb9
        go_wp2_with fail
        go_loopw [9, 10] (fun hv kv wr => ∃ (k : Nat) (h : Bool), k ≤ l.length ∧ kv = .int .i64 k ∧ hv = .bool h ∧ Hid (l.any (Bur.hA false (x, y) (u, v)) = (h || (l.drop k).any (Bur.hA false (x, y) (u, v)))) ∧ Below W.heap.size W wr) (fun _ kv _ => l.length - (intOf kv).toNat)
        case atStart => exact ⟨0, false, by omega, rfl, rfl, by (show _ = _; simp), below_self _⟩
        case round =>
          obtain ⟨k, h, hk, rfl, rfl, R, hbk⟩ := hrel
          by_cases hkl : k < l.length
          · have hkl' : (k : Int) < (l.length : Int) := by omega
            have R1 := R.out
            rw [drop_sp hkl, List.any_cons] at R1
            have hok2 := ok_at hO.out hkl
            have g0 : wr.cell? ⟨b, off + i * 2, none⟩ = some (.int .i64 u) := by rw [← HU.out]; exact (hbk.cell (p := ⟨b, off + i * 2, none⟩) hblW).trans (sl9 i hlt).1
            have g1 : wr.cell? ⟨b, off + i * 2 + 1, none⟩ = some (.int .i64 v) := by rw [← HV.out]; exact (hbk.cell (p := ⟨b, off + i * 2 + 1, none⟩) hblW).trans (sl9 i hlt).2
            have g2 : wr.cell? ⟨b, off + k * 2, none⟩ = some (.int .i64 (lo l k)) := (hbk.cell (p := ⟨b, off + k * 2, none⟩) hblW).trans (sl9 k hkl).1
            have g3 : wr.cell? ⟨b, off + k * 2 + 1, none⟩ = some (.int .i64 (hi l k)) := (hbk.cell (p := ⟨b, off + k * 2 + 1, none⟩) hblW).trans (sl9 k hkl).2
            have q0 : w.heap.size < wr.heap.size := Nat.lt_of_lt_of_le p0' hbk.size
            have q1 := (hbk.cell (p := ⟨w.heap.size, 0, none⟩) p0').trans p1'
            have q2 := (hbk.cell (p := ⟨w.heap.size, 1, none⟩) p0').trans p2'
            obtain ⟨a2, ha2⟩ : ∃ a2, lo l k = a2 := ⟨_, rfl⟩
            obtain ⟨b2, hb2e⟩ : ∃ b2, hi l k = b2 := ⟨_, rfl⟩
            rw [ha2] at g2
            rw [hb2e] at g3
            rw [ha2, hb2e] at hok2 R1
            have hblw : b < wr.heap.size := Nat.lt_of_lt_of_le hblW hbk.size
            have hS1 := refSame (a2, b2) (u, v)
            have hI1 := fun w => refInP (u, v) (a2, b2) w hokH.out hok2
            obtain ⟨s1, hs1e⟩ : ∃ s, Bur.sm (a2, b2) (u, v) = s := ⟨_, rfl⟩
            obtain ⟨n1, hn1e⟩ : ∃ s, Bur.inP (u, v) (a2, b2) = s := ⟨_, rfl⟩
            have hk1 : Hid (k + 1 ≤ l.length ∧ l.length - (k + 1) < l.length - k) := ⟨by omega, by omega⟩
            have hS2 := refSame (a2, b2) (x, y)
            have hI2 := fun w => refInP (a2, b2) (x, y) w hok2 hP.out
            obtain ⟨s2, hs2e⟩ : ∃ s, Bur.sm (a2, b2) (x, y) = s := ⟨_, rfl⟩
            obtain ⟨n2, hn2e⟩ : ∃ s, Bur.inP (a2, b2) (x, y) = s := ⟨_, rfl⟩
            rw [hs2e] at hS2
            rw [hn2e] at hI2
            have HA : Bur.hA false (x, y) (u, v) (a2, b2) = ((!s1 && n1) && (!s2 && n2)) := by
              show (!Bur.sm (a2, b2) (u, v) && Bur.inP (u, v) (a2, b2) && (false || (!Bur.sm (a2, b2) (x, y) && Bur.inP (a2, b2) (x, y)))) = _
              rw [hs1e, hn1e, hs2e, hn2e, Bool.false_or]
            rw [HA] at R1
            rw [hs1e] at hS1
            rw [hn1e] at hI1
            have R3 : Hid _ := R1
            clear R R1 HA hs1e hn1e hok2 ha2 hb2e hs2e hn2e
            obtain ⟨X, hX⟩ : ∃ X, X = wr := ⟨_, rfl⟩
            subst hX
            go_upto_region 10 with fail
            go_cut [11] from 43 to 63 (fun bv wy => bv = .bool (!s1 && n1) ∧ Below X.heap.size X wy)
            case first =>
              clear R3 hbk
              cases s1
              · go_region_held3 (fun wy => wy.cell? ⟨b, off + i * 2, none⟩ = some (.int .i64 u) ∧ wy.cell? ⟨b, off + i * 2 + 1, none⟩ = some (.int .i64 v) ∧ wy.cell? ⟨b, off + k * 2, none⟩ = some (.int .i64 a2) ∧ wy.cell? ⟨b, off + k * 2 + 1, none⟩ = some (.int .i64 b2)) (first | exact ⟨g0, g1, g2, g3⟩ | exact ⟨e0, e1, e2, e3⟩ | exact ⟨f0, f1, f2, f3⟩)
                  (first
                    | (go_at_call 26; refine (hS1 _).mono ?_; rintro e w3 ⟨rfl, hb5⟩; have e0 := (hb5.cell (p := ⟨b, off + i * 2, none⟩) hblw).trans g0; have e1 := (hb5.cell (p := ⟨b, off + i * 2 + 1, none⟩) hblw).trans g1; have e2 := (hb5.cell (p := ⟨b, off + k * 2, none⟩) hblw).trans g2; have e3 := (hb5.cell (p := ⟨b, off + k * 2 + 1, none⟩) hblw).trans g3; have hblv : b < w3.heap.size := Nat.lt_of_lt_of_le hblw hb5.size)
                    | (go_at_call 39; refine (hI1 _).mono ?_; rintro e w4 ⟨rfl, hb7⟩; have f0 := (hb7.cell (p := ⟨b, off + i * 2, none⟩) hblv).trans e0; have f1 := (hb7.cell (p := ⟨b, off + i * 2 + 1, none⟩) hblv).trans e1; have f2 := (hb7.cell (p := ⟨b, off + k * 2, none⟩) hblv).trans e2; have f3 := (hb7.cell (p := ⟨b, off + k * 2 + 1, none⟩) hblv).trans e3))
                have hb8 := below_via (below_via (below_self X).drew hb5) hb7
                clear e0 e1 e2 e3 hb5 hb7
                go_wp2_with fail
                go_meet
                case rel => exact ⟨rfl, hb8⟩
              · refine wp_region_held_drew (S := (fun wy => wy.cell? ⟨b, off + i * 2, none⟩ = some (.int .i64 u) ∧ wy.cell? ⟨b, off + i * 2 + 1, none⟩ = some (.int .i64 v) ∧ wy.cell? ⟨b, off + k * 2, none⟩ = some (.int .i64 a2) ∧ wy.cell? ⟨b, off + k * 2 + 1, none⟩ = some (.int .i64 b2))) (by kernel_rfl) ⟨g0, g1, g2, g3⟩ (fun hHeld0 => ?_)
                refine wpAnyH_take (i := 0) (oi := ⟨_, _, _, _, _, _⟩) (v := ?_) rfl (by kernel_rfl) (by kernel_rfl) (by kernel_rfl) (fun _ _ _ h => h) (Or.inl ⟨by rfl, ?_⟩) (by assumption) ?_
                rotate_left
                · (intro w hSw; (try dsimp only at hSw); go_simp; try with_reducible rfl)
                try simp only [Act.put, List.setIfInBounds_toArray, List.set_cons_zero, List.set_cons_succ]
                refine wpAnyH_take (i := 1) (oi := ⟨_, _, _, _, _, _⟩) (v := ?_) rfl (by kernel_rfl) (by kernel_rfl) (by kernel_rfl) (fun _ _ _ h => h) (Or.inl ⟨by rfl, ?_⟩) (by assumption) ?_
                rotate_left
                · (intro w hSw; (try dsimp only at hSw); go_simp; try with_reducible rfl)
                try simp only [Act.put, List.setIfInBounds_toArray, List.set_cons_zero, List.set_cons_succ]
                refine wpAnyH_take (i := 2) (oi := ⟨_, _, _, _, _, _⟩) (v := ?_) rfl (by kernel_rfl) (by kernel_rfl) (by kernel_rfl) (fun _ _ _ h => h) (Or.inl ⟨by rfl, ?_⟩) (by assumption) ?_
                rotate_left
                · (intro w hSw; (try dsimp only at hSw); go_simp; try with_reducible rfl)
                try simp only [Act.put, List.setIfInBounds_toArray, List.set_cons_zero, List.set_cons_succ]
                refine wpAnyH_take (i := 3) (oi := ⟨_, _, _, _, _, _⟩) (v := ?_) rfl (by kernel_rfl) (by kernel_rfl) (by kernel_rfl) (fun _ _ _ h => h) (Or.inl ⟨by rfl, ?_⟩) (by assumption) ?_
                rotate_left
                · (intro w hSw; (try dsimp only at hSw); go_simp; try with_reducible rfl)
                try simp only [Act.put, List.setIfInBounds_toArray, List.set_cons_zero, List.set_cons_succ]
                refine wpAnyH_take (i := 4) (oi := ⟨_, _, _, _, _, _⟩) (v := ?_) rfl (by kernel_rfl) (by kernel_rfl) (by kernel_rfl) (fun _ _ _ h => h) (Or.inl ⟨by rfl, ?_⟩) (by assumption) ?_
                rotate_left
                · (intro w hSw; (try dsimp only at hSw); go_simp; try with_reducible rfl)
                try simp only [Act.put, List.setIfInBounds_toArray, List.set_cons_zero, List.set_cons_succ]
                refine wpAnyH_take (i := 5) (oi := ⟨_, _, _, _, _, _⟩) (v := ?_) rfl (by kernel_rfl) (by kernel_rfl) (by kernel_rfl) (fun _ _ _ h => h) (Or.inl ⟨by rfl, ?_⟩) (by assumption) ?_
                rotate_left
                · (intro w hSw; (try dsimp only at hSw); go_simp; try with_reducible rfl)
                try simp only [Act.put, List.setIfInBounds_toArray, List.set_cons_zero, List.set_cons_succ]
                refine wpAnyH_take (i := 6) (oi := ⟨_, _, _, _, _, _⟩) (v := ?_) rfl (by kernel_rfl) (by kernel_rfl) (by kernel_rfl) (fun _ _ _ h => h) (Or.inl ⟨by rfl, ?_⟩) (by assumption) ?_
                rotate_left
                · (intro w hSw; (try dsimp only at hSw); go_simp; try with_reducible rfl)
                try simp only [Act.put, List.setIfInBounds_toArray, List.set_cons_zero, List.set_cons_succ]
                refine wpAnyH_take (i := 7) (oi := ⟨_, _, _, _, _, _⟩) (v := ?_) rfl (by kernel_rfl) (by kernel_rfl) (by kernel_rfl) (fun _ _ _ h => h) (Or.inl ⟨by rfl, ?_⟩) (by assumption) ?_
                rotate_left
                · (intro w hSw; (try dsimp only at hSw); go_simp; try with_reducible rfl)
                try simp only [Act.put, List.setIfInBounds_toArray, List.set_cons_zero, List.set_cons_succ]
                refine wpAnyH_ready (rs := [8]) (by kernel_rfl) (by simp) ?_
                refine AllReadyH.cons (o := ⟨_, _, _, _, _, _⟩) rfl (fun K hK => ?_) AllReadyH.nil
                go_simp
                refine (hS1 _).mono ?_
                rintro e w3 ⟨rfl, hb5⟩
                have e0 := (hb5.cell (p := ⟨b, off + i * 2, none⟩) hblw).trans g0
                have e1 := (hb5.cell (p := ⟨b, off + i * 2 + 1, none⟩) hblw).trans g1
                have e2 := (hb5.cell (p := ⟨b, off + k * 2, none⟩) hblw).trans g2
                have e3 := (hb5.cell (p := ⟨b, off + k * 2 + 1, none⟩) hblw).trans g3
                refine hK.out _ _ ⟨e0, e1, e2, e3⟩ (fun hHeld1 => ?_)
                clear hK K
                try simp only [Act.put, List.setIfInBounds_toArray, List.set_cons_zero, List.set_cons_succ]
                refine wpAnyH_take (i := 9) (oi := ⟨_, _, _, _, _, _⟩) (v := ?_) rfl (by kernel_rfl) (by kernel_rfl) (by kernel_rfl) (fun _ _ _ h => h) (Or.inl ⟨by rfl, ?_⟩) (by assumption) ?_
                rotate_left
                · (intro w hSw; (try dsimp only at hSw); go_simp; try with_reducible rfl)
                try simp only [Act.put, List.setIfInBounds_toArray, List.set_cons_zero, List.set_cons_succ]
                refine wpAnyH_take (i := 10) (oi := ⟨_, _, _, _, _, _⟩) (v := ?_) rfl (by kernel_rfl) (by kernel_rfl) (by kernel_rfl) (fun _ _ _ h => h) (Or.inl ⟨by rfl, ?_⟩) (by assumption) ?_
                rotate_left
                · (intro w hSw; (try dsimp only at hSw); go_simp; try with_reducible rfl)
                try simp only [Act.put, List.setIfInBounds_toArray, List.set_cons_zero, List.set_cons_succ]
                refine wpAnyH_take (i := 11) (oi := ⟨_, _, _, _, _, _⟩) (v := undef) rfl (by kernel_rfl) (by kernel_rfl) (by kernel_rfl) (fun _ _ _ h => h) (Or.inr ⟨by rfl, rfl⟩) (by assumption) ?_
                try simp only [Act.put, List.setIfInBounds_toArray, List.set_cons_zero, List.set_cons_succ]
                refine wpAnyH_take (i := 12) (oi := ⟨_, _, _, _, _, _⟩) (v := undef) rfl (by kernel_rfl) (by kernel_rfl) (by kernel_rfl) (fun _ _ _ h => h) (Or.inr ⟨by rfl, rfl⟩) (by assumption) ?_
                try simp only [Act.put, List.setIfInBounds_toArray, List.set_cons_zero, List.set_cons_succ]
                refine wpAnyH_take (i := 13) (oi := ⟨_, _, _, _, _, _⟩) (v := undef) rfl (by kernel_rfl) (by kernel_rfl) (by kernel_rfl) (fun _ _ _ h => h) (Or.inr ⟨by rfl, rfl⟩) (by assumption) ?_
                try simp only [Act.put, List.setIfInBounds_toArray, List.set_cons_zero, List.set_cons_succ]
                refine wpAnyH_take (i := 14) (oi := ⟨_, _, _, _, _, _⟩) (v := undef) rfl (by kernel_rfl) (by kernel_rfl) (by kernel_rfl) (fun _ _ _ h => h) (Or.inr ⟨by rfl, rfl⟩) (by assumption) ?_
                try simp only [Act.put, List.setIfInBounds_toArray, List.set_cons_zero, List.set_cons_succ]
                refine wpAnyH_take (i := 15) (oi := ⟨_, _, _, _, _, _⟩) (v := undef) rfl (by kernel_rfl) (by kernel_rfl) (by kernel_rfl) (fun _ _ _ h => h) (Or.inr ⟨by rfl, rfl⟩) (by assumption) ?_
                try simp only [Act.put, List.setIfInBounds_toArray, List.set_cons_zero, List.set_cons_succ]
                refine wpAnyH_take (i := 16) (oi := ⟨_, _, _, _, _, _⟩) (v := undef) rfl (by kernel_rfl) (by kernel_rfl) (by kernel_rfl) (fun _ _ _ h => h) (Or.inr ⟨by rfl, rfl⟩) (by assumption) ?_
                try simp only [Act.put, List.setIfInBounds_toArray, List.set_cons_zero, List.set_cons_succ]
                refine wpAnyH_take (i := 17) (oi := ⟨_, _, _, _, _, _⟩) (v := undef) rfl (by kernel_rfl) (by kernel_rfl) (by kernel_rfl) (fun _ _ _ h => h) (Or.inr ⟨by rfl, rfl⟩) (by assumption) ?_
                try simp only [Act.put, List.setIfInBounds_toArray, List.set_cons_zero, List.set_cons_succ]
                refine wpAnyH_take (i := 18) (oi := ⟨_, _, _, _, _, _⟩) (v := undef) rfl (by kernel_rfl) (by kernel_rfl) (by kernel_rfl) (fun _ _ _ h => h) (Or.inr ⟨by rfl, rfl⟩) (by assumption) ?_
                try simp only [Act.put, List.setIfInBounds_toArray, List.set_cons_zero, List.set_cons_succ]
                refine wpAnyH_take (i := 19) (oi := ⟨_, _, _, _, _, _⟩) (v := undef) rfl (by kernel_rfl) (by kernel_rfl) (by kernel_rfl) (fun _ _ _ h => h) (Or.inr ⟨by rfl, rfl⟩) (by assumption) ?_
                try simp only [Act.put, List.setIfInBounds_toArray, List.set_cons_zero, List.set_cons_succ]
                refine wpAnyH_take (i := 20) (oi := ⟨_, _, _, _, _, _⟩) (v := ?_) rfl (by kernel_rfl) (by kernel_rfl) (by kernel_rfl) (fun _ _ _ h => h) (Or.inl ⟨by rfl, ?_⟩) (by assumption) ?_
                rotate_left
                · (intro w hSw; (try dsimp only at hSw); go_simp; try with_reducible rfl)
                try simp only [Act.put, List.setIfInBounds_toArray, List.set_cons_zero, List.set_cons_succ]
                refine wpAnyH_take (i := 21) (oi := ⟨_, _, _, _, _, _⟩) (v := ?_) rfl (by kernel_rfl) (by kernel_rfl) (by kernel_rfl) (fun _ _ _ h => h) (Or.inl ⟨by rfl, ?_⟩) (by assumption) ?_
                rotate_left
                · (intro w hSw; (try dsimp only at hSw); go_simp; try with_reducible rfl)
                try simp only [Act.put, List.setIfInBounds_toArray, List.set_cons_zero, List.set_cons_succ]
                refine wpAnyH_done (by kernel_rfl) ?_ _
                have hb8 := below_via (below_self X).drew hb5
                clear hb5
                go_wp2_with fail
                go_meet
                case rel => exact ⟨rfl, hb8⟩
            case rest =>
            obtain ⟨rfl, hbc2⟩ := hcut
            obtain ⟨V, hVV⟩ : ∃ V, V = wc := ⟨_, rfl⟩
            subst hVV
            have j2 := (hbc2.cell (p := ⟨b, off + k * 2, none⟩) hblw).trans g2
            have j3 := (hbc2.cell (p := ⟨b, off + k * 2 + 1, none⟩) hblw).trans g3
            have j4 := (hbc2.cell (p := ⟨w.heap.size, 0, none⟩) q0).trans q1
            have j5 := (hbc2.cell (p := ⟨w.heap.size, 1, none⟩) q0).trans q2
            have hblV : b < V.heap.size := Nat.lt_of_lt_of_le hblw hbc2.size
            have r0 : w.heap.size < V.heap.size := Nat.lt_of_lt_of_le q0 hbc2.size
            have hbV := below_via hbk hbc2
            obtain ⟨bt, hbt⟩ : ∃ bt, (!s1 && n1) = bt := ⟨_, rfl⟩
            rw [hbt] at R3 ⊢
            clear hbc2 hbk hbt g0 g1 g2 g3 q0 q1 q2 hS1 hI1
            cases h
            · cases bt
              · have R2 : Hid (l.any (Bur.hA false (x, y) (u, v)) = (false || (l.drop (k + 1)).any (Bur.hA false (x, y) (u, v)))) := by
                  show _ = _
                  rw [R3.out]
                  simp
                clear R3
                go_upto_region 11 with fail
                go_quiet (fail)
                go_wp2_with fail
                exact ⟨⟨k + 1, false, hk1.out.1, by go_num, rfl, R2, below_drewN hbV _⟩, by simp [intOf]; omega⟩
              · cases s2
                · have R2 : Hid (l.any (Bur.hA false (x, y) (u, v)) = (n2 || (l.drop (k + 1)).any (Bur.hA false (x, y) (u, v)))) := by
                    show _ = _
                    rw [R3.out]
                    simp
                  clear R3
                  go_upto_region 11 with fail
                  go_region_held3 (fun wy => wy.cell? ⟨b, off + k * 2, none⟩ = some (.int .i64 a2) ∧ wy.cell? ⟨b, off + k * 2 + 1, none⟩ = some (.int .i64 b2) ∧ wy.cell? ⟨w.heap.size, 0, none⟩ = some (.int .i64 x) ∧ wy.cell? ⟨w.heap.size, 1, none⟩ = some (.int .i64 y)) (first | exact ⟨j2, j3, j4, j5⟩ | exact ⟨e0, e1, e2, e3⟩ | exact ⟨f0, f1, f2, f3⟩)
                    (first
                      | (go_at_call 26; refine (hS2 _).mono ?_; rintro e w3 ⟨rfl, hb5⟩; have e0 := (hb5.cell (p := ⟨b, off + k * 2, none⟩) hblV).trans j2; have e1 := (hb5.cell (p := ⟨b, off + k * 2 + 1, none⟩) hblV).trans j3; have e2 := (hb5.cell (p := ⟨w.heap.size, 0, none⟩) r0).trans j4; have e3 := (hb5.cell (p := ⟨w.heap.size, 1, none⟩) r0).trans j5; have t0 : w.heap.size < w3.heap.size := Nat.lt_of_lt_of_le r0 hb5.size; have hblU : b < w3.heap.size := Nat.lt_of_lt_of_le hblV hb5.size)
                      | (go_at_call 39; refine (hI2 _).mono ?_; rintro e w4 ⟨rfl, hb7⟩; have f0 := (hb7.cell (p := ⟨b, off + k * 2, none⟩) hblU).trans e0; have f1 := (hb7.cell (p := ⟨b, off + k * 2 + 1, none⟩) hblU).trans e1; have f2 := (hb7.cell (p := ⟨w.heap.size, 0, none⟩) t0).trans e2; have f3 := (hb7.cell (p := ⟨w.heap.size, 1, none⟩) t0).trans e3))
                  have hb8 := below_via (below_via hbV.drew hb5) hb7
                  clear e0 e1 e2 e3 hb5 hb7 hbV
                  go_wp2_with fail
                  exact ⟨⟨k + 1, n2, hk1.out.1, by go_num, rfl, R2, hb8⟩, by simp [intOf]; omega⟩
                · have R2 : Hid (l.any (Bur.hA false (x, y) (u, v)) = (false || (l.drop (k + 1)).any (Bur.hA false (x, y) (u, v)))) := by
                    show _ = _
                    rw [R3.out]
                    simp
                  clear R3
                  go_upto_region 11 with fail
                  refine wp_region_held_drew (S := (fun wy => wy.cell? ⟨b, off + k * 2, none⟩ = some (.int .i64 a2) ∧ wy.cell? ⟨b, off + k * 2 + 1, none⟩ = some (.int .i64 b2) ∧ wy.cell? ⟨w.heap.size, 0, none⟩ = some (.int .i64 x) ∧ wy.cell? ⟨w.heap.size, 1, none⟩ = some (.int .i64 y))) (by kernel_rfl) ⟨j2, j3, j4, j5⟩ (fun hHeld0 => ?_)
                  refine wpAnyH_take (i := 0) (oi := ⟨_, _, _, _, _, _⟩) (v := ?_) rfl (by kernel_rfl) (by kernel_rfl) (by kernel_rfl) (fun _ _ _ h => h) (Or.inl ⟨by rfl, ?_⟩) (by assumption) ?_
                  rotate_left
                  · (intro w hSw; (try dsimp only at hSw); go_simp; try with_reducible rfl)
                  try simp only [Act.put, List.setIfInBounds_toArray, List.set_cons_zero, List.set_cons_succ]
                  refine wpAnyH_take (i := 1) (oi := ⟨_, _, _, _, _, _⟩) (v := ?_) rfl (by kernel_rfl) (by kernel_rfl) (by kernel_rfl) (fun _ _ _ h => h) (Or.inl ⟨by rfl, ?_⟩) (by assumption) ?_
                  rotate_left
                  · (intro w hSw; (try dsimp only at hSw); go_simp; try with_reducible rfl)
                  try simp only [Act.put, List.setIfInBounds_toArray, List.set_cons_zero, List.set_cons_succ]
                  refine wpAnyH_take (i := 2) (oi := ⟨_, _, _, _, _, _⟩) (v := ?_) rfl (by kernel_rfl) (by kernel_rfl) (by kernel_rfl) (fun _ _ _ h => h) (Or.inl ⟨by rfl, ?_⟩) (by assumption) ?_
                  rotate_left
                  · (intro w hSw; (try dsimp only at hSw); go_simp; try with_reducible rfl)
                  try simp only [Act.put, List.setIfInBounds_toArray, List.set_cons_zero, List.set_cons_succ]
                  refine wpAnyH_take (i := 3) (oi := ⟨_, _, _, _, _, _⟩) (v := ?_) rfl (by kernel_rfl) (by kernel_rfl) (by kernel_rfl) (fun _ _ _ h => h) (Or.inl ⟨by rfl, ?_⟩) (by assumption) ?_
                  rotate_left
                  · (intro w hSw; (try dsimp only at hSw); go_simp; try with_reducible rfl)
                  try simp only [Act.put, List.setIfInBounds_toArray, List.set_cons_zero, List.set_cons_succ]
                  refine wpAnyH_take (i := 4) (oi := ⟨_, _, _, _, _, _⟩) (v := ?_) rfl (by kernel_rfl) (by kernel_rfl) (by kernel_rfl) (fun _ _ _ h => h) (Or.inl ⟨by rfl, ?_⟩) (by assumption) ?_
                  rotate_left
                  · (intro w hSw; (try dsimp only at hSw); go_simp; try with_reducible rfl)
                  try simp only [Act.put, List.setIfInBounds_toArray, List.set_cons_zero, List.set_cons_succ]
                  refine wpAnyH_take (i := 5) (oi := ⟨_, _, _, _, _, _⟩) (v := ?_) rfl (by kernel_rfl) (by kernel_rfl) (by kernel_rfl) (fun _ _ _ h => h) (Or.inl ⟨by rfl, ?_⟩) (by assumption) ?_
                  rotate_left
                  · (intro w hSw; (try dsimp only at hSw); go_simp; try with_reducible rfl)
                  try simp only [Act.put, List.setIfInBounds_toArray, List.set_cons_zero, List.set_cons_succ]
                  refine wpAnyH_take (i := 6) (oi := ⟨_, _, _, _, _, _⟩) (v := ?_) rfl (by kernel_rfl) (by kernel_rfl) (by kernel_rfl) (fun _ _ _ h => h) (Or.inl ⟨by rfl, ?_⟩) (by assumption) ?_
                  rotate_left
                  · (intro w hSw; (try dsimp only at hSw); go_simp; try with_reducible rfl)
                  try simp only [Act.put, List.setIfInBounds_toArray, List.set_cons_zero, List.set_cons_succ]
                  refine wpAnyH_take (i := 7) (oi := ⟨_, _, _, _, _, _⟩) (v := ?_) rfl (by kernel_rfl) (by kernel_rfl) (by kernel_rfl) (fun _ _ _ h => h) (Or.inl ⟨by rfl, ?_⟩) (by assumption) ?_
                  rotate_left
                  · (intro w hSw; (try dsimp only at hSw); go_simp; try with_reducible rfl)
                  try simp only [Act.put, List.setIfInBounds_toArray, List.set_cons_zero, List.set_cons_succ]
                  refine wpAnyH_take (i := 8) (oi := ⟨_, _, _, _, _, _⟩) (v := ?_) rfl (by kernel_rfl) (by kernel_rfl) (by kernel_rfl) (fun _ _ _ h => h) (Or.inl ⟨by rfl, ?_⟩) (by assumption) ?_
                  rotate_left
                  · (intro w hSw; (try dsimp only at hSw); go_simp; try with_reducible rfl)
                  try simp only [Act.put, List.setIfInBounds_toArray, List.set_cons_zero, List.set_cons_succ]
                  refine wpAnyH_take (i := 9) (oi := ⟨_, _, _, _, _, _⟩) (v := ?_) rfl (by kernel_rfl) (by kernel_rfl) (by kernel_rfl) (fun _ _ _ h => h) (Or.inl ⟨by rfl, ?_⟩) (by assumption) ?_
                  rotate_left
                  · (intro w hSw; (try dsimp only at hSw); go_simp; try with_reducible rfl)
                  try simp only [Act.put, List.setIfInBounds_toArray, List.set_cons_zero, List.set_cons_succ]
                  refine wpAnyH_take (i := 10) (oi := ⟨_, _, _, _, _, _⟩) (v := ?_) rfl (by kernel_rfl) (by kernel_rfl) (by kernel_rfl) (fun _ _ _ h => h) (Or.inl ⟨by rfl, ?_⟩) (by assumption) ?_
                  rotate_left
                  · (intro w hSw; (try dsimp only at hSw); go_simp; try with_reducible rfl)
                  try simp only [Act.put, List.setIfInBounds_toArray, List.set_cons_zero, List.set_cons_succ]
                  refine wpAnyH_ready (rs := [11]) (by kernel_rfl) (by simp) ?_
                  refine AllReadyH.cons (o := ⟨_, _, _, _, _, _⟩) rfl (fun K hK => ?_) AllReadyH.nil
                  go_simp
                  refine (hS2 _).mono ?_
                  rintro e w3 ⟨rfl, hb5⟩
                  have e0 := (hb5.cell (p := ⟨b, off + k * 2, none⟩) hblV).trans j2
                  have e1 := (hb5.cell (p := ⟨b, off + k * 2 + 1, none⟩) hblV).trans j3
                  have e2 := (hb5.cell (p := ⟨w.heap.size, 0, none⟩) r0).trans j4
                  have e3 := (hb5.cell (p := ⟨w.heap.size, 1, none⟩) r0).trans j5
                  refine hK.out _ _ ⟨e0, e1, e2, e3⟩ (fun hHeld1 => ?_)
                  clear hK K
                  try simp only [Act.put, List.setIfInBounds_toArray, List.set_cons_zero, List.set_cons_succ]
                  refine wpAnyH_take (i := 12) (oi := ⟨_, _, _, _, _, _⟩) (v := ?_) rfl (by kernel_rfl) (by kernel_rfl) (by kernel_rfl) (fun _ _ _ h => h) (Or.inl ⟨by rfl, ?_⟩) (by assumption) ?_
                  rotate_left
                  · (intro w hSw; (try dsimp only at hSw); go_simp; try with_reducible rfl)
                  try simp only [Act.put, List.setIfInBounds_toArray, List.set_cons_zero, List.set_cons_succ]
                  refine wpAnyH_take (i := 13) (oi := ⟨_, _, _, _, _, _⟩) (v := ?_) rfl (by kernel_rfl) (by kernel_rfl) (by kernel_rfl) (fun _ _ _ h => h) (Or.inl ⟨by rfl, ?_⟩) (by assumption) ?_
                  rotate_left
                  · (intro w hSw; (try dsimp only at hSw); go_simp; try with_reducible rfl)
                  try simp only [Act.put, List.setIfInBounds_toArray, List.set_cons_zero, List.set_cons_succ]
                  refine wpAnyH_take (i := 14) (oi := ⟨_, _, _, _, _, _⟩) (v := undef) rfl (by kernel_rfl) (by kernel_rfl) (by kernel_rfl) (fun _ _ _ h => h) (Or.inr ⟨by rfl, rfl⟩) (by assumption) ?_
                  try simp only [Act.put, List.setIfInBounds_toArray, List.set_cons_zero, List.set_cons_succ]
                  refine wpAnyH_take (i := 15) (oi := ⟨_, _, _, _, _, _⟩) (v := undef) rfl (by kernel_rfl) (by kernel_rfl) (by kernel_rfl) (fun _ _ _ h => h) (Or.inr ⟨by rfl, rfl⟩) (by assumption) ?_
                  try simp only [Act.put, List.setIfInBounds_toArray, List.set_cons_zero, List.set_cons_succ]
                  refine wpAnyH_take (i := 16) (oi := ⟨_, _, _, _, _, _⟩) (v := undef) rfl (by kernel_rfl) (by kernel_rfl) (by kernel_rfl) (fun _ _ _ h => h) (Or.inr ⟨by rfl, rfl⟩) (by assumption) ?_
                  try simp only [Act.put, List.setIfInBounds_toArray, List.set_cons_zero, List.set_cons_succ]
                  refine wpAnyH_take (i := 17) (oi := ⟨_, _, _, _, _, _⟩) (v := undef) rfl (by kernel_rfl) (by kernel_rfl) (by kernel_rfl) (fun _ _ _ h => h) (Or.inr ⟨by rfl, rfl⟩) (by assumption) ?_
                  try simp only [Act.put, List.setIfInBounds_toArray, List.set_cons_zero, List.set_cons_succ]
                  refine wpAnyH_take (i := 18) (oi := ⟨_, _, _, _, _, _⟩) (v := undef) rfl (by kernel_rfl) (by kernel_rfl) (by kernel_rfl) (fun _ _ _ h => h) (Or.inr ⟨by rfl, rfl⟩) (by assumption) ?_
                  try simp only [Act.put, List.setIfInBounds_toArray, List.set_cons_zero, List.set_cons_succ]
                  refine wpAnyH_take (i := 19) (oi := ⟨_, _, _, _, _, _⟩) (v := undef) rfl (by kernel_rfl) (by kernel_rfl) (by kernel_rfl) (fun _ _ _ h => h) (Or.inr ⟨by rfl, rfl⟩) (by assumption) ?_
                  try simp only [Act.put, List.setIfInBounds_toArray, List.set_cons_zero, List.set_cons_succ]
                  refine wpAnyH_take (i := 20) (oi := ⟨_, _, _, _, _, _⟩) (v := ?_) rfl (by kernel_rfl) (by kernel_rfl) (by kernel_rfl) (fun _ _ _ h => h) (Or.inl ⟨by rfl, ?_⟩) (by assumption) ?_
                  rotate_left
                  · (intro w hSw; (try dsimp only at hSw); go_simp; try with_reducible rfl)
                  try simp only [Act.put, List.setIfInBounds_toArray, List.set_cons_zero, List.set_cons_succ]
                  refine wpAnyH_take (i := 21) (oi := ⟨_, _, _, _, _, _⟩) (v := ?_) rfl (by kernel_rfl) (by kernel_rfl) (by kernel_rfl) (fun _ _ _ h => h) (Or.inl ⟨by rfl, ?_⟩) (by assumption) ?_
                  rotate_left
                  · (intro w hSw; (try dsimp only at hSw); go_simp; try with_reducible rfl)
                  try simp only [Act.put, List.setIfInBounds_toArray, List.set_cons_zero, List.set_cons_succ]
                  refine wpAnyH_take (i := 22) (oi := ⟨_, _, _, _, _, _⟩) (v := ?_) rfl (by kernel_rfl) (by kernel_rfl) (by kernel_rfl) (fun _ _ _ h => h) (Or.inl ⟨by rfl, ?_⟩) (by assumption) ?_
                  rotate_left
                  · (intro w hSw; (try dsimp only at hSw); go_simp; try with_reducible rfl)
                  try simp only [Act.put, List.setIfInBounds_toArray, List.set_cons_zero, List.set_cons_succ]
                  refine wpAnyH_take (i := 23) (oi := ⟨_, _, _, _, _, _⟩) (v := ?_) rfl (by kernel_rfl) (by kernel_rfl) (by kernel_rfl) (fun _ _ _ h => h) (Or.inl ⟨by rfl, ?_⟩) (by assumption) ?_
                  rotate_left
                  · (intro w hSw; (try dsimp only at hSw); go_simp; try with_reducible rfl)
                  try simp only [Act.put, List.setIfInBounds_toArray, List.set_cons_zero, List.set_cons_succ]
                  refine wpAnyH_take (i := 24) (oi := ⟨_, _, _, _, _, _⟩) (v := ?_) rfl (by kernel_rfl) (by kernel_rfl) (by kernel_rfl) (fun _ _ _ h => h) (Or.inl ⟨by rfl, ?_⟩) (by assumption) ?_
                  rotate_left
                  · (intro w hSw; (try dsimp only at hSw); go_simp; try with_reducible rfl)
                  try simp only [Act.put, List.setIfInBounds_toArray, List.set_cons_zero, List.set_cons_succ]
                  refine wpAnyH_done (by kernel_rfl) ?_ _
                  have hb8 := below_via hbV.drew hb5
                  clear hb5 hbV
                  go_wp2_with fail
                  exact ⟨⟨k + 1, false, hk1.out.1, by go_num, rfl, R2, hb8⟩, by simp [intOf]; omega⟩
            · have R2 : Hid (l.any (Bur.hA false (x, y) (u, v)) = (true || (l.drop (k + 1)).any (Bur.hA false (x, y) (u, v)))) := by
                show _ = _
                rw [R3.out]
                simp
              clear R3
              go_upto_region 11 with fail
              go_quiet (fail)
              go_wp2_with fail
              exact ⟨⟨k + 1, true, hk1.out.1, by go_num, rfl, R2, below_drewN hbV _⟩, by simp [intOf]; omega⟩
          · have R2 : Hid (l.any (Bur.hA false (x, y) (u, v)) = h) := by
              show _ = _
              rw [R.out, List.drop_eq_nil_of_le (by omega)]
              simp
            clear R
            go_wp2_with fail
            go_meet
            case rel => exact ⟨by rw [R2.out], hbk⟩
    · have R2 : Hid (T = acc) := by
        show _ = _
        rw [R.out, List.drop_eq_nil_of_le (by omega)]
        simp
      have hb9 := below_via hb0 hb
      rw [← R2.out] at hown
      clear R R2 hs1
      go_wp2_with fail
      rcases hown.2 with ⟨rfl, h0⟩ | ⟨g2, cp, cur', rfl, _⟩
      · go_ret
        first | exact ⟨none, 0, by rw [h0]; rfl, fun h => by omega, hb9⟩ | exact ⟨none, ⟨0, by rw [h0]; rfl⟩, fun h => by omega, hb9⟩
      · go_ret
        first | exact ⟨some ⟨g2, 0, none⟩, cp, rfl, (spAt_own hown).2, hb9⟩ | exact ⟨some ⟨g2, 0, none⟩, ⟨cp, rfl⟩, (spAt_own hown).2, hb9⟩
end Go.Proofs.YtncimpicnhleeaaDoor
