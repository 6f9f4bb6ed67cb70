/- The contract of the reference's Put. -/
import Derived.Test.YtickoadcficdeaaGreatDoorVsRefE
import Derived.Test.YtickoadcficdeaaGreatDoorVsFace
namespace Go.Proofs.YtickoadcficdeaaGreatDoor
open Go.RowKit

set_option maxHeartbeats 8000000 in
theorem put_in {G : Nat → Prop} {B : Nat} {l : List Vs.Ver} {top : Int} (x : Vs.Ver) (w : World) (hR : RT w G B l top) (hl : l.length ≤ 100000) (hx : Vs.ptF x top = 0) :
    Calls Tryz.prog 5 #[.pointer (some ⟨B, 0, none⟩), .agg #[.string x.k, .string x.v, .int .i64 x.n, .bool x.g]] w fun e w' => e = .returned (.int .i64 0) ∧ RT w' (fun k => G k ∨ (w.heap.size ≤ k ∧ k < w'.heap.size)) B (Vs.vput l x) x.n ∧ But (fun k => k = B) w w' := by
  obtain ⟨hv, ht⟩ := Vs.ptF_ok hx
  have hsh : Vs.shF x.k x.v = 0 := if_neg (by unfold Vs.OkV at hv; omega)
  have hn1 : 1 ≤ x.n := hv.2.2.2.1
  have hn2 : x.n ≤ 1000000 := hv.2.2.2.2
  have K := keyFault x.k x.v
  rw [hsh] at K
  have vb0 := Vb.new w 34 x
  have hb0 := below_al (below_self w) (.cells #[.string x.k, .string x.v, .int .i64 x.n, .bool x.g] 34)
  have hB := hR.lt
  have hRA := hR.step hb0
  obtain ⟨p, cap, hp, hvr⟩ := hRA.row
  have q1 := hRA.c1
  have q2 := hRA.f0
  have q3 := hRA.f1
  have hG := hR.gB
  have k0 := vb0.c0
  have k1 := vb0.c1
  have k2 := vb0.c2
  have d1 : decide (x.n < 1) = false := by simp; omega
  have d2 : decide (1000000 < x.n) = false := by simp; omega
  have d3 : decide (x.n < top) = false := by simp; omega
  have hsA : (w.alloc (.cells #[.string x.k, .string x.v, .int .i64 x.n, .bool x.g] 34)).heap.size = w.heap.size + 1 := by simp
  clear hv hsh hx hR hRA
  go_enter Tryz.func5, Tryz.ntmps5
  go_wp2_with (go_at_call 20; refine (K _).mono ?_; rintro e w1 ⟨rfl, rfl⟩)
  go_quiet (fail)
  obtain ⟨A, hA⟩ : ∃ A, A = (w.alloc (.cells #[.string x.k, .string x.v, .int .i64 x.n, .bool x.g] 34)).drewN nq := ⟨_, rfl⟩
  have hbA : Below w.heap.size w A := by rw [hA]; exact below_drewN hb0 nq
  have hb1 := below_drewN (below_self (w.alloc (.cells #[.string x.k, .string x.v, .int .i64 x.n, .bool x.g] 34))) nq
  rw [← hA] at hb1 ⊢
  have hsA1 : A.heap.size = w.heap.size + 1 := by rw [hA]; simp
  clear hA hsA
  replace vb0 := vb0.step hb1
  replace hp := (hb1.cell (p := ⟨B, 0, none⟩) (by simp; omega)).trans hp
  replace q1 := (hb1.cell (p := ⟨B, 1, none⟩) (by simp; omega)).trans q1
  replace q2 := (hb1.frozen (p := ⟨B, 0, none⟩) (by simp; omega)).trans q2
  replace q3 := (hb1.frozen (p := ⟨B, 1, none⟩) (by simp; omega)).trans q3
  replace hvr := hvr.step hb1
  have hbut : But (fun k => k = B) A (A.setCell ⟨B, 1, none⟩ (.int .i64 x.n)) := (But.refl (fun k => k = B) A).setCell (p := ⟨B, 1, none⟩) (.inl rfl) _
  have hneB : w.heap.size ≠ B := by omega
  have m0 := (hbut.cell (p := ⟨w.heap.size, 0, none⟩) vb0.lt hneB).trans vb0.c0
  have m1 := (hbut.cell (p := ⟨w.heap.size, 1, none⟩) vb0.lt hneB).trans vb0.c1
  have m2 := (hbut.cell (p := ⟨w.heap.size, 2, none⟩) vb0.lt hneB).trans vb0.c2
  have m3 := (hbut.cell (p := ⟨w.heap.size, 3, none⟩) vb0.lt hneB).trans vb0.c3
  have n0 : (A.setCell ⟨B, 1, none⟩ (.int .i64 x.n)).cell? ⟨B, 0, none⟩ = some (.slice p l.length cap) := by go_simp
  have n1 : (A.setCell ⟨B, 1, none⟩ (.int .i64 x.n)).cell? ⟨B, 1, none⟩ = some (.int .i64 x.n) := by go_simp
  have n2 : (A.setCell ⟨B, 1, none⟩ (.int .i64 x.n)).frozen? ⟨B, 0, none⟩ = false := by go_simp
  have n3 : (A.setCell ⟨B, 1, none⟩ (.int .i64 x.n)).frozen? ⟨B, 1, none⟩ = false := by go_simp
  have hvr1 := hvr.but hbut (fun k _ hg e => hg.2 e)
  have j2 := vb0.c2
  have hbw : But (fun k => k = B) w (A.setCell ⟨B, 1, none⟩ (.int .i64 x.n)) := (But.below hbA).trans hbut
  have hsW : (A.setCell ⟨B, 1, none⟩ (.int .i64 x.n)).heap.size = w.heap.size + 1 := by simpa [World.setCell] using hsA1
  clear hb0 hb1 hbA hvr K vb0 k0 k1 k2 hbut
  go_upto_block 0 with fail
  obtain ⟨W, hW⟩ : ∃ W, W = A.setCell ⟨B, 1, none⟩ (.int .i64 x.n) := ⟨_, rfl⟩
  rw [← hW] at m0 m1 m2 m3 n0 n1 n2 n3 hvr1 hbw hsW ⊢
  clear hW hp q1 q2 q3 j2
  obtain ⟨N, hN⟩ : ∃ N, N = l.filter (fun y => !Vs.same x y) := ⟨_, rfl⟩
  have hNl : N.length ≤ l.length := by rw [hN]; exact List.length_filter_le _ _
  have hE : Hid (Vs.vput l x = N ++ [x]) := by show _ = _; rw [hN]; rfl
  replace hN : Hid (N = [] ++ (l.drop 0).filter (fun y => !Vs.same x y)) := hN
  go_cut [6, 7] from 36 to 78 (fun s _ wr => wr.ownsRow W.heap.size 34 4 s N.length (verV N) ∧ Below W.heap.size W wr)
  case first =>
    go_wp2_with fail
    go_loopw [6, 7] (fun s i wr => ∃ (k : Nat) (o : List Vs.Ver), k ≤ l.length ∧ i = .int .i64 k ∧ o.length ≤ k ∧ wr.ownsRow W.heap.size 34 4 s o.length (verV o) ∧ Hid (N = o ++ (l.drop k).filter (fun y => !Vs.same x y)) ∧ Below W.heap.size W wr) (fun _ i _ => l.length - (intOf i).toNat)
    case atStart => exact ⟨0, [], by omega, rfl, by simp, World.ownsRow_nil _ _ _ _, hN, below_self _⟩
    case round =>
      obtain ⟨k, o, hk, rfl, hol, hown, hM, hb⟩ := hrel
      have hws := hb.size
      have e0 := (hb.cell (p := ⟨B, 0, none⟩) (by simp; omega)).trans n0
      have e1 := (hb.cell (p := ⟨w.heap.size, 0, none⟩) (by simp; omega)).trans m0
      have e2 := (hb.cell (p := ⟨w.heap.size, 2, none⟩) (by simp; omega)).trans m2
      by_cases hlt : k < l.length
      · have hlt' : (k : Int) < (l.length : Int) := by omega
        obtain ⟨bb, off, rfl, hbl, _, hc⟩ := (hvr1.step hb) (by omega)
        obtain ⟨y, hy⟩ := Vs.getsome hlt
        obtain ⟨d0, d1, d2, d3⟩ := hc k y hy
        have hst : Hid _ := hM.out.trans (Vs.filter_drop hy o)
        have hno : Hid (Vs.same x y = true → N = o ++ (l.drop (k + 1)).filter (fun y => !Vs.same x y)) := fun h => by rw [hst.out, if_neg (by rw [h]; simp)]
        have hyes : Hid (Vs.same x y = false → N = (o ++ [y]) ++ (l.drop (k + 1)).filter (fun y => !Vs.same x y)) := fun h => by rw [hst.out, if_pos (by rw [h]; rfl)]
        clear hst hM hN hc hy hvr1
        by_cases h1 : y.k = x.k
        · have g1 : (y.k.toList == x.k.toList) = true := by rw [Vs.beq_str]; simpa using h1
          by_cases h2 : y.n = x.n
          · have g2 : (y.n != x.n) = false := by simpa using h2
            have R : Hid _ := hno.out (by simp [Vs.same, h1, h2])
            clear hno hyes h1 h2
            go_wp2
            go_quiet (fail)
            go_wp2
            exact ⟨⟨k + 1, o, by omega, by go_num, by omega, own_below hown (below_drewN (below_self wr) nq), R, below_drewN hb nq⟩, by simp [intOf]; omega⟩
          · have g2 : (y.n != x.n) = true := by simpa using h2
            have R : Hid _ := hyes.out (by simp [Vs.same, h2])
            clear hno hyes h1 h2
            go_wp2
            go_quiet (fail)
            have hown1 := own_below hown (below_drewN (below_self wr) nq)
            have hb1 := below_drewN hb nq
            go_wp2_with (first
              | (at_builtin; refine wpList_append_one 26 34 4 48 _ Tryz.underlying26 infoVer rfl (by decide) (by decide) rfl _ _ rfl W.heap.size _ o.length (verV o) rfl (hown1.alloc _) (by simp; omega) wr.heap.size [.string y.k, .string y.v, .int .i64 y.n, .bool y.g] rfl rfl (ver_new rfl) ver_one (by omega) ?_; intro v2 w2 hown2 hgrow2)
              | go_in)
            exact ⟨⟨k + 1, o ++ [y], by omega, by go_num, by simp; omega, own_ver hown2, R, (hb1.alloc (by simpa using hws) _).grown hgrow2 (by simp; omega) (fun j hj => (hown1.lt j hj).1)⟩, by simp [intOf]; omega⟩
        · have g1 : (y.k.toList == x.k.toList) = false := by rw [Vs.beq_str]; simpa using h1
          have R : Hid _ := hyes.out (by simp [Vs.same, h1])
          clear hno hyes h1
          go_wp2
          go_quiet (fail)
          have hown1 := own_below hown (below_drewN (below_self wr) nq)
          have hb1 := below_drewN hb nq
          go_wp2_with (first
            | (at_builtin; refine wpList_append_one 26 34 4 48 _ Tryz.underlying26 infoVer rfl (by decide) (by decide) rfl _ _ rfl W.heap.size _ o.length (verV o) rfl (hown1.alloc _) (by simp; omega) wr.heap.size [.string y.k, .string y.v, .int .i64 y.n, .bool y.g] rfl rfl (ver_new rfl) ver_one (by omega) ?_; intro v2 w2 hown2 hgrow2)
            | go_in)
          exact ⟨⟨k + 1, o ++ [y], by omega, by go_num, by simp; omega, own_ver hown2, R, (hb1.alloc (by simpa using hws) _).grown hgrow2 (by simp; omega) (fun j hj => (hown1.lt j hj).1)⟩, by simp [intOf]; omega⟩
      · have hE2 : Hid (N = o) := by
          show _ = _
          rw [hM.out, List.drop_eq_nil_of_le (by omega)]; simp
        clear hM hN hvr1
        go_wp2_with fail
        go_meet
        case rel => exact ⟨by rw [hE2.out]; exact hown, hb⟩
  case rest =>
    obtain ⟨hown, hb⟩ := hcut
    have hws := hb.size
    have e0 := (hb.cell (p := ⟨B, 0, none⟩) (by simp; omega)).trans n0
    have e1 := (hb.cell (p := ⟨B, 1, none⟩) (by simp; omega)).trans n1
    have e2 := (hb.frozen (p := ⟨B, 0, none⟩) (by simp; omega)).trans n2
    have e3 := (hb.frozen (p := ⟨B, 1, none⟩) (by simp; omega)).trans n3
    have l0 := (hb.cell (p := ⟨w.heap.size, 0, none⟩) (by simp; omega)).trans m0
    have l1 := (hb.cell (p := ⟨w.heap.size, 1, none⟩) (by simp; omega)).trans m1
    have l2 := (hb.cell (p := ⟨w.heap.size, 2, none⟩) (by simp; omega)).trans m2
    have l3 := (hb.cell (p := ⟨w.heap.size, 3, none⟩) (by simp; omega)).trans m3
    refine ‹∀ (a : Act) (w : World), Code.wp _ _ _ a w → _› _ _ ?_
    clear hN hvr1
    go_wp2_with (first
      | (at_builtin; refine wpList_append_one 26 34 4 48 _ Tryz.underlying26 infoVer rfl (by decide) (by decide) rfl _ _ rfl W.heap.size _ N.length (verV N) rfl (hown.alloc _) (by simp; omega) wc.heap.size [.string x.k, .string x.v, .int .i64 x.n, .bool x.g] rfl rfl (ver_new rfl) ver_one (by omega) ?_; intro v2 w2 hown2 hgrow2; have hb2 : Below W.heap.size W w2 := (hb.alloc (by simpa using hws) _).grown hgrow2 (by simp; omega) (fun j hj => (hown.lt j hj).1); have r0 := (hb2.cell (p := ⟨B, 0, none⟩) (by simp; omega)).trans n0; have r1 := (hb2.cell (p := ⟨B, 1, none⟩) (by simp; omega)).trans n1; have r2 := (hb2.frozen (p := ⟨B, 0, none⟩) (by simp; omega)).trans n2; have r3 := (hb2.frozen (p := ⟨B, 1, none⟩) (by simp; omega)).trans n3; obtain ⟨q2, cq2, rfl⟩ := own_form hown2)
      | go_in)
    have hws2 := hb2.size
    have hst := RT.set (l := N ++ [x]) (top := x.n) hG (show B < W.heap.size by omega) (show B < w2.heap.size by omega) ⟨_, r0⟩ r1 r2 r3 (own_ver hown2)
    have hbut : But (fun k => k = B) w (w2.setCell ⟨B, 0, none⟩ (.slice q2 (N.length + 1) cq2)) := (hbw.step hb2).setCell (p := ⟨B, 0, none⟩) (.inl rfl) _
    have hsz : (w2.setCell ⟨B, 0, none⟩ (.slice q2 (N.length + 1) cq2)).heap.size = w2.heap.size := by simp [World.setCell]
    go_ret
    refine ⟨rfl, ?_, hbut⟩
    rw [hE.out, hsz]
    exact hst.mono (fun k _ g => g.imp id (fun g => ⟨by omega, g.2⟩))

set_option maxHeartbeats 8000000 in
theorem put_no {B : Nat} {top : Int} (x : Vs.Ver) (w : World) (hB : B < w.heap.size) (c1 : w.cell? ⟨B, 1, none⟩ = some (.int .i64 top)) (hx : Vs.ptF x top ≠ 0) :
    Calls Tryz.prog 5 #[.pointer (some ⟨B, 0, none⟩), .agg #[.string x.k, .string x.v, .int .i64 x.n, .bool x.g]] w fun e w' => e = .returned (.int .i64 (Vs.ptF x top)) ∧ Below w.heap.size w w' := by
  have K := keyFault x.k x.v
  have hb0 := below_al (below_self w) (.cells #[.string x.k, .string x.v, .int .i64 x.n, .bool x.g] 34)
  have e1 := (hb0.cell (p := ⟨B, 1, none⟩) hB).trans c1
  obtain ⟨R, hR⟩ : ∃ R, R = Vs.ptF x top := ⟨_, rfl⟩
  rw [← hR] at hx ⊢
  by_cases hsh : Vs.shF x.k x.v = 0
  · have hR2 : R = if x.n < 1 ∨ 1000000 < x.n then 1 else if x.n < top then 7 else 0 := by rw [hR, Vs.ptF, if_pos hsh]
    rw [hsh] at K
    clear hR
    by_cases h1 : x.n < 1
    · have E : Hid (R = 1) := by show _ = _; rw [hR2, if_pos (.inl h1)]
      have d1 : decide (x.n < 1) = true := by simpa using h1
      clear hR2 hx
      go_enter Tryz.func5, Tryz.ntmps5
      go_wp2_with (go_at_call 20; refine (K _).mono ?_; rintro e w1 ⟨rfl, rfl⟩)
      go_ret
      exact ⟨by rw [E.out]; rfl, hb0⟩
    have d1 : decide (x.n < 1) = false := by simpa using h1
    by_cases h2 : 1000000 < x.n
    · have E : Hid (R = 1) := by show _ = _; rw [hR2, if_pos (.inr h2)]
      have d2 : decide (1000000 < x.n) = true := by simpa using h2
      clear hR2 hx
      go_enter Tryz.func5, Tryz.ntmps5
      go_wp2_with (go_at_call 20; refine (K _).mono ?_; rintro e w1 ⟨rfl, rfl⟩)
      go_ret
      exact ⟨by rw [E.out]; rfl, hb0⟩
    have d2 : decide (1000000 < x.n) = false := by simpa using h2
    have h3 : x.n < top := by
      apply Classical.byContradiction
      intro h3
      apply hx
      rw [hR2, if_neg (by omega), if_neg h3]
    have E : Hid (R = 7) := by show _ = _; rw [hR2, if_neg (by omega), if_pos h3]
    have d3 : decide (x.n < top) = true := by simpa using h3
    clear hR2 hx
    go_enter Tryz.func5, Tryz.ntmps5
    go_wp2_with (go_at_call 20; refine (K _).mono ?_; rintro e w1 ⟨rfl, rfl⟩)
    go_quiet (fail)
    go_wp2
    go_ret
    exact ⟨by rw [E.out]; rfl, below_drewN hb0 _⟩
  · have h2 : Vs.shF x.k x.v = 2 := by
      by_cases c : x.k.size < 1 ∨ 24 < x.k.size ∨ 12 < x.v.size
      · exact if_pos c
      · exact absurd (if_neg c) hsh
    have E : Hid (R = 2) := by show _ = _; rw [hR, Vs.ptF, if_neg hsh]
    rw [h2] at K
    clear hR hx hsh h2
    go_enter Tryz.func5, Tryz.ntmps5
    go_wp2_with (go_at_call 20; refine (K _).mono ?_; rintro e w1 ⟨rfl, rfl⟩)
    go_ret
    exact ⟨by rw [E.out]; rfl, hb0⟩

theorem refPut {G : Nat → Prop} {B : Nat} {l : List Vs.Ver} {top : Int} (x : Vs.Ver) (w : World) (hR : RT w G B l top) (hl : l.length ≤ 100000) :
    Calls Tryz.prog 5 #[.pointer (some ⟨B, 0, none⟩), .agg #[.string x.k, .string x.v, .int .i64 x.n, .bool x.g]] w fun e w' => e = .returned (.int .i64 (Vs.ptF x top)) ∧ RT w' (fun k => G k ∨ (w.heap.size ≤ k ∧ k < w'.heap.size)) B (Vs.ptL l top x) (Vs.ptT top x) ∧ But (fun k => k = B) w w' := by
  by_cases hx : Vs.ptF x top = 0
  · rw [show Vs.ptL l top x = Vs.vput l x from if_pos hx, show Vs.ptT top x = x.n from if_pos hx, hx]
    exact put_in x w hR hl hx
  · rw [show Vs.ptL l top x = l from if_neg hx, show Vs.ptT top x = top from if_neg hx]
    refine (put_no x w hR.lt hR.c1 hx).mono ?_
    rintro e w' ⟨rfl, hb⟩
    exact ⟨rfl, (hR.step hb).mono (fun k _ g => .inl g), .below hb⟩
end Go.Proofs.YtickoadcficdeaaGreatDoor
