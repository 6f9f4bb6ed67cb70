/- The walk of the law VersPlays. -/
import Derived.Test.YtickoadcficdeaaGreatDoorVsRefF
import Derived.Test.YtickoadcficdeaaGreatDoorVsRefB
import Derived.Test.YtickoadcficdeaaGreatDoorVsSame
import Derived.Test.YtickoadcficdeaaGreatDoorVpTwo
import Derived.Test.YtickoadcficdeaaGreatDoorAdErr2
import Derived.Deep.CutBlock
namespace Go.Proofs.YtickoadcficdeaaGreatDoor
open Go.RowKit

theorem etStep {w w' : World} (h : ErrType w) (hb : Below w.heap.size w w') : ErrType w' := (hb.cell (World.block_lt_of_cell? _ _ h)).trans h

set_option maxRecDepth 100000 in
set_option maxHeartbeats 8000000 in
theorem law_plays {T : Tb} (V : Face T) (s : List Stp) (p : Option Addr) (cap : Nat) (w : World) (ll : s.length ≤ 9223372036854775807) (hs : StAt w p s) (hz : ∀ x ∈ s, x.key.size < 9223372036854775807) (het : ErrType w) :
    Calls Tryz.prog 3 #[.slice p s.length cap] w fun e w' => e = .returned (.bool true) ∧ Below w.heap.size w w' := by
  go_enter Tryz.func3, Tryz.ntmps3
  go_wp2_with fail
  refine (V.new w).mono ?_
  rintro e w1 ⟨Bt, rfl, hT, hb1⟩
  have two : Two T w (w1.alloc (.cells #[.slice none 0 0, .int .i64 0] 28)) w1.heap.size Bt [] 0 := by
    have hs1 := hb1.size
    have hbA := below_al (below_self w1) (.cells #[.slice none 0 0, .int .i64 0] 28)
    refine ⟨⟨_, fun j => j = w1.heap.size, ⟨rfl, ⟨none, 0, by simp, VrAt.nil _ _ _⟩, by simp, by simp, by simp⟩, V.step hT hbA, ⟨?_, ?_, ?_⟩⟩, Vs.OkT.nil, below_via hb1 hbA⟩
    · intro j hj e; omega
    · intro j hj; simp; omega
    · intro j e; subst e; simp; omega
  obtain ⟨Bm, hBm⟩ : ∃ Bm, Bm = w1.heap.size := ⟨_, rfl⟩
  rw [← hBm] at two
  go_wp2_with fail
  rw [← hBm]
  clear hT hb1 hBm
  go_loopw [5] (fun i wr => ∃ (k : Nat) (l : List Vs.Ver) (top : Int), k ≤ s.length ∧ k ≤ 40 ∧ i = .int .i64 k ∧ l.length ≤ k ∧ Two T w wr Bm Bt l top) (fun i _ => s.length - (intOf i).toNat)
  case atStart => exact ⟨0, [], 0, by omega, by omega, rfl, by simp, two⟩
  case round =>
    obtain ⟨k, l, top, hk, hk40, rfl, hlk, tw⟩ := hrel
    clear two
    by_cases hlt : k < s.length ∧ k < 40
    · obtain ⟨hlt, hlt40⟩ := hlt
      have hlt' : (k : Int) < (s.length : Int) := by omega
      have hlt40' : (k : Int) < 40 := by omega
      obtain ⟨b, off, rfl, hbl, hc⟩ := (hs.step tw.bw) (by omega)
      obtain ⟨x, hx⟩ := Vs.getsome hlt
      obtain ⟨d0, d1, d2, d3, d4, d5, z1, z2, z3⟩ := hc k x hx
      have tb := tw.box V 30 x
      have ok := tw.ok
      have hzx := hz x (List.mem_of_getElem? hx)
      clear tw hc hx hs hz
      go_upto_block 2 with fail
      obtain ⟨Bs, hBs⟩ : ∃ Bs, Bs = wr.heap.size := ⟨_, rfl⟩
      obtain ⟨W, hW⟩ : ∃ W, W = wr.alloc (.cells #[.int .i64 x.what, .int .i64 x.who, .string x.key, .string x.hi, .string x.val, .int .i64 x.n] 30) := ⟨_, rfl⟩
      rw [← hW, ← hBs] at tb
      rw [← hW, ← hBs]
      clear hW hBs d0 d1 d2 d3 d4 d5
      go_cut [7, 8, 9, 10, 11, 12, 13, 14, 15, 16, 17] from 45 to 141 (fun ok _ _ _ _ _ _ _ _ _ _ wy => ok = .bool true ∧ ∃ (l' : List Vs.Ver) (top' : Int), l'.length ≤ k + 1 ∧ Vs.OkT l' top' ∧ Tw T w wy Bm Bt Bs x l' top' l' top')
      case first =>
        have hWs := tb.bw.size
        obtain ⟨F, G, hR, hT, fg, hf1, hg1⟩ := tb.ex
        have sb := tb.sb
        have bw := tb.bw
        have c0 := sb.c0
        have c2 := sb.c2
        have c4 := sb.c4
        have c5 := sb.c5
        clear tb
        by_cases hp : x.what = 0 ∨ x.what = 1 ∨ x.what = 2
        · have P1 := refPut (top := top) ⟨x.key, x.val, x.n, false⟩ W hR (by omega)
          rcases hp with hw | hw | hw
          · have e0 : (x.what == 0) = true := by simp; omega
            clear hw
            go_wp2_with fail
            refine P1.mono ?_
            rintro e w2 ⟨rfl, hR1, hb1⟩
            have tw2 := Tw.ref V hR hT fg hf1 hg1 sb bw hR1 hb1
            clear hR hT fg hf1 hg1 sb bw hR1 hb1 P1 c2 c4 c5
            obtain ⟨F2, G2, hR2, hT2, fg2, hf2, hg2⟩ := tw2.ex
            have sb2 := tw2.sb
            have bw2 := tw2.bw
            have c6 := sb2.c2
            have c7 := sb2.c4
            have c8 := sb2.c5
            go_wp2_with fail
            refine (V.put x.key x.val x.n hT2 ok (by omega) (fun j hj => (fg2.f j hj).2) z1 z3).mono ?_
            rintro e w3 ⟨rfl, hT3, hb3⟩
            have tw3 := Tw.vers hR2 fg2 hf2 hg2 sb2 bw2 hT3 hb3
            clear hR2 hT2 fg2 hf2 hg2 sb2 bw2 hT3 hb3 tw2 c6 c7 c8
            go_wp2_with fail
            refine (error_any _ _ _ (etStep het tw3.bw)).mono ?_
            rintro e w4 ⟨rfl, hb4⟩
            have tw4 := tw3.step V hb4
            clear tw3 hb4
            go_wp2_with fail
            go_meet
            case rel => exact ⟨by simp, _, _, Nat.le_trans (Vs.len_ptL _ _ _) (by omega), ok.putS _, tw4⟩
          · have e0 : (x.what == 0) = false := by simp; omega
            have e1 : (x.what == 1) = true := by simp; omega
            clear hw
            go_wp2_with fail
            refine P1.mono ?_
            rintro e w2 ⟨rfl, hR1, hb1⟩
            have tw2 := Tw.ref V hR hT fg hf1 hg1 sb bw hR1 hb1
            clear hR hT fg hf1 hg1 sb bw hR1 hb1 P1 c2 c4 c5
            obtain ⟨F2, G2, hR2, hT2, fg2, hf2, hg2⟩ := tw2.ex
            have sb2 := tw2.sb
            have bw2 := tw2.bw
            have c6 := sb2.c2
            have c7 := sb2.c4
            have c8 := sb2.c5
            go_wp2_with fail
            refine (V.put x.key x.val x.n hT2 ok (by omega) (fun j hj => (fg2.f j hj).2) z1 z3).mono ?_
            rintro e w3 ⟨rfl, hT3, hb3⟩
            have tw3 := Tw.vers hR2 fg2 hf2 hg2 sb2 bw2 hT3 hb3
            clear hR2 hT2 fg2 hf2 hg2 sb2 bw2 hT3 hb3 tw2 c6 c7 c8
            go_wp2_with fail
            refine (error_any _ _ _ (etStep het tw3.bw)).mono ?_
            rintro e w4 ⟨rfl, hb4⟩
            have tw4 := tw3.step V hb4
            clear tw3 hb4
            go_wp2_with fail
            go_meet
            case rel => exact ⟨by simp, _, _, Nat.le_trans (Vs.len_ptL _ _ _) (by omega), ok.putS _, tw4⟩
          · have e0 : (x.what == 0) = false := by simp; omega
            have e1 : (x.what == 1) = false := by simp; omega
            have e2 : (x.what == 2) = true := by simp; omega
            clear hw
            go_wp2_with fail
            refine P1.mono ?_
            rintro e w2 ⟨rfl, hR1, hb1⟩
            have tw2 := Tw.ref V hR hT fg hf1 hg1 sb bw hR1 hb1
            clear hR hT fg hf1 hg1 sb bw hR1 hb1 P1 c2 c4 c5
            obtain ⟨F2, G2, hR2, hT2, fg2, hf2, hg2⟩ := tw2.ex
            have sb2 := tw2.sb
            have bw2 := tw2.bw
            have c6 := sb2.c2
            have c7 := sb2.c4
            have c8 := sb2.c5
            go_wp2_with fail
            refine (V.put x.key x.val x.n hT2 ok (by omega) (fun j hj => (fg2.f j hj).2) z1 z3).mono ?_
            rintro e w3 ⟨rfl, hT3, hb3⟩
            have tw3 := Tw.vers hR2 fg2 hf2 hg2 sb2 bw2 hT3 hb3
            clear hR2 hT2 fg2 hf2 hg2 sb2 bw2 hT3 hb3 tw2 c6 c7 c8
            go_wp2_with fail
            refine (error_any _ _ _ (etStep het tw3.bw)).mono ?_
            rintro e w4 ⟨rfl, hb4⟩
            have tw4 := tw3.step V hb4
            clear tw3 hb4
            go_wp2_with fail
            go_meet
            case rel => exact ⟨by simp, _, _, Nat.le_trans (Vs.len_ptL _ _ _) (by omega), ok.putS _, tw4⟩
        · by_cases hp3 : x.what = 3
          · have hw := hp3
            clear hp hp3
            have e0 : (x.what == 0) = false := by simp; omega
            have e1 : (x.what == 1) = false := by simp; omega
            have e2 : (x.what == 2) = false := by simp; omega
            have e3 : (x.what == 3) = true := by simp; omega
            clear hw
            have P1 := refPut (top := top) ⟨x.key, ByteArray.empty, x.n, true⟩ W hR (by omega)
            go_wp2_with fail
            refine P1.mono ?_
            rintro e w2 ⟨rfl, hR1, hb1⟩
            have tw2 := Tw.ref V hR hT fg hf1 hg1 sb bw hR1 hb1
            clear hR hT fg hf1 hg1 sb bw hR1 hb1 P1 c2 c4 c5
            obtain ⟨F2, G2, hR2, hT2, fg2, hf2, hg2⟩ := tw2.ex
            have sb2 := tw2.sb
            have bw2 := tw2.bw
            have c6 := sb2.c2
            have c7 := sb2.c4
            have c8 := sb2.c5
            go_wp2_with fail
            refine (V.drop x.key x.n hT2 ok (by omega) (fun j hj => (fg2.f j hj).2) z1).mono ?_
            rintro e w3 ⟨rfl, hT3, hb3⟩
            have tw3 := Tw.vers hR2 fg2 hf2 hg2 sb2 bw2 hT3 hb3
            clear hR2 hT2 fg2 hf2 hg2 sb2 bw2 hT3 hb3 tw2 c6 c7 c8
            go_wp2_with fail
            refine (error_any _ _ _ (etStep het tw3.bw)).mono ?_
            rintro e w4 ⟨rfl, hb4⟩
            have tw4 := tw3.step V hb4
            clear tw3 hb4
            go_wp2_with fail
            go_meet
            case rel => exact ⟨by simp, _, _, Nat.le_trans (Vs.len_ptL _ _ _) (by omega), ok.putS _, tw4⟩
          · by_cases hp4 : x.what = 4
            · have hw := hp4
              clear hp hp3 hp4
              have e0 : (x.what == 0) = false := by simp; omega
              have e1 : (x.what == 1) = false := by simp; omega
              have e2 : (x.what == 2) = false := by simp; omega
              have e3 : (x.what == 3) = false := by simp; omega
              have e4 : (x.what == 4) = true := by simp; omega
              clear hw
              by_cases hn : x.n < 0 ∨ 1000000 < x.n
              · have hA : Vs.atF x.n = 1 := if_pos hn
                have hC : Vs.clS l x.n = l := if_neg (by rw [hA]; decide)
                have K3 := fun (F2 : Nat → Prop) (W2 : World) (_ : True) (hT2 : T W2 F2 Bt l top) (hF : ∀ j, F2 j → j < W2.heap.size) => V.collect x.n hT2 ok (by omega) hF
                rw [hA, hC, Int.sub_self] at K3
                clear hA hC
                by_cases q1 : x.n < 0
                · have q2 : decide (x.n < 0) = true := by simpa using q1
                  clear hn q1
                  have tw2 : Tw T w W Bm Bt Bs x l top l top := ⟨⟨F, G, hR, hT, fg, hf1, hg1⟩, sb, bw⟩
                  clear hR hT fg hf1 hg1 sb bw c2 c4
                  obtain ⟨F2, G2, hR2, hT2, fg2, hf2, hg2⟩ := tw2.ex
                  have sb2 := tw2.sb
                  have bw2 := tw2.bw
                  go_wp2_with fail
                  refine (K3 _ _ trivial hT2 (fun j hj => (fg2.f j hj).2)).mono ?_
                  rintro e w3 ⟨rfl, hT3, hb3⟩
                  have tw3 := Tw.vers hR2 fg2 hf2 hg2 sb2 bw2 hT3 hb3
                  clear hR2 hT2 fg2 hf2 hg2 sb2 bw2 hT3 hb3 tw2 K3
                  go_wp2_with fail
                  refine (error_any _ _ _ (etStep het tw3.bw)).mono ?_
                  rintro e w4 ⟨rfl, hb4⟩
                  have tw4 := tw3.step V hb4
                  clear tw3 hb4
                  go_wp2_with fail
                  go_meet
                  case rel => exact ⟨by simp, _, _, by omega, ok, tw4⟩
                · have q2 : decide (x.n < 0) = false := by simpa using q1
                  have q3 : decide (1000000 < x.n) = true := by simp; omega
                  clear hn q1
                  have tw2 : Tw T w W Bm Bt Bs x l top l top := ⟨⟨F, G, hR, hT, fg, hf1, hg1⟩, sb, bw⟩
                  clear hR hT fg hf1 hg1 sb bw c2 c4
                  obtain ⟨F2, G2, hR2, hT2, fg2, hf2, hg2⟩ := tw2.ex
                  have sb2 := tw2.sb
                  have bw2 := tw2.bw
                  go_wp2_with fail
                  refine (K3 _ _ trivial hT2 (fun j hj => (fg2.f j hj).2)).mono ?_
                  rintro e w3 ⟨rfl, hT3, hb3⟩
                  have tw3 := Tw.vers hR2 fg2 hf2 hg2 sb2 bw2 hT3 hb3
                  clear hR2 hT2 fg2 hf2 hg2 sb2 bw2 hT3 hb3 tw2 K3
                  go_wp2_with fail
                  refine (error_any _ _ _ (etStep het tw3.bw)).mono ?_
                  rintro e w4 ⟨rfl, hb4⟩
                  have tw4 := tw3.step V hb4
                  clear tw3 hb4
                  go_wp2_with fail
                  go_meet
                  case rel => exact ⟨by simp, _, _, by omega, ok, tw4⟩
              · have q1 : decide (x.n < 0) = false := by simp; omega
                have q2 : decide (1000000 < x.n) = false := by simp; omega
                have hA : Vs.atF x.n = 0 := if_neg (by omega)
                have hC : Vs.clS l x.n = Vs.vcol l x.n := if_pos hA
                have K3 := fun (F2 : Nat → Prop) (W2 : World) (hh : True) (hT2 : T W2 F2 Bt l top) (hF : ∀ j, F2 j → j < W2.heap.size) => V.collect x.n hT2 ok (by omega) hF
                rw [hA, hC] at K3
                have okC := ok.col x.n
                have hlC : (Vs.vcol l x.n).length ≤ l.length := List.length_filter_le _ _
                have P1 := refCollect x.n W ok hR (by omega)
                clear hA hC hn
                go_wp2_with fail
                refine P1.mono ?_
                rintro e w2 ⟨rfl, hR1, hb1⟩
                have tw2 := Tw.ref V hR hT fg hf1 hg1 sb bw hR1 hb1
                clear hR hT fg hf1 hg1 sb bw hR1 hb1 P1 c2 c4 c5
                obtain ⟨F2, G2, hR2, hT2, fg2, hf2, hg2⟩ := tw2.ex
                have sb2 := tw2.sb
                have bw2 := tw2.bw
                have c6 := sb2.c2
                have c7 := sb2.c4
                have c8 := sb2.c5
                go_wp2_with fail
                refine (K3 _ _ trivial hT2 (fun j hj => (fg2.f j hj).2)).mono ?_
                rintro e w3 ⟨rfl, hT3, hb3⟩
                have tw3 := Tw.vers hR2 fg2 hf2 hg2 sb2 bw2 hT3 hb3
                clear hR2 hT2 fg2 hf2 hg2 sb2 bw2 hT3 hb3 tw2 c6 c7 c8 K3
                go_wp2_with fail
                refine (error_nil _ _).mono ?_
                rintro e w4 ⟨rfl, hw4⟩
                rw [← hw4] at tw3
                clear hw4
                go_wp2_with fail
                go_meet
                case rel => exact ⟨by simp, _, _, by omega, okC, tw3⟩
            · have P1 := refGet x.key x.n W ok hR (by omega)
              have e0 : (x.what == 0) = false := by simp; omega
              have e1 : (x.what == 1) = false := by simp; omega
              have e2 : (x.what == 2) = false := by simp; omega
              have e3 : (x.what == 3) = false := by simp; omega
              have e4 : (x.what == 4) = false := by simp; omega
              have hself : ((Vs.gtS l x.key x.n).toList == (Vs.gtS l x.key x.n).toList) = true := by simp
              clear hp hp3 hp4
              go_wp2_with fail
              refine P1.mono ?_
              rintro e w2 ⟨rfl, hb1⟩
              have tw2 := (Tw.mk ⟨F, G, hR, hT, fg, hf1, hg1⟩ sb bw : Tw T w W Bm Bt Bs x l top l top).step V hb1
              clear hR hT fg hf1 hg1 sb bw hb1 P1 c2 c4 c5
              obtain ⟨F2, G2, hR2, hT2, fg2, hf2, hg2⟩ := tw2.ex
              have sb2 := tw2.sb
              have bw2 := tw2.bw
              have c6 := sb2.c2
              have c7 := sb2.c4
              have c8 := sb2.c5
              go_wp2_with fail
              refine (V.get x.key x.n hT2 ok (by omega) z1).mono ?_
              rintro e w3 ⟨rfl, hb3⟩
              have tw3 := tw2.step V hb3
              clear hR2 hT2 fg2 hf2 hg2 sb2 bw2 hb3 tw2 c6 c7 c8
              go_wp2_with fail
              refine (error_any _ _ _ (etStep het tw3.bw)).mono ?_
              rintro e w4 ⟨rfl, hb4⟩
              have tw4 := tw3.step V hb4
              clear tw3 hb4
              rw [beq_self_eq_true]
              go_wp2_with fail
              go_meet
              case rel => exact ⟨by simp, _, _, by omega, ok, tw4⟩
      case rest =>
        obtain ⟨hok7, l', top', hl', ok', tw⟩ := hcut
        subst hok7
        clear ok hlk tb
        obtain ⟨F, G, hR, hT, fg, hf1, hg1⟩ := tw.ex
        obtain ⟨pm, cm, m0, _⟩ := hR.row
        have m1 := hR.c1
        have hBm := hR.lt
        have hTd := V.step hT (below_self wc).drew
        have n1 : (top' != top') = false := by simp
        have n2 : ((l'.length : Int) != (l'.length : Int)) = false := by simp
        go_wp2_with fail
        go_region_held3 (fun wz => wz.cell? ⟨Bm, 0, none⟩ = some (.slice pm l'.length cm) ∧ wz.cell? ⟨Bm, 1, none⟩ = some (.int .i64 top'))
          (first | exact ⟨m4, m5⟩ | exact ⟨m2, m3⟩ | exact ⟨m0, m1⟩)
          (first
            | (go_at_call 13; refine (V.top hTd ok' (by omega)).mono ?_; rintro e w2 ⟨rfl, hb2⟩; have hT2 := V.step hTd hb2; have m2 := (hb2.cell (p := ⟨Bm, 0, none⟩) hBm).trans m0; have m3 := (hb2.cell (p := ⟨Bm, 1, none⟩) hBm).trans m1)
            | (go_at_call 14; refine (V.size hT2 ok' (by omega)).mono ?_; rintro e w3 ⟨rfl, hb3⟩; have m4 := (hb3.cell (p := ⟨Bm, 0, none⟩) (Nat.lt_of_lt_of_le hBm hb2.size)).trans m2; have m5 := (hb3.cell (p := ⟨Bm, 1, none⟩) (Nat.lt_of_lt_of_le hBm hb2.size)).trans m3))
        have tw3 := tw.step V (below_via (below_via (below_self wc).drew hb2) hb3)
        clear tw hR hT hTd hT2 m0 m1 m2 m3 m4 m5 hb2 hb3 hBm fg hf1 hg1
        by_cases hn : x.n < 0 ∨ 1000000 < x.n
        · by_cases h0 : x.n < 0
          · have q1 : decide (x.n < 0) = true := by simpa using h0
            have hA : Vs.atF x.n = 1 := if_pos hn
            have hA0 : ¬ Vs.atF x.n = 0 := by rw [hA]; decide
            have K1 := fun (F2 : Nat → Prop) (W2 : World) (hT2 : T W2 F2 Bt l' top') => V.range x.key x.hi x.n hT2 ok' (by omega)
            have K2 := fun (F2 : Nat → Prop) (W2 : World) (hT2 : T W2 F2 Bt l' top') => V.touched x.key x.hi x.n hT2 ok' (by omega) hzx
            rw [show Vs.rgS l' x.key x.hi x.n = [] from if_neg hA0, hA] at K1
            rw [show Vs.tcS l' x.key x.hi x.n = false from if_neg hA0, hA] at K2
            clear hA hA0 hn h0
            have c2 := tw3.sb.c2
            have c3 := tw3.sb.c3
            have c5 := tw3.sb.c5
            obtain ⟨F5, G5, hR5, hT5, _⟩ := tw3.ex
            go_wp2_with fail
            refine (K1 _ _ hT5).mono ?_
            rintro e w6 ⟨q6, k6, rfl, hp6', hb6⟩
            have hp6 := hp6'.at
            clear hp6'
            have tw6 := tw3.step V hb6
            clear hR5 hT5 hb6 c2 c3 c5 K1 tw3
            go_wp2_with fail
            refine (error_any _ _ _ (etStep het tw6.bw)).mono ?_
            rintro e w7 ⟨rfl, hb7⟩
            have tw7 := tw6.step V hb7
            replace hp6 := hp6.step hb7
            clear hb7 tw6
            go_wp2_with fail
            refine (samePairs [] [] q6 none k6 0 _ (by simp) hp6 (PrAt.nil _ _)).mono ?_
            rintro e w8 ⟨rfl, hb8⟩
            rw [decide_eq_true (rfl : ([] : List Vs.Pr) = [])]
            have tw8 := tw7.step V hb8
            clear tw7 hp6 hb8
            have c2 := tw8.sb.c2
            have c3 := tw8.sb.c3
            have c5 := tw8.sb.c5
            obtain ⟨F8, G8, hR8, hT8, _⟩ := tw8.ex
            go_wp2_with fail
            refine (K2 _ _ hT8).mono ?_
            rintro e w9 ⟨rfl, hb9⟩
            have tw9 := tw8.step V hb9
            clear hR8 hT8 hb9 c2 c3 c5 K2 tw8
            go_wp2_with fail
            refine (error_any _ _ _ (etStep het tw9.bw)).mono ?_
            rintro e w10 ⟨rfl, hb10⟩
            have tw10 := tw9.step V hb10
            clear tw9 hb10
            go_wp2_with fail
            exact ⟨⟨k + 1, l', top', by omega, by omega, by go_num, by omega, tw10.two ok'⟩, by simp [intOf]; omega⟩
          · have q1 : decide (x.n < 0) = false := by simpa using h0
            have q2 : decide (1000000 < x.n) = true := by simp; omega
            have hA : Vs.atF x.n = 1 := if_pos hn
            have hA0 : ¬ Vs.atF x.n = 0 := by rw [hA]; decide
            have K1 := fun (F2 : Nat → Prop) (W2 : World) (hT2 : T W2 F2 Bt l' top') => V.range x.key x.hi x.n hT2 ok' (by omega)
            have K2 := fun (F2 : Nat → Prop) (W2 : World) (hT2 : T W2 F2 Bt l' top') => V.touched x.key x.hi x.n hT2 ok' (by omega) hzx
            rw [show Vs.rgS l' x.key x.hi x.n = [] from if_neg hA0, hA] at K1
            rw [show Vs.tcS l' x.key x.hi x.n = false from if_neg hA0, hA] at K2
            clear hA hA0 hn h0
            have c2 := tw3.sb.c2
            have c3 := tw3.sb.c3
            have c5 := tw3.sb.c5
            obtain ⟨F5, G5, hR5, hT5, _⟩ := tw3.ex
            go_wp2_with fail
            refine (K1 _ _ hT5).mono ?_
            rintro e w6 ⟨q6, k6, rfl, hp6', hb6⟩
            have hp6 := hp6'.at
            clear hp6'
            have tw6 := tw3.step V hb6
            clear hR5 hT5 hb6 c2 c3 c5 K1 tw3
            go_wp2_with fail
            refine (error_any _ _ _ (etStep het tw6.bw)).mono ?_
            rintro e w7 ⟨rfl, hb7⟩
            have tw7 := tw6.step V hb7
            replace hp6 := hp6.step hb7
            clear hb7 tw6
            go_wp2_with fail
            refine (samePairs [] [] q6 none k6 0 _ (by simp) hp6 (PrAt.nil _ _)).mono ?_
            rintro e w8 ⟨rfl, hb8⟩
            rw [decide_eq_true (rfl : ([] : List Vs.Pr) = [])]
            have tw8 := tw7.step V hb8
            clear tw7 hp6 hb8
            have c2 := tw8.sb.c2
            have c3 := tw8.sb.c3
            have c5 := tw8.sb.c5
            obtain ⟨F8, G8, hR8, hT8, _⟩ := tw8.ex
            go_wp2_with fail
            refine (K2 _ _ hT8).mono ?_
            rintro e w9 ⟨rfl, hb9⟩
            have tw9 := tw8.step V hb9
            clear hR8 hT8 hb9 c2 c3 c5 K2 tw8
            go_wp2_with fail
            refine (error_any _ _ _ (etStep het tw9.bw)).mono ?_
            rintro e w10 ⟨rfl, hb10⟩
            have tw10 := tw9.step V hb10
            clear tw9 hb10
            go_wp2_with fail
            exact ⟨⟨k + 1, l', top', by omega, by omega, by go_num, by omega, tw10.two ok'⟩, by simp [intOf]; omega⟩
        · have q1 : decide (x.n < 0) = false := by simp; omega
          have q2 : decide (1000000 < x.n) = false := by simp; omega
          have hA : Vs.atF x.n = 0 := if_neg (by omega)
          have K1 := fun (F2 : Nat → Prop) (W2 : World) (hT2 : T W2 F2 Bt l' top') => V.range x.key x.hi x.n hT2 ok' (by omega)
          have K2 := fun (F2 : Nat → Prop) (W2 : World) (hT2 : T W2 F2 Bt l' top') => V.touched x.key x.hi x.n hT2 ok' (by omega) hzx
          rw [show Vs.rgS l' x.key x.hi x.n = Vs.vrng l' x.key x.hi x.n from if_pos hA, hA] at K1
          rw [show Vs.tcS l' x.key x.hi x.n = Vs.vtch l' x.key x.hi x.n from if_pos hA, hA] at K2
          have P1 := fun (G2 : Nat → Prop) (W2 : World) (hR2 : RT W2 G2 Bm l' top') => refRange x.key x.hi x.n W2 ok' hR2 (by omega)
          have P2 := fun (G2 : Nat → Prop) (W2 : World) (hR2 : RT W2 G2 Bm l' top') => refTouched x.key x.hi x.n W2 hR2 (by omega)
          have hNl := Vs.vrng_len l' x.key x.hi x.n
          obtain ⟨N, hN⟩ : ∃ N, N = Vs.vrng l' x.key x.hi x.n := ⟨_, rfl⟩
          obtain ⟨tt, htt⟩ : ∃ tt, tt = Vs.vtch l' x.key x.hi x.n := ⟨_, rfl⟩
          rw [← hN] at K1 P1 hNl
          rw [← htt] at K2 P2
          clear hN htt hA hn
          have n3 : (tt != tt) = false := by simp
          have c2 := tw3.sb.c2
          have c3 := tw3.sb.c3
          have c5 := tw3.sb.c5
          obtain ⟨F3, G3, hR3, hT3, _⟩ := tw3.ex
          go_wp2_with fail
          refine (P1 _ _ hR3).mono ?_
          rintro e w4 ⟨q4, k4, rfl, hp4, hb4⟩
          have tw4 := tw3.step V hb4
          clear hR3 hT3 hb4 c2 c3 c5 P1 tw3
          have c2 := tw4.sb.c2
          have c3 := tw4.sb.c3
          have c5 := tw4.sb.c5
          obtain ⟨F4, G4, hR4, hT4, _⟩ := tw4.ex
          go_wp2_with fail
          refine (P2 _ _ hR4).mono ?_
          rintro e w5 ⟨rfl, hb5⟩
          have tw5 := tw4.step V hb5
          replace hp4 := hp4.step hb5
          clear hR4 hT4 hb5 c2 c3 c5 P2 tw4
          have c2 := tw5.sb.c2
          have c3 := tw5.sb.c3
          have c5 := tw5.sb.c5
          obtain ⟨F5, G5, hR5, hT5, _⟩ := tw5.ex
          go_wp2_with fail
          refine (K1 _ _ hT5).mono ?_
          rintro e w6 ⟨q6, k6, rfl, hp6', hb6⟩
          have hp6 := hp6'.at
          clear hp6'
          have tw6 := tw5.step V hb6
          replace hp4 := hp4.step hb6
          clear hR5 hT5 hb6 c2 c3 c5 K1 tw5
          go_wp2_with fail
          refine (error_nil _ _).mono ?_
          rintro e w7 ⟨rfl, hw7⟩
          rw [← hw7] at tw6 hp4 hp6
          clear hw7
          go_wp2_with fail
          refine (samePairs N N q6 q4 k6 k4 _ (by omega) hp6 hp4).mono ?_
          rintro e w8 ⟨rfl, hb8⟩
          rw [decide_eq_true (rfl : N = N)]
          have tw8 := tw6.step V hb8
          clear tw6 hp4 hp6 hb8
          have c2 := tw8.sb.c2
          have c3 := tw8.sb.c3
          have c5 := tw8.sb.c5
          obtain ⟨F8, G8, hR8, hT8, _⟩ := tw8.ex
          go_wp2_with fail
          refine (K2 _ _ hT8).mono ?_
          rintro e w9 ⟨rfl, hb9⟩
          have tw9 := tw8.step V hb9
          clear hR8 hT8 hb9 c2 c3 c5 K2 tw8
          go_wp2_with fail
          refine (error_nil _ _).mono ?_
          rintro e w10 ⟨rfl, hw10⟩
          rw [← hw10] at tw9
          clear hw10
          go_wp2_with fail
          exact ⟨⟨k + 1, l', top', by omega, by omega, by go_num, by omega, tw9.two ok'⟩, by simp [intOf]; omega⟩
    · have hd : (decide ((k : Int) < (s.length : Int)) && decide ((k : Int) < 40)) = false := by
        simp; omega
      by_cases h1 : k < s.length
      · have g1 : decide ((k : Int) < (s.length : Int)) = true := by simp; omega
        have g2 : decide ((k : Int) < 40) = false := by simp; omega
        have bw := tw.bw
        clear tw hs hd
        go_wp2_with fail
        go_ret
        exact ⟨rfl, bw⟩
      · have g1 : decide ((k : Int) < (s.length : Int)) = false := by simp; omega
        have bw := tw.bw
        clear tw hs hd
        go_wp2_with fail
        go_ret
        exact ⟨rfl, bw⟩
end Go.Proofs.YtickoadcficdeaaGreatDoor
