/- The walk of the law DeskPlays. -/
import Derived.Test.YteipfdjpndhgkaaGreatDoorCPM
import Derived.Test.YteipfdjpndhgkaaGreatDoorCDrP
import Derived.Test.YteipfdjpndhgkaaGreatDoorCDrQ
import Derived.Test.YteipfdjpndhgkaaGreatDoorCPH
import Derived.Test.YteipfdjpndhgkaaGreatDoorCNF
import Derived.Test.YteipfdjpndhgkaaGreatDoorCNE
import Derived.Deep.CutBlock
namespace Go.Proofs.YteipfdjpndhgkaaGreatDoor
open Go.RowKit Vs

theorem etStep {w w' : World} (h : ErrType w) (hb : Below w.heap.size w w') : ErrType w' := (hb.cell (World.block_lt_of_cell? _ _ h)).trans h

set_option maxRecDepth 100000 in
set_option maxHeartbeats 100000000 in
theorem law_desk {T : Td} (V : DFace T) (room : Int) (s : List Stp) (q : Option Addr) (cq : Nat) (w : World) (hsl : s.length ≤ 9223372036854775807) (hq : StAt w q s) (hsN : ∀ x ∈ s, -9223372036854775808 ≤ x.n ∧ x.n ≤ 9223372036854775807) (hkz : ∀ x ∈ s, x.key.size ≤ 1048576) (het : ErrType w) :
    Calls Tryz.prog 3 #[.int .i64 room, .slice q s.length cq] w fun e w' => e = .returned (.bool true) ∧ Below w.heap.size w w' := by
  by_cases hr : 0 ≤ room ∧ room ≤ 100000
  · obtain ⟨hr0, hr1⟩ := hr
    have P0 := V.newOk w hr0 hr1
    go_enter Tryz.func3, Tryz.ntmps3
    go_wp2_with fail
    refine P0.mono ?_
    rintro e w1 ⟨Bt, rfl, hT, hb1⟩
    clear P0
    go_wp2_with fail
    refine (drNew room w1).mono ?_
    rintro e w2 ⟨Bm, rfl, hR, hb2⟩
    have lt0 : Dt T w w2 Bm Bt (dk0 room) := by
      have hs1 := hb1.size
      have hs2 := hb2.size
      refine ⟨⟨_, _, hR, V.step hT hb2, ⟨fun j hj e => ?_, fun j hj => ?_, fun j hj => ?_⟩⟩, below_via hb1 hb2⟩
      · have e' : w1.heap.size ≤ j ∧ j < w2.heap.size := e
        have hj' : w.heap.size ≤ j ∧ j < w1.heap.size := hj
        omega
      · have hj' : w.heap.size ≤ j ∧ j < w1.heap.size := hj
        omega
      · have e' : w1.heap.size ≤ j ∧ j < w2.heap.size := hj
        omega
    have dp0 := Dp.new hr0 hr1
    clear hT hb1 hR hb2 hr0 hr1
    go_wp2_with fail
    go_loopw [8] (fun i wr => ∃ (k : Nat) (d : Dk), k ≤ s.length ∧ k ≤ 60 ∧ i = .int .i64 k ∧ Dp k d ∧ Dt T w wr Bm Bt d) (fun i _ => s.length - (intOf i).toNat)
    case atStart => exact ⟨0, dk0 room, by omega, by omega, rfl, dp0, lt0⟩
    case round =>
      obtain ⟨k, d, hk, hk60, rfl, dp, on⟩ := hrel
      clear lt0 dp0
      by_cases hlt : k < s.length ∧ k < 60
      · obtain ⟨hlt, hlt60⟩ := hlt
        have hlt' : (k : Int) < (s.length : Int) := by omega
        have hlt60' : (k : Int) < 60 := by omega
        obtain ⟨b, off, rfl, hbl, hc⟩ := (hq.step on.bw) (by omega)
        obtain ⟨x, hx⟩ := Vs.getsome hlt
        obtain ⟨d0, d1, d2, d3, d4, d5, z1, z2, z3⟩ := hc k x hx
        have hxn := hsN x (List.mem_of_getElem? hx)
        have hxk := hkz x (List.mem_of_getElem? hx)
        have kb0 := on.box V 33 x
        have kc0 := kb0.sb.c0
        clear on hc hx hq hsN hkz
        go_upto_block 2 with fail
        obtain ⟨Bs, hBs⟩ : ∃ Bs, Bs = wr.heap.size := ⟨_, rfl⟩
        obtain ⟨W, hW⟩ : ∃ W, W = wr.alloc (.cells #[.int .i64 x.what, .int .i64 x.who, .string x.key, .string x.hi, .string x.val, .int .i64 x.n] 33) := ⟨_, rfl⟩
        rw [← hW, ← hBs] at kb0
        rw [← hW, ← hBs]
        clear hW hBs kc0 d0 d1 d2 d3 d4 d5
        go_cut [10, 11, 12, 13, 14, 15, 16, 17, 18, 19, 20, 21, 22, 23, 24, 25, 26, 27, 28, 29, 30, 31] from 64 to 262 (fun ok same _ _ _ _ _ _ _ _ _ _ _ _ _ _ _ _ _ _ _ _ wy => ok = .bool true ∧ same = .bool true ∧ ∃ (d' : Dk), Dp (k + 1) d' ∧ Dw T w wy Bm Bt Bs x d' d')
        case first =>
          obtain ⟨F, G, hR, hT, fg, hf1, hg1⟩ := kb0.ex
          have sb := kb0.sb
          have bw := kb0.bw
          have hWs := bw.size
          have ok := dp.ok
          have sm := dp.sm (by omega)
          have hFb := fun j hj => (fg.f j hj).2
          have hGb := fun j hj => (fg.g j hj).2
          clear kb0
          by_cases hw : x.what = 0
          · as_aux_lemma =>
              have e0 : (x.what == 0) = true := by simp; omega
              have c0 := sb.c0
              have P1 := drBegin hR ok sm hGb
              clear hw
              go_wp2_with fail
              refine P1.mono ?_
              rintro e w2 ⟨rfl, hR1, hb1⟩
              have tw2 := Dw.ref V hT fg hf1 hg1 sb bw hR1 hb1
              clear hR hT fg hf1 hg1 sb bw hR1 hb1 P1 c0 hFb hGb
              obtain ⟨F2, G2, hR2, hT2, fg2, hf2, hg2⟩ := tw2.ex
              have sb2 := tw2.sb
              have bw2 := tw2.bw
              have hFb2 := fun j hj => (fg2.f j hj).2
              have hGb2 := fun j hj => (fg2.g j hj).2
              have P2 := V.begin_ hT2 ok sm hFb2
              clear tw2
              go_wp2_with fail
              refine P2.mono ?_
              rintro e w3 ⟨rfl, hT3, hb3⟩
              have tw3 := Dw.dsk hR2 fg2 hf2 hg2 sb2 bw2 hT3 hb3
              clear hR2 hT2 fg2 hf2 hg2 sb2 bw2 hT3 hb3 P2 hFb2 hGb2
              go_wp2_with fail
              refine (error_any _ _ _ (etStep het tw3.bw)).mono ?_
              rintro e w4 ⟨rfl, hb4⟩
              have tw4 := tw3.step V hb4
              clear tw3 hb4
              go_wp2_with fail
              go_meet
              case rel => exact ⟨by simp, by simp, _, dp.bg, tw4⟩
          by_cases hw : x.what = 1
          · as_aux_lemma =>
              have e0 : (x.what == 0) = false := by simp; omega
              have e1 : (x.what == 1) = true := by simp; omega
              have c0 := sb.c0
              have k1 := sb.c1
              have k2 := sb.c2
              have P1 := drGet x.who x.key hR ok sm
              clear hw
              go_wp2_with fail
              refine P1.mono ?_
              rintro e w2 ⟨rfl, hR1, hb1⟩
              have tw2 := Dw.ref V hT fg hf1 hg1 sb bw hR1 hb1
              clear hR hT fg hf1 hg1 sb bw hR1 hb1 P1 c0 hFb hGb k1 k2
              obtain ⟨F2, G2, hR2, hT2, fg2, hf2, hg2⟩ := tw2.ex
              have sb2 := tw2.sb
              have bw2 := tw2.bw
              have hFb2 := fun j hj => (fg2.f j hj).2
              have hGb2 := fun j hj => (fg2.g j hj).2
              have k1 := sb2.c1
              have k2 := sb2.c2
              have P2 := V.get x.who x.key hT2 ok sm hFb2 z1
              clear tw2
              go_wp2_with fail
              refine P2.mono ?_
              rintro e w3 ⟨rfl, hT3, hb3⟩
              have tw3 := Dw.dsk hR2 fg2 hf2 hg2 sb2 bw2 hT3 hb3
              clear hR2 hT2 fg2 hf2 hg2 sb2 bw2 hT3 hb3 P2 hFb2 hGb2 k1 k2
              go_wp2_with fail
              refine (error_any _ _ _ (etStep het tw3.bw)).mono ?_
              rintro e w4 ⟨rfl, hb4⟩
              have tw4 := tw3.step V hb4
              clear tw3 hb4
              go_wp2_with fail
              go_meet
              case rel => exact ⟨by simp, by simp, _, dp.dg _ _, tw4⟩
          by_cases hw : x.what = 2
          · as_aux_lemma =>
              have e0 : (x.what == 0) = false := by simp; omega
              have e1 : (x.what == 1) = false := by simp; omega
              have e2 : (x.what == 2) = true := by simp; omega
              have c0 := sb.c0
              have k1 := sb.c1
              have k2 := sb.c2
              have k3 := sb.c3
              have P1 := drRange x.who x.key x.hi hR ok sm
              clear hw
              go_wp2_with fail
              refine P1.mono ?_
              rintro e w2 ⟨q2, m2, rfl, hp2, hR1, hb1⟩
              obtain ⟨hT2, fg2, hf2, hg2, sb2, bw2⟩ := dw_ref V hT fg hf1 hg1 sb bw hb1
              have hps : ∀ j, F j → j < W.heap.size := hFb
              clear hR hT fg hf1 hg1 sb bw hb1 P1 c0 hFb hGb k1 k2 k3
              have hFb2 := fun j hj => (fg2.f j hj).2
              have k1 := sb2.c1
              have k2 := sb2.c2
              have k3 := sb2.c3
              have P2 := V.range x.who x.key x.hi hT2 ok sm hFb2
              have hdl := drS_len ok x.who x.key x.hi
              have hwt := sm.wt
              go_wp2_with fail
              refine P2.mono ?_
              rintro e w3 ⟨q3, m3, F3, rfl, _, hp3, hT3, hF3, hb3⟩
              have tw3 := Dw.dskF hR1 fg2 hf2 hg2 sb2 bw2 hT3 hF3 hb3
              have hp2a := (hp2.but hb3 (fun j _ hj e => by have := hps j e; have hj' : W.heap.size ≤ j := hj; omega)).at
              have hp3a := hp3.at
              clear hR1 hT2 fg2 hf2 hg2 sb2 bw2 hT3 hb3 P2 hFb2 hp2 hp3 hF3 hps k1 k2 k3
              go_wp2_with fail
              refine (error_any _ _ _ (etStep het tw3.bw)).mono ?_
              rintro e w4 ⟨rfl, hb4⟩
              have tw4 := tw3.step V hb4
              replace hp2a := hp2a.step hb4
              replace hp3a := hp3a.step hb4
              clear tw3 hb4
              go_wp2_with fail
              refine (samePairs (drS d x.who x.key x.hi) (drS d x.who x.key x.hi) q3 q2 m3 m2 _ (by omega) hp3a hp2a).mono ?_
              rintro e w5 ⟨rfl, hb5⟩
              have tw5 := tw4.step V hb5
              clear tw4 hb5 hp2a hp3a
              go_wp2_with fail
              go_meet
              case rel => exact ⟨by simp, by simp, _, dp.dr _ _ _ (by omega), tw5⟩
          by_cases hw : x.what = 3
          · as_aux_lemma =>
              have e0 : (x.what == 0) = false := by simp; omega
              have e1 : (x.what == 1) = false := by simp; omega
              have e2 : (x.what == 2) = false := by simp; omega
              have e3 : (x.what == 3) = true := by simp; omega
              have c0 := sb.c0
              have k1 := sb.c1
              have k2 := sb.c2
              have k4 := sb.c4
              have P1 := drChange x.who ⟨x.key, x.val, false⟩ hR ok
              clear hw
              go_wp2_with fail
              refine P1.mono ?_
              rintro e w2 ⟨rfl, hR1, hb1⟩
              have tw2 := Dw.ref V hT fg hf1 hg1 sb bw hR1 hb1
              clear hR hT fg hf1 hg1 sb bw hR1 hb1 P1 c0 hFb hGb k1 k2 k4
              obtain ⟨F2, G2, hR2, hT2, fg2, hf2, hg2⟩ := tw2.ex
              have sb2 := tw2.sb
              have bw2 := tw2.bw
              have hFb2 := fun j hj => (fg2.f j hj).2
              have hGb2 := fun j hj => (fg2.g j hj).2
              have k1 := sb2.c1
              have k2 := sb2.c2
              have k4 := sb2.c4
              have P2 := V.put x.who x.key x.val hT2 ok sm hFb2 z1 z3
              clear tw2
              go_wp2_with fail
              refine P2.mono ?_
              rintro e w3 ⟨rfl, hT3, hb3⟩
              have tw3 := Dw.dsk hR2 fg2 hf2 hg2 sb2 bw2 hT3 hb3
              clear hR2 hT2 fg2 hf2 hg2 sb2 bw2 hT3 hb3 P2 hFb2 hGb2 k1 k2 k4
              go_wp2_with fail
              refine (error_any _ _ _ (etStep het tw3.bw)).mono ?_
              rintro e w4 ⟨rfl, hb4⟩
              have tw4 := tw3.step V hb4
              clear tw3 hb4
              go_wp2_with fail
              go_meet
              case rel => exact ⟨by simp, by simp, _, dp.dc _ (fun g => by cases g), tw4⟩
          by_cases hw : x.what = 4
          · as_aux_lemma =>
              have e0 : (x.what == 0) = false := by simp; omega
              have e1 : (x.what == 1) = false := by simp; omega
              have e2 : (x.what == 2) = false := by simp; omega
              have e3 : (x.what == 3) = false := by simp; omega
              have e4 : (x.what == 4) = true := by simp; omega
              have c0 := sb.c0
              have k1 := sb.c1
              have k2 := sb.c2
              have k4 := sb.c4
              have P1 := drChange x.who ⟨x.key, x.val, false⟩ hR ok
              clear hw
              go_wp2_with fail
              refine P1.mono ?_
              rintro e w2 ⟨rfl, hR1, hb1⟩
              have tw2 := Dw.ref V hT fg hf1 hg1 sb bw hR1 hb1
              clear hR hT fg hf1 hg1 sb bw hR1 hb1 P1 c0 hFb hGb k1 k2 k4
              obtain ⟨F2, G2, hR2, hT2, fg2, hf2, hg2⟩ := tw2.ex
              have sb2 := tw2.sb
              have bw2 := tw2.bw
              have hFb2 := fun j hj => (fg2.f j hj).2
              have hGb2 := fun j hj => (fg2.g j hj).2
              have k1 := sb2.c1
              have k2 := sb2.c2
              have k4 := sb2.c4
              have P2 := V.put x.who x.key x.val hT2 ok sm hFb2 z1 z3
              clear tw2
              go_wp2_with fail
              refine P2.mono ?_
              rintro e w3 ⟨rfl, hT3, hb3⟩
              have tw3 := Dw.dsk hR2 fg2 hf2 hg2 sb2 bw2 hT3 hb3
              clear hR2 hT2 fg2 hf2 hg2 sb2 bw2 hT3 hb3 P2 hFb2 hGb2 k1 k2 k4
              go_wp2_with fail
              refine (error_any _ _ _ (etStep het tw3.bw)).mono ?_
              rintro e w4 ⟨rfl, hb4⟩
              have tw4 := tw3.step V hb4
              clear tw3 hb4
              go_wp2_with fail
              go_meet
              case rel => exact ⟨by simp, by simp, _, dp.dc _ (fun g => by cases g), tw4⟩
          by_cases hw : x.what = 5
          · as_aux_lemma =>
              have e0 : (x.what == 0) = false := by simp; omega
              have e1 : (x.what == 1) = false := by simp; omega
              have e2 : (x.what == 2) = false := by simp; omega
              have e3 : (x.what == 3) = false := by simp; omega
              have e4 : (x.what == 4) = false := by simp; omega
              have e5 : (x.what == 5) = true := by simp; omega
              have c0 := sb.c0
              have k1 := sb.c1
              have k2 := sb.c2
              have P1 := drChange x.who ⟨x.key, ByteArray.empty, true⟩ hR ok
              clear hw
              go_wp2_with fail
              refine P1.mono ?_
              rintro e w2 ⟨rfl, hR1, hb1⟩
              have tw2 := Dw.ref V hT fg hf1 hg1 sb bw hR1 hb1
              clear hR hT fg hf1 hg1 sb bw hR1 hb1 P1 c0 hFb hGb k1 k2
              obtain ⟨F2, G2, hR2, hT2, fg2, hf2, hg2⟩ := tw2.ex
              have sb2 := tw2.sb
              have bw2 := tw2.bw
              have hFb2 := fun j hj => (fg2.f j hj).2
              have hGb2 := fun j hj => (fg2.g j hj).2
              have k1 := sb2.c1
              have k2 := sb2.c2
              have P2 := V.drop x.who x.key hT2 ok sm hFb2 z1
              clear tw2
              go_wp2_with fail
              refine P2.mono ?_
              rintro e w3 ⟨rfl, hT3, hb3⟩
              have tw3 := Dw.dsk hR2 fg2 hf2 hg2 sb2 bw2 hT3 hb3
              clear hR2 hT2 fg2 hf2 hg2 sb2 bw2 hT3 hb3 P2 hFb2 hGb2 k1 k2
              go_wp2_with fail
              refine (error_any _ _ _ (etStep het tw3.bw)).mono ?_
              rintro e w4 ⟨rfl, hb4⟩
              have tw4 := tw3.step V hb4
              clear tw3 hb4
              go_wp2_with fail
              go_meet
              case rel => exact ⟨by simp, by simp, _, dp.dc _ (fun _ => rfl), tw4⟩
          by_cases hw : x.what = 6
          · as_aux_lemma =>
              have e0 : (x.what == 0) = false := by simp; omega
              have e1 : (x.what == 1) = false := by simp; omega
              have e2 : (x.what == 2) = false := by simp; omega
              have e3 : (x.what == 3) = false := by simp; omega
              have e4 : (x.what == 4) = false := by simp; omega
              have e5 : (x.what == 5) = false := by simp; omega
              have e6 : (x.what == 6) = true := by simp; omega
              have c0 := sb.c0
              have k1 := sb.c1
              have P1 := drCommit x.who hR ok sm
              clear hw
              go_wp2_with fail
              refine P1.mono ?_
              rintro e w2 ⟨rfl, hR1, hb1⟩
              have tw2 := Dw.ref V hT fg hf1 hg1 sb bw hR1 hb1
              clear hR hT fg hf1 hg1 sb bw hR1 hb1 P1 c0 hFb hGb k1
              obtain ⟨F2, G2, hR2, hT2, fg2, hf2, hg2⟩ := tw2.ex
              have sb2 := tw2.sb
              have bw2 := tw2.bw
              have hFb2 := fun j hj => (fg2.f j hj).2
              have hGb2 := fun j hj => (fg2.g j hj).2
              have k1 := sb2.c1
              have P2 := V.commit x.who hT2 ok sm hFb2 dp.spz
              clear tw2
              go_wp2_with fail
              refine P2.mono ?_
              rintro e w3 ⟨rfl, hT3, hb3⟩
              have tw3 := Dw.dsk hR2 fg2 hf2 hg2 sb2 bw2 hT3 hb3
              clear hR2 hT2 fg2 hf2 hg2 sb2 bw2 hT3 hb3 P2 hFb2 hGb2 k1
              go_wp2_with fail
              refine (error_any _ _ _ (etStep het tw3.bw)).mono ?_
              rintro e w4 ⟨rfl, hb4⟩
              have tw4 := tw3.step V hb4
              clear tw3 hb4
              go_wp2_with fail
              go_meet
              case rel => exact ⟨by simp, by simp, _, dp.cm _, tw4⟩
          by_cases hw : x.what = 7
          · as_aux_lemma =>
              have e0 : (x.what == 0) = false := by simp; omega
              have e1 : (x.what == 1) = false := by simp; omega
              have e2 : (x.what == 2) = false := by simp; omega
              have e3 : (x.what == 3) = false := by simp; omega
              have e4 : (x.what == 4) = false := by simp; omega
              have e5 : (x.what == 5) = false := by simp; omega
              have e6 : (x.what == 6) = false := by simp; omega
              have e7 : (x.what == 7) = true := by simp; omega
              have c0 := sb.c0
              have k1 := sb.c1
              have P1 := drCommit x.who hR ok sm
              clear hw
              go_wp2_with fail
              refine P1.mono ?_
              rintro e w2 ⟨rfl, hR1, hb1⟩
              have tw2 := Dw.ref V hT fg hf1 hg1 sb bw hR1 hb1
              clear hR hT fg hf1 hg1 sb bw hR1 hb1 P1 c0 hFb hGb k1
              obtain ⟨F2, G2, hR2, hT2, fg2, hf2, hg2⟩ := tw2.ex
              have sb2 := tw2.sb
              have bw2 := tw2.bw
              have hFb2 := fun j hj => (fg2.f j hj).2
              have hGb2 := fun j hj => (fg2.g j hj).2
              have k1 := sb2.c1
              have P2 := V.commit x.who hT2 ok sm hFb2 dp.spz
              clear tw2
              go_wp2_with fail
              refine P2.mono ?_
              rintro e w3 ⟨rfl, hT3, hb3⟩
              have tw3 := Dw.dsk hR2 fg2 hf2 hg2 sb2 bw2 hT3 hb3
              clear hR2 hT2 fg2 hf2 hg2 sb2 bw2 hT3 hb3 P2 hFb2 hGb2 k1
              go_wp2_with fail
              refine (error_any _ _ _ (etStep het tw3.bw)).mono ?_
              rintro e w4 ⟨rfl, hb4⟩
              have tw4 := tw3.step V hb4
              clear tw3 hb4
              go_wp2_with fail
              go_meet
              case rel => exact ⟨by simp, by simp, _, dp.cm _, tw4⟩
          by_cases hw : x.what = 8
          · as_aux_lemma =>
              have e0 : (x.what == 0) = false := by simp; omega
              have e1 : (x.what == 1) = false := by simp; omega
              have e2 : (x.what == 2) = false := by simp; omega
              have e3 : (x.what == 3) = false := by simp; omega
              have e4 : (x.what == 4) = false := by simp; omega
              have e5 : (x.what == 5) = false := by simp; omega
              have e6 : (x.what == 6) = false := by simp; omega
              have e7 : (x.what == 7) = false := by simp; omega
              have e8 : (x.what == 8) = true := by simp; omega
              have c0 := sb.c0
              have k1 := sb.c1
              have P1 := drAbort x.who hR ok
              clear hw
              go_wp2_with fail
              refine P1.mono ?_
              rintro e w2 ⟨rfl, hR1, hb1⟩
              have tw2 := Dw.ref V hT fg hf1 hg1 sb bw hR1 hb1
              clear hR hT fg hf1 hg1 sb bw hR1 hb1 P1 c0 hFb hGb k1
              obtain ⟨F2, G2, hR2, hT2, fg2, hf2, hg2⟩ := tw2.ex
              have sb2 := tw2.sb
              have bw2 := tw2.bw
              have hFb2 := fun j hj => (fg2.f j hj).2
              have hGb2 := fun j hj => (fg2.g j hj).2
              have k1 := sb2.c1
              have P2 := V.abort x.who hT2 ok sm hFb2
              clear tw2
              go_wp2_with fail
              refine P2.mono ?_
              rintro e w3 ⟨rfl, hT3, hb3⟩
              have tw3 := Dw.dsk hR2 fg2 hf2 hg2 sb2 bw2 hT3 hb3
              clear hR2 hT2 fg2 hf2 hg2 sb2 bw2 hT3 hb3 P2 hFb2 hGb2 k1
              go_wp2_with fail
              refine (error_any _ _ _ (etStep het tw3.bw)).mono ?_
              rintro e w4 ⟨rfl, hb4⟩
              have tw4 := tw3.step V hb4
              clear tw3 hb4
              go_wp2_with fail
              go_meet
              case rel => exact ⟨by simp, by simp, _, dp.del _, tw4⟩
          by_cases hw : x.what = 9
          · as_aux_lemma =>
              have e0 : (x.what == 0) = false := by simp; omega
              have e1 : (x.what == 1) = false := by simp; omega
              have e2 : (x.what == 2) = false := by simp; omega
              have e3 : (x.what == 3) = false := by simp; omega
              have e4 : (x.what == 4) = false := by simp; omega
              have e5 : (x.what == 5) = false := by simp; omega
              have e6 : (x.what == 6) = false := by simp; omega
              have e7 : (x.what == 7) = false := by simp; omega
              have e8 : (x.what == 8) = false := by simp; omega
              have e9 : (x.what == 9) = true := by simp; omega
              obtain ⟨L, _, _, _, _, _, _, _, m0, _⟩ := hR.see
              have c0 := sb.c0
              have P1 := drSync hR ok m0
              clear hw
              go_wp2_with fail
              refine P1.mono ?_
              rintro e w2 ⟨rfl, hR1, hb1⟩
              have tw2 := Dw.ref V hT fg hf1 hg1 sb bw hR1 hb1
              clear hR hT fg hf1 hg1 sb bw hR1 hb1 P1 c0 hFb hGb
              obtain ⟨F2, G2, hR2, hT2, fg2, hf2, hg2⟩ := tw2.ex
              have sb2 := tw2.sb
              have bw2 := tw2.bw
              have hFb2 := fun j hj => (fg2.f j hj).2
              have hGb2 := fun j hj => (fg2.g j hj).2
              have P2 := V.flush hT2 ok sm hFb2
              clear tw2 m0
              go_wp2_with fail
              refine P2.mono ?_
              rintro e w3 ⟨rfl, hT3, hb3⟩
              have tw3 := Dw.dsk hR2 fg2 hf2 hg2 sb2 bw2 hT3 hb3
              clear hR2 hT2 fg2 hf2 hg2 sb2 bw2 hT3 hb3 P2 hFb2 hGb2
              go_wp2_with fail
              refine (error_any _ _ _ (etStep het tw3.bw)).mono ?_
              rintro e w4 ⟨rfl, hb4⟩
              have tw4 := tw3.step V hb4
              clear tw3 hb4
              go_wp2_with fail
              go_meet
              case rel => exact ⟨by simp, by simp, _, dp.fl, tw4⟩
          by_cases hw : x.what = 10
          · as_aux_lemma =>
              have e0 : (x.what == 0) = false := by simp; omega
              have e1 : (x.what == 1) = false := by simp; omega
              have e2 : (x.what == 2) = false := by simp; omega
              have e3 : (x.what == 3) = false := by simp; omega
              have e4 : (x.what == 4) = false := by simp; omega
              have e5 : (x.what == 5) = false := by simp; omega
              have e6 : (x.what == 6) = false := by simp; omega
              have e7 : (x.what == 7) = false := by simp; omega
              have e8 : (x.what == 8) = false := by simp; omega
              have e9 : (x.what == 9) = false := by simp; omega
              have e10 : (x.what == 10) = true := by simp; omega
              have c0 := sb.c0
              have k5 := sb.c5
              have P1 := V.fail x.n hxn.1 hxn.2 hT ok sm hFb
              have okf := dp.fd hxn.2
              clear hw
              by_cases hn : x.n < 0
              · have efa : fdD d x.n = { d with lg := { d.lg with left := -1 } } := by unfold fdD faG; rw [if_pos hn]
                rw [efa] at P1 okf
                have g2 : decide (x.n < 0) = true := by simpa using hn
                clear efa hn
                go_wp2_with fail
                refine P1.mono ?_
                rintro e w2 ⟨rfl, hT1, hb1⟩
                have tw2 := Dw.dsk hR fg hf1 hg1 sb bw hT1 hb1
                clear hR hT fg hf1 hg1 sb bw hT1 hb1 P1 c0 hFb hGb k5
                obtain ⟨F2, G2, hR2, hT2, fg2, hf2, hg2⟩ := tw2.ex
                have sb2 := tw2.sb
                have bw2 := tw2.bw
                obtain ⟨L, Tb, p, cap, hBl, hLl, hBL, hGL, m0, m1, m2, _, _, fL, ⟨u, uL⟩, _⟩ := hR2.see
                have k5 := sb2.c5
                have hsl := sb2.lt
                have hne : ¬ Bs = L := fun e => hg2 (by rw [e]; exact hGL)
                have hne' : ¬ L = Bs := fun e => hne e.symm
                have hBL' : ¬ L = Bm := fun e => hBL e.symm
                have hRd := hR2.step (below_self w2).drew
                have hTd := V.step hT2 (below_self w2).drew
                have fgd : Fg w w2.drew F2 G2 := ⟨fg2.sep, fg2.f, fg2.g⟩
                have sbd := sb2.step (below_self w2).drew
                have bwd := bw2.drew
                have R1 := hRd.left m0 x.n
                have hb6 : But G2 w2.drew (w2.drew.setCell ⟨L, 5, none⟩ (.int .i64 x.n)) := setB.mono (fun j _ q => by rw [q]; exact hGL)
                have m06 : (w2.drew.setCell ⟨L, 5, none⟩ (.int .i64 x.n)).cell? ⟨Bm, 0, none⟩ = some (.pointer (some ⟨L, 0, none⟩)) := (World.cell?_setCell_other _ _ _ _ (by intro q; injection q; omega)).trans m0
                have R2 := R1.left m06 (-1)
                have hb7 : But G2 w2.drew ((w2.drew.setCell ⟨L, 5, none⟩ (.int .i64 x.n)).setCell ⟨L, 5, none⟩ (.int .i64 (-1))) := hb6.setCell (p := ⟨L, 5, none⟩) (.inl hGL) _
                have tw3 := Dw.own V hTd fgd hf2 hg2 sbd bwd R2 hb7
                have TW : Hid _ := tw3
                clear hR2 hT2 fg2 hf2 hg2 sb2 bw2 tw2 R1 R2 hRd hTd fgd sbd bwd hb6 hb7 m06 tw3
                go_wp2_with fail
                go_region_with (fail)
                all_goals go_wp2_with fail
                all_goals go_meet
                all_goals exact ⟨rfl, rfl, _, okf, TW.out⟩
              · have efa : fdD d x.n = { d with lg := { d.lg with left := x.n } } := by unfold fdD faG; rw [if_neg hn]
                rw [efa] at P1 okf
                have g2 : decide (x.n < 0) = false := by simpa using hn
                clear efa hn
                go_wp2_with fail
                refine P1.mono ?_
                rintro e w2 ⟨rfl, hT1, hb1⟩
                have tw2 := Dw.dsk hR fg hf1 hg1 sb bw hT1 hb1
                clear hR hT fg hf1 hg1 sb bw hT1 hb1 P1 c0 hFb hGb k5
                obtain ⟨F2, G2, hR2, hT2, fg2, hf2, hg2⟩ := tw2.ex
                have sb2 := tw2.sb
                have bw2 := tw2.bw
                obtain ⟨L, Tb, p, cap, hBl, hLl, hBL, hGL, m0, m1, m2, _, _, fL, ⟨u, uL⟩, _⟩ := hR2.see
                have k5 := sb2.c5
                have hsl := sb2.lt
                have hne : ¬ Bs = L := fun e => hg2 (by rw [e]; exact hGL)
                have hne' : ¬ L = Bs := fun e => hne e.symm
                have hBL' : ¬ L = Bm := fun e => hBL e.symm
                have hRd := hR2.step (below_self w2).drew
                have hTd := V.step hT2 (below_self w2).drew
                have fgd : Fg w w2.drew F2 G2 := ⟨fg2.sep, fg2.f, fg2.g⟩
                have sbd := sb2.step (below_self w2).drew
                have bwd := bw2.drew
                have R1 := hRd.left m0 x.n
                have hb6 : But G2 w2.drew (w2.drew.setCell ⟨L, 5, none⟩ (.int .i64 x.n)) := setB.mono (fun j _ q => by rw [q]; exact hGL)
                have tw3 := Dw.own V hTd fgd hf2 hg2 sbd bwd R1 hb6
                have TW : Hid _ := tw3
                clear hR2 hT2 fg2 hf2 hg2 sb2 bw2 tw2 R1 hRd hTd fgd sbd bwd hb6 tw3
                go_wp2_with fail
                go_region_with (fail)
                all_goals go_wp2_with fail
                all_goals go_meet
                all_goals exact ⟨rfl, rfl, _, okf, TW.out⟩
          by_cases hw : x.what = 11
          · as_aux_lemma =>
              have e0 : (x.what == 0) = false := by simp; omega
              have e1 : (x.what == 1) = false := by simp; omega
              have e2 : (x.what == 2) = false := by simp; omega
              have e3 : (x.what == 3) = false := by simp; omega
              have e4 : (x.what == 4) = false := by simp; omega
              have e5 : (x.what == 5) = false := by simp; omega
              have e6 : (x.what == 6) = false := by simp; omega
              have e7 : (x.what == 7) = false := by simp; omega
              have e8 : (x.what == 8) = false := by simp; omega
              have e9 : (x.what == 9) = false := by simp; omega
              have e10 : (x.what == 10) = false := by simp; omega
              have e11 : (x.what == 11) = true := by simp; omega
              have c0 := sb.c0
              have k5 := sb.c5
              have P1 := V.crash x.n hxn.1 hxn.2 hT ok sm hFb
              clear hw
              go_wp2_with fail
              refine P1.mono ?_
              rintro e w2 ⟨rfl, hT1, hb1⟩
              have tw2 := Dw.dsk hR fg hf1 hg1 sb bw hT1 hb1
              clear hR hT fg hf1 hg1 sb bw hT1 hb1 P1 c0 hFb hGb k5
              obtain ⟨F2, G2, hR2, hT2, fg2, hf2, hg2⟩ := tw2.ex
              have sb2 := tw2.sb
              have bw2 := tw2.bw
              have hFb2 := fun j hj => (fg2.f j hj).2
              have hGb2 := fun j hj => (fg2.g j hj).2
              have k5 := sb2.c5
              have P2 := drCrash x.n hxn.1 hxn.2 hR2 ok sm
              clear tw2
              go_wp2_with fail
              refine P2.mono ?_
              rintro e w3 ⟨rfl, hR3, hb3⟩
              have tw3 := Dw.ref V hT2 fg2 hf2 hg2 sb2 bw2 hR3 hb3
              clear hR2 hT2 fg2 hf2 hg2 sb2 bw2 hR3 hb3 P2 hFb2 hGb2 k5
              go_wp2_with fail
              go_meet
              case rel => exact ⟨by simp, by simp, _, dp.cd _, tw3⟩
          · as_aux_lemma =>
              have e0 : (x.what == 0) = false := by simp; omega
              have e1 : (x.what == 1) = false := by simp; omega
              have e2 : (x.what == 2) = false := by simp; omega
              have e3 : (x.what == 3) = false := by simp; omega
              have e4 : (x.what == 4) = false := by simp; omega
              have e5 : (x.what == 5) = false := by simp; omega
              have e6 : (x.what == 6) = false := by simp; omega
              have e7 : (x.what == 7) = false := by simp; omega
              have e8 : (x.what == 8) = false := by simp; omega
              have e9 : (x.what == 9) = false := by simp; omega
              have e10 : (x.what == 10) = false := by simp; omega
              have e11 : (x.what == 11) = false := by simp; omega
              have c0 := sb.c0
              have P1 := V.tidy hT ok sm hFb
              go_wp2_with fail
              refine P1.mono ?_
              rintro e w2 ⟨rfl, hT1, hb1⟩
              have tw2 := Dw.dsk hR fg hf1 hg1 sb bw hT1 hb1
              clear hR hT fg hf1 hg1 sb bw hT1 hb1 P1 c0 hFb hGb
              obtain ⟨F2, G2, hR2, hT2, fg2, hf2, hg2⟩ := tw2.ex
              have sb2 := tw2.sb
              have bw2 := tw2.bw
              have hFb2 := fun j hj => (fg2.f j hj).2
              have hGb2 := fun j hj => (fg2.g j hj).2
              have P2 := drTidy hR2 ok sm
              clear tw2
              go_wp2_with fail
              refine P2.mono ?_
              rintro e w3 ⟨rfl, hR3, hb3⟩
              have tw3 := Dw.ref V hT2 fg2 hf2 hg2 sb2 bw2 hR3 hb3
              clear hR2 hT2 fg2 hf2 hg2 sb2 bw2 hR3 hb3 P2 hFb2 hGb2
              go_wp2_with fail
              go_meet
              case rel => exact ⟨by simp, by simp, _, dp.td, tw3⟩
        case rest =>
          as_aux_lemma =>
            obtain ⟨hok, hsame, d', dp', tw⟩ := hcut
            subst hok hsame
            clear kb0 dp
            have ok' := dp'.ok
            have sm' := dp'.sm (by omega)
            have hvl := sm'.vs ok'
            have hal := allP_len d'
            obtain ⟨F, G, hR, hT, fg, hf1, hg1⟩ := tw.ex
            have P1 := V.all hT ok' sm'
            clear hR hT fg hf1 hg1
            go_wp2_with fail
            refine P1.mono ?_
            rintro e w5 ⟨q5, c5, rfl, _, hp5, hb5⟩
            have tw5 := tw.step V hb5
            have hp5a := hp5.at
            clear P1 tw hb5 hp5
            obtain ⟨F, G, hR, hT, fg, hf1, hg1⟩ := tw5.ex
            have P2 := drAll hR ok' sm'
            clear hR hT fg hf1 hg1
            go_wp2_with fail
            refine P2.mono ?_
            rintro e w6 ⟨q6, c6, rfl, hp6, hb6⟩
            have tw6 := tw5.step V hb6
            replace hp5a := hp5a.step hb6
            clear P2 tw5 hb6
            go_wp2_with fail
            refine (samePairs (allP d') (allP d') q5 q6 c5 c6 w6 (by omega) hp5a hp6).mono ?_
            rintro e w7 ⟨rfl, hb7⟩
            have tw7 := tw6.step V hb7
            clear tw6 hb7 hp5a hp6
            obtain ⟨F, G, hR, hT, fg, hf1, hg1⟩ := tw7.ex
            obtain ⟨L, Tb, p, cap, hBl, hLl, hBL, hGL, m0, m1, m2, hTl, mt, _, _, X, GG, hRL⟩ := hR.see
            have hTd := V.step hT (below_self _).drew
            have hRLd := hRL.step (below_self _).drew
            have PT := V.top hTd ok' sm'
            have n1 : (d'.last != d'.last) = false := by simp
            have n2 : ((d'.vs.length : Int) != (d'.vs.length : Int)) = false := by simp
            have n3 : ((sfN d' : Int) != (((fitL d'.lg.safe d'.lg.ls).length : Nat) : Int)) = false := by simp [sfN]
            have n4 : decide (allP d' = allP d') = true := decide_eq_true rfl
            rw [n4]
            clear hR fg hf1 hg1 hT
            go_wp2_with fail
            go_region_held3 (fun wz => wz.cell? ⟨Bm, 0, none⟩ = some (.pointer (some ⟨L, 0, none⟩)) ∧ wz.cell? ⟨Bm, 1, none⟩ = some (.pointer (some ⟨Tb, 0, none⟩)) ∧ wz.cell? ⟨Bm, 2, none⟩ = some (.int .i64 d'.last) ∧ wz.cell? ⟨Tb, 0, none⟩ = some (.slice p d'.vs.length cap))
              (first | exact ⟨u0, u1, u2, ut⟩ | exact ⟨t0, t1, t2, tt⟩ | exact ⟨s0, s1, s2, st⟩ | exact ⟨r0, r1, r2, rt⟩ | exact ⟨m0, m1, m2, mt⟩)
              (first
                | (go_at_call 30; refine PT.mono ?_; clear PT; rintro e w8 ⟨rfl, hb8⟩; have r0 := (hb8.cell (p := ⟨Bm, 0, none⟩) hBl).trans m0; have r1 := (hb8.cell (p := ⟨Bm, 1, none⟩) hBl).trans m1; have r2 := (hb8.cell (p := ⟨Bm, 2, none⟩) hBl).trans m2; have rt := (hb8.cell (p := ⟨Tb, 0, none⟩) hTl).trans mt; have hz8 := hb8.size; have hB8 : Bm < w8.heap.size := Nat.lt_of_lt_of_le hBl hz8; have hT8 : Tb < w8.heap.size := Nat.lt_of_lt_of_le hTl hz8; have hTx := V.step hTd hb8; have PS := V.safe hTx ok' sm')
                | (go_at_call 31; refine PS.mono ?_; clear PS; rintro e w9 ⟨rfl, hb9⟩; have s0 := (hb9.cell (p := ⟨Bm, 0, none⟩) hB8).trans r0; have s1 := (hb9.cell (p := ⟨Bm, 1, none⟩) hB8).trans r1; have s2 := (hb9.cell (p := ⟨Bm, 2, none⟩) hB8).trans r2; have st := (hb9.cell (p := ⟨Tb, 0, none⟩) hT8).trans rt; have hz9 := hb9.size; have hB9 : Bm < w9.heap.size := Nat.lt_of_lt_of_le hB8 hz9; have hT9 : Tb < w9.heap.size := Nat.lt_of_lt_of_le hT8 hz9; have PL := drSafe w9 ((hRLd.step hb8).step hb9) ok'.lg; have hTy := V.step hTx hb9)
                | (go_at_call 32; refine PL.mono ?_; clear PL; rintro e w10 ⟨rfl, hb10⟩; have t0 := (hb10.cell (p := ⟨Bm, 0, none⟩) hB9).trans s0; have t1 := (hb10.cell (p := ⟨Bm, 1, none⟩) hB9).trans s1; have t2 := (hb10.cell (p := ⟨Bm, 2, none⟩) hB9).trans s2; have tt := (hb10.cell (p := ⟨Tb, 0, none⟩) hT9).trans st; have hz10 := hb10.size; have hB10 : Bm < w10.heap.size := Nat.lt_of_lt_of_le hB9 hz10; have hT10 : Tb < w10.heap.size := Nat.lt_of_lt_of_le hT9 hz10; have hTz := V.step hTy hb10; have PZ := V.size hTz ok' sm')
                | (go_at_call 33; refine PZ.mono ?_; clear PZ; rintro e w11 ⟨rfl, hb11⟩; have u0 := (hb11.cell (p := ⟨Bm, 0, none⟩) hB10).trans t0; have u1 := (hb11.cell (p := ⟨Bm, 1, none⟩) hB10).trans t1; have u2 := (hb11.cell (p := ⟨Bm, 2, none⟩) hB10).trans t2; have ut := (hb11.cell (p := ⟨Tb, 0, none⟩) hT10).trans tt))
            have tw11 := tw7.step V (below_via (below_via (below_via (below_via (below_self _).drew hb8) hb9) hb10) hb11)
            clear tw7 hb8 hb9 hb10 hb11 m0 m1 m2 mt r0 r1 r2 rt s0 s1 s2 st t0 t1 t2 tt u0 u1 u2 ut hTx hTy hTz hTd hRL hRLd
            go_wp2_with fail
            exact ⟨⟨k + 1, d', by omega, by omega, by go_num, dp', tw11.two⟩, by simp [intOf]; omega⟩
      · by_cases h1 : k < s.length
        · have g1 : decide ((k : Int) < (s.length : Int)) = true := by simp; omega
          have g2 : decide ((k : Int) < 60) = false := by simp; omega
          have bw := on.bw
          clear on hq
          go_wp2_with fail
          go_ret
          exact ⟨rfl, bw⟩
        · have g1 : decide ((k : Int) < (s.length : Int)) = false := by simp; omega
          have bw := on.bw
          clear on hq
          go_wp2_with fail
          go_ret
          exact ⟨rfl, bw⟩
  · have P0 := V.newNo w hr
    by_cases h1 : room < 0
    · clear hr
      go_enter Tryz.func3, Tryz.ntmps3
      go_wp2_with fail
      refine P0.mono ?_
      rintro e w6 ⟨p6, rfl, hb6⟩
      clear P0
      have P1 := error_any 1 1 w6 (etStep het hb6)
      change Calls Tryz.prog 5 #[errN 1, .int .i64 1] _ _ at P1
      go_wp2_with fail
      refine P1.mono ?_
      rintro e w7 ⟨rfl, hb7⟩
      go_wp2_with fail
      go_ret
      exact ⟨rfl, below_via hb6 hb7⟩
    · have h2 : 100000 < room := by omega
      clear hr
      go_enter Tryz.func3, Tryz.ntmps3
      go_wp2_with fail
      refine P0.mono ?_
      rintro e w6 ⟨p6, rfl, hb6⟩
      clear P0
      have P1 := error_any 1 1 w6 (etStep het hb6)
      change Calls Tryz.prog 5 #[errN 1, .int .i64 1] _ _ at P1
      go_wp2_with fail
      refine P1.mono ?_
      rintro e w7 ⟨rfl, hb7⟩
      go_wp2_with fail
      go_ret
      exact ⟨rfl, below_via hb6 hb7⟩
end Go.Proofs.YteipfdjpndhgkaaGreatDoor
