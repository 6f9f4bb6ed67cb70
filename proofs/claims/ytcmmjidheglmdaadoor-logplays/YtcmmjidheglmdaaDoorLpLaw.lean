/- The walk of the law LogPlays. -/
import Derived.Test.YtcmmjidheglmdaaDoorLgRefB
import Derived.Test.YtcmmjidheglmdaaDoorLgRefC
import Derived.Test.YtcmmjidheglmdaaDoorLgSame
import Derived.Test.YtcmmjidheglmdaaDoorLpTwo
import Derived.Test.YtcmmjidheglmdaaDoorAdErr2
import Derived.Deep.CutBlock
namespace Go.Proofs.YtcmmjidheglmdaaDoor
open Go.RowKit Vs

theorem etStep {w w' : World} (h : ErrType w) (hb : Below w.heap.size w w') : ErrType w' := (hb.cell (World.block_lt_of_cell? _ _ h)).trans h

set_option maxRecDepth 100000 in
set_option maxHeartbeats 8000000 in
theorem law_plays {T : Tl} (V : LFace T) (room : Int) (ls : List (List Chg)) (p : Option Addr) (cp : Nat) (s : List Stp) (q : Option Addr) (cq : Nat) (w : World) (hll : ls.length ≤ 9223372036854775807) (hsl : s.length ≤ 9223372036854775807) (hp : LsAt w (fun j => j < w.heap.size) p ls) (hq : StAt w q s) (hsN : ∀ x ∈ s, -9223372036854775808 ≤ x.n ∧ x.n ≤ 9223372036854775807) (het : ErrType w) :
    Calls Tryd.prog 3 #[.int .i64 room, .slice p ls.length cp, .slice q s.length cq] w fun e w' => e = .returned (.bool true) ∧ Below w.heap.size w w' := by
  by_cases hr : 0 ≤ room ∧ room ≤ 100000
  · obtain ⟨hr0, hr1⟩ := hr
    have P0 := V.newOk w hr0 hr1
    go_enter Tryd.func3, Tryd.ntmps3
    go_wp2_with fail
    refine P0.mono ?_
    rintro e w1 ⟨Bt, rfl, hT, hb1⟩
    clear P0
    go_wp2_with fail
    refine (refNew room w1).mono ?_
    rintro e w2 ⟨rfl, hR, hb2, hs2⟩
    have lt0 : Lt T w w2 w1.heap.size Bt (lg0 room) := by
      have hs1 := hb1.size
      refine ⟨⟨_, _, hR _ hs1, V.step hT hb2, ⟨fun j hj e => ?_, fun j hj => ?_, fun j hj => ?_⟩⟩, OkL.new hr0 hr1, below_via hb1 hb2⟩
      · have e : j = w1.heap.size := e
        omega
      · have hj : w.heap.size ≤ j ∧ j < w1.heap.size := hj
        omega
      · have e : j = w1.heap.size := hj
        omega
    obtain ⟨Bm, hBm⟩ : ∃ Bm, Bm = w1.heap.size := ⟨_, rfl⟩
    rw [← hBm] at lt0
    rw [← hBm]
    clear hT hb1 hR hb2 hs2 hBm hr0 hr1
    go_wp2_with fail
    go_loopw [10] (fun i wr => ∃ (k : Nat) (g : Lg), k ≤ s.length ∧ k ≤ 40 ∧ i = .int .i64 k ∧ Lt T w wr Bm Bt g) (fun i _ => s.length - (intOf i).toNat)
    case atStart => exact ⟨0, lg0 room, by omega, by omega, rfl, lt0⟩
    case round =>
      obtain ⟨k, g, hk, hk40, rfl, on⟩ := hrel
      clear lt0
      by_cases hlt : k < s.length ∧ k < 40
      · obtain ⟨hlt, hlt40⟩ := hlt
        have hlt' : (k : Int) < (s.length : Int) := by omega
        have hlt40' : (k : Int) < 40 := by omega
        obtain ⟨b, off, rfl, hbl, hc⟩ := (hq.step on.bw) (by omega)
        obtain ⟨x, hx⟩ := Vs.chsome hlt
        obtain ⟨d0, d1, d2, d3, d4, d5, z1, z2, z3⟩ := hc k x hx
        have hxn := hsN x (List.mem_of_getElem? hx)
        have kb0 := on.box V 34 x
        have ok := on.ok
        have kc0 := kb0.sb.c0
        clear on hc hx hq
        go_upto_block 2 with fail
        obtain ⟨Bs, hBs⟩ : ∃ Bs, Bs = wr.heap.size := ⟨_, rfl⟩
        obtain ⟨W, hW⟩ : ∃ W, W = wr.alloc (.cells #[.int .i64 x.what, .int .i64 x.who, .string x.key, .string x.hi, .string x.val, .int .i64 x.n] 34) := ⟨_, rfl⟩
        rw [← hW, ← hBs] at kb0
        rw [← hW, ← hBs]
        clear hW hBs kc0 d0 d1 d2 d3 d4 d5
        go_cut [12, 13, 14, 15] from 50 to 111 (fun ok _ _ _ wy => ok = .bool true ∧ ∃ (g' : Lg), OkL g' ∧ L2 T w wy Bm Bt Bs x g' g')
        case first =>
          obtain ⟨F, G, hR, hT, fg, hf1, hg1⟩ := kb0.ex
          have sb := kb0.sb
          have bw := kb0.bw
          have c5 := sb.c5
          have hWs := bw.size
          clear kb0
          by_cases hw : x.what = 0
          · by_cases hN : 0 ≤ x.n ∧ x.n < (ls.length : Int)
            · have e0 : (x.what == 0) = true := by simp; omega
              have c0 := sb.c0
              obtain ⟨m, hm⟩ : ∃ m : Nat, x.n = m := ⟨x.n.toNat, by omega⟩
              have hml : m < ls.length := by omega
              have hml' : (m : Int) < (ls.length : Int) := by omega
              rw [hm] at c5
              replace hm : Hid (x.n = m) := hm
              obtain ⟨pb, po, rfl, hpl, hpG, hpc⟩ := (hp.step bw) (by omega)
              obtain ⟨l, hl⟩ := Vs.chsome hml
              obtain ⟨_, d1, q1, k1, rfl, l1, l2, l3⟩ := hpc m l hl
              have P1 := refAppend l q1 k1 W hR ok bw.size (fun j hj => (fg.g j hj).2) l1 l2 l3
              clear hw hN hml hpc
              go_wp2_with fail
              refine P1.mono ?_
              rintro e w2 ⟨rfl, hR1, hb1⟩
              have tw2 := L2.ref V hT fg hf1 hg1 sb bw hR1 hb1
              have l4 := l3.but hb1 (fun j _ hj hg => by have := (fg.g j hg).1; have hj : j < w.heap.size := hj; omega)
              clear hR hT fg hf1 hg1 sb bw hR1 hb1 P1 c5 l3
              obtain ⟨F2, G2, hR2, hT2, fg2, hf2, hg2⟩ := tw2.ex
              have sb2 := tw2.sb
              have bw2 := tw2.bw
              have P2 := V.append l q1 k1 hT2 ok (fun j hj => (fg2.f j hj).2) l1 l2 (l4.mono (fun j _ hj hFj => by have := (fg2.f j hFj).1; have hj : j < w.heap.size := hj; omega))
              clear tw2 l4
              go_wp2_with fail
              refine P2.mono ?_
              rintro e w3 ⟨rfl, hT3, hb3⟩
              have tw3 := L2.log hR2 fg2 hf2 hg2 sb2 bw2 hT3 hb3
              clear hR2 hT2 fg2 hf2 hg2 sb2 bw2 hT3 hb3 P2
              go_wp2_with fail
              refine (error_any _ _ _ (etStep het tw3.bw)).mono ?_
              rintro e w4 ⟨rfl, hb4⟩
              have tw4 := tw3.step V hb4
              clear tw3 hb4
              go_wp2_with fail
              go_meet
              case rel => exact ⟨by simp, _, ok.ap _, tw4⟩
            · have e0 : (x.what == 0) = true := by simp; omega
              have c0 := sb.c0
              have l3 : ChIn W (fun j => j < w.heap.size) none ([] : List Chg) := ChIn.nil _ _ _
              have P1 := refAppend [] none 0 W hR ok bw.size (fun j hj => (fg.g j hj).2) (by decide) (by decide) l3
              change Calls Tryd.prog 8 #[.pointer (some ⟨Bm, 0, none⟩), .slice none 0 0] _ _ at P1
              clear hw
              by_cases hN0 : 0 ≤ x.n
              · have g2 : decide (0 ≤ x.n) = true := by simpa using hN0
                have g3 : decide (x.n < (ls.length : Int)) = false := by simp; omega
                clear hN hN0
                go_wp2_with fail
                refine P1.mono ?_
                rintro e w2 ⟨rfl, hR1, hb1⟩
                have tw2 := L2.ref V hT fg hf1 hg1 sb bw hR1 hb1
                have l4 := l3.but hb1 (fun j _ hj hg => by have := (fg.g j hg).1; have hj : j < w.heap.size := hj; omega)
                clear hR hT fg hf1 hg1 sb bw hR1 hb1 P1 c5 l3
                obtain ⟨F2, G2, hR2, hT2, fg2, hf2, hg2⟩ := tw2.ex
                have sb2 := tw2.sb
                have bw2 := tw2.bw
                have P2 := V.append [] none 0 hT2 ok (fun j hj => (fg2.f j hj).2) (by decide) (by decide) (l4.mono (fun j _ hj hFj => by have := (fg2.f j hFj).1; have hj : j < w.heap.size := hj; omega))
                change Calls Tryd.prog 9 #[.pointer (some ⟨Bt, 0, none⟩), .slice none 0 0] _ _ at P2
                clear tw2 l4
                go_wp2_with fail
                refine P2.mono ?_
                rintro e w3 ⟨rfl, hT3, hb3⟩
                have tw3 := L2.log hR2 fg2 hf2 hg2 sb2 bw2 hT3 hb3
                clear hR2 hT2 fg2 hf2 hg2 sb2 bw2 hT3 hb3 P2
                go_wp2_with fail
                refine (error_any _ _ _ (etStep het tw3.bw)).mono ?_
                rintro e w4 ⟨rfl, hb4⟩
                have tw4 := tw3.step V hb4
                clear tw3 hb4
                go_wp2_with fail
                go_meet
                case rel => exact ⟨by simp, _, ok.ap _, tw4⟩
              · have g2 : decide (0 ≤ x.n) = false := by simpa using hN0
                clear hN hN0
                go_wp2_with fail
                refine P1.mono ?_
                rintro e w2 ⟨rfl, hR1, hb1⟩
                have tw2 := L2.ref V hT fg hf1 hg1 sb bw hR1 hb1
                have l4 := l3.but hb1 (fun j _ hj hg => by have := (fg.g j hg).1; have hj : j < w.heap.size := hj; omega)
                clear hR hT fg hf1 hg1 sb bw hR1 hb1 P1 c5 l3
                obtain ⟨F2, G2, hR2, hT2, fg2, hf2, hg2⟩ := tw2.ex
                have sb2 := tw2.sb
                have bw2 := tw2.bw
                have P2 := V.append [] none 0 hT2 ok (fun j hj => (fg2.f j hj).2) (by decide) (by decide) (l4.mono (fun j _ hj hFj => by have := (fg2.f j hFj).1; have hj : j < w.heap.size := hj; omega))
                change Calls Tryd.prog 9 #[.pointer (some ⟨Bt, 0, none⟩), .slice none 0 0] _ _ at P2
                clear tw2 l4
                go_wp2_with fail
                refine P2.mono ?_
                rintro e w3 ⟨rfl, hT3, hb3⟩
                have tw3 := L2.log hR2 fg2 hf2 hg2 sb2 bw2 hT3 hb3
                clear hR2 hT2 fg2 hf2 hg2 sb2 bw2 hT3 hb3 P2
                go_wp2_with fail
                refine (error_any _ _ _ (etStep het tw3.bw)).mono ?_
                rintro e w4 ⟨rfl, hb4⟩
                have tw4 := tw3.step V hb4
                clear tw3 hb4
                go_wp2_with fail
                go_meet
                case rel => exact ⟨by simp, _, ok.ap _, tw4⟩
          by_cases hw : x.what = 1
          · by_cases hN : 0 ≤ x.n ∧ x.n < (ls.length : Int)
            · have e0 : (x.what == 0) = false := by simp; omega
              have e1 : (x.what == 1) = true := by simp; omega
              have c0 := sb.c0
              obtain ⟨m, hm⟩ : ∃ m : Nat, x.n = m := ⟨x.n.toNat, by omega⟩
              have hml : m < ls.length := by omega
              have hml' : (m : Int) < (ls.length : Int) := by omega
              rw [hm] at c5
              replace hm : Hid (x.n = m) := hm
              obtain ⟨pb, po, rfl, hpl, hpG, hpc⟩ := (hp.step bw) (by omega)
              obtain ⟨l, hl⟩ := Vs.chsome hml
              obtain ⟨_, d1, q1, k1, rfl, l1, l2, l3⟩ := hpc m l hl
              have P1 := refAppend l q1 k1 W hR ok bw.size (fun j hj => (fg.g j hj).2) l1 l2 l3
              clear hw hN hml hpc
              go_wp2_with fail
              refine P1.mono ?_
              rintro e w2 ⟨rfl, hR1, hb1⟩
              have tw2 := L2.ref V hT fg hf1 hg1 sb bw hR1 hb1
              have l4 := l3.but hb1 (fun j _ hj hg => by have := (fg.g j hg).1; have hj : j < w.heap.size := hj; omega)
              clear hR hT fg hf1 hg1 sb bw hR1 hb1 P1 c5 l3
              obtain ⟨F2, G2, hR2, hT2, fg2, hf2, hg2⟩ := tw2.ex
              have sb2 := tw2.sb
              have bw2 := tw2.bw
              have P2 := V.append l q1 k1 hT2 ok (fun j hj => (fg2.f j hj).2) l1 l2 (l4.mono (fun j _ hj hFj => by have := (fg2.f j hFj).1; have hj : j < w.heap.size := hj; omega))
              clear tw2 l4
              go_wp2_with fail
              refine P2.mono ?_
              rintro e w3 ⟨rfl, hT3, hb3⟩
              have tw3 := L2.log hR2 fg2 hf2 hg2 sb2 bw2 hT3 hb3
              clear hR2 hT2 fg2 hf2 hg2 sb2 bw2 hT3 hb3 P2
              go_wp2_with fail
              refine (error_any _ _ _ (etStep het tw3.bw)).mono ?_
              rintro e w4 ⟨rfl, hb4⟩
              have tw4 := tw3.step V hb4
              clear tw3 hb4
              go_wp2_with fail
              go_meet
              case rel => exact ⟨by simp, _, ok.ap _, tw4⟩
            · have e0 : (x.what == 0) = false := by simp; omega
              have e1 : (x.what == 1) = true := by simp; omega
              have c0 := sb.c0
              have l3 : ChIn W (fun j => j < w.heap.size) none ([] : List Chg) := ChIn.nil _ _ _
              have P1 := refAppend [] none 0 W hR ok bw.size (fun j hj => (fg.g j hj).2) (by decide) (by decide) l3
              change Calls Tryd.prog 8 #[.pointer (some ⟨Bm, 0, none⟩), .slice none 0 0] _ _ at P1
              clear hw
              by_cases hN0 : 0 ≤ x.n
              · have g2 : decide (0 ≤ x.n) = true := by simpa using hN0
                have g3 : decide (x.n < (ls.length : Int)) = false := by simp; omega
                clear hN hN0
                go_wp2_with fail
                refine P1.mono ?_
                rintro e w2 ⟨rfl, hR1, hb1⟩
                have tw2 := L2.ref V hT fg hf1 hg1 sb bw hR1 hb1
                have l4 := l3.but hb1 (fun j _ hj hg => by have := (fg.g j hg).1; have hj : j < w.heap.size := hj; omega)
                clear hR hT fg hf1 hg1 sb bw hR1 hb1 P1 c5 l3
                obtain ⟨F2, G2, hR2, hT2, fg2, hf2, hg2⟩ := tw2.ex
                have sb2 := tw2.sb
                have bw2 := tw2.bw
                have P2 := V.append [] none 0 hT2 ok (fun j hj => (fg2.f j hj).2) (by decide) (by decide) (l4.mono (fun j _ hj hFj => by have := (fg2.f j hFj).1; have hj : j < w.heap.size := hj; omega))
                change Calls Tryd.prog 9 #[.pointer (some ⟨Bt, 0, none⟩), .slice none 0 0] _ _ at P2
                clear tw2 l4
                go_wp2_with fail
                refine P2.mono ?_
                rintro e w3 ⟨rfl, hT3, hb3⟩
                have tw3 := L2.log hR2 fg2 hf2 hg2 sb2 bw2 hT3 hb3
                clear hR2 hT2 fg2 hf2 hg2 sb2 bw2 hT3 hb3 P2
                go_wp2_with fail
                refine (error_any _ _ _ (etStep het tw3.bw)).mono ?_
                rintro e w4 ⟨rfl, hb4⟩
                have tw4 := tw3.step V hb4
                clear tw3 hb4
                go_wp2_with fail
                go_meet
                case rel => exact ⟨by simp, _, ok.ap _, tw4⟩
              · have g2 : decide (0 ≤ x.n) = false := by simpa using hN0
                clear hN hN0
                go_wp2_with fail
                refine P1.mono ?_
                rintro e w2 ⟨rfl, hR1, hb1⟩
                have tw2 := L2.ref V hT fg hf1 hg1 sb bw hR1 hb1
                have l4 := l3.but hb1 (fun j _ hj hg => by have := (fg.g j hg).1; have hj : j < w.heap.size := hj; omega)
                clear hR hT fg hf1 hg1 sb bw hR1 hb1 P1 c5 l3
                obtain ⟨F2, G2, hR2, hT2, fg2, hf2, hg2⟩ := tw2.ex
                have sb2 := tw2.sb
                have bw2 := tw2.bw
                have P2 := V.append [] none 0 hT2 ok (fun j hj => (fg2.f j hj).2) (by decide) (by decide) (l4.mono (fun j _ hj hFj => by have := (fg2.f j hFj).1; have hj : j < w.heap.size := hj; omega))
                change Calls Tryd.prog 9 #[.pointer (some ⟨Bt, 0, none⟩), .slice none 0 0] _ _ at P2
                clear tw2 l4
                go_wp2_with fail
                refine P2.mono ?_
                rintro e w3 ⟨rfl, hT3, hb3⟩
                have tw3 := L2.log hR2 fg2 hf2 hg2 sb2 bw2 hT3 hb3
                clear hR2 hT2 fg2 hf2 hg2 sb2 bw2 hT3 hb3 P2
                go_wp2_with fail
                refine (error_any _ _ _ (etStep het tw3.bw)).mono ?_
                rintro e w4 ⟨rfl, hb4⟩
                have tw4 := tw3.step V hb4
                clear tw3 hb4
                go_wp2_with fail
                go_meet
                case rel => exact ⟨by simp, _, ok.ap _, tw4⟩
          by_cases hw : x.what = 2
          · by_cases hN : 0 ≤ x.n ∧ x.n < (ls.length : Int)
            · have e0 : (x.what == 0) = false := by simp; omega
              have e1 : (x.what == 1) = false := by simp; omega
              have e2 : (x.what == 2) = true := by simp; omega
              have c0 := sb.c0
              obtain ⟨m, hm⟩ : ∃ m : Nat, x.n = m := ⟨x.n.toNat, by omega⟩
              have hml : m < ls.length := by omega
              have hml' : (m : Int) < (ls.length : Int) := by omega
              rw [hm] at c5
              replace hm : Hid (x.n = m) := hm
              obtain ⟨pb, po, rfl, hpl, hpG, hpc⟩ := (hp.step bw) (by omega)
              obtain ⟨l, hl⟩ := Vs.chsome hml
              obtain ⟨_, d1, q1, k1, rfl, l1, l2, l3⟩ := hpc m l hl
              have P1 := refAppend l q1 k1 W hR ok bw.size (fun j hj => (fg.g j hj).2) l1 l2 l3
              clear hw hN hml hpc
              go_wp2_with fail
              refine P1.mono ?_
              rintro e w2 ⟨rfl, hR1, hb1⟩
              have tw2 := L2.ref V hT fg hf1 hg1 sb bw hR1 hb1
              have l4 := l3.but hb1 (fun j _ hj hg => by have := (fg.g j hg).1; have hj : j < w.heap.size := hj; omega)
              clear hR hT fg hf1 hg1 sb bw hR1 hb1 P1 c5 l3
              obtain ⟨F2, G2, hR2, hT2, fg2, hf2, hg2⟩ := tw2.ex
              have sb2 := tw2.sb
              have bw2 := tw2.bw
              have P2 := V.append l q1 k1 hT2 ok (fun j hj => (fg2.f j hj).2) l1 l2 (l4.mono (fun j _ hj hFj => by have := (fg2.f j hFj).1; have hj : j < w.heap.size := hj; omega))
              clear tw2 l4
              go_wp2_with fail
              refine P2.mono ?_
              rintro e w3 ⟨rfl, hT3, hb3⟩
              have tw3 := L2.log hR2 fg2 hf2 hg2 sb2 bw2 hT3 hb3
              clear hR2 hT2 fg2 hf2 hg2 sb2 bw2 hT3 hb3 P2
              go_wp2_with fail
              refine (error_any _ _ _ (etStep het tw3.bw)).mono ?_
              rintro e w4 ⟨rfl, hb4⟩
              have tw4 := tw3.step V hb4
              clear tw3 hb4
              go_wp2_with fail
              go_meet
              case rel => exact ⟨by simp, _, ok.ap _, tw4⟩
            · have e0 : (x.what == 0) = false := by simp; omega
              have e1 : (x.what == 1) = false := by simp; omega
              have e2 : (x.what == 2) = true := by simp; omega
              have c0 := sb.c0
              have l3 : ChIn W (fun j => j < w.heap.size) none ([] : List Chg) := ChIn.nil _ _ _
              have P1 := refAppend [] none 0 W hR ok bw.size (fun j hj => (fg.g j hj).2) (by decide) (by decide) l3
              change Calls Tryd.prog 8 #[.pointer (some ⟨Bm, 0, none⟩), .slice none 0 0] _ _ at P1
              clear hw
              by_cases hN0 : 0 ≤ x.n
              · have g2 : decide (0 ≤ x.n) = true := by simpa using hN0
                have g3 : decide (x.n < (ls.length : Int)) = false := by simp; omega
                clear hN hN0
                go_wp2_with fail
                refine P1.mono ?_
                rintro e w2 ⟨rfl, hR1, hb1⟩
                have tw2 := L2.ref V hT fg hf1 hg1 sb bw hR1 hb1
                have l4 := l3.but hb1 (fun j _ hj hg => by have := (fg.g j hg).1; have hj : j < w.heap.size := hj; omega)
                clear hR hT fg hf1 hg1 sb bw hR1 hb1 P1 c5 l3
                obtain ⟨F2, G2, hR2, hT2, fg2, hf2, hg2⟩ := tw2.ex
                have sb2 := tw2.sb
                have bw2 := tw2.bw
                have P2 := V.append [] none 0 hT2 ok (fun j hj => (fg2.f j hj).2) (by decide) (by decide) (l4.mono (fun j _ hj hFj => by have := (fg2.f j hFj).1; have hj : j < w.heap.size := hj; omega))
                change Calls Tryd.prog 9 #[.pointer (some ⟨Bt, 0, none⟩), .slice none 0 0] _ _ at P2
                clear tw2 l4
                go_wp2_with fail
                refine P2.mono ?_
                rintro e w3 ⟨rfl, hT3, hb3⟩
                have tw3 := L2.log hR2 fg2 hf2 hg2 sb2 bw2 hT3 hb3
                clear hR2 hT2 fg2 hf2 hg2 sb2 bw2 hT3 hb3 P2
                go_wp2_with fail
                refine (error_any _ _ _ (etStep het tw3.bw)).mono ?_
                rintro e w4 ⟨rfl, hb4⟩
                have tw4 := tw3.step V hb4
                clear tw3 hb4
                go_wp2_with fail
                go_meet
                case rel => exact ⟨by simp, _, ok.ap _, tw4⟩
              · have g2 : decide (0 ≤ x.n) = false := by simpa using hN0
                clear hN hN0
                go_wp2_with fail
                refine P1.mono ?_
                rintro e w2 ⟨rfl, hR1, hb1⟩
                have tw2 := L2.ref V hT fg hf1 hg1 sb bw hR1 hb1
                have l4 := l3.but hb1 (fun j _ hj hg => by have := (fg.g j hg).1; have hj : j < w.heap.size := hj; omega)
                clear hR hT fg hf1 hg1 sb bw hR1 hb1 P1 c5 l3
                obtain ⟨F2, G2, hR2, hT2, fg2, hf2, hg2⟩ := tw2.ex
                have sb2 := tw2.sb
                have bw2 := tw2.bw
                have P2 := V.append [] none 0 hT2 ok (fun j hj => (fg2.f j hj).2) (by decide) (by decide) (l4.mono (fun j _ hj hFj => by have := (fg2.f j hFj).1; have hj : j < w.heap.size := hj; omega))
                change Calls Tryd.prog 9 #[.pointer (some ⟨Bt, 0, none⟩), .slice none 0 0] _ _ at P2
                clear tw2 l4
                go_wp2_with fail
                refine P2.mono ?_
                rintro e w3 ⟨rfl, hT3, hb3⟩
                have tw3 := L2.log hR2 fg2 hf2 hg2 sb2 bw2 hT3 hb3
                clear hR2 hT2 fg2 hf2 hg2 sb2 bw2 hT3 hb3 P2
                go_wp2_with fail
                refine (error_any _ _ _ (etStep het tw3.bw)).mono ?_
                rintro e w4 ⟨rfl, hb4⟩
                have tw4 := tw3.step V hb4
                clear tw3 hb4
                go_wp2_with fail
                go_meet
                case rel => exact ⟨by simp, _, ok.ap _, tw4⟩
          by_cases hw : x.what = 3
          · have e0 : (x.what == 0) = false := by simp; omega
            have e1 : (x.what == 1) = false := by simp; omega
            have e2 : (x.what == 2) = false := by simp; omega
            have e3 : (x.what == 3) = true := by simp; omega
            have c0 := sb.c0
            have P1 := refSync W hR ok
            clear hw
            go_wp2_with fail
            refine P1.mono ?_
            rintro e w2 ⟨rfl, hR1, hb1⟩
            have tw2 := L2.own V hR hT fg hf1 hg1 sb bw hR1 hb1
            clear hR hT fg hf1 hg1 sb bw hR1 hb1 P1 c5
            obtain ⟨F2, G2, hR2, hT2, fg2, hf2, hg2⟩ := tw2.ex
            have sb2 := tw2.sb
            have bw2 := tw2.bw
            have P2 := V.sync hT2 ok (fun j hj => (fg2.f j hj).2)
            clear tw2
            go_wp2_with fail
            refine P2.mono ?_
            rintro e w3 ⟨rfl, hT3, hb3⟩
            have tw3 := L2.log hR2 fg2 hf2 hg2 sb2 bw2 hT3 hb3
            clear hR2 hT2 fg2 hf2 hg2 sb2 bw2 hT3 hb3 P2
            go_wp2_with fail
            refine (error_any _ _ _ (etStep het tw3.bw)).mono ?_
            rintro e w4 ⟨rfl, hb4⟩
            have tw4 := tw3.step V hb4
            clear tw3 hb4
            go_wp2_with fail
            go_meet
            case rel => exact ⟨by simp, _, ok.sy, tw4⟩
          by_cases hw : x.what = 4
          · have e0 : (x.what == 0) = false := by simp; omega
            have e1 : (x.what == 1) = false := by simp; omega
            have e2 : (x.what == 2) = false := by simp; omega
            have e3 : (x.what == 3) = false := by simp; omega
            have e4 : (x.what == 4) = true := by simp; omega
            have c0 := sb.c0
            have P1 := V.fail x.n hxn.1 hxn.2 hT ok (fun j hj => (fg.f j hj).2)
            clear hw
            by_cases hn : x.n < 0
            · have efa : faG g x.n = { g with left := -1 } := by rw [faG, if_pos hn]
              have okf := ok.fa hxn.2
              rw [efa] at P1 okf
              have g2 : decide (x.n < 0) = true := by simpa using hn
              clear efa
              go_wp2_with fail
              refine P1.mono ?_
              rintro e w2 ⟨rfl, hT1, hb1⟩
              have tw2 := L2.log hR fg hf1 hg1 sb bw hT1 hb1
              clear hR hT fg hf1 hg1 sb bw hT1 hb1 P1 c5
              obtain ⟨F2, G2, hR2, hT2, fg2, hf2, hg2⟩ := tw2.ex
              have sb2 := tw2.sb
              have bw2 := tw2.bw
              have c6 := sb2.c5
              obtain ⟨r5, rf, rset⟩ := hR2.left
              have hne : ¬ Bs = Bm := fun e => hg2 (by rw [e]; exact hR2.gB)
              have hne' : ¬ Bm = Bs := fun e => hne e.symm
              obtain ⟨r6, rf6, rset6⟩ := (rset x.n).left
              have tw3 := L2.own V hR2 hT2 fg2 hf2 hg2 sb2 bw2 (rset6 (-1)) (setB.trans setB)
              clear hR2 hT2 fg2 hf2 hg2 sb2 bw2 tw2 rset rset6 hn
              go_wp2_with fail
              go_meet
              case rel => exact ⟨rfl, _, okf, tw3⟩
            · have efa : faG g x.n = { g with left := x.n } := by rw [faG, if_neg hn]
              have okf := ok.fa hxn.2
              rw [efa] at P1 okf
              have g2 : decide (x.n < 0) = false := by simpa using hn
              clear efa
              go_wp2_with fail
              refine P1.mono ?_
              rintro e w2 ⟨rfl, hT1, hb1⟩
              have tw2 := L2.log hR fg hf1 hg1 sb bw hT1 hb1
              clear hR hT fg hf1 hg1 sb bw hT1 hb1 P1 c5
              obtain ⟨F2, G2, hR2, hT2, fg2, hf2, hg2⟩ := tw2.ex
              have sb2 := tw2.sb
              have bw2 := tw2.bw
              have c6 := sb2.c5
              obtain ⟨r5, rf, rset⟩ := hR2.left
              have hne : ¬ Bs = Bm := fun e => hg2 (by rw [e]; exact hR2.gB)
              have hne' : ¬ Bm = Bs := fun e => hne e.symm
              have tw3 := L2.own V hR2 hT2 fg2 hf2 hg2 sb2 bw2 (rset x.n) setB
              clear hR2 hT2 fg2 hf2 hg2 sb2 bw2 tw2 rset hn
              go_wp2_with fail
              go_meet
              case rel => exact ⟨rfl, _, okf, tw3⟩
          by_cases hw : x.what = 5
          · have e0 : (x.what == 0) = false := by simp; omega
            have e1 : (x.what == 1) = false := by simp; omega
            have e2 : (x.what == 2) = false := by simp; omega
            have e3 : (x.what == 3) = false := by simp; omega
            have e4 : (x.what == 4) = false := by simp; omega
            have e5 : (x.what == 5) = true := by simp; omega
            have c0 := sb.c0
            have P1 := V.crash x.n hxn.1 hxn.2 hT ok (fun j hj => (fg.f j hj).2)
            clear hw
            go_wp2_with fail
            refine P1.mono ?_
            rintro e w2 ⟨rfl, hT1, hb1⟩
            have tw2 := L2.log hR fg hf1 hg1 sb bw hT1 hb1
            clear hR hT fg hf1 hg1 sb bw hT1 hb1 P1 c5
            obtain ⟨F2, G2, hR2, hT2, fg2, hf2, hg2⟩ := tw2.ex
            have sb2 := tw2.sb
            have bw2 := tw2.bw
            have c6 := sb2.c5
            have P2 := refCrash x.n w2 hR2 ok hxn.1 hxn.2
            go_wp2_with fail
            refine P2.mono ?_
            rintro e w3 ⟨rfl, hR3, hb3⟩
            have tw3 := L2.own V hR2 hT2 fg2 hf2 hg2 sb2 bw2 hR3 hb3
            clear hR2 hT2 fg2 hf2 hg2 sb2 bw2 hR3 hb3 tw2 P2
            go_wp2_with fail
            go_meet
            case rel => exact ⟨rfl, _, ok.cr _, tw3⟩
          · have e0 : (x.what == 0) = false := by simp; omega
            have e1 : (x.what == 1) = false := by simp; omega
            have e2 : (x.what == 2) = false := by simp; omega
            have e3 : (x.what == 3) = false := by simp; omega
            have e4 : (x.what == 4) = false := by simp; omega
            have e5 : (x.what == 5) = false := by simp; omega
            have c0 := sb.c0
            go_wp2_with fail
            go_meet
            case rel => exact ⟨rfl, g, ok, ⟨F, G, hR, hT, fg, hf1, hg1⟩, sb, bw⟩
        case rest =>
          obtain ⟨hokc, g', ok', kb'⟩ := hcut
          subst hokc
          clear kb0 ok
          obtain ⟨F, G, hR, hT, fg, hf1, hg1⟩ := kb'.ex
          obtain ⟨p1, k1, p3, k3, r1, r3, r4, hA1, hA3, hBmlt⟩ := hR.parts
          have hls := ok'.few
          have hls1 := hls.1
          clear hls
          have PR := V.read (V.step hT (below_self _).drew) ok'
          have hA1d := hA1.step (below_self _).drew
          go_wp2_with fail
          go_region_held3 (fun wz => wz.cell? ⟨Bm, 1, none⟩ = some (.slice p1 g'.ls.length k1)) (first | exact r1 | exact f2 | exact f1)
            (first
              | (go_at_call 16; refine PR.mono ?_; clear PR; rintro e w5 ⟨q5, c5, rfl, hA5, hb5⟩; have f1 := (hb5.cell (p := ⟨Bm, 1, none⟩) hBmlt).trans r1; have PS := sameLists g'.ls q5 p1 c5 k1 w5 (by omega) hA5 (hA1d.step hb5))
              | (go_at_call 15; refine PS.mono ?_; clear PS; rintro e w6 ⟨rfl, hb6⟩; have f2 := (hb6.cell (p := ⟨Bm, 1, none⟩) (Nat.lt_of_lt_of_le hBmlt hb5.size)).trans f1))
          have hbA := below_via (below_via (below_self _).drew hb5) hb6
          have kb7 := kb'.step V hbA
          clear kb' hb5 hb6 hbA hA5 hA1d hA1 hA3 r1 r3 r4 f1 f2 hR hT fg hf1 hg1
          obtain ⟨F, G, hR, hT, fg, hf1, hg1⟩ := kb7.ex
          obtain ⟨_, _, p3, k3, _, r3, r4, _, hA3, hBmlt⟩ := hR.parts
          have PB := V.bytes (V.step hT (below_self _).drew) ok'
          have hA3d := hA3.step (below_self _).drew
          have rcv := byStr k3 hA3d
          have hself : ((mkB g'.by).toList == (mkB g'.by).toList) = true := by simp
          clear hR fg hf1 hg1
          go_wp2_with fail
          refine wp_region_held_drew (S := (fun wz => wz.cell? ⟨Bm, 3, none⟩ = some (.slice p3 g'.by.length k3) ∧ wz.cell? ⟨Bm, 4, none⟩ = some (.int .i64 g'.safe) ∧ (convert 42 9 (.slice p3 g'.by.length k3)).run Tryd.prog wz = .ok (.string (mkB g'.by)) wz)) (by kernel_rfl) ⟨r3, r4, rcv⟩ (fun hHeld0 => ?_)
          refine wpAnyH_take (i := 0) (oi := ⟨_, _, _, _, _, _⟩) (v := ?_) rfl (by kernel_rfl) (by kernel_rfl) (by kernel_rfl) (fun _ _ _ h => h) (Or.inl ⟨by rfl, ?_⟩) (by assumption) ?_
          rotate_left
          · (intro w hSw; (try dsimp only at hSw); go_simp; try with_reducible rfl)
          try simp only [Act.put, List.setIfInBounds_toArray, List.set_cons_zero, List.set_cons_succ]
          refine wpAnyH_take (i := 1) (oi := ⟨_, _, _, _, _, _⟩) (v := ?_) rfl (by kernel_rfl) (by kernel_rfl) (by kernel_rfl) (fun _ _ _ h => h) (Or.inl ⟨by rfl, ?_⟩) (by assumption) ?_
          rotate_left
          · (intro w hSw; (try dsimp only at hSw); go_simp; try with_reducible rfl)
          try simp only [Act.put, List.setIfInBounds_toArray, List.set_cons_zero, List.set_cons_succ]
          refine wpAnyH_take (i := 2) (oi := ⟨_, _, _, _, _, _⟩) (v := ?_) rfl (by kernel_rfl) (by kernel_rfl) (by kernel_rfl) (fun _ _ _ h => h) (Or.inl ⟨by rfl, ?_⟩) (by assumption) ?_
          rotate_left
          · (intro w hSw; (try dsimp only at hSw); go_simp; try with_reducible rfl)
          try simp only [Act.put, List.setIfInBounds_toArray, List.set_cons_zero, List.set_cons_succ]
          refine wpAnyH_take (i := 3) (oi := ⟨_, _, _, _, _, _⟩) (v := ?_) rfl (by kernel_rfl) (by kernel_rfl) (by kernel_rfl) (fun _ _ _ h => h) (Or.inl ⟨by rfl, ?_⟩) (by assumption) ?_
          rotate_left
          · (intro w hSw; (try dsimp only at hSw); go_simp; try with_reducible rfl)
          try simp only [Act.put, List.setIfInBounds_toArray, List.set_cons_zero, List.set_cons_succ]
          refine wpAnyH_take (i := 4) (oi := ⟨_, _, _, _, _, _⟩) (v := ?_) rfl (by kernel_rfl) (by kernel_rfl) (by kernel_rfl) (fun _ _ _ h => h) (Or.inl ⟨by rfl, ?_⟩) (by assumption) ?_
          rotate_left
          · (intro w hSw; (try dsimp only at hSw); go_simp; try with_reducible rfl)
          try simp only [Act.put, List.setIfInBounds_toArray, List.set_cons_zero, List.set_cons_succ]
          refine wpAnyH_take (i := 5) (oi := ⟨_, _, _, _, _, _⟩) (v := ?_) rfl (by kernel_rfl) (by kernel_rfl) (by kernel_rfl) (fun _ _ _ h => h) (Or.inl ⟨by rfl, ?_⟩) (by assumption) ?_
          rotate_left
          · (intro w hSw; (try dsimp only at hSw); go_simp; try with_reducible rfl)
          try simp only [Act.put, List.setIfInBounds_toArray, List.set_cons_zero, List.set_cons_succ]
          refine wpAnyH_take (i := 6) (oi := ⟨_, _, _, _, _, _⟩) (v := ?_) rfl (by kernel_rfl) (by kernel_rfl) (by kernel_rfl) (fun _ _ _ h => h) (Or.inl ⟨by rfl, ?_⟩) (by assumption) ?_
          rotate_left
          · (intro w hSw; (try dsimp only at hSw); go_simp; try with_reducible rfl)
          try simp only [Act.put, List.setIfInBounds_toArray, List.set_cons_zero, List.set_cons_succ]
          refine wpAnyH_take (i := 7) (oi := ⟨_, _, _, _, _, _⟩) (v := ?_) rfl (by kernel_rfl) (by kernel_rfl) (by kernel_rfl) (fun _ _ _ h => h) (Or.inl ⟨by rfl, ?_⟩) (by assumption) ?_
          rotate_left
          · (intro w hSw; (try dsimp only at hSw); go_simp; try with_reducible rfl)
          try simp only [Act.put, List.setIfInBounds_toArray, List.set_cons_zero, List.set_cons_succ]
          refine wpAnyH_take (i := 10) (oi := ⟨_, _, _, _, _, _⟩) (v := ?_) rfl (by kernel_rfl) (by kernel_rfl) (by kernel_rfl) (fun _ _ _ h => h) (Or.inl ⟨by rfl, ?_⟩) (by assumption) ?_
          rotate_left
          · (intro w hSw; (try dsimp only at hSw); go_simp; try with_reducible rfl)
          try simp only [Act.put, List.setIfInBounds_toArray, List.set_cons_zero, List.set_cons_succ]
          refine wpAnyH_take (i := 11) (oi := ⟨_, _, _, _, _, _⟩) (v := ?_) rfl (by kernel_rfl) (by kernel_rfl) (by kernel_rfl) (fun _ _ _ h => h) (Or.inl ⟨by rfl, ?_⟩) (by assumption) ?_
          rotate_left
          · (intro w hSw; (try dsimp only at hSw); go_simp; try with_reducible rfl)
          try simp only [Act.put, List.setIfInBounds_toArray, List.set_cons_zero, List.set_cons_succ]
          refine wpAnyH_take (i := 12) (oi := ⟨_, _, _, _, _, _⟩) (v := ?_) rfl (by kernel_rfl) (by kernel_rfl) (by kernel_rfl) (fun _ _ _ h => h) (Or.inl ⟨by rfl, ?_⟩) (by assumption) ?_
          rotate_left
          · (intro w hSw; (try dsimp only at hSw); go_simp; try with_reducible rfl)
          try simp only [Act.put, List.setIfInBounds_toArray, List.set_cons_zero, List.set_cons_succ]
          refine wpAnyH_take (i := 13) (oi := ⟨_, _, _, _, _, _⟩) (v := ?_) rfl (by kernel_rfl) (by kernel_rfl) (by kernel_rfl) (fun _ _ _ h => h) (Or.inl ⟨by rfl, ?_⟩) (by assumption) ?_
          rotate_left
          · (intro w hSw; (try dsimp only at hSw); go_simp; try with_reducible rfl)
          try simp only [Act.put, List.setIfInBounds_toArray, List.set_cons_zero, List.set_cons_succ]
          refine wpAnyH_take (i := 14) (oi := ⟨_, _, _, _, _, _⟩) (v := ?_) rfl (by kernel_rfl) (by kernel_rfl) (by kernel_rfl) (fun _ _ _ h => h) (Or.inl ⟨by rfl, ?_⟩) (by assumption) ?_
          rotate_left
          · (intro w hSw; (try dsimp only at hSw); go_simp; try with_reducible rfl)
          try simp only [Act.put, List.setIfInBounds_toArray, List.set_cons_zero, List.set_cons_succ]
          refine wpAnyH_ready (rs := [8]) (by kernel_rfl) (by simp) ?_
          refine AllReadyH.cons (o := ⟨_, _, _, _, _, _⟩) rfl (fun K hK => ?_) AllReadyH.nil
          go_simp
          go_at_call 17; refine PB.mono ?_; clear PB; rintro e w8 ⟨q8, c8, rfl, hy8, hb8⟩; have hcv := byStr c8 hy8; have s3 := (hb8.cell (p := ⟨Bm, 3, none⟩) hBmlt).trans r3; have s4 := (hb8.cell (p := ⟨Bm, 4, none⟩) hBmlt).trans r4; have hA8 := hA3d.step hb8; have scv := byStr k3 hA8; have PS := V.safe (V.step (V.step hT (below_self _).drew) hb8) ok'
          refine hK.out _ _ ⟨s3, s4, scv⟩ (fun hHeld1 => ?_)
          clear hK K
          try simp only [Act.put, List.setIfInBounds_toArray, List.set_cons_zero, List.set_cons_succ]
          refine wpAnyH_ready (rs := [9]) (by kernel_rfl) (by simp) ?_
          refine AllReadyH.cons (o := ⟨_, _, _, _, _, _⟩) rfl (fun K hK => ?_) AllReadyH.nil
          go_simp
          skip
          refine hK.out _ _ ⟨s3, s4, scv⟩ (fun hHeld2 => ?_)
          clear hK K
          try simp only [Act.put, List.setIfInBounds_toArray, List.set_cons_zero, List.set_cons_succ]
          refine wpAnyH_take (i := 15) (oi := ⟨_, _, _, _, _, _⟩) (v := ?_) rfl (by kernel_rfl) (by kernel_rfl) (by kernel_rfl) (fun _ _ _ h => h) (Or.inl ⟨by rfl, ?_⟩) (by assumption) ?_
          rotate_left
          · (intro w hSw; (try dsimp only at hSw); go_simp; try with_reducible rfl)
          try simp only [Act.put, List.setIfInBounds_toArray, List.set_cons_zero, List.set_cons_succ]
          refine wpAnyH_take (i := 16) (oi := ⟨_, _, _, _, _, _⟩) (v := ?_) rfl (by kernel_rfl) (by kernel_rfl) (by kernel_rfl) (fun _ _ _ h => h) (Or.inl ⟨by rfl, ?_⟩) (by assumption) ?_
          rotate_left
          · (intro w hSw; (try dsimp only at hSw); go_simp; try with_reducible rfl)
          try simp only [Act.put, List.setIfInBounds_toArray, List.set_cons_zero, List.set_cons_succ]
          refine wpAnyH_take (i := 17) (oi := ⟨_, _, _, _, _, _⟩) (v := ?_) rfl (by kernel_rfl) (by kernel_rfl) (by kernel_rfl) (fun _ _ _ h => h) (Or.inl ⟨by rfl, ?_⟩) (by assumption) ?_
          rotate_left
          · (intro w hSw; (try dsimp only at hSw); go_simp; try with_reducible rfl)
          try simp only [Act.put, List.setIfInBounds_toArray, List.set_cons_zero, List.set_cons_succ]
          refine wpAnyH_take (i := 18) (oi := ⟨_, _, _, _, _, _⟩) (v := ?_) rfl (by kernel_rfl) (by kernel_rfl) (by kernel_rfl) (fun _ _ _ h => h) (Or.inl ⟨by rfl, ?_⟩) (by assumption) ?_
          rotate_left
          · (intro w hSw; (try dsimp only at hSw); go_simp; try with_reducible rfl)
          try simp only [Act.put, List.setIfInBounds_toArray, List.set_cons_zero, List.set_cons_succ]
          refine wpAnyH_take (i := 20) (oi := ⟨_, _, _, _, _, _⟩) (v := ?_) rfl (by kernel_rfl) (by kernel_rfl) (by kernel_rfl) (fun _ _ _ h => h) (Or.inl ⟨by rfl, ?_⟩) (by assumption) ?_
          rotate_left
          · (intro w hSw; (try dsimp only at hSw); go_simp; try with_reducible rfl)
          try simp only [Act.put, List.setIfInBounds_toArray, List.set_cons_zero, List.set_cons_succ]
          refine wpAnyH_take (i := 21) (oi := ⟨_, _, _, _, _, _⟩) (v := ?_) rfl (by kernel_rfl) (by kernel_rfl) (by kernel_rfl) (fun _ _ _ h => h) (Or.inl ⟨by rfl, ?_⟩) (by assumption) ?_
          rotate_left
          · (intro w hSw; (try dsimp only at hSw); go_simp; try with_reducible rfl)
          try simp only [Act.put, List.setIfInBounds_toArray, List.set_cons_zero, List.set_cons_succ]
          refine wpAnyH_take (i := 22) (oi := ⟨_, _, _, _, _, _⟩) (v := ?_) rfl (by kernel_rfl) (by kernel_rfl) (by kernel_rfl) (fun _ _ _ h => h) (Or.inl ⟨by rfl, ?_⟩) (by assumption) ?_
          rotate_left
          · (intro w hSw; (try dsimp only at hSw); go_simp; try with_reducible rfl)
          try simp only [Act.put, List.setIfInBounds_toArray, List.set_cons_zero, List.set_cons_succ]
          refine wpAnyH_take (i := 23) (oi := ⟨_, _, _, _, _, _⟩) (v := ?_) rfl (by kernel_rfl) (by kernel_rfl) (by kernel_rfl) (fun _ _ _ h => h) (Or.inl ⟨by rfl, ?_⟩) (by assumption) ?_
          rotate_left
          · (intro w hSw; (try dsimp only at hSw); go_simp; try with_reducible rfl)
          try simp only [Act.put, List.setIfInBounds_toArray, List.set_cons_zero, List.set_cons_succ]
          refine wpAnyH_ready (rs := [19]) (by kernel_rfl) (by simp) ?_
          refine AllReadyH.cons (o := ⟨_, _, _, _, _, _⟩) rfl (fun K hK => ?_) AllReadyH.nil
          go_simp
          go_at_call 18; refine PS.mono ?_; clear PS; rintro e w9 ⟨rfl, hb9⟩; have hl8 := Nat.lt_of_lt_of_le hBmlt hb8.size; have t3 := (hb9.cell (p := ⟨Bm, 3, none⟩) hl8).trans s3; have t4 := (hb9.cell (p := ⟨Bm, 4, none⟩) hl8).trans s4; have tcv := byStr k3 (hA8.step hb9)
          refine hK.out _ _ ⟨t3, t4, tcv⟩ (fun hHeld3 => ?_)
          clear hK K
          try simp only [Act.put, List.setIfInBounds_toArray, List.set_cons_zero, List.set_cons_succ]
          refine wpAnyH_take (i := 24) (oi := ⟨_, _, _, _, _, _⟩) (v := ?_) rfl (by kernel_rfl) (by kernel_rfl) (by kernel_rfl) (fun _ _ _ h => h) (Or.inl ⟨by rfl, ?_⟩) (by assumption) ?_
          rotate_left
          · (intro w hSw; (try dsimp only at hSw); go_simp; try with_reducible rfl)
          try simp only [Act.put, List.setIfInBounds_toArray, List.set_cons_zero, List.set_cons_succ]
          refine wpAnyH_take (i := 25) (oi := ⟨_, _, _, _, _, _⟩) (v := ?_) rfl (by kernel_rfl) (by kernel_rfl) (by kernel_rfl) (fun _ _ _ h => h) (Or.inl ⟨by rfl, ?_⟩) (by assumption) ?_
          rotate_left
          · (intro w hSw; (try dsimp only at hSw); go_simp; try with_reducible rfl)
          try simp only [Act.put, List.setIfInBounds_toArray, List.set_cons_zero, List.set_cons_succ]
          refine wpAnyH_done (by kernel_rfl) ?_ _
          have hbZ := below_via (below_via (below_self _).drew hb8) hb9
          have kb9 := kb7.step V hbZ
          clear kb7 hbZ hb8 hb9 hy8 hcv s3 s4 scv t3 t4 tcv hA8 hA3 hA3d rcv r3 r4 hT hl8 hBmlt
          go_wp2_with fail
          exact ⟨⟨k + 1, g', by omega, by omega, by go_num, kb9.two ok'⟩, by simp [intOf]; omega⟩
      · by_cases h1 : k < s.length
        · have g1 : decide ((k : Int) < (s.length : Int)) = true := by simp; omega
          have g2 : decide ((k : Int) < 40) = false := by simp; omega
          have bw := on.bw
          clear on hq hp
          go_wp2_with fail
          go_ret
          exact ⟨rfl, bw⟩
        · have g1 : decide ((k : Int) < (s.length : Int)) = false := by simp; omega
          have bw := on.bw
          clear on hq hp
          go_wp2_with fail
          go_ret
          exact ⟨rfl, bw⟩
  · have P0 := V.newNo w hr
    by_cases h1 : room < 0
    · clear hr
      go_enter Tryd.func3, Tryd.ntmps3
      go_wp2_with fail
      refine P0.mono ?_
      rintro e w6 ⟨p6, rfl, hb6⟩
      clear P0
      have P1 := error_any 1 1 w6 (etStep het hb6)
      change Calls Tryd.prog 6 #[errN 1, .int .i64 1] _ _ at P1
      go_wp2_with fail
      refine P1.mono ?_
      rintro e w7 ⟨rfl, hb7⟩
      go_wp2_with fail
      go_ret
      exact ⟨rfl, below_via hb6 hb7⟩
    · have h2 : 100000 < room := by omega
      clear hr
      go_enter Tryd.func3, Tryd.ntmps3
      go_wp2_with fail
      refine P0.mono ?_
      rintro e w6 ⟨p6, rfl, hb6⟩
      clear P0
      have P1 := error_any 1 1 w6 (etStep het hb6)
      change Calls Tryd.prog 6 #[errN 1, .int .i64 1] _ _ at P1
      go_wp2_with fail
      refine P1.mono ?_
      rintro e w7 ⟨rfl, hb7⟩
      go_wp2_with fail
      go_ret
      exact ⟨rfl, below_via hb6 hb7⟩
end Go.Proofs.YtcmmjidheglmdaaDoor
