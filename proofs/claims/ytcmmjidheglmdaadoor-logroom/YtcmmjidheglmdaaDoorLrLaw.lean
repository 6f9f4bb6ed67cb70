/- The walk of the law LogRoom. -/
import Derived.Test.YtcmmjidheglmdaaDoorLgKb
import Derived.Test.YtcmmjidheglmdaaDoorAdErr2
import Derived.Deep.CutBlock
namespace Vs
def lgA : Lg := ⟨3, [[]], [], 0, -1, false⟩
theorem r3_ap : apF (lg0 3) [] = 0 ∧ apG (lg0 3) [] = lgA := by
  have h1 : chF [] = 0 := by decide
  have h2 : ¬ (lg0 3).room < (lg0 3).by.length + 2 + (encL []).length := by decide
  unfold apF apG
  rw [if_pos h1, if_pos h1, if_neg h2, if_neg h2]
  exact ⟨rfl, rfl⟩
theorem r3_full : apF lgA [] = 3 ∧ apG lgA [] = lgA := by
  have h1 : chF [] = 0 := by decide
  have h2 : lgA.room < lgA.by.length + 2 + (encL []).length := by decide
  unfold apF apG
  rw [if_pos h1, if_pos h1, if_pos h2, if_pos h2]
  exact ⟨rfl, rfl⟩
end Vs
namespace Go.Proofs.YtcmmjidheglmdaaDoor
open Go.RowKit Vs

theorem etStep {w w' : World} (h : ErrType w) (hb : Below w.heap.size w w') : ErrType w' := (hb.cell (World.block_lt_of_cell? _ _ h)).trans h

set_option maxRecDepth 100000 in
set_option maxHeartbeats 8000000 in
theorem law_room {T : Tl} (V : LFace T) (room : Int) (ls : List (List Chg)) (p : Option Addr) (cp : Nat) (s : List Stp) (q : Option Addr) (cq : Nat) (w : World) (hll : ls.length ≤ 9223372036854775807) (hsl : s.length ≤ 9223372036854775807) (hp : LsAt w (fun j => j < w.heap.size) p ls) (hq : StAt w q s) (hsN : ∀ x ∈ s, -9223372036854775808 ≤ x.n ∧ x.n ≤ 9223372036854775807) (het : ErrType w) :
    Calls Tryd.prog 4 #[.int .i64 room, .slice p ls.length cp, .slice q s.length cq] w fun e w' => e = .returned (.bool true) ∧ Below w.heap.size w w' := by
  obtain ⟨a1, a2⟩ := r3_ap
  obtain ⟨a3, a4⟩ := r3_full
  have ok0 : OkL (lg0 3) := OkL.new (by decide) (by decide)
  have okA : OkL lgA := by rw [← a2]; exact ok0.ap _
  go_enter Tryd.func4, Tryd.ntmps4
  go_wp2_with fail
  refine (V.newOk w (by decide) (by decide)).mono ?_
  rintro e w1 ⟨B, rfl, hT, hb1⟩
  have P1 := V.append [] none 0 hT ok0 (fun j hj => hj.2) (by decide) (by decide) (ChIn.nil _ _ _)
  rw [a1, a2, ev_0] at P1
  change Calls Tryd.prog 9 #[.pointer (some ⟨B, 0, none⟩), .slice none 0 0] _ _ at P1
  go_wp2_with fail
  refine P1.mono ?_
  rintro e w2 ⟨rfl, hT2, hb2⟩
  have hs1 := hb1.size
  have hs2 := hb2.size
  have hF2 : ∀ j, Nw (fun j => w.heap.size ≤ j ∧ j < w1.heap.size) w1 w2 j → w.heap.size ≤ j ∧ j < w2.heap.size := by
    rintro j (hj | hj)
    · omega
    · omega
  have bw2 : Below w.heap.size w w2 := But.under2 hb1 hb2 hs1 (fun i hi e => by omega)
  generalize Nw (fun j => w.heap.size ≤ j ∧ j < w1.heap.size) w1 w2 = F2 at hT2 hF2
  clear P1 hT hb1 hb2
  have P2 := V.append [] none 0 hT2 okA (fun j hj => (hF2 j hj).2) (by decide) (by decide) (ChIn.nil _ _ _)
  rw [a3, a4] at P2
  change Calls Tryd.prog 9 #[.pointer (some ⟨B, 0, none⟩), .slice none 0 0] _ _ at P2
  go_wp2_with fail
  refine P2.mono ?_
  rintro e w3 ⟨rfl, hT3, hb3⟩
  have hs3 := hb3.size
  have bw3 : Below w.heap.size w w3 := But.under2 bw2 hb3 bw2.size (fun i hi e => by have := (hF2 i e).1; omega)
  clear P2 hT2 hF2 hb3 bw2
  go_wp2_with fail
  refine (error_any 3 3 _ (etStep het bw3)).mono ?_
  rintro e w4 ⟨rfl, hb4⟩
  rw [show ((3 : Int) == 3) = true from rfl]
  have hT4 := V.step hT3 hb4
  have P4 := V.bytes hT4 okA
  change Calls Tryd.prog 17 _ _ (fun e w' => ∃ (q : Option Addr) (c : Nat), e = .returned (.slice q 3 c) ∧ _) at P4
  have bw4 := below_via bw3 hb4
  clear hT3 hT4 hb4 bw3
  go_wp2_with fail
  refine P4.mono ?_
  rintro e w5 ⟨q5, c5, rfl, _, hb5⟩
  have bw5 := below_via bw4 hb5
  clear P4 hb5 bw4 a1 a2 a3 a4 okA ok0 hs1 hs2 hs3
  by_cases hr : 0 ≤ room ∧ room ≤ 100000
  · go_wp2_with fail
    refine (V.newOk w5 hr.1 hr.2).mono ?_
    rintro e w6 ⟨B6, rfl, hT6, hb6⟩
    have on0 : On1 T w w6 B6 (lg0 room) := ⟨⟨_, hT6, fun j hj => ⟨by have := bw5.size; omega, hj.2⟩⟩, OkL.new hr.1 hr.2, below_via bw5 hb6⟩
    clear hT6 hb6 bw5 hr
    go_wp2_with fail
    go_loopw [12] (fun i wr => ∃ (k : Nat) (g : Lg), k ≤ s.length ∧ k ≤ 40 ∧ i = .int .i64 k ∧ Hid (g.room = room) ∧ On1 T w wr B6 g) (fun i _ => s.length - (intOf i).toNat)
    case atStart => exact ⟨0, lg0 room, by omega, by omega, rfl, rfl, on0⟩
    case round =>
      obtain ⟨k, g, hk, hk40, rfl, hroom, on⟩ := hrel
      clear on0
      by_cases hlt : k < s.length ∧ k < 40
      · obtain ⟨hlt, hlt40⟩ := hlt
        have hlt' : (k : Int) < (s.length : Int) := by omega
        have hlt40' : (k : Int) < 40 := by omega
        obtain ⟨b, off, rfl, hbl, hc⟩ := (hq.step on.bw) (by omega)
        obtain ⟨x, hx⟩ := Vs.chsome hlt
        obtain ⟨d0, d1, d2, d3, d4, d5, z1, z2, z3⟩ := hc k x hx
        have hxn := hsN x (List.mem_of_getElem? hx)
        have kb0 := on.box V 34 x
        have ok := on.ok
        clear on hc hx hq
        obtain ⟨F0, hT0, _, _, _⟩ := kb0.ex
        have P5 := V.bytes hT0 kb0.ok
        clear hT0
        go_upto_block 2 with (go_at_call 17; refine P5.mono ?_; rintro e w7 ⟨q7, c7, rfl, hby, hb7⟩; have hcv := byStr c7 hby; have kb := kb0.step V hb7; have kc0 := kb.sb.c0)
        obtain ⟨Bs, hBs⟩ : ∃ Bs, Bs = wr.heap.size := ⟨_, rfl⟩
        rw [← hBs] at kb
        rw [← hBs]
        clear P5 kb0 hb7 hby hcv hBs kc0 d0 d1 d2 d3 d4 d5
        go_cut [15, 16, 17] from 76 to 127 (fun _ _ _ wy => ∃ (g' : Lg), Hid (g'.room = room) ∧ Kb T w wy B6 Bs x (.slice none 0 0) g' [])
        case first =>
          obtain ⟨F, hT, hF, h9, hBs⟩ := kb.ex
          have c0 := kb.sb.c0
          have c5 := kb.sb.c5
          have hpW := hp.step kb.bw
          by_cases hw : x.what = 0
          · by_cases hN : 0 ≤ x.n ∧ x.n < (ls.length : Int)
            · have e0 : (x.what == 0) = true := by simp; omega
              obtain ⟨m, hm⟩ : ∃ m : Nat, x.n = m := ⟨x.n.toNat, by omega⟩
              have hml : m < ls.length := by omega
              have hml' : (m : Int) < (ls.length : Int) := by omega
              rw [hm] at c5
              replace hm : Hid (x.n = m) := hm
              obtain ⟨pb, po, rfl, hpl, hpG, hpc⟩ := hpW (by omega)
              obtain ⟨l, hl⟩ := Vs.chsome hml
              obtain ⟨_, d1, q1, k1, rfl, l1, l2, l3⟩ := hpc m l hl
              have P1 := V.append l q1 k1 hT kb.ok (fun j hj => (hF j hj).2) l1 l2 (l3.mono (fun j _ hj hFj => by have := (hF j hFj).1; have hj : j < w.heap.size := hj; omega))
              clear hw hN hml
              go_wp2_with fail
              refine P1.mono ?_
              rintro e w2 ⟨rfl, hT2, hb2⟩
              have kb2 := kb.log hF h9 hBs hT2 hb2 (kb.ok.ap l)
              clear P1 hT hF h9 hBs hT2 hb2 c0 c5 d1 l3 hpc hpW kb
              go_wp2_with fail
              refine (error_any _ _ _ (etStep het kb2.bw)).mono ?_
              rintro e w3 ⟨rfl, hb3⟩
              have kb3 := kb2.step V hb3
              clear kb2 hb3
              go_wp2_with fail
              refine (error_any _ _ _ (etStep het kb3.bw)).mono ?_
              rintro e w4 ⟨rfl, hb4⟩
              have kb4 := kb3.step V hb4
              clear kb3 hb4
              have hro : (apG g l).room = room := (room_ap g l).trans hroom.out
              replace hro : Hid _ := hro
              by_cases hf : apF g l = 3
              · have hsm := ap_same (.inl hf)
                have f1 : (apF g l == 3) = true := by simp [hf]
                rw [hsm] at kb4 hro
                obtain ⟨F4, hT4, _, _, _⟩ := kb4.ex
                have P4 := V.bytes hT4 kb4.ok
                clear hf hsm hT4
                go_wp2_with fail
                refine P4.mono ?_
                rintro e w5 ⟨q5, c5', rfl, hby, hb5⟩
                have hcv := byStr c5' hby
                have hself : ((mkB g.by).toList == (mkB g.by).toList) = true := by simp
                have kb5 := kb4.step V hb5
                clear P4 kb4 hb5 hby
                go_wp2_with fail
                go_meet
                case rel => exact ⟨g, hro, kb5⟩
              by_cases hf2 : apF g l = 2
              · have hsm := ap_same (.inr hf2)
                have f1 : (apF g l == 3) = false := by simpa using hf
                have f2 : (apF g l == 2) = true := by simp [hf2]
                rw [hsm] at kb4 hro
                obtain ⟨F4, hT4, _, _, _⟩ := kb4.ex
                have P4 := V.bytes hT4 kb4.ok
                clear hf hf2 hsm hT4
                go_wp2_with fail
                refine P4.mono ?_
                rintro e w5 ⟨q5, c5', rfl, hby, hb5⟩
                have hcv := byStr c5' hby
                have hself : ((mkB g.by).toList == (mkB g.by).toList) = true := by simp
                have kb5 := kb4.step V hb5
                clear P4 kb4 hb5 hby
                go_wp2_with fail
                go_meet
                case rel => exact ⟨g, hro, kb5⟩
              · have f1 : (apF g l == 3) = false := by simpa using hf
                have f2 : (apF g l == 2) = false := by simpa using hf2
                clear hf hf2
                go_wp2_with fail
                go_meet
                case rel => exact ⟨apG g l, hro, kb4⟩
            · have e0 : (x.what == 0) = true := by simp; omega
              have g1 : (decide (0 ≤ x.n) && decide (x.n < (ls.length : Int))) = false := by simp; omega
              clear hw
              by_cases hN0 : 0 ≤ x.n
              · have g2 : decide (0 ≤ x.n) = true := by simpa using hN0
                have g3 : decide (x.n < (ls.length : Int)) = false := by simp; omega
                clear hN g1
                go_wp2_with fail
                go_meet
                case rel => exact ⟨g, hroom, kb⟩
              · have g2 : decide (0 ≤ x.n) = false := by simpa using hN0
                clear hN g1
                go_wp2_with fail
                go_meet
                case rel => exact ⟨g, hroom, kb⟩
          by_cases hw : x.what = 1
          · by_cases hN : 0 ≤ x.n ∧ x.n < (ls.length : Int)
            · have e0 : (x.what == 0) = false := by simp; omega
              have e1 : (x.what == 1) = true := by simp; omega
              obtain ⟨m, hm⟩ : ∃ m : Nat, x.n = m := ⟨x.n.toNat, by omega⟩
              have hml : m < ls.length := by omega
              have hml' : (m : Int) < (ls.length : Int) := by omega
              rw [hm] at c5
              replace hm : Hid (x.n = m) := hm
              obtain ⟨pb, po, rfl, hpl, hpG, hpc⟩ := hpW (by omega)
              obtain ⟨l, hl⟩ := Vs.chsome hml
              obtain ⟨_, d1, q1, k1, rfl, l1, l2, l3⟩ := hpc m l hl
              have P1 := V.append l q1 k1 hT kb.ok (fun j hj => (hF j hj).2) l1 l2 (l3.mono (fun j _ hj hFj => by have := (hF j hFj).1; have hj : j < w.heap.size := hj; omega))
              clear hw hN hml
              go_wp2_with fail
              refine P1.mono ?_
              rintro e w2 ⟨rfl, hT2, hb2⟩
              have kb2 := kb.log hF h9 hBs hT2 hb2 (kb.ok.ap l)
              clear P1 hT hF h9 hBs hT2 hb2 c0 c5 d1 l3 hpc hpW kb
              go_wp2_with fail
              refine (error_any _ _ _ (etStep het kb2.bw)).mono ?_
              rintro e w3 ⟨rfl, hb3⟩
              have kb3 := kb2.step V hb3
              clear kb2 hb3
              go_wp2_with fail
              refine (error_any _ _ _ (etStep het kb3.bw)).mono ?_
              rintro e w4 ⟨rfl, hb4⟩
              have kb4 := kb3.step V hb4
              clear kb3 hb4
              have hro : (apG g l).room = room := (room_ap g l).trans hroom.out
              replace hro : Hid _ := hro
              by_cases hf : apF g l = 3
              · have hsm := ap_same (.inl hf)
                have f1 : (apF g l == 3) = true := by simp [hf]
                rw [hsm] at kb4 hro
                obtain ⟨F4, hT4, _, _, _⟩ := kb4.ex
                have P4 := V.bytes hT4 kb4.ok
                clear hf hsm hT4
                go_wp2_with fail
                refine P4.mono ?_
                rintro e w5 ⟨q5, c5', rfl, hby, hb5⟩
                have hcv := byStr c5' hby
                have hself : ((mkB g.by).toList == (mkB g.by).toList) = true := by simp
                have kb5 := kb4.step V hb5
                clear P4 kb4 hb5 hby
                go_wp2_with fail
                go_meet
                case rel => exact ⟨g, hro, kb5⟩
              by_cases hf2 : apF g l = 2
              · have hsm := ap_same (.inr hf2)
                have f1 : (apF g l == 3) = false := by simpa using hf
                have f2 : (apF g l == 2) = true := by simp [hf2]
                rw [hsm] at kb4 hro
                obtain ⟨F4, hT4, _, _, _⟩ := kb4.ex
                have P4 := V.bytes hT4 kb4.ok
                clear hf hf2 hsm hT4
                go_wp2_with fail
                refine P4.mono ?_
                rintro e w5 ⟨q5, c5', rfl, hby, hb5⟩
                have hcv := byStr c5' hby
                have hself : ((mkB g.by).toList == (mkB g.by).toList) = true := by simp
                have kb5 := kb4.step V hb5
                clear P4 kb4 hb5 hby
                go_wp2_with fail
                go_meet
                case rel => exact ⟨g, hro, kb5⟩
              · have f1 : (apF g l == 3) = false := by simpa using hf
                have f2 : (apF g l == 2) = false := by simpa using hf2
                clear hf hf2
                go_wp2_with fail
                go_meet
                case rel => exact ⟨apG g l, hro, kb4⟩
            · have e0 : (x.what == 0) = false := by simp; omega
              have e1 : (x.what == 1) = true := by simp; omega
              have g1 : (decide (0 ≤ x.n) && decide (x.n < (ls.length : Int))) = false := by simp; omega
              clear hw
              by_cases hN0 : 0 ≤ x.n
              · have g2 : decide (0 ≤ x.n) = true := by simpa using hN0
                have g3 : decide (x.n < (ls.length : Int)) = false := by simp; omega
                clear hN g1
                go_wp2_with fail
                go_meet
                case rel => exact ⟨g, hroom, kb⟩
              · have g2 : decide (0 ≤ x.n) = false := by simpa using hN0
                clear hN g1
                go_wp2_with fail
                go_meet
                case rel => exact ⟨g, hroom, kb⟩
          by_cases hw : x.what = 2
          · by_cases hN : 0 ≤ x.n ∧ x.n < (ls.length : Int)
            · have e0 : (x.what == 0) = false := by simp; omega
              have e1 : (x.what == 1) = false := by simp; omega
              have e2 : (x.what == 2) = true := by simp; omega
              obtain ⟨m, hm⟩ : ∃ m : Nat, x.n = m := ⟨x.n.toNat, by omega⟩
              have hml : m < ls.length := by omega
              have hml' : (m : Int) < (ls.length : Int) := by omega
              rw [hm] at c5
              replace hm : Hid (x.n = m) := hm
              obtain ⟨pb, po, rfl, hpl, hpG, hpc⟩ := hpW (by omega)
              obtain ⟨l, hl⟩ := Vs.chsome hml
              obtain ⟨_, d1, q1, k1, rfl, l1, l2, l3⟩ := hpc m l hl
              have P1 := V.append l q1 k1 hT kb.ok (fun j hj => (hF j hj).2) l1 l2 (l3.mono (fun j _ hj hFj => by have := (hF j hFj).1; have hj : j < w.heap.size := hj; omega))
              clear hw hN hml
              go_wp2_with fail
              refine P1.mono ?_
              rintro e w2 ⟨rfl, hT2, hb2⟩
              have kb2 := kb.log hF h9 hBs hT2 hb2 (kb.ok.ap l)
              clear P1 hT hF h9 hBs hT2 hb2 c0 c5 d1 l3 hpc hpW kb
              go_wp2_with fail
              refine (error_any _ _ _ (etStep het kb2.bw)).mono ?_
              rintro e w3 ⟨rfl, hb3⟩
              have kb3 := kb2.step V hb3
              clear kb2 hb3
              go_wp2_with fail
              refine (error_any _ _ _ (etStep het kb3.bw)).mono ?_
              rintro e w4 ⟨rfl, hb4⟩
              have kb4 := kb3.step V hb4
              clear kb3 hb4
              have hro : (apG g l).room = room := (room_ap g l).trans hroom.out
              replace hro : Hid _ := hro
              by_cases hf : apF g l = 3
              · have hsm := ap_same (.inl hf)
                have f1 : (apF g l == 3) = true := by simp [hf]
                rw [hsm] at kb4 hro
                obtain ⟨F4, hT4, _, _, _⟩ := kb4.ex
                have P4 := V.bytes hT4 kb4.ok
                clear hf hsm hT4
                go_wp2_with fail
                refine P4.mono ?_
                rintro e w5 ⟨q5, c5', rfl, hby, hb5⟩
                have hcv := byStr c5' hby
                have hself : ((mkB g.by).toList == (mkB g.by).toList) = true := by simp
                have kb5 := kb4.step V hb5
                clear P4 kb4 hb5 hby
                go_wp2_with fail
                go_meet
                case rel => exact ⟨g, hro, kb5⟩
              by_cases hf2 : apF g l = 2
              · have hsm := ap_same (.inr hf2)
                have f1 : (apF g l == 3) = false := by simpa using hf
                have f2 : (apF g l == 2) = true := by simp [hf2]
                rw [hsm] at kb4 hro
                obtain ⟨F4, hT4, _, _, _⟩ := kb4.ex
                have P4 := V.bytes hT4 kb4.ok
                clear hf hf2 hsm hT4
                go_wp2_with fail
                refine P4.mono ?_
                rintro e w5 ⟨q5, c5', rfl, hby, hb5⟩
                have hcv := byStr c5' hby
                have hself : ((mkB g.by).toList == (mkB g.by).toList) = true := by simp
                have kb5 := kb4.step V hb5
                clear P4 kb4 hb5 hby
                go_wp2_with fail
                go_meet
                case rel => exact ⟨g, hro, kb5⟩
              · have f1 : (apF g l == 3) = false := by simpa using hf
                have f2 : (apF g l == 2) = false := by simpa using hf2
                clear hf hf2
                go_wp2_with fail
                go_meet
                case rel => exact ⟨apG g l, hro, kb4⟩
            · have e0 : (x.what == 0) = false := by simp; omega
              have e1 : (x.what == 1) = false := by simp; omega
              have e2 : (x.what == 2) = true := by simp; omega
              have g1 : (decide (0 ≤ x.n) && decide (x.n < (ls.length : Int))) = false := by simp; omega
              clear hw
              by_cases hN0 : 0 ≤ x.n
              · have g2 : decide (0 ≤ x.n) = true := by simpa using hN0
                have g3 : decide (x.n < (ls.length : Int)) = false := by simp; omega
                clear hN g1
                go_wp2_with fail
                go_meet
                case rel => exact ⟨g, hroom, kb⟩
              · have g2 : decide (0 ≤ x.n) = false := by simpa using hN0
                clear hN g1
                go_wp2_with fail
                go_meet
                case rel => exact ⟨g, hroom, kb⟩
          by_cases hw : x.what = 3
          · have e0 : (x.what == 0) = false := by simp; omega
            have e1 : (x.what == 1) = false := by simp; omega
            have e2 : (x.what == 2) = false := by simp; omega
            have e3 : (x.what == 3) = true := by simp; omega
            clear hw
            have P1 := V.sync hT kb.ok (fun j hj => (hF j hj).2)
            go_wp2_with fail
            refine P1.mono ?_
            rintro e w2 ⟨rfl, hT2, hb2⟩
            have kb2 := kb.log hF h9 hBs hT2 hb2 (kb.ok.sy)
            clear P1 hT hF h9 hBs hT2 hb2 c0 c5 hpW kb
            go_wp2_with fail
            go_meet
            case rel => exact ⟨syG g, (room_sy g).trans hroom.out, kb2⟩
          by_cases hw : x.what = 4
          · have e0 : (x.what == 0) = false := by simp; omega
            have e1 : (x.what == 1) = false := by simp; omega
            have e2 : (x.what == 2) = false := by simp; omega
            have e3 : (x.what == 3) = false := by simp; omega
            have e4 : (x.what == 4) = true := by simp; omega
            clear hw
            have P1 := V.fail x.n hxn.1 hxn.2 hT kb.ok (fun j hj => (hF j hj).2)
            go_wp2_with fail
            refine P1.mono ?_
            rintro e w2 ⟨rfl, hT2, hb2⟩
            have kb2 := kb.log hF h9 hBs hT2 hb2 (kb.ok.fa hxn.2)
            clear P1 hT hF h9 hBs hT2 hb2 c0 c5 hpW kb
            go_wp2_with fail
            go_meet
            case rel => exact ⟨faG g x.n, hroom, kb2⟩
          by_cases hw : x.what = 5
          · have e0 : (x.what == 0) = false := by simp; omega
            have e1 : (x.what == 1) = false := by simp; omega
            have e2 : (x.what == 2) = false := by simp; omega
            have e3 : (x.what == 3) = false := by simp; omega
            have e4 : (x.what == 4) = false := by simp; omega
            have e5 : (x.what == 5) = true := by simp; omega
            clear hw
            have P1 := V.crash x.n hxn.1 hxn.2 hT kb.ok (fun j hj => (hF j hj).2)
            go_wp2_with fail
            refine P1.mono ?_
            rintro e w2 ⟨rfl, hT2, hb2⟩
            have kb2 := kb.log hF h9 hBs hT2 hb2 (kb.ok.cr x.n)
            clear P1 hT hF h9 hBs hT2 hb2 c0 c5 hpW kb
            go_wp2_with fail
            go_meet
            case rel => exact ⟨crG g x.n, hroom, kb2⟩
          have e0 : (x.what == 0) = false := by simp; omega
          have e1 : (x.what == 1) = false := by simp; omega
          have e2 : (x.what == 2) = false := by simp; omega
          have e3 : (x.what == 3) = false := by simp; omega
          have e4 : (x.what == 4) = false := by simp; omega
          have e5 : (x.what == 5) = false := by simp; omega
          go_wp2_with fail
          go_meet
          case rel => exact ⟨g, hroom, kb⟩
        case rest =>
          obtain ⟨g', hroom', kb'⟩ := hcut
          obtain ⟨F, hT, _, _, _⟩ := kb'.ex
          have P8 := V.bytes hT kb'.ok
          have hl1 := kb'.ok.len
          rw [hroom'.out] at hl1
          have hl2 := kb'.ok.few
          have hl3 := kb'.ok.safe
          have g1 : decide (room < (g'.by.length : Int)) = false := by simp; omega
          have g2 : decide (g'.by.length < g'.safe) = false := by simp; omega
          have g3 : ¬ g'.by.length < g'.safe := by omega
          clear kb ok hl1 hl2 hl3 hT hroom
          go_wp2_with fail
          refine P8.mono ?_
          rintro e w8 ⟨q8, c8, rfl, _, hb8⟩
          have kb8 := kb'.step V hb8
          clear P8 kb' hb8
          obtain ⟨F8, hT8, _, _, _⟩ := kb8.ex
          have P9 := V.safe hT8 kb8.ok
          clear hT8
          go_wp2_with fail
          refine P9.mono ?_
          rintro e w9 ⟨rfl, hb9⟩
          have kb9 := kb8.step V hb9
          clear P9 kb8 hb9
          obtain ⟨F9, hT9, _, _, _⟩ := kb9.ex
          have P10 := V.bytes hT9 kb9.ok
          clear hT9
          go_wp2_with fail
          refine P10.mono ?_
          rintro e w10 ⟨q10, c10, rfl, _, hb10⟩
          have kb10 := kb9.step V hb10
          clear P10 kb9 hb10
          go_wp2_with fail
          exact ⟨⟨k + 1, g', by omega, by omega, by go_num, hroom', kb10.on1⟩, by simp [intOf]; omega⟩
      · by_cases h1 : k < s.length
        · have g1 : decide ((k : Int) < (s.length : Int)) = true := by simp; omega
          have g2 : decide ((k : Int) < 40) = false := by simp; omega
          have bw := on.bw
          clear on hq hp
          go_wp2_with fail
          go_ret
          exact ⟨rfl, bw⟩
        · have g1 : decide ((k : Int) < (s.length : Int)) = false := by simp; omega
          have bw := on.bw
          clear on hq hp
          go_wp2_with fail
          go_ret
          exact ⟨rfl, bw⟩
  · have P6 := V.newNo w5 hr
    by_cases h1 : room < 0
    · clear hr
      go_wp2_with fail
      refine P6.mono ?_
      rintro e w6 ⟨p6, rfl, hb6⟩
      clear P6
      go_wp2_with fail
      go_ret
      exact ⟨rfl, below_via bw5 hb6⟩
    · have h2 : 100000 < room := by omega
      clear hr
      go_wp2_with fail
      refine P6.mono ?_
      rintro e w6 ⟨p6, rfl, hb6⟩
      clear P6
      go_wp2_with fail
      go_ret
      exact ⟨rfl, below_via bw5 hb6⟩
end Go.Proofs.YtcmmjidheglmdaaDoor
