/- The contract of burgagesame's Pairs. -/
import Derived.Test.YteipfdjpndhgkaaGreatDoorCMB
namespace Vs
theorem drop_pr {l : List Pr} {k : Nat} {x : Pr} (hx : l[k]? = some x) : l.drop k = x :: l.drop (k + 1) := by
  obtain ⟨h, e⟩ := List.getElem?_eq_some_iff.1 hx
  rw [List.drop_eq_getElem_cons h, e]
theorem getsome' {α : Type} {l : List α} {k : Nat} (h : k < l.length) : ∃ x, l[k]? = some x := ⟨l[k], List.getElem?_eq_getElem h⟩
end Vs
namespace Go.Proofs.YteipfdjpndhgkaaGreatDoor
open Go.RowKit

set_option maxHeartbeats 2000000 in
theorem samePairs (r s : List Vs.Pr) (p q : Option Addr) (cp cq : Nat) (w : World) (hr : r.length ≤ 1000000) (hp : PrAt w p r) (hq : PrAt w q s) :
    Calls Tryz.prog 13 #[.slice p r.length cp, .slice q s.length cq] w fun e w' => e = .returned (.bool (decide (r = s))) ∧ Below w.heap.size w w' := by
  by_cases hlen : r.length = s.length
  · obtain ⟨R, hR⟩ : ∃ R, R = decide (r = s) := ⟨_, rfl⟩
    rw [← hR]
    replace hR : Hid (R = decide (r.drop 0 = s.drop 0)) := hR
    have hne : ((r.length : Int) != (s.length : Int)) = false := by simp [hlen]
    have HL : Hid (r.length = s.length) := hlen
    clear hlen
    go_enter Tryz.func13, Tryz.ntmps13
    go_wp2
    go_loopw [5] (fun i wr => ∃ (k : Nat), k ≤ r.length ∧ i = .int .i64 k ∧ Hid (R = decide (r.drop k = s.drop k)) ∧ Below w.heap.size w wr) (fun i _ => r.length - (intOf i).toNat)
    case atStart => exact ⟨0, by omega, rfl, hR, below_self _⟩
    case round =>
      obtain ⟨k, hk, rfl, hM, hb⟩ := hrel
      by_cases hlt : k < r.length
      · have hlt' : (k : Int) < (r.length : Int) := by omega
        have hls : k < s.length := by rw [← HL.out]; exact hlt
        have hls' : (k : Int) < (s.length : Int) := by omega
        obtain ⟨b1, o1, rfl, hb1, hc1⟩ := hp (by omega)
        obtain ⟨b2, o2, rfl, hb2, hc2⟩ := hq (by omega)
        obtain ⟨x, hx⟩ := Vs.getsome' hlt
        obtain ⟨y, hy⟩ := Vs.getsome' hls
        obtain ⟨d0, d1⟩ := hc1 k x hx
        obtain ⟨f0, f1⟩ := hc2 k y hy
        have e0 := (hb.cell (p := ⟨b1, o1 + k * 2, none⟩) hb1).trans d0
        have e1 := (hb.cell (p := ⟨b1, o1 + k * 2 + 1, none⟩) hb1).trans d1
        have e2 := (hb.cell (p := ⟨b2, o2 + k * 2, none⟩) hb2).trans f0
        have e3 := (hb.cell (p := ⟨b2, o2 + k * 2 + 1, none⟩) hb2).trans f1
        have hD : Hid (R = decide (x = y ∧ r.drop (k + 1) = s.drop (k + 1))) := by
          show _ = _
          rw [hM.out, Vs.drop_pr hx, Vs.drop_pr hy]
          simp
        clear hM hR hx hy hc1 hc2 d0 d1 f0 f1 hp hq hls HL
        by_cases h1 : x.1 = y.1
        · have g1 : (x.1.toList == y.1.toList) = true := by rw [Vs.beq_str]; simpa using h1
          by_cases h2 : x.2 = y.2
          · have g2 : (x.2.toList == y.2.toList) = true := by rw [Vs.beq_str]; simpa using h2
            have hM2 : Hid (R = decide (r.drop (k + 1) = s.drop (k + 1))) := by
              show _ = _
              rw [hD.out]; simp [Prod.ext h1 h2]
            clear hD h1 h2
            go_wp2
            go_quiet (fail)
            go_wp2
            exact ⟨⟨k + 1, by omega, by go_num, hM2, below_drewN hb _⟩, by simp [intOf]; omega⟩
          · have g2 : (x.2.toList == y.2.toList) = false := by rw [Vs.beq_str]; simpa using h2
            have hM2 : Hid (R = false) := by
              show _ = _
              have : ¬ x = y := fun e => h2 (by rw [e])
              rw [hD.out]; simp [this]
            clear hD h1 h2
            go_wp2
            go_quiet (fail)
            go_wp2
            go_ret
            exact ⟨by rw [hM2.out]; rfl, below_drewN hb _⟩
        · have g1 : (x.1.toList == y.1.toList) = false := by rw [Vs.beq_str]; simpa using h1
          have hM2 : Hid (R = false) := by
            show _ = _
            have : ¬ x = y := fun e => h1 (by rw [e])
            rw [hD.out]; simp [this]
          clear hD h1
          go_wp2
          go_quiet (fail)
          go_wp2
          go_ret
          exact ⟨by rw [hM2.out]; rfl, below_drewN hb _⟩
      · have hE : Hid (R = true) := by
          show _ = _
          rw [hM.out, List.drop_eq_nil_of_le (by omega), List.drop_eq_nil_of_le (by rw [← HL.out]; omega)]; simp
        clear hM hR hp hq HL
        go_wp2
        go_ret
        exact ⟨by rw [hE.out]; rfl, hb⟩
  · have hE : decide (r = s) = false := by
      have : ¬ r = s := fun e => hlen (by rw [e])
      simpa using this
    have hne : ((r.length : Int) != (s.length : Int)) = true := by simp; omega
    rw [hE]
    clear hE hlen
    go_enter Tryz.func13, Tryz.ntmps13
    go_wp2
    go_ret
    exact ⟨rfl, below_self _⟩
end Go.Proofs.YteipfdjpndhgkaaGreatDoor
