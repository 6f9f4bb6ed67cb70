/- The contract of burgagesame's Changes. -/
import Derived.Test.YtcmmjidheglmdaaDoorCdBase
namespace Vs
theorem drop_ch {l : List Chg} {k : Nat} {x : Chg} (hx : l[k]? = some x) : l.drop k = x :: l.drop (k + 1) := by
  obtain ⟨h, e⟩ := List.getElem?_eq_some_iff.1 hx
  rw [List.drop_eq_getElem_cons h, e]
theorem chsome {α : Type} {l : List α} {k : Nat} (h : k < l.length) : ∃ x, l[k]? = some x := ⟨l[k], List.getElem?_eq_getElem h⟩
theorem chExt {x y : Chg} (h1 : x.k = y.k) (h2 : x.v = y.v) (h3 : x.g = y.g) : x = y := by
  cases x; cases y; simp_all
end Vs
namespace Go.Proofs.YtcmmjidheglmdaaDoor
open Go.RowKit

set_option maxHeartbeats 2000000 in
theorem sameChanges (r s : List Vs.Chg) (p q : Option Addr) (cp cq : Nat) (w : World) (hr : r.length ≤ 9223372036854775807) (hp : ChAt w p r) (hq : ChAt w q s) :
    Calls Tryd.prog 29 #[.slice p r.length cp, .slice q s.length cq] w fun e w' => e = .returned (.bool (decide (r = s))) ∧ Below w.heap.size w w' := by
  by_cases hlen : r.length = s.length
  · obtain ⟨R, hR⟩ : ∃ R, R = decide (r = s) := ⟨_, rfl⟩
    rw [← hR]
    replace hR : Hid (R = decide (r.drop 0 = s.drop 0)) := hR
    have hne : ((r.length : Int) != (s.length : Int)) = false := by simp [hlen]
    have HL : Hid (r.length = s.length) := hlen
    clear hlen
    go_enter Tryd.func29, Tryd.ntmps29
    go_wp2
    go_loopw [5] (fun i wr => ∃ (k : Nat), k ≤ r.length ∧ i = .int .i64 k ∧ Hid (R = decide (r.drop k = s.drop k)) ∧ Below w.heap.size w wr) (fun i _ => r.length - (intOf i).toNat)
    case atStart => exact ⟨0, by omega, rfl, hR, below_self _⟩
    case round =>
      obtain ⟨k, hk, rfl, hM, hb⟩ := hrel
      by_cases hlt : k < r.length
      · have hlt' : (k : Int) < (r.length : Int) := by omega
        have hls : k < s.length := by rw [← HL.out]; exact hlt
        have hls' : (k : Int) < (s.length : Int) := by omega
        obtain ⟨b1, o1, rfl, hb1, hc1⟩ := hp (by omega)
        obtain ⟨b2, o2, rfl, hb2, hc2⟩ := hq (by omega)
        obtain ⟨x, hx⟩ := Vs.chsome hlt
        obtain ⟨y, hy⟩ := Vs.chsome hls
        obtain ⟨d0, d1, d2⟩ := hc1 k x hx
        obtain ⟨f0, f1, f2⟩ := hc2 k y hy
        have e0 := (hb.cell (p := ⟨b1, o1 + k * 3, none⟩) hb1).trans d0
        have e1 := (hb.cell (p := ⟨b1, o1 + k * 3 + 1, none⟩) hb1).trans d1
        have e2 := (hb.cell (p := ⟨b1, o1 + k * 3 + 2, none⟩) hb1).trans d2
        have e3 := (hb.cell (p := ⟨b2, o2 + k * 3, none⟩) hb2).trans f0
        have e4 := (hb.cell (p := ⟨b2, o2 + k * 3 + 1, none⟩) hb2).trans f1
        have e5 := (hb.cell (p := ⟨b2, o2 + k * 3 + 2, none⟩) hb2).trans f2
        have hD : Hid (R = decide (x = y ∧ r.drop (k + 1) = s.drop (k + 1))) := by
          show _ = _
          rw [hM.out, Vs.drop_ch hx, Vs.drop_ch hy]
          simp
        clear hM hR hx hy hc1 hc2 d0 d1 d2 f0 f1 f2 hp hq hls HL
        by_cases h1 : x.k = y.k
        · have g1 : (x.k.toList == y.k.toList) = true := by rw [Vs.beq_str]; simpa using h1
          by_cases h2 : x.v = y.v
          · have g2 : (x.v.toList == y.v.toList) = true := by rw [Vs.beq_str]; simpa using h2
            cases hx3 : x.g <;> cases hy3 : y.g <;> rw [hx3] at e2 <;> rw [hy3] at e5
            · have hM2 : Hid (R = decide (r.drop (k + 1) = s.drop (k + 1))) := by
                show _ = _
                rw [hD.out]; simp [Vs.chExt h1 h2 (hx3.trans hy3.symm)]
              clear hD h1 h2 hx3 hy3
              go_wp2
              go_quiet (fail)
              go_wp2
              exact ⟨⟨k + 1, by omega, by go_num, hM2, below_drewN hb _⟩, by simp [intOf]; omega⟩
            · have hM2 : Hid (R = false) := by
                show _ = _
                have : ¬ x = y := fun e => by rw [e, hy3] at hx3; cases hx3
                rw [hD.out]; simp [this]
              clear hD h1 h2 hx3 hy3
              go_wp2
              go_quiet (fail)
              go_wp2
              go_ret
              exact ⟨by rw [hM2.out]; rfl, below_drewN hb _⟩
            · have hM2 : Hid (R = false) := by
                show _ = _
                have : ¬ x = y := fun e => by rw [e, hy3] at hx3; cases hx3
                rw [hD.out]; simp [this]
              clear hD h1 h2 hx3 hy3
              go_wp2
              go_quiet (fail)
              go_wp2
              go_ret
              exact ⟨by rw [hM2.out]; rfl, below_drewN hb _⟩
            · have hM2 : Hid (R = decide (r.drop (k + 1) = s.drop (k + 1))) := by
                show _ = _
                rw [hD.out]; simp [Vs.chExt h1 h2 (hx3.trans hy3.symm)]
              clear hD h1 h2 hx3 hy3
              go_wp2
              go_quiet (fail)
              go_wp2
              exact ⟨⟨k + 1, by omega, by go_num, hM2, below_drewN hb _⟩, by simp [intOf]; omega⟩
          · have g2 : (x.v.toList == y.v.toList) = false := by rw [Vs.beq_str]; simpa using h2
            have hM2 : Hid (R = false) := by
              show _ = _
              have : ¬ x = y := fun e => h2 (by rw [e])
              rw [hD.out]; simp [this]
            clear hD h1 h2
            go_wp2
            go_quiet (fail)
            go_wp2
            go_ret
            exact ⟨by rw [hM2.out]; rfl, below_drewN hb _⟩
        · have g1 : (x.k.toList == y.k.toList) = false := by rw [Vs.beq_str]; simpa using h1
          have hM2 : Hid (R = false) := by
            show _ = _
            have : ¬ x = y := fun e => h1 (by rw [e])
            rw [hD.out]; simp [this]
          clear hD h1
          go_wp2
          go_quiet (fail)
          go_wp2
          go_ret
          exact ⟨by rw [hM2.out]; rfl, below_drewN hb _⟩
      · have hE : Hid (R = true) := by
          show _ = _
          rw [hM.out, List.drop_eq_nil_of_le (by omega), List.drop_eq_nil_of_le (by rw [← HL.out]; omega)]; simp
        clear hM hR hp hq HL
        go_wp2
        go_ret
        exact ⟨by rw [hE.out]; rfl, hb⟩
  · have hE : decide (r = s) = false := by
      have : ¬ r = s := fun e => hlen (by rw [e])
      simpa using this
    have hne : ((r.length : Int) != (s.length : Int)) = true := by simp; omega
    rw [hE]
    clear hE hlen
    go_enter Tryd.func29, Tryd.ntmps29
    go_wp2
    go_ret
    exact ⟨rfl, below_self _⟩
end Go.Proofs.YtcmmjidheglmdaaDoor
