/- The contract of the reference's ChangesFault. -/
import Derived.Test.YtcmmjidheglmdaaDoorCdSame
import Derived.Test.YtcmmjidheglmdaaDoorVsRefA
import Derived.Laws.Cover1
namespace Vs
/-- The key ahead. -/
def prv (l : List Chg) : Nat → Option ByteArray
  | 0 => none
  | k + 1 => l[k]?.map (·.k)
theorem chG_step {l : List Chg} {k : Nat} {x : Chg} (hx : l[k]? = some x) : chG (prv l k) (l.drop k) = if chW x = true ∨ (∃ y, prv l k = some y ∧ bl y x.k = false) then 2 else chG (prv l (k + 1)) (l.drop (k + 1)) := by
  rw [drop_ch hx, show prv l (k + 1) = some x.k from by simp [prv, hx]]
  cases e : prv l k with
  | none => rw [chG]; simp
  | some y => rw [chG]; simp
theorem bl_le (a b : ByteArray) : (Go.Op.bytesLess a.toList b.toList || a.toList == b.toList) = !(bl b a) := by
  rw [show Go.Op.bytesLess a.toList b.toList = bl a b from rfl, beq_str]
  cases h1 : bl a b
  · cases h2 : bl b a
    · simpa using bl_tri h1 h2
    · have : ¬ a = b := fun e => by rw [e, bl_irr] at h2; cases h2
      simpa using this
  · cases h2 : bl b a
    · rfl
    · have := bl_trans h1 h2
      rw [bl_irr] at this; cases this
theorem chG_nil {p : Option ByteArray} : chG p [] = 0 := by cases p <;> rfl
end Vs
namespace Go.Proofs.YtcmmjidheglmdaaDoor
open Go.RowKit

set_option maxHeartbeats 2000000 in
theorem changesFault (l : List Vs.Chg) (p : Option Addr) (cp : Nat) (w : World) (hl : l.length ≤ 9223372036854775807) (hp : ChAt w p l) :
    Calls Tryd.prog 21 #[.slice p l.length cp] w fun e w' => e = .returned (.int .i64 (Vs.chF l)) ∧ Below w.heap.size w w' := by
  by_cases hlen : 20 < l.length
  · rw [show Vs.chF l = 3 from by unfold Vs.chF; rw [if_pos hlen]]
    have hlen' : (20 : Int) < (l.length : Int) := by omega
    go_enter Tryd.func21, Tryd.ntmps21
    go_wp2
    go_ret
    exact ⟨rfl, below_self _⟩
  obtain ⟨R, hR⟩ : ∃ R, R = Vs.chF l := ⟨_, rfl⟩
  rw [← hR]
  replace hR : Hid (R = Vs.chG (Vs.prv l 0) (l.drop 0)) := by show _ = _; rw [hR]; unfold Vs.chF; rw [if_neg hlen]; rfl
  have hlen' : ¬ (20 : Int) < (l.length : Int) := by omega
  go_enter Tryd.func21, Tryd.ntmps21
  go_wp2
  go_loopw [3] (fun i wr => ∃ (k : Nat), k ≤ l.length ∧ i = .int .i64 k ∧ Hid (R = Vs.chG (Vs.prv l k) (l.drop k)) ∧ Below w.heap.size w wr) (fun i _ => l.length - (intOf i).toNat)
  case atStart => exact ⟨0, by omega, rfl, hR, below_self _⟩
  case round =>
    obtain ⟨k, hk, rfl, hM, hb⟩ := hrel
    by_cases hlt : k < l.length
    · have hlt' : (k : Int) < (l.length : Int) := by omega
      obtain ⟨b1, o1, rfl, hb1, hc1⟩ := hp (by omega)
      obtain ⟨x, hx⟩ := Vs.chsome hlt
      obtain ⟨d0, d1, d2⟩ := hc1 k x hx
      have e0 := (hb.cell (p := ⟨b1, o1 + k * 3, none⟩) hb1).trans d0
      have e1 := (hb.cell (p := ⟨b1, o1 + k * 3 + 1, none⟩) hb1).trans d1
      have e2 := (hb.cell (p := ⟨b1, o1 + k * 3 + 2, none⟩) hb1).trans d2
      have hD := Vs.chG_step hx
      rw [← hM.out] at hD
      replace hD : Hid _ := hD
      have hP : Hid (∀ y, Vs.prv l k = some y → ∃ j, k = j + 1 ∧ w.cell? ⟨b1, o1 + j * 3, none⟩ = some (.string y)) := by
        intro y hy
        cases k with
        | zero => cases hy
        | succ j =>
          refine ⟨j, rfl, ?_⟩
          simp only [Vs.prv, Option.map_eq_some_iff] at hy
          obtain ⟨z, hz, rfl⟩ := hy
          exact (hc1 j z hz).1
      have KF := fun W => keyFault x.k x.v W
      clear hM hR hp hc1 d0 d1 d2 hx
      by_cases hF : Vs.shF x.k x.v = 0
      · rw [hF] at KF
        cases hg : x.g
        · rw [hg] at e2
          have hW : Vs.chW x = false := by simp [Vs.chW, hF, hg]
          cases hq : Vs.prv l k with
          | none =>
            have E : Hid (R = Vs.chG (Vs.prv l (k + 1)) (l.drop (k + 1))) := by
              show _ = _
              rw [hD.out, if_neg (by rw [hW, hq]; simp)]
            have hk0 : k = 0 := by
              cases k with
              | zero => rfl
              | succ j => simp [Vs.prv, List.getElem?_eq_getElem (show j < l.length by omega)] at hq
            have hk0' : decide (0 < k) = false := by simp; omega
            clear hD hP hW hF hq hk0
            go_wp2
            go_quiet ((go_at_call 34; exact Calls.quiet_of_same (KF _)))
            clear KF
            go_wp2
            go_quiet (fail)
            go_wp2
            exact ⟨⟨k + 1, by omega, by go_num, E, below_drewN hb _⟩, by simp [intOf]; omega⟩
          | some y =>
            obtain ⟨j, hj, hy⟩ := hP.out y hq
            have e3 := (hb.cell (p := ⟨b1, o1 + j * 3, none⟩) hb1).trans hy
            have hk0' : decide (0 < k) = true := by simp; omega
            have hjj : (k : Int) - 1 = (j : Int) := by omega
            have hle := Vs.bl_le x.k y
            cases g1 : Op.bytesLess x.k.toList y.toList
            · cases g2 : (x.k.toList == y.toList)
              · have g : Vs.bl y x.k = true := by rw [g1, g2] at hle; simpa using hle
                have E : Hid (R = Vs.chG (Vs.prv l (k + 1)) (l.drop (k + 1))) := by
                  show _ = _
                  rw [hD.out, if_neg (by rw [hW, hq]; simp only [Bool.false_eq_true, Option.some.injEq, false_or, not_exists]; rintro z ⟨rfl, h⟩; rw [g] at h; cases h)]
                clear g
                clear hD hP hW hF hq hy hj hle
                go_wp2
                go_quiet ((go_at_call 34; exact Calls.quiet_of_same (KF _)))
                clear KF
                go_wp2
                go_quiet (fail)
                go_wp2
                exact ⟨⟨k + 1, by omega, by go_num, E, below_drewN hb _⟩, by simp [intOf]; omega⟩
              · have g : Vs.bl y x.k = false := by rw [g1, g2] at hle; simpa using hle
                have E : Hid (R = 2) := by show _ = _; rw [hD.out, if_pos (.inr ⟨y, hq, g⟩)]
                clear g
                clear hD hP hW hF hq hy hj hle
                go_wp2
                go_quiet ((go_at_call 34; exact Calls.quiet_of_same (KF _)))
                clear KF
                go_wp2
                go_quiet (fail)
                go_wp2
                go_ret
                exact ⟨by rw [E.out]; rfl, below_drewN (below_drewN hb _) _⟩
            · have g : Vs.bl y x.k = false := by rw [g1] at hle; simpa using hle
              have E : Hid (R = 2) := by show _ = _; rw [hD.out, if_pos (.inr ⟨y, hq, g⟩)]
              clear g
              clear hD hP hW hF hq hy hj hle
              go_wp2
              go_quiet ((go_at_call 34; exact Calls.quiet_of_same (KF _)))
              clear KF
              go_wp2
              go_quiet (fail)
              go_wp2
              go_ret
              exact ⟨by rw [E.out]; rfl, below_drewN (below_drewN hb _) _⟩
        · rw [hg] at e2
          by_cases hv : 0 < x.v.size
          · have hW : Vs.chW x = true := by simp [Vs.chW, hg, hv]
            have hv' : decide (0 < x.v.size) = true := decide_eq_true hv
            have E : Hid (R = 2) := by show _ = _; rw [hD.out, if_pos (.inl hW)]
            clear hD hP hW hF hg
            go_wp2
            go_quiet ((go_at_call 34; exact Calls.quiet_of_same (KF _)))
            clear KF
            go_wp2
            go_quiet (fail)
            go_wp2
            go_ret
            exact ⟨by rw [E.out]; rfl, below_drewN (below_drewN hb _) _⟩
          · have hW : Vs.chW x = false := by simp [Vs.chW, hF, hv]
            have hv' : decide (0 < x.v.size) = false := decide_eq_false hv
            cases hq : Vs.prv l k with
            | none =>
              have E : Hid (R = Vs.chG (Vs.prv l (k + 1)) (l.drop (k + 1))) := by
                show _ = _
                rw [hD.out, if_neg (by rw [hW, hq]; simp)]
              have hk0 : k = 0 := by
                cases k with
                | zero => rfl
                | succ j => simp [Vs.prv, List.getElem?_eq_getElem (show j < l.length by omega)] at hq
              have hk0' : decide (0 < k) = false := by simp; omega
              clear hD hP hW hF hq hk0
              go_wp2
              go_quiet ((go_at_call 34; exact Calls.quiet_of_same (KF _)))
              clear KF
              go_wp2
              go_quiet (fail)
              go_wp2
              exact ⟨⟨k + 1, by omega, by go_num, E, below_drewN hb _⟩, by simp [intOf]; omega⟩
            | some y =>
              obtain ⟨j, hj, hy⟩ := hP.out y hq
              have e3 := (hb.cell (p := ⟨b1, o1 + j * 3, none⟩) hb1).trans hy
              have hk0' : decide (0 < k) = true := by simp; omega
              have hjj : (k : Int) - 1 = (j : Int) := by omega
              have hle := Vs.bl_le x.k y
              cases g1 : Op.bytesLess x.k.toList y.toList
              · cases g2 : (x.k.toList == y.toList)
                · have g : Vs.bl y x.k = true := by rw [g1, g2] at hle; simpa using hle
                  have E : Hid (R = Vs.chG (Vs.prv l (k + 1)) (l.drop (k + 1))) := by
                    show _ = _
                    rw [hD.out, if_neg (by rw [hW, hq]; simp only [Bool.false_eq_true, Option.some.injEq, false_or, not_exists]; rintro z ⟨rfl, h⟩; rw [g] at h; cases h)]
                  clear g
                  clear hD hP hW hF hq hy hj hle
                  go_wp2
                  go_quiet ((go_at_call 34; exact Calls.quiet_of_same (KF _)))
                  clear KF
                  go_wp2
                  go_quiet (fail)
                  go_wp2
                  exact ⟨⟨k + 1, by omega, by go_num, E, below_drewN hb _⟩, by simp [intOf]; omega⟩
                · have g : Vs.bl y x.k = false := by rw [g1, g2] at hle; simpa using hle
                  have E : Hid (R = 2) := by show _ = _; rw [hD.out, if_pos (.inr ⟨y, hq, g⟩)]
                  clear g
                  clear hD hP hW hF hq hy hj hle
                  go_wp2
                  go_quiet ((go_at_call 34; exact Calls.quiet_of_same (KF _)))
                  clear KF
                  go_wp2
                  go_quiet (fail)
                  go_wp2
                  go_ret
                  exact ⟨by rw [E.out]; rfl, below_drewN (below_drewN hb _) _⟩
              · have g : Vs.bl y x.k = false := by rw [g1] at hle; simpa using hle
                have E : Hid (R = 2) := by show _ = _; rw [hD.out, if_pos (.inr ⟨y, hq, g⟩)]
                clear g
                clear hD hP hW hF hq hy hj hle
                go_wp2
                go_quiet ((go_at_call 34; exact Calls.quiet_of_same (KF _)))
                clear KF
                go_wp2
                go_quiet (fail)
                go_wp2
                go_ret
                exact ⟨by rw [E.out]; rfl, below_drewN (below_drewN hb _) _⟩
      · have hF2 : Vs.shF x.k x.v = 2 := by
          by_cases h : x.k.size < 1 ∨ 24 < x.k.size ∨ 12 < x.v.size
          · unfold Vs.shF; rw [if_pos h]
          · exact absurd (by unfold Vs.shF; rw [if_neg h]) hF
        rw [hF2] at KF
        have hW : Vs.chW x = true := by simp [Vs.chW, hF]
        have E : Hid (R = 2) := by show _ = _; rw [hD.out, if_pos (.inl hW)]
        clear hD hP hW hF hF2
        go_wp2
        go_quiet ((go_at_call 34; exact Calls.quiet_of_same (KF _)))
        clear KF
        go_wp2
        go_quiet (fail)
        go_wp2
        go_ret
        exact ⟨by rw [E.out]; rfl, below_drewN (below_drewN hb _) _⟩
    · have E : Hid (R = 0) := by
        show _ = _
        rw [hM.out, List.drop_eq_nil_of_le (by omega), Vs.chG_nil]
      clear hM hR hp
      go_wp2
      go_ret
      exact ⟨by rw [E.out]; rfl, hb⟩
end Go.Proofs.YtcmmjidheglmdaaDoor
