/- The contract of the reference's unhex. -/
import Derived.Test.YtdjiodikefoliaaDoorCPkB
namespace Bur
/-- Which of the first m hex digits a byte is; -1: none. -/
def fndc (b : UInt8) (m : Int) : Int := match hxv b with
  | some v => if v < m then v else -1
  | none => -1
theorem hd_of {b : UInt8} {m : Nat} (h : hxv b = some (m : Int)) : hd m = b := by
  have hb := b.toNat_lt
  unfold hxv at h
  apply UInt8.toNat_inj.1
  unfold hd
  split at h
  · have := Option.some.inj h
    rw [if_pos (by omega), UInt8.toNat_ofNat']
    omega
  · split at h
    · have := Option.some.inj h
      rw [if_neg (by omega), UInt8.toNat_ofNat']
      omega
    · cases h
theorem fndc_hit {b : UInt8} {m : Nat} (hm : m < 16) (h : hd m = b) : fndc b (m + 1) = m := by
  unfold fndc
  rw [← h, hxv_hd hm]
  simp only
  rw [if_pos (by omega)]
theorem fndc_miss {b : UInt8} {m : Nat} (h : hd m ≠ b) : fndc b (m + 1) = fndc b m := by
  unfold fndc
  cases e : hxv b with
  | none => rfl
  | some v =>
    simp only
    have h0 := (hxv_bd e).1
    have hne : v ≠ m := fun q => h (hd_of (by rw [e, q]))
    by_cases c : v < m
    · rw [if_pos (by omega), if_pos c]
    · rw [if_neg (by omega), if_neg c]
theorem fndc_0 (b : UInt8) : fndc b 0 = -1 := by
  unfold fndc
  cases e : hxv b with
  | none => rfl
  | some v =>
    have := (hxv_bd e).1
    simp only
    rw [if_neg (by omega)]
theorem fndc_16 (b : UInt8) : (hxv b = none ∧ fndc b 16 = -1) ∨ ∃ v, hxv b = some v ∧ fndc b 16 = v ∧ 0 ≤ v ∧ v ≤ 15 := by
  unfold fndc
  cases e : hxv b with
  | none => exact .inl ⟨rfl, rfl⟩
  | some v =>
    have := hxv_bd e
    exact .inr ⟨v, rfl, by simp only; rw [if_pos (by omega)], this.1, this.2⟩
def uhx (l : List UInt8) : Int := if l.length = 8 then (rx hxv 16 0 l).getD (-1) else -1
end Bur
namespace Go.Proofs.YtdjiodikefoliaaDoor.Pa
open Go.RowKit

set_option maxHeartbeats 1000000 in
set_option maxRecDepth 100000 in
theorem refUnhex (s : ByteArray) (w : World) : Calls Tryd.prog 29 #[.string s] w fun e w' => e = .returned (.int .i64 (Bur.uhx s.data.toList)) ∧ Below w.heap.size w w' := by
  have hsz : s.data.toList.length = s.size := by simp
  unfold Bur.uhx
  rw [hsz]
  by_cases h8 : s.size = 8
  · rw [if_pos h8]
    obtain ⟨R, hR⟩ : ∃ R, R = (Bur.rx Bur.hxv 16 0 s.data.toList).getD (-1) := ⟨_, rfl⟩
    have hR0 : Hid (R = (Bur.rx Bur.hxv 16 0 (s.data.toList.drop 0)).getD (-1)) := hR
    rw [← hR]
    have h8' : (s.size : Int) ≤ 8 := by omega
    have h8'' : (8 : Int) ≤ (s.size : Int) := by omega
    have hne : ((s.size : Int) == 8) = true := by simp [h8]
    clear hR hsz
    go_enter Tryd.func29, Tryd.ntmps29
    go_wp2
    go_loopw [3, 4, 5, 6] (fun a i _ _ wr => ∃ (k : Nat) (n : Int), k ≤ 8 ∧ i = .int .i64 k ∧ a = .int .i64 n ∧ 0 ≤ n ∧ Hid (n < 16 ^ k) ∧ Hid (R = (Bur.rx Bur.hxv 16 n (s.data.toList.drop k)).getD (-1)) ∧ Below w.heap.size w wr) (fun _ i _ _ _ => 8 - (intOf i).toNat)
    case atStart => exact ⟨0, 0, by omega, rfl, rfl, by omega, by show (0 : Int) < 16 ^ 0; decide, hR0, below_self _⟩
    case round =>
      obtain ⟨k, n, hk, rfl, rfl, n0, n1, hM, hb⟩ := hrel
      clear hR0
      by_cases hlt : k < 8
      · have hlt' : (k : Int) < 8 := by omega
        have hls : k < s.size := by omega
        have hls' : (k : Int) < (s.size : Int) := by omega
        have nb : n ≤ 268435455 := by
          have h1 := n1.out
          have h2 : (16 : Int) ^ k ≤ 16 ^ 7 := by
            have : (16 : Nat) ^ k ≤ 16 ^ 7 := Nat.pow_le_pow_right (by decide) (by omega)
            exact_mod_cast this
          have h3 : (16 : Int) ^ 7 = 268435456 := by decide
          omega
        have hd := Bur.drop_at s k hls
        have hb256 : s[k].toNat < 256 := s[k].toNat_lt
        go_wp2_with fail
        go_loopw [5, 6] (fun d j wr => ∃ (m : Nat) (dv : Int), m ≤ 16 ∧ j = .int .i64 m ∧ d = .int .i64 dv ∧ Hid (dv = Bur.fndc s[k] m) ∧ Below w.heap.size w wr) (fun _ j _ => 16 - (intOf j).toNat)
        case atStart => exact ⟨0, -1, by omega, rfl, rfl, (Bur.fndc_0 _).symm, hb⟩
        case round =>
          clear hb
          obtain ⟨m, dv, hm, rfl, rfl, hdv, hb⟩ := hrel
          by_cases hmt : m < 16
          · have hmt' : (m : Int) < 16 := by omega
            have hix := hidx m hmt
            have hd256 : (Bur.hd m).toNat < 256 := (Bur.hd m).toNat_lt
            cases hc : (((Bur.hd m).toNat : Int) == (s[k].toNat : Int)) with
            | true =>
              have heq : Bur.hd m = s[k] := by apply UInt8.toNat_inj.1; simp at hc; omega
              have hdv2 : Hid ((m : Int) = Bur.fndc s[k] ((m + 1 : Nat) : Int)) := by show _ = _; rw [show ((m + 1 : Nat) : Int) = (m : Int) + 1 from by omega, Bur.fndc_hit hmt heq]
              clear hdv heq hd hM n1
              go_wp2
              go_quiet (fail)
              go_wp2
              exact ⟨⟨m + 1, m, by omega, by go_num, rfl, hdv2, below_drewN hb _⟩, by simp [intOf]; omega⟩
            | false =>
              have hneq : Bur.hd m ≠ s[k] := fun e => by rw [e] at hc; simp at hc
              have hdv2 : Hid (dv = Bur.fndc s[k] ((m + 1 : Nat) : Int)) := by show _ = _; rw [show ((m + 1 : Nat) : Int) = (m : Int) + 1 from by omega, Bur.fndc_miss hneq, hdv.out]
              clear hdv hneq hd hM n1
              go_wp2
              go_quiet (fail)
              go_wp2
              exact ⟨⟨m + 1, dv, by omega, by go_num, rfl, hdv2, below_drewN hb _⟩, by simp [intOf]; omega⟩
          · have hmt' : ¬ (m : Int) < 16 := by omega
            have hm16 : ((m : Nat) : Int) = 16 := by omega
            have hdv' := hdv.out
            rw [hm16] at hdv'
            rcases Bur.fndc_16 s[k] with ⟨e1, e2⟩ | ⟨v, e1, e2, v0, v1⟩
            · have hdn : dv = -1 := by rw [hdv', e2]
              subst hdn
              have hRn : Hid (R = -1) := by show _ = _; rw [hM.out, hd, Bur.rx_no e1]; rfl
              clear hdv hdv' e1 e2 hM hd n1 hm16
              go_wp2
              go_ret
              exact ⟨by rw [hRn.out]; rfl, hb⟩
            · have hdn : dv = v := by rw [hdv', e2]
              subst hdn
              have hM2 : Hid (R = (Bur.rx Bur.hxv 16 (n * 16 + dv) (s.data.toList.drop (k + 1))).getD (-1)) := by show _ = _; rw [hM.out, hd, Bur.rx_on e1]
              have n2 : Hid (n * 16 + dv < 16 ^ (k + 1)) := by
                have h1 := n1.out
                show _ < _
                rw [Int.pow_succ]; omega
              clear hdv hdv' e1 e2 hM hd n1 hm16
              go_wp2
              exact ⟨⟨k + 1, n * 16 + dv, by omega, by go_num, rfl, by omega, n2, hM2, hb⟩, by simp [intOf]; omega⟩
      · have hlt' : ¬ (k : Int) < 8 := by omega
        have hRn : Hid (R = n) := by show _ = _; rw [hM.out, List.drop_of_length_le (by simp; omega)]; rfl
        clear hM n1
        go_wp2
        go_ret
        exact ⟨by rw [hRn.out]; rfl, hb⟩
  · rw [if_neg h8]
    have hne : ((s.size : Int) == 8) = false := beq_eq_false_iff_ne.2 (by omega)
    go_enter Tryd.func29, Tryd.ntmps29
    go_wp2
    go_ret
    exact ⟨rfl, below_self _⟩
end Go.Proofs.YtdjiodikefoliaaDoor.Pa
