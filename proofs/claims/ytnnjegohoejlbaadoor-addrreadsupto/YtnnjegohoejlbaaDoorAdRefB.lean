/- The contract of Small. -/
import Derived.Test.YtnnjegohoejlbaaDoorAdRefA
import Derived.Test.YtnnjegohoejlbaaDoorAdSmallMath
namespace Go.Proofs.YtnnjegohoejlbaaDoor
open Go.RowKit

set_option maxHeartbeats 1000000 in
theorem refSmallB (s : ByteArray) (w : World) (hs : s.size ≤ 281474976710656) : Calls Tryd.prog 29 #[.string s] w fun e w' => e = .returned (.int .i64 (Bur.sm s.data.toList)) ∧ w' = w := by
  have hlen : s.data.toList.length = s.size := by simp
  go_enter Tryd.func29, Tryd.ntmps29
  go_upto_region 1 with fail
  go_cut [22] (fun t wx => t = .bool (Bur.smBad s.data.toList) ∧ wx = w)
  case first =>
    by_cases h0 : s.size < 1
    · have h0' : (s.size : Int) < 1 := by omega
      have E : Hid (Bur.smBad s.data.toList = true) := by show _ = _; unfold Bur.smBad; rw [hlen]; simp [h0]
      clear hlen
      go_wp2_with fail
      go_meet
      case rel => exact ⟨by rw [E.out], rfl⟩
    by_cases h1 : 3 < s.size
    · have h1' : (3 : Int) < (s.size : Int) := by omega
      have h0' : ¬ (s.size : Int) < 1 := by omega
      have E : Hid (Bur.smBad s.data.toList = true) := by show _ = _; unfold Bur.smBad; rw [hlen]; simp [h1]
      clear hlen
      go_wp2_with fail
      go_meet
      case rel => exact ⟨by rw [E.out], rfl⟩
    have h0' : ¬ (s.size : Int) < 1 := by omega
    have h1' : ¬ (3 : Int) < (s.size : Int) := by omega
    by_cases h2 : 1 < s.size
    · have h2' : (1 : Int) < (s.size : Int) := by omega
      have hp : 0 < s.size := by omega
      have hl := drop_cons s 0 hp
      rw [List.drop_zero] at hl
      cases h3 : ((s[0].toNat : Int) == 48)
      · have E : Hid (Bur.smBad s.data.toList = false) := by
          show _ = _
          have : s[0] ≠ 48 := by intro e; rw [e] at h3; simp at h3
          unfold Bur.smBad
          rw [hlen]
          apply decide_eq_false
          rintro (h | h | ⟨_, h⟩)
          · omega
          · omega
          · rw [hl] at h
            exact this (Option.some.inj h)
        clear hlen hl
        go_wp2_with fail
        go_meet
        case rel => exact ⟨by rw [E.out], rfl⟩
      · have E : Hid (Bur.smBad s.data.toList = true) := by
          show _ = _
          have : s[0] = 48 := by apply UInt8.toNat_inj.1; show s[0].toNat = 48; simp at h3; omega
          unfold Bur.smBad
          rw [hlen, hl]
          simp [this]
          omega
        clear hlen hl
        go_wp2_with fail
        go_meet
        case rel => exact ⟨by rw [E.out], rfl⟩
    · have h2' : ¬ (1 : Int) < (s.size : Int) := by omega
      have E : Hid (Bur.smBad s.data.toList = false) := by
        show _ = _; unfold Bur.smBad; rw [hlen]; exact decide_eq_false (by omega)
      clear hlen
      go_wp2_with fail
      go_meet
      case rel => exact ⟨by rw [E.out], rfl⟩
  case rest =>
  obtain ⟨rfl, rfl⟩ := hcut
  cases hb : Bur.smBad s.data.toList
  · have h3 : s.size ≤ 3 := by
      unfold Bur.smBad at hb
      simp only [decide_eq_false_iff_not, not_or] at hb
      omega
    have E1 : Hid (Bur.sm s.data.toList = Bur.smGo 0 (s.data.toList.drop 0)) := by show _ = _; unfold Bur.sm; rw [hb]; rfl
    clear hb hlen
    go_wp2
    go_loop [3, 4] (fun n i => ∃ (k : Nat) (m : Int), k ≤ s.size ∧ 0 ≤ m ∧ m < 10 ^ k ∧ i = .int .i64 k ∧ n = .int .i64 m ∧ Bur.sm s.data.toList = Bur.smGo m (s.data.toList.drop k)) (fun _ i => s.size - (intOf i).toNat)
    case atStart => exact ⟨0, 0, by omega, by omega, by decide, rfl, rfl, E1.out⟩
    case round =>
      obtain ⟨k, m, hk, m0, m1, rfl, rfl, r1⟩ := hrel
      have R1 : Hid _ := r1
      have M1 : Hid _ := m1
      have m2 : m < 1000 := by
        have : (10 : Int) ^ k ≤ 10 ^ 3 := by
          rw [show (3 : Nat) = k + (3 - k) from by omega, Int.pow_add]
          have h1 : (0 : Int) < 10 ^ k := Int.pow_pos (by decide)
          have h2 : (0 : Int) < 10 ^ (3 - k) := Int.pow_pos (by decide)
          have := Int.mul_le_mul_of_nonneg_left (show (1 : Int) ≤ 10 ^ (3 - k) from h2) (Int.le_of_lt h1)
          omega
        have e : (10 : Int) ^ 3 = 1000 := by decide
        omega
      clear r1 m1 E1
      by_cases hlt : k < s.size
      · have hd : Hid _ := drop_cons s k hlt
        have hc : s[k].toNat < 256 := s[k].toNat_lt
        by_cases c1 : s[k].toNat < 48
        · have c1' : (s[k].toNat : Int) < 48 := by omega
          go_wp2
          go_ret
          rw [R1.out, hd.out]
          simp only [Bur.smGo]
          rw [if_neg (by omega)]
          exact ⟨rfl, trivial⟩
        by_cases c2 : 57 < s[k].toNat
        · have c2' : 57 < (s[k].toNat : Int) := by omega
          have c1' : ¬ (s[k].toNat : Int) < 48 := by omega
          go_wp2
          go_ret
          rw [R1.out, hd.out]
          simp only [Bur.smGo]
          rw [if_neg (by omega)]
          exact ⟨rfl, trivial⟩
        have c1' : ¬ (s[k].toNat : Int) < 48 := by omega
        have c2' : ¬ 57 < (s[k].toNat : Int) := by omega
        go_wp2
        refine ⟨⟨k + 1, m * 10 + (s[k].toNat : Int) - 48, by omega, by omega, ?_, by go_num, rfl, ?_⟩, by simp [intOf]; omega⟩
        · have := M1.out; rw [Int.pow_succ]; omega
        · rw [R1.out, hd.out]
          simp only [Bur.smGo]
          rw [if_pos ⟨by omega, by omega⟩]
      · go_wp2
        go_ret
        have e : s.data.toList.drop k = [] := List.drop_of_length_le (by simp; omega)
        rw [R1.out, e]
        exact ⟨rfl, rfl⟩
  · have E1 : Hid (Bur.sm s.data.toList = -1) := if_pos hb
    clear hlen
    go_wp2
    go_ret
    rw [E1.out]
    exact ⟨rfl, rfl⟩
theorem refSmall (l : List UInt8) (w : World) (hl : l.length < 4294967281) : Calls Tryd.prog 29 #[.string ⟨l.toArray⟩] w fun e w' => e = .returned (.int .i64 (Bur.sm l)) ∧ w' = w :=
  refSmallB ⟨l.toArray⟩ w (by simp [ByteArray.size]; omega)
end Go.Proofs.YtnnjegohoejlbaaDoor
