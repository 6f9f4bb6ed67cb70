/- The contract of readNumber. -/
import Derived.Test.YtnnjegohoejlbaaDoorAdWalkA
import Derived.Test.YtnnjegohoejlbaaDoorAdStrMath
import Derived.WalkLawsBesides
import Derived.Deep.DeepCutAuto
namespace Go.Proofs.YtnnjegohoejlbaaDoor
open Go.RowKit

theorem drop_cons (s : ByteArray) (k : Nat) (h : k < s.size) : s.data.toList.drop k = s[k] :: s.data.toList.drop (k + 1) := by
  rw [List.drop_eq_getElem_cons (by simpa using h)]; rfl

set_option maxHeartbeats 1000000 in
theorem readNumber (s : ByteArray) (most : Int) (w : World) (hm0 : 0 ≤ most) (hm1 : most ≤ 255) (hs : s.size ≤ 281474976710656) :
    Calls Tryd.prog 42 #[.string s, .int .i64 most] w fun e w' => e = .returned (.tuple #[.int .i64 (Bur.rdV most s.data.toList), .bool (Bur.rdB most s.data.toList)]) ∧ w' = w := by
  go_enter Tryd.func42, Tryd.ntmps42
  go_upto_region 1 with fail
  go_cut [19] (fun t wx => t = .bool (Bur.bad s.data.toList) ∧ wx = w)
  case first =>
    by_cases h0 : s.size = 0
    · have hl : s.data.toList = [] := by apply List.eq_nil_of_length_eq_zero; simpa using h0
      have h1 : s.toList.isEmpty = true := by rw [ByteArray.toList_eq, hl]; rfl
      go_wp2_with fail
      go_meet
      case rel => exact ⟨by simp [Bur.bad, hl], rfl⟩
    · have hp : 0 < s.size := by omega
      have hl := drop_cons s 0 hp
      rw [List.drop_zero] at hl
      have h1 : s.toList.isEmpty = false := by rw [ByteArray.toList_eq, hl]; rfl
      by_cases h2 : (s[0].toNat : Int) = 48
      · have h3 : ((s[0].toNat : Int) == 48) = true := by simp [h2]
        have h4 : s[0] = 48 := by apply UInt8.toNat_inj.1; show s[0].toNat = 48; omega
        have E : Hid ((!s.toList == [48]) = Bur.bad s.data.toList) := by
          show _ = _
          rw [ByteArray.toList_eq, hl, h4, Bool.eq_iff_iff]
          simp [Bur.bad]
        clear hl h4
        cases h5 : (s.toList == [48])
        all_goals
          rw [h5] at E
          go_wp2_with fail
          go_meet
          case rel => exact ⟨by rw [← E.out]; rfl, rfl⟩
      · have h3 : ((s[0].toNat : Int) == 48) = false := by simp [h2]
        have E : Hid (Bur.bad s.data.toList = false) := by
          show _ = _
          rw [hl]
          have : s[0] ≠ 48 := by intro e; rw [e] at h2; exact h2 rfl
          simp [Bur.bad, this]
        clear hl
        go_wp2_with fail
        go_meet
        case rel => exact ⟨by rw [E.out], rfl⟩
  case rest =>
  obtain ⟨rfl, rfl⟩ := hcut
  cases hb : Bur.bad s.data.toList
  · have E1 : Hid (Bur.rdV most s.data.toList = (Bur.rdGo most 0 (s.data.toList.drop 0)).getD 0) := by show _ = _; unfold Bur.rdV; rw [Bur.rd_good hb]; rfl
    have E2 : Hid (Bur.rdB most s.data.toList = (Bur.rdGo most 0 (s.data.toList.drop 0)).isSome) := by show _ = _; unfold Bur.rdB; rw [Bur.rd_good hb]; rfl
    clear hb
    go_wp2
    go_loop [6, 7, 8, 22] (fun n _ _ i => ∃ (k : Nat) (m : Int), k ≤ s.size ∧ 0 ≤ m ∧ m ≤ most ∧ i = .int .i64 k ∧ n = .int .i64 m ∧ Bur.rdV most s.data.toList = (Bur.rdGo most m (s.data.toList.drop k)).getD 0 ∧ Bur.rdB most s.data.toList = (Bur.rdGo most m (s.data.toList.drop k)).isSome) (fun _ _ _ i => s.size - (intOf i).toNat)
    case atStart => exact ⟨0, 0, by omega, by omega, hm0, rfl, rfl, E1.out, E2.out⟩
    case round =>
      obtain ⟨k, m, hk, m0, m1, rfl, rfl, r1, r2⟩ := hrel
      have R1 : Hid _ := r1
      have R2 : Hid _ := r2
      clear r1 r2 E1 E2
      by_cases hlt : k < s.size
      · have hd : Hid _ := drop_cons s k hlt
        have hc : s[k].toNat < 256 := s[k].toNat_lt
        by_cases c1 : s[k].toNat < 48
        · have c1' : (s[k].toNat : Int) < 48 := by omega
          go_wp2
          go_ret2
          rw [R1.out, R2.out, hd.out, Bur.rdGo_no (Or.inl c1)]
          exact ⟨rfl, rfl⟩
        by_cases c2 : 57 < s[k].toNat
        · have c2' : 57 < (s[k].toNat : Int) := by omega
          have c1' : ¬ (s[k].toNat : Int) < 48 := by omega
          go_wp2
          go_ret2
          rw [R1.out, R2.out, hd.out, Bur.rdGo_no (Or.inr c2)]
          exact ⟨rfl, rfl⟩
        have c1' : ¬ (s[k].toNat : Int) < 48 := by omega
        have c2' : ¬ 57 < (s[k].toNat : Int) := by omega
        by_cases c3 : most < 10 * m + ((s[k].toNat : Int) - 48)
        · go_wp2
          go_ret2
          rw [R1.out, R2.out, hd.out, Bur.rdGo_big (by omega) (by omega) c3]
          exact ⟨rfl, rfl⟩
        · go_wp2
          refine ⟨⟨k + 1, 10 * m + ((s[k].toNat : Int) - 48), by omega, by omega, by omega, by go_num, rfl, ?_, ?_⟩, by simp [intOf]; omega⟩
          · rw [R1.out, hd.out, Bur.rdGo_on (by omega) (by omega) c3]
          · rw [R2.out, hd.out, Bur.rdGo_on (by omega) (by omega) c3]
      · go_wp2
        go_ret2
        have e : s.data.toList.drop k = [] := List.drop_of_length_le (by simp; omega)
        rw [R1.out, R2.out, e]
        exact ⟨rfl, rfl⟩
  · have E1 : Hid (Bur.rdV most s.data.toList = 0) := by show _ = _; unfold Bur.rdV; rw [Bur.rd_bad hb]; rfl
    have E2 : Hid (Bur.rdB most s.data.toList = false) := by show _ = _; unfold Bur.rdB; rw [Bur.rd_bad hb]; rfl
    go_wp2
    go_ret2
    rw [E1.out, E2.out]
    exact ⟨rfl, rfl⟩

/-- Four bytes. -/
abbrev oct (a b c d : Int) : Value := .agg #[.int .u8 a, .int .u8 b, .int .u8 c, .int .u8 d]
abbrev ocs (a b c d : Int) : Obj := .cells #[.int .u8 a, .int .u8 b, .int .u8 c, .int .u8 d] 64

theorem idx (a b c d : Int) : (∀ w, (Instr.index 64 (oct a b c d) (.int .i64 0)).run Tryd.prog w = .ok (.int .u8 a) w) ∧ (∀ w, (Instr.index 64 (oct a b c d) (.int .i64 1)).run Tryd.prog w = .ok (.int .u8 b) w) ∧
    (∀ w, (Instr.index 64 (oct a b c d) (.int .i64 2)).run Tryd.prog w = .ok (.int .u8 c) w) ∧ (∀ w, (Instr.index 64 (oct a b c d) (.int .i64 3)).run Tryd.prog w = .ok (.int .u8 d) w) :=
  ⟨fun _ => by kernel_rfl, fun _ => by kernel_rfl, fun _ => by kernel_rfl, fun _ => by kernel_rfl⟩

set_option maxHeartbeats 1000000 in
theorem join (a b c d : Int) (w : World) (a0 : 0 ≤ a) (a1 : a ≤ 255) (b0 : 0 ≤ b) (b1 : b ≤ 255) (c0 : 0 ≤ c) (c1 : c ≤ 255) (d0 : 0 ≤ d) (d1 : d ≤ 255) :
    Calls Tryd.prog 31 #[oct a b c d] w fun e w' => e = .returned (.int .i64 (((a * 256 + b) * 256 + c) * 256 + d)) ∧ w' = w.alloc (ocs a b c d) := by
  obtain ⟨i0, i1, i2, i3⟩ := idx a b c d
  go_enter Tryd.func31, Tryd.ntmps31
  go_wp2
  refine wp_loop_rounds 5 ?_
  have o0 := Bur.or_zero a a0 a1
  have o1 := Bur.or_byte a b a0 (by omega) b0 b1
  have o2 := Bur.or_byte (a * 256 + b) c (by omega) (by omega) c0 c1
  have o3 := Bur.or_byte ((a * 256 + b) * 256 + c) d (by omega) (by omega) d0 d1
  rw [rounds_succ]
  go_wp2
  rw [rounds_succ]
  go_wp2
  rw [rounds_succ]
  go_wp2
  rw [rounds_succ]
  go_wp2
  rw [rounds_succ]
  go_wp2
  go_ret
  exact ⟨rfl, rfl⟩

/-- The four bytes of an address. -/
theorem split (a : Int) (w : World) (ha : Bur.isA a = true) :
    Calls Tryd.prog 35 #[.int .i64 a] w fun e w' => e = .returned (oct (a / 16777216) (a / 65536 % 256) (a / 256 % 256) (a % 256)) ∧ Below w.heap.size w w' := by
  obtain ⟨a0, a1⟩ := Bur.isA_true ha
  go_enter Tryd.func35, Tryd.ntmps35
  go_wp2
  refine wp_loop_rounds 5 ?_
  rw [rounds_succ]
  go_wp2
  rw [rounds_succ]
  go_wp2
  rw [rounds_succ]
  go_wp2
  rw [rounds_succ]
  go_wp2
  rw [rounds_succ]
  go_wp2
  exact bodyPost_ret (v := oct (a / 16777216) (a / 65536 % 256) (a / 256 % 256) (a % 256)) (by simp [results, Tryd.results35, go_sem]) rfl ⟨rfl, below_al (below_al (below_self _) _) _⟩
end Go.Proofs.YtnnjegohoejlbaaDoor
