/- The contracts of package plot's read and cut. -/
import Derived.Test.YtdokenlljeajmaaDoorPkG
namespace Bur
theorem ix16 : ∀ n : Fin 256, Go.Lib.indexByte [48, 49, 50, 51, 52, 53, 54, 55, 56, 57, 97, 98, 99, 100, 101, 102] (UInt8.ofNat n.val) = (hv (UInt8.ofNat n.val)).getD (-1) := by decide +kernel
theorem ix10 : ∀ n : Fin 256, Go.Lib.indexByte [48, 49, 50, 51, 52, 53, 54, 55, 56, 57] (UInt8.ofNat n.val) = (dv (UInt8.ofNat n.val)).getD (-1) := by decide +kernel
theorem ix_all {P : UInt8 → Prop} (h : ∀ n : Fin 256, P (UInt8.ofNat n.val)) (b : UInt8) : P b := by
  have := h ⟨b.toNat, b.toNat_lt⟩
  simpa using this
/-- What read tells. -/
def rdN (r : Option Int) : Int := r.getD 0
end Bur
namespace Go.Proofs.YtdokenlljeajmaaDoor
open Go.RowKit

set_option maxHeartbeats 2000000 in
set_option maxRecDepth 100000 in
theorem plRead (base : Int) (f : UInt8 → Option Int) (ds : ByteArray) (hb16 : base = 16 ∨ base = 10) (hsl : ∀ w : World, (Instr.slice 9 hexs none (some (.int .i64 base)) none).run Tryd.prog w = .ok (.string ds) w) (hix : ∀ b : UInt8, Lib.indexByte ds.data.toList b = (f b).getD (-1)) (hf : ∀ b d, f b = some d → 0 ≤ d ∧ d < base)
    (s : ByteArray) (w : World) (hs : s.size ≤ 8) : Calls Tryd.prog 22 #[.string s, .int .i64 base] w fun e w' => e = .returned (.tuple #[.int .i64 (Bur.rdN (Bur.rx f base 0 s.data.toList)), .bool (Bur.rx f base 0 s.data.toList).isSome]) ∧ Below w.heap.size w w' := by
  obtain ⟨R, hR⟩ : ∃ R, R = Bur.rx f base 0 s.data.toList := ⟨_, rfl⟩
  have hR0 : Hid (R = Bur.rx f base 0 (s.data.toList.drop 0)) := hR
  rw [← hR]
  have hbb : 2 ≤ base ∧ base ≤ 16 := by omega
  obtain ⟨bb0, bb1⟩ := hbb
  clear hR hb16
  go_enter Tryd.func22, Tryd.ntmps22
  go_wp2
  go_loopw [4, 5, 6, 7, 10] (fun n ok _ _ i wr => ∃ (k : Nat) (m : Int), k ≤ s.size ∧ i = .int .i64 k ∧ n = .int .i64 m ∧ ok = .bool false ∧ 0 ≤ m ∧ Hid (m < 16 ^ k) ∧ Hid (R = Bur.rx f base m (s.data.toList.drop k)) ∧ Below w.heap.size w wr) (fun _ _ _ _ i _ => s.size - (intOf i).toNat)
  case atStart => exact ⟨0, 0, by omega, rfl, rfl, rfl, by omega, by show (0 : Int) < 16 ^ 0; decide, hR0, below_self _⟩
  case round =>
    obtain ⟨k, m, hk, rfl, rfl, rfl, m0, m1, hM, hb⟩ := hrel
    clear hR0
    by_cases hlt : k < s.size
    · have hlt' : (k : Int) < (s.size : Int) := by omega
      have mb : m ≤ 268435455 := by
        have h1 := m1.out
        have h2 : (16 : Int) ^ k ≤ 16 ^ 7 := by
          have : (16 : Nat) ^ k ≤ 16 ^ 7 := Nat.pow_le_pow_right (by decide) (by omega)
          exact_mod_cast this
        have h3 : (16 : Int) ^ 7 = 268435456 := by decide
        omega
      have hd := Bur.drop_at s k hlt
      have hb256 : s[k].toNat < 256 := s[k].toNat_lt
      have hI := fun W => Tryd.strings_IndexByte ds (s[k].toNat : Int) W
      rw [show ((s[k].toNat : Int).toNat.toUInt8) = s[k] from by rw [Int.toNat_natCast]; simp, hix] at hI
      cases e : f s[k] with
      | none =>
        rw [e, Option.getD_none] at hI
        have hRn : Hid (R = none) := by show _ = _; rw [hM.out, hd, Bur.rx_no e]
        clear hM hd e m1
        go_wp2
        go_quiet ((go_at_call 33; exact Calls.quiet_of_same (hI _)))
        go_wp2
        go_ret2
        exact ⟨by rw [hRn.out]; rfl, below_drewN hb _⟩
      | some v =>
        obtain ⟨v0, v1⟩ := hf _ _ e
        rw [e, Option.getD_some] at hI
        have hM2 : Hid (R = Bur.rx f base (m * base + v) (s.data.toList.drop (k + 1))) := by show _ = _; rw [hM.out, hd, Bur.rx_on e]
        have hmb0 : 0 ≤ m * base := Int.mul_nonneg m0 (by omega)
        have hmb1 : m * base ≤ m * 16 := Int.mul_le_mul_of_nonneg_left bb1 m0
        have m2 : Hid (m * base + v < 16 ^ (k + 1)) := by
          have h1 := m1.out
          show _ < _
          rw [Int.pow_succ]; omega
        have v0' : ¬ v < 0 := by omega
        clear hM hd e m1
        go_wp2
        go_quiet ((go_at_call 33; exact Calls.quiet_of_same (hI _)))
        go_wp2
        exact ⟨⟨k + 1, m * base + v, by omega, by go_num, by go_num, rfl, by omega, m2, hM2, below_drewN hb _⟩, by simp [intOf]; omega⟩
    · have hlt' : ¬ (k : Int) < (s.size : Int) := by omega
      have hRn : Hid (R = some m) := by show _ = _; rw [hM.out, List.drop_of_length_le (by simp; omega)]; rfl
      clear hM m1
      go_wp2
      go_ret2
      exact ⟨by rw [hRn.out]; rfl, hb⟩
theorem plRead16 (s : ByteArray) (w : World) (hs : s.size ≤ 8) : Calls Tryd.prog 22 #[.string s, .int .i64 16] w fun e w' => e = .returned (.tuple #[.int .i64 (Bur.rdN (Bur.rx Bur.hv 16 0 s.data.toList)), .bool (Bur.rx Bur.hv 16 0 s.data.toList).isSome]) ∧ Below w.heap.size w w' :=
  plRead 16 Bur.hv ⟨#[48, 49, 50, 51, 52, 53, 54, 55, 56, 57, 97, 98, 99, 100, 101, 102]⟩ (.inl rfl) (fun w => by kernel_rfl) (Bur.ix_all Bur.ix16) (fun b d h => by have := Bur.hv_bd h; omega) s w hs
theorem plRead10 (s : ByteArray) (w : World) (hs : s.size ≤ 8) : Calls Tryd.prog 22 #[.string s, .int .i64 10] w fun e w' => e = .returned (.tuple #[.int .i64 (Bur.rdN (Bur.rx Bur.dv 10 0 s.data.toList)), .bool (Bur.rx Bur.dv 10 0 s.data.toList).isSome]) ∧ Below w.heap.size w w' :=
  plRead 10 Bur.dv ⟨#[48, 49, 50, 51, 52, 53, 54, 55, 56, 57]⟩ (.inr rfl) (fun w => by kernel_rfl) (Bur.ix_all Bur.ix10) (fun b d h => by have := Bur.dv_bd h; omega) s w hs
end Go.Proofs.YtdokenlljeajmaaDoor
