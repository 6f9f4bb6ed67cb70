/- The contracts of the reference's Hex, Dec of a digit, AddrKey and PrefixKey, unhex. -/
import Derived.Test.YtdokenlljeajmaaDoorPkA
namespace Bur
theorem hxK_front : ∀ (k n : Nat), hxK (k + 1) n = hd (n / 16 ^ k % 16) :: hxK k n
  | 0, n => by simp [hxK]
  | k + 1, n => by
    rw [hxK, hxK_front k (n / 16), hxK, List.cons_append, Nat.div_div_eq_div_mul, Nat.pow_succ, Nat.mul_comm 16]
/-- A number as a digit. -/
def dg (n : Int) : UInt8 := UInt8.ofNat (48 + n.toNat)
theorem d2_dg {l : Int} (h : 0 ≤ l) : d2 l = [dg (l / 10), dg (l % 10)] := by
  unfold d2 dg
  rw [show (l / 10).toNat = l.toNat / 10 from by omega, show (l % 10).toNat = l.toNat % 10 from by omega]
end Bur
namespace Go.Proofs.YtdokenlljeajmaaDoor
open Go.RowKit

theorem cat {x y z : List UInt8} (h : z = x ++ y) (hx : x.length ≤ 1000000) (hy : y.length ≤ 1000000) : ∀ w : World, (Op.stringOp .add ⟨x.toArray⟩ ⟨y.toArray⟩).run Tryd.prog w = .ok (.string ⟨z.toArray⟩) w := by
  intro w
  subst h
  exact run_string_add_lists w x y (by omega) (by omega)
theorem bytes_eq (s : ByteArray) : (⟨s.data.toList.toArray⟩ : ByteArray) = s := by simp
/-- The hex digits as a text. -/
abbrev hexs : Value := .string ⟨#[48, 49, 50, 51, 52, 53, 54, 55, 56, 57, 97, 98, 99, 100, 101, 102]⟩
theorem hdig (n : Int) (h0 : 0 ≤ n) (h1 : n ≤ 15) : ∀ w : World, (Instr.slice 9 hexs (some (.int .i64 n)) (some (.int .i64 (n + 1))) none).run Tryd.prog w = .ok (.string ⟨[Bur.hd n.toNat].toArray⟩) w := by
  have : n = 0 ∨ n = 1 ∨ n = 2 ∨ n = 3 ∨ n = 4 ∨ n = 5 ∨ n = 6 ∨ n = 7 ∨ n = 8 ∨ n = 9 ∨ n = 10 ∨ n = 11 ∨ n = 12 ∨ n = 13 ∨ n = 14 ∨ n = 15 := by omega
  intro w
  rcases this with rfl | rfl | rfl | rfl | rfl | rfl | rfl | rfl | rfl | rfl | rfl | rfl | rfl | rfl | rfl | rfl <;> kernel_rfl
abbrev digs : Value := .string ⟨#[48, 49, 50, 51, 52, 53, 54, 55, 56, 57]⟩
theorem dig (n : Int) (h0 : 0 ≤ n) (h1 : n ≤ 9) : ∀ w : World, (Instr.slice 9 digs (some (.int .i64 n)) (some (.int .i64 (n + 1))) none).run Tryd.prog w = .ok (.string ⟨#[Bur.dg n]⟩) w := by
  have : n = 0 ∨ n = 1 ∨ n = 2 ∨ n = 3 ∨ n = 4 ∨ n = 5 ∨ n = 6 ∨ n = 7 ∨ n = 8 ∨ n = 9 := by omega
  intro w
  rcases this with rfl | rfl | rfl | rfl | rfl | rfl | rfl | rfl | rfl | rfl <;> kernel_rfl
theorem refDigit (n : Int) (w : World) (h0 : 0 ≤ n) (h1 : n < 10) : Calls Tryd.prog 28 #[.int .i64 n] w fun e w' => e = .returned (.string ⟨#[Bur.dg n]⟩) ∧ w' = w := by
  have d1 := dig n h0 (by omega)
  generalize Bur.dg n = c at *
  have k1 : ∀ w : World, (Op.stringOp .add ⟨#[c]⟩ ⟨#[]⟩).run Tryd.prog w = .ok (.string ⟨#[c]⟩) w := cat (x := [c]) (y := []) (z := [c]) (by simp) (by simp) (by simp)
  go_enter Tryd.func28, Tryd.ntmps28
  go_wp2
  refine wp_loop_rounds 1 ?_
  rw [rounds_succ]
  go_wp2
  go_ret
  exact ⟨rfl, rfl⟩
set_option maxHeartbeats 1000000 in
theorem refHex (a : Int) (w : World) (h0 : 0 ≤ a) (h1 : a ≤ 4294967295) : Calls Tryd.prog 27 #[.int .i64 a] w fun e w' => e = .returned (.string ⟨(Bur.hxK 8 a.toNat).toArray⟩) ∧ w' = w := by
  obtain ⟨n, rfl⟩ : ∃ n : Nat, a = n := ⟨a.toNat, by omega⟩
  rw [Int.toNat_natCast]
  go_enter Tryd.func27, Tryd.ntmps27
  go_wp2
  go_loopw [0, 3, 4] (fun x s i wr => ∃ (k : Nat) (l : List UInt8) (q : Int), k ≤ 8 ∧ i = .int .i64 k ∧ x = .int .i64 q ∧ Hid (q = ((n / 16 ^ k : Nat) : Int)) ∧ 0 ≤ q ∧ q ≤ 4294967295 ∧ s = .string ⟨l.toArray⟩ ∧ Hid (l = Bur.hxK k n) ∧ wr = w) (fun _ _ i _ => 8 - (intOf i).toNat)
  case atStart => exact ⟨0, [], n, by omega, rfl, rfl, by show _ = _; simp, by omega, by omega, rfl, rfl, rfl⟩
  case round =>
    obtain ⟨k, l, q, hk, rfl, rfl, hq, q0, q1, rfl, hl, rfl⟩ := hrel
    by_cases hlt : k < 8
    · have hlt' : (k : Int) < 8 := by omega
      have d1 := hdig (q % 16) (by omega) (by omega)
      have hll : l.length ≤ 8 := by rw [hl.out, Bur.hxK_len]; omega
      obtain ⟨z, Z⟩ : ∃ z : List UInt8, Hid (z = [Bur.hd (q % 16).toNat] ++ l) := ⟨_, rfl⟩
      have k1 := cat (x := [Bur.hd (q % 16).toNat]) (y := l) Z.out (by simp) (by omega)
      have hZ : Hid (z = Bur.hxK (k + 1) n) := by
        show _ = _
        rw [Z.out, Bur.hxK_front, ← hl.out]
        show Bur.hd _ :: l = Bur.hd _ :: l
        congr 2
        rw [hq.out]; omega
      have hQ : Hid (q / 16 = ((n / 16 ^ (k + 1) : Nat) : Int)) := by
        show _ = _
        rw [hq.out, Nat.pow_succ, ← Nat.div_div_eq_div_mul]; omega
      clear hl hq Z
      generalize Bur.hd (q % 16).toNat = hc at *
      go_wp2
      exact ⟨⟨k + 1, z, q / 16, by omega, by go_num, rfl, hQ, by omega, by omega, rfl, hZ, trivial⟩, by simp [intOf]; omega⟩
    · have hlt' : ¬ (k : Int) < 8 := by omega
      have h8 : Hid (l = Bur.hxK 8 n) := by show _ = _; rw [hl.out]; congr 1; omega
      clear hl hq
      go_wp2
      go_ret
      exact ⟨by rw [h8.out]; rfl, rfl⟩
theorem refAddrKey (s : ByteArray) (a : Int) (w : World) (hs : s.size ≤ 1000) (h0 : 0 ≤ a) (h1 : a ≤ 4294967295) : Calls Tryd.prog 15 #[.string s, .int .i64 a] w fun e w' => e = .returned (.string ⟨(Bur.adrK s.data.toList a).toArray⟩) ∧ w' = w := by
  have hl : s.data.toList.length ≤ 1000 := by simpa using hs
  have l8 := Bur.hxK_len 8 a.toNat
  obtain ⟨z1, Z1⟩ : ∃ z : List UInt8, Hid (z = [97, 47] ++ s.data.toList) := ⟨[97, 47] ++ s.data.toList, Eq.refl _⟩
  have e1 := cat (x := [97, 47]) (y := s.data.toList) Z1.out (by simp) (by omega)
  have l1 : z1.length ≤ 1002 := by rw [Z1.out]; simp; omega
  obtain ⟨z2, Z2⟩ : ∃ z : List UInt8, Hid (z = z1 ++ [47]) := ⟨z1 ++ [47], Eq.refl _⟩
  have e2 := cat (x := z1) (y := [47]) Z2.out (by omega) (by simp)
  have l2 : z2.length ≤ 1003 := by rw [Z2.out]; simp; omega
  obtain ⟨z3, Z3⟩ : ∃ z : List UInt8, Hid (z = z2 ++ Bur.hxK 8 a.toNat) := ⟨z2 ++ Bur.hxK 8 a.toNat, Eq.refl _⟩
  have e3 := cat (x := z2) (y := Bur.hxK 8 a.toNat) Z3.out (by omega) (by omega)
  rw [bytes_eq] at e1
  clear l1 l2 l8
  go_enter Tryd.func15, Tryd.ntmps15
  go_wp2_with (go_at_call 27; refine (refHex a _ h0 h1).mono ?_; rintro e w1 ⟨rfl, rfl⟩)
  go_ret
  refine ⟨?_, rfl⟩
  rw [Z3.out, Z2.out, Z1.out]; rfl
set_option maxRecDepth 100000 in
set_option maxHeartbeats 2000000 in
theorem refPrefixKey (s : ByteArray) (a l : Int) (w : World) (hs : s.size ≤ 1000) (h0 : 0 ≤ a) (h1 : a ≤ 4294967295) (g0 : 0 ≤ l) (g1 : l < 100) : Calls Tryd.prog 13 #[.string s, pfx a l] w fun e w' => e = .returned (.string ⟨(Bur.pfxK s.data.toList a l).toArray⟩) ∧ Below w.heap.size w w' := by
  have hl : s.data.toList.length ≤ 1000 := by simpa using hs
  have l8 := Bur.hxK_len 8 a.toNat
  obtain ⟨z1, Z1⟩ : ∃ z : List UInt8, Hid (z = [112, 47] ++ s.data.toList) := ⟨[112, 47] ++ s.data.toList, Eq.refl _⟩
  have e1 := cat (x := [112, 47]) (y := s.data.toList) Z1.out (by simp) (by omega)
  have l1 : z1.length ≤ 1002 := by rw [Z1.out]; simp; omega
  obtain ⟨z2, Z2⟩ : ∃ z : List UInt8, Hid (z = z1 ++ [47]) := ⟨z1 ++ [47], Eq.refl _⟩
  have e2 := cat (x := z1) (y := [47]) Z2.out (by omega) (by simp)
  have l2 : z2.length ≤ 1003 := by rw [Z2.out]; simp; omega
  obtain ⟨z3, Z3⟩ : ∃ z : List UInt8, Hid (z = z2 ++ Bur.hxK 8 a.toNat) := ⟨z2 ++ Bur.hxK 8 a.toNat, Eq.refl _⟩
  have e3 := cat (x := z2) (y := Bur.hxK 8 a.toNat) Z3.out (by omega) (by omega)
  have l3 : z3.length ≤ 1011 := by rw [Z3.out, List.length_append]; omega
  obtain ⟨z4, Z4⟩ : ∃ z : List UInt8, Hid (z = z3 ++ [Bur.dg (l / 10)]) := ⟨z3 ++ [Bur.dg (l / 10)], Eq.refl _⟩
  have e4 := cat (x := z3) (y := [Bur.dg (l / 10)]) Z4.out (by omega) (by simp)
  have l4 : z4.length ≤ 1012 := by rw [Z4.out, List.length_append]; simp; omega
  obtain ⟨z5, Z5⟩ : ∃ z : List UInt8, Hid (z = z4 ++ [Bur.dg (l % 10)]) := ⟨z4 ++ [Bur.dg (l % 10)], Eq.refl _⟩
  have e5 := cat (x := z4) (y := [Bur.dg (l % 10)]) Z5.out (by omega) (by simp)
  have hfin : Hid (z5 = Bur.pfxK s.data.toList a l) := by
    show _ = _
    rw [Z5.out, Z4.out, Z3.out, Z2.out, Z1.out, Bur.pfxK, Bur.d2_dg g0]
    simp
  rw [bytes_eq] at e1
  replace e4 : ∀ w : World, (Op.stringOp .add ⟨z3.toArray⟩ ⟨#[Bur.dg (l / 10)]⟩).run Tryd.prog w = .ok (.string ⟨z4.toArray⟩) w := e4
  replace e5 : ∀ w : World, (Op.stringOp .add ⟨z4.toArray⟩ ⟨#[Bur.dg (l % 10)]⟩).run Tryd.prog w = .ok (.string ⟨z5.toArray⟩) w := e5
  clear l1 l2 l3 l4 l8 Z1 Z2 Z3 Z4 Z5
  have hdv : IntKind.i64.wrap (l.tdiv 10) = l / 10 := by rw [Int.tdiv_eq_ediv_of_nonneg g0, IntKind.wrap_i64]; omega
  have hmd : IntKind.i64.wrap (l.tmod 10) = l % 10 := by rw [Int.tmod_eq_emod_of_nonneg g0, IntKind.wrap_i64]; omega
  go_enter Tryd.func13, Tryd.ntmps13
  go_wp2
  go_quiet (first
    | (go_at_call 27; exact Calls.quiet_of_same (refHex a _ h0 h1))
    | (go_at_call 28; exact Calls.quiet_of_same (refDigit _ _ (by omega) (by omega))))
  go_wp2
  go_ret
  exact ⟨by rw [← hfin.out]; rfl, below_drewN (below_al (below_self _) _) _⟩
theorem hidx (k : Nat) (h : k < 16) : ∀ w : World, (Instr.index 9 hexs (.int .i64 (k : Int))).run Tryd.prog w = .ok (.int .u8 (Bur.hd k).toNat) w := by
  have : k = 0 ∨ k = 1 ∨ k = 2 ∨ k = 3 ∨ k = 4 ∨ k = 5 ∨ k = 6 ∨ k = 7 ∨ k = 8 ∨ k = 9 ∨ k = 10 ∨ k = 11 ∨ k = 12 ∨ k = 13 ∨ k = 14 ∨ k = 15 := by omega
  intro w
  rcases this with rfl | rfl | rfl | rfl | rfl | rfl | rfl | rfl | rfl | rfl | rfl | rfl | rfl | rfl | rfl | rfl <;> kernel_rfl
end Go.Proofs.YtdokenlljeajmaaDoor
