/- The contracts of the reference's Hex, Dec of a digit, AddrKey and PrefixKey, unhex. -/
import Derived.Test.YtdjiodikefoliaaDoorCPkA
namespace Bur
theorem hxK_front : ∀ (k n : Nat), hxK (k + 1) n = hd (n / 16 ^ k % 16) :: hxK k n
  | 0, n => by simp [hxK]
  | k + 1, n => by
    rw [hxK, hxK_front k (n / 16), hxK, List.cons_append, Nat.div_div_eq_div_mul, Nat.pow_succ, Nat.mul_comm 16]
/-- A number as a digit. -/
def dg (n : Int) : UInt8 := UInt8.ofNat (48 + n.toNat)
theorem d2_dg {l : Int} (h : 0 ≤ l) : d2 l = [dg (l / 10), dg (l % 10)] := by
  unfold d2 dg
  rw [show (l / 10).toNat = l.toNat / 10 from by omega, show (l % 10).toNat = l.toNat % 10 from by omega]
end Bur
namespace Go.Proofs.YtdjiodikefoliaaDoor.Pa
open Go.RowKit

theorem cat {x y z : List UInt8} (h : z = x ++ y) (hx : x.length ≤ 1000000) (hy : y.length ≤ 1000000) : ∀ w : World, (Op.stringOp .add ⟨x.toArray⟩ ⟨y.toArray⟩).run Tryd.prog w = .ok (.string ⟨z.toArray⟩) w := by
  intro w
  subst h
  exact run_string_add_lists w x y (by omega) (by omega)
theorem bytes_eq (s : ByteArray) : (⟨s.data.toList.toArray⟩ : ByteArray) = s := by simp
/-- The hex digits as a text. -/
abbrev hexs : Value := .string ⟨#[48, 49, 50, 51, 52, 53, 54, 55, 56, 57, 97, 98, 99, 100, 101, 102]⟩
theorem hdig (n : Int) (h0 : 0 ≤ n) (h1 : n ≤ 15) : ∀ w : World, (Instr.slice 9 hexs (some (.int .i64 n)) (some (.int .i64 (n + 1))) none).run Tryd.prog w = .ok (.string ⟨[Bur.hd n.toNat].toArray⟩) w := by
  have : n = 0 ∨ n = 1 ∨ n = 2 ∨ n = 3 ∨ n = 4 ∨ n = 5 ∨ n = 6 ∨ n = 7 ∨ n = 8 ∨ n = 9 ∨ n = 10 ∨ n = 11 ∨ n = 12 ∨ n = 13 ∨ n = 14 ∨ n = 15 := by omega
  intro w
  rcases this with rfl | rfl | rfl | rfl | rfl | rfl | rfl | rfl | rfl | rfl | rfl | rfl | rfl | rfl | rfl | rfl <;> kernel_rfl
abbrev digs : Value := .string ⟨#[48, 49, 50, 51, 52, 53, 54, 55, 56, 57]⟩
theorem dig (n : Int) (h0 : 0 ≤ n) (h1 : n ≤ 9) : ∀ w : World, (Instr.slice 9 digs (some (.int .i64 n)) (some (.int .i64 (n + 1))) none).run Tryd.prog w = .ok (.string ⟨#[Bur.dg n]⟩) w := by
  have : n = 0 ∨ n = 1 ∨ n = 2 ∨ n = 3 ∨ n = 4 ∨ n = 5 ∨ n = 6 ∨ n = 7 ∨ n = 8 ∨ n = 9 := by omega
  intro w
  rcases this with rfl | rfl | rfl | rfl | rfl | rfl | rfl | rfl | rfl | rfl <;> kernel_rfl
theorem hidx (k : Nat) (h : k < 16) : ∀ w : World, (Instr.index 9 hexs (.int .i64 (k : Int))).run Tryd.prog w = .ok (.int .u8 (Bur.hd k).toNat) w := by
  have : k = 0 ∨ k = 1 ∨ k = 2 ∨ k = 3 ∨ k = 4 ∨ k = 5 ∨ k = 6 ∨ k = 7 ∨ k = 8 ∨ k = 9 ∨ k = 10 ∨ k = 11 ∨ k = 12 ∨ k = 13 ∨ k = 14 ∨ k = 15 := by omega
  intro w
  rcases this with rfl | rfl | rfl | rfl | rfl | rfl | rfl | rfl | rfl | rfl | rfl | rfl | rfl | rfl | rfl | rfl <;> kernel_rfl
end Go.Proofs.YtdjiodikefoliaaDoor.Pa
