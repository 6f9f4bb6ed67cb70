/- The contracts of Dec and TextOf. -/
import Derived.Test.YtnnjegohoejlbaaDoorAdStrF
namespace Go.Proofs.YtnnjegohoejlbaaDoor
open Go.RowKit

/-- The digits as a text. -/
abbrev digs : Value := .string ⟨#[48, 49, 50, 51, 52, 53, 54, 55, 56, 57]⟩
theorem dig (n : Int) (h0 : 0 ≤ n) (h1 : n ≤ 9) : ∀ w : World, (Instr.slice 9 digs (some (.int .i64 n)) (some (.int .i64 (n + 1))) none).run Tryd.prog w = .ok (.string ⟨#[UInt8.ofNat (48 + n.toNat)]⟩) w := by
  have : n = 0 ∨ n = 1 ∨ n = 2 ∨ n = 3 ∨ n = 4 ∨ n = 5 ∨ n = 6 ∨ n = 7 ∨ n = 8 ∨ n = 9 := by omega
  intro w
  rcases this with rfl | rfl | rfl | rfl | rfl | rfl | rfl | rfl | rfl | rfl <;> kernel_rfl
theorem catA {x y z : Array UInt8} (h : z = x ++ y) (hx : x.size ≤ 1000) (hy : y.size ≤ 1000) : ∀ w : World, (Op.stringOp .add ⟨x⟩ ⟨y⟩).run Tryd.prog w = .ok (.string ⟨z⟩) w := by
  intro w
  have := cat (x := x.toList) (y := y.toList) (z := z.toList) (by rw [h]; simp) (by simpa using hx) (by simpa using hy) w
  simpa using this

set_option maxHeartbeats 1000000 in
theorem refDec (n : Int) (w : World) (h0 : 0 ≤ n) (h1 : n < 1000) : Calls Tryd.prog 15 #[.int .i64 n] w fun e w' => e = .returned (.string ⟨(Bur.dec n).toArray⟩) ∧ w' = w := by
  by_cases g1 : n < 10
  · rw [Bur.dec1 h0 g1]
    have d1 := dig n h0 (by omega)
    generalize UInt8.ofNat (48 + n.toNat) = c at *
    have k1 := catA (x := #[c]) (y := #[]) (z := #[c]) (by simp) (by simp) (by simp)
    go_enter Tryd.func15, Tryd.ntmps15
    go_wp2
    refine wp_loop_rounds 1 ?_
    rw [rounds_succ]
    go_wp2
    go_ret
    exact ⟨rfl, rfl⟩
  by_cases g2 : n < 100
  · rw [Bur.dec2 (by omega) g2]
    have d1 := dig (n % 10) (by omega) (by omega)
    have d2 := dig (n / 10) (by omega) (by omega)
    rw [show n.toNat % 10 = (n % 10).toNat from by omega, show n.toNat / 10 = (n / 10).toNat from by omega]
    generalize UInt8.ofNat (48 + (n % 10).toNat) = c at *
    generalize UInt8.ofNat (48 + (n / 10).toNat) = d at *
    have k1 := catA (x := #[c]) (y := #[]) (z := #[c]) (by simp) (by simp) (by simp)
    have k2 := catA (x := #[d]) (y := #[c]) (z := #[d, c]) (by simp) (by simp) (by simp)
    go_enter Tryd.func15, Tryd.ntmps15
    go_wp2
    refine wp_loop_rounds 2 ?_
    rw [rounds_succ]
    go_wp2
    rw [rounds_succ]
    go_wp2
    go_ret
    exact ⟨rfl, rfl⟩
  · rw [Bur.dec3 (by omega) h1]
    have d1 := dig (n % 10) (by omega) (by omega)
    have d2 := dig (n / 10 % 10) (by omega) (by omega)
    have d3 := dig (n / 10 / 10) (by omega) (by omega)
    rw [show n.toNat % 10 = (n % 10).toNat from by omega, show n.toNat / 10 % 10 = (n / 10 % 10).toNat from by omega, show n.toNat / 10 / 10 = (n / 10 / 10).toNat from by omega]
    generalize UInt8.ofNat (48 + (n % 10).toNat) = c at *
    generalize UInt8.ofNat (48 + (n / 10 % 10).toNat) = d at *
    generalize UInt8.ofNat (48 + (n / 10 / 10).toNat) = e at *
    have k1 := catA (x := #[c]) (y := #[]) (z := #[c]) (by simp) (by simp) (by simp)
    have k2 := catA (x := #[d]) (y := #[c]) (z := #[d, c]) (by simp) (by simp) (by simp)
    have k3 := catA (x := #[e]) (y := #[d, c]) (z := #[e, d, c]) (by simp) (by simp) (by simp)
    go_enter Tryd.func15, Tryd.ntmps15
    go_wp2
    refine wp_loop_rounds 3 ?_
    rw [rounds_succ]
    go_wp2
    rw [rounds_succ]
    go_wp2
    rw [rounds_succ]
    go_wp2
    go_ret
    exact ⟨rfl, rfl⟩

set_option maxHeartbeats 1000000 in
theorem refTextOf (a : Int) (w : World) (h : Bur.isA a = true) : Calls Tryd.prog 10 #[.int .i64 a] w fun e w' => e = .returned (.string ⟨(Bur.txtA a).toArray⟩) ∧ w' = w := by
  obtain ⟨a0, a1⟩ := Bur.isA_true h
  have la := Bur.dec_len (n := a / 16777216) (by omega) (by omega)
  have lb := Bur.dec_len (n := a / 65536 % 256) (by omega) (by omega)
  have lc := Bur.dec_len (n := a / 256 % 256) (by omega) (by omega)
  have ld := Bur.dec_len (n := a % 256) (by omega) (by omega)
  obtain ⟨z2, Z2⟩ : ∃ z : List UInt8, Hid (z = Bur.dec (a / 16777216) ++ [46]) := ⟨Bur.dec (a / 16777216) ++ [46], Eq.refl _⟩
  have e2 := cat (x := Bur.dec (a / 16777216)) (y := [46]) Z2 (by omega) (by simp)
  have l2 : z2.length ≤ 4 := by rw [Z2.out]; simp; omega
  obtain ⟨z3, Z3⟩ : ∃ z : List UInt8, Hid (z = z2 ++ Bur.dec (a / 65536 % 256)) := ⟨_, Eq.refl _⟩
  have e3 := cat (x := z2) (y := Bur.dec (a / 65536 % 256)) Z3 (by omega) (by omega)
  have l3 : z3.length ≤ 7 := by rw [Z3.out]; simp; omega
  obtain ⟨z4, Z4⟩ : ∃ z : List UInt8, Hid (z = z3 ++ [46]) := ⟨z3 ++ [46], Eq.refl _⟩
  have e4 := cat (x := z3) (y := [46]) Z4 (by omega) (by simp)
  have l4 : z4.length ≤ 8 := by rw [Z4.out]; simp; omega
  obtain ⟨z5, Z5⟩ : ∃ z : List UInt8, Hid (z = z4 ++ Bur.dec (a / 256 % 256)) := ⟨_, Eq.refl _⟩
  have e5 := cat (x := z4) (y := Bur.dec (a / 256 % 256)) Z5 (by omega) (by omega)
  have l5 : z5.length ≤ 11 := by rw [Z5.out]; simp; omega
  obtain ⟨z6, Z6⟩ : ∃ z : List UInt8, Hid (z = z5 ++ [46]) := ⟨z5 ++ [46], Eq.refl _⟩
  have e6 := cat (x := z5) (y := [46]) Z6 (by omega) (by simp)
  have l6 : z6.length ≤ 12 := by rw [Z6.out]; simp; omega
  obtain ⟨z7, Z7⟩ : ∃ z : List UInt8, Hid (z = z6 ++ Bur.dec (a % 256)) := ⟨_, Eq.refl _⟩
  have e7 := cat (x := z6) (y := Bur.dec (a % 256)) Z7 (by omega) (by omega)
  clear la lb lc ld l2 l3 l4 l5 l6 h
  go_enter Tryd.func10, Tryd.ntmps10
  go_wp2_with (go_at_call 15; refine (refDec _ _ (by omega) (by omega)).mono ?_; rintro e w1 ⟨rfl, rfl⟩)
  go_ret
  refine ⟨?_, rfl⟩
  rw [Z7.out, Z6.out, Z5.out, Z4.out, Z3.out, Z2.out]
  simp [Bur.txtA, Bur.txt]
end Go.Proofs.YtnnjegohoejlbaaDoor
