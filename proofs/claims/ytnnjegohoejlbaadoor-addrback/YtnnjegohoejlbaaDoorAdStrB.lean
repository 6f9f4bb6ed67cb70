/- The contracts of Itoa at a byte, of writeOctets, Print and PrintPrefix. -/
import Derived.Test.YtnnjegohoejlbaaDoorAdStrA
import Derived.Test.YtnnjegohoejlbaaDoorShelf
import Derived.Lib.SmallJoins
import Derived.Lib.AppendIntMem
namespace Bur
open Go
/-- The decimal digits of a number from 0 on. -/
def dec (n : Int) : List UInt8 := Lib.decDigits n.toNat
def txt (a b c d : Int) : List UInt8 := dec a ++ (46 :: (dec b ++ (46 :: (dec c ++ (46 :: dec d)))))
theorem dec1 {n : Int} (h0 : 0 ≤ n) (h1 : n < 10) : dec n = [UInt8.ofNat (48 + n.toNat)] := by
  unfold dec; rw [Lib.decDigits, dif_pos (by omega)]
theorem dec2 {n : Int} (h0 : 10 ≤ n) (h1 : n < 100) : dec n = [UInt8.ofNat (48 + n.toNat / 10), UInt8.ofNat (48 + n.toNat % 10)] := by
  unfold dec; rw [Lib.decDigits, dif_neg (by omega), Lib.decDigits, dif_pos (by omega)]; rfl
theorem dec3 {n : Int} (h0 : 100 ≤ n) (h1 : n < 1000) : dec n = [UInt8.ofNat (48 + n.toNat / 10 / 10), UInt8.ofNat (48 + n.toNat / 10 % 10), UInt8.ofNat (48 + n.toNat % 10)] := by
  unfold dec; rw [Lib.decDigits, dif_neg (by omega), Lib.decDigits, dif_neg (by omega), Lib.decDigits, dif_pos (by omega)]; rfl
theorem dec_len {n : Int} (h0 : 0 ≤ n) (h1 : n < 1000) : (dec n).length ≤ 3 := by
  by_cases h2 : n < 10
  · rw [dec1 h0 h2]; simp
  by_cases h3 : n < 100
  · rw [dec2 (by omega) h3]; simp
  · rw [dec3 (by omega) h1]; simp
end Bur
namespace Go.Proofs.YtnnjegohoejlbaaDoor
open Go.RowKit Go.Joins

/-- What internal/strconv.uint64pow10 holds. -/
abbrev Pow10 (w : World) : Prop := Lib.TabIs Tryd.prog w "internal/strconv.uint64pow10" .u64 Lib.pow10Tab
theorem pow10Global : Tryd.prog.globalNamed "internal/strconv.uint64pow10" = some 2 := by kernel_rfl
theorem Pow10.step {w w' : World} (h : Pow10 w) (hb : Below w.heap.size w w') : Pow10 w' := tab_stays pow10Global h hb (Nat.le_refl _)
theorem Pow10.alloc {w : World} (h : Pow10 w) (o : Obj) : Pow10 (w.alloc o) := h.step (below_al (below_self _) _)

theorem itoa (n : Int) (w : World) (h0 : 0 ≤ n) (h1 : n ≤ 4294967295) (ht : Pow10 w) :
    Calls Tryd.prog 38 #[.int .i64 n] w fun e w' => e = .returned (.string ⟨(Bur.dec n).toArray⟩) ∧ Below w.heap.size w w' := by
  refine (Tryd.strconv_Itoa n (by omega) (by omega) w ht).mono ?_
  rintro e w' ⟨rfl, k, os, rfl⟩
  have e : Lib.itoa n = Bur.dec n := if_neg (by omega)
  exact ⟨by rw [e], Lib.below_grow _ _ (Nat.le_refl _) _ _⟩

theorem cat {x y z : List UInt8} (h : z = x ++ y) (hx : x.length ≤ 1000) (hy : y.length ≤ 1000) : ∀ w : World, (Op.stringOp .add ⟨x.toArray⟩ ⟨y.toArray⟩).run Tryd.prog w = .ok (.string ⟨z.toArray⟩) w := by
  intro w
  subst h
  exact run_string_add_lists w x y (by omega) (by omega)

set_option maxHeartbeats 1000000 in
theorem writeOctets (a b c d : Int) (w : World) (ht : Pow10 w) (a0 : 0 ≤ a) (a1 : a ≤ 255) (b0 : 0 ≤ b) (b1 : b ≤ 255) (c0 : 0 ≤ c) (c1 : c ≤ 255) (d0 : 0 ≤ d) (d1 : d ≤ 255) :
    Calls Tryd.prog 34 #[oct a b c d] w fun e w' => e = .returned (.string ⟨(Bur.txt a b c d).toArray⟩) ∧ Below w.heap.size w w' := by
  obtain ⟨i0, i1, i2, i3⟩ := idx a b c d
  have la := Bur.dec_len a0 (by omega)
  have lb := Bur.dec_len b0 (by omega)
  have lc := Bur.dec_len c0 (by omega)
  have ld := Bur.dec_len d0 (by omega)
  have e1 := cat (x := []) (y := Bur.dec a) (z := Bur.dec a) rfl (by simp) (by omega)
  obtain ⟨z2, Z2⟩ : ∃ z : List UInt8, Hid (z = Bur.dec a ++ [46]) := ⟨Bur.dec a ++ [46], Eq.refl _⟩
  have e2 := cat (x := Bur.dec a) (y := [46]) Z2 (by omega) (by simp)
  have l2 : z2.length ≤ 4 := by rw [Z2.out]; simp; omega
  obtain ⟨z3, Z3⟩ : ∃ z, Hid (z = z2 ++ Bur.dec b) := ⟨_, rfl⟩
  have e3 := cat (x := z2) (y := Bur.dec b) Z3 (by omega) (by omega)
  have l3 : z3.length ≤ 7 := by rw [Z3.out]; simp; omega
  obtain ⟨z4, Z4⟩ : ∃ z : List UInt8, Hid (z = z3 ++ [46]) := ⟨z3 ++ [46], Eq.refl _⟩
  have e4 := cat (x := z3) (y := [46]) Z4 (by omega) (by simp)
  have l4 : z4.length ≤ 8 := by rw [Z4.out]; simp; omega
  obtain ⟨z5, Z5⟩ : ∃ z, Hid (z = z4 ++ Bur.dec c) := ⟨_, rfl⟩
  have e5 := cat (x := z4) (y := Bur.dec c) Z5 (by omega) (by omega)
  have l5 : z5.length ≤ 11 := by rw [Z5.out]; simp; omega
  obtain ⟨z6, Z6⟩ : ∃ z : List UInt8, Hid (z = z5 ++ [46]) := ⟨z5 ++ [46], Eq.refl _⟩
  have e6 := cat (x := z5) (y := [46]) Z6 (by omega) (by simp)
  have l6 : z6.length ≤ 12 := by rw [Z6.out]; simp; omega
  obtain ⟨z7, Z7⟩ : ∃ z, Hid (z = z6 ++ Bur.dec d) := ⟨_, rfl⟩
  have e7 := cat (x := z6) (y := Bur.dec d) Z7 (by omega) (by omega)
  clear la lb lc ld l2 l3 l4 l5 l6
  go_enter Tryd.func34, Tryd.ntmps34
  go_wp2
  refine wp_loop_rounds 5 ?_
  rw [rounds_succ]
  go_wp2_with (go_at_call 38; refine (itoa _ _ a0 (by omega) (by exact ht.alloc _)).mono ?_; rintro e w1 ⟨rfl, hb1⟩)
  replace ht := (ht.alloc _).step hb1
  rw [rounds_succ]
  go_wp2_with (go_at_call 38; refine (itoa _ _ b0 (by omega) (by exact ht)).mono ?_; rintro e w2 ⟨rfl, hb2⟩)
  replace ht := ht.step hb2
  rw [rounds_succ]
  go_wp2_with (go_at_call 38; refine (itoa _ _ c0 (by omega) (by exact ht)).mono ?_; rintro e w3 ⟨rfl, hb3⟩)
  replace ht := ht.step hb3
  rw [rounds_succ]
  go_wp2_with (go_at_call 38; refine (itoa _ _ d0 (by omega) (by exact ht)).mono ?_; rintro e w4 ⟨rfl, hb4⟩)
  rw [rounds_succ]
  go_wp2
  go_ret
  refine ⟨?_, below_via (below_via (below_via (below_via (below_al (below_self _) _) hb1) hb2) hb3) hb4⟩
  rw [Z7.out, Z6.out, Z5.out, Z4.out, Z3.out, Z2.out]
  simp [Bur.txt]
end Go.Proofs.YtnnjegohoejlbaaDoor
