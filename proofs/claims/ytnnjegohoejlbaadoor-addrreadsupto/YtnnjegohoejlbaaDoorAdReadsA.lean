/- The walk of the law AddrReads, in pieces. -/
import Derived.Test.YtnnjegohoejlbaaDoorAdRefE
import Derived.Test.YtnnjegohoejlbaaDoorAdBackB
namespace Bur
open Go
/-- What Print and PrintPrefix give. -/
def prT (a : Int) : List UInt8 := if isA a = true then txtA a else []
def prF (a : Int) : Int := if isA a = true then 0 else 1
def ppT (a l : Int) : List UInt8 := if fault a l = 0 then txtP a l else []
end Bur
namespace Go.Proofs.YtnnjegohoejlbaaDoor
open Go.RowKit

theorem print_any (a : Int) (w : World) (ht : Pow10 w) :
    Calls Tryd.prog 11 #[.int .i64 a] w fun e w' => e = .returned (.tuple #[.string ⟨(Bur.prT a).toArray⟩, ev (Bur.prF a)]) ∧ Below w.heap.size w w' := by
  cases h : Bur.isA a
  · rw [show Bur.prT a = [] from if_neg (by simp [h]), show Bur.prF a = 1 from if_neg (by simp [h]), ev_ne (by decide)]
    exact print_no a w h
  · rw [show Bur.prT a = Bur.txtA a from if_pos h, show Bur.prF a = 0 from if_pos h, ev_0]
    exact print_ok a w h ht
theorem printPrefix_any (a l : Int) (w : World) (ht : Pow10 w) :
    Calls Tryd.prog 17 #[pfx a l] w fun e w' => e = .returned (.tuple #[.string ⟨(Bur.ppT a l).toArray⟩, ev (Bur.fault a l)]) ∧ Below w.heap.size w w' := by
  by_cases h : Bur.fault a l = 0
  · rw [show Bur.ppT a l = Bur.txtP a l from if_pos h, h, ev_0]
    exact printPrefix_ok a l w h ht
  · rw [show Bur.ppT a l = [] from if_neg h, ev_ne h]
    exact printPrefix_no a l w h

/-- What the law keeps. -/
structure RK (pa pl : Int) (w0 w : World) : Prop where
  p : Pf w w0.heap.size pa pl
  po : Pow10 w
  mx : MaxL w
  et : ErrType w
  bw : Below w0.heap.size w0 w
theorem ErrType.step {w w' : World} (h : ErrType w) (hb : Below w.heap.size w w') : ErrType w' := by
  have hl : 0 < w.heap.size := World.block_lt_of_cell? _ _ h
  show World.cell? _ _ = _
  rw [hb.cell (p := ⟨0, 0, none⟩) hl]; exact h
theorem RK.step {pa pl : Int} {w0 w w' : World} (h : RK pa pl w0 w) (hb : Below w.heap.size w w') : RK pa pl w0 w' :=
  ⟨h.p.step hb, h.po.step hb, h.mx.step hb, h.et.step hb, below_via h.bw hb⟩
theorem RK.alloc {pa pl : Int} {w0 w : World} (h : RK pa pl w0 w) (o : Obj) : RK pa pl w0 (w.alloc o) := h.step (below_al (below_self _) _)
theorem RK.drewN {pa pl : Int} {w0 w : World} (h : RK pa pl w0 w) (n : Nat) : RK pa pl w0 (w.drewN n) := h.step (below_drewN (below_self _) n)

set_option maxRecDepth 100000 in
set_option maxHeartbeats 4000000 in
theorem reads3 {pa pl a : Int} {s t : List UInt8} {w wx : World} {c4 c5 c6 c8 c9 c10 c11 c12 c13 c14 c15 c16 c17 c18 c19 c20 c21 c22 c23 c24 c25 c26 c27 c28 c29 c30 c31 c32 c33 c34 c35 c36 c37 c38 c39 c40 c41 c42 c43 c44 c45 c46 c47 c48 c49 c50 c51 c52 c53 c54 c55 c56 c57 c58 c59 c60 c61 c62 c63 c64 c65 c66 c67 c68 c69 c70 c71 c72 c73 c74 c75 c76 c77 c78 c79 c80 c81 c82 c83 c84 c85 c86 c87 c88 c89 c90 c91 c92 c93 c94 c95 c96 c97 c98 c99 c100 c101 c102 c103 c104 c105 c106 c107 c108 c109 c110 c111 c112 c113 c114 c115 c116 c117 c118 c119 c120 c121 c122 : Value} (hk : RK pa pl w wx) :
    Code.wp Tryd.prog (dropSeq 16 (Tryd.f3.body.getD .skip)) (bodyPost Tryd.prog Tryd.f3 fun e w' => e = .returned (.bool true) ∧ Below w.heap.size w w') ⟨#[.string ⟨s.toArray⟩, .int .i64 a, .string ⟨t.toArray⟩, pfx pa pl, c4, c5, c6, .pointer (some ⟨w.heap.size, 0, none⟩), c8, c9, c10, c11, c12, c13, c14, c15, c16, c17, c18, c19, c20, c21, c22, c23, c24, c25, c26, c27, c28, c29, c30, c31, c32, c33, c34, c35, c36, c37, c38, c39, c40, c41, c42, c43, c44, c45, c46, c47, c48, c49, c50, c51, c52, c53, c54, c55, c56, c57, c58, c59, c60, c61, c62, c63, c64, c65, c66, c67, c68, c69, c70, c71, c72, c73, c74, c75, c76, c77, c78, c79, c80, c81, c82, c83, c84, c85, c86, c87, c88, c89, c90, c91, c92, c93, c94, c95, c96, c97, c98, c99, c100, c101, c102, c103, c104, c105, c106, c107, c108, c109, c110, c111, c112, c113, c114, c115, c116, c117, c118, c119, c120, c121, c122], []⟩ wx := by
  conv => arg 2; whnf
  have ⟨p0, p1, _, _, plt⟩ := hk.p
  go_wp2_with fail
  refine (refFault _ _ _).mono ?_; rintro e w1 ⟨rfl, hb1⟩
  replace hk := hk.step hb1
  clear hb1 p0 p1 plt
  go_upto_if 93 with fail
  go_cut [14] (fun s wy => s = .string ⟨(Bur.ppT pa pl).toArray⟩ ∧ RK pa pl w wy)
  case first =>
    by_cases hf : Bur.fault pa pl = 0
    · obtain ⟨h0, h1, a0, a1, hz⟩ := Bur.fault_ok hf
      have ha := Bur.isA_mk a0 a1
      have lt := Bur.txtA_len ha
      have ll := Bur.dec_len h0 (by omega)
      obtain ⟨z1, Z1⟩ : ∃ z : List UInt8, Hid (z = Bur.txtA pa ++ [47]) := ⟨Bur.txtA pa ++ [47], Eq.refl _⟩
      have e1 := cat (x := Bur.txtA pa) (y := [47]) Z1 (by omega) (by simp)
      have l1 : z1.length ≤ 16 := by rw [Z1.out]; simp; omega
      obtain ⟨z2, Z2⟩ : ∃ z : List UInt8, Hid (z = z1 ++ Bur.dec pl) := ⟨_, Eq.refl _⟩
      have e2 := cat (x := z1) (y := Bur.dec pl) Z2 (by omega) (by omega)
      have E : Hid (Bur.ppT pa pl = z2) := by show _ = _; rw [show Bur.ppT pa pl = Bur.txtP pa pl from if_pos hf, Z2.out, Z1.out]; simp [Bur.txtP]
      have ⟨p0, p1, _, _, plt⟩ := hk.p
      have b1 : (Bur.fault pa pl == 0) = true := by simp [hf]
      clear hz lt ll l1 hf
      go_wp2_with fail
      go_region_held3 (fun w2 => w2.cell? ⟨w.heap.size, 0, none⟩ = some (.int .i64 pa) ∧ w2.cell? ⟨w.heap.size, 1, none⟩ = some (.int .i64 pl)) (go_simp)
        (first
          | (go_at_call 10; refine (refTextOf _ _ ha).mono ?_; rintro e w2 ⟨rfl, rfl⟩)
          | (go_at_call 15; refine (refDec _ _ h0 (by omega)).mono ?_; rintro e w3 ⟨rfl, rfl⟩))
      go_wp2_with fail
      go_meet
      case rel => exact ⟨by rw [E.out], hk.drewN 1⟩
    · have b1 : (Bur.fault pa pl == 0) = false := by simp [hf]
      have E : Hid (Bur.ppT pa pl = []) := if_neg hf
      clear hf
      go_wp2_with fail
      go_meet
      case rel => exact ⟨by rw [E.out], hk⟩
  case rest =>
  obtain ⟨rfl, hk⟩ := hcut
  have ⟨p0, p1, _, _, plt⟩ := hk.p
  have bs : (Bur.fault pa pl == Bur.fault pa pl) = true := by simp
  go_wp2_with fail
  refine (check_any _ _ _).mono ?_; rintro e w2 ⟨rfl, hb2⟩
  replace hk := hk.step hb2
  clear hb2 p0 p1 plt
  go_wp2_with fail
  refine (error_any _ _ _ hk.et).mono ?_; rintro e w3 ⟨rfl, hb3⟩
  replace hk := hk.step hb3
  clear hb3
  have ⟨p0, p1, _, _, plt⟩ := hk.p
  go_wp2_with fail
  refine (printPrefix_any _ _ _ hk.po).mono ?_; rintro e w4 ⟨rfl, hb4⟩
  replace hk := hk.step hb4
  clear hb4 p0 p1 plt
  go_wp2_with fail
  refine (error_any _ _ _ hk.et).mono ?_; rintro e w5 ⟨rfl, hb5⟩
  replace hk := hk.step hb5
  clear hb5
  go_wp2
  go_ret
  exact ⟨rfl, hk.bw⟩
end Go.Proofs.YtnnjegohoejlbaaDoor
