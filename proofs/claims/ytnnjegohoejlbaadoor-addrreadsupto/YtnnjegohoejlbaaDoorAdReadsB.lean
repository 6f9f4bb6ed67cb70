/- The walk of the law AddrReads: its first pieces, and the whole. -/
import Derived.Test.YtnnjegohoejlbaaDoorAdReadsA
namespace Go.Proofs.YtnnjegohoejlbaaDoor
open Go.RowKit

set_option maxRecDepth 100000 in
set_option maxHeartbeats 4000000 in
theorem reads2 {pa pl a : Int} {s t : List UInt8} {w wx : World} {c4 c5 c6 c8 c9 c10 c11 c12 c13 c14 c15 c16 c17 c18 c19 c20 c21 c22 c23 c24 c25 c26 c27 c28 c29 c30 c31 c32 c33 c34 c35 c36 c37 c38 c39 c40 c41 c42 c43 c44 c45 c46 c47 c48 c49 c50 c51 c52 c53 c54 c55 c56 c57 c58 c59 c60 c61 c62 c63 c64 c65 c66 c67 c68 c69 c70 c71 c72 c73 c74 c75 c76 c77 c78 c79 c80 c81 c82 c83 c84 c85 c86 c87 c88 c89 c90 c91 c92 c93 c94 c95 c96 c97 c98 c99 c100 c101 c102 c103 c104 c105 c106 c107 c108 c109 c110 c111 c112 c113 c114 c115 c116 c117 c118 c119 c120 c121 c122 : Value} (ht : t.length < 4294967281) (hk : RK pa pl w wx) :
    Code.wp Tryd.prog (dropSeq 12 (Tryd.f3.body.getD .skip)) (bodyPost Tryd.prog Tryd.f3 fun e w' => e = .returned (.bool true) ∧ Below w.heap.size w w') ⟨#[.string ⟨s.toArray⟩, .int .i64 a, .string ⟨t.toArray⟩, pfx pa pl, c4, c5, c6, .pointer (some ⟨w.heap.size, 0, none⟩), c8, c9, c10, c11, c12, c13, c14, c15, c16, c17, c18, c19, c20, c21, c22, c23, c24, c25, c26, c27, c28, c29, c30, c31, c32, c33, c34, c35, c36, c37, c38, c39, c40, c41, c42, c43, c44, c45, c46, c47, c48, c49, c50, c51, c52, c53, c54, c55, c56, c57, c58, c59, c60, c61, c62, c63, c64, c65, c66, c67, c68, c69, c70, c71, c72, c73, c74, c75, c76, c77, c78, c79, c80, c81, c82, c83, c84, c85, c86, c87, c88, c89, c90, c91, c92, c93, c94, c95, c96, c97, c98, c99, c100, c101, c102, c103, c104, c105, c106, c107, c108, c109, c110, c111, c112, c113, c114, c115, c116, c117, c118, c119, c120, c121, c122], []⟩ wx := by
  conv => arg 2; whnf
  go_wp2_with fail
  refine (refPrefixOf _ _ ht).mono ?_; rintro e w1 ⟨rfl, hb1⟩
  replace hk := hk.step hb1
  clear hb1
  obtain ⟨X, hX⟩ : ∃ X, Hid (w1.heap.size = X) := ⟨_, rfl⟩
  have cX := Pf.newFor hX.out (Bur.pfA t) (Bur.pfL t)
  go_wp2_with fail
  rw [hX.out]
  replace hk := hk.alloc (pcs (Bur.pfA t) (Bur.pfL t))
  clear hX
  generalize w1.alloc (pcs (Bur.pfA t) (Bur.pfL t)) = W1 at *
  refine (parsePrefix _ _ ht hk.mx).mono ?_; rintro e w2 ⟨rfl, hb2⟩
  replace hk := hk.step hb2
  replace cX := cX.step hb2
  clear hb2
  obtain ⟨Y, hY⟩ : ∃ Y, Hid (w2.heap.size = Y) := ⟨_, rfl⟩
  have cY := Pf.newFor hY.out (Bur.pfA t) (Bur.pfL t)
  go_wp2_with fail
  rw [hY.out]
  replace hk := hk.alloc (pcs (Bur.pfA t) (Bur.pfL t))
  replace cX := cX.alloc (pcs (Bur.pfA t) (Bur.pfL t))
  clear hY
  generalize w2.alloc (pcs (Bur.pfA t) (Bur.pfL t)) = W2 at *
  refine (error_any _ _ _ hk.et).mono ?_; rintro e w3 ⟨rfl, hb3⟩
  replace hk := hk.step hb3
  replace cX := cX.step hb3
  replace cY := cY.step hb3
  clear hb3
  have ⟨x0, x1, _, _, xlt⟩ := cX
  have ⟨y0, y1, _, _, ylt⟩ := cY
  have bs : (Bur.pfF t == Bur.pfF t) = true := by simp
  have b1 : (Bur.pfA t != Bur.pfA t) = false := by simp
  have b2 : (Bur.pfL t != Bur.pfL t) = false := by simp
  go_upto_region 19 with fail
  go_cut [89] (fun s wy => s = .bool false ∧ wy = w3)
  case first =>
    go_wp2_with fail
    go_meet
    case rel => exact ⟨rfl, rfl⟩
  case rest =>
  obtain ⟨rfl, rfl⟩ := hcut
  clear x0 x1 xlt y0 y1 ylt bs b1 b2
  go_upto_if 89 with fail
  go_cut [] (fun wy => RK pa pl w wy)
  case first =>
    go_wp2_with fail
    go_meet
    case rel => exact hk
  case rest =>
  refine ‹∀ (a : Act) (w : World), Code.wp _ _ _ a w → _› _ _ ?_
  exact reads3 hcut

set_option maxRecDepth 100000 in
set_option maxHeartbeats 4000000 in
theorem reads1 {pa pl a : Int} {s t : List UInt8} {w wx : World} {c4 c5 c6 c8 c9 c10 c11 c12 c13 c14 c15 c16 c17 c18 c19 c20 c21 c22 c23 c24 c25 c26 c27 c28 c29 c30 c31 c32 c33 c34 c35 c36 c37 c38 c39 c40 c41 c42 c43 c44 c45 c46 c47 c48 c49 c50 c51 c52 c53 c54 c55 c56 c57 c58 c59 c60 c61 c62 c63 c64 c65 c66 c67 c68 c69 c70 c71 c72 c73 c74 c75 c76 c77 c78 c79 c80 c81 c82 c83 c84 c85 c86 c87 c88 c89 c90 c91 c92 c93 c94 c95 c96 c97 c98 c99 c100 c101 c102 c103 c104 c105 c106 c107 c108 c109 c110 c111 c112 c113 c114 c115 c116 c117 c118 c119 c120 c121 c122 : Value} (ht : t.length < 4294967281) (hk : RK pa pl w wx) :
    Code.wp Tryd.prog (dropSeq 5 (Tryd.f3.body.getD .skip)) (bodyPost Tryd.prog Tryd.f3 fun e w' => e = .returned (.bool true) ∧ Below w.heap.size w w') ⟨#[.string ⟨s.toArray⟩, .int .i64 a, .string ⟨t.toArray⟩, pfx pa pl, c4, c5, c6, .pointer (some ⟨w.heap.size, 0, none⟩), c8, c9, c10, c11, c12, c13, c14, c15, c16, c17, c18, c19, c20, c21, c22, c23, c24, c25, c26, c27, c28, c29, c30, c31, c32, c33, c34, c35, c36, c37, c38, c39, c40, c41, c42, c43, c44, c45, c46, c47, c48, c49, c50, c51, c52, c53, c54, c55, c56, c57, c58, c59, c60, c61, c62, c63, c64, c65, c66, c67, c68, c69, c70, c71, c72, c73, c74, c75, c76, c77, c78, c79, c80, c81, c82, c83, c84, c85, c86, c87, c88, c89, c90, c91, c92, c93, c94, c95, c96, c97, c98, c99, c100, c101, c102, c103, c104, c105, c106, c107, c108, c109, c110, c111, c112, c113, c114, c115, c116, c117, c118, c119, c120, c121, c122], []⟩ wx := by
  conv => arg 2; whnf
  go_wp2_with fail
  refine (refIsAddr _ _).mono ?_; rintro e w1 ⟨rfl, h1⟩; replace h1 := h1.symm; subst h1
  go_upto_if 43 with fail
  go_cut [10, 14, 15, 41, 42, 43] (fun e s _ _ _ _ wy => e = .int .i64 (Bur.prF a) ∧ s = .string ⟨(Bur.prT a).toArray⟩ ∧ RK pa pl w wy)
  case first =>
    cases h : Bur.isA a
    · have E1 : Hid (Bur.prF a = 1) := if_neg (by simp [h])
      have E2 : Hid (Bur.prT a = []) := if_neg (by simp [h])
      go_wp2_with fail
      go_meet
      case rel => exact ⟨by rw [E1.out], by rw [E2.out], hk⟩
    · have E1 : Hid (Bur.prF a = 0) := if_pos h
      have E2 : Hid (Bur.prT a = Bur.txtA a) := if_pos h
      go_wp2_with (go_at_call 10; refine (refTextOf _ _ h).mono ?_; rintro e w2 ⟨rfl, h2⟩; replace h2 := h2.symm; subst h2)
      go_meet
      case rel => exact ⟨by rw [E1.out], by rw [E2.out], hk⟩
  case rest =>
  clear hk
  obtain ⟨rfl, rfl, hk⟩ := hcut
  go_wp2_with fail
  refine (print_any _ _ hk.po).mono ?_; rintro e w4 ⟨rfl, hb4⟩
  replace hk := hk.step hb4
  clear hb4
  go_wp2_with fail
  refine (error_any _ _ _ hk.et).mono ?_; rintro e w5 ⟨rfl, hb5⟩
  replace hk := hk.step hb5
  clear hb5
  have bs : (Bur.prF a == Bur.prF a) = true := by simp
  go_upto_if 60 with fail
  go_cut [] (fun wy => RK pa pl w wy)
  case first =>
    go_wp2_with fail
    go_meet
    case rel => exact hk
  case rest =>
  refine ‹∀ (a : Act) (w : World), Code.wp _ _ _ a w → _› _ _ ?_
  exact reads2 ht hcut

set_option maxRecDepth 100000 in
set_option maxHeartbeats 4000000 in
theorem law_reads (s t : List UInt8) (a pa pl : Int) (w : World) (hs : s.length < 4294967281) (ht : t.length < 4294967281) (hpo : Pow10 w) (hmx : MaxL w) (het : ErrType w) :
    Calls Tryd.prog 3 #[.string ⟨s.toArray⟩, .int .i64 a, .string ⟨t.toArray⟩, pfx pa pl] w fun e w' => e = .returned (.bool true) ∧ Below w.heap.size w w' := by
  have hb0 : Below w.heap.size w (w.alloc (pcs pa pl)) := below_al (below_self _) _
  have hk : RK pa pl w (w.alloc (pcs pa pl)) := ⟨Pf.new w pa pl, hpo.alloc _, hmx.alloc _, het.step hb0, hb0⟩
  clear hpo hmx het hb0
  go_enter Tryd.func3, Tryd.ntmps3
  go_wp2_with fail
  refine (refAddrOf _ _ hs).mono ?_; rintro e w1 ⟨rfl, hb1⟩
  replace hk := hk.step hb1
  clear hb1
  go_wp2_with fail
  refine (parse _ _ hs hk.mx).mono ?_; rintro e w2 ⟨rfl, hb2⟩
  replace hk := hk.step hb2
  clear hb2
  go_wp2_with fail
  refine (error_any _ _ _ hk.et).mono ?_; rintro e w3 ⟨rfl, hb3⟩
  replace hk := hk.step hb3
  clear hb3
  have bs : (Bur.adrF s == Bur.adrF s) = true := by simp
  have b1 : (Bur.adr s != Bur.adr s) = false := by simp
  go_upto_if 39 with fail
  go_cut [] (fun wy => RK pa pl w wy)
  case first =>
    go_wp2_with fail
    go_meet
    case rel => exact hk
  case rest =>
  refine ‹∀ (a : Act) (w : World), Code.wp _ _ _ a w → _› _ _ ?_
  exact reads1 ht hcut
end Go.Proofs.YtnnjegohoejlbaaDoor
