/- The walk of the law TreeIs: what is above, below and the roots, as the reference has it. -/
import Derived.Test.YtncimpicnhleeaaDoorTiLawA
import Derived.Test.YtncimpicnhleeaaDoorTrRefF
import Derived.Test.YtncimpicnhleeaaDoorTrRefH
namespace Go.Proofs.YtncimpicnhleeaaDoor
open Go.RowKit

set_option maxRecDepth 100000 in
set_option maxHeartbeats 8000000 in
theorem ti4 {l : List Bur.Sp} {q : Option Addr} {cap Bp : Nat} {x y : Int} {w wx : World} {c1 c2 c3 c5 c6 c8 c9 c10 c11 c12 c13 c14 c15 c16 c17 c18 c19 c20 c21 c22 c23 c24 c25 c26 c27 c28 c29 c30 c31 c32 c33 c34 c35 c36 c37 c38 c39 c40 c41 c42 c43 c44 c45 c46 c47 c48 c49 c50 c51 c52 c53 c54 c55 c56 c57 c58 c59 c60 c61 c62 c63 c64 c65 c66 c67 c68 c69 c70 c71 c72 c73 c74 c75 c76 c77 c78 c79 c80 c81 c82 c83 c84 c85 c86 c87 c88 c89 c90 c91 c92 c93 c94 c95 c96 c97 c98 c99 c100 c101 c102 c103 c104 c105 c106 c107 c108 c109 c110 c111 c112 c113 c114 c115 c116 c117 c118 c119 c120 c121 c122 c123 c124 c125 c126 c127 c128 c129 c130 c131 c132 c133 c134 c135 c136 c137 c138 c139 c140 c141 c142 c143 c144 c145 c146 c147 c148 c149 c150 c151 c152 c153 c154 c155 c156 c157 c158 c159 c160 c161 c162 c163 c164 c165 c166 c167 c168 c169 c170 c171 c172 c173 c174 c175 c176 c177 c178 c179 c180 c181 c182 c183 c184 c185 c186 c187 c188 c189 c190 : Value} (ll : l.length ≤ 9223372036854775807) (sl : SpAt wx q l) (pb : PfAt wx Bp (x, y)) (hT : ErrType wx) (hb : Below w.heap.size w wx) :
    Code.wp Tryd.prog (dropSeq 22 (Tryd.f3.body.getD .skip)) (bodyPost Tryd.prog Tryd.f3 fun e w' => e = .returned (.bool true) ∧ Below w.heap.size w w') ⟨#[.slice q l.length cap, c1, c2, c3, .pointer (some ⟨Bp, 0, none⟩), c5, c6, .int .i64 (Bur.treF l), c8, c9, c10, c11, c12, c13, c14, c15, c16, c17, c18, c19, c20, c21, c22, c23, c24, c25, c26, c27, c28, c29, c30, c31, c32, c33, c34, c35, c36, c37, c38, c39, c40, c41, c42, c43, c44, c45, c46, c47, c48, c49, c50, c51, c52, c53, c54, c55, c56, c57, c58, c59, c60, c61, c62, c63, c64, c65, c66, c67, c68, c69, c70, c71, c72, c73, c74, c75, c76, c77, c78, c79, c80, c81, c82, c83, c84, c85, c86, c87, c88, c89, c90, c91, c92, c93, c94, c95, c96, c97, c98, c99, c100, c101, c102, c103, c104, c105, c106, c107, c108, c109, c110, c111, c112, c113, c114, c115, c116, c117, c118, c119, c120, c121, c122, c123, c124, c125, c126, c127, c128, c129, c130, c131, c132, c133, c134, c135, c136, c137, c138, c139, c140, c141, c142, c143, c144, c145, c146, c147, c148, c149, c150, c151, c152, c153, c154, c155, c156, c157, c158, c159, c160, c161, c162, c163, c164, c165, c166, c167, c168, c169, c170, c171, c172, c173, c174, c175, c176, c177, c178, c179, c180, c181, c182, c183, c184, c185, c186, c187, c188, c189, c190], []⟩ wx := by
  conv => arg 2; whnf
  have pb0 := pb
  obtain ⟨p0, p1, p2⟩ := pb0
  go_upto_if 124 with fail
  go_cut [10] from 124 to 126 (fun fv wy => fv = .int .i64 (Bur.tpF l (x, y)) ∧ Below wx.heap.size wx wy)
  case first =>
    clear sl pb hT hb
    by_cases hF : Bur.treF l = 0
    · have E1 : Hid (Bur.tpF l (x, y) = Bur.fault x y) := if_pos hF
      have h0 : (Bur.treF l == 0) = true := by simpa using hF
      clear hF
      go_wp2_with fail
      refine (refFault x y wx).mono ?_
      rintro e w1 ⟨rfl, hb1⟩
      go_wp2_with fail
      go_meet
      case rel => exact ⟨by rw [E1.out], hb1⟩
    · have E1 : Hid (Bur.tpF l (x, y) = Bur.treF l) := if_neg hF
      have h0 : (Bur.treF l == 0) = false := by simpa using hF
      clear hF
      go_wp2_with fail
      go_meet
      case rel => exact ⟨by rw [E1.out], below_self _⟩
  case rest =>
  obtain ⟨rfl, hb1⟩ := hcut
  have sl1 := sl.step hb1
  have pb1 := pb.step hb1
  have hT1 := et_step hT hb1
  have hbA := below_via hb hb1
  clear sl pb hT hb hb1 p0 p1 p2
  obtain ⟨W, hW⟩ : ∃ W, W = wc := ⟨_, rfl⟩
  subst hW
  have pb0 := pb1
  obtain ⟨p0, p1, p2⟩ := pb0
  go_upto_if 128 with fail
  go_cut [18, 19] from 128 to 134 (fun av dv wy => ∃ (pa : Option Addr) (ca : Nat) (pd : Option Addr) (cd : Nat), av = .slice pa (Bur.abvS l (x, y)).length ca ∧ dv = .slice pd (Bur.blwS l (x, y)).length cd ∧ SpAt wy pa (Bur.abvS l (x, y)) ∧ SpAt wy pd (Bur.blwS l (x, y)) ∧ Below W.heap.size W wy)
  case first =>
    by_cases hF : Bur.tpF l (x, y) = 0
    · obtain ⟨t1, t2⟩ := Bur.tpF_ok hF
      have HA := aboveOf q cap l (x, y) W sl1 t1 t2
      have HD := fun (w : World) (s : SpAt w q l) => belowOfF q cap l (x, y) w s t1 t2
      have e1 : Bur.abvS l (x, y) = Bur.abv l (x, y) := if_pos hF
      have e2 : Bur.blwS l (x, y) = Bur.blw l (x, y) false := if_pos hF
      rw [← e1] at HA
      simp only [← e2] at HD
      obtain ⟨U, hU⟩ : ∃ U, Hid (Bur.abvS l (x, y) = U) := ⟨_, rfl⟩
      obtain ⟨D, hD⟩ : ∃ D, Hid (Bur.blwS l (x, y) = D) := ⟨_, rfl⟩
      simp only [hU.out, hD.out] at HA HD
      have h0 : (Bur.tpF l (x, y) == 0) = true := by simpa using hF
      clear e1 e2 hF t1 t2 hbA hT1
      go_wp2_with fail
      refine HA.mono ?_
      rintro e w2 ⟨pa, ca, rfl, sa, hb2⟩
      have sl2 := sl1.step hb2
      obtain ⟨r0, r1, r2⟩ := pb1.step hb2
      clear sl1 p0 p1 p2 pb1 HA
      go_wp2_with fail
      refine (HD w2 sl2).mono ?_
      rintro e w3 ⟨pd, cd, rfl, sd, hb3⟩
      have hb4 := below_via hb2 hb3
      have sa3 := sa.step hb3
      clear sl2 hb2 hb3 HD sa
      go_wp2_with fail
      go_meet
      case rel => exact ⟨pa, ca, pd, cd, by rw [hU.out], by rw [hD.out], by rw [hU.out]; exact sa3, by rw [hD.out]; exact sd, hb4⟩
    · have h0 : (Bur.tpF l (x, y) == 0) = false := by simpa using hF
      have e1 : Hid (Bur.abvS l (x, y) = []) := if_neg hF
      have e2 : Hid (Bur.blwS l (x, y) = []) := if_neg hF
      clear hF hbA hT1 sl1 pb1
      go_wp2_with fail
      go_meet
      case rel => exact ⟨none, 0, none, 0, by rw [e1.out]; rfl, by rw [e2.out]; rfl, by rw [e1.out]; exact SpAt.nil _ _, by rw [e2.out]; exact SpAt.nil _ _, below_self _⟩
  case rest =>
  obtain ⟨pa, ca, pd, cd, rfl, rfl, sa, sd, hb2⟩ := hcut
  have sl2 := sl1.step hb2
  have pb2 := pb1.step hb2
  have hT2 := et_step hT1 hb2
  have hbB := below_via hbA hb2
  clear sl1 pb1 hT1 hbA hb2 p0 p1 p2
  obtain ⟨V, hV⟩ : ∃ V, V = wc := ⟨_, rfl⟩
  subst hV
  have pb0 := pb2
  obtain ⟨p0, p1, p2⟩ := pb0
  go_upto_if 136 with fail
  go_cut [20] from 136 to 139 (fun rv wy => ∃ (pr : Option Addr) (cr : Nat), rv = .slice pr (Bur.rtsS l).length cr ∧ SpAt wy pr (Bur.rtsS l) ∧ Below V.heap.size V wy)
  case first =>
    by_cases hF : Bur.treF l = 0
    · have HR := belowOfT q cap l (x, y) V sl2 hF
      have e1 : Bur.rtsS l = Bur.blw l (x, y) true := (if_pos hF).trans (Bur.rts_keep l (x, y))
      rw [← e1] at HR
      obtain ⟨R, hR⟩ : ∃ R, Hid (Bur.rtsS l = R) := ⟨_, rfl⟩
      rw [hR.out] at HR
      have h0 : (Bur.treF l == 0) = true := by simpa using hF
      clear e1 hF hbB hT2 sa sd
      go_wp2_with fail
      refine HR.mono ?_
      rintro e w4 ⟨pr, cr, rfl, sr, hb4⟩
      clear sl2 pb2 HR p0 p1 p2
      go_wp2_with fail
      go_meet
      case rel => exact ⟨pr, cr, by rw [hR.out], by rw [hR.out]; exact sr, hb4⟩
    · have h0 : (Bur.treF l == 0) = false := by simpa using hF
      have e1 : Hid (Bur.rtsS l = []) := if_neg hF
      clear hF hbB hT2 sl2 pb2 sa sd
      go_wp2_with fail
      go_meet
      case rel => exact ⟨none, 0, by rw [e1.out]; rfl, by rw [e1.out]; exact SpAt.nil _ _, below_self _⟩
  case rest =>
  obtain ⟨pr, cr, rfl, sr, hb3⟩ := hcut
  refine ‹∀ (a : Act) (w : World), Code.wp _ _ _ a w → _› _ _ ?_
  exact ti5 ll (sl2.step hb3) (pb2.step hb3) (et_step hT2 hb3) (sa.step hb3) (sd.step hb3) sr (below_via hbB hb3)
end Go.Proofs.YtncimpicnhleeaaDoor
