/- The walk of the law TreeIs: its last piece. -/
import Derived.Test.YtncimpicnhleeaaDoorTrWalkL
import Derived.Test.YtncimpicnhleeaaDoorTrWalkM
import Derived.Test.YtncimpicnhleeaaDoorTrWalkK
import Derived.Test.YtncimpicnhleeaaDoorTrSame
import Derived.Test.YtncimpicnhleeaaDoorAdErr2
import Derived.Test.YtncimpicnhleeaaDoorTrMath4
import Derived.Deep.CutBlock
namespace Go.Proofs.YtncimpicnhleeaaDoor
open Go.RowKit

theorem et_step {w w' : World} (h : ErrType w) (hb : Below w.heap.size w w') : ErrType w' := (hb.cell (World.block_lt_of_cell? _ _ h)).trans h

set_option maxRecDepth 100000 in
set_option maxHeartbeats 8000000 in
/-- The last: what is above, below, and the roots. -/
theorem ti5 {l : List Bur.Sp} {q pa pd pr : Option Addr} {cap ca cd cr Bp : Nat} {x y : Int} {w wx : World} {c1 c2 c3 c5 c6 c8 c9 c11 c12 c13 c14 c15 c16 c17 c21 c22 c23 c24 c25 c26 c27 c28 c29 c30 c31 c32 c33 c34 c35 c36 c37 c38 c39 c40 c41 c42 c43 c44 c45 c46 c47 c48 c49 c50 c51 c52 c53 c54 c55 c56 c57 c58 c59 c60 c61 c62 c63 c64 c65 c66 c67 c68 c69 c70 c71 c72 c73 c74 c75 c76 c77 c78 c79 c80 c81 c82 c83 c84 c85 c86 c87 c88 c89 c90 c91 c92 c93 c94 c95 c96 c97 c98 c99 c100 c101 c102 c103 c104 c105 c106 c107 c108 c109 c110 c111 c112 c113 c114 c115 c116 c117 c118 c119 c120 c121 c122 c123 c124 c125 c126 c127 c128 c129 c130 c131 c132 c133 c134 c135 c136 c137 c138 c139 c140 c141 c142 c143 c144 c145 c146 c147 c148 c149 c150 c151 c152 c153 c154 c155 c156 c157 c158 c159 c160 c161 c162 c163 c164 c165 c166 c167 c168 c169 c170 c171 c172 c173 c174 c175 c176 c177 c178 c179 c180 c181 c182 c183 c184 c185 c186 c187 c188 c189 c190 : Value} (ll : l.length ≤ 9223372036854775807) (sl : SpAt wx q l) (pb : PfAt wx Bp (x, y)) (hT : ErrType wx) (sa : SpAt wx pa (Bur.abvS l (x, y))) (sd : SpAt wx pd (Bur.blwS l (x, y))) (sr : SpAt wx pr (Bur.rtsS l)) (hb : Below w.heap.size w wx) :
    Code.wp Tryd.prog (dropSeq 27 (Tryd.f3.body.getD .skip)) (bodyPost Tryd.prog Tryd.f3 fun e w' => e = .returned (.bool true) ∧ Below w.heap.size w w') ⟨#[.slice q l.length cap, c1, c2, c3, .pointer (some ⟨Bp, 0, none⟩), c5, c6, .int .i64 (Bur.treF l), c8, c9, .int .i64 (Bur.tpF l (x, y)), c11, c12, c13, c14, c15, c16, c17, .slice pa (Bur.abvS l (x, y)).length ca, .slice pd (Bur.blwS l (x, y)).length cd, .slice pr (Bur.rtsS l).length cr, c21, c22, c23, c24, c25, c26, c27, c28, c29, c30, c31, c32, c33, c34, c35, c36, c37, c38, c39, c40, c41, c42, c43, c44, c45, c46, c47, c48, c49, c50, c51, c52, c53, c54, c55, c56, c57, c58, c59, c60, c61, c62, c63, c64, c65, c66, c67, c68, c69, c70, c71, c72, c73, c74, c75, c76, c77, c78, c79, c80, c81, c82, c83, c84, c85, c86, c87, c88, c89, c90, c91, c92, c93, c94, c95, c96, c97, c98, c99, c100, c101, c102, c103, c104, c105, c106, c107, c108, c109, c110, c111, c112, c113, c114, c115, c116, c117, c118, c119, c120, c121, c122, c123, c124, c125, c126, c127, c128, c129, c130, c131, c132, c133, c134, c135, c136, c137, c138, c139, c140, c141, c142, c143, c144, c145, c146, c147, c148, c149, c150, c151, c152, c153, c154, c155, c156, c157, c158, c159, c160, c161, c162, c163, c164, c165, c166, c167, c168, c169, c170, c171, c172, c173, c174, c175, c176, c177, c178, c179, c180, c181, c182, c183, c184, c185, c186, c187, c188, c189, c190], []⟩ wx := by
  conv => arg 2; whnf
  have la := Bur.abvS_le l (x, y)
  have ld := Bur.blwS_le l (x, y)
  have lr := Bur.rtsS_le l
  have HA := fun (w : World) (s : SpAt w q l) => above_any q cap l (x, y) w ll s
  have HD := fun (w : World) (s : SpAt w q l) => below_any q cap l (x, y) w ll s
  have HR := fun (w : World) (s : SpAt w q l) => roots_any q cap l w ll s
  obtain ⟨E, hE⟩ : ∃ E, Bur.treF l = E := ⟨_, rfl⟩
  obtain ⟨F, hF⟩ : ∃ F, Bur.tpF l (x, y) = F := ⟨_, rfl⟩
  obtain ⟨U, hU⟩ : ∃ U, Bur.abvS l (x, y) = U := ⟨_, rfl⟩
  obtain ⟨D, hD⟩ : ∃ D, Bur.blwS l (x, y) = D := ⟨_, rfl⟩
  obtain ⟨R, hR⟩ : ∃ R, Bur.rtsS l = R := ⟨_, rfl⟩
  simp only [hE, hF, hU, hD, hR] at HA HD HR la ld lr sa sd sr ⊢
  clear hE hF hU hD hR
  have nE : (E == E) = true := by simp
  have nF : (F == F) = true := by simp
  have pb0 := pb
  obtain ⟨p0, p1, p2⟩ := pb0
  go_wp2_with fail
  refine (HA wx sl).mono ?_
  rintro e w1 ⟨q1, c1, rfl, s1, hb1⟩
  have hT1 := et_step hT hb1
  have sl1 := sl.step hb1
  have sa1 := sa.step hb1
  have sd1 := sd.step hb1
  have sr1 := sr.step hb1
  have pb1 := pb.step hb1
  have hbA := below_via hb hb1
  clear hT sl sa sd sr pb hb hb1 p0 p1 p2 HA
  go_wp2_with fail
  refine (error_any F F w1 hT1).mono ?_
  rintro e w2 ⟨rfl, hb2⟩
  rw [nF]
  have hT2 := et_step hT1 hb2
  have sl2 := sl1.step hb2
  have s2 := s1.step hb2
  have sa2 := sa1.step hb2
  have sd2 := sd1.step hb2
  have sr2 := sr1.step hb2
  have pb2 := pb1.step hb2
  have hbB := below_via hbA hb2
  clear hT1 sl1 s1 sa1 sd1 sr1 pb1 hbA hb2
  go_wp2_with fail
  refine (prefixes_same q1 pa c1 ca U w2 (by omega) s2 sa2).mono ?_
  rintro e w3 ⟨rfl, hb3⟩
  have hT3 := et_step hT2 hb3
  have sl3 := sl2.step hb3
  have sd3 := sd2.step hb3
  have sr3 := sr2.step hb3
  have pb3 := pb2.step hb3
  have hbC := below_via hbB hb3
  clear hT2 sl2 s2 sa2 sd2 sr2 pb2 hbB hb3
  have pb0 := pb3
  obtain ⟨p0, p1, p2⟩ := pb0
  go_wp2_with fail
  refine (HD w3 sl3).mono ?_
  rintro e w4 ⟨q4, c4, rfl, s4, hb4⟩
  have hT4 := et_step hT3 hb4
  have sl4 := sl3.step hb4
  have sd4 := sd3.step hb4
  have sr4 := sr3.step hb4
  have hbD := below_via hbC hb4
  clear hT3 sl3 sd3 sr3 pb3 hbC hb4 p0 p1 p2 HD
  go_wp2_with fail
  refine (error_any F F w4 hT4).mono ?_
  rintro e w5 ⟨rfl, hb5⟩
  rw [nF]
  have hT5 := et_step hT4 hb5
  have sl5 := sl4.step hb5
  have s5 := s4.step hb5
  have sd5 := sd4.step hb5
  have sr5 := sr4.step hb5
  have hbE := below_via hbD hb5
  clear hT4 sl4 s4 sd4 sr4 hbD hb5
  go_wp2_with fail
  refine (prefixes_same q4 pd c4 cd D w5 (by omega) s5 sd5).mono ?_
  rintro e w6 ⟨rfl, hb6⟩
  have hT6 := et_step hT5 hb6
  have sl6 := sl5.step hb6
  have sr6 := sr5.step hb6
  have hbF := below_via hbE hb6
  clear hT5 sl5 s5 sd5 sr5 hbE hb6
  go_wp2_with fail
  refine (HR w6 sl6).mono ?_
  rintro e w7 ⟨q7, c7, rfl, s7, hb7⟩
  have hT7 := et_step hT6 hb7
  have sr7 := sr6.step hb7
  have hbG := below_via hbF hb7
  clear hT6 sl6 sr6 hbF hb7 HR
  go_wp2_with fail
  refine (error_any E E w7 hT7).mono ?_
  rintro e w8 ⟨rfl, hb8⟩
  rw [nE]
  have s8 := s7.step hb8
  have sr8 := sr7.step hb8
  have hbH := below_via hbG hb8
  clear hT7 s7 sr7 hbG hb8
  go_wp2_with fail
  refine (prefixes_same q7 pr c7 cr R w8 (by omega) s8 sr8).mono ?_
  rintro e w9 ⟨rfl, hb9⟩
  have hbI := below_via hbH hb9
  clear s8 sr8 hbH hb9
  go_wp2_with fail
  go_ret
  exact ⟨rfl, hbI⟩
end Go.Proofs.YtncimpicnhleeaaDoor
