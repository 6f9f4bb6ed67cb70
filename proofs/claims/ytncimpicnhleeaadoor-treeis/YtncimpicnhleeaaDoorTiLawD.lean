/- The walk of the law TreeIs: one more, one less; the whole. -/
import Derived.Test.YtncimpicnhleeaaDoorTiLawC
namespace Go.Proofs.YtncimpicnhleeaaDoor
open Go.RowKit

set_option maxRecDepth 100000 in
set_option maxHeartbeats 8000000 in
theorem ti2 {l : List Bur.Sp} {q : Option Addr} {cap Bp : Nat} {x y a : Int} {w wx : World} {c1 c3 c5 c6 c8 c9 c10 c11 c12 c13 c14 c15 c16 c17 c18 c19 c20 c21 c22 c23 c24 c25 c26 c27 c28 c29 c30 c31 c32 c33 c34 c35 c36 c37 c38 c39 c40 c41 c42 c43 c44 c45 c46 c47 c48 c49 c50 c51 c52 c53 c54 c55 c56 c57 c58 c59 c60 c61 c62 c63 c64 c65 c66 c67 c68 c69 c70 c71 c72 c73 c74 c75 c76 c77 c78 c79 c80 c81 c82 c83 c84 c85 c86 c87 c88 c89 c90 c91 c92 c93 c94 c95 c96 c97 c98 c99 c100 c101 c102 c103 c104 c105 c106 c107 c108 c109 c110 c111 c112 c113 c114 c115 c116 c117 c118 c119 c120 c121 c122 c123 c124 c125 c126 c127 c128 c129 c130 c131 c132 c133 c134 c135 c136 c137 c138 c139 c140 c141 c142 c143 c144 c145 c146 c147 c148 c149 c150 c151 c152 c153 c154 c155 c156 c157 c158 c159 c160 c161 c162 c163 c164 c165 c166 c167 c168 c169 c170 c171 c172 c173 c174 c175 c176 c177 c178 c179 c180 c181 c182 c183 c184 c185 c186 c187 c188 c189 c190 : Value} (ll : l.length ≤ 9223372036854775807) (sl : SpAt wx q l) (pb : PfAt wx Bp (x, y)) (hT : ErrType wx) (hb : Below w.heap.size w wx) :
    Code.wp Tryd.prog (dropSeq 9 (Tryd.f3.body.getD .skip)) (bodyPost Tryd.prog Tryd.f3 fun e w' => e = .returned (.bool true) ∧ Below w.heap.size w w') ⟨#[.slice q l.length cap, c1, .int .i64 a, c3, .pointer (some ⟨Bp, 0, none⟩), c5, c6, .int .i64 (Bur.treF l), c8, c9, c10, c11, c12, c13, c14, c15, c16, c17, c18, c19, c20, c21, c22, c23, c24, c25, c26, c27, c28, c29, c30, c31, c32, c33, c34, c35, c36, c37, c38, c39, c40, c41, c42, c43, c44, c45, c46, c47, c48, c49, c50, c51, c52, c53, c54, c55, c56, c57, c58, c59, c60, c61, c62, c63, c64, c65, c66, c67, c68, c69, c70, c71, c72, c73, c74, c75, c76, c77, c78, c79, c80, c81, c82, c83, c84, c85, c86, c87, c88, c89, c90, c91, c92, c93, c94, c95, c96, c97, c98, c99, c100, c101, c102, c103, c104, c105, c106, c107, c108, c109, c110, c111, c112, c113, c114, c115, c116, c117, c118, c119, c120, c121, c122, c123, c124, c125, c126, c127, c128, c129, c130, c131, c132, c133, c134, c135, c136, c137, c138, c139, c140, c141, c142, c143, c144, c145, c146, c147, c148, c149, c150, c151, c152, c153, c154, c155, c156, c157, c158, c159, c160, c161, c162, c163, c164, c165, c166, c167, c168, c169, c170, c171, c172, c173, c174, c175, c176, c177, c178, c179, c180, c181, c182, c183, c184, c185, c186, c187, c188, c189, c190], []⟩ wx := by
  conv => arg 2; whnf
  have lp := Bur.drpS_le l (x, y)
  have HR := dropFrom_any q cap l (x, y) wx ll sl
  have HP := fun (w : World) (s : SpAt w q l) => drop_any q cap l (x, y) w ll s
  obtain ⟨F, hF⟩ : ∃ F, Bur.drpF l (x, y) = F := ⟨_, rfl⟩
  obtain ⟨D, hD⟩ : ∃ D, Bur.drpS l (x, y) = D := ⟨_, rfl⟩
  simp only [hF, hD] at HR HP lp
  clear hF hD
  have nF : (F == F) = true := by simp
  have pb0 := pb
  obtain ⟨p0, p1, p2⟩ := pb0
  go_wp2_with fail
  refine HR.mono ?_
  rintro e w1 ⟨q1, c1, rfl, s1, hb1⟩
  have hT1 := et_step hT hb1
  have sl1 := sl.step hb1
  have pb1 := pb.step hb1
  have hbA := below_via hb hb1
  clear hT sl pb hb hb1 p0 p1 p2 HR
  have pb0 := pb1
  obtain ⟨p0, p1, p2⟩ := pb0
  go_wp2_with fail
  refine (HP w1 sl1).mono ?_
  rintro e w2 ⟨q2, c2, rfl, s2, hb2⟩
  have hT2 := et_step hT1 hb2
  have sl2 := sl1.step hb2
  have pb2 := pb1.step hb2
  have t2 := s1.step hb2
  have hbB := below_via hbA hb2
  clear hT1 sl1 pb1 hbA hb2 p0 p1 p2 HP s1
  go_wp2_with fail
  refine (error_any F F w2 hT2).mono ?_
  rintro e w3 ⟨rfl, hb3⟩
  rw [nF]
  have hT3 := et_step hT2 hb3
  have sl3 := sl2.step hb3
  have pb3 := pb2.step hb3
  have s3 := s2.step hb3
  have t3 := t2.step hb3
  have hbC := below_via hbB hb3
  clear hT2 sl2 pb2 hbB hb3 s2 t2
  go_wp2_with fail
  refine (prefixes_same q2 q1 c2 c1 D w3 (by omega) s3 t3).mono ?_
  rintro e w4 ⟨rfl, hb4⟩
  have hT4 := et_step hT3 hb4
  have sl4 := sl3.step hb4
  have pb4 := pb3.step hb4
  have hbD := below_via hbC hb4
  clear hT3 sl3 pb3 hbC hb4 s3 t3
  go_upto_if 76 with fail
  go_cut [6] (fun _ wy => wy = w4)
  case first =>
    go_wp2_with fail
    go_meet
    case rel => exact rfl
  case rest =>
  subst hcut
  refine ‹∀ (a : Act) (w : World), Code.wp _ _ _ a w → _› _ _ ?_
  exact ti3 ll sl4 pb4 hT4 hbD

set_option maxRecDepth 100000 in
set_option maxHeartbeats 8000000 in
theorem ti1 {l : List Bur.Sp} {q : Option Addr} {cap Bp : Nat} {x y a : Int} {w wx : World} {c1 c3 c5 c6 c8 c9 c10 c11 c12 c13 c14 c15 c16 c17 c18 c19 c20 c21 c22 c23 c24 c25 c26 c27 c28 c29 c30 c31 c32 c33 c34 c35 c36 c37 c38 c39 c40 c41 c42 c43 c44 c45 c46 c47 c48 c49 c50 c51 c52 c53 c54 c55 c56 c57 c58 c59 c60 c61 c62 c63 c64 c65 c66 c67 c68 c69 c70 c71 c72 c73 c74 c75 c76 c77 c78 c79 c80 c81 c82 c83 c84 c85 c86 c87 c88 c89 c90 c91 c92 c93 c94 c95 c96 c97 c98 c99 c100 c101 c102 c103 c104 c105 c106 c107 c108 c109 c110 c111 c112 c113 c114 c115 c116 c117 c118 c119 c120 c121 c122 c123 c124 c125 c126 c127 c128 c129 c130 c131 c132 c133 c134 c135 c136 c137 c138 c139 c140 c141 c142 c143 c144 c145 c146 c147 c148 c149 c150 c151 c152 c153 c154 c155 c156 c157 c158 c159 c160 c161 c162 c163 c164 c165 c166 c167 c168 c169 c170 c171 c172 c173 c174 c175 c176 c177 c178 c179 c180 c181 c182 c183 c184 c185 c186 c187 c188 c189 c190 : Value} (ll : l.length ≤ 9223372036854775807) (sl : SpAt wx q l) (pb : PfAt wx Bp (x, y)) (hT : ErrType wx) (hb : Below w.heap.size w wx) :
    Code.wp Tryd.prog (dropSeq 4 (Tryd.f3.body.getD .skip)) (bodyPost Tryd.prog Tryd.f3 fun e w' => e = .returned (.bool true) ∧ Below w.heap.size w w') ⟨#[.slice q l.length cap, c1, .int .i64 a, c3, .pointer (some ⟨Bp, 0, none⟩), c5, c6, .int .i64 (Bur.treF l), c8, c9, c10, c11, c12, c13, c14, c15, c16, c17, c18, c19, c20, c21, c22, c23, c24, c25, c26, c27, c28, c29, c30, c31, c32, c33, c34, c35, c36, c37, c38, c39, c40, c41, c42, c43, c44, c45, c46, c47, c48, c49, c50, c51, c52, c53, c54, c55, c56, c57, c58, c59, c60, c61, c62, c63, c64, c65, c66, c67, c68, c69, c70, c71, c72, c73, c74, c75, c76, c77, c78, c79, c80, c81, c82, c83, c84, c85, c86, c87, c88, c89, c90, c91, c92, c93, c94, c95, c96, c97, c98, c99, c100, c101, c102, c103, c104, c105, c106, c107, c108, c109, c110, c111, c112, c113, c114, c115, c116, c117, c118, c119, c120, c121, c122, c123, c124, c125, c126, c127, c128, c129, c130, c131, c132, c133, c134, c135, c136, c137, c138, c139, c140, c141, c142, c143, c144, c145, c146, c147, c148, c149, c150, c151, c152, c153, c154, c155, c156, c157, c158, c159, c160, c161, c162, c163, c164, c165, c166, c167, c168, c169, c170, c171, c172, c173, c174, c175, c176, c177, c178, c179, c180, c181, c182, c183, c184, c185, c186, c187, c188, c189, c190], []⟩ wx := by
  conv => arg 2; whnf
  have lp := Bur.putS_le l (x, y)
  have HR := putIn_any q cap l (x, y) wx ll sl
  have HP := fun (w : World) (s : SpAt w q l) => put_any q cap l (x, y) w ll s
  obtain ⟨F, hF⟩ : ∃ F, Bur.putF l (x, y) = F := ⟨_, rfl⟩
  obtain ⟨D, hD⟩ : ∃ D, Bur.putS l (x, y) = D := ⟨_, rfl⟩
  simp only [hF, hD] at HR HP lp
  clear hF hD
  have nF : (F == F) = true := by simp
  have pb0 := pb
  obtain ⟨p0, p1, p2⟩ := pb0
  go_wp2_with fail
  refine HR.mono ?_
  rintro e w1 ⟨q1, c1, rfl, s1, hb1⟩
  have hT1 := et_step hT hb1
  have sl1 := sl.step hb1
  have pb1 := pb.step hb1
  have hbA := below_via hb hb1
  clear hT sl pb hb hb1 p0 p1 p2 HR
  have pb0 := pb1
  obtain ⟨p0, p1, p2⟩ := pb0
  go_wp2_with fail
  refine (HP w1 sl1).mono ?_
  rintro e w2 ⟨q2, c2, rfl, s2, hb2⟩
  have hT2 := et_step hT1 hb2
  have sl2 := sl1.step hb2
  have pb2 := pb1.step hb2
  have t2 := s1.step hb2
  have hbB := below_via hbA hb2
  clear hT1 sl1 pb1 hbA hb2 p0 p1 p2 HP s1
  go_wp2_with fail
  refine (error_any F F w2 hT2).mono ?_
  rintro e w3 ⟨rfl, hb3⟩
  rw [nF]
  have hT3 := et_step hT2 hb3
  have sl3 := sl2.step hb3
  have pb3 := pb2.step hb3
  have s3 := s2.step hb3
  have t3 := t2.step hb3
  have hbC := below_via hbB hb3
  clear hT2 sl2 pb2 hbB hb3 s2 t2
  go_wp2_with fail
  refine (prefixes_same q2 q1 c2 c1 D w3 (by omega) s3 t3).mono ?_
  rintro e w4 ⟨rfl, hb4⟩
  have hT4 := et_step hT3 hb4
  have sl4 := sl3.step hb4
  have pb4 := pb3.step hb4
  have hbD := below_via hbC hb4
  clear hT3 sl3 pb3 hbC hb4 s3 t3
  go_upto_if 52 with fail
  go_cut [6] (fun _ wy => wy = w4)
  case first =>
    go_wp2_with fail
    go_meet
    case rel => exact rfl
  case rest =>
  subst hcut
  refine ‹∀ (a : Act) (w : World), Code.wp _ _ _ a w → _› _ _ ?_
  exact ti2 ll sl4 pb4 hT4 hbD

set_option maxRecDepth 100000 in
set_option maxHeartbeats 8000000 in
theorem law_is (x y a : Int) (l : List Bur.Sp) (q : Option Addr) (cap : Nat) (w : World) (ll : l.length ≤ 9223372036854775807) (sl : SpAt w q l) (hT : ErrType w) :
    Calls Tryd.prog 3 #[.slice q l.length cap, pfx x y, .int .i64 a] w fun e w' => e = .returned (.bool true) ∧ Below w.heap.size w w' := by
  have pb : PfAt (w.alloc (.cells #[.int .i64 x, .int .i64 y] 24)) w.heap.size (x, y) := PfAt.new w x y
  have hb0 : Below w.heap.size w (w.alloc (.cells #[.int .i64 x, .int .i64 y] 24)) := below_al (below_self _) _
  have sl0 := sl.step hb0
  have hT0 := et_step hT hb0
  have nF : (Bur.treF l == Bur.treF l) = true := by simp
  clear sl hT
  go_enter Tryd.func3, Tryd.ntmps3
  go_wp2_with fail
  obtain ⟨Bp, hBp⟩ : ∃ Bp, w.heap.size = Bp := ⟨_, rfl⟩
  obtain ⟨W, hW⟩ : ∃ W, w.alloc (.cells #[.int .i64 x, .int .i64 y] 24) = W := ⟨_, rfl⟩
  rw [hBp] at pb ⊢
  rw [hW] at pb hb0 sl0 hT0 ⊢
  clear hW
  refine (treeFault q cap l W ll sl0).mono ?_
  rintro e w1 ⟨rfl, hb1⟩
  have hT1 := et_step hT0 hb1
  have sl1 := sl0.step hb1
  have pb1 := pb.step hb1
  have hbA := below_via hb0 hb1
  clear hT0 sl0 pb hb0 hb1
  go_wp2_with fail
  refine (tcheck q cap l w1 ll sl1).mono ?_
  rintro e w2 ⟨rfl, hb2⟩
  have hT2 := et_step hT1 hb2
  have sl2 := sl1.step hb2
  have pb2 := pb1.step hb2
  have hbB := below_via hbA hb2
  clear hT1 sl1 pb1 hbA hb2
  go_wp2_with fail
  refine (error_any _ _ w2 hT2).mono ?_
  rintro e w3 ⟨rfl, hb3⟩
  rw [nF]
  have hT3 := et_step hT2 hb3
  have sl3 := sl2.step hb3
  have pb3 := pb2.step hb3
  have hbC := below_via hbB hb3
  clear hT2 sl2 pb2 hbB hb3
  go_upto_if 28 with fail
  go_cut [6] (fun _ wy => wy = w3)
  case first =>
    go_wp2_with fail
    go_meet
    case rel => exact rfl
  case rest =>
  subst hcut
  refine ‹∀ (a : Act) (w : World), Code.wp _ _ _ a w → _› _ _ ?_
  exact ti1 ll sl3 pb3 hT3 hbC
end Go.Proofs.YtncimpicnhleeaaDoor
