/- The walk of the law AddrBack: its first pieces, and the whole. -/
import Derived.Test.YtnnjegohoejlbaaDoorAdBackB
namespace Go.Proofs.YtnnjegohoejlbaaDoor
open Go.RowKit

set_option maxRecDepth 100000 in
set_option maxHeartbeats 4000000 in
theorem back2 {pa pl a b : Int} {w wx : World} {c3 c4 c6 c7 c8 c9 c10 c11 c12 c13 c14 c15 c16 c17 c18 c19 c20 c21 c22 c23 c24 c25 c26 c27 c28 c29 c30 c31 c32 c33 c34 c35 c36 c37 c38 c39 c40 c41 c42 c43 c44 c45 c46 c47 c48 c49 c50 c51 c52 c53 c54 c55 c56 c57 c58 c59 c60 c61 c62 c63 c64 c65 c66 c67 c68 c69 c70 c71 c72 c73 c74 c75 c76 c77 c78 c79 c80 c81 c82 c83 c84 c85 c86 c87 c88 c89 c90 c91 c92 c93 c94 c95 c96 c97 c98 c99 c100 c101 c102 c103 c104 c105 c106 c107 c108 c109 c110 c111 c112 c113 c114 c115 c116 c117 c118 c119 c120 c121 c122 c123 c124 c125 c126 c127 c128 c129 c130 c131 c132 c133 c134 c135 c136 c137 c138 c139 c140 c141 c142 c143 c144 c145 c146 c147 c148 c149 c150 c151 c152 c153 c154 c155 c156 c157 c158 c159 c160 c161 c162 c163 c164 c165 c166 c167 c168 c169 c170 c171 c172 c173 c174 c175 c176 c177 c178 c179 c180 c181 c182 c183 c184 c185 c186 c187 c188 c189 c190 c191 c192 c193 c194 c195 c196 c197 c198 c199 c200 c201 c202 c203 c204 c205 c206 c207 c208 c209 c210 c211 c212 c213 c214 c215 c216 c217 c218 c219 c220 c221 c222 c223 c224 c225 c226 c227 c228 c229 c230 c231 c232 c233 c234 c235 c236 c237 c238 : Value} (hk : BK pa pl w wx) :
    Code.wp Tryd.prog (dropSeq 5 (Tryd.f5.body.getD .skip)) (bodyPost Tryd.prog Tryd.f5 fun e w' => e = .returned (.bool true) ∧ Below w.heap.size w w') ⟨#[.int .i64 a, .int .i64 b, pfx pa pl, c3, c4, .pointer (some ⟨w.heap.size, 0, none⟩), c6, c7, c8, c9, c10, c11, c12, c13, c14, c15, c16, c17, c18, c19, c20, c21, c22, c23, c24, c25, c26, c27, c28, c29, c30, c31, c32, c33, c34, c35, c36, c37, c38, c39, c40, c41, c42, c43, c44, c45, c46, c47, c48, c49, c50, c51, c52, c53, c54, c55, c56, c57, c58, c59, c60, c61, c62, c63, c64, c65, c66, c67, c68, c69, c70, c71, c72, c73, c74, c75, c76, c77, c78, c79, c80, c81, c82, c83, c84, c85, c86, c87, c88, c89, c90, c91, c92, c93, c94, c95, c96, c97, c98, c99, c100, c101, c102, c103, c104, c105, c106, c107, c108, c109, c110, c111, c112, c113, c114, c115, c116, c117, c118, c119, c120, c121, c122, c123, c124, c125, c126, c127, c128, c129, c130, c131, c132, c133, c134, c135, c136, c137, c138, c139, c140, c141, c142, c143, c144, c145, c146, c147, c148, c149, c150, c151, c152, c153, c154, c155, c156, c157, c158, c159, c160, c161, c162, c163, c164, c165, c166, c167, c168, c169, c170, c171, c172, c173, c174, c175, c176, c177, c178, c179, c180, c181, c182, c183, c184, c185, c186, c187, c188, c189, c190, c191, c192, c193, c194, c195, c196, c197, c198, c199, c200, c201, c202, c203, c204, c205, c206, c207, c208, c209, c210, c211, c212, c213, c214, c215, c216, c217, c218, c219, c220, c221, c222, c223, c224, c225, c226, c227, c228, c229, c230, c231, c232, c233, c234, c235, c236, c237, c238], []⟩ wx := by
  conv => arg 2; whnf
  have ⟨p0, p1, _, _, plt⟩ := hk.p
  go_wp2_with fail
  by_cases hf : Bur.fault pa pl = 0
  · refine (printPrefix_ok _ _ _ hf hk.po).mono ?_; rintro e w1 ⟨rfl, hb1⟩
    replace hk := hk.step hb1
    clear hb1 p0 p1 plt
    go_upto_if 72 with fail
    go_cut [] (fun wy => BK pa pl w wy)
    case first =>
      obtain ⟨e1, e2, e3⟩ := Bur.pre_txt hf
      have E1 : Hid _ := e1
      have E2 : Hid _ := e2
      have E3 : Hid _ := e3
      clear e1 e2 e3
      go_wp2_with fail
      refine (parsePrefix _ _ (by have := Bur.txtP_len hf; omega) hk.mx).mono ?_; rintro e w2 ⟨rfl, hb2⟩
      rw [E1.out, E2.out, E3.out, ev_0]
      replace hk := hk.step hb2
      have ⟨p0, p1, _, _, plt⟩ := hk.p
      clear hb2
      go_wp2_with fail
      go_meet
      case rel => exact hk.alloc _
    case rest =>
    refine ‹∀ (a : Act) (w : World), Code.wp _ _ _ a w → _› _ _ ?_
    exact back3 hcut
  · refine (printPrefix_no _ _ _ hf).mono ?_; rintro e w1 ⟨rfl, hb1⟩
    replace hk := hk.step hb1
    clear hb1 p0 p1 plt
    go_upto_if 72 with fail
    go_cut [] (fun wy => BK pa pl w wy)
    case first =>
      go_wp2_with fail
      go_meet
      case rel => exact hk
    case rest =>
    refine ‹∀ (a : Act) (w : World), Code.wp _ _ _ a w → _› _ _ ?_
    exact back3 hcut

theorem fact_adr : Bur.adr [49, 48, 46, 48, 46, 48, 46, 49] = 167772161 ∧ Bur.adrF [49, 48, 46, 48, 46, 48, 46, 49] = 0 := by decide +kernel

set_option maxRecDepth 100000 in
set_option maxHeartbeats 4000000 in
theorem law_back (a b pa pl : Int) (w : World) (hpo : Pow10 w) (hmx : MaxL w) :
    Calls Tryd.prog 5 #[.int .i64 a, .int .i64 b, pfx pa pl] w fun e w' => e = .returned (.bool true) ∧ Below w.heap.size w w' := by
  have hk : BK pa pl w (w.alloc (pcs pa pl)) := ⟨Pf.new w pa pl, hpo.alloc _, hmx.alloc _, below_al (below_self _) _⟩
  clear hpo hmx
  go_enter Tryd.func5, Tryd.ntmps5
  go_wp2_with fail
  refine (parse [49, 48, 46, 48, 46, 48, 46, 49] _ (by decide) hk.mx).mono ?_; rintro e w1 ⟨rfl, hb1⟩
  rw [fact_adr.1, fact_adr.2, ev_0]
  replace hk := hk.step hb1
  clear hb1
  go_wp2_with fail
  cases ha : Bur.isA a
  · refine (print_no _ _ ha).mono ?_; rintro e w2 ⟨rfl, hb2⟩
    replace hk := hk.step hb2
    clear hb2
    go_upto_if 53 with fail
    go_cut [] (fun wy => BK pa pl w wy)
    case first =>
      go_wp2_with fail
      go_meet
      case rel => exact hk
    case rest =>
    refine ‹∀ (a : Act) (w : World), Code.wp _ _ _ a w → _› _ _ ?_
    exact back2 hcut
  · refine (print_ok _ _ ha hk.po).mono ?_; rintro e w2 ⟨rfl, hb2⟩
    replace hk := hk.step hb2
    clear hb2
    go_upto_if 53 with fail
    go_cut [] (fun wy => BK pa pl w wy)
    case first =>
      obtain ⟨e1, e2⟩ := Bur.adr_txt ha
      have E1 : Hid _ := e1
      have E2 : Hid _ := e2
      clear e1 e2
      go_wp2_with fail
      refine (parse _ _ (by have := Bur.txtA_len ha; omega) hk.mx).mono ?_; rintro e w3 ⟨rfl, hb3⟩
      rw [E1.out, E2.out, ev_0]
      replace hk := hk.step hb3
      clear hb3
      go_wp2_with fail
      go_meet
      case rel => exact hk
    case rest =>
    refine ‹∀ (a : Act) (w : World), Code.wp _ _ _ a w → _› _ _ ?_
    exact back2 hcut
end Go.Proofs.YtnnjegohoejlbaaDoor
