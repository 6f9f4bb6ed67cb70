/- The walk of the law SpanLaws: its last pieces. -/
import Derived.Test.YtbajhdpgaimkkaaSpWalkG
import Derived.Test.YtbajhdpgaimkkaaSpLawMath
namespace Go.Proofs.Ytbajhdpgaimkkaa
open Go.RowKit

set_option maxRecDepth 100000 in
set_option maxHeartbeats 8000000 in
theorem laws4 {a b : List Bur.Sp} {x : Int} {pa pb pu pm pd : Option Addr} {ca cb cu cm cd : Nat} {w wx : World} {c3 c4 c5 c6 c7 c8 c9 c11 c13 c15 c16 c17 c18 c19 c20 c21 c22 c23 c24 c25 c26 c27 c28 c29 c30 c31 c32 c33 c34 c35 c36 c37 c38 c39 c40 c41 c42 c43 c44 c45 c46 c47 c48 c49 c50 c51 c52 c53 c54 c55 c56 c57 c58 c59 c60 c61 c62 c63 c64 c65 c66 c67 c68 c69 c70 c71 c72 c73 c74 c75 c76 c77 c78 c79 c80 c81 c82 c83 c84 c85 c86 c87 c88 c89 c90 c91 c92 c93 c94 c95 c96 c97 c98 c99 c100 c101 c102 c103 c104 c105 c106 c107 c108 c109 c110 c111 c112 c113 c114 c115 c116 c117 c118 c119 c120 c121 c122 c123 c124 c125 c126 c127 c128 c129 c130 c131 c132 c133 c134 c135 c136 c137 c138 c139 c140 c141 c142 c143 c144 c145 c146 c147 c148 c149 c150 c151 c152 c153 c154 c155 c156 c157 c158 c159 c160 c161 c162 c163 c164 c165 c166 c167 c168 c169 c170 c171 c172 c173 c174 c175 c176 c177 c178 c179 c180 c181 c182 c183 c184 c185 c186 c187 c188 c189 c190 c191 c192 c193 c194 c195 c196 c197 c198 c199 c200 c201 c202 c203 c204 c205 c206 c207 c208 c209 c210 c211 c212 c213 c214 c215 c216 c217 c218 c219 c220 c221 c222 c223 c224 c225 c226 c227 c228 c229 c230 c231 c232 c233 c234 c235 c236 c237 c238 c239 c240 c241 c242 c243 c244 c245 : Value}
    (fa : Bur.setF a = 0) (fb : Bur.setF b = 0) (fu : Bur.setF (Bur.two 1 a b) = 0) (fm : Bur.setF (Bur.two 2 a b) = 0) (fd : Bur.setF (Bur.two 3 a b) = 0) (sa : SpAt wx pa a) (sb : SpAt wx pb b) (su : SpAt wx pu (Bur.two 1 a b)) (sm : SpAt wx pm (Bur.two 2 a b)) (sd : SpAt wx pd (Bur.two 3 a b)) (hb : Below w.heap.size w wx) :
    Code.wp Try.prog (dropSeq 20 (Try.f3.body.getD .skip)) (bodyPost Try.prog Try.f3 fun e w' => e = .returned (.bool true) ∧ Below w.heap.size w w') ⟨#[.slice pa a.length ca, .slice pb b.length cb, .int .i64 x, c3, c4, c5, c6, c7, c8, c9, .slice pu (Bur.two 1 a b).length cu, c11, .slice pm (Bur.two 2 a b).length cm, c13, .slice pd (Bur.two 3 a b).length cd, c15, c16, c17, c18, c19, c20, c21, c22, c23, c24, c25, c26, c27, c28, c29, c30, c31, c32, c33, c34, c35, c36, c37, c38, c39, c40, c41, c42, c43, c44, c45, c46, c47, c48, c49, c50, c51, c52, c53, c54, c55, c56, c57, c58, c59, c60, c61, c62, c63, c64, c65, c66, c67, c68, c69, c70, c71, c72, c73, c74, c75, c76, c77, c78, c79, c80, c81, c82, c83, c84, c85, c86, c87, c88, c89, c90, c91, c92, c93, c94, c95, c96, c97, c98, c99, c100, c101, c102, c103, c104, c105, c106, c107, c108, c109, c110, c111, c112, c113, c114, c115, c116, c117, c118, c119, c120, c121, c122, c123, c124, c125, c126, c127, c128, c129, c130, c131, c132, c133, c134, c135, c136, c137, c138, c139, c140, c141, c142, c143, c144, c145, c146, c147, c148, c149, c150, c151, c152, c153, c154, c155, c156, c157, c158, c159, c160, c161, c162, c163, c164, c165, c166, c167, c168, c169, c170, c171, c172, c173, c174, c175, c176, c177, c178, c179, c180, c181, c182, c183, c184, c185, c186, c187, c188, c189, c190, c191, c192, c193, c194, c195, c196, c197, c198, c199, c200, c201, c202, c203, c204, c205, c206, c207, c208, c209, c210, c211, c212, c213, c214, c215, c216, c217, c218, c219, c220, c221, c222, c223, c224, c225, c226, c227, c228, c229, c230, c231, c232, c233, c234, c235, c236, c237, c238, c239, c240, c241, c242, c243, c244, c245], []⟩ wx := by
  have la := (Bur.setF_ok fa).1
  have lb := (Bur.setF_ok fb).1
  have lu := (Bur.setF_ok fu).1
  have lm := (Bur.setF_ok fm).1
  have ld := (Bur.setF_ok fd).1
  cases hx : Bur.isA x
  · have E1 : Hid (ev (Bur.haF a x) = errN 1) := by show _ = _; rw [Bur.haF_out fa hx]; rfl
    have E2 : Hid (ev (Bur.haF b x) = errN 1) := by show _ = _; rw [Bur.haF_out fb hx]; rfl
    clear hx fa fb fu fm fd su sm sd
    conv => arg 2; whnf
    go_wp2_with fail
    refine (has pa ca a x wx (by omega) sa).mono ?_; rintro e w1 ⟨rfl, hb1⟩
    rw [E1.out]
    replace sb := sb.step hb1
    replace hb := below_via hb hb1
    clear hb1 sa
    go_wp2_with fail
    refine (has pb cb b x w1 (by omega) sb).mono ?_; rintro e w2 ⟨rfl, hb1⟩
    rw [E2.out]
    replace hb := below_via hb hb1
    clear hb1 sb
    go_wp2_with fail
    go_ret
    exact ⟨rfl, hb⟩
  · have A := Bur.haF_in fa hx
    have B := Bur.haF_in fb hx
    have U := Bur.haF_in fu hx
    have M := Bur.haF_in fm hx
    have D := Bur.haF_in fd hx
    have EA : Hid (ev (Bur.haF a x) = .nilIface ∧ Bur.haB a x = Bur.mem a x) := ⟨by rw [A.1]; rfl, A.2⟩
    have EB : Hid (ev (Bur.haF b x) = .nilIface ∧ Bur.haB b x = Bur.mem b x) := ⟨by rw [B.1]; rfl, B.2⟩
    have EU : Hid (ev (Bur.haF (Bur.two 1 a b) x) = .nilIface ∧ Bur.haB (Bur.two 1 a b) x = (Bur.mem a x || Bur.mem b x)) := ⟨by rw [U.1]; rfl, by rw [U.2, Bur.two_mem fa fb, Bur.kp1]⟩
    have EM : Hid (ev (Bur.haF (Bur.two 2 a b) x) = .nilIface ∧ Bur.haB (Bur.two 2 a b) x = (Bur.mem a x && Bur.mem b x)) := ⟨by rw [M.1]; rfl, by rw [M.2, Bur.two_mem fa fb, Bur.kp2]⟩
    have ED : Hid (ev (Bur.haF (Bur.two 3 a b) x) = .nilIface ∧ Bur.haB (Bur.two 3 a b) x = (Bur.mem a x && !Bur.mem b x)) := ⟨by rw [D.1]; rfl, by rw [D.2, Bur.two_mem fa fb, Bur.kp3]⟩
    generalize Bur.mem a x = ba at *
    generalize Bur.mem b x = bb at *
    clear hx fa fb fu fm fd A B U M D
    conv => arg 2; whnf
    go_wp2_with fail
    refine (has pa ca a x wx (by omega) sa).mono ?_; rintro e w1 ⟨rfl, hb1⟩
    rw [EA.out.1, EA.out.2]
    replace sb := sb.step hb1
    replace su := su.step hb1
    replace sm := sm.step hb1
    replace sd := sd.step hb1
    replace hb := below_via hb hb1
    clear hb1 sa EA
    go_wp2_with fail
    refine (has pb cb b x w1 (by omega) sb).mono ?_; rintro e w2 ⟨rfl, hb1⟩
    rw [EB.out.1, EB.out.2]
    replace su := su.step hb1
    replace sm := sm.step hb1
    replace sd := sd.step hb1
    replace hb := below_via hb hb1
    clear hb1 sb EB
    go_wp2_with fail
    refine (has pu cu _ x w2 (by omega) su).mono ?_; rintro e w3 ⟨rfl, hb1⟩
    rw [EU.out.1, EU.out.2]
    replace sm := sm.step hb1
    replace sd := sd.step hb1
    replace hb := below_via hb hb1
    clear hb1 su EU
    go_wp2_with fail
    refine (has pm cm _ x w3 (by omega) sm).mono ?_; rintro e w4 ⟨rfl, hb1⟩
    rw [EM.out.1, EM.out.2]
    replace sd := sd.step hb1
    replace hb := below_via hb hb1
    clear hb1 sm EM
    go_wp2_with fail
    refine (has pd cd _ x w4 (by omega) sd).mono ?_; rintro e w5 ⟨rfl, hb1⟩
    rw [ED.out.1, ED.out.2]
    replace hb := below_via hb hb1
    clear hb1 sd ED
    go_upto_region 31 with fail
    cases ba <;> cases bb
    all_goals
      go_wp2_with fail
      go_ret
      exact ⟨rfl, hb⟩
end Go.Proofs.Ytbajhdpgaimkkaa
