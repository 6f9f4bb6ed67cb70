/- The walk of the law SpanLaws: its first pieces, and the whole. -/
import Derived.Test.YtbajhdpgaimkkaaSpLawA
namespace Go.Proofs.Ytbajhdpgaimkkaa
open Go.RowKit

set_option maxRecDepth 100000 in
set_option maxHeartbeats 8000000 in
theorem laws3 {a b : List Bur.Sp} {x : Int} {pa pb pu pm pd : Option Addr} {ca cb cu cm cd : Nat} {w wx : World} {c3 c4 c5 c6 c7 c8 c9 c11 c13 c15 c16 c17 c18 c19 c20 c21 c22 c23 c24 c25 c26 c27 c28 c29 c30 c31 c32 c33 c34 c35 c36 c37 c38 c39 c40 c41 c42 c43 c44 c45 c46 c47 c48 c49 c50 c51 c52 c53 c54 c55 c56 c57 c58 c59 c60 c61 c62 c63 c64 c65 c66 c67 c68 c69 c70 c71 c72 c73 c74 c75 c76 c77 c78 c79 c80 c81 c82 c83 c84 c85 c86 c87 c88 c89 c90 c91 c92 c93 c94 c95 c96 c97 c98 c99 c100 c101 c102 c103 c104 c105 c106 c107 c108 c109 c110 c111 c112 c113 c114 c115 c116 c117 c118 c119 c120 c121 c122 c123 c124 c125 c126 c127 c128 c129 c130 c131 c132 c133 c134 c135 c136 c137 c138 c139 c140 c141 c142 c143 c144 c145 c146 c147 c148 c149 c150 c151 c152 c153 c154 c155 c156 c157 c158 c159 c160 c161 c162 c163 c164 c165 c166 c167 c168 c169 c170 c171 c172 c173 c174 c175 c176 c177 c178 c179 c180 c181 c182 c183 c184 c185 c186 c187 c188 c189 c190 c191 c192 c193 c194 c195 c196 c197 c198 c199 c200 c201 c202 c203 c204 c205 c206 c207 c208 c209 c210 c211 c212 c213 c214 c215 c216 c217 c218 c219 c220 c221 c222 c223 c224 c225 c226 c227 c228 c229 c230 c231 c232 c233 c234 c235 c236 c237 c238 c239 c240 c241 c242 c243 c244 c245 : Value}
    (fa : Bur.setF a = 0) (fb : Bur.setF b = 0) (fu : Bur.setF (Bur.two 1 a b) = 0) (fm : Bur.setF (Bur.two 2 a b) = 0) (fd : Bur.setF (Bur.two 3 a b) = 0) (sa : SpAt wx pa a) (sb : SpAt wx pb b) (su : SpAt wx pu (Bur.two 1 a b)) (sm : SpAt wx pm (Bur.two 2 a b)) (sd : SpAt wx pd (Bur.two 3 a b)) (hb : Below w.heap.size w wx) :
    Code.wp Try.prog (dropSeq 15 (Try.f3.body.getD .skip)) (bodyPost Try.prog Try.f3 fun e w' => e = .returned (.bool true) ∧ Below w.heap.size w w') ⟨#[.slice pa a.length ca, .slice pb b.length cb, .int .i64 x, c3, c4, c5, c6, c7, c8, c9, .slice pu (Bur.two 1 a b).length cu, c11, .slice pm (Bur.two 2 a b).length cm, c13, .slice pd (Bur.two 3 a b).length cd, c15, c16, c17, c18, c19, c20, c21, c22, c23, c24, c25, c26, c27, c28, c29, c30, c31, c32, c33, c34, c35, c36, c37, c38, c39, c40, c41, c42, c43, c44, c45, c46, c47, c48, c49, c50, c51, c52, c53, c54, c55, c56, c57, c58, c59, c60, c61, c62, c63, c64, c65, c66, c67, c68, c69, c70, c71, c72, c73, c74, c75, c76, c77, c78, c79, c80, c81, c82, c83, c84, c85, c86, c87, c88, c89, c90, c91, c92, c93, c94, c95, c96, c97, c98, c99, c100, c101, c102, c103, c104, c105, c106, c107, c108, c109, c110, c111, c112, c113, c114, c115, c116, c117, c118, c119, c120, c121, c122, c123, c124, c125, c126, c127, c128, c129, c130, c131, c132, c133, c134, c135, c136, c137, c138, c139, c140, c141, c142, c143, c144, c145, c146, c147, c148, c149, c150, c151, c152, c153, c154, c155, c156, c157, c158, c159, c160, c161, c162, c163, c164, c165, c166, c167, c168, c169, c170, c171, c172, c173, c174, c175, c176, c177, c178, c179, c180, c181, c182, c183, c184, c185, c186, c187, c188, c189, c190, c191, c192, c193, c194, c195, c196, c197, c198, c199, c200, c201, c202, c203, c204, c205, c206, c207, c208, c209, c210, c211, c212, c213, c214, c215, c216, c217, c218, c219, c220, c221, c222, c223, c224, c225, c226, c227, c228, c229, c230, c231, c232, c233, c234, c235, c236, c237, c238, c239, c240, c241, c242, c243, c244, c245], []⟩ wx := by
  have la := (Bur.setF_ok fa).1
  have lb := (Bur.setF_ok fb).1
  have lu := (Bur.setF_ok fu).1
  have lm := (Bur.setF_ok fm).1
  have ld := (Bur.setF_ok fd).1
  have EA : Hid (ev (Bur.setF a) = .nilIface) := by show _ = _; rw [fa]; rfl
  have EB : Hid (ev (Bur.setF b) = .nilIface) := by show _ = _; rw [fb]; rfl
  have EU : Hid (ev (Bur.setF (Bur.two 1 a b)) = .nilIface) := by show _ = _; rw [fu]; rfl
  have EM : Hid (ev (Bur.setF (Bur.two 2 a b)) = .nilIface) := by show _ = _; rw [fm]; rfl
  have EC : Hid (Bur.cnF (Bur.two 1 a b) + Bur.cnF (Bur.two 2 a b) = Bur.cnF a + Bur.cnF b) := Bur.cnF_incl fa fb fu fm
  have na := Bur.cnF_bound fa
  have nb := Bur.cnF_bound fb
  have nu := Bur.cnF_bound fu
  have nm := Bur.cnF_bound fm
  have FA : Hid _ := fa
  have FB : Hid _ := fb
  have FU : Hid _ := fu
  have FM : Hid _ := fm
  have FD : Hid _ := fd
  clear fa fb fu fm fd
  obtain ⟨ka, hka⟩ : ∃ k, Hid (Bur.cnF a = k) := ⟨_, rfl⟩
  obtain ⟨kb, hkb⟩ : ∃ k, Hid (Bur.cnF b = k) := ⟨_, rfl⟩
  obtain ⟨ku, hku⟩ : ∃ k, Hid (Bur.cnF (Bur.two 1 a b) = k) := ⟨_, rfl⟩
  obtain ⟨km, hkm⟩ : ∃ k, Hid (Bur.cnF (Bur.two 2 a b) = k) := ⟨_, rfl⟩
  have EC' := EC.out
  rw [hka.out] at na EC'
  rw [hkb.out] at nb EC'
  rw [hku.out] at nu EC'
  rw [hkm.out] at nm EC'
  have bs : (ku + km != ka + kb) = false := by rw [EC']; simp
  clear EC EC'
  conv => arg 2; whnf
  go_wp2_with fail
  refine (count pu cu _ wx (by omega) su).mono ?_; rintro e w1 ⟨rfl, hb1⟩
  rw [EU.out, hku.out]
  replace sa := sa.step hb1
  replace sb := sb.step hb1
  replace su := su.step hb1
  replace sm := sm.step hb1
  replace sd := sd.step hb1
  replace hb := below_via hb hb1
  clear hb1 EU
  go_wp2_with fail
  refine (count pm cm _ w1 (by omega) sm).mono ?_; rintro e w2 ⟨rfl, hb1⟩
  rw [EM.out, hkm.out]
  replace sa := sa.step hb1
  replace sb := sb.step hb1
  replace su := su.step hb1
  replace sm := sm.step hb1
  replace sd := sd.step hb1
  replace hb := below_via hb hb1
  clear hb1 EM
  go_wp2_with fail
  refine (count pa ca _ w2 (by omega) sa).mono ?_; rintro e w3 ⟨rfl, hb1⟩
  rw [EA.out, hka.out]
  replace sa := sa.step hb1
  replace sb := sb.step hb1
  replace su := su.step hb1
  replace sm := sm.step hb1
  replace sd := sd.step hb1
  replace hb := below_via hb hb1
  clear hb1 EA
  go_wp2_with fail
  refine (count pb cb _ w3 (by omega) sb).mono ?_; rintro e w4 ⟨rfl, hb1⟩
  rw [EB.out, hkb.out]
  replace sa := sa.step hb1
  replace sb := sb.step hb1
  replace su := su.step hb1
  replace sm := sm.step hb1
  replace sd := sd.step hb1
  replace hb := below_via hb hb1
  clear hb1 EB
  go_upto_if 168 with fail
  go_cut [] (fun wy => wy = w4)
  case first =>
    go_wp2_with fail
    go_meet
    case rel => exact rfl
  case rest =>
  subst hcut
  refine ‹∀ (a : Act) (w : World), Code.wp _ _ _ a w → _› _ _ ?_
  exact laws4 FA.out FB.out FU.out FM.out FD.out sa sb su sm sd hb

set_option maxRecDepth 100000 in
set_option maxHeartbeats 8000000 in
theorem laws2 {a b : List Bur.Sp} {x : Int} {pa pb pu pm pd : Option Addr} {ca cb cu cm cd : Nat} {w wx : World} {c3 c4 c5 c6 c7 c8 c9 c11 c13 c15 c16 c17 c18 c19 c20 c21 c22 c23 c24 c25 c26 c27 c28 c29 c30 c31 c32 c33 c34 c35 c36 c37 c38 c39 c40 c41 c42 c43 c44 c45 c46 c47 c48 c49 c50 c51 c52 c53 c54 c55 c56 c57 c58 c59 c60 c61 c62 c63 c64 c65 c66 c67 c68 c69 c70 c71 c72 c73 c74 c75 c76 c77 c78 c79 c80 c81 c82 c83 c84 c85 c86 c87 c88 c89 c90 c91 c92 c93 c94 c95 c96 c97 c98 c99 c100 c101 c102 c103 c104 c105 c106 c107 c108 c109 c110 c111 c112 c113 c114 c115 c116 c117 c118 c119 c120 c121 c122 c123 c124 c125 c126 c127 c128 c129 c130 c131 c132 c133 c134 c135 c136 c137 c138 c139 c140 c141 c142 c143 c144 c145 c146 c147 c148 c149 c150 c151 c152 c153 c154 c155 c156 c157 c158 c159 c160 c161 c162 c163 c164 c165 c166 c167 c168 c169 c170 c171 c172 c173 c174 c175 c176 c177 c178 c179 c180 c181 c182 c183 c184 c185 c186 c187 c188 c189 c190 c191 c192 c193 c194 c195 c196 c197 c198 c199 c200 c201 c202 c203 c204 c205 c206 c207 c208 c209 c210 c211 c212 c213 c214 c215 c216 c217 c218 c219 c220 c221 c222 c223 c224 c225 c226 c227 c228 c229 c230 c231 c232 c233 c234 c235 c236 c237 c238 c239 c240 c241 c242 c243 c244 c245 : Value}
    (fa : Bur.setF a = 0) (fb : Bur.setF b = 0) (fu : Bur.setF (Bur.two 1 a b) = 0) (fm : Bur.setF (Bur.two 2 a b) = 0) (fd : Bur.setF (Bur.two 3 a b) = 0) (sa : SpAt wx pa a) (sb : SpAt wx pb b) (su : SpAt wx pu (Bur.two 1 a b)) (sm : SpAt wx pm (Bur.two 2 a b)) (sd : SpAt wx pd (Bur.two 3 a b)) (hb : Below w.heap.size w wx) :
    Code.wp Try.prog (dropSeq 8 (Try.f3.body.getD .skip)) (bodyPost Try.prog Try.f3 fun e w' => e = .returned (.bool true) ∧ Below w.heap.size w w') ⟨#[.slice pa a.length ca, .slice pb b.length cb, .int .i64 x, c3, c4, c5, c6, c7, c8, c9, .slice pu (Bur.two 1 a b).length cu, c11, .slice pm (Bur.two 2 a b).length cm, c13, .slice pd (Bur.two 3 a b).length cd, c15, c16, c17, c18, c19, c20, c21, c22, c23, c24, c25, c26, c27, c28, c29, c30, c31, c32, c33, c34, c35, c36, c37, c38, c39, c40, c41, c42, c43, c44, c45, c46, c47, c48, c49, c50, c51, c52, c53, c54, c55, c56, c57, c58, c59, c60, c61, c62, c63, c64, c65, c66, c67, c68, c69, c70, c71, c72, c73, c74, c75, c76, c77, c78, c79, c80, c81, c82, c83, c84, c85, c86, c87, c88, c89, c90, c91, c92, c93, c94, c95, c96, c97, c98, c99, c100, c101, c102, c103, c104, c105, c106, c107, c108, c109, c110, c111, c112, c113, c114, c115, c116, c117, c118, c119, c120, c121, c122, c123, c124, c125, c126, c127, c128, c129, c130, c131, c132, c133, c134, c135, c136, c137, c138, c139, c140, c141, c142, c143, c144, c145, c146, c147, c148, c149, c150, c151, c152, c153, c154, c155, c156, c157, c158, c159, c160, c161, c162, c163, c164, c165, c166, c167, c168, c169, c170, c171, c172, c173, c174, c175, c176, c177, c178, c179, c180, c181, c182, c183, c184, c185, c186, c187, c188, c189, c190, c191, c192, c193, c194, c195, c196, c197, c198, c199, c200, c201, c202, c203, c204, c205, c206, c207, c208, c209, c210, c211, c212, c213, c214, c215, c216, c217, c218, c219, c220, c221, c222, c223, c224, c225, c226, c227, c228, c229, c230, c231, c232, c233, c234, c235, c236, c237, c238, c239, c240, c241, c242, c243, c244, c245], []⟩ wx := by
  have la := (Bur.setF_ok fa).1
  have lb := (Bur.setF_ok fb).1
  have lu := (Bur.setF_ok fu).1
  have lm := (Bur.setF_ok fm).1
  have ld := (Bur.setF_ok fd).1
  have V : Bur.twF 1 b a = 0 ∧ Bur.twS 1 b a = Bur.two 1 a b := Bur.twF_mk fb fa fu (fun x => by rw [Bur.two_mem fa fb, Bur.kp1, Bur.kp1, Bool.or_comm])
  have T : Bur.twF 2 b a = 0 ∧ Bur.twS 2 b a = Bur.two 2 a b := Bur.twF_mk fb fa fm (fun x => by rw [Bur.two_mem fa fb, Bur.kp2, Bur.kp2, Bool.and_comm])
  have Y : Bur.twF 1 (Bur.two 2 a b) (Bur.two 3 a b) = 0 ∧ Bur.twS 1 (Bur.two 2 a b) (Bur.two 3 a b) = a := Bur.twF_mk fm fd fa (fun x => by rw [Bur.two_mem fa fb, Bur.two_mem fa fb, Bur.kp1, Bur.kp2, Bur.kp3]; cases Bur.mem a x <;> cases Bur.mem b x <;> rfl)
  have EV : Hid (ev (Bur.twF 1 b a) = .nilIface ∧ Bur.twS 1 b a = Bur.two 1 a b) := ⟨by rw [V.1]; rfl, V.2⟩
  have ET : Hid (ev (Bur.twF 2 b a) = .nilIface ∧ Bur.twS 2 b a = Bur.two 2 a b) := ⟨by rw [T.1]; rfl, T.2⟩
  have EY : Hid (ev (Bur.twF 1 (Bur.two 2 a b) (Bur.two 3 a b)) = .nilIface ∧ Bur.twS 1 (Bur.two 2 a b) (Bur.two 3 a b) = a) := ⟨by rw [Y.1]; rfl, Y.2⟩
  have FA : Hid _ := fa
  have FB : Hid _ := fb
  have FU : Hid _ := fu
  have FM : Hid _ := fm
  have FD : Hid _ := fd
  clear fa fb fu fm fd V T Y
  conv => arg 2; whnf
  go_wp2_with fail
  refine (spanUnion pb cb b pa ca a wx (by omega) (by omega) sb sa).mono ?_; rintro e w1 ⟨pv, cv, rfl, sv, hb1⟩
  rw [EV.out.2] at sv
  rw [EV.out.1, EV.out.2]
  replace sa := sa.step hb1
  replace sb := sb.step hb1
  replace su := su.step hb1
  replace sm := sm.step hb1
  replace sd := sd.step hb1
  replace hb := below_via hb hb1
  clear hb1 EV
  go_wp2_with fail
  refine (spanMeet pb cb b pa ca a w1 (by omega) (by omega) sb sa).mono ?_; rintro e w2 ⟨pt, ct, rfl, st, hb1⟩
  rw [ET.out.2] at st
  rw [ET.out.1, ET.out.2]
  replace sa := sa.step hb1
  replace sb := sb.step hb1
  replace su := su.step hb1
  replace sm := sm.step hb1
  replace sd := sd.step hb1
  replace sv := sv.step hb1
  replace hb := below_via hb hb1
  clear hb1 ET
  go_wp2_with fail
  refine (spanUnion pm cm _ pd cd _ w2 (by omega) (by omega) sm sd).mono ?_; rintro e w3 ⟨py, cy, rfl, sy, hb1⟩
  rw [EY.out.2] at sy
  rw [EY.out.1, EY.out.2]
  replace sa := sa.step hb1
  replace sb := sb.step hb1
  replace su := su.step hb1
  replace sm := sm.step hb1
  replace sd := sd.step hb1
  replace sv := sv.step hb1
  replace st := st.step hb1
  replace hb := below_via hb hb1
  clear hb1 EY
  go_wp2_with fail
  refine (spans_same pu pv cu cv _ w3 (by omega) su sv).mono ?_; rintro e w4 ⟨rfl, hb1⟩
  replace sa := sa.step hb1
  replace sb := sb.step hb1
  replace su := su.step hb1
  replace sm := sm.step hb1
  replace sd := sd.step hb1
  replace st := st.step hb1
  replace sy := sy.step hb1
  replace hb := below_via hb hb1
  clear hb1 sv
  go_wp2_with fail
  refine (spans_same pm pt cm ct _ w4 (by omega) sm st).mono ?_; rintro e w5 ⟨rfl, hb1⟩
  replace sa := sa.step hb1
  replace sb := sb.step hb1
  replace su := su.step hb1
  replace sm := sm.step hb1
  replace sd := sd.step hb1
  replace sy := sy.step hb1
  replace hb := below_via hb hb1
  clear hb1 st
  go_wp2_with fail
  refine (spans_same py pa cy ca a w5 (by omega) sy sa).mono ?_; rintro e w6 ⟨rfl, hb1⟩
  replace sa := sa.step hb1
  replace sb := sb.step hb1
  replace su := su.step hb1
  replace sm := sm.step hb1
  replace sd := sd.step hb1
  replace hb := below_via hb hb1
  clear hb1 sy
  go_upto_if 125 with fail
  go_cut [] (fun wy => wy = w6)
  case first =>
    go_wp2_with fail
    go_meet
    case rel => exact rfl
  case rest =>
  subst hcut
  refine ‹∀ (a : Act) (w : World), Code.wp _ _ _ a w → _› _ _ ?_
  exact laws3 FA.out FB.out FU.out FM.out FD.out sa sb su sm sd hb
end Go.Proofs.Ytbajhdpgaimkkaa
