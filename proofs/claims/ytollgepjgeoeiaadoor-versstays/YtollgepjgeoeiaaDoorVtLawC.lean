/- The walk of the law VersStays: its middle pieces. -/
import Derived.Test.YtollgepjgeoeiaaDoorVtLawB
namespace Go.Proofs.YtollgepjgeoeiaaDoor
open Go.RowKit

set_option maxRecDepth 100000 in
set_option maxHeartbeats 8000000 in
theorem vs4 {T : Tb} (V : Face T) {l : List Vs.Ver} {top a xe nn : Int} {key lo hi xv : ByteArray} {q q2 : Option Addr} {cq c2' Bt : Nat} {N : List Vs.Pr} {w wx : World} {c0 c1 c6 c7 c8 c9 c10 c11 c12 c14 c15 c16 c17 c18 c19 c20 c34 c35 c36 c37 c38 c39 c40 c41 c42 c43 c44 c45 c46 c47 c48 c49 c50 c51 c52 c53 c54 c55 c56 c57 c58 c59 c60 c61 c62 c63 c64 c65 c66 c67 c68 c69 c70 c71 c72 c73 c74 c75 c76 c77 c78 c79 c80 c81 c82 c83 c84 c85 c86 c87 c88 c89 c90 c91 c92 c93 c94 c95 c96 c97 c98 c99 c100 c101 c102 c103 c104 c105 c106 c107 c108 c109 c110 c111 c112 c113 c114 c115 c116 c117 c118 c119 c120 c121 c122 c123 c124 c125 c126 c127 c128 c129 c130 c131 c132 c133 c134 c135 c136 c137 c138 c139 c140 c141 c142 c143 c144 c145 c146 c147 c148 c149 c150 c151 c152 c153 c154 c155 c156 c157 c158 c159 c160 c161 c162 c163 c164 c165 c166 c167 c168 c169 c170 c171 c172 c173 c174 c175 c176 c177 c178 c179 c180 c181 c182 c183 c184 c185 c186 c187 c188 c189 c190 c191 c192 c193 c194 c195 c196 c197 c198 c199 c200 c201 c202 c203 c204 c205 c206 c207 c208 c209 c210 c211 c212 c213 c214 c215 c216 c217 c218 c219 c220 c221 c222 c223 c224 c225 c226 c227 c228 c229 c230 c231 c232 c233 c234 c235 c236 c237 c238 c239 c240 c241 c242 c243 c244 c245 c246 c247 c248 c249 c250 c251 c252 c253 c254 c255 c256 c257 c258 c259 c260 c261 c262 c263 c264 : Value}
    (ok : Vs.OkT l top) (ll : l.length ≤ 900) (h0 : 0 ≤ a) (h1 : a ≤ 1000000) (hnn : 0 ≤ nn) (hk : key.size ≤ maxLen) (hx1 : Hid (Vs.gtS l key a = xv)) (hx2 : Hid (Vs.gtF l key a = xe)) (hN : Hid (Vs.vrng l lo hi a = N)) (hNl : N.length ≤ 1000) (on : On2 T w wx Bt l top q N) (hp2 : PrAt wx q2 N) (hb : Below w.heap.size w wx) :
    Code.wp Tryd.prog (dropSeq 17 (Tryd.f3.body.getD .skip)) (bodyPost Tryd.prog Tryd.f3 fun e w' => e = .returned (.bool true) ∧ Below w.heap.size w w') ⟨#[c0, c1, .string key, .string lo, .string hi, .int .i64 a, c6, c7, c8, c9, c10, c11, c12, .pointer (some ⟨Bt, 0, none⟩), c14, c15, c16, c17, c18, c19, c20, .string xv, ev xe, .slice q N.length cq, .nilIface, .int .i64 nn, .nilIface, .int .i64 l.length, .string xv, ev xe, .slice q2 N.length c2', .nilIface, .int .i64 0, .nilIface, c34, c35, c36, c37, c38, c39, c40, c41, c42, c43, c44, c45, c46, c47, c48, c49, c50, c51, c52, c53, c54, c55, c56, c57, c58, c59, c60, c61, c62, c63, c64, c65, c66, c67, c68, c69, c70, c71, c72, c73, c74, c75, c76, c77, c78, c79, c80, c81, c82, c83, c84, c85, c86, c87, c88, c89, c90, c91, c92, c93, c94, c95, c96, c97, c98, c99, c100, c101, c102, c103, c104, c105, c106, c107, c108, c109, c110, c111, c112, c113, c114, c115, c116, c117, c118, c119, c120, c121, c122, c123, c124, c125, c126, c127, c128, c129, c130, c131, c132, c133, c134, c135, c136, c137, c138, c139, c140, c141, c142, c143, c144, c145, c146, c147, c148, c149, c150, c151, c152, c153, c154, c155, c156, c157, c158, c159, c160, c161, c162, c163, c164, c165, c166, c167, c168, c169, c170, c171, c172, c173, c174, c175, c176, c177, c178, c179, c180, c181, c182, c183, c184, c185, c186, c187, c188, c189, c190, c191, c192, c193, c194, c195, c196, c197, c198, c199, c200, c201, c202, c203, c204, c205, c206, c207, c208, c209, c210, c211, c212, c213, c214, c215, c216, c217, c218, c219, c220, c221, c222, c223, c224, c225, c226, c227, c228, c229, c230, c231, c232, c233, c234, c235, c236, c237, c238, c239, c240, c241, c242, c243, c244, c245, c246, c247, c248, c249, c250, c251, c252, c253, c254, c255, c256, c257, c258, c259, c260, c261, c262, c263, c264], []⟩ wx := by
  conv => arg 2; whnf
  conv => arg 4; dsimp only
  have hA : Vs.atF a = 0 := if_neg (by omega)
  have hxe : xe = 0 ∨ xe = 4 := by rw [← hx2.out]; exact Vs.gtF_cases l key a hA
  have hself : (xv.toList == xv.toList) = true := by simp
  have n1 : decide (nn < 0) = false := by simp; omega
  have n2 : ((l.length : Int) != (l.length : Int)) = false := by simp
  have hP : PrAt wx q N := by obtain ⟨F, _, _, h⟩ := on; exact h.at
  clear hA
  rcases hxe with rfl | rfl
  · rw [ev_0]
    go_wp2_with fail
    refine (samePairs N N q q2 cq c2' _ (by omega) hP hp2).mono ?_
    rintro e w1 ⟨rfl, hb1⟩
    rw [decide_eq_true (rfl : N = N)]
    replace on := on.step V hb1
    replace hb := below_via hb hb1
    clear hb1 hP hp2
    have onD := on.step V (below_self w1).drew
    have hbD : Below w.heap.size w w1.drew := hb.drew
    obtain ⟨F, hT, hF, hPi⟩ := onD
    have K := V.size hT ok (by omega)
    go_wp2_with fail
    go_region_held3 (fun _ => True) (trivial)
      (first
        | (go_at_call 11; refine K.mono ?_; rintro e w2 ⟨rfl, hb2⟩))
    go_upto_if 213 with fail
    go_cut [12] (fun _ wy => wy = w2)
    case first =>
      go_wp2_with fail
      go_meet
      case rel => exact rfl
    case rest =>
    subst hcut
    refine ‹∀ (a : Act) (w : World), Code.wp _ _ _ a w → _› _ _ ?_
    rw [← ev_0]
    exact vs5 V ok ll h0 h1 hk hx1 hx2 hN hNl (On2.step V ⟨F, hT, hF, hPi⟩ hb2) (below_via hbD hb2)
  · rw [show ev 4 = errN 4 from rfl]
    go_wp2_with fail
    refine (samePairs N N q q2 cq c2' _ (by omega) hP hp2).mono ?_
    rintro e w1 ⟨rfl, hb1⟩
    rw [decide_eq_true (rfl : N = N)]
    replace on := on.step V hb1
    replace hb := below_via hb hb1
    clear hb1 hP hp2
    have onD := on.step V (below_self w1).drew
    have hbD : Below w.heap.size w w1.drew := hb.drew
    obtain ⟨F, hT, hF, hPi⟩ := onD
    have K := V.size hT ok (by omega)
    go_wp2_with fail
    go_region_held3 (fun _ => True) (trivial)
      (first
        | (go_at_call 11; refine K.mono ?_; rintro e w2 ⟨rfl, hb2⟩))
    go_upto_if 213 with fail
    go_cut [12] (fun _ wy => wy = w2)
    case first =>
      go_wp2_with fail
      go_meet
      case rel => exact rfl
    case rest =>
    subst hcut
    refine ‹∀ (a : Act) (w : World), Code.wp _ _ _ a w → _› _ _ ?_
    rw [show errN 4 = ev 4 from rfl]
    exact vs5 V ok ll h0 h1 hk hx1 hx2 hN hNl (On2.step V ⟨F, hT, hF, hPi⟩ hb2) (below_via hbD hb2)
end Go.Proofs.YtollgepjgeoeiaaDoor
