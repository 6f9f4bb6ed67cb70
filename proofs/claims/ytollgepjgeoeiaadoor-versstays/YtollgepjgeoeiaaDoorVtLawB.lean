/- The walk of the law VersStays: its last piece. -/
import Derived.Test.YtollgepjgeoeiaaDoorVtLaw
namespace Go.Proofs.YtollgepjgeoeiaaDoor
open Go.RowKit

set_option maxRecDepth 100000 in
set_option maxHeartbeats 8000000 in
theorem vs5 {T : Tb} (V : Face T) {l : List Vs.Ver} {top a xe : Int} {key lo hi xv : ByteArray} {q : Option Addr} {cq Bt : Nat} {N : List Vs.Pr} {w wx : World} {c0 c1 c6 c7 c8 c9 c10 c11 c12 c14 c15 c16 c17 c18 c19 c20 c24 c25 c26 c27 c28 c29 c30 c31 c32 c33 c34 c35 c36 c37 c38 c39 c40 c41 c42 c43 c44 c45 c46 c47 c48 c49 c50 c51 c52 c53 c54 c55 c56 c57 c58 c59 c60 c61 c62 c63 c64 c65 c66 c67 c68 c69 c70 c71 c72 c73 c74 c75 c76 c77 c78 c79 c80 c81 c82 c83 c84 c85 c86 c87 c88 c89 c90 c91 c92 c93 c94 c95 c96 c97 c98 c99 c100 c101 c102 c103 c104 c105 c106 c107 c108 c109 c110 c111 c112 c113 c114 c115 c116 c117 c118 c119 c120 c121 c122 c123 c124 c125 c126 c127 c128 c129 c130 c131 c132 c133 c134 c135 c136 c137 c138 c139 c140 c141 c142 c143 c144 c145 c146 c147 c148 c149 c150 c151 c152 c153 c154 c155 c156 c157 c158 c159 c160 c161 c162 c163 c164 c165 c166 c167 c168 c169 c170 c171 c172 c173 c174 c175 c176 c177 c178 c179 c180 c181 c182 c183 c184 c185 c186 c187 c188 c189 c190 c191 c192 c193 c194 c195 c196 c197 c198 c199 c200 c201 c202 c203 c204 c205 c206 c207 c208 c209 c210 c211 c212 c213 c214 c215 c216 c217 c218 c219 c220 c221 c222 c223 c224 c225 c226 c227 c228 c229 c230 c231 c232 c233 c234 c235 c236 c237 c238 c239 c240 c241 c242 c243 c244 c245 c246 c247 c248 c249 c250 c251 c252 c253 c254 c255 c256 c257 c258 c259 c260 c261 c262 c263 c264 : Value}
    (ok : Vs.OkT l top) (ll : l.length ≤ 900) (h0 : 0 ≤ a) (h1 : a ≤ 1000000) (hk : key.size ≤ maxLen) (hx1 : Hid (Vs.gtS l key a = xv)) (hx2 : Hid (Vs.gtF l key a = xe)) (hN : Hid (Vs.vrng l lo hi a = N)) (hNl : N.length ≤ 1000) (on : On2 T w wx Bt l top q N) (hb : Below w.heap.size w wx) :
    Code.wp Tryd.prog (dropSeq 19 (Tryd.f3.body.getD .skip)) (bodyPost Tryd.prog Tryd.f3 fun e w' => e = .returned (.bool true) ∧ Below w.heap.size w w') ⟨#[c0, c1, .string key, .string lo, .string hi, .int .i64 a, c6, c7, c8, c9, c10, c11, c12, .pointer (some ⟨Bt, 0, none⟩), c14, c15, c16, c17, c18, c19, c20, .string xv, ev xe, .slice q N.length cq, c24, c25, c26, c27, c28, c29, c30, c31, c32, c33, c34, c35, c36, c37, c38, c39, c40, c41, c42, c43, c44, c45, c46, c47, c48, c49, c50, c51, c52, c53, c54, c55, c56, c57, c58, c59, c60, c61, c62, c63, c64, c65, c66, c67, c68, c69, c70, c71, c72, c73, c74, c75, c76, c77, c78, c79, c80, c81, c82, c83, c84, c85, c86, c87, c88, c89, c90, c91, c92, c93, c94, c95, c96, c97, c98, c99, c100, c101, c102, c103, c104, c105, c106, c107, c108, c109, c110, c111, c112, c113, c114, c115, c116, c117, c118, c119, c120, c121, c122, c123, c124, c125, c126, c127, c128, c129, c130, c131, c132, c133, c134, c135, c136, c137, c138, c139, c140, c141, c142, c143, c144, c145, c146, c147, c148, c149, c150, c151, c152, c153, c154, c155, c156, c157, c158, c159, c160, c161, c162, c163, c164, c165, c166, c167, c168, c169, c170, c171, c172, c173, c174, c175, c176, c177, c178, c179, c180, c181, c182, c183, c184, c185, c186, c187, c188, c189, c190, c191, c192, c193, c194, c195, c196, c197, c198, c199, c200, c201, c202, c203, c204, c205, c206, c207, c208, c209, c210, c211, c212, c213, c214, c215, c216, c217, c218, c219, c220, c221, c222, c223, c224, c225, c226, c227, c228, c229, c230, c231, c232, c233, c234, c235, c236, c237, c238, c239, c240, c241, c242, c243, c244, c245, c246, c247, c248, c249, c250, c251, c252, c253, c254, c255, c256, c257, c258, c259, c260, c261, c262, c263, c264], []⟩ wx := by
  conv => arg 2; whnf
  conv => arg 4; dsimp only
  by_cases g0 : 1000000 ≤ a
  · have g1 : decide (1000000 ≤ a) = true := by simpa using g0
    clear g0 hx1 hx2 hN on
    go_wp2_with fail
    go_ret
    exact ⟨rfl, hb⟩
  have g1 : decide (1000000 ≤ a) = false := by simpa using g0
  obtain ⟨F, hT, hF, hP⟩ := on
  by_cases g2 : a < top
  · have g3 : decide (a < top) = true := by simpa using g2
    have K := V.top hT ok (by omega)
    clear g0 g2 hx1 hx2 hN hP
    go_wp2_with fail
    refine K.mono ?_
    rintro e w1 ⟨rfl, hb1⟩
    replace hb := below_via hb hb1
    clear K hb1
    go_wp2_with fail
    go_ret
    exact ⟨rfl, hb⟩
  · have g3 : decide (a < top) = false := by simpa using g2
    have K := V.top hT ok (by omega)
    have hA : Vs.atF a = 0 := if_neg (by omega)
    have hpt := Vs.put_new (top := top) h0 (by omega) (by omega)
    have ok2 := ok.put hpt
    have K2 := fun (F2 : Nat → Prop) (W2 : World) (hT2 : T W2 F2 Bt l top) (hF2 : ∀ j, F2 j → j < W2.heap.size) => V.put ⟨#[98]⟩ ⟨#[110, 101, 119]⟩ (a + 1) hT2 ok (by omega) hF2 (by decide) (by decide)
    rw [show Vs.ptL l top ⟨⟨#[98]⟩, ⟨#[110, 101, 119]⟩, a + 1, false⟩ = Vs.vput l ⟨⟨#[98]⟩, ⟨#[110, 101, 119]⟩, a + 1, false⟩ from if_pos hpt, show Vs.ptT top ⟨⟨#[98]⟩, ⟨#[110, 101, 119]⟩, a + 1, false⟩ = a + 1 from if_pos hpt, hpt] at K2
    have hl2 : (Vs.vput l ⟨⟨#[98]⟩, ⟨#[110, 101, 119]⟩, a + 1, false⟩).length ≤ 1000 := by
      rw [Vs.vput, List.length_append]
      have := List.length_filter_le (fun y => !Vs.same ⟨⟨#[98]⟩, ⟨#[110, 101, 119]⟩, a + 1, false⟩ y) l
      simp; omega
    have e1 := Vs.gt_eq (k := key) (Vs.vget_put (l := l) (x := ⟨⟨#[98]⟩, ⟨#[110, 101, 119]⟩, a + 1, false⟩) (k := key) (a := a) (by show a < a + 1; omega))
    have e2 := Vs.vrng_put ok hpt (a := a) (by show a < a + 1; omega) lo hi
    obtain ⟨l2, hl2e⟩ : ∃ l2, l2 = Vs.vput l ⟨⟨#[98]⟩, ⟨#[110, 101, 119]⟩, a + 1, false⟩ := ⟨_, rfl⟩
    rw [← hl2e] at K2 ok2 hl2 e1 e2
    have K3 := fun (F2 : Nat → Prop) (W2 : World) (hT2 : T W2 F2 Bt l2 (a + 1)) => V.get key a hT2 ok2 hl2 hk
    have K4 := fun (F2 : Nat → Prop) (W2 : World) (hT2 : T W2 F2 Bt l2 (a + 1)) => V.range lo hi a hT2 ok2 hl2
    rw [e1.1, e1.2, hx1.out, hx2.out] at K3
    rw [show Vs.rgS l2 lo hi a = Vs.vrng l2 lo hi a from if_pos hA, e2, hN.out, hA] at K4
    have hxe : xe = 0 ∨ xe = 4 := by rw [← hx2.out]; exact Vs.gtF_cases l key a hA
    have hself : (xv.toList == xv.toList) = true := by simp
    clear e1 e2 hl2e hpt hx1 hx2 hN g0 g2 hA ok2 hl2
    go_wp2_with fail
    refine K.mono ?_
    rintro e w1 ⟨rfl, hb1⟩
    have hT1 := V.step hT hb1
    have hF1 : ∀ j, F j → w.heap.size ≤ j ∧ j < w1.heap.size := fun j hj => ⟨(hF j hj).1, Nat.lt_of_lt_of_le (hF j hj).2 hb1.size⟩
    replace hP := hP.step hb1
    replace hb := below_via hb hb1
    clear K hb1 hT hF
    go_wp2_with fail
    refine (K2 _ _ hT1 (fun j hj => (hF1 j hj).2)).mono ?_
    rintro e w2 ⟨rfl, hT2, hb2⟩
    obtain ⟨on2, hb'⟩ := On2.put hF1 hb hP hT2 hb2
    clear hb hb2 hT1 hF1 hP hT2 K2
    obtain ⟨F2, hT2, hF2, hP2⟩ := on2
    rcases hxe with rfl | rfl
    · rw [ev_0] at K3 K4 ⊢
      go_wp2_with fail
      refine (K3 _ _ hT2).mono ?_
      rintro e w3 ⟨rfl, hb3⟩
      have hT3 := V.step hT2 hb3
      replace hP2 := hP2.step hb3
      replace hb' := below_via hb' hb3
      clear K3 hb3 hT2 hF2
      go_wp2_with fail
      refine (K4 _ _ hT3).mono ?_
      rintro e w4 ⟨q4, c4', rfl, hP4, hb4⟩
      replace hP2 := hP2.step hb4
      replace hb' := below_via hb' hb4
      clear K4 hb4 hT3
      go_wp2_with fail
      refine (samePairs N N q q4 cq c4' _ (by omega) hP2.at hP4.at).mono ?_
      rintro e w5 ⟨rfl, hb5⟩
      rw [decide_eq_true (rfl : N = N)]
      replace hb' := below_via hb' hb5
      clear hP2 hP4 hb5
      go_wp2_with fail
      go_quiet (fail)
      go_wp2_with fail
      go_ret
      exact ⟨rfl, below_drewN hb' _⟩
    · rw [show ev 4 = errN 4 from rfl] at K3 ⊢
      rw [ev_0] at K4 ⊢
      go_wp2_with fail
      refine (K3 _ _ hT2).mono ?_
      rintro e w3 ⟨rfl, hb3⟩
      have hT3 := V.step hT2 hb3
      replace hP2 := hP2.step hb3
      replace hb' := below_via hb' hb3
      clear K3 hb3 hT2 hF2
      go_wp2_with fail
      refine (K4 _ _ hT3).mono ?_
      rintro e w4 ⟨q4, c4', rfl, hP4, hb4⟩
      replace hP2 := hP2.step hb4
      replace hb' := below_via hb' hb4
      clear K4 hb4 hT3
      go_wp2_with fail
      refine (samePairs N N q q4 cq c4' _ (by omega) hP2.at hP4.at).mono ?_
      rintro e w5 ⟨rfl, hb5⟩
      rw [decide_eq_true (rfl : N = N)]
      replace hb' := below_via hb' hb5
      clear hP2 hP4 hb5
      go_wp2_with fail
      go_quiet (fail)
      go_wp2_with fail
      go_ret
      exact ⟨rfl, below_drewN hb' _⟩
end Go.Proofs.YtollgepjgeoeiaaDoor
