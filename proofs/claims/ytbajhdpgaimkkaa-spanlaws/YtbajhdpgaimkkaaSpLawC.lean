/- The walk of the law SpanLaws: the whole. -/
import Derived.Test.YtbajhdpgaimkkaaSpLawB
namespace Go.Proofs.Ytbajhdpgaimkkaa
open Go.RowKit

theorem spAt_new1 (w : World) (a b : Int) : SpAt (w.alloc (scs a b)) (some ⟨w.heap.size, 0, none⟩) [(a, b)] := fun _ => ⟨w.heap.size, 0, rfl, by simp, fun i hi => by
  match i, hi with
  | 0, _ => exact ⟨by simp; rfl, by simp; rfl⟩⟩

set_option maxRecDepth 100000 in
set_option maxHeartbeats 8000000 in
theorem laws1 {a b : List Bur.Sp} {x : Int} {pa pb : Option Addr} {ca cb : Nat} {w wx : World} {c3 c4 c5 c6 c7 c8 c9 c10 c11 c12 c13 c14 c15 c16 c17 c18 c19 c20 c21 c22 c23 c24 c25 c26 c27 c28 c29 c30 c31 c32 c33 c34 c35 c36 c37 c38 c39 c40 c41 c42 c43 c44 c45 c46 c47 c48 c49 c50 c51 c52 c53 c54 c55 c56 c57 c58 c59 c60 c61 c62 c63 c64 c65 c66 c67 c68 c69 c70 c71 c72 c73 c74 c75 c76 c77 c78 c79 c80 c81 c82 c83 c84 c85 c86 c87 c88 c89 c90 c91 c92 c93 c94 c95 c96 c97 c98 c99 c100 c101 c102 c103 c104 c105 c106 c107 c108 c109 c110 c111 c112 c113 c114 c115 c116 c117 c118 c119 c120 c121 c122 c123 c124 c125 c126 c127 c128 c129 c130 c131 c132 c133 c134 c135 c136 c137 c138 c139 c140 c141 c142 c143 c144 c145 c146 c147 c148 c149 c150 c151 c152 c153 c154 c155 c156 c157 c158 c159 c160 c161 c162 c163 c164 c165 c166 c167 c168 c169 c170 c171 c172 c173 c174 c175 c176 c177 c178 c179 c180 c181 c182 c183 c184 c185 c186 c187 c188 c189 c190 c191 c192 c193 c194 c195 c196 c197 c198 c199 c200 c201 c202 c203 c204 c205 c206 c207 c208 c209 c210 c211 c212 c213 c214 c215 c216 c217 c218 c219 c220 c221 c222 c223 c224 c225 c226 c227 c228 c229 c230 c231 c232 c233 c234 c235 c236 c237 c238 c239 c240 c241 c242 c243 c244 c245 : Value} (la : a.length ≤ 9223372036854775807) (lb : b.length ≤ 9223372036854775807) (sa : SpAt wx pa a) (sb : SpAt wx pb b) (hb : Below w.heap.size w wx) :
    Code.wp Try.prog (dropSeq 4 (Try.f3.body.getD .skip)) (bodyPost Try.prog Try.f3 fun e w' => e = .returned (.bool true) ∧ Below w.heap.size w w') ⟨#[.slice pa a.length ca, .slice pb b.length cb, .int .i64 x, c3, c4, c5, c6, c7, c8, c9, c10, c11, c12, c13, c14, c15, c16, c17, c18, c19, c20, c21, c22, c23, c24, c25, c26, c27, c28, c29, c30, c31, c32, c33, c34, c35, c36, c37, c38, c39, c40, c41, c42, c43, c44, c45, c46, c47, c48, c49, c50, c51, c52, c53, c54, c55, c56, c57, c58, c59, c60, c61, c62, c63, c64, c65, c66, c67, c68, c69, c70, c71, c72, c73, c74, c75, c76, c77, c78, c79, c80, c81, c82, c83, c84, c85, c86, c87, c88, c89, c90, c91, c92, c93, c94, c95, c96, c97, c98, c99, c100, c101, c102, c103, c104, c105, c106, c107, c108, c109, c110, c111, c112, c113, c114, c115, c116, c117, c118, c119, c120, c121, c122, c123, c124, c125, c126, c127, c128, c129, c130, c131, c132, c133, c134, c135, c136, c137, c138, c139, c140, c141, c142, c143, c144, c145, c146, c147, c148, c149, c150, c151, c152, c153, c154, c155, c156, c157, c158, c159, c160, c161, c162, c163, c164, c165, c166, c167, c168, c169, c170, c171, c172, c173, c174, c175, c176, c177, c178, c179, c180, c181, c182, c183, c184, c185, c186, c187, c188, c189, c190, c191, c192, c193, c194, c195, c196, c197, c198, c199, c200, c201, c202, c203, c204, c205, c206, c207, c208, c209, c210, c211, c212, c213, c214, c215, c216, c217, c218, c219, c220, c221, c222, c223, c224, c225, c226, c227, c228, c229, c230, c231, c232, c233, c234, c235, c236, c237, c238, c239, c240, c241, c242, c243, c244, c245], []⟩ wx := by
  conv => arg 2; whnf
  go_wp2_with fail
  refine (spanUnion pa ca a pb cb b wx la lb sa sb).mono ?_; rintro e w1 ⟨pu, cu, rfl, su, hb1⟩
  replace sa := sa.step hb1
  replace sb := sb.step hb1
  replace hb := below_via hb hb1
  clear hb1
  go_wp2_with fail
  refine (spanMeet pa ca a pb cb b w1 la lb sa sb).mono ?_; rintro e w2 ⟨pm, cm, rfl, sm, hb1⟩
  replace sa := sa.step hb1
  replace sb := sb.step hb1
  replace su := su.step hb1
  replace hb := below_via hb hb1
  clear hb1
  go_wp2_with fail
  refine (spanMinus pa ca a pb cb b w2 la lb sa sb).mono ?_; rintro e w3 ⟨pd, cd, rfl, sd, hb1⟩
  replace sa := sa.step hb1
  replace sb := sb.step hb1
  replace su := su.step hb1
  replace sm := sm.step hb1
  replace hb := below_via hb hb1
  clear hb1
  go_upto_region 8 with fail
  by_cases f1 : Bur.twF 1 a b = 0
  · by_cases f2 : Bur.twF 2 a b = 0
    · by_cases f3 : Bur.twF 3 a b = 0
      · have k1 := Bur.twF_ok f1
        have k2 := Bur.twF_ok f2
        have k3 := Bur.twF_ok f3
        rw [k1.2.2.1] at su
        rw [k2.2.2.1] at sm
        rw [k3.2.2.1] at sd
        rw [k1.2.2.1, k2.2.2.1, k3.2.2.1, f1, f2, f3, ev_0]
        have K1 : Hid _ := k1
        have K2 : Hid _ := k2
        have K3 : Hid _ := k3
        clear k1 k2 k3 f1 f2 f3
        go_upto_if 76 with fail
        go_cut [] (fun wy => wy = w3)
        case first =>
          go_wp2_with fail
          go_meet
          case rel => exact rfl
        case rest =>
        subst hcut
        refine ‹∀ (a : Act) (w : World), Code.wp _ _ _ a w → _› _ _ ?_
        exact laws2 K1.out.1 K1.out.2.1 K1.out.2.2.2 K2.out.2.2.2 K3.out.2.2.2 sa sb su sm sd hb
      · rw [f1, f2, ev_0, show ev (Bur.twF 3 a b) = errN (Bur.twF 3 a b) from if_neg f3]
        clear f1 f2 f3 sa sb su sm sd
        go_wp2_with fail
        go_ret
        exact ⟨rfl, hb⟩
    · rw [f1, ev_0, show ev (Bur.twF 2 a b) = errN (Bur.twF 2 a b) from if_neg f2]
      clear f1 f2 sa sb su sm sd
      go_wp2_with fail
      go_ret
      exact ⟨rfl, hb⟩
  · rw [show ev (Bur.twF 1 a b) = errN (Bur.twF 1 a b) from if_neg f1]
    clear f1 sa sb su sm sd
    go_wp2_with fail
    go_ret
    exact ⟨rfl, hb⟩

set_option maxRecDepth 100000 in
set_option maxHeartbeats 8000000 in
theorem law_laws (pa : Option Addr) (ca : Nat) (a : List Bur.Sp) (pb : Option Addr) (cb : Nat) (b : List Bur.Sp) (x : Int) (w : World) (la : a.length ≤ 9223372036854775807) (lb : b.length ≤ 9223372036854775807) (sa : SpAt w pa a) (sb : SpAt w pb b) :
    Calls Try.prog 3 #[.slice pa a.length ca, .slice pb b.length cb, .int .i64 x] w fun e w' => e = .returned (.bool true) ∧ Below w.heap.size w w' := by
  have hb : Below w.heap.size w ((w.alloc (scs 1 3)).alloc (scs 4 9)) := below_al (below_al (below_self _) _) _
  have s1 : SpAt ((w.alloc (scs 1 3)).alloc (scs 4 9)) (some ⟨w.heap.size, 0, none⟩) [(1, 3)] := (spAt_new1 w 1 3).alloc _
  have s2 : SpAt ((w.alloc (scs 1 3)).alloc (scs 4 9)) (some ⟨w.heap.size + 1, 0, none⟩) [(4, 9)] := by
    have := spAt_new1 (w.alloc (scs 1 3)) 4 9
    simpa using this
  replace sa := sa.step hb
  replace sb := sb.step hb
  have F1 : Hid (ev (Bur.twF 1 [(1, 3)] [(4, 9)]) = .nilIface ∧ Bur.twS 1 [(1, 3)] [(4, 9)] = [(1, 9)]) := ⟨by rw [Bur.fact_two.1]; rfl, Bur.fact_two.2⟩
  go_enter Try.func3, Try.ntmps3
  go_wp2_with fail
  generalize (w.alloc (scs 1 3)).alloc (scs 4 9) = W0 at *
  refine (spanUnion (some ⟨w.heap.size, 0, none⟩) 1 [(1, 3)] (some ⟨w.heap.size + 1, 0, none⟩) 1 [(4, 9)] W0 (by decide) (by decide) s1 s2).mono ?_; rintro e w1 ⟨pf, cf, rfl, sf, hb1⟩
  rw [F1.out.2] at sf
  rw [F1.out.1, F1.out.2]
  replace sa := sa.step hb1
  replace sb := sb.step hb1
  replace hb := below_via hb hb1
  clear hb1 F1 s1 s2
  have s3 := spAt_new1 w1 1 9
  replace sa := sa.alloc (scs 1 9)
  replace sb := sb.alloc (scs 1 9)
  replace sf := sf.alloc (scs 1 9)
  replace hb := below_al hb (scs 1 9)
  go_wp2_with fail
  generalize w1.alloc (scs 1 9) = W1 at *
  refine (spans_same pf (some ⟨w1.heap.size, 0, none⟩) cf 1 [(1, 9)] W1 (by decide) sf s3).mono ?_; rintro e w2 ⟨rfl, hb1⟩
  replace sa := sa.step hb1
  replace sb := sb.step hb1
  replace hb := below_via hb hb1
  clear hb1 sf s3
  go_upto_if 48 with fail
  go_cut [] (fun wy => wy = w2)
  case first =>
    go_wp2_with fail
    go_meet
    case rel => exact rfl
  case rest =>
  subst hcut
  refine ‹∀ (a : Act) (w : World), Code.wp _ _ _ a w → _› _ _ ?_
  exact laws1 la lb sa sb hb
end Go.Proofs.Ytbajhdpgaimkkaa
