/- The walk of the law VersRanges: its last pieces. -/
import Derived.Test.YtollgepjgeoeiaaVtOn
import Derived.Laws.Cover1
import Derived.Deep.CutBlock
namespace Vs
/-- Is a key told of? -/
def hasK (N : List Pr) (k : ByteArray) : Bool := N.any (fun p => decide (p.1 = k))
theorem hasK_is {l : List Ver} {top : Int} (hT : OkT l top) (lo hi k : ByteArray) (a : Int) : hasK (vrng l lo hi a) k = (btw lo hi k && (vget l k a).isSome) := by
  obtain ⟨_, h2⟩ := vrng_is hT lo hi a
  rw [Bool.eq_iff_iff, hasK, List.any_eq_true, Bool.and_eq_true, Option.isSome_iff_exists]
  constructor
  · rintro ⟨p, hp, e⟩
    have e' : p.1 = k := by simpa using e
    subst e'
    obtain ⟨g1, g2⟩ := (h2 p).1 hp
    exact ⟨g1, p.2, g2⟩
  · rintro ⟨g1, v, g2⟩
    exact ⟨(k, v), (h2 (k, v)).2 ⟨g1, g2⟩, by simp⟩
theorem hasK_take {N : List Pr} {i : Nat} {p : Pr} (h : N[i]? = some p) (k : ByteArray) : hasK (N.take (i + 1)) k = (hasK (N.take i) k || decide (p.1 = k)) := by
  unfold hasK
  rw [List.take_add_one, h]
  simp
end Vs
namespace Go.Proofs.Ytollgepjgeoeiaa
open Go.RowKit

set_option maxRecDepth 100000 in
set_option maxHeartbeats 8000000 in
theorem vr4 {T : Tb} (V : Face T) {l : List Vs.Ver} {top a : Int} {key lo hi : ByteArray} {hh : Bool} {Bt : Nat} {w wx : World} {c0 c5 c6 c7 c8 c9 c10 c12 c13 c14 c15 c16 c17 c19 c20 c21 c22 c23 c24 c25 c26 c27 c28 c29 c30 c31 c32 c33 c34 c35 c36 c37 c38 c39 c40 c41 c42 c43 c44 c45 c46 c47 c48 c49 c50 c51 c52 c53 c54 c55 c56 c57 c58 c59 c60 c61 c62 c63 c64 c65 c66 c67 c68 c69 c70 c71 c72 c73 c74 c75 c76 c77 c78 c79 c80 c81 c82 c83 c84 c85 c86 c87 c88 c89 c90 c91 c92 c93 c94 c95 c96 c97 c98 c99 c100 c101 c102 c103 c104 c105 c106 c107 c108 c109 c110 c111 c112 c113 c114 c115 c116 c117 c118 c119 c120 c121 c122 c123 c124 c125 c126 c127 c128 c129 c130 c131 c132 c133 c134 c135 c136 c137 c138 c139 c140 c141 c142 c143 c144 c145 c146 c147 c148 c149 c150 c151 c152 c153 c154 c155 c156 c157 c158 c159 c160 c161 c162 c163 c164 c165 c166 c167 c168 c169 c170 c171 c172 c173 c174 c175 c176 c177 c178 c179 c180 c181 c182 c183 c184 c185 c186 c187 c188 c189 c190 c191 c192 c193 c194 c195 c196 c197 c198 c199 c200 c201 c202 c203 c204 c205 c206 c207 c208 c209 c210 c211 c212 c213 c214 c215 c216 c217 c218 c219 c220 c221 : Value}
    (ok : Vs.OkT l top) (ll : l.length ≤ 900) (h0 : 0 ≤ a) (h1 : a ≤ 1000000) (hk : key.size ≤ maxLen) (hhh : Hid (hh = (Vs.btw lo hi key && (Vs.vget l key a).isSome))) (on : On T w wx Bt l top) (hb : Below w.heap.size w wx) :
    Code.wp Try.prog (dropSeq 11 (Try.f3.body.getD .skip)) (bodyPost Try.prog Try.f3 fun e w' => e = .returned (.bool true) ∧ Below w.heap.size w w') ⟨#[c0, .string lo, .string hi, .int .i64 a, .string key, c5, c6, c7, c8, c9, c10, .pointer (some ⟨Bt, 0, none⟩), c12, c13, c14, c15, c16, c17, .bool hh, c19, c20, c21, c22, c23, c24, c25, c26, c27, c28, c29, c30, c31, c32, c33, c34, c35, c36, c37, c38, c39, c40, c41, c42, c43, c44, c45, c46, c47, c48, c49, c50, c51, c52, c53, c54, c55, c56, c57, c58, c59, c60, c61, c62, c63, c64, c65, c66, c67, c68, c69, c70, c71, c72, c73, c74, c75, c76, c77, c78, c79, c80, c81, c82, c83, c84, c85, c86, c87, c88, c89, c90, c91, c92, c93, c94, c95, c96, c97, c98, c99, c100, c101, c102, c103, c104, c105, c106, c107, c108, c109, c110, c111, c112, c113, c114, c115, c116, c117, c118, c119, c120, c121, c122, c123, c124, c125, c126, c127, c128, c129, c130, c131, c132, c133, c134, c135, c136, c137, c138, c139, c140, c141, c142, c143, c144, c145, c146, c147, c148, c149, c150, c151, c152, c153, c154, c155, c156, c157, c158, c159, c160, c161, c162, c163, c164, c165, c166, c167, c168, c169, c170, c171, c172, c173, c174, c175, c176, c177, c178, c179, c180, c181, c182, c183, c184, c185, c186, c187, c188, c189, c190, c191, c192, c193, c194, c195, c196, c197, c198, c199, c200, c201, c202, c203, c204, c205, c206, c207, c208, c209, c210, c211, c212, c213, c214, c215, c216, c217, c218, c219, c220, c221], []⟩ wx := by
  conv => arg 2; whnf
  obtain ⟨F, hT, hF⟩ := on
  have hA : Vs.atF a = 0 := if_neg (by omega)
  have K1 := V.get key a hT ok (by omega) hk
  have K2 := fun (W2 : World) (hT2 : T W2 F Bt l top) => V.range lo hi 0 hT2 ok (by omega)
  rw [show Vs.rgS l lo hi 0 = [] from (if_pos (by decide)).trans (Vs.vrng_0 ok (by decide) lo hi), show Vs.atF 0 = 0 by decide, ev_0] at K2
  rw [show Vs.gtF l key a = if (Vs.vget l key a).isSome = true then 0 else 4 from if_pos hA] at K1
  obtain ⟨gv, hgv⟩ : ∃ gv, gv = Vs.gtS l key a := ⟨_, rfl⟩
  rw [← hgv] at K1
  obtain ⟨sm, hsm⟩ : ∃ sm, sm = (Vs.vget l key a).isSome := ⟨_, rfl⟩
  rw [← hsm] at K1 hhh
  clear hgv hsm hA
  cases g1 : Op.bytesLess key.toList lo.toList
  · cases g2 : Op.bytesLess key.toList hi.toList
    · clear hhh
      cases sm
      all_goals
        simp only [if_true, Bool.false_eq_true, if_false] at K1
        go_wp2_with fail
        refine K1.mono ?_
        rintro e w1 ⟨rfl, hb1⟩
        replace hT := V.step hT hb1
        replace hb := below_via hb hb1
        clear K1 hb1
        go_wp2_with fail
        refine (K2 _ hT).mono ?_
        rintro e w2 ⟨q, cq, rfl, _, hb2⟩
        replace hb := below_via hb hb2
        clear K2 hb2 hT hF
        go_wp2_with fail
        go_ret
        exact ⟨rfl, hb⟩
    · have hh2 : hh = sm := by rw [hhh.out]; simp [Vs.btw, Vs.bl, g1, g2]
      subst hh2
      clear hhh
      cases hh
      · rw [if_neg (by simp), show ev 4 = errN 4 from rfl] at K1
        go_wp2_with fail
        refine K1.mono ?_
        rintro e w1 ⟨rfl, hb1⟩
        replace hT := V.step hT hb1
        replace hb := below_via hb hb1
        clear K1 hb1
        go_wp2_with fail
        refine (K2 _ hT).mono ?_
        rintro e w2 ⟨q, cq, rfl, _, hb2⟩
        replace hb := below_via hb hb2
        clear K2 hb2 hT hF
        go_wp2_with fail
        go_ret
        exact ⟨rfl, hb⟩
      · rw [if_pos rfl, ev_0] at K1
        go_wp2_with fail
        refine K1.mono ?_
        rintro e w1 ⟨rfl, hb1⟩
        replace hT := V.step hT hb1
        replace hb := below_via hb hb1
        clear K1 hb1
        go_wp2_with fail
        refine (K2 _ hT).mono ?_
        rintro e w2 ⟨q, cq, rfl, _, hb2⟩
        replace hb := below_via hb hb2
        clear K2 hb2 hT hF
        go_wp2_with fail
        go_ret
        exact ⟨rfl, hb⟩
  · clear hhh
    cases sm
    all_goals
      simp only [if_true, Bool.false_eq_true, if_false] at K1
      go_wp2_with fail
      refine K1.mono ?_
      rintro e w1 ⟨rfl, hb1⟩
      replace hT := V.step hT hb1
      replace hb := below_via hb hb1
      clear K1 hb1
      go_wp2_with fail
      refine (K2 _ hT).mono ?_
      rintro e w2 ⟨q, cq, rfl, _, hb2⟩
      replace hb := below_via hb hb2
      clear K2 hb2 hT hF
      go_wp2_with fail
      go_ret
      exact ⟨rfl, hb⟩
end Go.Proofs.Ytollgepjgeoeiaa
