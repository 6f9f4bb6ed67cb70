/- The walk of the law AddrBack: its last piece. -/
import Derived.Test.YtnnjegohoejlbaaDoorAdStrF
import Derived.Test.YtnnjegohoejlbaaDoorAdBackMath
import Derived.Test.YtnnjegohoejlbaaDoorAdPartsB
namespace Go.Proofs.YtnnjegohoejlbaaDoor
open Go.RowKit

/-- What the law keeps: its prefix in its box, what the library's variables hold, and all that was there. -/
structure BK (pa pl : Int) (w0 w : World) : Prop where
  p : Pf w w0.heap.size pa pl
  po : Pow10 w
  mx : MaxL w
  bw : Below w0.heap.size w0 w
theorem BK.step {pa pl : Int} {w0 w w' : World} (h : BK pa pl w0 w) (hb : Below w.heap.size w w') : BK pa pl w0 w' :=
  ⟨h.p.step hb, h.po.step hb, h.mx.step hb, below_via h.bw hb⟩
theorem BK.alloc {pa pl : Int} {w0 w : World} (h : BK pa pl w0 w) (o : Obj) : BK pa pl w0 (w.alloc o) := h.step (below_al (below_self _) _)

set_option maxRecDepth 100000 in
set_option maxHeartbeats 4000000 in
theorem back4 {pa pl a b : Int} {w wx : World} {L : Nat} {x y : Int} {c3 c4 c6 c7 c8 c9 c10 c11 c12 c13 c14 c16 c17 c18 c19 c20 c21 c22 c23 c24 c25 c26 c27 c28 c29 c30 c31 c32 c33 c34 c35 c36 c37 c38 c39 c40 c41 c42 c43 c44 c45 c46 c47 c48 c49 c50 c51 c52 c53 c54 c55 c56 c57 c58 c59 c60 c61 c62 c63 c64 c65 c66 c67 c68 c69 c70 c71 c72 c73 c74 c75 c76 c77 c78 c79 c80 c81 c82 c83 c84 c85 c86 c87 c88 c89 c90 c91 c92 c93 c94 c95 c96 c97 c98 c99 c100 c101 c102 c103 c104 c105 c106 c107 c108 c109 c110 c111 c112 c113 c114 c115 c116 c117 c118 c119 c120 c121 c122 c123 c124 c125 c126 c127 c128 c129 c130 c131 c132 c133 c134 c135 c136 c137 c138 c139 c140 c141 c142 c143 c144 c145 c146 c147 c148 c149 c150 c151 c152 c153 c154 c155 c156 c157 c158 c159 c160 c161 c162 c163 c164 c165 c166 c167 c168 c169 c170 c171 c172 c173 c174 c175 c176 c177 c178 c179 c180 c181 c182 c183 c184 c185 c186 c187 c188 c189 c190 c191 c192 c193 c194 c195 c196 c197 c198 c199 c200 c201 c202 c203 c204 c205 c206 c207 c208 c209 c210 c211 c212 c213 c214 c215 c216 c217 c218 c219 c220 c221 c222 c223 c224 c225 c226 c227 c228 c229 c230 c231 c232 c233 c234 c235 c236 c237 c238 : Value} (hk : BK pa pl w wx) (hL : w.heap.size < L) (cL : Pf wx L x y) :
    Code.wp Tryd.prog (dropSeq 9 (Tryd.f5.body.getD .skip)) (bodyPost Tryd.prog Tryd.f5 fun e w' => e = .returned (.bool true) ∧ Below w.heap.size w w') ⟨#[.int .i64 a, .int .i64 b, pfx pa pl, c3, c4, .pointer (some ⟨w.heap.size, 0, none⟩), c6, c7, c8, c9, c10, c11, c12, c13, c14, .pointer (some ⟨L, 0, none⟩), c16, c17, c18, c19, c20, c21, c22, c23, c24, c25, c26, c27, c28, c29, c30, c31, c32, c33, c34, c35, c36, c37, c38, c39, c40, c41, c42, c43, c44, c45, c46, c47, c48, c49, c50, c51, c52, c53, c54, c55, c56, c57, c58, c59, c60, c61, c62, c63, c64, c65, c66, c67, c68, c69, c70, c71, c72, c73, c74, c75, c76, c77, c78, c79, c80, c81, c82, c83, c84, c85, c86, c87, c88, c89, c90, c91, c92, c93, c94, c95, c96, c97, c98, c99, c100, c101, c102, c103, c104, c105, c106, c107, c108, c109, c110, c111, c112, c113, c114, c115, c116, c117, c118, c119, c120, c121, c122, c123, c124, c125, c126, c127, c128, c129, c130, c131, c132, c133, c134, c135, c136, c137, c138, c139, c140, c141, c142, c143, c144, c145, c146, c147, c148, c149, c150, c151, c152, c153, c154, c155, c156, c157, c158, c159, c160, c161, c162, c163, c164, c165, c166, c167, c168, c169, c170, c171, c172, c173, c174, c175, c176, c177, c178, c179, c180, c181, c182, c183, c184, c185, c186, c187, c188, c189, c190, c191, c192, c193, c194, c195, c196, c197, c198, c199, c200, c201, c202, c203, c204, c205, c206, c207, c208, c209, c210, c211, c212, c213, c214, c215, c216, c217, c218, c219, c220, c221, c222, c223, c224, c225, c226, c227, c228, c229, c230, c231, c232, c233, c234, c235, c236, c237, c238], []⟩ wx := by
  conv => arg 2; whnf
  go_wp2_with fail
  cases ha : Bur.isA a
  · refine (both_no _ _ _ (by rw [ha]; rfl)).mono ?_; rintro e w1 ⟨rfl, hb1⟩
    go_wp2
    go_ret
    exact ⟨rfl, below_al (below_via hk.bw hb1) _⟩
  cases hb : Bur.isA b
  · refine (both_no _ _ _ (by rw [hb]; simp)).mono ?_; rintro e w1 ⟨rfl, hb1⟩
    go_wp2
    go_ret
    exact ⟨rfl, below_al (below_via hk.bw hb1) _⟩
  refine (both_ok _ _ _ ha hb).mono ?_; rintro e w1 ⟨rfl, hb1⟩
  replace cL := cL.step hb1
  have hbw := below_via hk.bw hb1
  clear hk hb1
  obtain ⟨hf, g1, g2, g3, g4⟩ := Bur.both_in ha hb
  have E32 : Hid (32 - Bur.bl a b = 32 → a = b) := Bur.both_32 ha hb
  have EM : Hid (32 - Bur.bl a b < 32 → _) := Bur.both_mid ha hb
  have hle := (Bur.fault_ok hf).2.1
  generalize a - a % Bur.sz (32 - Bur.bl a b) = A at *
  generalize 32 - Bur.bl a b = N at *
  obtain ⟨Q, hQ⟩ : ∃ Q, Hid (w1.heap.size = Q) := ⟨_, rfl⟩
  have cQ := Pf.new w1 A N
  go_wp2_with fail
  rw [hQ.out] at cQ ⊢
  have hLQ : L < Q := by have := cL.lt; have := hQ.out; omega
  clear hQ
  replace cL := cL.alloc (pcs A N)
  replace hbw := below_al hbw (pcs A N)
  generalize w1.alloc (pcs A N) = W2 at *
  refine (ends_ok _ _ _ hf).mono ?_; rintro e w3 ⟨rfl, hb3⟩
  replace cL := cL.step hb3
  replace cQ := cQ.step hb3
  replace hbw := below_via hbw hb3
  clear hb3
  have ⟨q0, q1, _, _, _⟩ := cQ
  have t1 : decide (a < A) = false := by simp; omega
  have t2 : decide (A + (Bur.sz N - 1) < a) = false := by simp; omega
  have t3 : decide (b < A) = false := by simp; omega
  have t4 : decide (A + (Bur.sz N - 1) < b) = false := by simp; omega
  go_wp2_with fail
  by_cases h32 : N = 32
  · have hab := E32.out h32
    subst h32
    refine (halves_none _ _ hf).mono ?_; rintro e w4 ⟨rfl, hb4⟩
    replace cL := cL.step hb4
    replace hbw := below_via hbw hb4
    have ⟨k0, k1, k2, k3, k4⟩ := cL
    have hab' : (a == b) = true := by simp [hab]
    clear hab hb4
    go_wp2
    go_ret
    exact ⟨by first | rfl | rw [hab'], (hbw.setCell (by show w.heap.size ≤ L; omega) _).setCell (by show w.heap.size ≤ L; omega) _⟩
  · have hlt : N < 32 := by omega
    have em := EM.out hlt
    obtain ⟨hfl, _⟩ := Bur.low_ok hf hlt
    refine (halves_ok _ _ _ hf hlt).mono ?_; rintro e w4 ⟨rfl, hb4⟩
    replace cL := cL.step hb4
    replace hbw := below_via hbw hb4
    have ⟨k0, k1, k2, k3, k4⟩ := cL
    clear hb4
    go_wp2_with fail
    refine (ends_ok _ _ _ hfl).mono ?_; rintro e w5 ⟨rfl, hb5⟩
    go_wp2
    go_ret
    exact ⟨ret_bool em, below_via ((hbw.setCell (by show w.heap.size ≤ L; omega) _).setCell (by show w.heap.size ≤ L; omega) _) hb5⟩
end Go.Proofs.YtnnjegohoejlbaaDoor
