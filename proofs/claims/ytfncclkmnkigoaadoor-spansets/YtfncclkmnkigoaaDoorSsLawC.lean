/- The walk of the law SpanSets: how many, and a set's fault. -/
import Derived.Test.YtfncclkmnkigoaaDoorSsLawB
namespace Go.Proofs.YtfncclkmnkigoaaDoor
open Go.RowKit

set_option maxRecDepth 100000 in
set_option maxHeartbeats 8000000 in
theorem ss4b {l a b : List Bur.Sp} {x : Int} {pl pa pb : Option Addr} {cl ca cb : Nat} {w wx : World} {c4 c5 c6 c7 c8 c10 c11 c12 c13 c14 c15 c17 c18 c19 c20 c21 c22 c23 c24 c25 c26 c27 c28 c29 c30 c31 c32 c33 c34 c35 c36 c37 c38 c39 c40 c41 c42 c43 c44 c45 c46 c47 c48 c49 c50 c51 c52 c53 c54 c55 c56 c57 c58 c59 c60 c61 c62 c63 c64 c65 c66 c67 c68 c69 c70 c71 c72 c73 c74 c75 c76 c77 c78 c79 c80 c81 c82 c83 c84 c85 c86 c87 c88 c89 c90 c91 c92 c93 c94 c95 c96 c97 c98 c99 c100 c101 c102 c103 c104 c105 c106 c107 c108 c109 c110 c111 c112 c113 c114 c115 c116 c117 c118 c119 c120 c121 c122 c123 c124 c125 c126 c127 c128 c129 c130 c131 c132 c133 c134 c135 c136 c137 c138 c139 c140 c141 c142 c143 c144 c145 c146 c147 c148 c149 c150 c151 c152 c153 c154 c155 c156 c157 c158 c159 c160 c161 c162 c163 c164 c165 c166 c167 c168 c169 c170 c171 c172 c173 c174 c175 c176 c177 c178 c179 c180 c181 c182 c183 c184 c185 c186 c187 c188 c189 c190 c191 c192 c193 c194 c195 c196 c197 c198 c199 c200 c201 c202 c203 c204 c205 c206 c207 c208 c209 c210 c211 c212 c213 c214 c215 c216 : Value}
    (la : a.length ≤ 9223372036854775807) (lb : b.length ≤ 9223372036854775807) (sa : SpAt wx pa a) (sb : SpAt wx pb b) (het : ErrType wx) (hb : Below w.heap.size w wx) :
    Code.wp Tryd.prog (dropSeq 15 (Tryd.f3.body.getD .skip)) (bodyPost Tryd.prog Tryd.f3 fun e w' => e = .returned (.bool true) ∧ Below w.heap.size w w') ⟨#[.slice pl l.length cl, .slice pa a.length ca, .slice pb b.length cb, .int .i64 x, c4, c5, c6, c7, c8, .int .i64 (Bur.setF a), c10, c11, c12, c13, c14, c15, .int .i64 (Bur.cnF a), c17, c18, c19, c20, c21, c22, c23, c24, c25, c26, c27, c28, c29, c30, c31, c32, c33, c34, c35, c36, c37, c38, c39, c40, c41, c42, c43, c44, c45, c46, c47, c48, c49, c50, c51, c52, c53, c54, c55, c56, c57, c58, c59, c60, c61, c62, c63, c64, c65, c66, c67, c68, c69, c70, c71, c72, c73, c74, c75, c76, c77, c78, c79, c80, c81, c82, c83, c84, c85, c86, c87, c88, c89, c90, c91, c92, c93, c94, c95, c96, c97, c98, c99, c100, c101, c102, c103, c104, c105, c106, c107, c108, c109, c110, c111, c112, c113, c114, c115, c116, c117, c118, c119, c120, c121, c122, c123, c124, c125, c126, c127, c128, c129, c130, c131, c132, c133, c134, c135, c136, c137, c138, c139, c140, c141, c142, c143, c144, c145, c146, c147, c148, c149, c150, c151, c152, c153, c154, c155, c156, c157, c158, c159, c160, c161, c162, c163, c164, c165, c166, c167, c168, c169, c170, c171, c172, c173, c174, c175, c176, c177, c178, c179, c180, c181, c182, c183, c184, c185, c186, c187, c188, c189, c190, c191, c192, c193, c194, c195, c196, c197, c198, c199, c200, c201, c202, c203, c204, c205, c206, c207, c208, c209, c210, c211, c212, c213, c214, c215, c216], []⟩ wx := by
  obtain ⟨N, hN⟩ : ∃ N, Hid (Bur.cnF a = N) := ⟨_, rfl⟩
  rw [hN.out]
  conv => arg 2; whnf
  go_wp2_with fail
  refine (count pa ca a wx la sa).mono ?_
  rintro e w1 ⟨rfl, hb1⟩
  rw [hN.out]
  replace sa := sa.step hb1
  replace sb := sb.step hb1
  replace het := errStep het hb1
  replace hb := below_via hb hb1
  clear hb1
  go_wp2_with fail
  refine (error_any (Bur.setF a) (Bur.setF a) w1 het).mono ?_
  rintro e w2 ⟨rfl, hb1⟩
  rw [beq_self_eq_true]
  replace sa := sa.step hb1
  replace sb := sb.step hb1
  replace het := errStep het hb1
  replace hb := below_via hb hb1
  clear hb1
  go_upto_if 110 with fail
  go_cut [8] (fun _ wy => wy = w2)
  case first =>
    go_wp2_with fail
    go_meet
    case rel => exact rfl
  case rest =>
  subst hcut
  refine ‹∀ (a : Act) (w : World), Code.wp _ _ _ a w → _› _ _ ?_
  exact ss5 la lb sa sb het hb

set_option maxRecDepth 100000 in
set_option maxHeartbeats 8000000 in
theorem ss4 {l a b : List Bur.Sp} {x : Int} {pl pa pb : Option Addr} {cl ca cb : Nat} {w wx : World} {c4 c5 c6 c7 c8 c10 c11 c12 c13 c14 c15 c16 c17 c18 c19 c20 c21 c22 c23 c24 c25 c26 c27 c28 c29 c30 c31 c32 c33 c34 c35 c36 c37 c38 c39 c40 c41 c42 c43 c44 c45 c46 c47 c48 c49 c50 c51 c52 c53 c54 c55 c56 c57 c58 c59 c60 c61 c62 c63 c64 c65 c66 c67 c68 c69 c70 c71 c72 c73 c74 c75 c76 c77 c78 c79 c80 c81 c82 c83 c84 c85 c86 c87 c88 c89 c90 c91 c92 c93 c94 c95 c96 c97 c98 c99 c100 c101 c102 c103 c104 c105 c106 c107 c108 c109 c110 c111 c112 c113 c114 c115 c116 c117 c118 c119 c120 c121 c122 c123 c124 c125 c126 c127 c128 c129 c130 c131 c132 c133 c134 c135 c136 c137 c138 c139 c140 c141 c142 c143 c144 c145 c146 c147 c148 c149 c150 c151 c152 c153 c154 c155 c156 c157 c158 c159 c160 c161 c162 c163 c164 c165 c166 c167 c168 c169 c170 c171 c172 c173 c174 c175 c176 c177 c178 c179 c180 c181 c182 c183 c184 c185 c186 c187 c188 c189 c190 c191 c192 c193 c194 c195 c196 c197 c198 c199 c200 c201 c202 c203 c204 c205 c206 c207 c208 c209 c210 c211 c212 c213 c214 c215 c216 : Value}
    (la : a.length ≤ 9223372036854775807) (lb : b.length ≤ 9223372036854775807) (sa : SpAt wx pa a) (sb : SpAt wx pb b) (het : ErrType wx) (hb : Below w.heap.size w wx) :
    Code.wp Tryd.prog (dropSeq 13 (Tryd.f3.body.getD .skip)) (bodyPost Tryd.prog Tryd.f3 fun e w' => e = .returned (.bool true) ∧ Below w.heap.size w w') ⟨#[.slice pl l.length cl, .slice pa a.length ca, .slice pb b.length cb, .int .i64 x, c4, c5, c6, c7, c8, .int .i64 (Bur.setF a), c10, c11, c12, c13, c14, c15, c16, c17, c18, c19, c20, c21, c22, c23, c24, c25, c26, c27, c28, c29, c30, c31, c32, c33, c34, c35, c36, c37, c38, c39, c40, c41, c42, c43, c44, c45, c46, c47, c48, c49, c50, c51, c52, c53, c54, c55, c56, c57, c58, c59, c60, c61, c62, c63, c64, c65, c66, c67, c68, c69, c70, c71, c72, c73, c74, c75, c76, c77, c78, c79, c80, c81, c82, c83, c84, c85, c86, c87, c88, c89, c90, c91, c92, c93, c94, c95, c96, c97, c98, c99, c100, c101, c102, c103, c104, c105, c106, c107, c108, c109, c110, c111, c112, c113, c114, c115, c116, c117, c118, c119, c120, c121, c122, c123, c124, c125, c126, c127, c128, c129, c130, c131, c132, c133, c134, c135, c136, c137, c138, c139, c140, c141, c142, c143, c144, c145, c146, c147, c148, c149, c150, c151, c152, c153, c154, c155, c156, c157, c158, c159, c160, c161, c162, c163, c164, c165, c166, c167, c168, c169, c170, c171, c172, c173, c174, c175, c176, c177, c178, c179, c180, c181, c182, c183, c184, c185, c186, c187, c188, c189, c190, c191, c192, c193, c194, c195, c196, c197, c198, c199, c200, c201, c202, c203, c204, c205, c206, c207, c208, c209, c210, c211, c212, c213, c214, c215, c216], []⟩ wx := by
  obtain ⟨E, hE⟩ : ∃ E, Hid (Bur.setF a = E) := ⟨_, rfl⟩
  rw [hE.out]
  conv => arg 2; whnf
  go_upto_block 2 with fail
  go_cut [16, 17] from 72 to 95 (fun v _ wy => v = .int .i64 (Bur.cnF a) ∧ Below wx.heap.size wx wy)
  case rest =>
    obtain ⟨rfl, hb2⟩ := hcut
    rw [← hE.out]
    refine ‹∀ (a : Act) (w : World), Code.wp _ _ _ a w → _› _ _ ?_
    exact ss4b la lb (sa.step hb2) (sb.step hb2) (errStep het hb2) (below_via hb hb2)
  case first =>
  have hR : Hid (Bur.cnF a = if E = 0 then Bur.cnt a else 0) := by show _ = _; rw [← hE.out]; rfl
  have hA : E = 0 → a.length ≤ 64 ∧ Bur.InA a := fun h => by
    have := Bur.setF_ok (hE.out.trans h)
    exact ⟨this.1, this.2.2⟩
  go_wp2_with fail
  go_loopw [16, 17] (fun v i wr => ∃ (k : Nat) (N : Int), k ≤ a.length ∧ i = .int .i64 k ∧ v = .int .i64 N ∧ 0 ≤ N ∧ N ≤ 4294967296 * k ∧ Hid (Bur.cnF a = N + if E = 0 then Bur.cnt (a.drop k) else 0) ∧ Below wx.heap.size wx wr) (fun _ i _ => a.length - (intOf i).toNat)
  case atStart => exact ⟨0, 0, by omega, rfl, rfl, by omega, by omega, by show _ = _; rw [hR.out, List.drop_zero]; omega, below_self _⟩
  case round =>
    obtain ⟨k, N, hk, rfl, rfl, hN0, hN1, R, hbw⟩ := hrel
    by_cases hlt : k < a.length
    · have hlt' : (k : Int) < (a.length : Int) := by omega
      cases hc : (E == 0)
      · have R2 : Hid (Bur.cnF a = N) := by
          show _ = _
          rw [R.out, if_neg (by simpa using hc)]; omega
        clear R hR sa sb hA
        go_wp2_with fail
        go_meet
        case rel => exact ⟨by rw [R2.out], hbw⟩
      · have hE0 : E = 0 := by simpa using hc
        obtain ⟨l64, iA⟩ := hA hE0
        obtain ⟨b', off, rfl, hbl, hcc⟩ := sa (by omega)
        have hcb := bcell hbw
        have c0 : wr.cell? ⟨b', off + k * 2, none⟩ = some (.int .i64 (lo a k)) := (hcb.1 _ _ hbl).trans (hcc k hlt).1
        have c1 : wr.cell? ⟨b', off + k * 2 + 1, none⟩ = some (.int .i64 (hi a k)) := (hcb.1 _ _ hbl).trans (hcc k hlt).2
        have ok := iA (lo a k, hi a k) (by
          have : (lo a k, hi a k) ∈ a.drop k := by rw [drop_sp hlt]; simp
          exact List.mem_of_mem_drop this)
        simp only at ok
        have R2 : Hid (Bur.cnF a = (N + hi a k - lo a k + 1) + if E = 0 then Bur.cnt (a.drop (k + 1)) else 0) := by
          show _ = _
          rw [R.out, if_pos hE0, if_pos hE0, drop_sp hlt, Bur.cnt]; simp only; omega
        have x1 : IntKind.i64.wrap (N + hi a k) = N + hi a k := Bur.wrap_i64_id _ (by omega) (by omega)
        have x2 : IntKind.i64.wrap (N + hi a k - lo a k) = N + hi a k - lo a k := Bur.wrap_i64_id _ (by omega) (by omega)
        have x3 : IntKind.i64.wrap (N + hi a k - lo a k + 1) = N + hi a k - lo a k + 1 := Bur.wrap_i64_id _ (by omega) (by omega)
        have b1 : N + hi a k - lo a k + 1 ≤ 4294967296 * ((k + 1 : Nat) : Int) := by omega
        have b0 : 0 ≤ N + hi a k - lo a k + 1 := by omega
        clear R hR hcc sa sb hA hcb iA hE0
        go_wp2_with fail
        go_quiet (fail)
        go_wp2_with fail
        exact ⟨⟨k + 1, N + hi a k - lo a k + 1, by omega, by go_num, rfl, b0, b1, R2, below_drewN hbw _⟩, by simp [intOf]; omega⟩
    · have R2 : Hid (Bur.cnF a = N) := by
        show _ = _
        rw [R.out, List.drop_eq_nil_of_le (by omega)]; simp [Bur.cnt]
      clear R hR sa sb hA
      go_wp2_with fail
      go_meet
      case rel => exact ⟨by rw [R2.out], hbw⟩

set_option maxRecDepth 100000 in
set_option maxHeartbeats 8000000 in
theorem ss3 {l a b : List Bur.Sp} {x : Int} {pl pa pb : Option Addr} {cl ca cb : Nat} {w wx : World} {c4 c5 c6 c7 c8 c9 c10 c11 c12 c13 c14 c15 c16 c17 c18 c19 c20 c21 c22 c23 c24 c25 c26 c27 c28 c29 c30 c31 c32 c33 c34 c35 c36 c37 c38 c39 c40 c41 c42 c43 c44 c45 c46 c47 c48 c49 c50 c51 c52 c53 c54 c55 c56 c57 c58 c59 c60 c61 c62 c63 c64 c65 c66 c67 c68 c69 c70 c71 c72 c73 c74 c75 c76 c77 c78 c79 c80 c81 c82 c83 c84 c85 c86 c87 c88 c89 c90 c91 c92 c93 c94 c95 c96 c97 c98 c99 c100 c101 c102 c103 c104 c105 c106 c107 c108 c109 c110 c111 c112 c113 c114 c115 c116 c117 c118 c119 c120 c121 c122 c123 c124 c125 c126 c127 c128 c129 c130 c131 c132 c133 c134 c135 c136 c137 c138 c139 c140 c141 c142 c143 c144 c145 c146 c147 c148 c149 c150 c151 c152 c153 c154 c155 c156 c157 c158 c159 c160 c161 c162 c163 c164 c165 c166 c167 c168 c169 c170 c171 c172 c173 c174 c175 c176 c177 c178 c179 c180 c181 c182 c183 c184 c185 c186 c187 c188 c189 c190 c191 c192 c193 c194 c195 c196 c197 c198 c199 c200 c201 c202 c203 c204 c205 c206 c207 c208 c209 c210 c211 c212 c213 c214 c215 c216 : Value}
    (la : a.length ≤ 9223372036854775807) (lb : b.length ≤ 9223372036854775807) (sa : SpAt wx pa a) (sb : SpAt wx pb b) (het : ErrType wx) (hb : Below w.heap.size w wx) :
    Code.wp Tryd.prog (dropSeq 10 (Tryd.f3.body.getD .skip)) (bodyPost Tryd.prog Tryd.f3 fun e w' => e = .returned (.bool true) ∧ Below w.heap.size w w') ⟨#[.slice pl l.length cl, .slice pa a.length ca, .slice pb b.length cb, .int .i64 x, c4, c5, c6, c7, c8, c9, c10, c11, c12, c13, c14, c15, c16, c17, c18, c19, c20, c21, c22, c23, c24, c25, c26, c27, c28, c29, c30, c31, c32, c33, c34, c35, c36, c37, c38, c39, c40, c41, c42, c43, c44, c45, c46, c47, c48, c49, c50, c51, c52, c53, c54, c55, c56, c57, c58, c59, c60, c61, c62, c63, c64, c65, c66, c67, c68, c69, c70, c71, c72, c73, c74, c75, c76, c77, c78, c79, c80, c81, c82, c83, c84, c85, c86, c87, c88, c89, c90, c91, c92, c93, c94, c95, c96, c97, c98, c99, c100, c101, c102, c103, c104, c105, c106, c107, c108, c109, c110, c111, c112, c113, c114, c115, c116, c117, c118, c119, c120, c121, c122, c123, c124, c125, c126, c127, c128, c129, c130, c131, c132, c133, c134, c135, c136, c137, c138, c139, c140, c141, c142, c143, c144, c145, c146, c147, c148, c149, c150, c151, c152, c153, c154, c155, c156, c157, c158, c159, c160, c161, c162, c163, c164, c165, c166, c167, c168, c169, c170, c171, c172, c173, c174, c175, c176, c177, c178, c179, c180, c181, c182, c183, c184, c185, c186, c187, c188, c189, c190, c191, c192, c193, c194, c195, c196, c197, c198, c199, c200, c201, c202, c203, c204, c205, c206, c207, c208, c209, c210, c211, c212, c213, c214, c215, c216], []⟩ wx := by
  conv => arg 2; whnf
  go_wp2_with fail
  refine (refSetFault pa ca a wx la sa).mono ?_
  rintro e w1 ⟨rfl, hb1⟩
  replace sa := sa.step hb1
  replace sb := sb.step hb1
  replace het := errStep het hb1
  replace hb := below_via hb hb1
  clear hb1
  go_wp2_with fail
  refine (check pa ca a w1 la sa).mono ?_
  rintro e w2 ⟨rfl, hb1⟩
  replace sa := sa.step hb1
  replace sb := sb.step hb1
  replace het := errStep het hb1
  replace hb := below_via hb hb1
  clear hb1
  go_wp2_with fail
  refine (error_any (Bur.setF a) (Bur.setF a) w2 het).mono ?_
  rintro e w3 ⟨rfl, hb1⟩
  rw [beq_self_eq_true]
  replace sa := sa.step hb1
  replace sb := sb.step hb1
  replace het := errStep het hb1
  replace hb := below_via hb hb1
  clear hb1
  go_upto_if 71 with fail
  go_cut [8] (fun _ wy => wy = w3)
  case first =>
    go_wp2_with fail
    go_meet
    case rel => exact rfl
  case rest =>
  subst hcut
  refine ‹∀ (a : Act) (w : World), Code.wp _ _ _ a w → _› _ _ ?_
  exact ss4 la lb sa sb het hb
end Go.Proofs.YtfncclkmnkigoaaDoor
