/- The walk of the law SpanSets: its last pieces. -/
import Derived.Test.YtfncclkmnkigoaaDoorSpRefD
import Derived.Test.YtfncclkmnkigoaaDoorSpWalkG
import Derived.Test.YtfncclkmnkigoaaDoorAdErr2
namespace Bur
/-- The fault of two sets. -/
def twE (a b : List Sp) : Int := if setF a = 0 then setF b else setF a
theorem twF_E (how : Int) (a b : List Sp) : twF how a b = if twE a b = 0 then (if 64 < (two how a b).length then 3 else 0) else twE a b := by
  unfold twF twE
  by_cases h : setF a = 0
  · simp only [h, if_true]
  · simp only [h, if_false]
theorem twE_ok {a b : List Sp} (h : twE a b = 0) : setF a = 0 ∧ setF b = 0 := by
  unfold twE at h
  split at h
  · rename_i h1; exact ⟨h1, h⟩
  · contradiction
theorem twS_len (how : Int) (a b : List Sp) : (twS how a b).length ≤ 64 := by
  unfold twS
  by_cases h : twF how a b = 0
  · rw [if_pos h]
    rw [twF_E] at h
    split at h
    · split at h
      · omega
      · omega
    · contradiction
  · rw [if_neg h]; simp
end Bur
namespace Go.Proofs.YtfncclkmnkigoaaDoor
open Go.RowKit

theorem errStep {w w' : World} (h : ErrType w) (hb : Below w.heap.size w w') : ErrType w' :=
  (hb.cell (World.block_lt_of_cell? _ _ h)).trans h

set_option maxRecDepth 100000 in
set_option maxHeartbeats 8000000 in
theorem ss7 {l a b : List Bur.Sp} {x : Int} {pl pa pb : Option Addr} {cl ca cb : Nat} {w wx : World} {c4 c5 c6 c7 c8 c10 c11 c12 c13 c14 c15 c16 c17 c18 c19 c20 c21 c22 c23 c24 c25 c26 c27 c28 c29 c30 c31 c32 c33 c34 c35 c36 c37 c38 c39 c40 c41 c42 c43 c44 c45 c46 c47 c48 c49 c50 c51 c52 c53 c54 c55 c56 c57 c58 c59 c60 c61 c62 c63 c64 c65 c66 c67 c68 c69 c70 c71 c72 c73 c74 c75 c76 c77 c78 c79 c80 c81 c82 c83 c84 c85 c86 c87 c88 c89 c90 c91 c92 c93 c94 c95 c96 c97 c98 c99 c100 c101 c102 c103 c104 c105 c106 c107 c108 c109 c110 c111 c112 c113 c114 c115 c116 c117 c118 c119 c120 c121 c122 c123 c124 c125 c126 c127 c128 c129 c130 c131 c132 c133 c134 c135 c136 c137 c138 c139 c140 c141 c142 c143 c144 c145 c146 c147 c148 c149 c150 c151 c152 c153 c154 c155 c156 c157 c158 c159 c160 c161 c162 c163 c164 c165 c166 c167 c168 c169 c170 c171 c172 c173 c174 c175 c176 c177 c178 c179 c180 c181 c182 c183 c184 c185 c186 c187 c188 c189 c190 c191 c192 c193 c194 c195 c196 c197 c198 c199 c200 c201 c202 c203 c204 c205 c206 c207 c208 c209 c210 c211 c212 c213 c214 c215 c216 : Value}
    (la : a.length ≤ 9223372036854775807) (lb : b.length ≤ 9223372036854775807) (sa : SpAt wx pa a) (sb : SpAt wx pb b) (het : ErrType wx) (hb : Below w.heap.size w wx) :
    Code.wp Tryd.prog (dropSeq 27 (Tryd.f3.body.getD .skip)) (bodyPost Tryd.prog Tryd.f3 fun e w' => e = .returned (.bool true) ∧ Below w.heap.size w w') ⟨#[.slice pl l.length cl, .slice pa a.length ca, .slice pb b.length cb, .int .i64 x, c4, c5, c6, c7, c8, .int .i64 (Bur.twE a b), c10, c11, c12, c13, c14, c15, c16, c17, c18, c19, c20, c21, c22, c23, c24, c25, c26, c27, c28, c29, c30, c31, c32, c33, c34, c35, c36, c37, c38, c39, c40, c41, c42, c43, c44, c45, c46, c47, c48, c49, c50, c51, c52, c53, c54, c55, c56, c57, c58, c59, c60, c61, c62, c63, c64, c65, c66, c67, c68, c69, c70, c71, c72, c73, c74, c75, c76, c77, c78, c79, c80, c81, c82, c83, c84, c85, c86, c87, c88, c89, c90, c91, c92, c93, c94, c95, c96, c97, c98, c99, c100, c101, c102, c103, c104, c105, c106, c107, c108, c109, c110, c111, c112, c113, c114, c115, c116, c117, c118, c119, c120, c121, c122, c123, c124, c125, c126, c127, c128, c129, c130, c131, c132, c133, c134, c135, c136, c137, c138, c139, c140, c141, c142, c143, c144, c145, c146, c147, c148, c149, c150, c151, c152, c153, c154, c155, c156, c157, c158, c159, c160, c161, c162, c163, c164, c165, c166, c167, c168, c169, c170, c171, c172, c173, c174, c175, c176, c177, c178, c179, c180, c181, c182, c183, c184, c185, c186, c187, c188, c189, c190, c191, c192, c193, c194, c195, c196, c197, c198, c199, c200, c201, c202, c203, c204, c205, c206, c207, c208, c209, c210, c211, c212, c213, c214, c215, c216], []⟩ wx := by
  obtain ⟨E, hE⟩ : ∃ E, Hid (Bur.twE a b = E) := ⟨_, rfl⟩
  rw [hE.out]
  conv => arg 2; whnf
  go_wp2_with fail
  go_loopw [24] (fun i wr => ∃ h : Int, 1 ≤ h ∧ h ≤ 4 ∧ i = .int .i64 h ∧ Below wx.heap.size wx wr) (fun i _ => (4 - intOf i).toNat)
  case atStart => exact ⟨1, by omega, by omega, rfl, below_self _⟩
  case round =>
    obtain ⟨h, h1, h4, rfl, hbw⟩ := hrel
    by_cases hlt : h ≤ 3
    · have sa2 := sa.step hbw
      have sb2 := sb.step hbw
      have et2 := errStep het hbw
      obtain ⟨W, hW⟩ : ∃ W, W = wr := ⟨_, rfl⟩
      subst hW
      have F := Bur.twF_E h a b
      have hS : Bur.twS h a b = if Bur.twF h a b = 0 then Bur.two h a b else [] := rfl
      have hSl := Bur.twS_len h a b
      have F' : Hid _ := F
      have hS' : Hid _ := hS
      clear F hS
      go_upto_if 175 with fail
      go_cut [11, 19] from 174 to 182 (fun v f wy => ∃ r cr, v = .slice r (Bur.twS h a b).length cr ∧ f = .int .i64 (Bur.twF h a b) ∧ SpAt wy r (Bur.twS h a b) ∧ Below W.heap.size W wy)
      case first =>
        cases hc : (E == 0)
        · have hc' : Hid (¬ Bur.twE a b = 0) := by show ¬ _; rw [hE.out]; simpa using hc
          have F2 : Hid (Bur.twF h a b = E) := by show _ = _; rw [F'.out, if_neg hc'.out, hE.out]
          have S2 : Hid (Bur.twS h a b = []) := by show _ = _; rw [hS'.out, F'.out, if_neg hc'.out, if_neg hc'.out]
          go_wp2_with fail
          go_meet
          case rel => exact ⟨none, 0, by rw [S2.out]; rfl, by rw [F2.out], by rw [S2.out]; exact SpAt.nil _ _, below_self _⟩
        · have hc' : Hid (Bur.twE a b = 0) := by show _ = _; rw [hE.out]; simpa using hc
          have ok := Bur.twE_ok hc'.out
          have oka := Bur.setF_ok ok.1
          have okb := Bur.setF_ok ok.2
          have l1 := oka.1
          have l2 := okb.1
          have i1 := oka.2.2
          have i2 := okb.2.2
          clear ok oka okb
          go_wp2_with fail
          refine (refTogether h pa ca a pb cb b W h1 hlt (by omega) (by omega) i1 i2 sa2 sb2).mono ?_
          rintro e w2 ⟨r, cr, rfl, st, hb2⟩
          clear i1 i2
          obtain ⟨n, hn⟩ : ∃ n, Hid ((Bur.two h a b).length = n) := ⟨_, rfl⟩
          rw [hn.out]
          by_cases h64 : 64 < n
          · have F2 : Hid (Bur.twF h a b = 3) := by show _ = _; rw [F'.out, if_pos hc'.out, hn.out, if_pos h64]
            have S2 : Hid (Bur.twS h a b = []) := by show _ = _; rw [hS'.out, if_neg (by rw [F2.out]; decide)]
            have h64' : (64 : Int) < (n : Int) := by omega
            clear st
            go_wp2_with fail
            go_meet
            case rel => exact ⟨none, 0, by rw [S2.out]; rfl, by rw [F2.out], by rw [S2.out]; exact SpAt.nil _ _, hb2⟩
          · have F2 : Hid (Bur.twF h a b = 0) := by show _ = _; rw [F'.out, if_pos hc'.out, hn.out, if_neg h64]
            have S2 : Hid (Bur.twS h a b = Bur.two h a b) := by show _ = _; rw [hS'.out, if_pos F2.out]
            have h64' : (n : Int) ≤ 64 := by omega
            go_wp2_with fail
            go_meet
            case rel => exact ⟨r, cr, by rw [S2.out, hn.out], by rw [F2.out, ← hc'.out, hE.out], by rw [S2.out]; exact st, hb2⟩
      case rest =>
      obtain ⟨r, cr, rfl, rfl, st, hb2⟩ := hcut
      clear F' hS'
      replace sa2 := sa2.step hb2
      replace sb2 := sb2.step hb2
      replace et2 := errStep et2 hb2
      replace hbw := below_via hbw hb2
      clear hb2
      obtain ⟨V, hV⟩ : ∃ V, V = wc := ⟨_, rfl⟩
      subst hV
      have hh : h = 1 ∨ h = 2 ∨ h = 3 := by omega
      rcases hh with rfl | rfl | rfl
      · go_wp2_with fail
        refine (spanUnion pa ca a pb cb b V la lb sa2 sb2).mono ?_
        rintro e w2 ⟨r2, cr2, rfl, s2, hb2⟩
        replace st := st.step hb2
        replace et2 := errStep et2 hb2
        replace hbw := below_via hbw hb2
        clear hb2
        go_wp2_with fail
        refine (error_any (Bur.twF 1 a b) (Bur.twF 1 a b) w2 et2).mono ?_
        rintro e w3 ⟨rfl, hb2⟩
        rw [beq_self_eq_true]
        replace st := st.step hb2
        replace s2 := s2.step hb2
        replace hbw := below_via hbw hb2
        clear hb2
        go_wp2_with fail
        refine (spans_same r2 r cr2 cr (Bur.twS 1 a b) w3 (by omega) s2 st).mono ?_
        rintro e w4 ⟨rfl, hb2⟩
        replace hbw := below_via hbw hb2
        clear hb2 st s2
        go_wp2_with fail
        exact ⟨⟨2, by omega, by omega, rfl, hbw⟩, by simp [intOf]⟩
      · go_wp2_with fail
        refine (spanUnion pa ca a pb cb b V la lb sa2 sb2).mono ?_
        rintro e w2 ⟨r2, cr2, rfl, s2, hb2⟩
        replace st := st.step hb2
        replace sa2 := sa2.step hb2
        replace sb2 := sb2.step hb2
        replace et2 := errStep et2 hb2
        replace hbw := below_via hbw hb2
        clear hb2 s2
        go_wp2_with fail
        refine (spanMeet pa ca a pb cb b w2 la lb sa2 sb2).mono ?_
        rintro e w2' ⟨r3, cr3, rfl, s2, hb2⟩
        replace st := st.step hb2
        replace et2 := errStep et2 hb2
        replace hbw := below_via hbw hb2
        clear hb2
        go_wp2_with fail
        refine (error_any (Bur.twF 2 a b) (Bur.twF 2 a b) w2' et2).mono ?_
        rintro e w3 ⟨rfl, hb2⟩
        rw [beq_self_eq_true]
        replace st := st.step hb2
        replace s2 := s2.step hb2
        replace hbw := below_via hbw hb2
        clear hb2
        go_wp2_with fail
        refine (spans_same r3 r cr3 cr (Bur.twS 2 a b) w3 (by omega) s2 st).mono ?_
        rintro e w4 ⟨rfl, hb2⟩
        replace hbw := below_via hbw hb2
        clear hb2 st s2
        go_wp2_with fail
        exact ⟨⟨3, by omega, by omega, rfl, hbw⟩, by simp [intOf]⟩
      · go_wp2_with fail
        refine (spanUnion pa ca a pb cb b V la lb sa2 sb2).mono ?_
        rintro e w2 ⟨r2, cr2, rfl, s2, hb2⟩
        replace st := st.step hb2
        replace sa2 := sa2.step hb2
        replace sb2 := sb2.step hb2
        replace et2 := errStep et2 hb2
        replace hbw := below_via hbw hb2
        clear hb2 s2
        go_wp2_with fail
        refine (spanMinus pa ca a pb cb b w2 la lb sa2 sb2).mono ?_
        rintro e w2' ⟨r3, cr3, rfl, s2, hb2⟩
        replace st := st.step hb2
        replace et2 := errStep et2 hb2
        replace hbw := below_via hbw hb2
        clear hb2
        go_wp2_with fail
        refine (error_any (Bur.twF 3 a b) (Bur.twF 3 a b) w2' et2).mono ?_
        rintro e w3 ⟨rfl, hb2⟩
        rw [beq_self_eq_true]
        replace st := st.step hb2
        replace s2 := s2.step hb2
        replace hbw := below_via hbw hb2
        clear hb2
        go_wp2_with fail
        refine (spans_same r3 r cr3 cr (Bur.twS 3 a b) w3 (by omega) s2 st).mono ?_
        rintro e w4 ⟨rfl, hb2⟩
        replace hbw := below_via hbw hb2
        clear hb2 st s2
        go_wp2_with fail
        exact ⟨⟨4, by omega, by omega, rfl, hbw⟩, by simp [intOf]⟩
    · have hb2 := below_via hb hbw
      clear hbw hb
      go_wp2_with fail
      go_ret
      exact ⟨rfl, hb2⟩

set_option maxRecDepth 100000 in
set_option maxHeartbeats 8000000 in
theorem ss6 {l a b : List Bur.Sp} {x : Int} {pl pa pb : Option Addr} {cl ca cb : Nat} {w wx : World} {c4 c5 c6 c7 c8 c10 c11 c12 c13 c14 c15 c16 c17 c18 c19 c20 c21 c22 c23 c24 c25 c26 c27 c28 c29 c30 c31 c32 c33 c34 c35 c36 c37 c38 c39 c40 c41 c42 c43 c44 c45 c46 c47 c48 c49 c50 c51 c52 c53 c54 c55 c56 c57 c58 c59 c60 c61 c62 c63 c64 c65 c66 c67 c68 c69 c70 c71 c72 c73 c74 c75 c76 c77 c78 c79 c80 c81 c82 c83 c84 c85 c86 c87 c88 c89 c90 c91 c92 c93 c94 c95 c96 c97 c98 c99 c100 c101 c102 c103 c104 c105 c106 c107 c108 c109 c110 c111 c112 c113 c114 c115 c116 c117 c118 c119 c120 c121 c122 c123 c124 c125 c126 c127 c128 c129 c130 c131 c132 c133 c134 c135 c136 c137 c138 c139 c140 c141 c142 c143 c144 c145 c146 c147 c148 c149 c150 c151 c152 c153 c154 c155 c156 c157 c158 c159 c160 c161 c162 c163 c164 c165 c166 c167 c168 c169 c170 c171 c172 c173 c174 c175 c176 c177 c178 c179 c180 c181 c182 c183 c184 c185 c186 c187 c188 c189 c190 c191 c192 c193 c194 c195 c196 c197 c198 c199 c200 c201 c202 c203 c204 c205 c206 c207 c208 c209 c210 c211 c212 c213 c214 c215 c216 : Value}
    (la : a.length ≤ 9223372036854775807) (lb : b.length ≤ 9223372036854775807) (sa : SpAt wx pa a) (sb : SpAt wx pb b) (het : ErrType wx) (hb : Below w.heap.size w wx) :
    Code.wp Tryd.prog (dropSeq 26 (Tryd.f3.body.getD .skip)) (bodyPost Tryd.prog Tryd.f3 fun e w' => e = .returned (.bool true) ∧ Below w.heap.size w w') ⟨#[.slice pl l.length cl, .slice pa a.length ca, .slice pb b.length cb, .int .i64 x, c4, c5, c6, c7, c8, .int .i64 (Bur.setF a), c10, c11, c12, c13, c14, c15, c16, c17, c18, c19, c20, c21, c22, c23, c24, c25, c26, c27, c28, c29, c30, c31, c32, c33, c34, c35, c36, c37, c38, c39, c40, c41, c42, c43, c44, c45, c46, c47, c48, c49, c50, c51, c52, c53, c54, c55, c56, c57, c58, c59, c60, c61, c62, c63, c64, c65, c66, c67, c68, c69, c70, c71, c72, c73, c74, c75, c76, c77, c78, c79, c80, c81, c82, c83, c84, c85, c86, c87, c88, c89, c90, c91, c92, c93, c94, c95, c96, c97, c98, c99, c100, c101, c102, c103, c104, c105, c106, c107, c108, c109, c110, c111, c112, c113, c114, c115, c116, c117, c118, c119, c120, c121, c122, c123, c124, c125, c126, c127, c128, c129, c130, c131, c132, c133, c134, c135, c136, c137, c138, c139, c140, c141, c142, c143, c144, c145, c146, c147, c148, c149, c150, c151, c152, c153, c154, c155, c156, c157, c158, c159, c160, c161, c162, c163, c164, c165, c166, c167, c168, c169, c170, c171, c172, c173, c174, c175, c176, c177, c178, c179, c180, c181, c182, c183, c184, c185, c186, c187, c188, c189, c190, c191, c192, c193, c194, c195, c196, c197, c198, c199, c200, c201, c202, c203, c204, c205, c206, c207, c208, c209, c210, c211, c212, c213, c214, c215, c216], []⟩ wx := by
  obtain ⟨E, hE⟩ : ∃ E, Hid (Bur.setF a = E) := ⟨_, rfl⟩
  rw [hE.out]
  conv => arg 2; whnf
  go_upto_if 166 with fail
  go_cut [9] (fun v wy => v = .int .i64 (Bur.twE a b) ∧ Below wx.heap.size wx wy)
  case first =>
    cases hc : (E == 0)
    · have hc' : Hid (Bur.twE a b = E) := by show _ = _; unfold Bur.twE; rw [hE.out, if_neg (by simpa using hc)]
      go_wp2_with fail
      go_meet
      case rel => exact ⟨by rw [hc'.out], below_self _⟩
    · have hc' : Hid (Bur.twE a b = Bur.setF b) := by show _ = _; unfold Bur.twE; rw [hE.out, if_pos (by simpa using hc)]
      go_wp2_with fail
      refine (refSetFault pb cb b wx lb sb).mono ?_
      rintro e w1 ⟨rfl, hb1⟩
      go_wp2_with fail
      go_meet
      case rel => exact ⟨by rw [hc'.out], hb1⟩
  case rest =>
  obtain ⟨rfl, hb2⟩ := hcut
  refine ‹∀ (a : Act) (w : World), Code.wp _ _ _ a w → _› _ _ ?_
  exact ss7 la lb (sa.step hb2) (sb.step hb2) (errStep het hb2) (below_via hb hb2)
end Go.Proofs.YtfncclkmnkigoaaDoor
