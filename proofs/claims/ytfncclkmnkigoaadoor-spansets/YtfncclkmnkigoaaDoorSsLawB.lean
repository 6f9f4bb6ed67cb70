/- The walk of the law SpanSets: its middle pieces. -/
import Derived.Test.YtfncclkmnkigoaaDoorSsLawA
namespace Bur
theorem haF_E (a : List Sp) (x : Int) : haF a x = if setF a = 0 then (if isA x = true then 0 else 1) else setF a := rfl
theorem cnt_drop {a : List Sp} (h : InA a) : ∀ k : Nat, 0 ≤ cnt (a.drop k) ∧ cnt (a.drop k) ≤ 4294967296 * (a.length - k : Nat) := by
  intro k
  have g : ∀ l : List Sp, InA l → 0 ≤ cnt l ∧ cnt l ≤ 4294967296 * (l.length : Nat) := by
    intro l
    induction l with
    | nil => intro _; simp [cnt]
    | cons s r ih =>
      intro hl
      have h1 := hl s (by simp)
      have h2 := ih (fun t ht => hl t (by simp [ht]))
      rw [cnt, List.length_cons]
      omega
  have := g (a.drop k) (fun s hs => h s (List.mem_of_mem_drop hs))
  rwa [List.length_drop] at this
end Bur
namespace Go.Proofs.YtfncclkmnkigoaaDoor
open Go.RowKit

set_option maxRecDepth 100000 in
set_option maxHeartbeats 8000000 in
theorem ss5b {l a b : List Bur.Sp} {x : Int} {pl pa pb : Option Addr} {cl ca cb : Nat} {w wx : World} {c4 c5 c6 c7 c8 c10 c11 c12 c13 c14 c15 c16 c17 c18 c20 c22 c23 c24 c25 c26 c27 c28 c29 c30 c31 c32 c33 c34 c35 c36 c37 c38 c39 c40 c41 c42 c43 c44 c45 c46 c47 c48 c49 c50 c51 c52 c53 c54 c55 c56 c57 c58 c59 c60 c61 c62 c63 c64 c65 c66 c67 c68 c69 c70 c71 c72 c73 c74 c75 c76 c77 c78 c79 c80 c81 c82 c83 c84 c85 c86 c87 c88 c89 c90 c91 c92 c93 c94 c95 c96 c97 c98 c99 c100 c101 c102 c103 c104 c105 c106 c107 c108 c109 c110 c111 c112 c113 c114 c115 c116 c117 c118 c119 c120 c121 c122 c123 c124 c125 c126 c127 c128 c129 c130 c131 c132 c133 c134 c135 c136 c137 c138 c139 c140 c141 c142 c143 c144 c145 c146 c147 c148 c149 c150 c151 c152 c153 c154 c155 c156 c157 c158 c159 c160 c161 c162 c163 c164 c165 c166 c167 c168 c169 c170 c171 c172 c173 c174 c175 c176 c177 c178 c179 c180 c181 c182 c183 c184 c185 c186 c187 c188 c189 c190 c191 c192 c193 c194 c195 c196 c197 c198 c199 c200 c201 c202 c203 c204 c205 c206 c207 c208 c209 c210 c211 c212 c213 c214 c215 c216 : Value}
    (la : a.length ≤ 9223372036854775807) (lb : b.length ≤ 9223372036854775807) (sa : SpAt wx pa a) (sb : SpAt wx pb b) (het : ErrType wx) (hb : Below w.heap.size w wx) :
    Code.wp Tryd.prog (dropSeq 23 (Tryd.f3.body.getD .skip)) (bodyPost Tryd.prog Tryd.f3 fun e w' => e = .returned (.bool true) ∧ Below w.heap.size w w') ⟨#[.slice pl l.length cl, .slice pa a.length ca, .slice pb b.length cb, .int .i64 x, c4, c5, c6, c7, c8, .int .i64 (Bur.setF a), c10, c11, c12, c13, c14, c15, c16, c17, c18, .int .i64 (Bur.haF a x), c20, .bool (Bur.haB a x), c22, c23, c24, c25, c26, c27, c28, c29, c30, c31, c32, c33, c34, c35, c36, c37, c38, c39, c40, c41, c42, c43, c44, c45, c46, c47, c48, c49, c50, c51, c52, c53, c54, c55, c56, c57, c58, c59, c60, c61, c62, c63, c64, c65, c66, c67, c68, c69, c70, c71, c72, c73, c74, c75, c76, c77, c78, c79, c80, c81, c82, c83, c84, c85, c86, c87, c88, c89, c90, c91, c92, c93, c94, c95, c96, c97, c98, c99, c100, c101, c102, c103, c104, c105, c106, c107, c108, c109, c110, c111, c112, c113, c114, c115, c116, c117, c118, c119, c120, c121, c122, c123, c124, c125, c126, c127, c128, c129, c130, c131, c132, c133, c134, c135, c136, c137, c138, c139, c140, c141, c142, c143, c144, c145, c146, c147, c148, c149, c150, c151, c152, c153, c154, c155, c156, c157, c158, c159, c160, c161, c162, c163, c164, c165, c166, c167, c168, c169, c170, c171, c172, c173, c174, c175, c176, c177, c178, c179, c180, c181, c182, c183, c184, c185, c186, c187, c188, c189, c190, c191, c192, c193, c194, c195, c196, c197, c198, c199, c200, c201, c202, c203, c204, c205, c206, c207, c208, c209, c210, c211, c212, c213, c214, c215, c216], []⟩ wx := by
  conv => arg 2; whnf
  go_wp2_with fail
  refine (has pa ca a x wx la sa).mono ?_
  rintro e w1 ⟨rfl, hb1⟩
  replace sa := sa.step hb1
  replace sb := sb.step hb1
  replace het := errStep het hb1
  replace hb := below_via hb hb1
  clear hb1
  go_wp2_with fail
  refine (error_any (Bur.haF a x) (Bur.haF a x) w1 het).mono ?_
  rintro e w2 ⟨rfl, hb1⟩
  rw [beq_self_eq_true]
  replace sa := sa.step hb1
  replace sb := sb.step hb1
  replace het := errStep het hb1
  replace hb := below_via hb hb1
  clear hb1
  go_upto_if 164 with fail
  go_cut [8] (fun _ wy => wy = w2)
  case first =>
    go_wp2_with fail
    go_meet
    case rel => exact rfl
  case rest =>
  subst hcut
  refine ‹∀ (a : Act) (w : World), Code.wp _ _ _ a w → _› _ _ ?_
  exact ss6 la lb sa sb het hb

set_option maxRecDepth 100000 in
set_option maxHeartbeats 8000000 in
theorem ss5 {l a b : List Bur.Sp} {x : Int} {pl pa pb : Option Addr} {cl ca cb : Nat} {w wx : World} {c4 c5 c6 c7 c8 c10 c11 c12 c13 c14 c15 c16 c17 c18 c19 c20 c21 c22 c23 c24 c25 c26 c27 c28 c29 c30 c31 c32 c33 c34 c35 c36 c37 c38 c39 c40 c41 c42 c43 c44 c45 c46 c47 c48 c49 c50 c51 c52 c53 c54 c55 c56 c57 c58 c59 c60 c61 c62 c63 c64 c65 c66 c67 c68 c69 c70 c71 c72 c73 c74 c75 c76 c77 c78 c79 c80 c81 c82 c83 c84 c85 c86 c87 c88 c89 c90 c91 c92 c93 c94 c95 c96 c97 c98 c99 c100 c101 c102 c103 c104 c105 c106 c107 c108 c109 c110 c111 c112 c113 c114 c115 c116 c117 c118 c119 c120 c121 c122 c123 c124 c125 c126 c127 c128 c129 c130 c131 c132 c133 c134 c135 c136 c137 c138 c139 c140 c141 c142 c143 c144 c145 c146 c147 c148 c149 c150 c151 c152 c153 c154 c155 c156 c157 c158 c159 c160 c161 c162 c163 c164 c165 c166 c167 c168 c169 c170 c171 c172 c173 c174 c175 c176 c177 c178 c179 c180 c181 c182 c183 c184 c185 c186 c187 c188 c189 c190 c191 c192 c193 c194 c195 c196 c197 c198 c199 c200 c201 c202 c203 c204 c205 c206 c207 c208 c209 c210 c211 c212 c213 c214 c215 c216 : Value}
    (la : a.length ≤ 9223372036854775807) (lb : b.length ≤ 9223372036854775807) (sa : SpAt wx pa a) (sb : SpAt wx pb b) (het : ErrType wx) (hb : Below w.heap.size w wx) :
    Code.wp Tryd.prog (dropSeq 18 (Tryd.f3.body.getD .skip)) (bodyPost Tryd.prog Tryd.f3 fun e w' => e = .returned (.bool true) ∧ Below w.heap.size w w') ⟨#[.slice pl l.length cl, .slice pa a.length ca, .slice pb b.length cb, .int .i64 x, c4, c5, c6, c7, c8, .int .i64 (Bur.setF a), c10, c11, c12, c13, c14, c15, c16, c17, c18, c19, c20, c21, c22, c23, c24, c25, c26, c27, c28, c29, c30, c31, c32, c33, c34, c35, c36, c37, c38, c39, c40, c41, c42, c43, c44, c45, c46, c47, c48, c49, c50, c51, c52, c53, c54, c55, c56, c57, c58, c59, c60, c61, c62, c63, c64, c65, c66, c67, c68, c69, c70, c71, c72, c73, c74, c75, c76, c77, c78, c79, c80, c81, c82, c83, c84, c85, c86, c87, c88, c89, c90, c91, c92, c93, c94, c95, c96, c97, c98, c99, c100, c101, c102, c103, c104, c105, c106, c107, c108, c109, c110, c111, c112, c113, c114, c115, c116, c117, c118, c119, c120, c121, c122, c123, c124, c125, c126, c127, c128, c129, c130, c131, c132, c133, c134, c135, c136, c137, c138, c139, c140, c141, c142, c143, c144, c145, c146, c147, c148, c149, c150, c151, c152, c153, c154, c155, c156, c157, c158, c159, c160, c161, c162, c163, c164, c165, c166, c167, c168, c169, c170, c171, c172, c173, c174, c175, c176, c177, c178, c179, c180, c181, c182, c183, c184, c185, c186, c187, c188, c189, c190, c191, c192, c193, c194, c195, c196, c197, c198, c199, c200, c201, c202, c203, c204, c205, c206, c207, c208, c209, c210, c211, c212, c213, c214, c215, c216], []⟩ wx := by
  obtain ⟨E, hE⟩ : ∃ E, Hid (Bur.setF a = E) := ⟨_, rfl⟩
  rw [hE.out]
  conv => arg 2; whnf
  go_wp2_with fail
  refine (refIsAddr x wx).mono ?_
  rintro e w1 ⟨rfl, rfl⟩
  obtain ⟨X, hX⟩ : ∃ X, Hid (Bur.isA x = X) := ⟨_, rfl⟩
  rw [hX.out]
  obtain ⟨B, hB⟩ : ∃ B, Hid (((E == 0) && !X) = B) := ⟨_, rfl⟩
  have hF : Hid (Bur.haF a x = if B = true then 1 else E) := by
    show _ = _
    rw [Bur.haF_E, hE.out, hX.out, ← hB.out]
    cases X <;> by_cases h : E = 0 <;> simp [h]
  go_upto_region 31 with fail
  go_cut [119] from 114 to 118 (fun v wy => v = .bool B ∧ wy = w1)
  case first =>
    have hB' : Hid _ := hB.out.symm
    clear hB hF
    cases hc : (E == 0)
    · go_wp2_with fail
      go_meet
      case rel => exact ⟨by rw [hB'.out, hc]; rfl, rfl⟩
    · cases X
      · go_wp2_with fail
        go_meet
        case rel => exact ⟨by rw [hB'.out, hc]; rfl, rfl⟩
      · go_wp2_with fail
        go_meet
        case rel => exact ⟨by rw [hB'.out, hc]; rfl, rfl⟩
  case rest =>
  obtain ⟨rfl, hw⟩ := hcut
  subst hw
  obtain ⟨U, hU⟩ : ∃ U, U = wc := ⟨_, rfl⟩
  subst hU
  clear hB
  go_upto_if 119 with fail
  go_cut [19] (fun v wy => v = .int .i64 (Bur.haF a x) ∧ wy = U)
  case first =>
    cases B
    · have hF' : Hid (Bur.haF a x = E) := hF.out
      go_wp2_with fail
      go_meet
      case rel => exact ⟨by rw [hF'.out], rfl⟩
    · have hF' : Hid (Bur.haF a x = 1) := hF.out
      go_wp2_with fail
      go_meet
      case rel => exact ⟨by rw [hF'.out], rfl⟩
  case rest =>
  obtain ⟨rfl, hw⟩ := hcut
  subst hw
  obtain ⟨V, hV⟩ : ∃ V, V = wc := ⟨_, rfl⟩
  subst hV
  obtain ⟨G, hG⟩ : ∃ G, Hid (Bur.haF a x = G) := ⟨_, rfl⟩
  rw [hG.out]
  go_upto_block 4 with fail
  go_cut [21, 22] from 120 to 148 (fun v _ wy => v = .bool (Bur.haB a x) ∧ wy = V)
  case rest =>
    obtain ⟨rfl, hw⟩ := hcut
    subst hw
    rw [← hG.out, ← hE.out]
    refine ‹∀ (a : Act) (w : World), Code.wp _ _ _ a w → _› _ _ ?_
    exact ss5b la lb sa sb het hb
  case first =>
  have hR : Hid (Bur.haB a x = (decide (G = 0) && Bur.mem a x)) := by show _ = _; rw [← hG.out]; rfl
  go_wp2_with fail
  go_loop [21, 22] (fun v i => ∃ (k : Nat) (B : Bool), k ≤ a.length ∧ i = .int .i64 k ∧ v = .bool B ∧ Hid (Bur.haB a x = (B || (decide (G = 0) && Bur.mem (a.drop k) x)))) (fun _ i => a.length - (intOf i).toNat)
  case atStart => exact ⟨0, false, by omega, rfl, rfl, by show _ = _; rw [hR.out]; rfl⟩
  case round =>
    obtain ⟨k, B, hk, rfl, rfl, R⟩ := hrel
    by_cases hlt : k < a.length
    · have hlt' : (k : Int) < (a.length : Int) := by omega
      cases hc : (G == 0)
      · have R2 : Hid (Bur.haB a x = B) := by
          show _ = _
          rw [R.out, show decide (G = 0) = false from by simpa using hc]; simp
        clear R hR sa sb
        go_wp2_with fail
        go_meet
        case rel => exact ⟨by rw [R2.out], rfl⟩
      · obtain ⟨b', off, rfl, hbl, hcc⟩ := sa (by omega)
        have c0 : V.cell? ⟨b', off + k * 2, none⟩ = some (.int .i64 (lo a k)) := (hcc k hlt).1
        have c1 : V.cell? ⟨b', off + k * 2 + 1, none⟩ = some (.int .i64 (hi a k)) := (hcc k hlt).2
        have D : Hid (Bur.haB a x = (B || ((decide (lo a k ≤ x) && decide (x ≤ hi a k)) || Bur.mem (a.drop (k + 1)) x))) := by
          show _ = _
          rw [R.out, show decide (G = 0) = true from by simpa using hc, drop_sp hlt, Bur.mem_cons]; rfl
        have e0 : Hid (decide (G = 0) = true) := by show _ = _; simpa using hc
        clear R hR hcc sa sb
        cases B
        · cases h1 : decide (lo a k ≤ x)
          · have R2 : Hid (Bur.haB a x = (false || (decide (G = 0) && Bur.mem (a.drop (k + 1)) x))) := by show _ = _; rw [D.out, h1, e0.out]; simp
            clear D
            go_wp2_with fail
            go_round
            case rel => exact ⟨k + 1, false, by omega, by go_num, rfl, R2⟩
            case measure => simp [intOf]; omega
          · cases h2 : decide (x ≤ hi a k)
            · have R2 : Hid (Bur.haB a x = (false || (decide (G = 0) && Bur.mem (a.drop (k + 1)) x))) := by show _ = _; rw [D.out, h1, h2, e0.out]; simp
              clear D
              go_wp2_with fail
              go_round
              case rel => exact ⟨k + 1, false, by omega, by go_num, rfl, R2⟩
              case measure => simp [intOf]; omega
            · have R2 : Hid (Bur.haB a x = (true || (decide (G = 0) && Bur.mem (a.drop (k + 1)) x))) := by show _ = _; rw [D.out, h1, h2]; simp
              clear D
              go_wp2_with fail
              go_round
              case rel => exact ⟨k + 1, true, by omega, by go_num, rfl, R2⟩
              case measure => simp [intOf]; omega
        · have R2 : Hid (Bur.haB a x = (true || (decide (G = 0) && Bur.mem (a.drop (k + 1)) x))) := by show _ = _; rw [D.out]; simp
          clear D
          go_wp2_with fail
          go_round
          case rel => exact ⟨k + 1, true, by omega, by go_num, rfl, R2⟩
          case measure => simp [intOf]; omega
    · have R2 : Hid (Bur.haB a x = B) := by
        show _ = _
        rw [R.out, List.drop_eq_nil_of_le (by omega)]; simp [Bur.mem_nil]
      clear R hR sa sb
      go_wp2_with fail
      go_meet
      case rel => exact ⟨by rw [R2.out], rfl⟩
end Go.Proofs.YtfncclkmnkigoaaDoor
