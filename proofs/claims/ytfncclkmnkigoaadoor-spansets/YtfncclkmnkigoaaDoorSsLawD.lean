/- The walk of the law SpanSets: its first pieces, and the whole. -/
import Derived.Test.YtfncclkmnkigoaaDoorSsLawC
namespace Bur
theorem mkF_E (l : List Sp) : mkF l = if 64 < l.length then 3 else anF l := rfl
theorem mkS_len (l : List Sp) : (mkS l).length ≤ 64 := by
  unfold mkS
  by_cases h : mkF l = 0
  · rw [if_pos h]
    have ok := mkF_ok h
    have := (mk_set ok.2).2.2.2
    omega
  · rw [if_neg h]; simp
end Bur
namespace Go.Proofs.YtfncclkmnkigoaaDoor
open Go.RowKit

set_option maxRecDepth 100000 in
set_option maxHeartbeats 8000000 in
theorem ss2 {l a b : List Bur.Sp} {x : Int} {pl pa pb : Option Addr} {cl ca cb : Nat} {w wx : World} {c4 c5 c6 c7 c8 c10 c11 c12 c13 c14 c15 c16 c17 c18 c19 c20 c21 c22 c23 c24 c25 c26 c27 c28 c29 c30 c31 c32 c33 c34 c35 c36 c37 c38 c39 c40 c41 c42 c43 c44 c45 c46 c47 c48 c49 c50 c51 c52 c53 c54 c55 c56 c57 c58 c59 c60 c61 c62 c63 c64 c65 c66 c67 c68 c69 c70 c71 c72 c73 c74 c75 c76 c77 c78 c79 c80 c81 c82 c83 c84 c85 c86 c87 c88 c89 c90 c91 c92 c93 c94 c95 c96 c97 c98 c99 c100 c101 c102 c103 c104 c105 c106 c107 c108 c109 c110 c111 c112 c113 c114 c115 c116 c117 c118 c119 c120 c121 c122 c123 c124 c125 c126 c127 c128 c129 c130 c131 c132 c133 c134 c135 c136 c137 c138 c139 c140 c141 c142 c143 c144 c145 c146 c147 c148 c149 c150 c151 c152 c153 c154 c155 c156 c157 c158 c159 c160 c161 c162 c163 c164 c165 c166 c167 c168 c169 c170 c171 c172 c173 c174 c175 c176 c177 c178 c179 c180 c181 c182 c183 c184 c185 c186 c187 c188 c189 c190 c191 c192 c193 c194 c195 c196 c197 c198 c199 c200 c201 c202 c203 c204 c205 c206 c207 c208 c209 c210 c211 c212 c213 c214 c215 c216 : Value}
    (ll : l.length ≤ 9223372036854775807) (la : a.length ≤ 9223372036854775807) (lb : b.length ≤ 9223372036854775807) (sl : SpAt wx pl l) (sa : SpAt wx pa a) (sb : SpAt wx pb b) (het : ErrType wx) (hb : Below w.heap.size w wx) :
    Code.wp Tryd.prog (dropSeq 4 (Tryd.f3.body.getD .skip)) (bodyPost Tryd.prog Tryd.f3 fun e w' => e = .returned (.bool true) ∧ Below w.heap.size w w') ⟨#[.slice pl l.length cl, .slice pa a.length ca, .slice pb b.length cb, .int .i64 x, c4, c5, c6, c7, c8, .int .i64 (Bur.mkF l), c10, c11, c12, c13, c14, c15, c16, c17, c18, c19, c20, c21, c22, c23, c24, c25, c26, c27, c28, c29, c30, c31, c32, c33, c34, c35, c36, c37, c38, c39, c40, c41, c42, c43, c44, c45, c46, c47, c48, c49, c50, c51, c52, c53, c54, c55, c56, c57, c58, c59, c60, c61, c62, c63, c64, c65, c66, c67, c68, c69, c70, c71, c72, c73, c74, c75, c76, c77, c78, c79, c80, c81, c82, c83, c84, c85, c86, c87, c88, c89, c90, c91, c92, c93, c94, c95, c96, c97, c98, c99, c100, c101, c102, c103, c104, c105, c106, c107, c108, c109, c110, c111, c112, c113, c114, c115, c116, c117, c118, c119, c120, c121, c122, c123, c124, c125, c126, c127, c128, c129, c130, c131, c132, c133, c134, c135, c136, c137, c138, c139, c140, c141, c142, c143, c144, c145, c146, c147, c148, c149, c150, c151, c152, c153, c154, c155, c156, c157, c158, c159, c160, c161, c162, c163, c164, c165, c166, c167, c168, c169, c170, c171, c172, c173, c174, c175, c176, c177, c178, c179, c180, c181, c182, c183, c184, c185, c186, c187, c188, c189, c190, c191, c192, c193, c194, c195, c196, c197, c198, c199, c200, c201, c202, c203, c204, c205, c206, c207, c208, c209, c210, c211, c212, c213, c214, c215, c216], []⟩ wx := by
  obtain ⟨E, hE⟩ : ∃ E, Hid (Bur.mkF l = E) := ⟨_, rfl⟩
  rw [hE.out]
  have hSl := Bur.mkS_len l
  conv => arg 2; whnf
  go_upto_if 44 with fail
  go_cut [11] (fun v wy => ∃ r cr, v = .slice r (Bur.mkS l).length cr ∧ SpAt wy r (Bur.mkS l) ∧ Below wx.heap.size wx wy)
  case first =>
    cases hc : (E == 0)
    · have S2 : Hid (Bur.mkS l = []) := by show _ = _; unfold Bur.mkS; rw [hE.out, if_neg (by simpa using hc)]
      go_wp2_with fail
      go_meet
      case rel => exact ⟨none, 0, by rw [S2.out]; rfl, by rw [S2.out]; exact SpAt.nil _ _, below_self _⟩
    · have hE0 : Bur.mkF l = 0 := by rw [hE.out]; simpa using hc
      have S2 : Hid (Bur.mkS l = Bur.two 1 l []) := by show _ = _; unfold Bur.mkS; rw [if_pos hE0, Bur.mk_two]
      have ok := Bur.mkF_ok hE0
      have l1 := ok.1
      have i1 := ok.2
      clear hE0 ok
      go_wp2_with fail
      refine (refTogether 1 pl cl l none 0 [] wx (by omega) (by omega) (by omega) (by simp) i1 (fun _ h => by cases h) sl (SpAt.nil _ _)).mono ?_
      rintro e w2 ⟨r, cr, rfl, st, hb2⟩
      clear i1
      go_wp2_with fail
      go_meet
      case rel => exact ⟨r, cr, by rw [S2.out], by rw [S2.out]; exact st, hb2⟩
  case rest =>
  obtain ⟨r, cr, rfl, st, hb2⟩ := hcut
  replace sl := sl.step hb2
  replace sa := sa.step hb2
  replace sb := sb.step hb2
  replace het := errStep het hb2
  replace hb := below_via hb hb2
  clear hb2
  obtain ⟨V, hV⟩ : ∃ V, V = wc := ⟨_, rfl⟩
  subst hV
  go_wp2_with fail
  refine (make pl cl l V ll sl).mono ?_
  rintro e w1 ⟨q, cq, rfl, sq, hb2⟩
  rw [hE.out]
  replace st := st.step hb2
  replace sa := sa.step hb2
  replace sb := sb.step hb2
  replace het := errStep het hb2
  replace hb := below_via hb hb2
  clear hb2
  go_wp2_with fail
  refine (error_any E E w1 het).mono ?_
  rintro e w2 ⟨rfl, hb2⟩
  rw [beq_self_eq_true]
  replace st := st.step hb2
  replace sq := sq.step hb2
  replace sa := sa.step hb2
  replace sb := sb.step hb2
  replace het := errStep het hb2
  replace hb := below_via hb hb2
  clear hb2
  go_wp2_with fail
  refine (spans_same q r cq cr (Bur.mkS l) w2 (by omega) sq st).mono ?_
  rintro e w3 ⟨rfl, hb2⟩
  replace sa := sa.step hb2
  replace sb := sb.step hb2
  replace het := errStep het hb2
  replace hb := below_via hb hb2
  clear hb2
  go_upto_if 63 with fail
  go_cut [8] (fun _ wy => wy = w3)
  case first =>
    go_wp2_with fail
    go_meet
    case rel => exact rfl
  case rest =>
  subst hcut
  refine ‹∀ (a : Act) (w : World), Code.wp _ _ _ a w → _› _ _ ?_
  exact ss3 la lb sa sb het hb

set_option maxRecDepth 100000 in
set_option maxHeartbeats 8000000 in
theorem law_sets (l a b : List Bur.Sp) (x : Int) (pl pa pb : Option Addr) (cl ca cb : Nat) (w : World) (ll : l.length ≤ 9223372036854775807) (la : a.length ≤ 9223372036854775807) (lb : b.length ≤ 9223372036854775807) (sl : SpAt w pl l) (sa : SpAt w pa a) (sb : SpAt w pb b) (het : ErrType w) :
    Calls Tryd.prog 3 #[.slice pl l.length cl, .slice pa a.length ca, .slice pb b.length cb, .int .i64 x] w fun e w' => e = .returned (.bool true) ∧ Below w.heap.size w w' := by
  have hF := Bur.mkF_E l
  have hF' : Hid _ := hF
  clear hF
  go_enter Tryd.func3, Tryd.ntmps3
  go_upto_if 27 with fail
  go_cut [9] (fun v wy => wy = w ∧ ∃ F, v = .int .i64 F ∧ Hid (Bur.mkF l = if F = 0 then Bur.anF l else F))
  case first =>
    by_cases h64 : 64 < l.length
    · have h64' : (64 : Int) < (l.length : Int) := by omega
      have R : Hid (Bur.mkF l = if (3 : Int) = 0 then Bur.anF l else 3) := by show _ = _; rw [hF'.out, if_pos h64, if_neg (by decide)]
      go_wp2_with fail
      go_meet
      case rel => exact ⟨rfl, 3, rfl, R⟩
    · have h64' : (l.length : Int) ≤ 64 := by omega
      have R : Hid (Bur.mkF l = if (0 : Int) = 0 then Bur.anF l else 0) := by show _ = _; rw [hF'.out, if_neg h64, if_pos rfl]
      go_wp2_with fail
      go_meet
      case rel => exact ⟨rfl, 0, rfl, R⟩
  case rest =>
  obtain ⟨hw, F0, rfl, R0⟩ := hcut
  subst hw
  obtain ⟨V, hV⟩ : ∃ V, V = wc := ⟨_, rfl⟩
  subst hV
  clear hF'
  go_upto_block 0 with fail
  go_cut [9, 10] from 28 to 42 (fun v _ wy => v = .int .i64 (Bur.mkF l) ∧ Below V.heap.size V wy)
  case rest =>
    obtain ⟨rfl, hb2⟩ := hcut
    refine ‹∀ (a : Act) (w : World), Code.wp _ _ _ a w → _› _ _ ?_
    exact ss2 ll la lb (sl.step hb2) (sa.step hb2) (sb.step hb2) (errStep het hb2) hb2
  case first =>
  go_wp2_with fail
  go_loopw [9, 10] (fun v i wr => ∃ (k : Nat) (F : Int), k ≤ l.length ∧ i = .int .i64 k ∧ v = .int .i64 F ∧ Hid (Bur.mkF l = if F = 0 then Bur.anF (l.drop k) else F) ∧ Below V.heap.size V wr) (fun _ i _ => l.length - (intOf i).toNat)
  case atStart => exact ⟨0, F0, by omega, rfl, rfl, by rw [List.drop_zero]; exact R0, below_self _⟩
  case round =>
    obtain ⟨k, F, hk, rfl, rfl, R, hbw⟩ := hrel
    clear R0
    by_cases hlt : k < l.length
    · have hlt' : (k : Int) < (l.length : Int) := by omega
      cases hc : (F == 0)
      · have R2 : Hid (Bur.mkF l = F) := by show _ = _; rw [R.out, if_neg (by simpa using hc)]
        clear R sl sa sb
        go_wp2_with fail
        go_meet
        case rel => exact ⟨by rw [R2.out], hbw⟩
      · obtain ⟨b', off, rfl, hbl, hcc⟩ := sl (by omega)
        have hcb := bcell hbw
        have c0 : wr.cell? ⟨b', off + k * 2, none⟩ = some (.int .i64 (lo l k)) := (hcb.1 _ _ hbl).trans (hcc k hlt).1
        have c1 : wr.cell? ⟨b', off + k * 2 + 1, none⟩ = some (.int .i64 (hi l k)) := (hcb.1 _ _ hbl).trans (hcc k hlt).2
        have R2 : Hid (Bur.mkF l = if Bur.spF (lo l k) (hi l k) = 0 then Bur.anF (l.drop (k + 1)) else Bur.spF (lo l k) (hi l k)) := by
          show _ = _
          rw [R.out, if_pos (by simpa using hc), anF_at hlt]
        clear R sl sa sb hcc hcb
        obtain ⟨G, hG⟩ : ∃ G, Hid (Bur.spF (lo l k) (hi l k) = G) := ⟨_, rfl⟩
        go_wp2_with (go_at_call 6; refine (refSpanFault _ _ _).mono ?_; rintro e w1 ⟨rfl, hb1⟩; have hb2 := below_via hbw hb1; rw [hG.out]; clear hb1)
        exact ⟨⟨k + 1, G, by omega, by go_num, rfl, by rw [← hG.out]; exact R2, hb2⟩, by simp [intOf]; omega⟩
    · have R2 : Hid (Bur.mkF l = F) := by
        show _ = _
        rw [R.out, List.drop_eq_nil_of_le (by omega)]
        by_cases h : F = 0
        · rw [if_pos h, h]; rfl
        · rw [if_neg h]
      clear R sl sa sb
      go_wp2_with fail
      go_meet
      case rel => exact ⟨by rw [R2.out], hbw⟩
end Go.Proofs.YtfncclkmnkigoaaDoor
