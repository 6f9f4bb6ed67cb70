/- The walk of the law FreeIs: its first pieces, and the whole. -/
import Derived.Test.YtfhidiedmenliaaGreatDoorFiLawC
namespace Go.Proofs.YtfhidiedmenliaaGreatDoor
open Go.RowKit

set_option maxRecDepth 100000 in
set_option maxHeartbeats 8000000 in
theorem fi4 {l BL : List Bur.Sp} {q qb : Option Addr} {cap cb Bp : Nat} {a z n E F : Int} {w wx : World} {c0 c4 c5 c6 c8 c10 c11 c12 c13 c15 c16 c17 c18 c19 c20 c21 c22 c23 c24 c25 c26 c27 c28 c29 c30 c31 c32 c33 c34 c35 c36 c37 c38 c39 c40 c41 c42 c43 c44 c45 c46 c47 c48 c49 c50 c51 c52 c53 c54 c55 c56 c57 c58 c59 c60 c61 c62 c63 c64 c65 c66 c67 c68 c69 c70 c71 c72 c73 c74 c75 c76 c77 c78 c79 c80 c81 c82 c83 c84 c85 c86 c87 c88 c89 c90 c91 c92 c93 c94 c95 c96 c97 c98 c99 c100 c101 c102 c103 c104 c105 c106 c107 c108 c109 c110 c111 c112 c113 c114 c115 c116 c117 c118 c119 c120 c121 c122 c123 c124 c125 c126 c127 c128 c129 c130 c131 c132 c133 c134 c135 c136 c137 c138 c139 c140 c141 c142 c143 c144 c145 c146 c147 c148 c149 c150 c151 c152 c153 c154 c155 c156 c157 c158 c159 c160 c161 c162 c163 c164 c165 c166 c167 c168 c169 c170 c171 c172 c173 c174 c175 c176 c177 c178 c179 c180 c181 c182 c183 c184 c185 c186 c187 c188 c189 c190 c191 c192 c193 c194 c195 c196 c197 c198 c199 c200 c201 c202 c203 c204 c205 c206 c207 c208 c209 c210 c211 c212 c213 c214 c215 c216 c217 c218 c219 c220 c221 c222 c223 c224 c225 c226 c227 c228 c229 c230 c231 c232 c233 c234 c235 c236 c237 c238 c239 c240 c241 c242 c243 c244 c245 : Value} (ll : l.length ≤ 9223372036854775807) (hBL : BL.length ≤ 4294967296)
    (hE : Hid (Bur.frF (a, z) l = E)) (hF : Hid (Bur.bkF (a, z) l = F)) (hR : Hid (F = 0 → BL = Bur.bks (a, z) l))
    (sl0 : SpAt w q l) (hT0 : Tab w) (het0 : ErrType w) (sb : SpAt wx qb BL) (pb : Pb wx Bp (a, z)) (hb : Below w.heap.size w wx) :
    Code.wp Tryz.prog (dropSeq 17 (Tryz.f3.body.getD .skip)) (bodyPost Tryz.prog Tryz.f3 fun e w' => e = .returned (.bool true) ∧ Below w.heap.size w w') ⟨#[c0, .slice q l.length cap, .int .i64 n, .pointer (some ⟨Bp, 0, none⟩), c4, c5, c6, .int .i64 E, c8, .slice qb BL.length cb, c10, c11, c12, c13, .int .i64 F, c15, c16, c17, c18, c19, c20, c21, c22, c23, c24, c25, c26, c27, c28, c29, c30, c31, c32, c33, c34, c35, c36, c37, c38, c39, c40, c41, c42, c43, c44, c45, c46, c47, c48, c49, c50, c51, c52, c53, c54, c55, c56, c57, c58, c59, c60, c61, c62, c63, c64, c65, c66, c67, c68, c69, c70, c71, c72, c73, c74, c75, c76, c77, c78, c79, c80, c81, c82, c83, c84, c85, c86, c87, c88, c89, c90, c91, c92, c93, c94, c95, c96, c97, c98, c99, c100, c101, c102, c103, c104, c105, c106, c107, c108, c109, c110, c111, c112, c113, c114, c115, c116, c117, c118, c119, c120, c121, c122, c123, c124, c125, c126, c127, c128, c129, c130, c131, c132, c133, c134, c135, c136, c137, c138, c139, c140, c141, c142, c143, c144, c145, c146, c147, c148, c149, c150, c151, c152, c153, c154, c155, c156, c157, c158, c159, c160, c161, c162, c163, c164, c165, c166, c167, c168, c169, c170, c171, c172, c173, c174, c175, c176, c177, c178, c179, c180, c181, c182, c183, c184, c185, c186, c187, c188, c189, c190, c191, c192, c193, c194, c195, c196, c197, c198, c199, c200, c201, c202, c203, c204, c205, c206, c207, c208, c209, c210, c211, c212, c213, c214, c215, c216, c217, c218, c219, c220, c221, c222, c223, c224, c225, c226, c227, c228, c229, c230, c231, c232, c233, c234, c235, c236, c237, c238, c239, c240, c241, c242, c243, c244, c245], []⟩ wx := by
  have EG : Hid (Bur.gfF (a, z) l n = if E = 0 then Bur.lnF (a, z) n else E) := by show _ = _; unfold Bur.gfF; rw [hE.out]
  have EB : Hid (Bur.bsF (a, z) l n = if F = 0 then (if Bur.lnF (a, z) n = 0 then Bur.nnF (Bur.bst n none (Bur.bks (a, z) l)) else Bur.lnF (a, z) n) else F) := by show _ = _; unfold Bur.bsF; rw [hF.out]
  have hEF : Hid (E ≠ 0 → F = E) := fun h => by show _ = _; rw [← hF.out, ← hE.out]; unfold Bur.bkF; rw [if_neg (by rw [hE.out]; exact h)]
  have pb0 := pb
  obtain ⟨p0, p1, p2⟩ := pb
  simp only at p1 p2
  clear hE hF
  conv => arg 2; whnf
  cases hE0 : (E == 0)
  · have hE' : E ≠ 0 := by simpa using hE0
    have hFE := hEF.out hE'
    subst hFE
    have H0 : Hid (F = 0 → BL = Bur.bks (a, z) l ∧ Bur.bsF (a, z) l n = Bur.nnF (Bur.bst n none BL)) := fun h => absurd h hE'
    have H1 : Hid (F ≠ 0 → Bur.bsF (a, z) l n = F) := fun h => by show _ = _; rw [EB.out, if_neg h]
    have HE : Hid (Bur.gfF (a, z) l n = F) := by show _ = _; rw [EG.out, if_neg hE']
    clear EG EB hEF hR hE'
    go_upto_if 103 with fail
    go_cut [7] (fun v wy => v = .int .i64 (F) ∧ wy = wx)
    case first =>
      clear H0 H1 HE
      go_wp2_with fail
      go_meet
      case rel => exact ⟨rfl, rfl⟩
    case rest =>
    obtain ⟨rfl, hw⟩ := hcut
    have hw2 := hw.symm
    subst hw2
    refine ‹∀ (a : Act) (w : World), Code.wp _ _ _ a w → _› _ _ ?_
    exact fi5 ll hBL H0 H1 HE sl0 hT0 het0 sb pb0 hb
  · have hE' : E = 0 := by simpa using hE0
    subst hE'
    have EG1 : Hid (Bur.gfF (a, z) l n = Bur.lnF (a, z) n) := by show _ = _; rw [EG.out, if_pos rfl]
    clear EG hEF
    cases hF0 : (F == 0)
    · have hF' : F ≠ 0 := by simpa using hF0
      have H0 : Hid (F = 0 → BL = Bur.bks (a, z) l ∧ Bur.bsF (a, z) l n = Bur.nnF (Bur.bst n none BL)) := fun h => absurd h hF'
      have H1 : Hid (F ≠ 0 → Bur.bsF (a, z) l n = F) := fun h => by show _ = _; rw [EB.out, if_neg h]
      clear EB hR hF'
      by_cases h1 : n < z
      · have HE : Hid (Bur.gfF (a, z) l n = 1) := by show _ = _; rw [EG1.out]; exact if_pos (.inl h1)
        clear EG1
        go_upto_if 103 with fail
        go_cut [7] (fun v wy => v = .int .i64 (1) ∧ wy = wx)
        case first =>
          clear H0 H1 HE
          go_wp2_with fail
          go_meet
          case rel => exact ⟨rfl, rfl⟩
        case rest =>
        obtain ⟨rfl, hw⟩ := hcut
        have hw2 := hw.symm
        subst hw2
        refine ‹∀ (a : Act) (w : World), Code.wp _ _ _ a w → _› _ _ ?_
        exact fi5 ll hBL H0 H1 HE sl0 hT0 het0 sb pb0 hb
      · by_cases h2 : 32 < n
        · have HE : Hid (Bur.gfF (a, z) l n = 1) := by show _ = _; rw [EG1.out]; exact if_pos (.inr h2)
          clear EG1
          go_upto_if 103 with fail
          go_cut [7] (fun v wy => v = .int .i64 (1) ∧ wy = wx)
          case first =>
            clear H0 H1 HE
            go_wp2_with fail
            go_meet
            case rel => exact ⟨rfl, rfl⟩
          case rest =>
          obtain ⟨rfl, hw⟩ := hcut
          have hw2 := hw.symm
          subst hw2
          refine ‹∀ (a : Act) (w : World), Code.wp _ _ _ a w → _› _ _ ?_
          exact fi5 ll hBL H0 H1 HE sl0 hT0 het0 sb pb0 hb
        · have HE : Hid (Bur.gfF (a, z) l n = 0) := by show _ = _; rw [EG1.out]; exact if_neg (by show ¬ (n < z ∨ 32 < n); omega)
          clear EG1
          go_upto_if 103 with fail
          go_cut [7] (fun v wy => v = .int .i64 (0) ∧ wy = wx)
          case first =>
            clear H0 H1 HE
            go_wp2_with fail
            go_meet
            case rel => exact ⟨rfl, rfl⟩
          case rest =>
          obtain ⟨rfl, hw⟩ := hcut
          have hw2 := hw.symm
          subst hw2
          refine ‹∀ (a : Act) (w : World), Code.wp _ _ _ a w → _› _ _ ?_
          exact fi5 ll hBL H0 H1 HE sl0 hT0 het0 sb pb0 hb
    · have hF' : F = 0 := by simpa using hF0
      subst hF'
      have hR1 : Hid (BL = Bur.bks (a, z) l) := hR.out rfl
      have EB1 : Hid (Bur.bsF (a, z) l n = if Bur.lnF (a, z) n = 0 then Bur.nnF (Bur.bst n none BL) else Bur.lnF (a, z) n) := by show _ = _; rw [EB.out, if_pos rfl, ← hR1.out]
      clear EB hR
      by_cases h1 : n < z
      · have e1 : Bur.lnF (a, z) n = 1 := if_pos (.inl h1)
        have HE : Hid (Bur.gfF (a, z) l n = 1) := by show _ = _; rw [EG1.out, e1]
        have H0 : Hid ((1 : Int) = 0 → BL = Bur.bks (a, z) l ∧ Bur.bsF (a, z) l n = Bur.nnF (Bur.bst n none BL)) := fun h => by cases h
        have H1 : Hid ((1 : Int) ≠ 0 → Bur.bsF (a, z) l n = 1) := fun _ => by show _ = _; rw [EB1.out, e1, if_neg (by decide)]
        clear EG1 EB1 hR1 e1
        go_upto_if 103 with fail
        go_cut [7] (fun v wy => v = .int .i64 (1) ∧ wy = wx)
        case first =>
          clear H0 H1 HE
          go_wp2_with fail
          go_meet
          case rel => exact ⟨rfl, rfl⟩
        case rest =>
        obtain ⟨rfl, hw⟩ := hcut
        have hw2 := hw.symm
        subst hw2
        refine ‹∀ (a : Act) (w : World), Code.wp _ _ _ a w → _› _ _ ?_
        exact fi5 ll hBL H0 H1 HE sl0 hT0 het0 sb pb0 hb
      · by_cases h2 : 32 < n
        · have e1 : Bur.lnF (a, z) n = 1 := if_pos (.inr h2)
          have HE : Hid (Bur.gfF (a, z) l n = 1) := by show _ = _; rw [EG1.out, e1]
          have H0 : Hid ((1 : Int) = 0 → BL = Bur.bks (a, z) l ∧ Bur.bsF (a, z) l n = Bur.nnF (Bur.bst n none BL)) := fun h => by cases h
          have H1 : Hid ((1 : Int) ≠ 0 → Bur.bsF (a, z) l n = 1) := fun _ => by show _ = _; rw [EB1.out, e1, if_neg (by decide)]
          clear EG1 EB1 hR1 e1
          go_upto_if 103 with fail
          go_cut [7] (fun v wy => v = .int .i64 (1) ∧ wy = wx)
          case first =>
            clear H0 H1 HE
            go_wp2_with fail
            go_meet
            case rel => exact ⟨rfl, rfl⟩
          case rest =>
          obtain ⟨rfl, hw⟩ := hcut
          have hw2 := hw.symm
          subst hw2
          refine ‹∀ (a : Act) (w : World), Code.wp _ _ _ a w → _› _ _ ?_
          exact fi5 ll hBL H0 H1 HE sl0 hT0 het0 sb pb0 hb
        · have e1 : Bur.lnF (a, z) n = 0 := if_neg (by show ¬ (n < z ∨ 32 < n); omega)
          have HE : Hid (Bur.gfF (a, z) l n = 0) := by show _ = _; rw [EG1.out, e1]
          have H0 : Hid ((0 : Int) = 0 → BL = Bur.bks (a, z) l ∧ Bur.bsF (a, z) l n = Bur.nnF (Bur.bst n none BL)) := fun _ => ⟨hR1.out, by rw [EB1.out, e1, if_pos rfl]⟩
          have H1 : Hid ((0 : Int) ≠ 0 → Bur.bsF (a, z) l n = 0) := fun h => absurd rfl h
          clear EG1 EB1 hR1 e1
          go_upto_if 103 with fail
          go_cut [7] (fun v wy => v = .int .i64 (0) ∧ wy = wx)
          case first =>
            clear H0 H1 HE
            go_wp2_with fail
            go_meet
            case rel => exact ⟨rfl, rfl⟩
          case rest =>
          obtain ⟨rfl, hw⟩ := hcut
          have hw2 := hw.symm
          subst hw2
          refine ‹∀ (a : Act) (w : World), Code.wp _ _ _ a w → _› _ _ ?_
          exact fi5 ll hBL H0 H1 HE sl0 hT0 het0 sb pb0 hb

end Go.Proofs.YtfhidiedmenliaaGreatDoor
