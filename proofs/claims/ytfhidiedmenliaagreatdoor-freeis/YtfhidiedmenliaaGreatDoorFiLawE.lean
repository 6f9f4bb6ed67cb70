/- The walk of the law FreeIs: its beginning, and the whole. -/
import Derived.Test.YtfhidiedmenliaaGreatDoorFiLawD
namespace Bur
/-- The blocks that the law has made. -/
def rbS (p : Sp) (l : List Sp) : List Sp := if frF p l = 0 then bks p l else []
theorem rbS_len (p : Sp) (l : List Sp) : (rbS p l).length ≤ 4294967296 := by
  unfold rbS
  by_cases h : frF p l = 0
  · rw [if_pos h]
    have h1 := blk_len l (32 - p.2).toNat p.1
    have h3 : 2 ^ (32 - p.2).toNat ≤ 2 ^ 32 := Nat.pow_le_pow_right (by decide) (by have := (frF_ok h).1.parts; omega)
    exact Nat.le_trans h1 (by omega)
  · rw [if_neg h]; simp
theorem bkF_rb (p : Sp) (l : List Sp) : bkF p l = if 200 < (rbS p l).length then 3 else frF p l := by
  unfold bkF rbS
  by_cases h : frF p l = 0
  · rw [if_pos h, if_pos h, h]
  · rw [if_neg h, if_neg h, if_neg (by simp)]
theorem bkS_rb (p : Sp) (l : List Sp) : bkS p l = if bkF p l = 0 then rbS p l else [] := by
  unfold bkS
  by_cases h : bkF p l = 0
  · rw [if_pos h, if_pos h]
    unfold rbS
    rw [if_pos (bkF_ok h).1]
  · rw [if_neg h, if_neg h]
end Bur
namespace Go.Proofs.YtfhidiedmenliaaGreatDoor
open Go.RowKit

set_option maxRecDepth 100000 in
set_option maxHeartbeats 8000000 in
theorem fi3 {l BL : List Bur.Sp} {q qb : Option Addr} {cap cb Bp : Nat} {a z n E : Int} {w wx : World} {c0 c4 c5 c6 c8 c10 c11 c12 c13 c14 c15 c16 c17 c18 c19 c20 c21 c22 c23 c24 c25 c26 c27 c28 c29 c30 c31 c32 c33 c34 c35 c36 c37 c38 c39 c40 c41 c42 c43 c44 c45 c46 c47 c48 c49 c50 c51 c52 c53 c54 c55 c56 c57 c58 c59 c60 c61 c62 c63 c64 c65 c66 c67 c68 c69 c70 c71 c72 c73 c74 c75 c76 c77 c78 c79 c80 c81 c82 c83 c84 c85 c86 c87 c88 c89 c90 c91 c92 c93 c94 c95 c96 c97 c98 c99 c100 c101 c102 c103 c104 c105 c106 c107 c108 c109 c110 c111 c112 c113 c114 c115 c116 c117 c118 c119 c120 c121 c122 c123 c124 c125 c126 c127 c128 c129 c130 c131 c132 c133 c134 c135 c136 c137 c138 c139 c140 c141 c142 c143 c144 c145 c146 c147 c148 c149 c150 c151 c152 c153 c154 c155 c156 c157 c158 c159 c160 c161 c162 c163 c164 c165 c166 c167 c168 c169 c170 c171 c172 c173 c174 c175 c176 c177 c178 c179 c180 c181 c182 c183 c184 c185 c186 c187 c188 c189 c190 c191 c192 c193 c194 c195 c196 c197 c198 c199 c200 c201 c202 c203 c204 c205 c206 c207 c208 c209 c210 c211 c212 c213 c214 c215 c216 c217 c218 c219 c220 c221 c222 c223 c224 c225 c226 c227 c228 c229 c230 c231 c232 c233 c234 c235 c236 c237 c238 c239 c240 c241 c242 c243 c244 c245 : Value} (ll : l.length ≤ 9223372036854775807)
    (hE : Hid (Bur.frF (a, z) l = E)) (hR : Hid (Bur.rbS (a, z) l = BL))
    (sl0 : SpAt w q l) (hT0 : Tab w) (het0 : ErrType w) (sb : SpAt wx qb BL) (pb : Pb wx Bp (a, z)) (hb : Below w.heap.size w wx) :
    Code.wp Tryz.prog (dropSeq 9 (Tryz.f3.body.getD .skip)) (bodyPost Tryz.prog Tryz.f3 fun e w' => e = .returned (.bool true) ∧ Below w.heap.size w w') ⟨#[c0, .slice q l.length cap, .int .i64 n, .pointer (some ⟨Bp, 0, none⟩), c4, c5, c6, .int .i64 E, c8, .slice qb BL.length cb, c10, c11, c12, c13, c14, c15, c16, c17, c18, c19, c20, c21, c22, c23, c24, c25, c26, c27, c28, c29, c30, c31, c32, c33, c34, c35, c36, c37, c38, c39, c40, c41, c42, c43, c44, c45, c46, c47, c48, c49, c50, c51, c52, c53, c54, c55, c56, c57, c58, c59, c60, c61, c62, c63, c64, c65, c66, c67, c68, c69, c70, c71, c72, c73, c74, c75, c76, c77, c78, c79, c80, c81, c82, c83, c84, c85, c86, c87, c88, c89, c90, c91, c92, c93, c94, c95, c96, c97, c98, c99, c100, c101, c102, c103, c104, c105, c106, c107, c108, c109, c110, c111, c112, c113, c114, c115, c116, c117, c118, c119, c120, c121, c122, c123, c124, c125, c126, c127, c128, c129, c130, c131, c132, c133, c134, c135, c136, c137, c138, c139, c140, c141, c142, c143, c144, c145, c146, c147, c148, c149, c150, c151, c152, c153, c154, c155, c156, c157, c158, c159, c160, c161, c162, c163, c164, c165, c166, c167, c168, c169, c170, c171, c172, c173, c174, c175, c176, c177, c178, c179, c180, c181, c182, c183, c184, c185, c186, c187, c188, c189, c190, c191, c192, c193, c194, c195, c196, c197, c198, c199, c200, c201, c202, c203, c204, c205, c206, c207, c208, c209, c210, c211, c212, c213, c214, c215, c216, c217, c218, c219, c220, c221, c222, c223, c224, c225, c226, c227, c228, c229, c230, c231, c232, c233, c234, c235, c236, c237, c238, c239, c240, c241, c242, c243, c244, c245], []⟩ wx := by
  have hBL : BL.length ≤ 4294967296 := by rw [← hR.out]; exact Bur.rbS_len _ _
  have EF : Hid (Bur.bkF (a, z) l = if 200 < BL.length then 3 else E) := by show _ = _; rw [Bur.bkF_rb, hR.out, hE.out]
  have ES : Hid (Bur.bkS (a, z) l = if Bur.bkF (a, z) l = 0 then BL else []) := by show _ = _; rw [Bur.bkS_rb, hR.out]
  have HR : Hid (Bur.bkF (a, z) l = 0 → BL = Bur.bks (a, z) l) := fun h => by show _ = _; rw [← hR.out]; unfold Bur.rbS; rw [if_pos (Bur.bkF_ok h).1]
  have hSl := Bur.bkS_len (a, z) l
  obtain ⟨F, hF⟩ : ∃ F, Bur.bkF (a, z) l = F := ⟨_, rfl⟩
  obtain ⟨S, hS⟩ : ∃ S, Bur.bkS (a, z) l = S := ⟨_, rfl⟩
  have HF : Hid _ := hF
  have HS : Hid _ := hS
  rw [hF] at EF ES HR
  rw [hS] at ES hSl
  clear hF hS hR
  have pb0 := pb
  conv => arg 2; whnf
  go_upto_if 58 with fail
  go_cut [14] (fun v wy => v = .int .i64 F ∧ wy = wx)
  case first =>
    by_cases h200 : 200 < BL.length
    · have h200' : (200 : Int) < (BL.length : Int) := by omega
      have EF1 : Hid (F = 3) := by show _ = _; rw [EF.out, if_pos h200]
      clear EF ES HR HF HS hE sb pb pb0
      go_wp2_with fail
      go_meet
      case rel => exact ⟨by rw [EF1.out], rfl⟩
    · have h200' : (BL.length : Int) ≤ 200 := by omega
      have EF1 : Hid (F = E) := by show _ = _; rw [EF.out, if_neg h200]
      clear EF ES HR HF HS hE sb pb pb0
      go_wp2_with fail
      go_meet
      case rel => exact ⟨by rw [EF1.out], rfl⟩
  case rest =>
  obtain ⟨rfl, hw⟩ := hcut
  have hw2 := hw.symm
  subst hw2
  clear EF hw
  go_upto_if 61 with fail
  go_cut [15] from 61 to 61 (fun v wy => ∃ (p : Option Addr) (c : Nat), v = .slice p S.length c ∧ SpAt wx p S ∧ wy = wx)
  case first =>
    cases hF0 : (F != 0)
    · have hF' : F = 0 := by simpa using hF0
      have ES1 : Hid (S = BL) := by show _ = _; rw [ES.out, if_pos hF']
      have sS : SpAt wx qb S := by rw [ES1.out]; exact sb
      clear ES HR HF HS hE sb pb pb0 hF'
      go_wp2_with fail
      go_meet
      case rel => exact ⟨qb, cb, by rw [ES1.out], sS, rfl⟩
    · have hF' : F ≠ 0 := by simpa using hF0
      have ES1 : Hid (S = []) := by show _ = _; rw [ES.out, if_neg hF']
      clear ES HR HF HS hE sb pb pb0 hF'
      go_wp2_with fail
      go_meet
      case rel => exact ⟨none, 0, by rw [ES1.out]; rfl, by rw [ES1.out]; exact SpAt.nil _ _, rfl⟩
  case rest =>
  obtain ⟨pS, cS, rfl, sS, hw⟩ := hcut
  have hw2 := hw.symm
  subst hw2
  clear ES hw
  have sl := sl0.step hb
  have hT := hT0.step hb hT0.lt
  obtain ⟨p0, p1, p2⟩ := pb
  simp only at p1 p2
  go_wp2_with fail
  refine (freeBlocks a z q cap l _ ll sl hT).mono ?_
  rintro e w1 ⟨r, cr, rfl, sr, hb1⟩
  rw [HF.out, HS.out]
  rw [HS.out] at sr
  have pb1 := pb0.step hb1
  have sb1 := sb.step hb1
  have sS1 := sS.step hb1
  have hb2 := below_via hb hb1
  have het1 := etStep het0 hb2
  clear p0 p1 p2 sl hT pb0 sb sS hb hb1 HS
  go_wp2_with fail
  refine (error_any F F w1 het1).mono ?_
  rintro e w2 ⟨rfl, hb3⟩
  have e1 : (F == F) = true := by simp
  rw [e1]
  have pb2 := pb1.step hb3
  have sb2 := sb1.step hb3
  have sS2 := sS1.step hb3
  have sr2 := sr.step hb3
  have hb4 := below_via hb2 hb3
  clear pb1 sb1 sS1 sr hb2 hb3 het1 e1
  go_wp2_with fail
  refine (prefixes_same r pS cr cS S w2 (by omega) sr2 sS2).mono ?_
  rintro e w3 ⟨rfl, hb5⟩
  have pb3 := pb2.step hb5
  have sb3 := sb2.step hb5
  have hb6 := below_via hb4 hb5
  clear pb2 sb2 sS2 sr2 hb4 hb5
  go_upto_if 79 with fail
  go_cut [6] (fun _ wy => wy = w3)
  case first =>
    clear HF HR hE
    go_wp2_with fail
    go_meet
    case rel => exact rfl
  case rest =>
  have hw2 := hcut.symm
  subst hw2
  refine ‹∀ (a : Act) (w : World), Code.wp _ _ _ a w → _› _ _ ?_
  exact fi4 ll hBL hE HF HR sl0 hT0 het0 sb3 pb3 hb6

set_option maxRecDepth 100000 in
set_option maxHeartbeats 8000000 in
theorem fi2 {l BL G : List Bur.Sp} {q qb qg : Option Addr} {cap cb cg Bp : Nat} {a z n E : Int} {w wx : World} {c0 c4 c5 c6 c10 c11 c12 c13 c14 c15 c16 c17 c18 c19 c20 c21 c22 c23 c24 c25 c26 c27 c28 c29 c30 c31 c32 c33 c34 c35 c36 c37 c38 c39 c40 c41 c42 c43 c44 c45 c46 c47 c48 c49 c50 c51 c52 c53 c54 c55 c56 c57 c58 c59 c60 c61 c62 c63 c64 c65 c66 c67 c68 c69 c70 c71 c72 c73 c74 c75 c76 c77 c78 c79 c80 c81 c82 c83 c84 c85 c86 c87 c88 c89 c90 c91 c92 c93 c94 c95 c96 c97 c98 c99 c100 c101 c102 c103 c104 c105 c106 c107 c108 c109 c110 c111 c112 c113 c114 c115 c116 c117 c118 c119 c120 c121 c122 c123 c124 c125 c126 c127 c128 c129 c130 c131 c132 c133 c134 c135 c136 c137 c138 c139 c140 c141 c142 c143 c144 c145 c146 c147 c148 c149 c150 c151 c152 c153 c154 c155 c156 c157 c158 c159 c160 c161 c162 c163 c164 c165 c166 c167 c168 c169 c170 c171 c172 c173 c174 c175 c176 c177 c178 c179 c180 c181 c182 c183 c184 c185 c186 c187 c188 c189 c190 c191 c192 c193 c194 c195 c196 c197 c198 c199 c200 c201 c202 c203 c204 c205 c206 c207 c208 c209 c210 c211 c212 c213 c214 c215 c216 c217 c218 c219 c220 c221 c222 c223 c224 c225 c226 c227 c228 c229 c230 c231 c232 c233 c234 c235 c236 c237 c238 c239 c240 c241 c242 c243 c244 c245 : Value} (ll : l.length ≤ 9223372036854775807)
    (hE : Hid (Bur.frF (a, z) l = E)) (hR : Hid (Bur.rbS (a, z) l = BL)) (hG : Hid (Bur.gpS (a, z) l = G))
    (sl0 : SpAt w q l) (hT0 : Tab w) (het0 : ErrType w) (sb : SpAt wx qb BL) (sg : SpAt wx qg G) (pb : Pb wx Bp (a, z)) (hb : Below w.heap.size w wx) :
    Code.wp Tryz.prog (dropSeq 5 (Tryz.f3.body.getD .skip)) (bodyPost Tryz.prog Tryz.f3 fun e w' => e = .returned (.bool true) ∧ Below w.heap.size w w') ⟨#[c0, .slice q l.length cap, .int .i64 n, .pointer (some ⟨Bp, 0, none⟩), c4, c5, c6, .int .i64 E, .slice qg G.length cg, .slice qb BL.length cb, c10, c11, c12, c13, c14, c15, c16, c17, c18, c19, c20, c21, c22, c23, c24, c25, c26, c27, c28, c29, c30, c31, c32, c33, c34, c35, c36, c37, c38, c39, c40, c41, c42, c43, c44, c45, c46, c47, c48, c49, c50, c51, c52, c53, c54, c55, c56, c57, c58, c59, c60, c61, c62, c63, c64, c65, c66, c67, c68, c69, c70, c71, c72, c73, c74, c75, c76, c77, c78, c79, c80, c81, c82, c83, c84, c85, c86, c87, c88, c89, c90, c91, c92, c93, c94, c95, c96, c97, c98, c99, c100, c101, c102, c103, c104, c105, c106, c107, c108, c109, c110, c111, c112, c113, c114, c115, c116, c117, c118, c119, c120, c121, c122, c123, c124, c125, c126, c127, c128, c129, c130, c131, c132, c133, c134, c135, c136, c137, c138, c139, c140, c141, c142, c143, c144, c145, c146, c147, c148, c149, c150, c151, c152, c153, c154, c155, c156, c157, c158, c159, c160, c161, c162, c163, c164, c165, c166, c167, c168, c169, c170, c171, c172, c173, c174, c175, c176, c177, c178, c179, c180, c181, c182, c183, c184, c185, c186, c187, c188, c189, c190, c191, c192, c193, c194, c195, c196, c197, c198, c199, c200, c201, c202, c203, c204, c205, c206, c207, c208, c209, c210, c211, c212, c213, c214, c215, c216, c217, c218, c219, c220, c221, c222, c223, c224, c225, c226, c227, c228, c229, c230, c231, c232, c233, c234, c235, c236, c237, c238, c239, c240, c241, c242, c243, c244, c245], []⟩ wx := by
  have hGl : G.length ≤ 61 := by rw [← hG.out]; exact Bur.gpS_len _ _
  have sl := sl0.step hb
  have pb0 := pb
  obtain ⟨p0, p1, p2⟩ := pb
  simp only at p1 p2
  conv => arg 2; whnf
  go_wp2_with fail
  refine (gaps a z q cap l wx ll sl).mono ?_
  rintro e w1 ⟨r, cr, rfl, sr, hb1⟩
  rw [hE.out, hG.out]
  rw [hG.out] at sr
  have pb1 := pb0.step hb1
  have sb1 := sb.step hb1
  have sg1 := sg.step hb1
  have hb2 := below_via hb hb1
  have het1 := etStep het0 hb2
  clear p0 p1 p2 sl pb0 sb sg hb hb1 hG
  go_wp2_with fail
  refine (error_any E E w1 het1).mono ?_
  rintro e w2 ⟨rfl, hb3⟩
  have e1 : (E == E) = true := by simp
  rw [e1]
  have pb2 := pb1.step hb3
  have sb2 := sb1.step hb3
  have sg2 := sg1.step hb3
  have sr2 := sr.step hb3
  have hb4 := below_via hb2 hb3
  clear pb1 sb1 sg1 sr hb2 hb3 het1 e1
  go_wp2_with fail
  refine (spans_same r qg cr cg G w2 (by omega) sr2 sg2).mono ?_
  rintro e w3 ⟨rfl, hb5⟩
  have pb3 := pb2.step hb5
  have sb3 := sb2.step hb5
  have hb6 := below_via hb4 hb5
  clear pb2 sb2 sg2 sr2 hb4 hb5
  go_upto_if 54 with fail
  go_cut [6] (fun _ wy => wy = w3)
  case first =>
    clear hR hE
    go_wp2_with fail
    go_meet
    case rel => exact rfl
  case rest =>
  have hw2 := hcut.symm
  subst hw2
  refine ‹∀ (a : Act) (w : World), Code.wp _ _ _ a w → _› _ _ ?_
  exact fi3 ll hE hR sl0 hT0 het0 sb3 pb3 hb6

set_option maxRecDepth 100000 in
set_option maxHeartbeats 8000000 in
theorem law_free (a z n : Int) (l : List Bur.Sp) (q : Option Addr) (cap : Nat) (w : World) (ll : l.length ≤ 9223372036854775807) (sl0 : SpAt w q l) (hT0 : Tab w) (het0 : ErrType w) :
    Calls Tryz.prog 3 #[pfx a z, .slice q l.length cap, .int .i64 n] w fun e w' => e = .returned (.bool true) ∧ Below w.heap.size w w' := by
  have pb : Pb (w.alloc (.cells #[.int .i64 a, .int .i64 z] 23)) w.heap.size (a, z) := Pb.new w 23 a z
  have hb0 : Below w.heap.size w (w.alloc (.cells #[.int .i64 a, .int .i64 z] 23)) := below_al (below_self _) _
  go_enter Tryz.func3, Tryz.ntmps3
  go_wp2_with fail
  refine (refFreeFault a z q cap l _ ll (sl0.step hb0)).mono ?_
  rintro e w1 ⟨rfl, hb1⟩
  replace pb := pb.step hb1
  have hb := below_via hb0 hb1
  clear hb0 hb1
  obtain ⟨E, hE1⟩ : ∃ E, Bur.frF (a, z) l = E := ⟨_, rfl⟩
  have hE : Hid _ := hE1
  rw [hE1]
  clear hE1
  obtain ⟨BL, hR1⟩ : ∃ BL, Bur.rbS (a, z) l = BL := ⟨_, rfl⟩
  have hR : Hid _ := hR1
  obtain ⟨G, hG1⟩ : ∃ G, Bur.gpS (a, z) l = G := ⟨_, rfl⟩
  have hG : Hid _ := hG1
  clear hR1 hG1
  go_upto_if 30 with fail
  obtain ⟨Bp, hBp⟩ : ∃ Bp, w.heap.size = Bp := ⟨_, rfl⟩
  rw [hBp] at pb ⊢
  go_cut [8, 9] from 30 to 36 (fun g b wy => ∃ (pg qb : Option Addr) (cg cb : Nat), g = .slice pg G.length cg ∧ b = .slice qb BL.length cb ∧ SpAt wy pg G ∧ SpAt wy qb BL ∧ Below w1.heap.size w1 wy)
  case first =>
    cases hE0 : (E == 0)
    · have hE' : E ≠ 0 := by simpa using hE0
      have G0 : Hid (G = []) := by show _ = _; rw [← hG.out]; exact if_neg (by rw [hE.out]; exact hE')
      have R0 : Hid (BL = []) := by show _ = _; rw [← hR.out]; exact if_neg (by rw [hE.out]; exact hE')
      clear hE hR hG hE' pb
      go_wp2_with fail
      go_meet
      case rel => exact ⟨none, none, 0, 0, by rw [G0.out]; rfl, by rw [R0.out]; rfl, by rw [G0.out]; exact SpAt.nil _ _, by rw [R0.out]; exact SpAt.nil _ _, below_self _⟩
    · have hE' : E = 0 := by simpa using hE0
      have g0 := hE.out.trans hE'
      obtain ⟨f1, f2, f3⟩ := Bur.frF_ok g0
      have G0 : Hid (Bur.gms (Bur.bks (a, z) l) = G) := by show _ = _; rw [← hG.out]; unfold Bur.gpS; rw [if_pos g0]; exact Bur.gms_blk f1 f3
      have R0 : Hid (Bur.bks (a, z) l = BL) := by show _ = _; rw [← hR.out]; unfold Bur.rbS; rw [if_pos g0]
      obtain ⟨k1, k2⟩ := f1.okK
      have hO : Hid _ := f3
      have pz := f1.parts
      simp only at pz
      have hz32 : 32 - (((32 - z).toNat : Nat) : Int) = z := by omega
      have cG := fun w hs => refGaps a z q cap l w f1 f2 hO hs
      rw [G0.out] at cG
      have cB := fun w hs => refBlocks q cap l f2 hO (32 - z).toNat a w k1 hs
      rw [hz32] at cB
      unfold BkP at cB
      rw [show Bur.blk l (32 - z).toNat a = BL from R0.out] at cB
      have sl := sl0.step hb
      have pb0 := pb
      obtain ⟨p0, p1, p2⟩ := pb
      simp only at p1 p2
      clear hE hR hG hE' g0 f1 f3 k1 k2 hO pz hz32 G0 R0
      go_wp2_with fail
      refine (cG _ sl).mono ?_
      rintro e w2 ⟨pg, cg, rfl, sg, hb2⟩
      have sl2 := sl.step hb2
      obtain ⟨p3, p4, p5⟩ := pb0.step hb2
      simp only at p4 p5
      clear cG sl p0 p1 p2
      go_wp2_with fail
      refine (cB _ sl2).mono ?_
      rintro e w3 ⟨v, rfl, own, _, hb3⟩
      obtain ⟨qb, cb, rfl⟩ := own_form own
      have sB := (spAtOwnP own).2
      have sg3 := sg.step hb3
      have hb4 := below_via hb2 hb3
      clear cB sl2 p3 p4 p5 own sg hb2 hb3
      go_wp2_with fail
      go_meet
      case rel => exact ⟨pg, qb, cg, cb, rfl, rfl, sg3, sB, hb4⟩
  case rest =>
  obtain ⟨pg, qb, cg, cb, rfl, rfl, sg, sB, hb2⟩ := hcut
  refine ‹∀ (a : Act) (w : World), Code.wp _ _ _ a w → _› _ _ ?_
  rw [← hBp]
  rw [← hBp] at pb
  exact fi2 ll hE hR hG sl0 hT0 het0 sB sg (pb.step hb2) (below_via hb hb2)
end Go.Proofs.YtfhidiedmenliaaGreatDoor
