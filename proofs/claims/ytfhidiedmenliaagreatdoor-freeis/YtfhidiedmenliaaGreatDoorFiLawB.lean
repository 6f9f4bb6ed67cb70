/- The walk of the law FreeIs: the first that is free, and how many. -/
import Derived.Test.YtfhidiedmenliaaGreatDoorFiLawA
namespace Go.Proofs.YtfhidiedmenliaaGreatDoor
open Go.RowKit

set_option maxRecDepth 100000 in
set_option maxHeartbeats 8000000 in
theorem fi7b {l BL : List Bur.Sp} {q qb : Option Addr} {cap cb Bp Bxx By : Nat} {a z n E F s1 s2 : Int} {c : Option Nat} {w wx : World} {c0 c4 c5 c6 c8 c10 c11 c12 c13 c15 c16 c18 c19 c20 c21 c22 c25 c26 c27 c28 c29 c30 c31 c32 c33 c34 c35 c36 c37 c38 c39 c40 c41 c42 c43 c44 c45 c46 c47 c48 c49 c50 c51 c52 c53 c54 c55 c56 c57 c58 c59 c60 c61 c62 c63 c64 c65 c66 c67 c68 c69 c70 c71 c72 c73 c74 c75 c76 c77 c78 c79 c80 c81 c82 c83 c84 c85 c86 c87 c88 c89 c90 c91 c92 c93 c94 c95 c96 c97 c98 c99 c100 c101 c102 c103 c104 c105 c106 c107 c108 c109 c110 c111 c112 c113 c114 c115 c116 c117 c118 c119 c120 c121 c122 c123 c124 c125 c126 c127 c128 c129 c130 c131 c132 c133 c134 c135 c136 c137 c138 c139 c140 c141 c142 c143 c144 c145 c146 c147 c148 c149 c150 c151 c152 c153 c154 c155 c156 c157 c158 c159 c160 c161 c162 c163 c164 c165 c166 c167 c168 c169 c170 c171 c172 c173 c174 c175 c176 c177 c178 c179 c180 c181 c182 c183 c184 c185 c186 c187 c188 c189 c190 c191 c192 c193 c194 c195 c196 c197 c198 c199 c200 c201 c202 c203 c204 c205 c206 c207 c208 c209 c210 c211 c212 c213 c214 c215 c216 c217 c218 c219 c220 c221 c222 c223 c224 c225 c226 c227 c228 c229 c230 c231 c232 c233 c234 c235 c236 c237 c238 c239 c240 c241 c242 c243 c244 c245 : Value} (ll : l.length ≤ 9223372036854775807) (hBL : BL.length ≤ 4294967296)
    (hc : Hid (∀ j, c = some j → j < BL.length)) (h0 : Hid (F = 0 → Bur.bsF (a, z) l n = Bur.nnF c ∧ ∀ j, c = some j → Bur.bsS (a, z) l n = (lo BL j, n))) (h1 : Hid (F ≠ 0 → Bur.bsF (a, z) l n = F))
    (hE : Hid (Bur.fsF (a, z) l n = E)) (hS : Hid (Bur.fsS (a, z) l n = (s1, s2)))
    (sl0 : SpAt w q l) (hT0 : Tab w) (het0 : ErrType w) (sb : SpAt wx qb BL) (pb : Pb wx Bp (a, z)) (xb : Bx wx Bxx s1 s2) (yb : Bx wx By 0 0) (hpy : Bp ≠ By) (hyw : w.heap.size ≤ By) (hb : Below w.heap.size w wx) :
    Code.wp Tryz.prog (dropSeq 31 (Tryz.f3.body.getD .skip)) (bodyPost Tryz.prog Tryz.f3 fun e w' => e = .returned (.bool true) ∧ Below w.heap.size w w') ⟨#[c0, .slice q l.length cap, .int .i64 n, .pointer (some ⟨Bp, 0, none⟩), c4, c5, c6, .int .i64 E, c8, .slice qb BL.length cb, c10, c11, c12, c13, .int .i64 F, c15, c16, .int .i64 (bi c), c18, c19, c20, c21, c22, .pointer (some ⟨Bxx, 0, none⟩), .pointer (some ⟨By, 0, none⟩), c25, c26, c27, c28, c29, c30, c31, c32, c33, c34, c35, c36, c37, c38, c39, c40, c41, c42, c43, c44, c45, c46, c47, c48, c49, c50, c51, c52, c53, c54, c55, c56, c57, c58, c59, c60, c61, c62, c63, c64, c65, c66, c67, c68, c69, c70, c71, c72, c73, c74, c75, c76, c77, c78, c79, c80, c81, c82, c83, c84, c85, c86, c87, c88, c89, c90, c91, c92, c93, c94, c95, c96, c97, c98, c99, c100, c101, c102, c103, c104, c105, c106, c107, c108, c109, c110, c111, c112, c113, c114, c115, c116, c117, c118, c119, c120, c121, c122, c123, c124, c125, c126, c127, c128, c129, c130, c131, c132, c133, c134, c135, c136, c137, c138, c139, c140, c141, c142, c143, c144, c145, c146, c147, c148, c149, c150, c151, c152, c153, c154, c155, c156, c157, c158, c159, c160, c161, c162, c163, c164, c165, c166, c167, c168, c169, c170, c171, c172, c173, c174, c175, c176, c177, c178, c179, c180, c181, c182, c183, c184, c185, c186, c187, c188, c189, c190, c191, c192, c193, c194, c195, c196, c197, c198, c199, c200, c201, c202, c203, c204, c205, c206, c207, c208, c209, c210, c211, c212, c213, c214, c215, c216, c217, c218, c219, c220, c221, c222, c223, c224, c225, c226, c227, c228, c229, c230, c231, c232, c233, c234, c235, c236, c237, c238, c239, c240, c241, c242, c243, c244, c245], []⟩ wx := by
  conv => arg 2; whnf
  have sl := sl0.step hb
  have pb0 := pb
  obtain ⟨p0, p1, p2⟩ := pb
  simp only at p1 p2
  go_wp2_with fail
  refine (freeFirst a z n q cap l wx ll sl).mono ?_
  rintro e w1 ⟨rfl, hb1⟩
  rw [hE.out, hS.out]
  have bA := below_al (below_self w1) (.cells #[.int .i64 s1, .int .i64 s2] 23)
  have hb2 := below_via hb1 bA
  have hb3 := below_via hb hb2
  have R : R3 (w1.alloc (.cells #[.int .i64 s1, .int .i64 s2] 23)) Bp By w1.heap.size a z 0 0 s1 s2 := ⟨pb0.step hb2, yb.step hb2, Bx.new w1 _ s1 s2⟩
  have xb2 := xb.step hb2
  have sb2 := sb.step hb2
  have het2 := etStep het0 hb3
  have hpq : Bp ≠ w1.heap.size := by have := pb0.1; have := hb1.size; omega
  have hyq : By ≠ w1.heap.size := by have := yb.lt; have := hb1.size; omega
  have hqw : w.heap.size ≤ w1.heap.size := Nat.le_trans hb.size hb1.size
  clear p0 p1 p2 sl hb hb1 hb2 bA sb xb yb pb0 hE hS
  go_wp2_with fail
  obtain ⟨Bq, hBq⟩ : ∃ Bq, w1.heap.size = Bq := ⟨_, rfl⟩
  obtain ⟨W, hW⟩ : ∃ W, w1.alloc (.cells #[.int .i64 s1, .int .i64 s2] 23) = W := ⟨_, rfl⟩
  rw [hBq] at R hpq hyq hqw ⊢
  rw [hW] at R xb2 sb2 het2 hb3 ⊢
  clear hBq hW
  refine (error_any E E W het2).mono ?_
  rintro e w2 ⟨rfl, hb4⟩
  have R2 := R.step hb4
  have xb3 := xb2.step hb4
  have sb3 := sb2.step hb4
  have hb5 := below_via hb3 hb4
  have e1 : (E == E) = true := by simp
  have e2 : (s1 != s1) = false := by simp
  have e3 : (s2 != s2) = false := by simp
  rw [e1]
  clear R xb2 sb2 hb3 hb4 het2 e1
  obtain ⟨x0, x1, _, _⟩ := xb3
  have qb2 := R2.qb
  obtain ⟨q0, q1, _, _⟩ := qb2
  go_upto_if 205 with fail
  go_cut [6] (fun _ wy => wy = w2)
  case first =>
    clear h0 h1 hc R2
    go_wp2_with fail
    go_meet
    case rel => exact rfl
  case rest =>
  have hw2 := hcut.symm
  subst hw2
  refine ‹∀ (a : Act) (w : World), Code.wp _ _ _ a w → _› _ _ ?_
  exact fi8 ll hBL hc h0 h1 sl0 hT0 het0 sb3 R2 hpy hpq hyq hyw hqw hb5

set_option maxRecDepth 100000 in
set_option maxHeartbeats 8000000 in
theorem fi7 {l BL : List Bur.Sp} {q qb : Option Addr} {cap cb Bp : Nat} {a z n E F : Int} {c : Option Nat} {o : Option Int} {w wx : World} {c0 c4 c5 c6 c8 c10 c11 c12 c13 c15 c16 c18 c20 c22 c23 c24 c25 c26 c27 c28 c29 c30 c31 c32 c33 c34 c35 c36 c37 c38 c39 c40 c41 c42 c43 c44 c45 c46 c47 c48 c49 c50 c51 c52 c53 c54 c55 c56 c57 c58 c59 c60 c61 c62 c63 c64 c65 c66 c67 c68 c69 c70 c71 c72 c73 c74 c75 c76 c77 c78 c79 c80 c81 c82 c83 c84 c85 c86 c87 c88 c89 c90 c91 c92 c93 c94 c95 c96 c97 c98 c99 c100 c101 c102 c103 c104 c105 c106 c107 c108 c109 c110 c111 c112 c113 c114 c115 c116 c117 c118 c119 c120 c121 c122 c123 c124 c125 c126 c127 c128 c129 c130 c131 c132 c133 c134 c135 c136 c137 c138 c139 c140 c141 c142 c143 c144 c145 c146 c147 c148 c149 c150 c151 c152 c153 c154 c155 c156 c157 c158 c159 c160 c161 c162 c163 c164 c165 c166 c167 c168 c169 c170 c171 c172 c173 c174 c175 c176 c177 c178 c179 c180 c181 c182 c183 c184 c185 c186 c187 c188 c189 c190 c191 c192 c193 c194 c195 c196 c197 c198 c199 c200 c201 c202 c203 c204 c205 c206 c207 c208 c209 c210 c211 c212 c213 c214 c215 c216 c217 c218 c219 c220 c221 c222 c223 c224 c225 c226 c227 c228 c229 c230 c231 c232 c233 c234 c235 c236 c237 c238 c239 c240 c241 c242 c243 c244 c245 : Value} (ll : l.length ≤ 9223372036854775807) (hBL : BL.length ≤ 4294967296)
    (hc : Hid (∀ j, c = some j → j < BL.length)) (h0 : Hid (F = 0 → Bur.bsF (a, z) l n = Bur.nnF c ∧ ∀ j, c = some j → Bur.bsS (a, z) l n = (lo BL j, n))) (h1 : Hid (F ≠ 0 → Bur.bsF (a, z) l n = F))
    (hE : Hid (Bur.gfF (a, z) l n = E)) (ho : Hid (E = 0 → Bur.fsp (a, z) l n = o))
    (sl0 : SpAt w q l) (hT0 : Tab w) (het0 : ErrType w) (sb : SpAt wx qb BL) (pb : Pb wx Bp (a, z)) (hb : Below w.heap.size w wx) :
    Code.wp Tryz.prog (dropSeq 28 (Tryz.f3.body.getD .skip)) (bodyPost Tryz.prog Tryz.f3 fun e w' => e = .returned (.bool true) ∧ Below w.heap.size w w') ⟨#[c0, .slice q l.length cap, .int .i64 n, .pointer (some ⟨Bp, 0, none⟩), c4, c5, c6, .int .i64 E, c8, .slice qb BL.length cb, c10, c11, c12, c13, .int .i64 F, c15, c16, .int .i64 (bi c), c18, .int .i64 (o.getD 0), c20, .bool o.isSome, c22, c23, c24, c25, c26, c27, c28, c29, c30, c31, c32, c33, c34, c35, c36, c37, c38, c39, c40, c41, c42, c43, c44, c45, c46, c47, c48, c49, c50, c51, c52, c53, c54, c55, c56, c57, c58, c59, c60, c61, c62, c63, c64, c65, c66, c67, c68, c69, c70, c71, c72, c73, c74, c75, c76, c77, c78, c79, c80, c81, c82, c83, c84, c85, c86, c87, c88, c89, c90, c91, c92, c93, c94, c95, c96, c97, c98, c99, c100, c101, c102, c103, c104, c105, c106, c107, c108, c109, c110, c111, c112, c113, c114, c115, c116, c117, c118, c119, c120, c121, c122, c123, c124, c125, c126, c127, c128, c129, c130, c131, c132, c133, c134, c135, c136, c137, c138, c139, c140, c141, c142, c143, c144, c145, c146, c147, c148, c149, c150, c151, c152, c153, c154, c155, c156, c157, c158, c159, c160, c161, c162, c163, c164, c165, c166, c167, c168, c169, c170, c171, c172, c173, c174, c175, c176, c177, c178, c179, c180, c181, c182, c183, c184, c185, c186, c187, c188, c189, c190, c191, c192, c193, c194, c195, c196, c197, c198, c199, c200, c201, c202, c203, c204, c205, c206, c207, c208, c209, c210, c211, c212, c213, c214, c215, c216, c217, c218, c219, c220, c221, c222, c223, c224, c225, c226, c227, c228, c229, c230, c231, c232, c233, c234, c235, c236, c237, c238, c239, c240, c241, c242, c243, c244, c245], []⟩ wx := by
  have xb0 : Bx ((wx.alloc (.cells #[.int .i64 0, .int .i64 0] 23)).alloc (.cells #[.int .i64 0, .int .i64 0] 23)) wx.heap.size 0 0 := (Bx.new wx _ 0 0).step (below_al (below_self _) _)
  have yb0 := Bx.new (wx.alloc (.cells #[.int .i64 0, .int .i64 0] 23)) 23 0 0
  rw [World.size_alloc] at yb0
  have hbA := below_al (below_al (below_self wx) (.cells #[.int .i64 0, .int .i64 0] 23)) (.cells #[.int .i64 0, .int .i64 0] 23)
  have hpy : Bp ≠ wx.heap.size + 1 := by have := pb.1; omega
  have hyw : w.heap.size ≤ wx.heap.size + 1 := by have := hb.size; omega
  have sb1 := sb.step hbA
  have pb1 := pb.step hbA
  have hb1 := below_via hb hbA
  obtain ⟨W, hW⟩ : ∃ W, (wx.alloc (.cells #[.int .i64 0, .int .i64 0] 23)).alloc (.cells #[.int .i64 0, .int .i64 0] 23) = W := ⟨_, rfl⟩
  have hWH : Hid _ := hW
  rw [hW] at xb0 yb0 sb1 pb1 hb1
  clear hW hbA
  conv => arg 2; whnf
  cases hE0 : (E == 0)
  · have hE' : E ≠ 0 := by simpa using hE0
    have E1 : Hid (Bur.fsF (a, z) l n = E) := by show _ = _; unfold Bur.fsF; rw [hE.out, if_neg hE']
    have E2 : Hid (Bur.fsS (a, z) l n = (0, 0)) := by show _ = _; unfold Bur.fsS; rw [E1.out, if_neg hE']
    clear ho hE hE' sb pb hb
    go_upto_if 176 with fail
    rw [hWH.out]
    clear hWH
    go_cut [] from 177 to 179 (fun wy => wy = W)
    case first =>
      clear h0 h1 hc E1 E2
      go_wp2_with fail
      go_meet
      case rel => exact rfl
    case rest =>
    have hw2 := hcut.symm
    subst hw2
    refine ‹∀ (a : Act) (w : World), Code.wp _ _ _ a w → _› _ _ ?_
    exact fi7b ll hBL hc h0 h1 E1 E2 sl0 hT0 het0 sb1 pb1 xb0 yb0 hpy hyw hb1
  · have hE' : E = 0 := by simpa using hE0
    subst hE'
    have hoo := ho.out rfl
    cases o with
    | none =>
      have E1 : Hid (Bur.fsF (a, z) l n = 4) := by show _ = _; unfold Bur.fsF; rw [hE.out, if_pos rfl, hoo]; rfl
      have E2 : Hid (Bur.fsS (a, z) l n = (0, 0)) := by show _ = _; unfold Bur.fsS; rw [E1.out, if_neg (by decide)]
      simp only [Option.isSome_none, Option.getD_none]
      clear ho hE hoo sb pb hb
      go_upto_if 176 with fail
      rw [hWH.out]
      clear hWH
      go_cut [] from 177 to 179 (fun wy => wy = W)
      case first =>
        clear h0 h1 hc E1 E2
        go_wp2_with fail
        go_meet
        case rel => exact rfl
      case rest =>
      have hw2 := hcut.symm
      subst hw2
      refine ‹∀ (a : Act) (w : World), Code.wp _ _ _ a w → _› _ _ ?_
      exact fi7b ll hBL hc h0 h1 E1 E2 sl0 hT0 het0 sb1 pb1 xb0 yb0 hpy hyw hb1
    | some A =>
      have E1 : Hid (Bur.fsF (a, z) l n = 0) := by show _ = _; unfold Bur.fsF; rw [hE.out, if_pos rfl, hoo]; rfl
      have E2 : Hid (Bur.fsS (a, z) l n = (A, n)) := by show _ = _; unfold Bur.fsS; rw [E1.out, if_pos rfl, hoo]; rfl
      simp only [Option.isSome_some, Option.getD_some]
      have R1 : R3 W Bp wx.heap.size (wx.heap.size + 1) a z 0 0 0 0 := ⟨pb1, xb0, yb0⟩
      have hpx : Bp ≠ wx.heap.size := by have := pb.1; omega
      have R2 := R1.putY hpx (by omega) A n
      have hxw : w.heap.size ≤ wx.heap.size := hb.size
      obtain ⟨b0, b1, b2, b3⟩ := xb0
      have sW : SpAt ((W.setCell ⟨wx.heap.size, 0, none⟩ (.int .i64 A)).setCell ⟨wx.heap.size, 1, none⟩ (.int .i64 n)) qb BL := by
        have hbb : Below wx.heap.size wx W := by rw [← hWH.out]; exact below_al (below_al (below_self wx) _) _
        exact sb.step ((hbb.setCell (p := ⟨wx.heap.size, 0, none⟩) (Nat.le_refl _) _).setCell (p := ⟨wx.heap.size, 1, none⟩) (Nat.le_refl _) _)
      clear ho hE hoo sb pb hb
      go_upto_if 176 with fail
      rw [hWH.out]
      clear hWH
      go_cut [] from 177 to 179 (fun wy => wy = (W.setCell ⟨wx.heap.size, 0, none⟩ (.int .i64 A)).setCell ⟨wx.heap.size, 1, none⟩ (.int .i64 n))
      case first =>
        clear h0 h1 hc E1 E2 R1 R2 sW yb0 sb1 pb1
        go_wp2_with fail
        go_meet
        case rel => exact rfl
      case rest =>
      subst hcut
      refine ‹∀ (a : Act) (w : World), Code.wp _ _ _ a w → _› _ _ ?_
      exact fi7b ll hBL hc h0 h1 E1 E2 sl0 hT0 het0 sW R2.pb R2.yb R2.qb hpy hyw ((hb1.setCell hxw _).setCell hxw _)
end Go.Proofs.YtfhidiedmenliaaGreatDoor
