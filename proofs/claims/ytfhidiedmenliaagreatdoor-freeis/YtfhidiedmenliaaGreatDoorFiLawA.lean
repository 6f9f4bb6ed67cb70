/- The walk of the law FreeIs: its last piece. -/
import Derived.Test.YtfhidiedmenliaaGreatDoorFrWalkB
import Derived.Test.YtfhidiedmenliaaGreatDoorPfBox
import Derived.Test.YtfhidiedmenliaaGreatDoorAdErr2
import Derived.Test.YtfhidiedmenliaaGreatDoorFrRefD
import Derived.Test.YtfhidiedmenliaaGreatDoorFrRefE
import Derived.Test.YtfhidiedmenliaaGreatDoorCvUni
import Derived.Deep.CutBlock
namespace Go.Proofs.YtfhidiedmenliaaGreatDoor
open Go.RowKit

theorem etStep {w w' : World} (h : ErrType w) (hb : Below w.heap.size w w') : ErrType w' := (hb.cell (World.block_lt_of_cell? _ _ h)).trans h
/-- The place of the best, -1 where there is none. -/
def bi : Option Nat → Int
  | none => -1
  | some j => j
/-- The boxes of the law. -/
structure R3 (w : World) (Bp By Bq : Nat) (a z y1 y2 q1 q2 : Int) : Prop where
  pb : Pb w Bp (a, z)
  yb : Bx w By y1 y2
  qb : Bx w Bq q1 q2
theorem R3.step {w w' : World} {Bp By Bq : Nat} {a z y1 y2 q1 q2 : Int} (h : R3 w Bp By Bq a z y1 y2 q1 q2) (hb : Below w.heap.size w w') : R3 w' Bp By Bq a z y1 y2 q1 q2 := ⟨h.pb.step hb, h.yb.step hb, h.qb.step hb⟩
theorem R3.putY {w : World} {Bp By Bq : Nat} {a z y1 y2 q1 q2 : Int} (h : R3 w Bp By Bq a z y1 y2 q1 q2) (h1 : Bp ≠ By) (h2 : Bq ≠ By) (x y : Int) : R3 ((w.setCell ⟨By, 0, none⟩ (.int .i64 x)).setCell ⟨By, 1, none⟩ (.int .i64 y)) Bp By Bq a z x y q1 q2 := by
  obtain ⟨⟨p0, p1, p2⟩, ⟨c0, c1, f0, f1⟩, ⟨d0, d1, e0, e1⟩⟩ := h
  have n1 : ∀ o o', (⟨Bp, o, none⟩ : Addr) ≠ ⟨By, o', none⟩ := fun o o' e => h1 (by injection e)
  have n2 : ∀ o o', (⟨Bq, o, none⟩ : Addr) ≠ ⟨By, o', none⟩ := fun o o' e => h2 (by injection e)
  simp only at p1 p2
  refine ⟨⟨by simpa using p0, by go_simp, by go_simp⟩, ⟨by go_simp, by go_simp, by go_simp, by go_simp⟩, ⟨by go_simp, by go_simp, by go_simp, by go_simp⟩⟩
theorem R3.putQ {w : World} {Bp By Bq : Nat} {a z y1 y2 q1 q2 : Int} (h : R3 w Bp By Bq a z y1 y2 q1 q2) (h1 : Bp ≠ Bq) (h2 : By ≠ Bq) (x y : Int) : R3 ((w.setCell ⟨Bq, 0, none⟩ (.int .i64 x)).setCell ⟨Bq, 1, none⟩ (.int .i64 y)) Bp By Bq a z y1 y2 x y := by
  obtain ⟨⟨p0, p1, p2⟩, ⟨c0, c1, f0, f1⟩, ⟨d0, d1, e0, e1⟩⟩ := h
  have n1 : ∀ o o', (⟨Bp, o, none⟩ : Addr) ≠ ⟨Bq, o', none⟩ := fun o o' e => h1 (by injection e)
  have n2 : ∀ o o', (⟨By, o, none⟩ : Addr) ≠ ⟨Bq, o', none⟩ := fun o o' e => h2 (by injection e)
  simp only at p1 p2
  refine ⟨⟨by simpa using p0, by go_simp, by go_simp⟩, ⟨by go_simp, by go_simp, by go_simp, by go_simp⟩, ⟨by go_simp, by go_simp, by go_simp, by go_simp⟩⟩

set_option maxRecDepth 100000 in
set_option maxHeartbeats 8000000 in
theorem fi9 {l : List Bur.Sp} {q : Option Addr} {cap Bp By Bq : Nat} {a z n F s1 s2 q1 q2 : Int} {w wx : World} {c0 c4 c5 c6 c7 c8 c9 c10 c11 c12 c13 c15 c16 c17 c18 c19 c20 c21 c22 c23 c26 c27 c28 c29 c30 c31 c32 c33 c34 c35 c36 c37 c38 c39 c40 c41 c42 c43 c44 c45 c46 c47 c48 c49 c50 c51 c52 c53 c54 c55 c56 c57 c58 c59 c60 c61 c62 c63 c64 c65 c66 c67 c68 c69 c70 c71 c72 c73 c74 c75 c76 c77 c78 c79 c80 c81 c82 c83 c84 c85 c86 c87 c88 c89 c90 c91 c92 c93 c94 c95 c96 c97 c98 c99 c100 c101 c102 c103 c104 c105 c106 c107 c108 c109 c110 c111 c112 c113 c114 c115 c116 c117 c118 c119 c120 c121 c122 c123 c124 c125 c126 c127 c128 c129 c130 c131 c132 c133 c134 c135 c136 c137 c138 c139 c140 c141 c142 c143 c144 c145 c146 c147 c148 c149 c150 c151 c152 c153 c154 c155 c156 c157 c158 c159 c160 c161 c162 c163 c164 c165 c166 c167 c168 c169 c170 c171 c172 c173 c174 c175 c176 c177 c178 c179 c180 c181 c182 c183 c184 c185 c186 c187 c188 c189 c190 c191 c192 c193 c194 c195 c196 c197 c198 c199 c200 c201 c202 c203 c204 c205 c206 c207 c208 c209 c210 c211 c212 c213 c214 c215 c216 c217 c218 c219 c220 c221 c222 c223 c224 c225 c226 c227 c228 c229 c230 c231 c232 c233 c234 c235 c236 c237 c238 c239 c240 c241 c242 c243 c244 c245 : Value} (ll : l.length ≤ 9223372036854775807)
    (hF : Hid (Bur.bsF (a, z) l n = F)) (hS : Hid (Bur.bsS (a, z) l n = (s1, s2)))
    (sl0 : SpAt w q l) (hT0 : Tab w) (het0 : ErrType w) (R : R3 wx Bp By Bq a z s1 s2 q1 q2) (hpq : Bp ≠ Bq) (hyq : By ≠ Bq) (hqw : w.heap.size ≤ Bq) (hb : Below w.heap.size w wx) :
    Code.wp Tryz.prog (dropSeq 36 (Tryz.f3.body.getD .skip)) (bodyPost Tryz.prog Tryz.f3 fun e w' => e = .returned (.bool true) ∧ Below w.heap.size w w') ⟨#[c0, .slice q l.length cap, .int .i64 n, .pointer (some ⟨Bp, 0, none⟩), c4, c5, c6, c7, c8, c9, c10, c11, c12, c13, .int .i64 F, c15, c16, c17, c18, c19, c20, c21, c22, c23, .pointer (some ⟨By, 0, none⟩), .pointer (some ⟨Bq, 0, none⟩), c26, c27, c28, c29, c30, c31, c32, c33, c34, c35, c36, c37, c38, c39, c40, c41, c42, c43, c44, c45, c46, c47, c48, c49, c50, c51, c52, c53, c54, c55, c56, c57, c58, c59, c60, c61, c62, c63, c64, c65, c66, c67, c68, c69, c70, c71, c72, c73, c74, c75, c76, c77, c78, c79, c80, c81, c82, c83, c84, c85, c86, c87, c88, c89, c90, c91, c92, c93, c94, c95, c96, c97, c98, c99, c100, c101, c102, c103, c104, c105, c106, c107, c108, c109, c110, c111, c112, c113, c114, c115, c116, c117, c118, c119, c120, c121, c122, c123, c124, c125, c126, c127, c128, c129, c130, c131, c132, c133, c134, c135, c136, c137, c138, c139, c140, c141, c142, c143, c144, c145, c146, c147, c148, c149, c150, c151, c152, c153, c154, c155, c156, c157, c158, c159, c160, c161, c162, c163, c164, c165, c166, c167, c168, c169, c170, c171, c172, c173, c174, c175, c176, c177, c178, c179, c180, c181, c182, c183, c184, c185, c186, c187, c188, c189, c190, c191, c192, c193, c194, c195, c196, c197, c198, c199, c200, c201, c202, c203, c204, c205, c206, c207, c208, c209, c210, c211, c212, c213, c214, c215, c216, c217, c218, c219, c220, c221, c222, c223, c224, c225, c226, c227, c228, c229, c230, c231, c232, c233, c234, c235, c236, c237, c238, c239, c240, c241, c242, c243, c244, c245], []⟩ wx := by
  conv => arg 2; whnf
  have sl := sl0.step hb
  have hT := hT0.step hb hT0.lt
  obtain ⟨p0, p1, p2⟩ := R.pb
  simp only at p1 p2
  go_wp2_with fail
  refine (freeBest a z n q cap l wx ll sl hT).mono ?_
  rintro e w1 ⟨rfl, hb1⟩
  rw [hF.out, hS.out]
  have hb2 := below_via hb hb1
  have R1 := R.step hb1
  have R2 := R1.putQ hpq hyq s1 s2
  have hb3 : Below w.heap.size w ((w1.setCell ⟨Bq, 0, none⟩ (.int .i64 s1)).setCell ⟨Bq, 1, none⟩ (.int .i64 s2)) := (hb2.setCell hqw _).setCell hqw _
  have het3 := etStep het0 hb3
  obtain ⟨_, _, ⟨b0, b1, b2, b3⟩⟩ := R1
  clear p0 p1 p2 sl hT hb hb1 hb2 R hF hS
  go_wp2_with fail
  obtain ⟨W, hW⟩ : ∃ W, (w1.setCell ⟨Bq, 0, none⟩ (.int .i64 s1)).setCell ⟨Bq, 1, none⟩ (.int .i64 s2) = W := ⟨_, rfl⟩
  rw [hW] at R2 hb3 het3 ⊢
  clear hW b0 b1 b2 b3
  refine (error_any F F W het3).mono ?_
  rintro e w2 ⟨rfl, hb4⟩
  have R3' := R2.step hb4
  have hb5 := below_via hb3 hb4
  obtain ⟨_, ⟨c0, c1, _, _⟩, ⟨d0, d1, _, _⟩⟩ := R3'
  have e1 : (F == F) = true := by simp
  have e2 : (s1 == s1) = true := by simp
  have e3 : (s2 == s2) = true := by simp
  rw [e1]
  clear R2 hb3 hb4 het3
  go_wp2_with fail
  go_ret
  exact ⟨rfl, hb5⟩

set_option maxRecDepth 100000 in
set_option maxHeartbeats 8000000 in
theorem fi8 {l BL : List Bur.Sp} {q qb : Option Addr} {cap cb Bp By Bq : Nat} {a z n F q1 q2 : Int} {c : Option Nat} {w wx : World} {c0 c4 c5 c6 c7 c8 c10 c11 c12 c13 c15 c16 c18 c19 c20 c21 c22 c23 c26 c27 c28 c29 c30 c31 c32 c33 c34 c35 c36 c37 c38 c39 c40 c41 c42 c43 c44 c45 c46 c47 c48 c49 c50 c51 c52 c53 c54 c55 c56 c57 c58 c59 c60 c61 c62 c63 c64 c65 c66 c67 c68 c69 c70 c71 c72 c73 c74 c75 c76 c77 c78 c79 c80 c81 c82 c83 c84 c85 c86 c87 c88 c89 c90 c91 c92 c93 c94 c95 c96 c97 c98 c99 c100 c101 c102 c103 c104 c105 c106 c107 c108 c109 c110 c111 c112 c113 c114 c115 c116 c117 c118 c119 c120 c121 c122 c123 c124 c125 c126 c127 c128 c129 c130 c131 c132 c133 c134 c135 c136 c137 c138 c139 c140 c141 c142 c143 c144 c145 c146 c147 c148 c149 c150 c151 c152 c153 c154 c155 c156 c157 c158 c159 c160 c161 c162 c163 c164 c165 c166 c167 c168 c169 c170 c171 c172 c173 c174 c175 c176 c177 c178 c179 c180 c181 c182 c183 c184 c185 c186 c187 c188 c189 c190 c191 c192 c193 c194 c195 c196 c197 c198 c199 c200 c201 c202 c203 c204 c205 c206 c207 c208 c209 c210 c211 c212 c213 c214 c215 c216 c217 c218 c219 c220 c221 c222 c223 c224 c225 c226 c227 c228 c229 c230 c231 c232 c233 c234 c235 c236 c237 c238 c239 c240 c241 c242 c243 c244 c245 : Value} (ll : l.length ≤ 9223372036854775807) (hBL : BL.length ≤ 4294967296)
    (hc : Hid (∀ j, c = some j → j < BL.length)) (h0 : Hid (F = 0 → Bur.bsF (a, z) l n = Bur.nnF c ∧ ∀ j, c = some j → Bur.bsS (a, z) l n = (lo BL j, n))) (h1 : Hid (F ≠ 0 → Bur.bsF (a, z) l n = F))
    (sl0 : SpAt w q l) (hT0 : Tab w) (het0 : ErrType w) (sb : SpAt wx qb BL) (R : R3 wx Bp By Bq a z 0 0 q1 q2) (hpy : Bp ≠ By) (hpq : Bp ≠ Bq) (hyq : By ≠ Bq) (hyw : w.heap.size ≤ By) (hqw : w.heap.size ≤ Bq) (hb : Below w.heap.size w wx) :
    Code.wp Tryz.prog (dropSeq 34 (Tryz.f3.body.getD .skip)) (bodyPost Tryz.prog Tryz.f3 fun e w' => e = .returned (.bool true) ∧ Below w.heap.size w w') ⟨#[c0, .slice q l.length cap, .int .i64 n, .pointer (some ⟨Bp, 0, none⟩), c4, c5, c6, c7, c8, .slice qb BL.length cb, c10, c11, c12, c13, .int .i64 F, c15, c16, .int .i64 (bi c), c18, c19, c20, c21, c22, c23, .pointer (some ⟨By, 0, none⟩), .pointer (some ⟨Bq, 0, none⟩), c26, c27, c28, c29, c30, c31, c32, c33, c34, c35, c36, c37, c38, c39, c40, c41, c42, c43, c44, c45, c46, c47, c48, c49, c50, c51, c52, c53, c54, c55, c56, c57, c58, c59, c60, c61, c62, c63, c64, c65, c66, c67, c68, c69, c70, c71, c72, c73, c74, c75, c76, c77, c78, c79, c80, c81, c82, c83, c84, c85, c86, c87, c88, c89, c90, c91, c92, c93, c94, c95, c96, c97, c98, c99, c100, c101, c102, c103, c104, c105, c106, c107, c108, c109, c110, c111, c112, c113, c114, c115, c116, c117, c118, c119, c120, c121, c122, c123, c124, c125, c126, c127, c128, c129, c130, c131, c132, c133, c134, c135, c136, c137, c138, c139, c140, c141, c142, c143, c144, c145, c146, c147, c148, c149, c150, c151, c152, c153, c154, c155, c156, c157, c158, c159, c160, c161, c162, c163, c164, c165, c166, c167, c168, c169, c170, c171, c172, c173, c174, c175, c176, c177, c178, c179, c180, c181, c182, c183, c184, c185, c186, c187, c188, c189, c190, c191, c192, c193, c194, c195, c196, c197, c198, c199, c200, c201, c202, c203, c204, c205, c206, c207, c208, c209, c210, c211, c212, c213, c214, c215, c216, c217, c218, c219, c220, c221, c222, c223, c224, c225, c226, c227, c228, c229, c230, c231, c232, c233, c234, c235, c236, c237, c238, c239, c240, c241, c242, c243, c244, c245], []⟩ wx := by
  have hS0 : Hid (Bur.bsF (a, z) l n ≠ 0 → Bur.bsS (a, z) l n = (0, 0)) := fun h => if_neg h
  conv => arg 2; whnf
  cases hF : (F == 0)
  · have hF' : F ≠ 0 := by simpa using hF
    have E1 : Hid (Bur.bsF (a, z) l n = F) := h1.out hF'
    have E2 : Hid (Bur.bsS (a, z) l n = (0, 0)) := hS0.out (by rw [E1.out]; exact hF')
    clear h0 h1 hc sb hS0 hF'
    go_upto_if 213 with fail
    go_cut [] from 214 to 220 (fun wy => wy = wx)
    case first =>
      clear R E1 E2
      go_wp2_with fail
      go_meet
      case rel => exact rfl
    case rest =>
    have hw2 := hcut.symm
    subst hw2
    refine ‹∀ (a : Act) (w : World), Code.wp _ _ _ a w → _› _ _ ?_
    exact fi9 ll E1 E2 sl0 hT0 het0 R hpq hyq hqw hb
  · have hF' : F = 0 := by simpa using hF
    obtain ⟨g1, g2⟩ := h0.out hF'
    subst hF'
    cases c with
    | none =>
      have E1 : Hid (Bur.bsF (a, z) l n = 4) := g1
      have E2 : Hid (Bur.bsS (a, z) l n = (0, 0)) := hS0.out (by rw [E1.out]; decide)
      have hd : decide (bi none < 0) = true := by decide
      clear h0 h1 hc sb hS0 g1 g2
      go_upto_if 213 with fail
      go_cut [] from 214 to 220 (fun wy => wy = wx)
      case first =>
        clear R E1 E2
        go_wp2_with fail
        go_meet
        case rel => exact rfl
      case rest =>
      have hw2 := hcut.symm
      subst hw2
      refine ‹∀ (a : Act) (w : World), Code.wp _ _ _ a w → _› _ _ ?_
      exact fi9 ll E1 E2 sl0 hT0 het0 R hpq hyq hqw hb
    | some j =>
      have hj := hc.out j rfl
      have E1 : Hid (Bur.bsF (a, z) l n = 0) := g1
      have E2 : Hid (Bur.bsS (a, z) l n = (lo BL j, n)) := g2 j rfl
      have hb0 : bi (some j) = (j : Int) := rfl
      rw [hb0]
      have hj' : (j : Int) < (BL.length : Int) := by omega
      have hd : decide ((j : Int) < 0) = false := by simp
      obtain ⟨b, off, rfl, hbl, hcc⟩ := sb (by omega)
      have c0 := (hcc j hj).1
      obtain ⟨x, hx⟩ : ∃ x, lo BL j = x := ⟨_, rfl⟩
      rw [hx] at c0 E2
      clear h0 h1 hc hS0 g1 g2 hb0 sb hcc hx
      go_upto_if 213 with fail
      go_cut [] from 214 to 220 (fun wy => R3 wy Bp By Bq a z x n q1 q2 ∧ Below w.heap.size w wy)
      case first =>
        have R1 := R.putY hpy hyq.symm x n
        obtain ⟨_, ⟨b0, b1, b2, b3⟩, _⟩ := R
        clear E1 E2
        go_wp2_with fail
        go_meet
        case rel => exact ⟨R1, (hb.setCell hyw _).setCell hyw _⟩
      case rest =>
      obtain ⟨R1, hb1⟩ := hcut
      refine ‹∀ (a : Act) (w : World), Code.wp _ _ _ a w → _› _ _ ?_
      exact fi9 ll E1 E2 sl0 hT0 het0 R1 hpq hyq hqw hb1
end Go.Proofs.YtfhidiedmenliaaGreatDoor
