/- The walk of the law FreeFits: its first pieces, and the whole. -/
import Derived.Test.YtfhidiedmenliaaGreatDoorFfLawB
namespace Bur
theorem factF : fsF (0, 30) [(0, 32)] 31 = 0 ∧ fsS (0, 30) [(0, 32)] 31 = (2, 31) := by decide
end Bur
namespace Go.Proofs.YtfhidiedmenliaaGreatDoor
open Go.RowKit

theorem etStep {w w' : World} (h : ErrType w) (hb : Below w.heap.size w w') : ErrType w' := (hb.cell (World.block_lt_of_cell? _ _ h)).trans h

set_option maxRecDepth 100000 in
set_option maxHeartbeats 8000000 in
theorem ff3 {l : List Bur.Sp} {q : Option Addr} {cap Bp Bq : Nat} {a z n x m : Int} {w wx : World} {c0 c4 c5 c6 c7 c8 c10 c12 c13 c14 c15 c16 c17 c18 c19 c20 c21 c22 c23 c24 c25 c26 c27 c28 c29 c30 c31 c32 c33 c34 c35 c36 c37 c38 c39 c40 c41 c42 c43 c44 c45 c46 c47 c48 c49 c50 c51 c52 c53 c54 c55 c56 c57 c58 c59 c60 c61 c62 c63 c64 c65 c66 c67 c68 c69 c70 c71 c72 c73 c74 c75 c76 c77 c78 c79 c80 c81 c82 c83 c84 c85 c86 c87 c88 c89 c90 c91 c92 c93 c94 c95 c96 c97 c98 c99 c100 c101 c102 c103 c104 c105 c106 c107 c108 c109 c110 c111 c112 c113 c114 c115 c116 c117 c118 c119 c120 c121 c122 c123 c124 c125 c126 c127 c128 c129 c130 c131 c132 c133 c134 c135 c136 c137 c138 c139 c140 c141 c142 c143 c144 c145 c146 c147 c148 c149 c150 c151 c152 c153 c154 c155 c156 c157 c158 c159 c160 c161 c162 c163 c164 c165 c166 c167 c168 c169 c170 c171 c172 c173 c174 c175 c176 c177 c178 c179 c180 c181 c182 c183 c184 c185 c186 c187 c188 c189 c190 c191 c192 c193 c194 c195 c196 c197 c198 c199 c200 c201 c202 c203 c204 c205 c206 c207 c208 c209 c210 c211 c212 c213 c214 c215 c216 c217 c218 c219 c220 c221 c222 c223 c224 c225 c226 c227 c228 c229 c230 c231 c232 c233 c234 c235 c236 c237 : Value} (ll : l.length ≤ 9223372036854775807)
    (hG : Hid (Bur.gfF (a, z) l n = 0)) (hm : Hid (Bur.mnS (a, z) l n = m)) (hx : Hid ((x, n) ∈ Bur.frs (a, z) l n ∧ ∀ s ∈ Bur.frs (a, z) l n, x ≤ s.1))
    (sl0 : SpAt w q l) (hT : Tab wx) (pb : Pb wx Bp (a, z)) (bq : Bx wx Bq x n) (hpq : Bp ≠ Bq) (hwq : w.heap.size ≤ Bq) (hb : Below w.heap.size w wx) :
    Code.wp Tryz.prog (dropSeq 7 (Tryz.f4.body.getD .skip)) (bodyPost Tryz.prog Tryz.f4 fun e w' => e = .returned (.bool true) ∧ Below w.heap.size w w') ⟨#[c0, .slice q l.length cap, .int .i64 n, .pointer (some ⟨Bp, 0, none⟩), c4, c5, c6, c7, c8, .int .i64 m, c10, .pointer (some ⟨Bq, 0, none⟩), c12, c13, c14, c15, c16, c17, c18, c19, c20, c21, c22, c23, c24, c25, c26, c27, c28, c29, c30, c31, c32, c33, c34, c35, c36, c37, c38, c39, c40, c41, c42, c43, c44, c45, c46, c47, c48, c49, c50, c51, c52, c53, c54, c55, c56, c57, c58, c59, c60, c61, c62, c63, c64, c65, c66, c67, c68, c69, c70, c71, c72, c73, c74, c75, c76, c77, c78, c79, c80, c81, c82, c83, c84, c85, c86, c87, c88, c89, c90, c91, c92, c93, c94, c95, c96, c97, c98, c99, c100, c101, c102, c103, c104, c105, c106, c107, c108, c109, c110, c111, c112, c113, c114, c115, c116, c117, c118, c119, c120, c121, c122, c123, c124, c125, c126, c127, c128, c129, c130, c131, c132, c133, c134, c135, c136, c137, c138, c139, c140, c141, c142, c143, c144, c145, c146, c147, c148, c149, c150, c151, c152, c153, c154, c155, c156, c157, c158, c159, c160, c161, c162, c163, c164, c165, c166, c167, c168, c169, c170, c171, c172, c173, c174, c175, c176, c177, c178, c179, c180, c181, c182, c183, c184, c185, c186, c187, c188, c189, c190, c191, c192, c193, c194, c195, c196, c197, c198, c199, c200, c201, c202, c203, c204, c205, c206, c207, c208, c209, c210, c211, c212, c213, c214, c215, c216, c217, c218, c219, c220, c221, c222, c223, c224, c225, c226, c227, c228, c229, c230, c231, c232, c233, c234, c235, c236, c237], []⟩ wx := by
  conv => arg 2; whnf
  have sl := sl0.step hb
  have pb0 := pb
  obtain ⟨p0, p1, p2⟩ := pb
  simp only at p1 p2
  conv => arg 4; dsimp only
  go_upto_region 11 with fail
  go_cut [14, 15] from 76 to 82 (fun v fe wy => ∃ (Bb : Nat) (bu bn : Int), v = .pointer (some ⟨Bb, 0, none⟩) ∧ Hid ((fe = .nilIface ∧ bn = n ∧ (bu, n) ∈ Bur.frs (a, z) l n) ∨ ∃ c, fe = errN c) ∧ Bb ≠ Bq ∧ Pb wy Bb (bu, bn) ∧ Below wx.heap.size wx wy)
  case first =>
    go_wp2_with fail
    refine (freeBest a z n q cap l wx ll sl hT).mono ?_
    rintro e w1 ⟨rfl, hb1⟩
    have hne : w1.heap.size ≠ Bq := by have := bq.lt; have := hb1.size; omega
    by_cases hf : Bur.bsF (a, z) l n = 0
    · obtain ⟨f1, f2⟩ := Bur.fits_best hG.out hf
      have E1 : Hid (ev (Bur.bsF (a, z) l n) = .nilIface) := by show _ = _; rw [hf]; rfl
      rw [E1.out]
      obtain ⟨s1, hs1⟩ : ∃ s1, (Bur.bsS (a, z) l n).1 = s1 := ⟨_, rfl⟩
      have hss : Bur.bsS (a, z) l n = (s1, n) := Prod.ext hs1 f2
      rw [hs1, f2]
      rw [hss] at f1
      have F1 : Hid _ := f1
      clear hf f1 f2 hs1 hss E1 p0 p1 p2 pb0 bq sl hT hG hm hx
      go_wp2_with fail
      go_meet
      case rel => exact ⟨w1.heap.size, s1, n, rfl, .inl ⟨rfl, rfl, F1.out⟩, hne, Pb.new w1 _ s1 n, below_al hb1 _⟩
    · have E1 : Hid (ev (Bur.bsF (a, z) l n) = errN (Bur.bsF (a, z) l n)) := ev_ne hf
      rw [E1.out]
      obtain ⟨s1, hs1⟩ : ∃ s1, (Bur.bsS (a, z) l n).1 = s1 := ⟨_, rfl⟩
      obtain ⟨s2, hs2⟩ : ∃ s2, (Bur.bsS (a, z) l n).2 = s2 := ⟨_, rfl⟩
      rw [hs1, hs2]
      clear hf E1 hG hm hx p0 p1 p2 pb0 bq sl hT hs1 hs2
      go_wp2_with fail
      go_meet
      case rel => exact ⟨w1.heap.size, s1, s2, rfl, .inr ⟨_, rfl⟩, hne, Pb.new w1 _ s1 s2, below_al hb1 _⟩
  case rest =>
  obtain ⟨Bb, bu, bn, rfl, hfe, hne, pbb, hb1⟩ := hcut
  refine ‹∀ (a : Act) (w : World), Code.wp _ _ _ a w → _› _ _ ?_
  exact ff4 ll hG hm hx hfe sl0 ⟨pb0.step hb1, bq.step hb1, pbb⟩ hpq hne hwq (below_via hb hb1)

set_option maxRecDepth 100000 in
set_option maxHeartbeats 8000000 in
theorem ff2 {l : List Bur.Sp} {q : Option Addr} {cap Bp : Nat} {a z n m : Int} {w wx : World} {c0 c4 c5 c6 c7 c8 c10 c11 c12 c13 c14 c15 c16 c17 c18 c19 c20 c21 c22 c23 c24 c25 c26 c27 c28 c29 c30 c31 c32 c33 c34 c35 c36 c37 c38 c39 c40 c41 c42 c43 c44 c45 c46 c47 c48 c49 c50 c51 c52 c53 c54 c55 c56 c57 c58 c59 c60 c61 c62 c63 c64 c65 c66 c67 c68 c69 c70 c71 c72 c73 c74 c75 c76 c77 c78 c79 c80 c81 c82 c83 c84 c85 c86 c87 c88 c89 c90 c91 c92 c93 c94 c95 c96 c97 c98 c99 c100 c101 c102 c103 c104 c105 c106 c107 c108 c109 c110 c111 c112 c113 c114 c115 c116 c117 c118 c119 c120 c121 c122 c123 c124 c125 c126 c127 c128 c129 c130 c131 c132 c133 c134 c135 c136 c137 c138 c139 c140 c141 c142 c143 c144 c145 c146 c147 c148 c149 c150 c151 c152 c153 c154 c155 c156 c157 c158 c159 c160 c161 c162 c163 c164 c165 c166 c167 c168 c169 c170 c171 c172 c173 c174 c175 c176 c177 c178 c179 c180 c181 c182 c183 c184 c185 c186 c187 c188 c189 c190 c191 c192 c193 c194 c195 c196 c197 c198 c199 c200 c201 c202 c203 c204 c205 c206 c207 c208 c209 c210 c211 c212 c213 c214 c215 c216 c217 c218 c219 c220 c221 c222 c223 c224 c225 c226 c227 c228 c229 c230 c231 c232 c233 c234 c235 c236 c237 : Value} (ll : l.length ≤ 9223372036854775807)
    (hG : Hid (Bur.gfF (a, z) l n = 0)) (hm : Hid (Bur.mnS (a, z) l n = m)) (sl0 : SpAt w q l) (hT : Tab wx) (het : ErrType wx) (pb : Pb wx Bp (a, z)) (hb : Below w.heap.size w wx) :
    Code.wp Tryz.prog (dropSeq 5 (Tryz.f4.body.getD .skip)) (bodyPost Tryz.prog Tryz.f4 fun e w' => e = .returned (.bool true) ∧ Below w.heap.size w w') ⟨#[c0, .slice q l.length cap, .int .i64 n, .pointer (some ⟨Bp, 0, none⟩), c4, c5, c6, c7, c8, .int .i64 m, c10, c11, c12, c13, c14, c15, c16, c17, c18, c19, c20, c21, c22, c23, c24, c25, c26, c27, c28, c29, c30, c31, c32, c33, c34, c35, c36, c37, c38, c39, c40, c41, c42, c43, c44, c45, c46, c47, c48, c49, c50, c51, c52, c53, c54, c55, c56, c57, c58, c59, c60, c61, c62, c63, c64, c65, c66, c67, c68, c69, c70, c71, c72, c73, c74, c75, c76, c77, c78, c79, c80, c81, c82, c83, c84, c85, c86, c87, c88, c89, c90, c91, c92, c93, c94, c95, c96, c97, c98, c99, c100, c101, c102, c103, c104, c105, c106, c107, c108, c109, c110, c111, c112, c113, c114, c115, c116, c117, c118, c119, c120, c121, c122, c123, c124, c125, c126, c127, c128, c129, c130, c131, c132, c133, c134, c135, c136, c137, c138, c139, c140, c141, c142, c143, c144, c145, c146, c147, c148, c149, c150, c151, c152, c153, c154, c155, c156, c157, c158, c159, c160, c161, c162, c163, c164, c165, c166, c167, c168, c169, c170, c171, c172, c173, c174, c175, c176, c177, c178, c179, c180, c181, c182, c183, c184, c185, c186, c187, c188, c189, c190, c191, c192, c193, c194, c195, c196, c197, c198, c199, c200, c201, c202, c203, c204, c205, c206, c207, c208, c209, c210, c211, c212, c213, c214, c215, c216, c217, c218, c219, c220, c221, c222, c223, c224, c225, c226, c227, c228, c229, c230, c231, c232, c233, c234, c235, c236, c237], []⟩ wx := by
  conv => arg 2; whnf
  have sl := sl0.step hb
  have pb0 := pb
  obtain ⟨p0, p1, p2⟩ := pb
  simp only at p1 p2
  go_wp2_with fail
  refine (freeFirst a z n q cap l wx ll sl).mono ?_
  rintro e w1 ⟨rfl, hb1⟩
  by_cases hf : Bur.fsF (a, z) l n = 0
  · obtain ⟨f1, f2, f3⟩ := Bur.fits_first hG.out hf
    have E1 : Hid (ev (Bur.fsF (a, z) l n) = .nilIface) := by show _ = _; rw [hf]; rfl
    rw [E1.out]
    obtain ⟨x, hx1⟩ : ∃ x, (Bur.fsS (a, z) l n).1 = x := ⟨_, rfl⟩
    have hxx : Bur.fsS (a, z) l n = (x, n) := Prod.ext hx1 f3
    rw [hx1, f3]
    rw [hxx] at f1 f2
    have H : Hid ((x, n) ∈ Bur.frs (a, z) l n ∧ ∀ s ∈ Bur.frs (a, z) l n, x ≤ s.1) := ⟨f1, f2⟩
    have bq : Bx (w1.alloc (.cells #[.int .i64 x, .int .i64 n] 23)) w1.heap.size x n := Bx.new w1 _ x n
    have hb2 := below_al hb1 (.cells #[.int .i64 x, .int .i64 n] 23)
    have hpq : Bp ≠ w1.heap.size := by have := pb0.1; have := hb1.size; omega
    have hwq : w.heap.size ≤ w1.heap.size := Nat.le_trans hb.size hb1.size
    have pb2 := pb0.step hb2
    have hT2 := hT.step hb2 hT.lt
    have hb3 := below_via hb hb2
    clear hf f1 f2 f3 hx1 hxx E1 p0 p1 p2 pb0 sl hT het hb1 hb2
    go_upto_if 68 with fail
    obtain ⟨Bq, hBq⟩ : ∃ Bq, w1.heap.size = Bq := ⟨_, rfl⟩
    obtain ⟨W, hW⟩ : ∃ W, w1.alloc (.cells #[.int .i64 x, .int .i64 n] 23) = W := ⟨_, rfl⟩
    rw [hBq] at bq hpq hwq ⊢
    rw [hW] at bq pb2 hT2 hb3 ⊢
    clear hBq hW
    go_cut [6, 13] from 69 to 75 (fun _ _ wy => wy = W)
    case first =>
      go_wp2_with fail
      go_meet
      case rel => exact rfl
    case rest =>
    subst hcut
    refine ‹∀ (a : Act) (w : World), Code.wp _ _ _ a w → _› _ _ ?_
    exact ff3 ll hG hm H sl0 hT2 pb2 bq hpq hwq hb3
  · obtain ⟨f1, f2⟩ := Bur.fits_none hG.out hf
    have E1 : Hid (ev (Bur.fsF (a, z) l n) = errN 4) := by show _ = _; rw [f1]; rfl
    have hm0 : m = 0 := by rw [← hm.out, f2]
    rw [E1.out]
    obtain ⟨x, hx1⟩ : ∃ x, (Bur.fsS (a, z) l n).1 = x := ⟨_, rfl⟩
    obtain ⟨y, hy1⟩ : ∃ y, (Bur.fsS (a, z) l n).2 = y := ⟨_, rfl⟩
    rw [hx1, hy1]
    subst hm0
    have het2 := etStep (etStep het hb1) (below_al (below_self w1) (.cells #[.int .i64 x, .int .i64 y] 23))
    have hb3 := below_via hb (below_al hb1 (.cells #[.int .i64 x, .int .i64 y] 23))
    clear hf f1 f2 hx1 hy1 E1 p0 p1 p2 pb0 sl hT het hb1 hG hm
    go_wp2_with fail
    refine (error_hit 4 4 _ het2).mono ?_
    rintro e w2 ⟨rfl, hb4⟩
    have hb5 := below_via hb3 hb4
    clear hb3 hb4 het2
    go_wp2_with fail
    go_ret
    exact ⟨rfl, hb5⟩

set_option maxRecDepth 100000 in
set_option maxHeartbeats 8000000 in
theorem ff1 {l : List Bur.Sp} {q : Option Addr} {cap Bp : Nat} {a z n : Int} {w wx : World} {c0 c4 c5 c6 c7 c8 c9 c10 c11 c12 c13 c14 c15 c16 c17 c18 c19 c20 c21 c22 c23 c24 c25 c26 c27 c28 c29 c30 c31 c32 c33 c34 c35 c36 c37 c38 c39 c40 c41 c42 c43 c44 c45 c46 c47 c48 c49 c50 c51 c52 c53 c54 c55 c56 c57 c58 c59 c60 c61 c62 c63 c64 c65 c66 c67 c68 c69 c70 c71 c72 c73 c74 c75 c76 c77 c78 c79 c80 c81 c82 c83 c84 c85 c86 c87 c88 c89 c90 c91 c92 c93 c94 c95 c96 c97 c98 c99 c100 c101 c102 c103 c104 c105 c106 c107 c108 c109 c110 c111 c112 c113 c114 c115 c116 c117 c118 c119 c120 c121 c122 c123 c124 c125 c126 c127 c128 c129 c130 c131 c132 c133 c134 c135 c136 c137 c138 c139 c140 c141 c142 c143 c144 c145 c146 c147 c148 c149 c150 c151 c152 c153 c154 c155 c156 c157 c158 c159 c160 c161 c162 c163 c164 c165 c166 c167 c168 c169 c170 c171 c172 c173 c174 c175 c176 c177 c178 c179 c180 c181 c182 c183 c184 c185 c186 c187 c188 c189 c190 c191 c192 c193 c194 c195 c196 c197 c198 c199 c200 c201 c202 c203 c204 c205 c206 c207 c208 c209 c210 c211 c212 c213 c214 c215 c216 c217 c218 c219 c220 c221 c222 c223 c224 c225 c226 c227 c228 c229 c230 c231 c232 c233 c234 c235 c236 c237 : Value} (ll : l.length ≤ 9223372036854775807)
    (sl0 : SpAt w q l) (hT : Tab wx) (het : ErrType wx) (pb : Pb wx Bp (a, z)) (hb : Below w.heap.size w wx) :
    Code.wp Tryz.prog (dropSeq 3 (Tryz.f4.body.getD .skip)) (bodyPost Tryz.prog Tryz.f4 fun e w' => e = .returned (.bool true) ∧ Below w.heap.size w w') ⟨#[c0, .slice q l.length cap, .int .i64 n, .pointer (some ⟨Bp, 0, none⟩), c4, c5, c6, c7, c8, c9, c10, c11, c12, c13, c14, c15, c16, c17, c18, c19, c20, c21, c22, c23, c24, c25, c26, c27, c28, c29, c30, c31, c32, c33, c34, c35, c36, c37, c38, c39, c40, c41, c42, c43, c44, c45, c46, c47, c48, c49, c50, c51, c52, c53, c54, c55, c56, c57, c58, c59, c60, c61, c62, c63, c64, c65, c66, c67, c68, c69, c70, c71, c72, c73, c74, c75, c76, c77, c78, c79, c80, c81, c82, c83, c84, c85, c86, c87, c88, c89, c90, c91, c92, c93, c94, c95, c96, c97, c98, c99, c100, c101, c102, c103, c104, c105, c106, c107, c108, c109, c110, c111, c112, c113, c114, c115, c116, c117, c118, c119, c120, c121, c122, c123, c124, c125, c126, c127, c128, c129, c130, c131, c132, c133, c134, c135, c136, c137, c138, c139, c140, c141, c142, c143, c144, c145, c146, c147, c148, c149, c150, c151, c152, c153, c154, c155, c156, c157, c158, c159, c160, c161, c162, c163, c164, c165, c166, c167, c168, c169, c170, c171, c172, c173, c174, c175, c176, c177, c178, c179, c180, c181, c182, c183, c184, c185, c186, c187, c188, c189, c190, c191, c192, c193, c194, c195, c196, c197, c198, c199, c200, c201, c202, c203, c204, c205, c206, c207, c208, c209, c210, c211, c212, c213, c214, c215, c216, c217, c218, c219, c220, c221, c222, c223, c224, c225, c226, c227, c228, c229, c230, c231, c232, c233, c234, c235, c236, c237], []⟩ wx := by
  conv => arg 2; whnf
  have sl := sl0.step hb
  have pb0 := pb
  obtain ⟨p0, p1, p2⟩ := pb
  simp only at p1 p2
  go_wp2_with fail
  refine (freeMany a z n q cap l wx ll sl).mono ?_
  rintro e w1 ⟨rfl, hb1⟩
  by_cases hf : Bur.gfF (a, z) l n = 0
  · have E1 : Hid (ev (Bur.gfF (a, z) l n) = .nilIface) := by show _ = _; rw [hf]; rfl
    have hG : Hid _ := hf
    rw [E1.out]
    obtain ⟨m, hm1⟩ : ∃ m, Bur.mnS (a, z) l n = m := ⟨_, rfl⟩
    have hm : Hid _ := hm1
    rw [hm1]
    have pb2 := pb0.step hb1
    have hT2 := hT.step hb1 hT.lt
    have het2 := etStep het hb1
    have hb3 := below_via hb hb1
    clear hf E1 p0 p1 p2 pb0 sl hT het hb1 hm1
    go_upto_if 59 with fail
    go_cut [6] (fun _ wy => wy = w1)
    case first =>
      go_wp2_with fail
      go_meet
      case rel => exact rfl
    case rest =>
    subst hcut
    refine ‹∀ (a : Act) (w : World), Code.wp _ _ _ a w → _› _ _ ?_
    exact ff2 ll hG hm sl0 hT2 het2 pb2 hb3
  · have E1 : Hid (ev (Bur.gfF (a, z) l n) = errN (Bur.gfF (a, z) l n)) := ev_ne hf
    rw [E1.out]
    have hb3 := below_via hb hb1
    clear hf E1 p0 p1 p2 pb0 sl hT het hb1
    go_wp2_with fail
    go_ret
    exact ⟨rfl, hb3⟩

/-- The fact that the law begins with. -/
theorem fact_first (b : Nat) (w : World) (h : b < w.heap.size) (c0 : w.cell? ⟨b, 0, none⟩ = some (.int .i64 0)) (c1 : w.cell? ⟨b, 1, none⟩ = some (.int .i64 32)) :
    Calls Tryz.prog 16 #[pfx 0 30, .slice (some ⟨b, 0, none⟩) 1 1, .int .i64 31] w fun e w' => e = .returned (.tuple #[pfx 2 31, .nilIface]) ∧ Below w.heap.size w w' := by
  have hs : SpAt w (some ⟨b, 0, none⟩) [(0, 32)] := fun _ => ⟨b, 0, rfl, h, fun i hi => by
    match i, hi with
    | 0, _ => exact ⟨c0, c1⟩⟩
  refine (freeFirst 0 30 31 (some ⟨b, 0, none⟩) 1 [(0, 32)] w (by decide) hs).mono ?_
  rintro e w' ⟨rfl, hb⟩
  refine ⟨?_, hb⟩
  rw [Bur.factF.1, Bur.factF.2, ev_0]

set_option maxRecDepth 100000 in
set_option maxHeartbeats 8000000 in
theorem law_fits (a z n : Int) (l : List Bur.Sp) (q : Option Addr) (cap : Nat) (w : World) (ll : l.length ≤ 9223372036854775807) (sl : SpAt w q l) (hT : Tab w) (het : ErrType w) :
    Calls Tryz.prog 4 #[pfx a z, .slice q l.length cap, .int .i64 n] w fun e w' => e = .returned (.bool true) ∧ Below w.heap.size w w' := by
  have pb : Pb (w.alloc (.cells #[.int .i64 a, .int .i64 z] 23)) w.heap.size (a, z) := Pb.new w 23 a z
  have hb0 : Below w.heap.size w (w.alloc (.cells #[.int .i64 a, .int .i64 z] 23)) := below_al (below_self _) _
  go_enter Tryz.func4, Tryz.ntmps4
  go_wp2_with fail
  refine (fact_first (w.heap.size + 1) _ (by simp) (by go_simp) (by go_simp)).mono ?_
  rintro e w1 ⟨rfl, hb1⟩
  have bA := below_al (below_self w1) (.cells #[.int .i64 2, .int .i64 31] 23)
  replace pb := ((pb.step (below_al (below_self _) _)).step hb1).step bA
  have hb2 := below_via (below_via (below_al hb0 _) hb1) bA
  have hT2 := hT.step hb2 hT.lt
  have het2 := etStep het hb2
  have x0 : (w1.alloc (.cells #[.int .i64 2, .int .i64 31] 23)).cell? ⟨w1.heap.size, 0, none⟩ = some (.int .i64 2) := by simp
  clear hb0 hb1 hT het bA
  have n1 : ((2 : Int) != 2) = false := by decide
  go_upto_if 50 with fail
  obtain ⟨Bp, hBp⟩ : ∃ Bp, w.heap.size = Bp := ⟨_, rfl⟩
  rw [hBp] at pb ⊢
  obtain ⟨Bf, hBf⟩ : ∃ Bf, w1.heap.size = Bf := ⟨_, rfl⟩
  obtain ⟨W, hW⟩ : ∃ W, w1.alloc (.cells #[.int .i64 2, .int .i64 31] 23) = W := ⟨_, rfl⟩
  rw [hBf] at x0 ⊢
  rw [hW] at x0 pb hb2 hT2 het2 ⊢
  clear hBf hW
  go_cut [6] (fun _ wy => wy = W)
  case first =>
    go_wp2_with fail
    go_meet
    case rel => exact rfl
  case rest =>
  subst hcut
  refine ‹∀ (a : Act) (w : World), Code.wp _ _ _ a w → _› _ _ ?_
  rw [← hBp]
  rw [← hBp] at pb
  exact ff1 ll sl hT2 het2 pb hb2
end Go.Proofs.YtfhidiedmenliaaGreatDoor
