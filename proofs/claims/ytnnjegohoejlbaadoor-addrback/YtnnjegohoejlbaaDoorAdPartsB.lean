/- The walk of the law AddrParts, in pieces. -/
import Derived.Test.YtnnjegohoejlbaaDoorAdUni
import Derived.Deep.DeepCutAuto
namespace Go.Proofs.YtnnjegohoejlbaaDoor
open Go.RowKit

/-- What is left of a body behind its first statements. -/
def dropSeq : Nat → Code → Code
  | 0, c => c
  | n + 1, .seq _ b => dropSeq n b
  | _ + 1, c => c

set_option maxRecDepth 100000 in
set_option maxHeartbeats 4000000 in
theorem parts7 {pa pl qa ql a b : Int} {w wx : World} {M : Nat} {x y : Int} {c6 c7 c8 c9 c10 c11 c12 c13 c14 c15 c16 c18 c19 c20 c21 c22 c23 c24 c25 c26 c27 c28 c29 c30 c31 c32 c33 c34 c35 c36 c37 c38 c39 c40 c41 c42 c43 c44 c45 c46 c47 c48 c49 c50 c51 c52 c53 c54 c55 c56 c57 c58 c59 c60 c61 c62 c63 c64 c65 c66 c67 c68 c69 c70 c71 c72 c73 c74 c75 c76 c77 c78 c79 c80 c81 c82 c83 c84 c85 c86 c87 c88 c89 c90 c91 c92 c93 c94 c95 c96 c97 c98 c99 c100 c101 c102 c103 c104 c105 c106 c107 c108 c109 c110 c111 c112 c113 c114 c115 c116 c117 c118 c119 c120 c121 c122 c123 c124 c125 c126 c127 c128 c129 c130 c131 c132 c133 c134 c135 c136 c137 c138 c139 c140 c141 c142 c143 c144 c145 c146 c147 c148 c149 c150 c151 c152 c153 c154 c155 c156 c157 c158 c159 c160 c161 c162 c163 c164 c165 c166 c167 c168 c169 c170 c171 c172 c173 c174 c175 c176 c177 c178 c179 c180 c181 c182 c183 c184 c185 c186 c187 c188 c189 c190 c191 c192 c193 c194 c195 c196 c197 c198 c199 c200 c201 c202 c203 c204 c205 c206 c207 c208 c209 c210 c211 c212 c213 c214 c215 c216 c217 c218 c219 c220 c221 c222 c223 c224 c225 : Value} (hp : PQ pa pl qa ql w wx) (hM : w.heap.size + 2 ≤ M) (cM : Pf wx M x y) :
    Code.wp Tryd.prog (dropSeq 24 (Tryd.f4.body.getD .skip)) (bodyPost Tryd.prog Tryd.f4 fun e w' => e = .returned (.bool true) ∧ Below w.heap.size w w') ⟨#[pfx pa pl, pfx qa ql, .int .i64 a, .int .i64 b, .pointer (some ⟨w.heap.size, 0, none⟩), .pointer (some ⟨w.heap.size + 1, 0, none⟩), c6, c7, c8, c9, c10, c11, c12, c13, c14, c15, c16, .pointer (some ⟨M, 0, none⟩), c18, c19, c20, c21, c22, c23, c24, c25, c26, c27, c28, c29, c30, c31, c32, c33, c34, c35, c36, c37, c38, c39, c40, c41, c42, c43, c44, c45, c46, c47, c48, c49, c50, c51, c52, c53, c54, c55, c56, c57, c58, c59, c60, c61, c62, c63, c64, c65, c66, c67, c68, c69, c70, c71, c72, c73, c74, c75, c76, c77, c78, c79, c80, c81, c82, c83, c84, c85, c86, c87, c88, c89, c90, c91, c92, c93, c94, c95, c96, c97, c98, c99, c100, c101, c102, c103, c104, c105, c106, c107, c108, c109, c110, c111, c112, c113, c114, c115, c116, c117, c118, c119, c120, c121, c122, c123, c124, c125, c126, c127, c128, c129, c130, c131, c132, c133, c134, c135, c136, c137, c138, c139, c140, c141, c142, c143, c144, c145, c146, c147, c148, c149, c150, c151, c152, c153, c154, c155, c156, c157, c158, c159, c160, c161, c162, c163, c164, c165, c166, c167, c168, c169, c170, c171, c172, c173, c174, c175, c176, c177, c178, c179, c180, c181, c182, c183, c184, c185, c186, c187, c188, c189, c190, c191, c192, c193, c194, c195, c196, c197, c198, c199, c200, c201, c202, c203, c204, c205, c206, c207, c208, c209, c210, c211, c212, c213, c214, c215, c216, c217, c218, c219, c220, c221, c222, c223, c224, c225], []⟩ wx := by
  conv => arg 2; whnf
  go_upto_region 38 with (first | (go_at_call 9; refine (refIsAddr _ _).mono ?_; rintro e wx ⟨rfl, rfl⟩))
  obtain ⟨V, hVe⟩ : ∃ V, Hid (wx.heap.size = V) := ⟨_, rfl⟩
  have hMV : M < V := by have := cM.lt; have := hVe.out; omega
  have hV : w.heap.size + 2 ≤ V := by have := hp.sz; have := hVe.out; omega
  go_cut [23, 198] (fun _ s wy => s = .bool (Bur.bAB a b) ∧ wy = wx.alloc (pcs 0 0))
  case first =>
    cases h1 : Bur.isA a
    · go_wp2_with fail
      go_meet
      case rel => exact ⟨by simp [Bur.bAB, h1], rfl⟩
    · go_wp2_with fail
      go_meet
      case rel => exact ⟨by simp [Bur.bAB, h1], rfl⟩
  case rest =>
  obtain ⟨rfl, rfl⟩ := hcut
  go_upto_if 198 with fail
  rw [hVe.out]
  go_cut [9, 24] (fun s _ wy => s = .int .i64 (Bur.botF a b) ∧ PQ pa pl qa ql w wy ∧ Pf wy M x y ∧ Pf wy V (Bur.botA a b) (Bur.botL a b))
  case first =>
    cases h1 : Bur.bAB a b
    · have hno : ¬ (Bur.isA a = true ∧ Bur.isA b = true) := by intro h; simp [Bur.bAB, h.1, h.2] at h1
      have E : Hid (Bur.botF a b = 1) := if_neg hno
      have E1 : Hid (Bur.botA a b = 0) := by show Bur.botA a b = 0; unfold Bur.botA; rw [E.out]; rfl
      have E2 : Hid (Bur.botL a b = 0) := by show Bur.botL a b = 0; unfold Bur.botL; rw [E.out]; rfl
      clear hno
      go_wp2_with fail
      go_meet
      case rel =>
        rw [E.out, E1.out, E2.out]
        exact ⟨rfl, hp.alloc _, cM.alloc _, by rw [← hVe.out]; exact Pf.new wx 0 0⟩
    · have hyes : Bur.isA a = true ∧ Bur.isA b = true := by simpa [Bur.bAB] using h1
      have E : Hid (Bur.botF a b = 0) := if_pos hyes
      have E1 : Hid (Bur.botA a b = a - a % Bur.sz (32 - Bur.bl a b)) := if_pos E.out
      have E2 : Hid (Bur.botL a b = 32 - Bur.bl a b) := if_pos E.out
      obtain ⟨ha, hb⟩ := hyes
      go_wp2_with fail
      refine (bothOf _ _ _ ha hb).mono ?_; rintro e wy ⟨rfl, hby⟩
      have cV := (Pf.new wx 0 0).step hby
      rw [hVe.out] at cV
      replace cM := (cM.alloc _).step hby
      replace hp := (hp.alloc _).step hby
      clear hby
      have ⟨v0, v1, v2, v3, v4⟩ := cV
      go_wp2_with fail
      go_meet
      case rel =>
        rw [E.out, E1.out, E2.out]
        refine ⟨rfl, (hp.set (p := ⟨V, 0, none⟩) hV _).set (p := ⟨V, 1, none⟩) hV _, (cM.set (p := ⟨V, 0, none⟩) (by simp; omega) _).set (p := ⟨V, 1, none⟩) (by simp; omega) _, ⟨by go_simp, by go_simp, by go_simp, by go_simp, by simpa [World.setCell] using v4⟩⟩
  case rest =>
  clear hp cM hVe
  obtain ⟨rfl, hp, cM, cV⟩ := hcut
  go_wp2_with fail
  refine (both_any _ _ _).mono ?_; rintro e w8 ⟨rfl, hb⟩
  replace hp := hp.step hb
  replace cM := cM.step hb
  replace cV := cV.step hb
  clear hb
  have ⟨k0, k1, k2, k3, k4⟩ := cM
  go_wp2_with fail
  have hp' := (hp.set (p := ⟨M, 0, none⟩) hM (.int .i64 (Bur.botA a b))).set (p := ⟨M, 1, none⟩) hM (.int .i64 (Bur.botL a b))
  refine (error_any _ _ _ hp'.et).mono ?_; rintro e w9 ⟨rfl, hb⟩
  have cM' : Pf ((w8.setCell ⟨M, 0, none⟩ (.int .i64 (Bur.botA a b))).setCell ⟨M, 1, none⟩ (.int .i64 (Bur.botL a b))) M (Bur.botA a b) (Bur.botL a b) := ⟨by go_simp, by go_simp, by go_simp, by go_simp, by simpa [World.setCell] using k4⟩
  have cV' := (cV.set (p := ⟨M, 0, none⟩) (by simp; omega) (.int .i64 (Bur.botA a b))).set (p := ⟨M, 1, none⟩) (by simp; omega) (.int .i64 (Bur.botL a b))
  replace hp' := hp'.step hb
  replace cM' := cM'.step hb
  replace cV' := cV'.step hb
  clear hb hp cM cV k0 k1 k2 k3 k4
  have ⟨k0, k1, _, _, _⟩ := cM'
  have ⟨m0, m1, _, _, _⟩ := cV'
  go_wp2
  go_ret
  exact ⟨rfl, hp'.bw⟩

set_option maxRecDepth 100000 in
set_option maxHeartbeats 4000000 in
theorem parts6 {pa pl qa ql a b : Int} {w wx : World} {M : Nat} {x y : Int} {c6 c7 c8 c10 c11 c12 c13 c14 c15 c16 c18 c19 c20 c21 c22 c23 c24 c25 c26 c27 c28 c29 c30 c31 c32 c33 c34 c35 c36 c37 c38 c39 c40 c41 c42 c43 c44 c45 c46 c47 c48 c49 c50 c51 c52 c53 c54 c55 c56 c57 c58 c59 c60 c61 c62 c63 c64 c65 c66 c67 c68 c69 c70 c71 c72 c73 c74 c75 c76 c77 c78 c79 c80 c81 c82 c83 c84 c85 c86 c87 c88 c89 c90 c91 c92 c93 c94 c95 c96 c97 c98 c99 c100 c101 c102 c103 c104 c105 c106 c107 c108 c109 c110 c111 c112 c113 c114 c115 c116 c117 c118 c119 c120 c121 c122 c123 c124 c125 c126 c127 c128 c129 c130 c131 c132 c133 c134 c135 c136 c137 c138 c139 c140 c141 c142 c143 c144 c145 c146 c147 c148 c149 c150 c151 c152 c153 c154 c155 c156 c157 c158 c159 c160 c161 c162 c163 c164 c165 c166 c167 c168 c169 c170 c171 c172 c173 c174 c175 c176 c177 c178 c179 c180 c181 c182 c183 c184 c185 c186 c187 c188 c189 c190 c191 c192 c193 c194 c195 c196 c197 c198 c199 c200 c201 c202 c203 c204 c205 c206 c207 c208 c209 c210 c211 c212 c213 c214 c215 c216 c217 c218 c219 c220 c221 c222 c223 c224 c225 : Value} (hp : PQ pa pl qa ql w wx) (hM : w.heap.size + 2 ≤ M) (cM : Pf wx M x y) :
    Code.wp Tryd.prog (dropSeq 20 (Tryd.f4.body.getD .skip)) (bodyPost Tryd.prog Tryd.f4 fun e w' => e = .returned (.bool true) ∧ Below w.heap.size w w') ⟨#[pfx pa pl, pfx qa ql, .int .i64 a, .int .i64 b, .pointer (some ⟨w.heap.size, 0, none⟩), .pointer (some ⟨w.heap.size + 1, 0, none⟩), c6, c7, c8, .int .i64 (Bur.fault pa pl), c10, c11, c12, c13, c14, c15, c16, .pointer (some ⟨M, 0, none⟩), c18, c19, c20, c21, c22, c23, c24, c25, c26, c27, c28, c29, c30, c31, c32, c33, c34, c35, c36, c37, c38, c39, c40, c41, c42, c43, c44, c45, c46, c47, c48, c49, c50, c51, c52, c53, c54, c55, c56, c57, c58, c59, c60, c61, c62, c63, c64, c65, c66, c67, c68, c69, c70, c71, c72, c73, c74, c75, c76, c77, c78, c79, c80, c81, c82, c83, c84, c85, c86, c87, c88, c89, c90, c91, c92, c93, c94, c95, c96, c97, c98, c99, c100, c101, c102, c103, c104, c105, c106, c107, c108, c109, c110, c111, c112, c113, c114, c115, c116, c117, c118, c119, c120, c121, c122, c123, c124, c125, c126, c127, c128, c129, c130, c131, c132, c133, c134, c135, c136, c137, c138, c139, c140, c141, c142, c143, c144, c145, c146, c147, c148, c149, c150, c151, c152, c153, c154, c155, c156, c157, c158, c159, c160, c161, c162, c163, c164, c165, c166, c167, c168, c169, c170, c171, c172, c173, c174, c175, c176, c177, c178, c179, c180, c181, c182, c183, c184, c185, c186, c187, c188, c189, c190, c191, c192, c193, c194, c195, c196, c197, c198, c199, c200, c201, c202, c203, c204, c205, c206, c207, c208, c209, c210, c211, c212, c213, c214, c215, c216, c217, c218, c219, c220, c221, c222, c223, c224, c225], []⟩ wx := by
  conv => arg 2; whnf
  have ⟨p0, p1, q0, q1, _, _, _, _⟩ := hp
  go_upto_if 166 with fail
  go_cut [9] (fun s wy => s = .int .i64 (Bur.witF pa pl qa ql) ∧ PQ pa pl qa ql w wy ∧ Pf wy M x y)
  case first =>
    by_cases hf : Bur.fault pa pl = 0
    · have b1 : (Bur.fault pa pl == 0) = true := by simp [hf]
      have E : Hid (Bur.witF pa pl qa ql = Bur.fault qa ql) := if_pos hf
      clear hf
      rw [b1]
      go_wp2_with fail
      refine (refFault _ _ _).mono ?_; rintro e wy ⟨rfl, hb⟩
      go_wp2_with fail
      go_meet
      case rel => exact ⟨by rw [E.out], hp.step hb, cM.step hb⟩
    · have b1 : (Bur.fault pa pl == 0) = false := by simp [hf]
      have E : Hid (Bur.witF pa pl qa ql = Bur.fault pa pl) := if_neg hf
      clear hf
      rw [b1]
      go_wp2_with fail
      go_meet
      case rel => exact ⟨by rw [E.out], hp, cM⟩
  case rest =>
  clear p0 p1 q0 q1 hp cM
  obtain ⟨rfl, hp, cM⟩ := hcut
  have ⟨p0, p1, q0, q1, _, _, _, _⟩ := hp
  go_wp2_with fail
  refine (within_any _ _ _ _ _).mono ?_; rintro e w10 ⟨rfl, hb⟩
  replace hp := hp.step hb
  replace cM := cM.step hb
  clear hb p0 p1 q0 q1
  go_wp2_with fail
  refine (error_any _ _ _ hp.et).mono ?_; rintro e w11 ⟨rfl, hb⟩
  replace hp := hp.step hb
  replace cM := cM.step hb
  clear hb
  have ⟨p0, p1, q0, q1, _, _, _, _⟩ := hp
  go_upto_region 32 with fail
  go_cut [21, 190] (fun _ s wy => s = .bool false ∧ PQ pa pl qa ql w wy ∧ Pf wy M x y)
  case first =>
    by_cases hf : Bur.witF pa pl qa ql = 0
    · have b1 : (Bur.witF pa pl qa ql == 0) = true := by simp [hf]
      have hf1 : Bur.fault pa pl = 0 := by
        apply Classical.byContradiction; intro h; unfold Bur.witF at hf; rw [if_neg h] at hf; exact h hf
      have hf2 : Bur.fault qa ql = 0 := by unfold Bur.witF at hf; rwa [if_pos hf1] at hf
      have e1 : Bur.witB pa pl qa ql = Bur.inB pa pl qa ql := by simp [Bur.witB, hf]
      obtain ⟨l0, l1, a0, a1, _⟩ := Bur.fault_ok hf1
      obtain ⟨l2, l3, a2, a3, _⟩ := Bur.fault_ok hf2
      have ha := Bur.isA_mk a0 a1
      have hb := Bur.isA_mk a2 a3
      clear hf hf1 hf2
      go_wp2_with (go_at_call 25; refine (refIn _ _ _ _ _ l0 l1 ha l2 l3 hb).mono ?_; rintro e wy ⟨rfl, hby⟩)
      go_meet
      case rel => exact ⟨rfl, hp.step hby, cM.step hby⟩
    · have b1 : (Bur.witF pa pl qa ql == 0) = false := by simp [hf]
      have e1 : Bur.witB pa pl qa ql = false := by simp [Bur.witB, hf]
      clear hf
      go_wp2_with fail
      go_meet
      case rel => exact ⟨rfl, hp, cM⟩
  case rest =>
  clear p0 p1 q0 q1 hp cM
  obtain ⟨rfl, hp, cM⟩ := hcut
  go_upto_if 190 with fail
  go_cut [] (fun wy => PQ pa pl qa ql w wy ∧ Pf wy M x y)
  case first =>
    go_wp2_with fail
    go_meet
    case rel => exact ⟨hp, cM⟩
  case rest =>
  refine ‹∀ (a : Act) (w : World), Code.wp _ _ _ a w → _› _ _ ?_
  exact parts7 hcut.1 hM hcut.2

end Go.Proofs.YtnnjegohoejlbaaDoor
