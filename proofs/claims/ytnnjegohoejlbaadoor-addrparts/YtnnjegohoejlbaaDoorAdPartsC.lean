/- The walk of the law AddrParts, its middle pieces. -/
import Derived.Test.YtnnjegohoejlbaaDoorAdPartsB
namespace Go.Proofs.YtnnjegohoejlbaaDoor
open Go.RowKit

set_option maxRecDepth 100000 in
set_option maxHeartbeats 4000000 in
theorem parts5 {pa pl qa ql a b : Int} {w wx : World} {M U : Nat} {x y : Int} {c6 c7 c8 c10 c11 c12 c13 c15 c16 c18 c19 c21 c22 c23 c24 c25 c26 c27 c28 c29 c30 c31 c32 c33 c34 c35 c36 c37 c38 c39 c40 c41 c42 c43 c44 c45 c46 c47 c48 c49 c50 c51 c52 c53 c54 c55 c56 c57 c58 c59 c60 c61 c62 c63 c64 c65 c66 c67 c68 c69 c70 c71 c72 c73 c74 c75 c76 c77 c78 c79 c80 c81 c82 c83 c84 c85 c86 c87 c88 c89 c90 c91 c92 c93 c94 c95 c96 c97 c98 c99 c100 c101 c102 c103 c104 c105 c106 c107 c108 c109 c110 c111 c112 c113 c114 c115 c116 c117 c118 c119 c120 c121 c122 c123 c124 c125 c126 c127 c128 c129 c130 c131 c132 c133 c134 c135 c136 c137 c138 c139 c140 c141 c142 c143 c144 c145 c146 c147 c148 c149 c150 c151 c152 c153 c154 c155 c156 c157 c158 c159 c160 c161 c162 c163 c164 c165 c166 c167 c168 c169 c170 c171 c172 c173 c174 c175 c176 c177 c178 c179 c180 c181 c182 c183 c184 c185 c186 c187 c188 c189 c190 c191 c192 c193 c194 c195 c196 c197 c198 c199 c200 c201 c202 c203 c204 c205 c206 c207 c208 c209 c210 c211 c212 c213 c214 c215 c216 c217 c218 c219 c220 c221 c222 c223 c224 c225 : Value} (hp : PQ pa pl qa ql w wx) (hM : w.heap.size + 2 ≤ M) (hMU : M < U) (cM : Pf wx M x y) (cU : Pf wx U (Bur.upA pa pl) (Bur.upL pa pl)) :
    Code.wp Tryd.prog (dropSeq 17 (Tryd.f4.body.getD .skip)) (bodyPost Tryd.prog Tryd.f4 fun e w' => e = .returned (.bool true) ∧ Below w.heap.size w w') ⟨#[pfx pa pl, pfx qa ql, .int .i64 a, .int .i64 b, .pointer (some ⟨w.heap.size, 0, none⟩), .pointer (some ⟨w.heap.size + 1, 0, none⟩), c6, c7, c8, .int .i64 (Bur.fault pa pl), c10, c11, c12, c13, .int .i64 (Bur.upF pa pl), c15, c16, .pointer (some ⟨M, 0, none⟩), c18, c19, .pointer (some ⟨U, 0, none⟩), c21, c22, c23, c24, c25, c26, c27, c28, c29, c30, c31, c32, c33, c34, c35, c36, c37, c38, c39, c40, c41, c42, c43, c44, c45, c46, c47, c48, c49, c50, c51, c52, c53, c54, c55, c56, c57, c58, c59, c60, c61, c62, c63, c64, c65, c66, c67, c68, c69, c70, c71, c72, c73, c74, c75, c76, c77, c78, c79, c80, c81, c82, c83, c84, c85, c86, c87, c88, c89, c90, c91, c92, c93, c94, c95, c96, c97, c98, c99, c100, c101, c102, c103, c104, c105, c106, c107, c108, c109, c110, c111, c112, c113, c114, c115, c116, c117, c118, c119, c120, c121, c122, c123, c124, c125, c126, c127, c128, c129, c130, c131, c132, c133, c134, c135, c136, c137, c138, c139, c140, c141, c142, c143, c144, c145, c146, c147, c148, c149, c150, c151, c152, c153, c154, c155, c156, c157, c158, c159, c160, c161, c162, c163, c164, c165, c166, c167, c168, c169, c170, c171, c172, c173, c174, c175, c176, c177, c178, c179, c180, c181, c182, c183, c184, c185, c186, c187, c188, c189, c190, c191, c192, c193, c194, c195, c196, c197, c198, c199, c200, c201, c202, c203, c204, c205, c206, c207, c208, c209, c210, c211, c212, c213, c214, c215, c216, c217, c218, c219, c220, c221, c222, c223, c224, c225], []⟩ wx := by
  conv => arg 2; whnf
  have ⟨p0, p1, _, _, _, hz, _, _⟩ := hp
  go_wp2_with fail
  refine (up_any _ _ _).mono ?_; rintro e w8 ⟨rfl, hb⟩
  replace hp := hp.step hb
  replace cM := cM.step hb
  replace cU := cU.step hb
  clear hb p0 p1 hz
  have ⟨k0, k1, k2, k3, k4⟩ := cM
  go_wp2_with fail
  have hp' := (hp.set (p := ⟨M, 0, none⟩) hM (.int .i64 (Bur.upA pa pl))).set (p := ⟨M, 1, none⟩) hM (.int .i64 (Bur.upL pa pl))
  refine (error_any _ _ _ hp'.et).mono ?_; rintro e w9 ⟨rfl, hb⟩
  have cM' : Pf ((w8.setCell ⟨M, 0, none⟩ (.int .i64 (Bur.upA pa pl))).setCell ⟨M, 1, none⟩ (.int .i64 (Bur.upL pa pl))) M (Bur.upA pa pl) (Bur.upL pa pl) := ⟨by go_simp, by go_simp, by go_simp, by go_simp, by simpa [World.setCell] using k4⟩
  have cU' := (cU.set (p := ⟨M, 0, none⟩) (by simp; omega) (.int .i64 (Bur.upA pa pl))).set (p := ⟨M, 1, none⟩) (by simp; omega) (.int .i64 (Bur.upL pa pl))
  replace hp' := hp'.step hb
  replace cM' := cM'.step hb
  replace cU' := cU'.step hb
  clear hb hp cM cU k0 k1 k2 k3 k4
  have ⟨k0, k1, _, _, _⟩ := cM'
  have ⟨m0, m1, _, _, _⟩ := cU'
  go_upto_if 164 with fail
  go_cut [] (fun wy => PQ pa pl qa ql w wy ∧ Pf wy M (Bur.upA pa pl) (Bur.upL pa pl))
  case first =>
    go_wp2_with fail
    go_meet
    case rel => exact ⟨hp', cM'⟩
  case rest =>
  refine ‹∀ (a : Act) (w : World), Code.wp _ _ _ a w → _› _ _ ?_
  exact parts6 hcut.1 hM hcut.2

set_option maxRecDepth 100000 in
set_option maxHeartbeats 4000000 in
theorem parts4 {pa pl qa ql a b : Int} {w wx : World} {M : Nat} {x y : Int} {c6 c7 c8 c10 c11 c12 c13 c14 c15 c16 c18 c19 c20 c21 c22 c23 c24 c25 c26 c27 c28 c29 c30 c31 c32 c33 c34 c35 c36 c37 c38 c39 c40 c41 c42 c43 c44 c45 c46 c47 c48 c49 c50 c51 c52 c53 c54 c55 c56 c57 c58 c59 c60 c61 c62 c63 c64 c65 c66 c67 c68 c69 c70 c71 c72 c73 c74 c75 c76 c77 c78 c79 c80 c81 c82 c83 c84 c85 c86 c87 c88 c89 c90 c91 c92 c93 c94 c95 c96 c97 c98 c99 c100 c101 c102 c103 c104 c105 c106 c107 c108 c109 c110 c111 c112 c113 c114 c115 c116 c117 c118 c119 c120 c121 c122 c123 c124 c125 c126 c127 c128 c129 c130 c131 c132 c133 c134 c135 c136 c137 c138 c139 c140 c141 c142 c143 c144 c145 c146 c147 c148 c149 c150 c151 c152 c153 c154 c155 c156 c157 c158 c159 c160 c161 c162 c163 c164 c165 c166 c167 c168 c169 c170 c171 c172 c173 c174 c175 c176 c177 c178 c179 c180 c181 c182 c183 c184 c185 c186 c187 c188 c189 c190 c191 c192 c193 c194 c195 c196 c197 c198 c199 c200 c201 c202 c203 c204 c205 c206 c207 c208 c209 c210 c211 c212 c213 c214 c215 c216 c217 c218 c219 c220 c221 c222 c223 c224 c225 : Value} (hp : PQ pa pl qa ql w wx) (hM : w.heap.size + 2 ≤ M) (cM : Pf wx M x y) :
    Code.wp Tryd.prog (dropSeq 13 (Tryd.f4.body.getD .skip)) (bodyPost Tryd.prog Tryd.f4 fun e w' => e = .returned (.bool true) ∧ Below w.heap.size w w') ⟨#[pfx pa pl, pfx qa ql, .int .i64 a, .int .i64 b, .pointer (some ⟨w.heap.size, 0, none⟩), .pointer (some ⟨w.heap.size + 1, 0, none⟩), c6, c7, c8, .int .i64 (Bur.fault pa pl), c10, c11, c12, c13, c14, c15, c16, .pointer (some ⟨M, 0, none⟩), c18, c19, c20, c21, c22, c23, c24, c25, c26, c27, c28, c29, c30, c31, c32, c33, c34, c35, c36, c37, c38, c39, c40, c41, c42, c43, c44, c45, c46, c47, c48, c49, c50, c51, c52, c53, c54, c55, c56, c57, c58, c59, c60, c61, c62, c63, c64, c65, c66, c67, c68, c69, c70, c71, c72, c73, c74, c75, c76, c77, c78, c79, c80, c81, c82, c83, c84, c85, c86, c87, c88, c89, c90, c91, c92, c93, c94, c95, c96, c97, c98, c99, c100, c101, c102, c103, c104, c105, c106, c107, c108, c109, c110, c111, c112, c113, c114, c115, c116, c117, c118, c119, c120, c121, c122, c123, c124, c125, c126, c127, c128, c129, c130, c131, c132, c133, c134, c135, c136, c137, c138, c139, c140, c141, c142, c143, c144, c145, c146, c147, c148, c149, c150, c151, c152, c153, c154, c155, c156, c157, c158, c159, c160, c161, c162, c163, c164, c165, c166, c167, c168, c169, c170, c171, c172, c173, c174, c175, c176, c177, c178, c179, c180, c181, c182, c183, c184, c185, c186, c187, c188, c189, c190, c191, c192, c193, c194, c195, c196, c197, c198, c199, c200, c201, c202, c203, c204, c205, c206, c207, c208, c209, c210, c211, c212, c213, c214, c215, c216, c217, c218, c219, c220, c221, c222, c223, c224, c225], []⟩ wx := by
  conv => arg 2; whnf
  have ⟨p0, p1, q0, q1, et, hz, _, _⟩ := hp
  have hz0 : w.heap.size < wx.heap.size := by omega
  go_upto_region 20 with fail
  obtain ⟨U, hUe⟩ : ∃ U, Hid (wx.heap.size = U) := ⟨_, rfl⟩
  go_cut [122] (fun s wy => s = .bool (Bur.u0 pa pl) ∧ wy = wx.alloc (pcs 0 0))
  case first =>
    by_cases hf : Bur.fault pa pl = 0
    · have b1 : (Bur.fault pa pl == 0) = true := by simp [hf]
      go_wp2_with fail
      go_meet
      case rel => exact ⟨by simp [Bur.u0, hf]; rfl, rfl⟩
    · have b1 : (Bur.fault pa pl == 0) = false := by simp [hf]
      go_wp2_with fail
      go_meet
      case rel => exact ⟨by simp [Bur.u0, hf], rfl⟩
  case rest =>
  obtain ⟨rfl, rfl⟩ := hcut
  go_upto_if 122 with fail
  go_cut [14] (fun s wy => s = .int .i64 (Bur.upF pa pl) ∧ wy = wx.alloc (pcs 0 0))
  case first =>
    by_cases hf : Bur.fault pa pl = 0 ∧ pl = 0
    · have b1 : Bur.u0 pa pl = true := decide_eq_true hf
      have E : Hid (Bur.upF pa pl = 4) := if_pos hf
      clear hf
      rw [b1]
      go_wp2_with fail
      go_meet
      case rel => exact ⟨by rw [E.out], rfl⟩
    · have b1 : Bur.u0 pa pl = false := decide_eq_false hf
      have E : Hid (Bur.upF pa pl = Bur.fault pa pl) := if_neg hf
      clear hf
      rw [b1]
      go_wp2_with fail
      go_meet
      case rel => exact ⟨by rw [E.out], rfl⟩
  case rest =>
  obtain ⟨rfl, rfl⟩ := hcut
  go_upto_if 124 with fail
  go_cut [] (fun wy => PQ pa pl qa ql w wy ∧ Pf wy M x y ∧ Pf wy U (Bur.upA pa pl) (Bur.upL pa pl))
  case first =>
    by_cases hf : Bur.upF pa pl = 0
    · have b1 : (Bur.upF pa pl == 0) = true := by simp [hf]
      have E1 : Hid (Bur.upA pa pl = pa - pa % Bur.sz (pl - 1)) := if_pos hf
      have E2 : Hid (Bur.upL pa pl = pl - 1) := if_pos hf
      have hf0 : Bur.fault pa pl = 0 ∧ pl ≠ 0 := by
        unfold Bur.upF at hf
        split at hf
        · omega
        · rename_i h; exact ⟨hf, fun h2 => h ⟨hf, h2⟩⟩
      obtain ⟨l0, l1, a0, a1, _⟩ := Bur.fault_ok hf0.1
      have l2 : 0 < pl := by omega
      have s0 := Bur.sz_pos (pl - 1)
      have s1 := Bur.sz_le (pl - 1) (by omega)
      have E : Hid (pa / Bur.sz (pl - 1) * Bur.sz (pl - 1) = pa - pa % Bur.sz (pl - 1)) := Bur.mul_div_sz pa (pl - 1)
      have d0 : 0 ≤ pa / Bur.sz (pl - 1) * Bur.sz (pl - 1) := Int.mul_nonneg (Int.ediv_nonneg a0 (Int.le_of_lt s0)) (Int.le_of_lt s0)
      have d1 : pa / Bur.sz (pl - 1) * Bur.sz (pl - 1) ≤ 4294967295 := by rw [E.out]; have := Int.emod_nonneg pa (Int.ne_of_gt s0); omega
      have x1 : IntKind.i64.wrap (pl - 1) = pl - 1 := Bur.wrap_i64_id _ (by omega) (by omega)
      have x3 : ¬ Bur.sz (pl - 1) = 0 := by omega
      have x4 : IntKind.i64.wrap (pa.tdiv (Bur.sz (pl - 1))) = pa / Bur.sz (pl - 1) := by
        rw [Int.tdiv_eq_ediv_of_nonneg a0]
        exact Bur.wrap_i64_id _ (Int.ediv_nonneg a0 (Int.le_of_lt s0)) (by have := Int.ediv_le_self (Bur.sz (pl - 1)) a0; omega)
      have x2 : IntKind.i64.wrap (pa / Bur.sz (pl - 1) * Bur.sz (pl - 1)) = pa - pa % Bur.sz (pl - 1) := by rw [Bur.wrap_i64_id _ d0 (by omega)]; exact E.out
      clear hf hf0 d0 d1
      rw [b1]
      go_wp2_with fail
      go_region_held3 (fun wy => wy.cell? ⟨w.heap.size, 0, none⟩ = some (.int .i64 pa) ∧ wy.cell? ⟨w.heap.size, 1, none⟩ = some (.int .i64 pl)) (go_simp)
        (first | (go_at_call 20; refine (size_eq _ (by omega) (by omega) _).mono ?_; rintro e w4 ⟨rfl, rfl⟩))
      go_wp2_with fail
      go_meet
      case rel =>
        rw [E1.out, E2.out]
        exact ⟨(hp.alloc _).drew, (cM.alloc _).drew, by rw [← hUe.out]; exact (Pf.new wx (pa - pa % Bur.sz (pl - 1)) (pl - 1)).drew⟩
    · have b1 : (Bur.upF pa pl == 0) = false := by simp [hf]
      have E1 : Hid (Bur.upA pa pl = 0) := if_neg hf
      have E2 : Hid (Bur.upL pa pl = 0) := if_neg hf
      clear hf
      rw [b1]
      go_wp2_with fail
      go_meet
      case rel =>
        rw [E1.out, E2.out]
        exact ⟨hp.alloc _, cM.alloc _, by rw [← hUe.out]; exact Pf.new wx 0 0⟩
  case rest =>
  have hMU : M < U := by have := cM.lt; have := hUe.out; omega
  rw [hUe.out]
  refine ‹∀ (a : Act) (w : World), Code.wp _ _ _ a w → _› _ _ ?_
  exact parts5 hcut.1 hM hMU hcut.2.1 hcut.2.2

end Go.Proofs.YtnnjegohoejlbaaDoor
