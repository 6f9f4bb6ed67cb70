/- The walk of the law AddrParts, its first pieces, and the whole. -/
import Derived.Test.YtnnjegohoejlbaaDoorAdPartsC
namespace Go.Proofs.YtnnjegohoejlbaaDoor
open Go.RowKit

theorem Pf.newAt {w : World} {b : Nat} (h : w.heap.size = b) (x y : Int) : Pf (w.alloc (pcs x y)) b x y := h ▸ Pf.new w x y

set_option maxRecDepth 100000 in
set_option maxHeartbeats 4000000 in
theorem parts3 {pa pl qa ql a b : Int} {w wx : World} {L : Nat} {c6 c7 c8 c10 c11 c12 c13 c17 c18 c19 c20 c21 c22 c23 c24 c25 c26 c27 c28 c29 c30 c31 c32 c33 c34 c35 c36 c37 c38 c39 c40 c41 c42 c43 c44 c45 c46 c47 c48 c49 c50 c51 c52 c53 c54 c55 c56 c57 c58 c59 c60 c61 c62 c63 c64 c65 c66 c67 c68 c69 c70 c71 c72 c73 c74 c75 c76 c77 c78 c79 c80 c81 c82 c83 c84 c85 c86 c87 c88 c89 c90 c91 c92 c93 c94 c95 c96 c97 c98 c99 c100 c101 c102 c103 c104 c105 c106 c107 c108 c109 c110 c111 c112 c113 c114 c115 c116 c117 c118 c119 c120 c121 c122 c123 c124 c125 c126 c127 c128 c129 c130 c131 c132 c133 c134 c135 c136 c137 c138 c139 c140 c141 c142 c143 c144 c145 c146 c147 c148 c149 c150 c151 c152 c153 c154 c155 c156 c157 c158 c159 c160 c161 c162 c163 c164 c165 c166 c167 c168 c169 c170 c171 c172 c173 c174 c175 c176 c177 c178 c179 c180 c181 c182 c183 c184 c185 c186 c187 c188 c189 c190 c191 c192 c193 c194 c195 c196 c197 c198 c199 c200 c201 c202 c203 c204 c205 c206 c207 c208 c209 c210 c211 c212 c213 c214 c215 c216 c217 c218 c219 c220 c221 c222 c223 c224 c225 : Value} (hp : PQ pa pl qa ql w wx) (cL : Pf wx L (Bur.lowA pa pl) (Bur.halL pa pl)) (cH : Pf wx (L + 1) (Bur.higA pa pl) (Bur.halL pa pl)) :
    Code.wp Tryd.prog (dropSeq 9 (Tryd.f4.body.getD .skip)) (bodyPost Tryd.prog Tryd.f4 fun e w' => e = .returned (.bool true) ∧ Below w.heap.size w w') ⟨#[pfx pa pl, pfx qa ql, .int .i64 a, .int .i64 b, .pointer (some ⟨w.heap.size, 0, none⟩), .pointer (some ⟨w.heap.size + 1, 0, none⟩), c6, c7, c8, .int .i64 (Bur.fault pa pl), c10, c11, c12, c13, .int .i64 (Bur.halF pa pl), .pointer (some ⟨L, 0, none⟩), .pointer (some ⟨L + 1, 0, none⟩), c17, c18, c19, c20, c21, c22, c23, c24, c25, c26, c27, c28, c29, c30, c31, c32, c33, c34, c35, c36, c37, c38, c39, c40, c41, c42, c43, c44, c45, c46, c47, c48, c49, c50, c51, c52, c53, c54, c55, c56, c57, c58, c59, c60, c61, c62, c63, c64, c65, c66, c67, c68, c69, c70, c71, c72, c73, c74, c75, c76, c77, c78, c79, c80, c81, c82, c83, c84, c85, c86, c87, c88, c89, c90, c91, c92, c93, c94, c95, c96, c97, c98, c99, c100, c101, c102, c103, c104, c105, c106, c107, c108, c109, c110, c111, c112, c113, c114, c115, c116, c117, c118, c119, c120, c121, c122, c123, c124, c125, c126, c127, c128, c129, c130, c131, c132, c133, c134, c135, c136, c137, c138, c139, c140, c141, c142, c143, c144, c145, c146, c147, c148, c149, c150, c151, c152, c153, c154, c155, c156, c157, c158, c159, c160, c161, c162, c163, c164, c165, c166, c167, c168, c169, c170, c171, c172, c173, c174, c175, c176, c177, c178, c179, c180, c181, c182, c183, c184, c185, c186, c187, c188, c189, c190, c191, c192, c193, c194, c195, c196, c197, c198, c199, c200, c201, c202, c203, c204, c205, c206, c207, c208, c209, c210, c211, c212, c213, c214, c215, c216, c217, c218, c219, c220, c221, c222, c223, c224, c225], []⟩ wx := by
  conv => arg 2; whnf
  have ⟨p0, p1, _, _, _, hz, _, _⟩ := hp
  go_wp2_with fail
  refine (halves_any _ _ _).mono ?_; rintro e w5 ⟨rfl, hb⟩
  replace hp := hp.step hb
  replace cL := cL.step hb
  replace cH := cH.step hb
  clear hb p0 p1 hz
  go_wp2_with fail
  refine (error_any _ _ _ ((hp.alloc _).alloc _).et).mono ?_; rintro e w6 ⟨rfl, hb⟩
  have hM : w.heap.size + 2 ≤ w5.heap.size := by have := hp.sz; omega
  have hLM : L + 1 < w5.heap.size := cH.lt
  have cM := ((Pf.new w5 (Bur.lowA pa pl) (Bur.halL pa pl)).alloc _).step hb
  have cN := (Pf.new (w5.alloc (pcs (Bur.lowA pa pl) (Bur.halL pa pl))) (Bur.higA pa pl) (Bur.halL pa pl)).step hb
  replace hp := ((hp.alloc _).alloc _).step hb
  replace cL := ((cL.alloc _).alloc _).step hb
  replace cH := ((cH.alloc _).alloc _).step hb
  simp at cN
  obtain ⟨M, hMe⟩ : ∃ M, w5.heap.size = M := ⟨_, rfl⟩
  rw [hMe] at cM cN hM hLM ⊢
  clear hb hMe
  have ⟨k0, k1, _, _, _⟩ := cL
  have ⟨k2, k3, _, _, _⟩ := cH
  have ⟨m0, m1, _, _, _⟩ := cM
  have ⟨m2, m3, _, _, _⟩ := cN
  go_wp2_with fail
  refine (prefixes2 _ _ (Bur.lowA pa pl) (Bur.halL pa pl) (Bur.higA pa pl) (Bur.halL pa pl) _ (by simp) (by simp) (by simp) (by simp) (by simp) (by simp) (by simp) (by simp)).mono ?_; rintro e w7 ⟨rfl, hb⟩
  replace hp := ((hp.alloc _).alloc _).step hb
  replace cM := ((cM.alloc _).alloc _).step hb
  clear hb cL cH cN k0 k1 k2 k3 m0 m1 m2 m3 hLM
  go_upto_if 114 with fail
  go_cut [] (fun wy => PQ pa pl qa ql w wy ∧ Pf wy M (Bur.lowA pa pl) (Bur.halL pa pl))
  case first =>
    go_wp2_with fail
    go_meet
    case rel => exact ⟨hp, cM⟩
  case rest =>
  refine ‹∀ (a : Act) (w : World), Code.wp _ _ _ a w → _› _ _ ?_
  exact parts4 hcut.1 hM hcut.2

set_option maxRecDepth 100000 in
set_option maxHeartbeats 4000000 in
theorem parts2 {pa pl qa ql a b : Int} {w wx : World} {c6 c7 c8 c10 c11 c12 c13 c14 c15 c16 c17 c18 c19 c20 c21 c22 c23 c24 c25 c26 c27 c28 c29 c30 c31 c32 c33 c34 c35 c36 c37 c38 c39 c40 c41 c42 c43 c44 c45 c46 c47 c48 c49 c50 c51 c52 c53 c54 c55 c56 c57 c58 c59 c60 c61 c62 c63 c64 c65 c66 c67 c68 c69 c70 c71 c72 c73 c74 c75 c76 c77 c78 c79 c80 c81 c82 c83 c84 c85 c86 c87 c88 c89 c90 c91 c92 c93 c94 c95 c96 c97 c98 c99 c100 c101 c102 c103 c104 c105 c106 c107 c108 c109 c110 c111 c112 c113 c114 c115 c116 c117 c118 c119 c120 c121 c122 c123 c124 c125 c126 c127 c128 c129 c130 c131 c132 c133 c134 c135 c136 c137 c138 c139 c140 c141 c142 c143 c144 c145 c146 c147 c148 c149 c150 c151 c152 c153 c154 c155 c156 c157 c158 c159 c160 c161 c162 c163 c164 c165 c166 c167 c168 c169 c170 c171 c172 c173 c174 c175 c176 c177 c178 c179 c180 c181 c182 c183 c184 c185 c186 c187 c188 c189 c190 c191 c192 c193 c194 c195 c196 c197 c198 c199 c200 c201 c202 c203 c204 c205 c206 c207 c208 c209 c210 c211 c212 c213 c214 c215 c216 c217 c218 c219 c220 c221 c222 c223 c224 c225 : Value} (hpq : PQ pa pl qa ql w wx) :
    Code.wp Tryd.prog (dropSeq 5 (Tryd.f4.body.getD .skip)) (bodyPost Tryd.prog Tryd.f4 fun e w' => e = .returned (.bool true) ∧ Below w.heap.size w w') ⟨#[pfx pa pl, pfx qa ql, .int .i64 a, .int .i64 b, .pointer (some ⟨w.heap.size, 0, none⟩), .pointer (some ⟨w.heap.size + 1, 0, none⟩), c6, c7, c8, .int .i64 (Bur.fault pa pl), c10, c11, c12, c13, c14, c15, c16, c17, c18, c19, c20, c21, c22, c23, c24, c25, c26, c27, c28, c29, c30, c31, c32, c33, c34, c35, c36, c37, c38, c39, c40, c41, c42, c43, c44, c45, c46, c47, c48, c49, c50, c51, c52, c53, c54, c55, c56, c57, c58, c59, c60, c61, c62, c63, c64, c65, c66, c67, c68, c69, c70, c71, c72, c73, c74, c75, c76, c77, c78, c79, c80, c81, c82, c83, c84, c85, c86, c87, c88, c89, c90, c91, c92, c93, c94, c95, c96, c97, c98, c99, c100, c101, c102, c103, c104, c105, c106, c107, c108, c109, c110, c111, c112, c113, c114, c115, c116, c117, c118, c119, c120, c121, c122, c123, c124, c125, c126, c127, c128, c129, c130, c131, c132, c133, c134, c135, c136, c137, c138, c139, c140, c141, c142, c143, c144, c145, c146, c147, c148, c149, c150, c151, c152, c153, c154, c155, c156, c157, c158, c159, c160, c161, c162, c163, c164, c165, c166, c167, c168, c169, c170, c171, c172, c173, c174, c175, c176, c177, c178, c179, c180, c181, c182, c183, c184, c185, c186, c187, c188, c189, c190, c191, c192, c193, c194, c195, c196, c197, c198, c199, c200, c201, c202, c203, c204, c205, c206, c207, c208, c209, c210, c211, c212, c213, c214, c215, c216, c217, c218, c219, c220, c221, c222, c223, c224, c225], []⟩ wx := by
  conv => arg 2; whnf
  have ⟨p0, p1, q0, q1, et, hz, _, _⟩ := hpq
  have hz0 : w.heap.size < wx.heap.size := by omega
  obtain ⟨L, hLe⟩ : ∃ L, Hid (wx.heap.size = L) := ⟨_, rfl⟩
  go_upto_region 8 with fail
  go_cut [73] (fun s wy => s = .bool (Bur.h32 pa pl) ∧ wy = (wx.alloc (pcs 0 0)).alloc (pcs 0 0))
  case first =>
    by_cases hf : Bur.fault pa pl = 0
    · have b1 : (Bur.fault pa pl == 0) = true := by simp [hf]
      go_wp2_with fail
      go_meet
      case rel => exact ⟨by simp [Bur.h32, hf]; rfl, rfl⟩
    · have b1 : (Bur.fault pa pl == 0) = false := by simp [hf]
      go_wp2_with fail
      go_meet
      case rel => exact ⟨by simp [Bur.h32, hf], rfl⟩
  case rest =>
  obtain ⟨rfl, rfl⟩ := hcut
  go_upto_if 73 with fail
  go_cut [14] (fun s wy => s = .int .i64 (Bur.halF pa pl) ∧ wy = (wx.alloc (pcs 0 0)).alloc (pcs 0 0))
  case first =>
    by_cases hf : Bur.fault pa pl = 0 ∧ pl = 32
    · have b1 : Bur.h32 pa pl = true := decide_eq_true hf
      have E : Hid (Bur.halF pa pl = 4) := if_pos hf
      clear hf
      rw [b1]
      go_wp2_with fail
      go_meet
      case rel => exact ⟨by rw [E.out], rfl⟩
    · have b1 : Bur.h32 pa pl = false := decide_eq_false hf
      have E : Hid (Bur.halF pa pl = Bur.fault pa pl) := if_neg hf
      clear hf
      rw [b1]
      go_wp2_with fail
      go_meet
      case rel => exact ⟨by rw [E.out], rfl⟩
  case rest =>
  obtain ⟨rfl, rfl⟩ := hcut
  go_upto_if 75 with fail
  go_cut [] (fun wy => PQ pa pl qa ql w wy ∧ Pf wy L (Bur.lowA pa pl) (Bur.halL pa pl) ∧ Pf wy (L + 1) (Bur.higA pa pl) (Bur.halL pa pl))
  case first =>
    by_cases hf : Bur.halF pa pl = 0
    · have b1 : (Bur.halF pa pl == 0) = true := by simp [hf]
      have E1 : Hid (Bur.lowA pa pl = pa) := if_pos hf
      have E2 : Hid (Bur.halL pa pl = pl + 1) := if_pos hf
      have E3 : Hid (Bur.higA pa pl = pa + Bur.sz (pl + 1)) := if_pos hf
      have hf0 : Bur.fault pa pl = 0 ∧ pl ≠ 32 := by
        unfold Bur.halF at hf
        split at hf
        · omega
        · rename_i h; exact ⟨hf, fun h2 => h ⟨hf, h2⟩⟩
      obtain ⟨l0, l1, a0, a1, _⟩ := Bur.fault_ok hf0.1
      have l2 : pl < 32 := by omega
      have s0 := Bur.sz_pos (pl + 1)
      have s1 := Bur.sz_le (pl + 1) (by omega)
      have x1 : IntKind.i64.wrap (pl + 1) = pl + 1 := Bur.wrap_i64_id _ (by omega) (by omega)
      have x2 : IntKind.i64.wrap (pa + Bur.sz (pl + 1)) = pa + Bur.sz (pl + 1) := Bur.wrap_i64_id _ (by omega) (by omega)
      clear hf hf0
      rw [b1]
      go_wp2_with fail
      go_region_held3 (fun wy => wy.cell? ⟨w.heap.size, 0, none⟩ = some (.int .i64 pa) ∧ wy.cell? ⟨w.heap.size, 1, none⟩ = some (.int .i64 pl)) (go_simp)
        (first | (go_at_call 20; refine (size_eq _ (by omega) (by omega) _).mono ?_; rintro e w4 ⟨rfl, rfl⟩))
      go_wp2_with fail
      go_meet
      case rel =>
        rw [E1.out, E2.out, E3.out]
        exact ⟨((hpq.alloc _).alloc _).drew, by rw [← hLe.out]; exact ((Pf.new wx pa (pl + 1)).alloc _).drew, (Pf.newAt (w := wx.alloc (pcs pa (pl + 1))) (by simp [hLe.out]) (pa + Bur.sz (pl + 1)) (pl + 1)).drew⟩
    · have b1 : (Bur.halF pa pl == 0) = false := by simp [hf]
      have E1 : Hid (Bur.lowA pa pl = 0) := if_neg hf
      have E2 : Hid (Bur.halL pa pl = 0) := if_neg hf
      have E3 : Hid (Bur.higA pa pl = 0) := if_neg hf
      clear hf
      rw [b1]
      go_wp2_with fail
      go_meet
      case rel =>
        rw [E1.out, E2.out, E3.out]
        exact ⟨(hpq.alloc _).alloc _, by rw [← hLe.out]; exact (Pf.new wx 0 0).alloc _, Pf.newAt (w := wx.alloc (pcs 0 0)) (by simp [hLe.out]) 0 0⟩
  case rest =>
  rw [hLe.out]
  refine ‹∀ (a : Act) (w : World), Code.wp _ _ _ a w → _› _ _ ?_
  exact parts3 hcut.1 hcut.2.1 hcut.2.2

set_option maxRecDepth 100000 in
set_option maxHeartbeats 4000000 in
theorem law_parts (pa pl qa ql a b : Int) (w : World) (hg : ErrType w) :
    Calls Tryd.prog 4 #[pfx pa pl, pfx qa ql, .int .i64 a, .int .i64 b] w fun e w' => e = .returned (.bool true) ∧ Below w.heap.size w w' := by
  have hn : 0 < w.heap.size := World.block_lt_of_cell? _ _ hg
  have hpq : PQ pa pl qa ql w ((w.alloc (pcs pa pl)).alloc (pcs qa ql)) := by
    refine ⟨by go_simp, by go_simp, by go_simp, by go_simp, ?_, by simp, hn, below_al (below_al (below_self _) _) _⟩
    show World.cell? _ _ = _
    rw [World.cell?_alloc_lt _ _ ⟨0, 0, none⟩ (by simp <;> omega), World.cell?_alloc_lt _ _ ⟨0, 0, none⟩ (by simp <;> omega)]; exact hg
  go_enter Tryd.func4, Tryd.ntmps4
  go_wp2_with fail
  refine (refFault _ _ _).mono ?_; rintro e w1 ⟨rfl, hb⟩
  replace hpq := hpq.step hb; clear hb
  have ⟨p0, p1, q0, q1, et, hz, _, _⟩ := hpq
  go_wp2_with fail
  refine (ends_any _ _ _).mono ?_; rintro e w2 ⟨rfl, hb⟩
  replace hpq := hpq.step hb; clear hb p0 p1 q0 q1 hz et
  have ⟨p0, p1, q0, q1, et, hz, _, _⟩ := hpq
  go_wp2_with fail
  refine (error_any _ _ _ et).mono ?_; rintro e w3 ⟨rfl, hb⟩
  replace hpq := hpq.step hb; clear hb p0 p1 q0 q1 hz et
  have ⟨p0, p1, q0, q1, et, hz, _, _⟩ := hpq
  go_upto_region 4 with fail
  go_cut [10, 11, 65] (fun _ _ s wx => s = .bool false ∧ PQ pa pl qa ql w wx)
  case first =>
    by_cases hf : Bur.fault pa pl = 0
    · obtain ⟨l0, l1, a0, a1, _⟩ := Bur.fault_ok hf
      have ha := Bur.isA_mk a0 a1
      have b1 : (Bur.fault pa pl == 0) = true := by simp [hf]
      have b2 : (Bur.fault pa pl != 0) = false := by simp [hf]
      have e1 : Bur.endA pa pl = pa := if_pos hf
      have e2 : Bur.endB pa pl = pa + Bur.sz pl - 1 := by rw [show Bur.endB pa pl = pa + (Bur.sz pl - 1) from if_pos hf]; omega
      clear hf
      go_wp2_with (go_at_call 19; refine (lastOf _ _ _ l0 l1 ha).mono ?_; rintro e w4 ⟨rfl, n, rfl⟩)
      go_meet
      case rel => exact ⟨rfl, (hpq.alloc _).drewN _⟩
    · have b1 : (Bur.fault pa pl == 0) = false := by simp [hf]
      have b2 : (Bur.fault pa pl != 0) = true := by simp [hf]
      have e1 : Bur.endA pa pl = 0 := if_neg hf
      have e2 : Bur.endB pa pl = 0 := if_neg hf
      clear hf
      go_wp2_with fail
      go_meet
      case rel => exact ⟨rfl, hpq⟩
  case rest =>
  clear hpq p0 p1 q0 q1 et hz
  obtain ⟨rfl, hpq⟩ := hcut
  go_upto_if 65 with fail
  go_cut [] (fun wx => PQ pa pl qa ql w wx)
  case first =>
    go_wp2_with fail
    go_meet
    case rel => exact hpq
  case rest =>
  refine ‹∀ (a : Act) (w : World), Code.wp _ _ _ a w → _› _ _ ?_
  exact parts2 hcut
end Go.Proofs.YtnnjegohoejlbaaDoor
