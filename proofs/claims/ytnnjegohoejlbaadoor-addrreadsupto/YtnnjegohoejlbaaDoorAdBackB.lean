/- The walk of the law AddrBack: its middle pieces. -/
import Derived.Test.YtnnjegohoejlbaaDoorAdBackA
import Derived.Deep.DeepCutAuto
namespace Go.Proofs.YtnnjegohoejlbaaDoor
open Go.RowKit

theorem Pf.newFor {w : World} {b : Nat} (h : w.heap.size = b) (x y : Int) : Pf (w.alloc (pcs x y)) b x y := h ▸ Pf.new w x y

set_option maxRecDepth 100000 in
set_option maxHeartbeats 4000000 in
theorem back3 {pa pl a b : Int} {w wx : World} {c3 c4 c6 c7 c8 c9 c10 c11 c12 c13 c14 c15 c16 c17 c18 c19 c20 c21 c22 c23 c24 c25 c26 c27 c28 c29 c30 c31 c32 c33 c34 c35 c36 c37 c38 c39 c40 c41 c42 c43 c44 c45 c46 c47 c48 c49 c50 c51 c52 c53 c54 c55 c56 c57 c58 c59 c60 c61 c62 c63 c64 c65 c66 c67 c68 c69 c70 c71 c72 c73 c74 c75 c76 c77 c78 c79 c80 c81 c82 c83 c84 c85 c86 c87 c88 c89 c90 c91 c92 c93 c94 c95 c96 c97 c98 c99 c100 c101 c102 c103 c104 c105 c106 c107 c108 c109 c110 c111 c112 c113 c114 c115 c116 c117 c118 c119 c120 c121 c122 c123 c124 c125 c126 c127 c128 c129 c130 c131 c132 c133 c134 c135 c136 c137 c138 c139 c140 c141 c142 c143 c144 c145 c146 c147 c148 c149 c150 c151 c152 c153 c154 c155 c156 c157 c158 c159 c160 c161 c162 c163 c164 c165 c166 c167 c168 c169 c170 c171 c172 c173 c174 c175 c176 c177 c178 c179 c180 c181 c182 c183 c184 c185 c186 c187 c188 c189 c190 c191 c192 c193 c194 c195 c196 c197 c198 c199 c200 c201 c202 c203 c204 c205 c206 c207 c208 c209 c210 c211 c212 c213 c214 c215 c216 c217 c218 c219 c220 c221 c222 c223 c224 c225 c226 c227 c228 c229 c230 c231 c232 c233 c234 c235 c236 c237 c238 : Value} (hk : BK pa pl w wx) :
    Code.wp Tryd.prog (dropSeq 7 (Tryd.f5.body.getD .skip)) (bodyPost Tryd.prog Tryd.f5 fun e w' => e = .returned (.bool true) ∧ Below w.heap.size w w') ⟨#[.int .i64 a, .int .i64 b, pfx pa pl, c3, c4, .pointer (some ⟨w.heap.size, 0, none⟩), c6, c7, c8, c9, c10, c11, c12, c13, c14, c15, c16, c17, c18, c19, c20, c21, c22, c23, c24, c25, c26, c27, c28, c29, c30, c31, c32, c33, c34, c35, c36, c37, c38, c39, c40, c41, c42, c43, c44, c45, c46, c47, c48, c49, c50, c51, c52, c53, c54, c55, c56, c57, c58, c59, c60, c61, c62, c63, c64, c65, c66, c67, c68, c69, c70, c71, c72, c73, c74, c75, c76, c77, c78, c79, c80, c81, c82, c83, c84, c85, c86, c87, c88, c89, c90, c91, c92, c93, c94, c95, c96, c97, c98, c99, c100, c101, c102, c103, c104, c105, c106, c107, c108, c109, c110, c111, c112, c113, c114, c115, c116, c117, c118, c119, c120, c121, c122, c123, c124, c125, c126, c127, c128, c129, c130, c131, c132, c133, c134, c135, c136, c137, c138, c139, c140, c141, c142, c143, c144, c145, c146, c147, c148, c149, c150, c151, c152, c153, c154, c155, c156, c157, c158, c159, c160, c161, c162, c163, c164, c165, c166, c167, c168, c169, c170, c171, c172, c173, c174, c175, c176, c177, c178, c179, c180, c181, c182, c183, c184, c185, c186, c187, c188, c189, c190, c191, c192, c193, c194, c195, c196, c197, c198, c199, c200, c201, c202, c203, c204, c205, c206, c207, c208, c209, c210, c211, c212, c213, c214, c215, c216, c217, c218, c219, c220, c221, c222, c223, c224, c225, c226, c227, c228, c229, c230, c231, c232, c233, c234, c235, c236, c237, c238], []⟩ wx := by
  conv => arg 2; whnf
  have ⟨p0, p1, _, _, plt⟩ := hk.p
  go_wp2_with fail
  by_cases hf : Bur.fault pa pl = 0
  · by_cases h32 : pl = 32
    · subst h32
      refine (halves_none _ _ hf).mono ?_; rintro e w1 ⟨rfl, hb1⟩
      replace hk := hk.step hb1
      obtain ⟨L, hLe⟩ : ∃ L, Hid (w1.heap.size = L) := ⟨_, rfl⟩
      have hL : w.heap.size < L := by have := hk.p.lt; have := hLe.out; omega
      have cL := (Pf.newFor hLe.out 0 0).alloc (pcs 0 0)
      replace hk := (hk.alloc (pcs 0 0)).alloc (pcs 0 0)
      clear hb1 p0 p1 plt
      go_upto_if 101 with fail
      rw [hLe.out]
      clear hLe
      go_cut [] (fun wy => BK pa 32 w wy ∧ Pf wy L 0 0)
      case first =>
        go_wp2_with fail
        go_meet
        case rel => exact ⟨hk, cL⟩
      case rest =>
      refine ‹∀ (a : Act) (w : World), Code.wp _ _ _ a w → _› _ _ ?_
      exact back4 hcut.1 hL hcut.2
    · have hlt : pl < 32 := by have := (Bur.fault_ok hf).2.1; omega
      obtain ⟨hfl, hul⟩ := Bur.low_ok hf hlt
      obtain ⟨hfh, huh⟩ := Bur.high_ok hf hlt
      have EL : Hid _ := hul
      have EH : Hid _ := huh
      have ES : Hid (Bur.sz pl = 2 * Bur.sz (pl + 1)) := Bur.sz_half pl hlt
      have l0 := (Bur.fault_ok hf).1
      clear hul huh h32
      refine (halves_ok _ _ _ hf hlt).mono ?_; rintro e w1 ⟨rfl, hb1⟩
      replace hk := hk.step hb1
      obtain ⟨L, hLe⟩ : ∃ L, Hid (w1.heap.size = L) := ⟨_, rfl⟩
      have hL : w.heap.size < L := by have := hk.p.lt; have := hLe.out; omega
      have cL := (Pf.newFor hLe.out pa (pl + 1)).alloc (pcs (pa + Bur.sz (pl + 1)) (pl + 1))
      have cH : Pf ((w1.alloc (pcs pa (pl + 1))).alloc (pcs (pa + Bur.sz (pl + 1)) (pl + 1))) (L + 1) (pa + Bur.sz (pl + 1)) (pl + 1) := Pf.newFor (by simp [hLe.out]) _ _
      replace hk := (hk.alloc (pcs pa (pl + 1))).alloc (pcs (pa + Bur.sz (pl + 1)) (pl + 1))
      clear hb1 p0 p1 plt
      go_upto_if 101 with fail
      rw [hLe.out]
      clear hLe
      generalize (w1.alloc (pcs pa (pl + 1))).alloc (pcs (pa + Bur.sz (pl + 1)) (pl + 1)) = W2 at *
      go_cut [] (fun wy => BK pa pl w wy ∧ Pf wy L pa (pl + 1))
      case first =>
        have ⟨k0, k1, _, _, _⟩ := cL
        go_wp2_with fail
        refine (up_ok _ _ _ hfl (by omega)).mono ?_; rintro e w3 ⟨rfl, hb3⟩
        rw [EL.out, show pl + 1 - 1 = pl from by omega]
        replace hk := hk.step hb3
        replace cL := cL.step hb3
        replace cH := cH.step hb3
        clear hb3 k0 k1
        obtain ⟨X, hX⟩ : ∃ X, Hid (w3.heap.size = X) := ⟨_, rfl⟩
        have cX := Pf.newFor hX.out pa pl
        have ⟨h0, h1, _, _, hl2⟩ := cH
        go_wp2_with fail
        rw [hX.out]
        replace hk := hk.alloc (pcs pa pl)
        replace cL := cL.alloc (pcs pa pl)
        replace cH := cH.alloc (pcs pa pl)
        clear hX h0 h1 hl2
        generalize w3.alloc (pcs pa pl) = W3 at *
        refine (up_ok _ _ _ hfh (by omega)).mono ?_; rintro e w4 ⟨rfl, hb4⟩
        rw [EH.out, show pl + 1 - 1 = pl from by omega]
        replace hk := hk.step hb4
        replace cL := cL.step hb4
        replace cH := cH.step hb4
        replace cX := cX.step hb4
        clear hb4
        obtain ⟨Y, hY⟩ : ∃ Y, Hid (w4.heap.size = Y) := ⟨_, rfl⟩
        have cY := Pf.newFor hY.out pa pl
        have ⟨h0, h1, _, _, hl2⟩ := hk.p
        go_wp2_with fail
        rw [hY.out]
        replace hk := hk.alloc (pcs pa pl)
        replace cL := cL.alloc (pcs pa pl)
        replace cH := cH.alloc (pcs pa pl)
        replace cX := cX.alloc (pcs pa pl)
        clear hY h0 h1 hl2
        generalize w4.alloc (pcs pa pl) = W4 at *
        refine (ends_ok _ _ _ hf).mono ?_; rintro e w5 ⟨rfl, hb5⟩
        replace hk := hk.step hb5
        replace cL := cL.step hb5
        replace cH := cH.step hb5
        replace cX := cX.step hb5
        replace cY := cY.step hb5
        clear hb5
        have ⟨h0, h1, _, _, hl2⟩ := cL
        go_wp2_with fail
        clear h0 h1 hl2
        refine (ends_ok _ _ _ hfl).mono ?_; rintro e w6 ⟨rfl, hb6⟩
        replace hk := hk.step hb6
        replace cL := cL.step hb6
        replace cH := cH.step hb6
        replace cX := cX.step hb6
        replace cY := cY.step hb6
        clear hb6
        have ⟨h0, h1, _, _, hl2⟩ := cH
        go_wp2_with fail
        clear h0 h1 hl2
        refine (ends_ok _ _ _ hfh).mono ?_; rintro e w7 ⟨rfl, hb7⟩
        replace hk := hk.step hb7
        replace cL := cL.step hb7
        replace cX := cX.step hb7
        replace cY := cY.step hb7
        clear hb7 cH
        have ⟨h0, h1, _, _, hl2⟩ := cX
        have ⟨h3, h4, _, _, hl3⟩ := cY
        have ⟨h5, h6, _, _, hl4⟩ := hk.p
        go_wp2_with fail
        refine (prefixes2 _ _ pa pl pa pl _ (by simp) (by simp) (by simp) (by simp) (by simp) (by simp) (by simp) (by simp)).mono ?_; rintro e w8 ⟨rfl, hb8⟩
        replace hk := ((hk.alloc _).alloc _).step hb8
        replace cL := ((cL.alloc _).alloc _).step hb8
        clear hb8 h0 h1 hl2 h3 h4 hl3 h5 h6 hl4
        have s1 := Bur.sz_pos (pl + 1)
        have s2 := Bur.sz_le (pl + 1) (by omega)
        obtain ⟨_, _, a0, a1, _⟩ := Bur.fault_ok hf
        have t1 : (pa + (Bur.sz pl - 1) != pa + Bur.sz (pl + 1) + (Bur.sz (pl + 1) - 1)) = false := by
          have := ES.out; simp; omega
        have t2 : (pa + Bur.sz (pl + 1) != pa + (Bur.sz (pl + 1) - 1) + 1) = false := by simp; omega
        go_wp2_with fail
        go_meet
        case rel => exact ⟨hk, cL⟩
      case rest =>
      refine ‹∀ (a : Act) (w : World), Code.wp _ _ _ a w → _› _ _ ?_
      exact back4 hcut.1 hL hcut.2
  · refine (halves_no _ _ _ hf).mono ?_; rintro e w1 ⟨rfl, hb1⟩
    replace hk := hk.step hb1
    obtain ⟨L, hLe⟩ : ∃ L, Hid (w1.heap.size = L) := ⟨_, rfl⟩
    have hL : w.heap.size < L := by have := hk.p.lt; have := hLe.out; omega
    have cL := (Pf.newFor hLe.out 0 0).alloc (pcs 0 0)
    replace hk := (hk.alloc (pcs 0 0)).alloc (pcs 0 0)
    clear hb1 p0 p1 plt
    go_upto_if 101 with fail
    rw [hLe.out]
    clear hLe
    go_cut [] (fun wy => BK pa pl w wy ∧ Pf wy L 0 0)
    case first =>
      go_wp2_with fail
      go_meet
      case rel => exact ⟨hk, cL⟩
    case rest =>
    refine ‹∀ (a : Act) (w : World), Code.wp _ _ _ a w → _› _ _ ?_
    exact back4 hcut.1 hL hcut.2
end Go.Proofs.YtnnjegohoejlbaaDoor
