/- The walk of the law FreeIs: how many; the best among the blocks. -/
import Derived.Test.YtfhidiedmenliaaGreatDoorFiLawB
namespace Go.Proofs.YtfhidiedmenliaaGreatDoor
open Go.RowKit

set_option maxRecDepth 100000 in
set_option maxHeartbeats 8000000 in
theorem fi6 {l BL : List Bur.Sp} {q qb : Option Addr} {cap cb Bp : Nat} {a z n E F : Int} {c : Option Nat} {w wx : World} {c0 c4 c5 c6 c8 c10 c11 c12 c13 c15 c16 c18 c19 c20 c21 c22 c23 c24 c25 c26 c27 c28 c29 c30 c31 c32 c33 c34 c35 c36 c37 c38 c39 c40 c41 c42 c43 c44 c45 c46 c47 c48 c49 c50 c51 c52 c53 c54 c55 c56 c57 c58 c59 c60 c61 c62 c63 c64 c65 c66 c67 c68 c69 c70 c71 c72 c73 c74 c75 c76 c77 c78 c79 c80 c81 c82 c83 c84 c85 c86 c87 c88 c89 c90 c91 c92 c93 c94 c95 c96 c97 c98 c99 c100 c101 c102 c103 c104 c105 c106 c107 c108 c109 c110 c111 c112 c113 c114 c115 c116 c117 c118 c119 c120 c121 c122 c123 c124 c125 c126 c127 c128 c129 c130 c131 c132 c133 c134 c135 c136 c137 c138 c139 c140 c141 c142 c143 c144 c145 c146 c147 c148 c149 c150 c151 c152 c153 c154 c155 c156 c157 c158 c159 c160 c161 c162 c163 c164 c165 c166 c167 c168 c169 c170 c171 c172 c173 c174 c175 c176 c177 c178 c179 c180 c181 c182 c183 c184 c185 c186 c187 c188 c189 c190 c191 c192 c193 c194 c195 c196 c197 c198 c199 c200 c201 c202 c203 c204 c205 c206 c207 c208 c209 c210 c211 c212 c213 c214 c215 c216 c217 c218 c219 c220 c221 c222 c223 c224 c225 c226 c227 c228 c229 c230 c231 c232 c233 c234 c235 c236 c237 c238 c239 c240 c241 c242 c243 c244 c245 : Value} (ll : l.length ≤ 9223372036854775807) (hBL : BL.length ≤ 4294967296)
    (hc : Hid (∀ j, c = some j → j < BL.length)) (h0 : Hid (F = 0 → Bur.bsF (a, z) l n = Bur.nnF c ∧ ∀ j, c = some j → Bur.bsS (a, z) l n = (lo BL j, n))) (h1 : Hid (F ≠ 0 → Bur.bsF (a, z) l n = F))
    (hE : Hid (Bur.gfF (a, z) l n = E))
    (sl0 : SpAt w q l) (hT0 : Tab w) (het0 : ErrType w) (sb : SpAt wx qb BL) (pb : Pb wx Bp (a, z)) (hb : Below w.heap.size w wx) :
    Code.wp Tryz.prog (dropSeq 21 (Tryz.f3.body.getD .skip)) (bodyPost Tryz.prog Tryz.f3 fun e w' => e = .returned (.bool true) ∧ Below w.heap.size w w') ⟨#[c0, .slice q l.length cap, .int .i64 n, .pointer (some ⟨Bp, 0, none⟩), c4, c5, c6, .int .i64 E, c8, .slice qb BL.length cb, c10, c11, c12, c13, .int .i64 F, c15, c16, .int .i64 (bi c), c18, c19, c20, c21, c22, c23, c24, c25, c26, c27, c28, c29, c30, c31, c32, c33, c34, c35, c36, c37, c38, c39, c40, c41, c42, c43, c44, c45, c46, c47, c48, c49, c50, c51, c52, c53, c54, c55, c56, c57, c58, c59, c60, c61, c62, c63, c64, c65, c66, c67, c68, c69, c70, c71, c72, c73, c74, c75, c76, c77, c78, c79, c80, c81, c82, c83, c84, c85, c86, c87, c88, c89, c90, c91, c92, c93, c94, c95, c96, c97, c98, c99, c100, c101, c102, c103, c104, c105, c106, c107, c108, c109, c110, c111, c112, c113, c114, c115, c116, c117, c118, c119, c120, c121, c122, c123, c124, c125, c126, c127, c128, c129, c130, c131, c132, c133, c134, c135, c136, c137, c138, c139, c140, c141, c142, c143, c144, c145, c146, c147, c148, c149, c150, c151, c152, c153, c154, c155, c156, c157, c158, c159, c160, c161, c162, c163, c164, c165, c166, c167, c168, c169, c170, c171, c172, c173, c174, c175, c176, c177, c178, c179, c180, c181, c182, c183, c184, c185, c186, c187, c188, c189, c190, c191, c192, c193, c194, c195, c196, c197, c198, c199, c200, c201, c202, c203, c204, c205, c206, c207, c208, c209, c210, c211, c212, c213, c214, c215, c216, c217, c218, c219, c220, c221, c222, c223, c224, c225, c226, c227, c228, c229, c230, c231, c232, c233, c234, c235, c236, c237, c238, c239, c240, c241, c242, c243, c244, c245], []⟩ wx := by
  conv => arg 2; whnf
  have hM0 : Hid (E ≠ 0 → Bur.mnS (a, z) l n = 0) := fun h => by show _ = _; unfold Bur.mnS; rw [hE.out, if_neg h]
  obtain ⟨M, hM⟩ : ∃ M, Bur.mnS (a, z) l n = M := ⟨_, rfl⟩
  have hMH : Hid _ := hM
  rw [hM] at hM0
  clear hM
  go_upto_if 140 with fail
  go_cut [19, 20, 21] from 140 to 151 (fun at_ k fi wy => ∃ o : Option Int, at_ = .int .i64 (o.getD 0) ∧ k = .int .i64 M ∧ fi = .bool o.isSome ∧ Hid (E = 0 → Bur.fsp (a, z) l n = o) ∧ Below wx.heap.size wx wy)
  case first =>
    have sl := sl0.step hb
    cases hE0 : (E == 0)
    · have hE' : Hid (E ≠ 0) := by show ¬ _; simpa using hE0
      have hM1 : Hid (M = 0) := hM0.out hE'.out
      clear h0 h1 hc sb sl hE hM0 hMH
      go_wp2_with fail
      go_meet
      case rel => exact ⟨none, rfl, by rw [hM1.out], rfl, (fun h => absurd h hE'.out), below_self _⟩
    · have hE' : E = 0 := by simpa using hE0
      obtain ⟨g0, g1, g2⟩ := Bur.gfF_ok (hE.out.trans hE')
      obtain ⟨f1, f2, f3⟩ := Bur.frF_ok g0
      obtain ⟨k1, k2⟩ := f1.okK
      have hO : Hid _ := f3
      have pz := f1.parts
      simp only at pz
      have hz32 : 32 - (((32 - z).toNat : Nat) : Int) = z := by omega
      have cF := fun w hs => refFirst (32 - n).toNat n q cap l f2 hO (by omega) g2 rfl (32 - z).toNat a w k1 hs
      have cM := fun w hs => refMany (32 - n).toNat n q cap l f2 hO (by omega) g2 rfl (32 - z).toNat a w (by omega) k1 hs
      rw [hz32] at cF cM
      unfold FsP at cF
      unfold MnP at cM
      have e1 : Bur.fst1 l (32 - n).toNat (32 - z).toNat a = Bur.fsp (a, z) l n := rfl
      have e2 : Bur.mny l (32 - n).toNat (32 - z).toNat a = M := by
        rw [← hMH.out]
        unfold Bur.mnS
        rw [hE.out, if_pos hE']
        rfl
      simp only [e1] at cF
      simp only [e2] at cM
      have pb0 := pb
      obtain ⟨p0, p1, p2⟩ := pb
      simp only at p1 p2
      obtain ⟨o, hoo⟩ : ∃ o, Bur.fsp (a, z) l n = o := ⟨_, rfl⟩
      simp only [hoo] at cF
      have hoH : Hid _ := hoo
      clear h0 h1 hc sb hE hM0 hMH g0 g1 g2 f1 f3 k1 k2 pz hz32 e1 e2 hE' hoo hO
      go_wp2_with fail
      refine (cF _ sl).mono ?_
      rintro e w1 ⟨rfl, hb1⟩
      have sl1 := sl.step hb1
      obtain ⟨p3, p4, p5⟩ := pb0.step hb1
      simp only at p4 p5
      clear cF p0 p1 p2 sl
      go_wp2_with fail
      refine (cM _ sl1).mono ?_
      rintro e w2 ⟨rfl, hb2⟩
      have hb3 := below_via hb1 hb2
      clear cM p3 p4 p5 sl1 hb1 hb2
      go_wp2_with fail
      go_meet
      case rel => exact ⟨o, rfl, rfl, rfl, fun _ => hoH.out, hb3⟩
  case rest =>
  obtain ⟨o, rfl, rfl, rfl, ho, hb1⟩ := hcut
  have pb1 := pb.step hb1
  have sb1 := sb.step hb1
  have hb2 := below_via hb hb1
  have sl1 := sl0.step hb2
  have pb0 := pb1
  obtain ⟨p0, p1, p2⟩ := pb1
  simp only at p1 p2
  clear pb sb hb hb1 hM0
  obtain ⟨V, hV⟩ : ∃ V, V = wc := ⟨_, rfl⟩
  subst hV
  go_wp2_with fail
  refine (freeMany a z n q cap l V ll sl1).mono ?_
  rintro e w1 ⟨rfl, hb3⟩
  rw [hE.out, hMH.out]
  have pb2 := pb0.step hb3
  have sb2 := sb1.step hb3
  have hb4 := below_via hb2 hb3
  have het1 := etStep het0 hb4
  clear p0 p1 p2 pb0 sb1 hb2 hb3 sl1 hMH
  go_wp2_with fail
  refine (error_any E E w1 het1).mono ?_
  rintro e w2 ⟨rfl, hb5⟩
  have pb3 := pb2.step hb5
  have sb3 := sb2.step hb5
  have hb6 := below_via hb4 hb5
  have e1 : (E == E) = true := by simp
  have e2 : (M != M) = false := by simp
  rw [e1]
  clear pb2 sb2 hb4 hb5 het1 e1
  go_upto_if 168 with fail
  go_cut [6] (fun _ wy => wy = w2)
  case first =>
    clear h0 h1 hc hE ho
    go_wp2_with fail
    go_meet
    case rel => exact rfl
  case rest =>
  have hw2 := hcut.symm
  subst hw2
  refine ‹∀ (a : Act) (w : World), Code.wp _ _ _ a w → _› _ _ ?_
  exact fi7 ll hBL hc h0 h1 hE ho sl0 hT0 het0 sb3 pb3 hb6

set_option maxRecDepth 100000 in
set_option maxHeartbeats 8000000 in
theorem fi5 {l BL : List Bur.Sp} {q qb : Option Addr} {cap cb Bp : Nat} {a z n E F : Int} {w wx : World} {c0 c4 c5 c6 c8 c10 c11 c12 c13 c15 c16 c17 c18 c19 c20 c21 c22 c23 c24 c25 c26 c27 c28 c29 c30 c31 c32 c33 c34 c35 c36 c37 c38 c39 c40 c41 c42 c43 c44 c45 c46 c47 c48 c49 c50 c51 c52 c53 c54 c55 c56 c57 c58 c59 c60 c61 c62 c63 c64 c65 c66 c67 c68 c69 c70 c71 c72 c73 c74 c75 c76 c77 c78 c79 c80 c81 c82 c83 c84 c85 c86 c87 c88 c89 c90 c91 c92 c93 c94 c95 c96 c97 c98 c99 c100 c101 c102 c103 c104 c105 c106 c107 c108 c109 c110 c111 c112 c113 c114 c115 c116 c117 c118 c119 c120 c121 c122 c123 c124 c125 c126 c127 c128 c129 c130 c131 c132 c133 c134 c135 c136 c137 c138 c139 c140 c141 c142 c143 c144 c145 c146 c147 c148 c149 c150 c151 c152 c153 c154 c155 c156 c157 c158 c159 c160 c161 c162 c163 c164 c165 c166 c167 c168 c169 c170 c171 c172 c173 c174 c175 c176 c177 c178 c179 c180 c181 c182 c183 c184 c185 c186 c187 c188 c189 c190 c191 c192 c193 c194 c195 c196 c197 c198 c199 c200 c201 c202 c203 c204 c205 c206 c207 c208 c209 c210 c211 c212 c213 c214 c215 c216 c217 c218 c219 c220 c221 c222 c223 c224 c225 c226 c227 c228 c229 c230 c231 c232 c233 c234 c235 c236 c237 c238 c239 c240 c241 c242 c243 c244 c245 : Value} (ll : l.length ≤ 9223372036854775807) (hBL : BL.length ≤ 4294967296)
    (h0 : Hid (F = 0 → BL = Bur.bks (a, z) l ∧ Bur.bsF (a, z) l n = Bur.nnF (Bur.bst n none BL))) (h1 : Hid (F ≠ 0 → Bur.bsF (a, z) l n = F))
    (hE : Hid (Bur.gfF (a, z) l n = E))
    (sl0 : SpAt w q l) (hT0 : Tab w) (het0 : ErrType w) (sb : SpAt wx qb BL) (pb : Pb wx Bp (a, z)) (hb : Below w.heap.size w wx) :
    Code.wp Tryz.prog (dropSeq 19 (Tryz.f3.body.getD .skip)) (bodyPost Tryz.prog Tryz.f3 fun e w' => e = .returned (.bool true) ∧ Below w.heap.size w w') ⟨#[c0, .slice q l.length cap, .int .i64 n, .pointer (some ⟨Bp, 0, none⟩), c4, c5, c6, .int .i64 E, c8, .slice qb BL.length cb, c10, c11, c12, c13, .int .i64 F, c15, c16, c17, c18, c19, c20, c21, c22, c23, c24, c25, c26, c27, c28, c29, c30, c31, c32, c33, c34, c35, c36, c37, c38, c39, c40, c41, c42, c43, c44, c45, c46, c47, c48, c49, c50, c51, c52, c53, c54, c55, c56, c57, c58, c59, c60, c61, c62, c63, c64, c65, c66, c67, c68, c69, c70, c71, c72, c73, c74, c75, c76, c77, c78, c79, c80, c81, c82, c83, c84, c85, c86, c87, c88, c89, c90, c91, c92, c93, c94, c95, c96, c97, c98, c99, c100, c101, c102, c103, c104, c105, c106, c107, c108, c109, c110, c111, c112, c113, c114, c115, c116, c117, c118, c119, c120, c121, c122, c123, c124, c125, c126, c127, c128, c129, c130, c131, c132, c133, c134, c135, c136, c137, c138, c139, c140, c141, c142, c143, c144, c145, c146, c147, c148, c149, c150, c151, c152, c153, c154, c155, c156, c157, c158, c159, c160, c161, c162, c163, c164, c165, c166, c167, c168, c169, c170, c171, c172, c173, c174, c175, c176, c177, c178, c179, c180, c181, c182, c183, c184, c185, c186, c187, c188, c189, c190, c191, c192, c193, c194, c195, c196, c197, c198, c199, c200, c201, c202, c203, c204, c205, c206, c207, c208, c209, c210, c211, c212, c213, c214, c215, c216, c217, c218, c219, c220, c221, c222, c223, c224, c225, c226, c227, c228, c229, c230, c231, c232, c233, c234, c235, c236, c237, c238, c239, c240, c241, c242, c243, c244, c245], []⟩ wx := by
  conv => arg 2; whnf
  go_upto_block 0 with fail
  go_cut [17, 18] from 104 to 138 (fun b _ wy => ∃ c : Option Nat, b = .int .i64 (bi c) ∧ Hid (∀ j, c = some j → j < BL.length) ∧ Hid (F = 0 → Bur.bst n none BL = c.map fun j => (lo BL j, hi BL j)) ∧ Below wx.heap.size wx wy)
  case rest =>
    obtain ⟨c, rfl, hc, hB, hb1⟩ := hcut
    refine ‹∀ (a : Act) (w : World), Code.wp _ _ _ a w → _› _ _ ?_
    refine fi6 ll hBL hc (fun hF => ?_) h1 hE sl0 hT0 het0 (sb.step hb1) (pb.step hb1) (below_via hb hb1)
    obtain ⟨g1, g2⟩ := h0.out hF
    have g3 := hB.out hF
    refine ⟨by rw [g2, g3]; cases c <;> rfl, fun j hj => ?_⟩
    subst hj
    have g4 : Bur.bsF (a, z) l n = 0 := by rw [g2, g3]; rfl
    unfold Bur.bsS
    rw [if_pos g4, ← g1, g3]
    rfl
  case first =>
  clear h0 h1 hE sl0 hT0 het0 pb hb
  go_wp2_with fail
  go_loopw [17, 18] (fun b i wr => ∃ (k : Nat) (c : Option Nat), k ≤ BL.length ∧ i = .int .i64 k ∧ b = .int .i64 (bi c) ∧ Hid (∀ j, c = some j → j < k) ∧ Hid (F = 0 → Bur.bst n none BL = Bur.bst n (c.map fun j => (lo BL j, hi BL j)) (BL.drop k)) ∧ Below wx.heap.size wx wr) (fun _ i _ => BL.length - (intOf i).toNat)
  case atStart => exact ⟨0, none, by omega, rfl, rfl, (fun _ h => by cases h), (fun _ => rfl), below_self _⟩
  case round =>
    obtain ⟨k, c, hk, rfl, rfl, hc, R, hbw⟩ := hrel
    have hcl : Hid (∀ j, c = some j → j < BL.length) := fun j hj => Nat.lt_of_lt_of_le (hc.out j hj) hk
    cases hF : (F == 0)
    · have hF' : Hid (F ≠ 0) := by show ¬ _; simpa using hF
      clear sb R
      by_cases hlt : k < BL.length
      · have hlt' : (k : Int) < (BL.length : Int) := by omega
        go_wp2_with fail
        go_meet
        case rel => exact ⟨c, rfl, hcl, (fun h => absurd h hF'.out), hbw⟩
      · go_wp2_with fail
        go_meet
        case rel => exact ⟨c, rfl, hcl, (fun h => absurd h hF'.out), hbw⟩
    · have hF' : Hid (F = 0) := by show _ = _; simpa using hF
      have R1 : Hid _ := R.out hF'.out
      clear R
      by_cases hlt : k < BL.length
      · have hlt' : (k : Int) < (BL.length : Int) := by omega
        obtain ⟨b, off, rfl, hbl, hcc⟩ := sb (by omega)
        have hcb := bcell hbw
        have c1 : wr.cell? ⟨b, off + k * 2 + 1, none⟩ = some (.int .i64 (hi BL k)) := (hcb.1 _ _ hbl).trans (hcc k hlt).2
        have hd0 := drop_sp hlt
        obtain ⟨y, hy⟩ : ∃ y, hi BL k = y := ⟨_, rfl⟩
        have hyH : Hid _ := hy
        rw [hy] at c1
        have R2 : Hid (Bur.bst n none BL = Bur.bst n (c.map fun j => (lo BL j, hi BL j)) ((lo BL k, y) :: BL.drop (k + 1))) := by show _ = _; rw [R1.out, hd0, hy]
        clear hd0 hy R1
        by_cases hyn : y ≤ n
        · cases c with
          | none =>
            have R3 : Hid (Bur.bst n none BL = Bur.bst n ((some k).map fun j => (lo BL j, hi BL j)) (BL.drop (k + 1))) := by show _ = _; rw [R2.out, Option.map_none, Bur.bst_yes hyn (fun _ h => by cases h), Option.map_some, hyH.out]
            have hd : decide (bi none < 0) = true := by decide
            clear R2 hcb hcc sb hyH
            go_wp2_with fail
            go_quiet (fail)
            go_wp2_with fail
            exact ⟨⟨k + 1, some k, by omega, by go_num, rfl, (fun j hj => by cases hj; omega), fun _ => R3.out, below_drewN hbw _⟩, by simp [intOf]; omega⟩
          | some j =>
            have hjk := hc.out j rfl
            have hj' : (j : Int) < (BL.length : Int) := by omega
            have c2 : wr.cell? ⟨b, off + j * 2 + 1, none⟩ = some (.int .i64 (hi BL j)) := (hcb.1 _ _ hbl).trans (hcc j (by omega)).2
            have hb0 : bi (some j) = (j : Int) := rfl
            rw [hb0]
            have hd : decide ((j : Int) < 0) = false := by simp
            obtain ⟨v, hv⟩ : ∃ v, hi BL j = v := ⟨_, rfl⟩
            rw [hv] at c2
            by_cases hvy : v < y
            · have R3 : Hid (Bur.bst n none BL = Bur.bst n ((some k).map fun j => (lo BL j, hi BL j)) (BL.drop (k + 1))) := by show _ = _; rw [R2.out, Option.map_some, Bur.bst_yes hyn (fun s h => by cases h; show hi BL j < y; rw [hv]; exact hvy), Option.map_some, hyH.out]
              clear R2 hcb hcc sb hyH hv hb0
              go_wp2_with fail
              go_quiet (fail)
              go_wp2_with fail
              exact ⟨⟨k + 1, some k, by omega, by go_num, rfl, (fun j hj => by cases hj; omega), fun _ => R3.out, below_drewN hbw _⟩, by simp [intOf]; omega⟩
            · have R3 : Hid (Bur.bst n none BL = Bur.bst n ((some j).map fun j => (lo BL j, hi BL j)) (BL.drop (k + 1))) := by show _ = _; rw [R2.out, Option.map_some, Bur.bst_old (show ¬ hi BL j < y by rw [hv]; exact hvy)]
              clear R2 hcb hcc sb hyH hv hb0
              go_wp2_with fail
              go_quiet (fail)
              go_wp2_with fail
              exact ⟨⟨k + 1, some j, by omega, by go_num, rfl, (fun i hi => by cases hi; omega), fun _ => R3.out, below_drewN hbw _⟩, by simp [intOf]; omega⟩
        · have R3 : Hid (Bur.bst n none BL = Bur.bst n (c.map fun j => (lo BL j, hi BL j)) (BL.drop (k + 1))) := by show _ = _; rw [R2.out, Bur.bst_big hyn]
          have hyn2 : n < y := by omega
          have hd : decide (y ≤ n) = false := by simp; omega
          clear R2 hcb hcc sb hyH
          go_wp2_with fail
          go_quiet (fail)
          go_wp2_with fail
          exact ⟨⟨k + 1, c, by omega, by go_num, rfl, (fun j hj => Nat.lt_succ_of_lt (hc.out j hj)), fun _ => R3.out, below_drewN hbw _⟩, by simp [intOf]; omega⟩
      · have R2 : Hid (Bur.bst n none BL = c.map fun j => (lo BL j, hi BL j)) := by show _ = _; rw [R1.out, List.drop_eq_nil_of_le (by omega)]; cases c <;> rfl
        clear sb R1
        go_wp2_with fail
        go_meet
        case rel => exact ⟨c, rfl, hcl, (fun _ => R2.out), hbw⟩
end Go.Proofs.YtfhidiedmenliaaGreatDoor
