/- The walk of the law CoverIs: its first pieces, and the whole. -/
import Derived.Test.YtfncclkmnkigoaaDoorCiLawA
namespace Go.Proofs.YtfncclkmnkigoaaDoor
open Go.RowKit

set_option maxRecDepth 100000 in
set_option maxHeartbeats 8000000 in
theorem ci2 {l r : List Bur.Sp} {a z : Int} {pl pp : Option Addr} {cl cp : Nat} {w wx : World} {c3 c4 c5 c6 c7 c8 c9 c10 c11 c12 c13 c14 c15 c16 c17 c18 c19 c20 c21 c22 c23 c24 c25 c26 c27 c28 c29 c30 c31 c32 c33 c34 c35 c36 c37 c38 c39 c40 c41 c42 c43 c44 c45 c46 c47 c48 c49 c50 c51 c52 c53 c54 c55 c56 c57 c58 c59 c60 c61 c62 c63 c64 c65 c66 c67 c68 c69 c70 c71 c72 c73 c74 c75 c76 c77 c78 c79 c80 c81 c82 c83 c84 c85 c86 c87 c88 c89 c90 c91 c92 c93 c94 c95 c96 c97 c98 c99 c100 c101 c102 c103 c104 c105 c106 c107 c108 : Value}
    (ll : l.length ≤ 9223372036854775807) (lr : r.length ≤ 9223372036854775807) (sl : SpAt wx pl l) (sr : SpAt wx pp r) (hT : Tab wx) (het : ErrType wx) (hb : Below w.heap.size w wx) :
    Code.wp Tryd.prog (dropSeq 8 (Tryd.f4.body.getD .skip)) (bodyPost Tryd.prog Tryd.f4 fun e w' => e = .returned (.bool true) ∧ Below w.heap.size w w') ⟨#[pfx a z, .slice pl l.length cl, .slice pp r.length cp, c3, c4, c5, c6, c7, c8, c9, c10, c11, c12, c13, c14, c15, c16, c17, c18, c19, c20, c21, c22, c23, c24, c25, c26, c27, c28, c29, c30, c31, c32, c33, c34, c35, c36, c37, c38, c39, c40, c41, c42, c43, c44, c45, c46, c47, c48, c49, c50, c51, c52, c53, c54, c55, c56, c57, c58, c59, c60, c61, c62, c63, c64, c65, c66, c67, c68, c69, c70, c71, c72, c73, c74, c75, c76, c77, c78, c79, c80, c81, c82, c83, c84, c85, c86, c87, c88, c89, c90, c91, c92, c93, c94, c95, c96, c97, c98, c99, c100, c101, c102, c103, c104, c105, c106, c107, c108], []⟩ wx := by
  have E1 : Hid _ := Bur.cvF_E l
  have S1 : Hid (Bur.cvS l = if Bur.cvF l = 0 then Bur.cvs l else []) := rfl
  have hfl := Bur.cvS_len l
  conv => arg 2; whnf
  go_wp2_with fail
  refine (refSetFault pl cl l wx ll sl).mono ?_
  rintro e w0 ⟨rfl, hb0⟩
  replace sl := sl.step hb0
  replace sr := sr.step hb0
  replace hT := hT.step hb0 hT.lt
  replace het := errStep het hb0
  replace hb := below_via hb hb0
  clear hb0
  obtain ⟨E, hEE⟩ : ∃ E, Hid (Bur.setF l = E) := ⟨_, rfl⟩
  rw [hEE.out]
  go_upto_if 42 with fail
  go_cut [7, 8] (fun f v wy => ∃ q cq, v = .slice q (Bur.cvS l).length cq ∧ f = .int .i64 (Bur.cvF l) ∧ SpAt wy q (Bur.cvS l) ∧ Below w0.heap.size w0 wy)
  case first =>
    cases hc : (E == 0)
    · have hc' : Hid (¬ Bur.setF l = 0) := by show ¬ _; rw [hEE.out]; simpa using hc
      have F2 : Hid (Bur.cvF l = E) := by show _ = _; rw [E1.out, if_neg hc'.out, hEE.out]
      have S2 : Hid (Bur.cvS l = []) := by show _ = _; rw [S1.out, F2.out, if_neg (by simpa using hc)]
      go_wp2_with fail
      go_meet
      case rel => exact ⟨none, 0, by rw [S2.out]; rfl, by rw [F2.out], by rw [S2.out]; exact SpAt.nil _ _, below_self _⟩
    · have hE0 : E = 0 := by simpa using hc
      have ok := Bur.setF_ok (hEE.out.trans hE0)
      have l1 := ok.1
      have i1 := ok.2.2
      have F1 : Hid (Bur.cvF l = if 200 < (Bur.cvs l).length then 3 else 0) := by show _ = _; rw [E1.out, if_pos (hEE.out.trans hE0)]
      have hE0' : Hid (E = 0) := hE0
      clear ok hE0
      go_wp2_with fail
      refine (refCoverOf pl cl l w0 l1 i1 sl).mono ?_
      rintro e w2 ⟨q, cq, rfl, sq, hb2⟩
      clear i1
      obtain ⟨n, hn⟩ : ∃ n, Hid ((Bur.cvs l).length = n) := ⟨_, rfl⟩
      rw [hn.out]
      by_cases h200 : 200 < n
      · have F2 : Hid (Bur.cvF l = 3) := by show _ = _; rw [F1.out, hn.out, if_pos h200]
        have S2 : Hid (Bur.cvS l = []) := by show _ = _; rw [S1.out, if_neg (by rw [F2.out]; decide)]
        have h200' : (200 : Int) < (n : Int) := by omega
        clear sq
        go_wp2_with fail
        go_meet
        case rel => exact ⟨none, 0, by rw [S2.out]; rfl, by rw [F2.out], by rw [S2.out]; exact SpAt.nil _ _, hb2⟩
      · have F2 : Hid (Bur.cvF l = 0) := by show _ = _; rw [F1.out, hn.out, if_neg h200]
        have S2 : Hid (Bur.cvS l = Bur.cvs l) := by show _ = _; rw [S1.out, if_pos F2.out]
        have h200' : (n : Int) ≤ 200 := by omega
        go_wp2_with fail
        go_meet
        case rel => exact ⟨q, cq, by rw [S2.out, hn.out], by rw [F2.out, hE0'.out], by rw [S2.out]; exact sq, hb2⟩
  case rest =>
  obtain ⟨q, cq, rfl, rfl, sq, hb2⟩ := hcut
  clear E1 S1
  replace sl := sl.step hb2
  replace sr := sr.step hb2
  replace hT := hT.step hb2 hT.lt
  replace het := errStep het hb2
  replace hb := below_via hb hb2
  clear hb2
  obtain ⟨V, hV⟩ : ∃ V, V = wc := ⟨_, rfl⟩
  subst hV
  obtain ⟨F, hF⟩ : ∃ F, Hid (Bur.cvF l = F) := ⟨_, rfl⟩
  rw [hF.out]
  go_wp2_with fail
  refine (coverSet pl cl l V ll sl hT).mono ?_
  rintro e w1 ⟨q2, cq2, rfl, s2, hb2⟩
  rw [hF.out]
  replace sq := sq.step hb2
  replace sr := sr.step hb2
  replace hT := hT.step hb2 hT.lt
  replace het := errStep het hb2
  replace hb := below_via hb hb2
  clear hb2 sl
  go_wp2_with fail
  refine (error_any F F w1 het).mono ?_
  rintro e w2 ⟨rfl, hb2⟩
  rw [beq_self_eq_true]
  replace sq := sq.step hb2
  replace s2 := s2.step hb2
  replace sr := sr.step hb2
  replace hT := hT.step hb2 hT.lt
  replace het := errStep het hb2
  replace hb := below_via hb hb2
  clear hb2
  go_wp2_with fail
  refine (prefixes_same q2 q cq2 cq (Bur.cvS l) w2 (by omega) s2 sq).mono ?_
  rintro e w3 ⟨rfl, hb2⟩
  replace sr := sr.step hb2
  replace hT := hT.step hb2 hT.lt
  replace het := errStep het hb2
  replace hb := below_via hb hb2
  clear hb2 s2 sq
  go_upto_if 64 with fail
  go_cut [6] (fun _ wy => wy = w3)
  case first =>
    go_wp2_with fail
    go_meet
    case rel => exact rfl
  case rest =>
  subst hcut
  refine ‹∀ (a : Act) (w : World), Code.wp _ _ _ a w → _› _ _ ?_
  exact ci3 lr sr hT het hb

set_option maxRecDepth 100000 in
set_option maxHeartbeats 8000000 in
theorem law_is (a z : Int) (l r : List Bur.Sp) (pl pp : Option Addr) (cl cp : Nat) (w : World) (ll : l.length ≤ 9223372036854775807) (lr : r.length ≤ 9223372036854775807) (sl : SpAt w pl l) (sr : SpAt w pp r) (hT : Tab w) (het : ErrType w) :
    Calls Tryd.prog 4 #[pfx a z, .slice pl l.length cl, .slice pp r.length cp] w fun e w' => e = .returned (.bool true) ∧ Below w.heap.size w w' := by
  obtain ⟨o1, o2⟩ := Bur.cv_one a z
  have E1 : Hid _ := o1
  have S1 : Hid _ := o2
  have hfl := Bur.cvS_len [(a, z)]
  clear o1 o2
  go_enter Tryd.func4, Tryd.ntmps4
  go_wp2_with fail
  have x0 : (w.alloc (.cells #[.int .i64 a, .int .i64 z] 26)).cell? ⟨w.heap.size, 0, none⟩ = some (.int .i64 a) := by simp
  have x1 : (w.alloc (.cells #[.int .i64 a, .int .i64 z] 26)).cell? ⟨w.heap.size, 1, none⟩ = some (.int .i64 z) := by simp
  have hb0 : Below w.heap.size w (w.alloc (.cells #[.int .i64 a, .int .i64 z] 26)) := below_al (below_self _) _
  refine (refSpanFault a z _).mono ?_
  rintro e w1 ⟨rfl, hb1⟩
  have d0 := (hb1.cell (World.block_lt_of_cell? _ _ x0)).trans x0
  have d1 := (hb1.cell (World.block_lt_of_cell? _ _ x1)).trans x1
  have hb := below_via hb0 hb1
  clear hb0 hb1 x0 x1
  replace sl := sl.step hb
  replace sr := sr.step hb
  replace hT := hT.step hb hT.lt
  replace het := errStep het hb
  obtain ⟨E, hEE⟩ : ∃ E, Hid (Bur.spF a z = E) := ⟨_, rfl⟩
  rw [hEE.out]
  obtain ⟨C, hC⟩ : ∃ C, Hid (Bur.cvS [(a, z)] = C) := ⟨_, rfl⟩
  rw [hC.out] at hfl
  go_upto_if 18 with fail
  go_cut [8] (fun v wy => ∃ q cq, v = .slice q C.length cq ∧ SpAt wy q C ∧ Below w1.heap.size w1 wy)
  case first =>
    cases hc : (E == 0)
    · have S2 : Hid (C = []) := by show _ = _; rw [← hC.out, S1.out, hEE.out, if_neg (by simpa using hc)]
      go_wp2_with fail
      go_meet
      case rel => exact ⟨none, 0, by rw [S2.out]; rfl, by rw [S2.out]; exact SpAt.nil _ _, below_self _⟩
    · have hE0 : Bur.spF a z = 0 := by rw [hEE.out]; simpa using hc
      have ok := Bur.spF_ok hE0
      have S2 : Hid (Bur.cov a z = C) := by show _ = _; rw [← hC.out, S1.out, if_pos hE0]
      have cv := coversAll a z w1 ok.1 ok.2.1 ok.2.2
      simp only [S2.out] at cv
      clear hE0
      go_wp2_with fail
      refine cv.mono ?_
      rintro e w2 ⟨v, rfl, own2, z2, hb2⟩
      clear cv
      obtain ⟨q, cq, rfl⟩ := own_form own2
      have hat := (spAt_ownP own2).2
      clear own2 z2
      go_wp2_with fail
      go_meet
      case rel => exact ⟨q, cq, rfl, hat, hb2⟩
  case rest =>
  obtain ⟨q, cq, rfl, sq, hb2⟩ := hcut
  replace sl := sl.step hb2
  replace sr := sr.step hb2
  replace hT := hT.step hb2 hT.lt
  replace het := errStep het hb2
  replace hb := below_via hb hb2
  have e0 := (hb2.cell (World.block_lt_of_cell? _ _ d0)).trans d0
  have e1 := (hb2.cell (World.block_lt_of_cell? _ _ d1)).trans d1
  clear hb2 d0 d1
  obtain ⟨V, hV⟩ : ∃ V, V = wc := ⟨_, rfl⟩
  subst hV
  have E2 : Hid (Bur.cvF [(a, z)] = E) := by show _ = _; rw [E1.out, hEE.out]
  have cO := coverOf a z V hT
  rw [hC.out, E2.out] at cO
  clear E1 S1 hEE
  go_wp2_with fail
  refine cO.mono ?_
  rintro e w2 ⟨q2, cq2, rfl, s2, hb2⟩
  replace sq := sq.step hb2
  replace sl := sl.step hb2
  replace sr := sr.step hb2
  replace hT := hT.step hb2 hT.lt
  replace het := errStep het hb2
  replace hb := below_via hb hb2
  clear hb2 e0 e1 cO
  go_wp2_with fail
  refine (error_any E E w2 het).mono ?_
  rintro e w3 ⟨rfl, hb2⟩
  rw [beq_self_eq_true]
  replace sq := sq.step hb2
  replace s2 := s2.step hb2
  replace sl := sl.step hb2
  replace sr := sr.step hb2
  replace hT := hT.step hb2 hT.lt
  replace het := errStep het hb2
  replace hb := below_via hb hb2
  clear hb2
  go_wp2_with fail
  refine (prefixes_same q2 q cq2 cq C w3 (by omega) s2 sq).mono ?_
  rintro e w4 ⟨rfl, hb2⟩
  replace sl := sl.step hb2
  replace sr := sr.step hb2
  replace hT := hT.step hb2 hT.lt
  replace het := errStep het hb2
  replace hb := below_via hb hb2
  clear hb2 s2 sq
  go_upto_if 38 with fail
  go_cut [6] (fun _ wy => wy = w4)
  case first =>
    go_wp2_with fail
    go_meet
    case rel => exact rfl
  case rest =>
  subst hcut
  refine ‹∀ (a : Act) (w : World), Code.wp _ _ _ a w → _› _ _ ?_
  exact ci2 ll lr sl sr hT het hb
end Go.Proofs.YtfncclkmnkigoaaDoor
