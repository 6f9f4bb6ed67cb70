/- The walk of the law CoverIs: its last pieces. -/
import Derived.Test.YtfncclkmnkigoaaDoorCiRefC
import Derived.Test.YtfncclkmnkigoaaDoorCiRefD
import Derived.Test.YtfncclkmnkigoaaDoorAdErr2
namespace Bur
theorem hv_left {lo hi : Int} : ∀ (k : Nat) (a : Int), lo ≤ a → (hv k a lo hi).length ≤ k + 1
  | 0, a, _ => by rw [hv]; split <;> simp
  | k + 1, a, h => by
    have hp := pw_pos k
    have hps := pw_succ k
    rw [hv]
    split
    · simp
    · split
      · simp
      · rw [List.length_append]
        by_cases g : hi < a + 2 ^ k
        · have h1 := hv_left (lo := lo) (hi := hi) k a h
          have h2 : hv k (a + 2 ^ k) lo hi = [] := by
            cases k with
            | zero => rw [hv, if_pos (.inl g)]
            | succ k => rw [hv, if_pos (.inl g)]
          rw [h2]; simp; omega
        · have h1 := hv_left (lo := lo) (hi := hi) k (a + 2 ^ k) (by omega)
          have h2 : (hv k a lo hi).length ≤ 1 := by
            cases k with
            | zero => rw [hv]; split <;> simp
            | succ k => rw [hv]; split
                        · simp
                        · rw [if_pos ⟨h, by omega⟩]; simp
          omega
theorem hv_right {lo hi : Int} : ∀ (k : Nat) (a : Int), a + 2 ^ k - 1 ≤ hi → (hv k a lo hi).length ≤ k + 1
  | 0, a, _ => by rw [hv]; split <;> simp
  | k + 1, a, h => by
    have hp := pw_pos k
    have hps := pw_succ k
    rw [hv]
    split
    · simp
    · split
      · simp
      · rw [List.length_append]
        by_cases g : a + 2 ^ k ≤ lo
        · have h1 := hv_right (lo := lo) (hi := hi) k (a + 2 ^ k) (by omega)
          have h2 : hv k a lo hi = [] := by
            cases k with
            | zero => rw [hv, if_pos (.inr (by simp at g; omega))]
            | succ k => rw [hv, if_pos (.inr (by omega))]
          rw [h2]; simp; omega
        · have h1 := hv_right (lo := lo) (hi := hi) k a (by omega)
          have h2 : (hv k (a + 2 ^ k) lo hi).length ≤ 1 := by
            cases k with
            | zero => rw [hv]; split <;> simp
            | succ k => rw [hv]; split
                        · simp
                        · rw [if_pos ⟨by omega, by omega⟩]; simp
          omega
theorem hv_short {lo hi : Int} : ∀ (k : Nat) (a : Int), (hv k a lo hi).length ≤ 2 * (k + 1)
  | 0, a => by rw [hv]; split <;> simp
  | k + 1, a => by
    have hp := pw_pos k
    rw [hv]
    split
    · simp
    · split
      · simp; omega
      · rw [List.length_append]
        by_cases g : hi < a + 2 ^ k
        · have h1 := hv_short (lo := lo) (hi := hi) k a
          have h2 : hv k (a + 2 ^ k) lo hi = [] := by
            cases k with
            | zero => rw [hv, if_pos (.inl g)]
            | succ k => rw [hv, if_pos (.inl g)]
          rw [h2]; simp; omega
        · by_cases g2 : a + 2 ^ k ≤ lo
          · have h1 := hv_short (lo := lo) (hi := hi) k (a + 2 ^ k)
            have h2 : hv k a lo hi = [] := by
              cases k with
              | zero => rw [hv, if_pos (.inr (by simp at g2; omega))]
              | succ k => rw [hv, if_pos (.inr (by omega))]
            rw [h2]; simp; omega
          · have h1 := hv_right (lo := lo) (hi := hi) k a (by omega)
            have h2 := hv_left (lo := lo) (hi := hi) k (a + 2 ^ k) (by omega)
            omega
theorem cov_short {lo hi : Int} (h0 : 0 ≤ lo) (h1 : lo ≤ hi) (h2 : hi ≤ 4294967295) : (cov lo hi).length ≤ 66 := by
  rw [← hv_all h0 h1 h2]; exact hv_short 32 0
/-- One span: its fault, and its prefixes. -/
theorem cv_one (a z : Int) : cvF [(a, z)] = spF a z ∧ cvS [(a, z)] = if spF a z = 0 then cov a z else [] := by
  by_cases h : spF a z = 0
  · have ok := spF_ok h
    have hs : setF [(a, z)] = 0 := setF_mk (by simp) ⟨by show (-2 : Int) + 1 < a; omega, ok.2.1, trivial⟩ (fun s hs => by rw [List.mem_singleton.1 hs]; exact ⟨ok.1, ok.2.1, ok.2.2⟩)
    have hc : cvs [(a, z)] = cov a z := by simp [cvs]
    have hl := cov_short ok.1 ok.2.1 ok.2.2
    have hF : cvF [(a, z)] = 0 := by unfold cvF; rw [if_pos hs, hc, if_neg (by omega)]
    refine ⟨by rw [hF, h], ?_⟩
    unfold cvS
    rw [if_pos hF, if_pos h, hc]
  · have hs : setF [(a, z)] = spF a z := by
      unfold setF
      rw [if_neg (by simp), stF]
      exact if_neg h
    have hF : cvF [(a, z)] = spF a z := by unfold cvF; rw [hs, if_neg h]
    refine ⟨hF, ?_⟩
    unfold cvS
    rw [hF, if_neg h, if_neg h]
theorem cvF_E (l : List Sp) : cvF l = if setF l = 0 then (if 200 < (cvs l).length then 3 else 0) else setF l := rfl
theorem fw_E (l : List Sp) : fwF l = (if psF l = 0 then (if 200 < (cvs (psS l)).length then 3 else 0) else psF l) ∧ fwS l = if fwF l = 0 then cvs (psS l) else [] := by
  by_cases h : psF l = 0
  · have hs := (ps_set h).1
    have e1 : fwF l = cvF (psS l) := if_pos h
    have e2 : fwS l = cvS (psS l) := if_pos h
    have e3 : cvF (psS l) = if 200 < (cvs (psS l)).length then 3 else 0 := if_pos hs
    refine ⟨by rw [e1, e3, if_pos h], ?_⟩
    rw [e2, e1]; rfl
  · have e1 : fwF l = psF l := if_neg h
    have e2 : fwS l = [] := if_neg h
    exact ⟨by rw [e1, if_neg h], by rw [e2, e1, if_neg h]⟩
end Bur
namespace Go.Proofs.YtfncclkmnkigoaaDoor
open Go.RowKit

theorem errStep {w w' : World} (h : ErrType w) (hb : Below w.heap.size w w') : ErrType w' :=
  (hb.cell (World.block_lt_of_cell? _ _ h)).trans h

set_option maxRecDepth 100000 in
set_option maxHeartbeats 8000000 in
theorem ci4 {l r : List Bur.Sp} {a z : Int} {pl pp ps : Option Addr} {cl cp cs : Nat} {w wx : World} {c3 c4 c5 c6 c8 c9 c10 c11 c12 c14 c15 c16 c17 c18 c19 c20 c21 c22 c23 c24 c25 c26 c27 c28 c29 c30 c31 c32 c33 c34 c35 c36 c37 c38 c39 c40 c41 c42 c43 c44 c45 c46 c47 c48 c49 c50 c51 c52 c53 c54 c55 c56 c57 c58 c59 c60 c61 c62 c63 c64 c65 c66 c67 c68 c69 c70 c71 c72 c73 c74 c75 c76 c77 c78 c79 c80 c81 c82 c83 c84 c85 c86 c87 c88 c89 c90 c91 c92 c93 c94 c95 c96 c97 c98 c99 c100 c101 c102 c103 c104 c105 c106 c107 c108 : Value}
    (lr : r.length ≤ 9223372036854775807) (sr : SpAt wx pp r) (ss : SpAt wx ps (Bur.psS r)) (hT : Tab wx) (het : ErrType wx) (hb : Below w.heap.size w wx) :
    Code.wp Tryd.prog (dropSeq 20 (Tryd.f4.body.getD .skip)) (bodyPost Tryd.prog Tryd.f4 fun e w' => e = .returned (.bool true) ∧ Below w.heap.size w w') ⟨#[pfx a z, .slice pl l.length cl, .slice pp r.length cp, c3, c4, c5, c6, .int .i64 (Bur.psF r), c8, c9, c10, c11, c12, .slice ps (Bur.psS r).length cs, c14, c15, c16, c17, c18, c19, c20, c21, c22, c23, c24, c25, c26, c27, c28, c29, c30, c31, c32, c33, c34, c35, c36, c37, c38, c39, c40, c41, c42, c43, c44, c45, c46, c47, c48, c49, c50, c51, c52, c53, c54, c55, c56, c57, c58, c59, c60, c61, c62, c63, c64, c65, c66, c67, c68, c69, c70, c71, c72, c73, c74, c75, c76, c77, c78, c79, c80, c81, c82, c83, c84, c85, c86, c87, c88, c89, c90, c91, c92, c93, c94, c95, c96, c97, c98, c99, c100, c101, c102, c103, c104, c105, c106, c107, c108], []⟩ wx := by
  obtain ⟨hE, hS⟩ := Bur.fw_E r
  have E1 : Hid _ := hE
  have S1 : Hid _ := hS
  clear hE hS
  have hfl := Bur.fwS_len r
  obtain ⟨E, hEE⟩ : ∃ E, Hid (Bur.psF r = E) := ⟨_, rfl⟩
  have hset : E = 0 → Bur.setF (Bur.psS r) = 0 := fun h => (Bur.ps_set (hEE.out.trans h)).1
  rw [hEE.out]
  conv => arg 2; whnf
  go_upto_if 88 with fail
  go_cut [7, 8] (fun f v wy => ∃ q cq, v = .slice q (Bur.fwS r).length cq ∧ f = .int .i64 (Bur.fwF r) ∧ SpAt wy q (Bur.fwS r) ∧ Below wx.heap.size wx wy)
  case first =>
    cases hc : (E == 0)
    · have hc' : Hid (¬ Bur.psF r = 0) := by show ¬ _; rw [hEE.out]; simpa using hc
      have F2 : Hid (Bur.fwF r = E) := by show _ = _; rw [E1.out, if_neg hc'.out, hEE.out]
      have S2 : Hid (Bur.fwS r = []) := by show _ = _; rw [S1.out, F2.out, if_neg (by simpa using hc)]
      clear hset
      go_wp2_with fail
      go_meet
      case rel => exact ⟨none, 0, by rw [S2.out]; rfl, by rw [F2.out], by rw [S2.out]; exact SpAt.nil _ _, below_self _⟩
    · have hE0 : E = 0 := by simpa using hc
      have ok := Bur.setF_ok (hset hE0)
      have l1 := ok.1
      have i1 := ok.2.2
      have F1 : Hid (Bur.fwF r = if 200 < (Bur.cvs (Bur.psS r)).length then 3 else 0) := by show _ = _; rw [E1.out, if_pos (hEE.out.trans hE0)]
      have hE0' : Hid (E = 0) := hE0
      clear ok hset hE0
      go_wp2_with fail
      refine (refCoverOf ps cs (Bur.psS r) wx l1 i1 ss).mono ?_
      rintro e w2 ⟨q, cq, rfl, sq, hb2⟩
      clear i1
      obtain ⟨n, hn⟩ : ∃ n, Hid ((Bur.cvs (Bur.psS r)).length = n) := ⟨_, rfl⟩
      rw [hn.out]
      by_cases h200 : 200 < n
      · have F2 : Hid (Bur.fwF r = 3) := by show _ = _; rw [F1.out, hn.out, if_pos h200]
        have S2 : Hid (Bur.fwS r = []) := by show _ = _; rw [S1.out, if_neg (by rw [F2.out]; decide)]
        have h200' : (200 : Int) < (n : Int) := by omega
        clear sq
        go_wp2_with fail
        go_meet
        case rel => exact ⟨none, 0, by rw [S2.out]; rfl, by rw [F2.out], by rw [S2.out]; exact SpAt.nil _ _, hb2⟩
      · have F2 : Hid (Bur.fwF r = 0) := by show _ = _; rw [F1.out, hn.out, if_neg h200]
        have S2 : Hid (Bur.fwS r = Bur.cvs (Bur.psS r)) := by show _ = _; rw [S1.out, if_pos F2.out]
        have h200' : (n : Int) ≤ 200 := by omega
        go_wp2_with fail
        go_meet
        case rel => exact ⟨q, cq, by rw [S2.out, hn.out], by rw [F2.out, hE0'.out], by rw [S2.out]; exact sq, hb2⟩
  case rest =>
  obtain ⟨q, cq, rfl, rfl, sq, hb2⟩ := hcut
  clear E1 S1 hset
  replace sr := sr.step hb2
  replace hT := hT.step hb2 hT.lt
  replace het := errStep het hb2
  replace hb := below_via hb hb2
  clear hb2 ss
  obtain ⟨V, hV⟩ : ∃ V, V = wc := ⟨_, rfl⟩
  subst hV
  obtain ⟨F, hF⟩ : ∃ F, Hid (Bur.fwF r = F) := ⟨_, rfl⟩
  rw [hF.out]
  go_wp2_with fail
  refine (coverFewest pp cp r V lr sr hT).mono ?_
  rintro e w1 ⟨q2, cq2, rfl, s2, hb2⟩
  rw [hF.out]
  replace sq := sq.step hb2
  replace het := errStep het hb2
  replace hb := below_via hb hb2
  clear hb2
  go_wp2_with fail
  refine (error_any F F w1 het).mono ?_
  rintro e w2 ⟨rfl, hb2⟩
  rw [beq_self_eq_true]
  replace sq := sq.step hb2
  replace s2 := s2.step hb2
  replace hb := below_via hb hb2
  clear hb2
  go_wp2_with fail
  refine (prefixes_same q2 q cq2 cq (Bur.fwS r) w2 (by omega) s2 sq).mono ?_
  rintro e w3 ⟨rfl, hb2⟩
  replace hb := below_via hb hb2
  clear hb2 s2 sq sr
  go_wp2_with fail
  go_ret
  exact ⟨rfl, hb⟩

set_option maxRecDepth 100000 in
set_option maxHeartbeats 8000000 in
theorem ci3 {l r : List Bur.Sp} {a z : Int} {pl pp : Option Addr} {cl cp : Nat} {w wx : World} {c3 c4 c5 c6 c7 c8 c9 c10 c11 c12 c13 c14 c15 c16 c17 c18 c19 c20 c21 c22 c23 c24 c25 c26 c27 c28 c29 c30 c31 c32 c33 c34 c35 c36 c37 c38 c39 c40 c41 c42 c43 c44 c45 c46 c47 c48 c49 c50 c51 c52 c53 c54 c55 c56 c57 c58 c59 c60 c61 c62 c63 c64 c65 c66 c67 c68 c69 c70 c71 c72 c73 c74 c75 c76 c77 c78 c79 c80 c81 c82 c83 c84 c85 c86 c87 c88 c89 c90 c91 c92 c93 c94 c95 c96 c97 c98 c99 c100 c101 c102 c103 c104 c105 c106 c107 c108 : Value}
    (lr : r.length ≤ 9223372036854775807) (sr : SpAt wx pp r) (hT : Tab wx) (het : ErrType wx) (hb : Below w.heap.size w wx) :
    Code.wp Tryd.prog (dropSeq 15 (Tryd.f4.body.getD .skip)) (bodyPost Tryd.prog Tryd.f4 fun e w' => e = .returned (.bool true) ∧ Below w.heap.size w w') ⟨#[pfx a z, .slice pl l.length cl, .slice pp r.length cp, c3, c4, c5, c6, c7, c8, c9, c10, c11, c12, c13, c14, c15, c16, c17, c18, c19, c20, c21, c22, c23, c24, c25, c26, c27, c28, c29, c30, c31, c32, c33, c34, c35, c36, c37, c38, c39, c40, c41, c42, c43, c44, c45, c46, c47, c48, c49, c50, c51, c52, c53, c54, c55, c56, c57, c58, c59, c60, c61, c62, c63, c64, c65, c66, c67, c68, c69, c70, c71, c72, c73, c74, c75, c76, c77, c78, c79, c80, c81, c82, c83, c84, c85, c86, c87, c88, c89, c90, c91, c92, c93, c94, c95, c96, c97, c98, c99, c100, c101, c102, c103, c104, c105, c106, c107, c108], []⟩ wx := by
  have hpl := Bur.psS_len r
  conv => arg 2; whnf
  go_wp2_with fail
  refine (refSpansOf pp cp r wx lr sr).mono ?_
  rintro e w1 ⟨q, cq, rfl, sq, hb2⟩
  replace sr := sr.step hb2
  replace hT := hT.step hb2 hT.lt
  replace het := errStep het hb2
  replace hb := below_via hb hb2
  clear hb2
  go_wp2_with fail
  refine (coverSpans pp cp r w1 lr sr).mono ?_
  rintro e w2 ⟨q2, cq2, rfl, s2, hb2⟩
  replace sr := sr.step hb2
  replace sq := sq.step hb2
  replace hT := hT.step hb2 hT.lt
  replace het := errStep het hb2
  replace hb := below_via hb hb2
  clear hb2
  go_wp2_with fail
  refine (error_any (Bur.psF r) (Bur.psF r) w2 het).mono ?_
  rintro e w3 ⟨rfl, hb2⟩
  rw [beq_self_eq_true]
  replace sr := sr.step hb2
  replace sq := sq.step hb2
  replace s2 := s2.step hb2
  replace hT := hT.step hb2 hT.lt
  replace het := errStep het hb2
  replace hb := below_via hb hb2
  clear hb2
  go_wp2_with fail
  refine (spans_same q2 q cq2 cq (Bur.psS r) w3 (by omega) s2 sq).mono ?_
  rintro e w4 ⟨rfl, hb2⟩
  replace sr := sr.step hb2
  replace sq := sq.step hb2
  replace hT := hT.step hb2 hT.lt
  replace het := errStep het hb2
  replace hb := below_via hb hb2
  clear hb2 s2
  go_upto_if 86 with fail
  go_cut [6] (fun _ wy => wy = w4)
  case first =>
    go_wp2_with fail
    go_meet
    case rel => exact rfl
  case rest =>
  subst hcut
  refine ‹∀ (a : Act) (w : World), Code.wp _ _ _ a w → _› _ _ ?_
  exact ci4 lr sr sq hT het hb
end Go.Proofs.YtfncclkmnkigoaaDoor
