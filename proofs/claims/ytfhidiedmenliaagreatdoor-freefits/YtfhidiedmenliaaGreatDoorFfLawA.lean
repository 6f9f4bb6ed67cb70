/- The walk of the law FreeFits: its mathematics, and its last piece. -/
import Derived.Test.YtfhidiedmenliaaGreatDoorFrWalkB
import Derived.Test.YtfhidiedmenliaaGreatDoorPfBox
import Derived.Test.YtfhidiedmenliaaGreatDoorAppAny
import Derived.Test.YtfhidiedmenliaaGreatDoorAdErr2
import Derived.Deep.CutBlock
namespace Bur
theorem wit_in {p q : Sp} (hp : OkP p) (hq : OkP q) : witF p.1 p.2 q.1 q.2 = 0 ∧ witB p.1 p.2 q.1 q.2 = inP p q := by
  have h : witF p.1 p.2 q.1 q.2 = 0 := (if_pos hp).trans hq
  refine ⟨h, ?_⟩
  simp only [witB, h, inP]
  rfl
theorem fits_q {p : Sp} {l : List Sp} {n : Int} (h : gfF p l n = 0) {q : Sp} (hq : q ∈ frs p l n) : OkP q ∧ q.2 = n ∧ inP q p = true ∧ (∀ r ∈ l, inP q r = false ∧ inP r q = false) ∧ (l.length < 60 → gfF p (l ++ [q]) n = 0 ∧ mnS p (l ++ [q]) n = mnS p l n - 1) := by
  obtain ⟨h0, h1, h2⟩ := gfF_ok h
  obtain ⟨a, b, c⟩ := frF_ok h0
  obtain ⟨o1, o2, o3, o4⟩ := (frs_mem a h1 h2 q).1 hq
  refine ⟨o1, o2, o3, fun r hr => mts_no ((fre_iff l q).1 o4 r hr), fun hl => ?_⟩
  have hf : frF p (l ++ [q]) = 0 := frF_mk a (by simp; omega) (fun r hr => by
    rcases List.mem_append.1 hr with hr | hr
    · exact c r hr
    · rw [List.mem_singleton.1 hr]; exact o1)
  have hg : gfF p (l ++ [q]) n = 0 := by
    unfold gfF
    rw [if_pos hf, lnF_mk h1 h2]
  refine ⟨hg, ?_⟩
  unfold mnS
  rw [if_pos hg, if_pos h]
  exact mnp_less a h1 h2 hq
theorem fits_first {p : Sp} {l : List Sp} {n : Int} (h : gfF p l n = 0) (hf : fsF p l n = 0) : fsS p l n ∈ frs p l n ∧ (∀ s ∈ frs p l n, (fsS p l n).1 ≤ s.1) ∧ (fsS p l n).2 = n := by
  obtain ⟨h0, h1, h2⟩ := gfF_ok h
  obtain ⟨a, b, c⟩ := frF_ok h0
  have e : fsS p l n = ((fsp p l n).getD 0, n) := if_pos hf
  unfold fsF at hf
  rw [if_pos h] at hf
  cases hx : fsp p l n with
  | none => rw [hx] at hf; cases hf
  | some x =>
    rw [hx] at e
    obtain ⟨g1, g2⟩ := fsp_some a h1 h2 hx
    rw [e]
    exact ⟨g1, g2, rfl⟩
theorem fits_none {p : Sp} {l : List Sp} {n : Int} (h : gfF p l n = 0) (hf : ¬ fsF p l n = 0) : fsF p l n = 4 ∧ mnS p l n = 0 := by
  obtain ⟨h0, h1, h2⟩ := gfF_ok h
  obtain ⟨a, b, c⟩ := frF_ok h0
  have e : fsF p l n = nnF (fsp p l n) := if_pos h
  rw [e] at hf ⊢
  cases hx : fsp p l n with
  | none => exact ⟨rfl, by unfold mnS; rw [if_pos h]; exact fsp_none a h1 h2 hx⟩
  | some x => rw [hx] at hf; exact absurd rfl hf
theorem fits_best {p : Sp} {l : List Sp} {n : Int} (h : gfF p l n = 0) (hb : bsF p l n = 0) : bsS p l n ∈ frs p l n ∧ (bsS p l n).2 = n := by
  obtain ⟨h0, h1, h2⟩ := gfF_ok h
  obtain ⟨a, b, c⟩ := frF_ok h0
  have e : bsS p l n = (((bst n none (bks p l)).getD (0, 0)).1, n) := if_pos hb
  unfold bsF at hb
  split at hb
  · rw [if_pos (lnF_mk h1 h2)] at hb
    cases hx : bst n none (bks p l) with
    | none => rw [hx] at hb; cases hb
    | some s =>
      rw [hx] at e
      obtain ⟨g1, g2⟩ := bst_mem n (bks p l) none (fun _ h => by cases h) s hx
      rcases g2 with g2 | g2
      · rw [e]
        exact ⟨frs_blk a h1 h2 g2 g1, rfl⟩
      · cases g2
  · rename_i hne
    exact absurd hb hne
theorem twS_mk {how : Int} {a b c : List Sp} (h1 : setF a = 0) (h2 : setF b = 0) (e : two how a b = c) (hl : c.length ≤ 64) : twF how a b = 0 ∧ twS how a b = c := by
  have f : twF how a b = 0 := by unfold twF; rw [if_pos h1, if_pos h2, e, if_neg (by omega)]
  exact ⟨f, by unfold twS; rw [if_pos f, e]⟩
end Bur
namespace Go.Proofs.YtfhidiedmenliaaGreatDoor
open Go.RowKit

set_option maxRecDepth 100000 in
set_option maxHeartbeats 8000000 in
theorem ff5 {l : List Bur.Sp} {q : Option Addr} {cap Bp : Nat} {a z : Int} {w wx : World} {c0 c2 c4 c5 c6 c7 c8 c9 c10 c11 c12 c13 c14 c15 c16 c17 c18 c19 c20 c21 c22 c23 c24 c25 c26 c27 c28 c29 c30 c31 c32 c33 c34 c35 c36 c37 c38 c39 c40 c41 c42 c43 c44 c45 c46 c47 c48 c49 c50 c51 c52 c53 c54 c55 c56 c57 c58 c59 c60 c61 c62 c63 c64 c65 c66 c67 c68 c69 c70 c71 c72 c73 c74 c75 c76 c77 c78 c79 c80 c81 c82 c83 c84 c85 c86 c87 c88 c89 c90 c91 c92 c93 c94 c95 c96 c97 c98 c99 c100 c101 c102 c103 c104 c105 c106 c107 c108 c109 c110 c111 c112 c113 c114 c115 c116 c117 c118 c119 c120 c121 c122 c123 c124 c125 c126 c127 c128 c129 c130 c131 c132 c133 c134 c135 c136 c137 c138 c139 c140 c141 c142 c143 c144 c145 c146 c147 c148 c149 c150 c151 c152 c153 c154 c155 c156 c157 c158 c159 c160 c161 c162 c163 c164 c165 c166 c167 c168 c169 c170 c171 c172 c173 c174 c175 c176 c177 c178 c179 c180 c181 c182 c183 c184 c185 c186 c187 c188 c189 c190 c191 c192 c193 c194 c195 c196 c197 c198 c199 c200 c201 c202 c203 c204 c205 c206 c207 c208 c209 c210 c211 c212 c213 c214 c215 c216 c217 c218 c219 c220 c221 c222 c223 c224 c225 c226 c227 c228 c229 c230 c231 c232 c233 c234 c235 c236 c237 : Value} (ll : l.length ≤ 9223372036854775807)
    (hF : Hid (Bur.frF (a, z) l = 0)) (sl : SpAt wx q l) (pb : Pb wx Bp (a, z)) (hb : Below w.heap.size w wx) :
    Code.wp Tryz.prog (dropSeq 9 (Tryz.f4.body.getD .skip)) (bodyPost Tryz.prog Tryz.f4 fun e w' => e = .returned (.bool true) ∧ Below w.heap.size w w') ⟨#[c0, .slice q l.length cap, c2, .pointer (some ⟨Bp, 0, none⟩), c4, c5, c6, c7, c8, c9, c10, c11, c12, c13, c14, c15, c16, c17, c18, c19, c20, c21, c22, c23, c24, c25, c26, c27, c28, c29, c30, c31, c32, c33, c34, c35, c36, c37, c38, c39, c40, c41, c42, c43, c44, c45, c46, c47, c48, c49, c50, c51, c52, c53, c54, c55, c56, c57, c58, c59, c60, c61, c62, c63, c64, c65, c66, c67, c68, c69, c70, c71, c72, c73, c74, c75, c76, c77, c78, c79, c80, c81, c82, c83, c84, c85, c86, c87, c88, c89, c90, c91, c92, c93, c94, c95, c96, c97, c98, c99, c100, c101, c102, c103, c104, c105, c106, c107, c108, c109, c110, c111, c112, c113, c114, c115, c116, c117, c118, c119, c120, c121, c122, c123, c124, c125, c126, c127, c128, c129, c130, c131, c132, c133, c134, c135, c136, c137, c138, c139, c140, c141, c142, c143, c144, c145, c146, c147, c148, c149, c150, c151, c152, c153, c154, c155, c156, c157, c158, c159, c160, c161, c162, c163, c164, c165, c166, c167, c168, c169, c170, c171, c172, c173, c174, c175, c176, c177, c178, c179, c180, c181, c182, c183, c184, c185, c186, c187, c188, c189, c190, c191, c192, c193, c194, c195, c196, c197, c198, c199, c200, c201, c202, c203, c204, c205, c206, c207, c208, c209, c210, c211, c212, c213, c214, c215, c216, c217, c218, c219, c220, c221, c222, c223, c224, c225, c226, c227, c228, c229, c230, c231, c232, c233, c234, c235, c236, c237], []⟩ wx := by
  obtain ⟨t1, t2, t3, t4, t5, t6, t7, t8⟩ := Bur.all_of hF.out
  have hgl := (Bur.gps_ps hF.out).2.1
  have hgs := Bur.gps_setF hF.out
  have E3 : Hid (ev (Bur.frF (a, z) l) = .nilIface) := by show _ = _; rw [hF.out]; rfl
  have E4 : Hid (Bur.gpS (a, z) l = Bur.gps (a, z) l) := if_pos hF.out
  have E5 : Hid (ev (Bur.psF l) = .nilIface) := by show _ = _; rw [t1]; rfl
  have E6 : Hid (ev (Bur.psF [(a, z)]) = .nilIface) := by show _ = _; rw [t2]; rfl
  have E7 : Hid (Bur.psS [(a, z)] = [Bur.pS (a, z)]) := t3
  obtain ⟨m1, m2⟩ := Bur.twS_mk t5 t4 rfl (Bur.setF_ok t6).1
  obtain ⟨u1, u2⟩ := Bur.twS_mk t6 hgs t7 (by simp)
  obtain ⟨v1, v2⟩ := Bur.twS_mk t6 hgs t8 (by simp)
  have hpl := Bur.psS_len l
  have hml := (Bur.setF_ok t6).1
  obtain ⟨M, hM⟩ : ∃ M, Bur.two 2 [Bur.pS (a, z)] (Bur.psS l) = M := ⟨_, rfl⟩
  obtain ⟨G, hG⟩ : ∃ G, Bur.gps (a, z) l = G := ⟨_, rfl⟩
  obtain ⟨T, hTT⟩ : ∃ T, Bur.psS l = T := ⟨_, rfl⟩
  obtain ⟨P, hPP⟩ : ∃ P, Bur.pS (a, z) = P := ⟨_, rfl⟩
  rw [hM] at m2 u1 u2 v1 v2 hml
  rw [hG] at u1 u2 v1 v2 hgl E4
  rw [hTT] at m1 m2 hpl
  rw [hPP] at m1 m2 u2 E7
  have M1 : Hid (ev (Bur.twF 2 [P] T) = .nilIface) := by show _ = _; rw [m1]; rfl
  have M2 : Hid (Bur.twS 2 [P] T = M) := m2
  have U1 : Hid (ev (Bur.twF 1 M G) = .nilIface) := by show _ = _; rw [u1]; rfl
  have U2 : Hid (Bur.twS 1 M G = [P]) := u2
  have V1 : Hid (ev (Bur.twF 2 M G) = .nilIface) := by show _ = _; rw [v1]; rfl
  have V2 : Hid (Bur.twS 2 M G = []) := v2
  have TT : Hid (Bur.psS l = T) := hTT
  clear t1 t2 t3 t4 t5 t6 t7 t8 hgs hM hG hTT hPP m1 m2 u1 u2 v1 v2 hF
  conv => arg 2; whnf
  have pb0 := pb
  obtain ⟨p0, p1, p2⟩ := pb
  simp only at p1 p2
  go_wp2_with fail
  refine (gaps a z q cap l wx ll sl).mono ?_
  rintro e w1 ⟨s, cs, rfl, sG, hb1⟩
  rw [E3.out, E4.out]
  rw [E4.out] at sG
  have pb1 := pb0.step hb1
  have sl1 := sl.step hb1
  have hb2 := below_via hb hb1
  clear hb hb1 pb0 sl p0 p1 p2 E3 E4
  go_wp2_with fail
  refine (coverSpans q cap l w1 ll sl1).mono ?_
  rintro e w2 ⟨t, ct, rfl, sT, hb3⟩
  rw [E5.out, TT.out]
  rw [TT.out] at sT
  have pb2 := pb1.step hb3
  have sG2 := sG.step hb3
  have hb4 := below_via hb2 hb3
  clear hb2 hb3 pb1 sG sl1 E5 TT
  obtain ⟨p0, p1, p2⟩ := pb2
  simp only at p1 p2
  go_wp2_with fail
  have s0 := sp_one w2 23 a z
  have c := coverSpans (some ⟨w2.heap.size, 0, none⟩) 1 [(a, z)] (w2.alloc (.cells #[.int .i64 a, .int .i64 z] 23)) (by simp) s0
  rw [show ([(a, z)] : List Bur.Sp).length = 1 from rfl] at c
  refine c.mono ?_
  rintro e w3 ⟨r, cr, rfl, sP, hb5⟩
  rw [E6.out, E7.out]
  rw [E7.out] at sP
  have bA := below_al (below_self w2) (.cells #[.int .i64 a, .int .i64 z] 23)
  have sG3 := (sG2.step bA).step hb5
  have sT3 := (sT.step bA).step hb5
  have hb6 := below_via (below_via hb4 bA) hb5
  clear hb4 hb5 bA sG2 sT s0 c p0 p1 p2 E6 E7
  rw [show ([P] : List Bur.Sp).length = 1 from rfl]
  go_wp2_with fail
  have cM := spanMeet r cr [P] t ct T w3 (by simp) (by omega) sP sT3
  rw [show ([P] : List Bur.Sp).length = 1 from rfl] at cM
  refine cM.mono ?_
  rintro e w4 ⟨i, ci, rfl, sM, hb7⟩
  rw [M1.out, M2.out]
  rw [M2.out] at sM
  have sG4 := sG3.step hb7
  have sP4 := sP.step hb7
  have hb8 := below_via hb6 hb7
  clear hb6 hb7 sG3 sP sT3 cM M1 M2
  go_wp2_with fail
  refine (spanUnion i ci M s cs G w4 (by omega) (by omega) sM sG4).mono ?_
  rintro e w5 ⟨j, cj, rfl, sU, hb9⟩
  rw [U1.out, U2.out]
  rw [U2.out] at sU
  have sG5 := sG4.step hb9
  have sP5 := sP4.step hb9
  have sM5 := sM.step hb9
  have hb10 := below_via hb8 hb9
  clear hb8 hb9 sG4 sP4 sM U1 U2
  rw [show ([P] : List Bur.Sp).length = 1 from rfl]
  go_wp2_with fail
  refine (spanMeet i ci M s cs G w5 (by omega) (by omega) sM5 sG5).mono ?_
  rintro e w6 ⟨k, ck, rfl, sV, hb11⟩
  rw [V1.out, V2.out]
  have sP6 := sP5.step hb11
  have sU6 := sU.step hb11
  have hb12 := below_via hb10 hb11
  clear hb10 hb11 sG5 sP5 sM5 sU V1 V2 sV
  rw [show ([] : List Bur.Sp).length = 0 from rfl]
  go_wp2_with fail
  have cS := spans_same j r cj cr [P] w6 (by simp) sU6 sP6
  rw [show ([P] : List Bur.Sp).length = 1 from rfl] at cS
  refine cS.mono ?_
  rintro e w7 ⟨rfl, hb13⟩
  have hb14 := below_via hb12 hb13
  clear hb12 hb13 cS sP6 sU6
  go_wp2_with fail
  go_ret
  exact ⟨rfl, hb14⟩
end Go.Proofs.YtfhidiedmenliaaGreatDoor
