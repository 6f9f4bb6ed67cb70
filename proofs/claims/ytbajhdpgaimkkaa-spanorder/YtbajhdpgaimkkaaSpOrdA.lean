/- The walk of the law SpanOrder. -/
import Derived.Test.YtbajhdpgaimkkaaSpWalkF
import Derived.Test.YtbajhdpgaimkkaaSpOrdMath
namespace Go.Proofs.Ytbajhdpgaimkkaa
open Go.RowKit

set_option maxRecDepth 100000 in
set_option maxHeartbeats 8000000 in
theorem order3 {l m : List Bur.Sp} {p pm : Option Addr} {cap cm : Nat} {w wx : World} {c1 c2 c4 c5 c6 c7 c8 c9 c10 c11 c12 c13 c14 c15 c16 c17 c18 c19 c20 c21 c22 c23 c24 c25 c26 c27 c28 c29 c30 c31 c32 c33 c34 c35 c36 c37 c38 c39 c40 c41 c42 c43 c44 c45 c46 c47 c48 c49 c50 c51 c52 c53 c54 c55 c56 c57 c58 c59 c60 c61 c62 c63 c64 c65 c66 c67 c68 c69 c70 c71 c72 c73 c74 c75 c76 c77 c78 c79 c80 c81 c82 c83 c84 c85 c86 c87 c88 c89 c90 c91 c92 c93 c94 c95 c96 c97 c98 c99 c100 c101 c102 c103 c104 c105 c106 c107 c108 c109 c110 c111 c112 c113 c114 c115 c116 c117 c118 c119 c120 c121 c122 c123 c124 c125 c126 c127 c128 c129 : Value} (hl : l.length ≤ 64) (hA : Bur.InA l) (hM : Bur.setF m = 0) (he : ∀ x, Bur.mem m x = Bur.mem l x) (hs : SpAt wx p l) (hm : SpAt wx pm m) (hb : Below w.heap.size w wx) :
    Code.wp Try.prog (dropSeq 12 (Try.f4.body.getD .skip)) (bodyPost Try.prog Try.f4 fun e w' => e = .returned (.bool true) ∧ Below w.heap.size w w') ⟨#[.slice p l.length cap, c1, c2, .slice pm m.length cm, c4, c5, c6, c7, c8, c9, c10, c11, c12, c13, c14, c15, c16, c17, c18, c19, c20, c21, c22, c23, c24, c25, c26, c27, c28, c29, c30, c31, c32, c33, c34, c35, c36, c37, c38, c39, c40, c41, c42, c43, c44, c45, c46, c47, c48, c49, c50, c51, c52, c53, c54, c55, c56, c57, c58, c59, c60, c61, c62, c63, c64, c65, c66, c67, c68, c69, c70, c71, c72, c73, c74, c75, c76, c77, c78, c79, c80, c81, c82, c83, c84, c85, c86, c87, c88, c89, c90, c91, c92, c93, c94, c95, c96, c97, c98, c99, c100, c101, c102, c103, c104, c105, c106, c107, c108, c109, c110, c111, c112, c113, c114, c115, c116, c117, c118, c119, c120, c121, c122, c123, c124, c125, c126, c127, c128, c129], []⟩ wx := by
  have hml := (Bur.setF_ok hM).1
  conv => arg 2; whnf
  go_wp2_with fail
  go_loopw [15] (fun i wr => ∃ k : Nat, k ≤ l.length ∧ i = .int .i64 k ∧ Below wx.heap.size wx wr) (fun i _ => l.length - (intOf i).toNat)
  case atStart => exact ⟨0, by omega, rfl, below_self _⟩
  case round =>
    obtain ⟨k, hk, rfl, hb2⟩ := hrel
    by_cases hlt : k < l.length
    · have hlt' : (k : Int) < (l.length : Int) := by omega
      have hin : (lo l k, hi l k) ∈ l := by
        have : (lo l k, hi l k) ∈ l.drop k := by rw [drop_sp hlt]; simp
        exact List.mem_of_mem_drop this
      have ok := hA _ hin
      simp only at ok
      have m1 : Bur.mem m (lo l k) = true := by rw [he, Bur.mem_iff]; exact ⟨_, hin, by simp only; omega, by simp only; omega⟩
      have m2 : Bur.mem m (hi l k) = true := by rw [he, Bur.mem_iff]; exact ⟨_, hin, by simp only; omega, by simp only; omega⟩
      have a1 : Bur.isA (lo l k) = true := Bur.isA_mk (by omega) (by omega)
      have a2 : Bur.isA (hi l k) = true := Bur.isA_mk (by omega) (by omega)
      have F1 : Hid (Bur.haF m (lo l k) = 0) := by show _ = _; simp [Bur.haF, hM, a1]
      have F2 : Hid (Bur.haF m (hi l k) = 0) := by show _ = _; simp [Bur.haF, hM, a2]
      have G1 : Hid (Bur.haB m (lo l k) = true) := by show _ = _; simp only [Bur.haB]; rw [F1.out, m1]; rfl
      have G2 : Hid (Bur.haB m (hi l k) = true) := by show _ = _; simp only [Bur.haB]; rw [F2.out, m2]; rfl
      obtain ⟨b, off, rfl, hbl, hc⟩ := hs (by omega)
      have hcb := bcell hb2
      have c0 : wr.cell? ⟨b, off + k * 2, none⟩ = some (.int .i64 (lo l k)) := (hcb.1 _ _ hbl).trans (hc k hlt).1
      have c1 : wr.cell? ⟨b, off + k * 2 + 1, none⟩ = some (.int .i64 (hi l k)) := (hcb.1 _ _ hbl).trans (hc k hlt).2
      have hm1 := hm.step hb2
      clear hin ok m1 m2 a1 a2 hc hs hcb hA he hM hm
      go_wp2_with fail
      refine (has pm cm m (lo l k) wr (by omega) hm1).mono ?_
      rintro e w1 ⟨rfl, hb3⟩
      rw [F1.out, G1.out, ev_0]
      replace c1 := (hb3.cell (World.block_lt_of_cell? _ _ c1)).trans c1
      replace hm1 := hm1.step hb3
      replace hb2 := below_via hb2 hb3
      clear hb3 c0 F1 G1
      go_wp2_with fail
      refine (has pm cm m (hi l k) w1 (by omega) hm1).mono ?_
      rintro e w2 ⟨rfl, hb3⟩
      rw [F2.out, G2.out, ev_0]
      replace hb2 := below_via hb2 hb3
      clear hb3 c1 F2 G2 hm1
      go_wp2_with fail
      exact ⟨⟨k + 1, by omega, by go_num, hb2⟩, by simp [intOf]; omega⟩
    · clear hA he hM hs hm
      go_wp2_with fail
      go_ret
      exact ⟨rfl, below_via hb hb2⟩

set_option maxRecDepth 100000 in
set_option maxHeartbeats 8000000 in
theorem order2 {l : List Bur.Sp} {p pm pb : Option Addr} {cap cm cb : Nat} {w wx : World} {c1 c2 c4 c5 c6 c8 c9 c10 c11 c12 c13 c14 c15 c16 c17 c18 c19 c20 c21 c22 c23 c24 c25 c26 c27 c28 c29 c30 c31 c32 c33 c34 c35 c36 c37 c38 c39 c40 c41 c42 c43 c44 c45 c46 c47 c48 c49 c50 c51 c52 c53 c54 c55 c56 c57 c58 c59 c60 c61 c62 c63 c64 c65 c66 c67 c68 c69 c70 c71 c72 c73 c74 c75 c76 c77 c78 c79 c80 c81 c82 c83 c84 c85 c86 c87 c88 c89 c90 c91 c92 c93 c94 c95 c96 c97 c98 c99 c100 c101 c102 c103 c104 c105 c106 c107 c108 c109 c110 c111 c112 c113 c114 c115 c116 c117 c118 c119 c120 c121 c122 c123 c124 c125 c126 c127 c128 c129 : Value} (hl : l.length ≤ 64) (hA : Bur.InA l) (hs : SpAt wx p l) (hm : SpAt wx pm (Bur.mk l)) (hr : SpAt wx pb l.reverse) (hb : Below w.heap.size w wx) :
    Code.wp Try.prog (dropSeq 7 (Try.f4.body.getD .skip)) (bodyPost Try.prog Try.f4 fun e w' => e = .returned (.bool true) ∧ Below w.heap.size w w') ⟨#[.slice p l.length cap, c1, c2, .slice pm (Bur.mk l).length cm, c4, c5, c6, .slice pb l.reverse.length cb, c8, c9, c10, c11, c12, c13, c14, c15, c16, c17, c18, c19, c20, c21, c22, c23, c24, c25, c26, c27, c28, c29, c30, c31, c32, c33, c34, c35, c36, c37, c38, c39, c40, c41, c42, c43, c44, c45, c46, c47, c48, c49, c50, c51, c52, c53, c54, c55, c56, c57, c58, c59, c60, c61, c62, c63, c64, c65, c66, c67, c68, c69, c70, c71, c72, c73, c74, c75, c76, c77, c78, c79, c80, c81, c82, c83, c84, c85, c86, c87, c88, c89, c90, c91, c92, c93, c94, c95, c96, c97, c98, c99, c100, c101, c102, c103, c104, c105, c106, c107, c108, c109, c110, c111, c112, c113, c114, c115, c116, c117, c118, c119, c120, c121, c122, c123, c124, c125, c126, c127, c128, c129], []⟩ wx := by
  obtain ⟨h1, h2, h3, h4⟩ := Bur.mk_set hA
  have eS : Bur.setF (Bur.mk l) = 0 := Bur.setF_mk (by omega) h1 h3
  have eR : Bur.mkF l.reverse = 0 := Bur.mkF_mk (by simpa using hl) (Bur.inA_reverse hA)
  have sR : Bur.mkS l.reverse = Bur.mk l := by unfold Bur.mkS; rw [if_pos eR, Bur.mk_reverse hA]
  have eM : Bur.mkF (Bur.mk l) = 0 := Bur.mkF_mk (by omega) h3
  have sM : Bur.mkS (Bur.mk l) = Bur.mk l := by unfold Bur.mkS; rw [if_pos eM, Bur.mk_mk hA]
  have hrl : l.reverse.length ≤ 9223372036854775807 := by simp; omega
  generalize hR : l.reverse = R at *
  generalize hMm : Bur.mk l = m at *
  have HS : Hid (Bur.setF m = 0) := eS
  have HR : Hid (Bur.mkF R = 0) := eR
  have HR2 : Hid (Bur.mkS R = m) := sR
  have HM : Hid (Bur.mkF m = 0) := eM
  have HM2 : Hid (Bur.mkS m = m) := sM
  have HE : Hid (∀ x, Bur.mem m x = Bur.mem l x) := h2
  clear hR hMm eS eR sR eM sM h1 h2 h3
  conv => arg 2; whnf
  go_wp2_with fail
  refine (make pb cb R wx hrl hr).mono ?_
  rintro e w1 ⟨pn, cn, rfl, hn, hb1⟩
  rw [HR.out, HR2.out, ev_0]
  rw [HR2.out] at hn
  replace hs := hs.step hb1
  replace hm := hm.step hb1
  replace hb := below_via hb hb1
  clear hb1 hr
  go_wp2_with fail
  refine (make pm cm m w1 (by omega) hm).mono ?_
  rintro e w2 ⟨pa, ca, rfl, ha, hb1⟩
  rw [HM.out, HM2.out, ev_0]
  rw [HM2.out] at ha
  replace hs := hs.step hb1
  replace hm := hm.step hb1
  replace hn := hn.step hb1
  replace hb := below_via hb hb1
  clear hb1
  go_wp2_with fail
  refine (spans_same pn pm cn cm m w2 (by omega) hn hm).mono ?_
  rintro e w3 ⟨rfl, hb1⟩
  replace hs := hs.step hb1
  replace hm := hm.step hb1
  replace ha := ha.step hb1
  replace hb := below_via hb hb1
  clear hb1 hn
  go_wp2_with fail
  refine (spans_same pa pm ca cm m w3 (by omega) ha hm).mono ?_
  rintro e w4 ⟨rfl, hb1⟩
  replace hs := hs.step hb1
  replace hm := hm.step hb1
  replace hb := below_via hb hb1
  clear hb1 ha
  go_wp2_with fail
  refine (check pm cm m w4 (by omega) hm).mono ?_
  rintro e w5 ⟨rfl, hb1⟩
  rw [HS.out, ev_0]
  replace hs := hs.step hb1
  replace hm := hm.step hb1
  replace hb := below_via hb hb1
  clear hb1
  go_upto_if 89 with fail
  go_cut [] (fun wy => wy = w5)
  case first =>
    go_wp2_with fail
    go_meet
    case rel => exact rfl
  case rest =>
  subst hcut
  refine ‹∀ (a : Act) (w : World), Code.wp _ _ _ a w → _› _ _ ?_
  exact order3 hl hA HS.out HE.out hs hm hb
end Go.Proofs.Ytbajhdpgaimkkaa
