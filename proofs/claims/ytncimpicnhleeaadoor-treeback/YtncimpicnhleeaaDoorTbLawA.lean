/- The walk of the law TreeBack: its last pieces. -/
import Derived.Test.YtncimpicnhleeaaDoorTrWalkL
import Derived.Test.YtncimpicnhleeaaDoorTrWalkM
import Derived.Test.YtncimpicnhleeaaDoorTrMath4
namespace Bur
theorem rts_sum {l : List Sp} (h : treF l = 0) : (rts l).length + tot (fun p => (blw l p false).length) l = l.length := by
  rw [rts_keep l (0, 0)]
  exact below_sum h (0, 0)
end Bur
namespace Go.Proofs.YtncimpicnhleeaaDoor
open Go.RowKit

set_option maxRecDepth 100000 in
set_option maxHeartbeats 8000000 in
theorem tb4 {l : List Bur.Sp} {q : Option Addr} {cap : Nat} {w wx : World} {c1 c2 c3 c4 c5 c6 c7 c8 c9 c10 c11 c12 c13 c14 c15 c16 c17 c18 c19 c20 c21 c22 c23 c24 c25 c26 c27 c28 c29 c30 c31 c32 c33 c34 c35 c36 c37 c38 c39 c40 c41 c42 c43 c44 c45 c46 c47 c48 c49 c50 c51 c52 c53 c54 c55 c56 c57 c58 c59 c60 c61 c62 c63 c64 c65 c66 c67 c68 c69 c70 c71 c72 c73 c74 c75 c76 c77 c78 c79 c80 c81 c82 c83 c84 c85 c86 c87 c88 c89 c90 c91 c92 c93 c94 c95 c96 c97 c98 c99 c100 c101 c102 c103 c104 c105 c106 c107 c108 c109 c110 c111 c112 c113 c114 c115 c116 c117 c118 c119 c120 c121 c122 c123 c124 c125 c126 c127 c128 c129 c130 c131 c132 c133 c134 c135 c136 c137 c138 c139 c140 c141 c142 c143 c144 c145 c146 c147 c148 c149 c150 c151 c152 c153 c154 c155 c156 c157 c158 c159 c160 c161 c162 c163 c164 c165 c166 c167 c168 c169 c170 c171 c172 c173 c174 c175 c176 c177 c178 c179 c180 c181 c182 c183 : Value} (ll : l.length ≤ 9223372036854775807) (sl : SpAt wx q l) (hb : Below w.heap.size w wx) :
    Code.wp Tryd.prog (dropSeq 7 (Tryd.f4.body.getD .skip)) (bodyPost Tryd.prog Tryd.f4 fun e w' => e = .returned (.bool true) ∧ Below w.heap.size w w') ⟨#[.slice q l.length cap, c1, c2, c3, c4, c5, c6, c7, c8, c9, c10, c11, c12, c13, c14, c15, c16, c17, c18, c19, c20, c21, c22, c23, c24, c25, c26, c27, c28, c29, c30, c31, c32, c33, c34, c35, c36, c37, c38, c39, c40, c41, c42, c43, c44, c45, c46, c47, c48, c49, c50, c51, c52, c53, c54, c55, c56, c57, c58, c59, c60, c61, c62, c63, c64, c65, c66, c67, c68, c69, c70, c71, c72, c73, c74, c75, c76, c77, c78, c79, c80, c81, c82, c83, c84, c85, c86, c87, c88, c89, c90, c91, c92, c93, c94, c95, c96, c97, c98, c99, c100, c101, c102, c103, c104, c105, c106, c107, c108, c109, c110, c111, c112, c113, c114, c115, c116, c117, c118, c119, c120, c121, c122, c123, c124, c125, c126, c127, c128, c129, c130, c131, c132, c133, c134, c135, c136, c137, c138, c139, c140, c141, c142, c143, c144, c145, c146, c147, c148, c149, c150, c151, c152, c153, c154, c155, c156, c157, c158, c159, c160, c161, c162, c163, c164, c165, c166, c167, c168, c169, c170, c171, c172, c173, c174, c175, c176, c177, c178, c179, c180, c181, c182, c183], []⟩ wx := by
  conv => arg 2; whnf
  go_wp2_with fail
  refine (roots_any q cap l wx ll sl).mono ?_
  rintro e w1 ⟨qr, cr, rfl, sr, hb1⟩
  replace sl := sl.step hb1
  replace hb := below_via hb hb1
  clear hb1 sr
  by_cases hF : Bur.treF l = 0
  · have E0 : Hid (ev (Bur.treF l) = .nilIface) := by show _ = _; rw [hF]; rfl
    have sum0 : Hid ((Bur.rtsS l).length + Bur.tot (fun p => (Bur.blw l p false).length) (l.drop 0) = l.length) := by
      show _ = _
      rw [show Bur.rtsS l = Bur.rts l from if_pos hF]
      exact Bur.rts_sum hF
    have ll6 := (Bur.treF_ok hF).1
    have OKT : Hid (∀ p ∈ l, Bur.tpF l p = 0) := fun p hp => Bur.tpF_mk hF ((Bur.treF_ok hF).2.2 p hp)
    have hR : (Bur.rtsS l).length ≤ 60 := by have := sum0.out; omega
    obtain ⟨R, hRR⟩ : ∃ R, (Bur.rtsS l).length = R := ⟨_, rfl⟩
    rw [hRR] at sum0 hR ⊢
    rw [E0.out]
    clear hF hRR E0
    go_wp2_with fail
    go_loopw [23, 24] (fun s i wr => ∃ (k t : Nat), k ≤ l.length ∧ i = .int .i64 k ∧ s = .int .i64 t ∧ t ≤ 60 ∧ Hid (t + Bur.tot (fun p => (Bur.blw l p false).length) (l.drop k) = l.length) ∧ Below w1.heap.size w1 wr) (fun _ i _ => l.length - (intOf i).toNat)
    case atStart => exact ⟨0, R, by omega, rfl, rfl, hR, sum0, below_self _⟩
    case round =>
      obtain ⟨k, t, hk, rfl, rfl, ht, S, hbw⟩ := hrel
      by_cases hlt : k < l.length
      · have hlt' : (k : Int) < (l.length : Int) := by omega
        have slw := sl.step hbw
        obtain ⟨b, off, rfl, hbl, hc⟩ := sl (by omega)
        have hcb := bcell hbw
        have c0 : wr.cell? ⟨b, off + k * 2, none⟩ = some (.int .i64 (lo l k)) := (hcb.1 _ _ hbl).trans (hc k hlt).1
        have c1 : wr.cell? ⟨b, off + k * 2 + 1, none⟩ = some (.int .i64 (hi l k)) := (hcb.1 _ _ hbl).trans (hc k hlt).2
        have o1 := OKT.out (lo l k, hi l k) (by
          have e : (lo l k, hi l k) = l[k] := by simp [lo, hi, List.getD, List.getElem?_eq_getElem hlt]
          rw [e]
          exact List.getElem_mem hlt)
        have E1 : Hid (ev (Bur.tpF l (lo l k, hi l k)) = .nilIface) := by show _ = _; rw [o1]; rfl
        have S1 := S.out
        rw [drop_sp hlt, Bur.tot, ← show Bur.blwS l (lo l k, hi l k) = Bur.blw l (lo l k, hi l k) false from if_pos o1] at S1
        obtain ⟨x, hx⟩ : ∃ x, lo l k = x := ⟨_, rfl⟩
        obtain ⟨y, hy⟩ : ∃ y, hi l k = y := ⟨_, rfl⟩
        rw [hx] at c0
        rw [hy] at c1
        rw [hx, hy] at E1 S1
        have HB := below_any (some ⟨b, off, none⟩) cap l (x, y) wr ll slw
        rw [E1.out] at HB
        obtain ⟨D, hD⟩ : ∃ D, Bur.blwS l (x, y) = D := ⟨_, rfl⟩
        rw [hD] at HB S1
        have hDt : t + D.length ≤ 60 := by omega
        have S2 : Hid (t + D.length + Bur.tot (fun p => (Bur.blw l p false).length) (l.drop (k + 1)) = l.length) := by show _ = _; omega
        clear S S1 hcb hc o1 hx hy hD OKT sum0 E1 sl
        go_wp2_with fail
        refine HB.mono ?_
        rintro e w2 ⟨qd, cd, rfl, _, hb2⟩
        have hb3 := below_via hbw hb2
        clear hb2
        go_wp2_with fail
        exact ⟨⟨k + 1, t + D.length, by omega, by go_num, by go_num, by omega, S2, hb3⟩, by simp [intOf]; omega⟩
      · have hS : t = l.length := by
          have := S.out
          rw [List.drop_eq_nil_of_le (by omega)] at this
          simpa [Bur.tot] using this
        subst hS
        have hee : ((l.length : Int) == (l.length : Int)) = true := by simp
        clear S OKT sum0 sl
        go_wp2_with fail
        go_ret
        exact ⟨rfl, below_via hb hbw⟩
  · have E0 : Hid (ev (Bur.treF l) = errN (Bur.treF l)) := if_neg hF
    rw [E0.out]
    clear hF sl
    go_wp2_with fail
    go_ret
    exact ⟨rfl, hb⟩

set_option maxRecDepth 100000 in
set_option maxHeartbeats 8000000 in
theorem tb3 {l : List Bur.Sp} {q : Option Addr} {cap : Nat} {a : Int} {w wx : World} {c1 c3 c4 c5 c6 c7 c8 c9 c10 c11 c12 c13 c14 c15 c16 c17 c18 c19 c20 c21 c22 c23 c24 c25 c26 c27 c28 c29 c30 c31 c32 c33 c34 c35 c36 c37 c38 c39 c40 c41 c42 c43 c44 c45 c46 c47 c48 c49 c50 c51 c52 c53 c54 c55 c56 c57 c58 c59 c60 c61 c62 c63 c64 c65 c66 c67 c68 c69 c70 c71 c72 c73 c74 c75 c76 c77 c78 c79 c80 c81 c82 c83 c84 c85 c86 c87 c88 c89 c90 c91 c92 c93 c94 c95 c96 c97 c98 c99 c100 c101 c102 c103 c104 c105 c106 c107 c108 c109 c110 c111 c112 c113 c114 c115 c116 c117 c118 c119 c120 c121 c122 c123 c124 c125 c126 c127 c128 c129 c130 c131 c132 c133 c134 c135 c136 c137 c138 c139 c140 c141 c142 c143 c144 c145 c146 c147 c148 c149 c150 c151 c152 c153 c154 c155 c156 c157 c158 c159 c160 c161 c162 c163 c164 c165 c166 c167 c168 c169 c170 c171 c172 c173 c174 c175 c176 c177 c178 c179 c180 c181 c182 c183 : Value} (ll : l.length ≤ 9223372036854775807) (sl : SpAt wx q l) (hb : Below w.heap.size w wx) :
    Code.wp Tryd.prog (dropSeq 5 (Tryd.f4.body.getD .skip)) (bodyPost Tryd.prog Tryd.f4 fun e w' => e = .returned (.bool true) ∧ Below w.heap.size w w') ⟨#[.slice q l.length cap, c1, .int .i64 a, c3, c4, c5, c6, c7, c8, c9, c10, c11, c12, c13, c14, c15, c16, c17, c18, c19, c20, c21, c22, c23, c24, c25, c26, c27, c28, c29, c30, c31, c32, c33, c34, c35, c36, c37, c38, c39, c40, c41, c42, c43, c44, c45, c46, c47, c48, c49, c50, c51, c52, c53, c54, c55, c56, c57, c58, c59, c60, c61, c62, c63, c64, c65, c66, c67, c68, c69, c70, c71, c72, c73, c74, c75, c76, c77, c78, c79, c80, c81, c82, c83, c84, c85, c86, c87, c88, c89, c90, c91, c92, c93, c94, c95, c96, c97, c98, c99, c100, c101, c102, c103, c104, c105, c106, c107, c108, c109, c110, c111, c112, c113, c114, c115, c116, c117, c118, c119, c120, c121, c122, c123, c124, c125, c126, c127, c128, c129, c130, c131, c132, c133, c134, c135, c136, c137, c138, c139, c140, c141, c142, c143, c144, c145, c146, c147, c148, c149, c150, c151, c152, c153, c154, c155, c156, c157, c158, c159, c160, c161, c162, c163, c164, c165, c166, c167, c168, c169, c170, c171, c172, c173, c174, c175, c176, c177, c178, c179, c180, c181, c182, c183], []⟩ wx := by
  conv => arg 2; whnf
  go_wp2_with fail
  refine (find_any q cap l a wx ll sl).mono ?_
  rintro e w1 ⟨rfl, hb1⟩
  replace sl := sl.step hb1
  replace hb := below_via hb hb1
  clear hb1
  by_cases hF : Bur.fndF l a = 0
  · obtain ⟨g1, g2⟩ := Bur.fnd_last hF
    have E0 : Hid (ev (Bur.fndF l a) = .nilIface) := by show _ = _; rw [hF]; rfl
    have E1 : Hid (ev (Bur.tpF l (a, 32)) = .nilIface) := by show _ = _; rw [g1]; rfl
    rw [E0.out]
    obtain ⟨u, hu⟩ : ∃ u, (Bur.fndS l a).1 = u := ⟨_, rfl⟩
    obtain ⟨v, hv⟩ : ∃ v, (Bur.fndS l a).2 = v := ⟨_, rfl⟩
    have G : Hid (v < 32 → ∃ j, (Bur.abvS l (a, 32)).length = j + 1 ∧ lo (Bur.abvS l (a, 32)) j = u ∧ hi (Bur.abvS l (a, 32)) j = v) := fun hlt => by
      have hg := g2 (by rw [hv]; exact hlt)
      rw [← show Bur.abvS l (a, 32) = Bur.abv l (a, 32) from if_pos g1] at hg
      have hpos : (Bur.abvS l (a, 32)).length ≠ 0 := fun h => by rw [List.eq_nil_of_length_eq_zero h] at hg; cases hg
      refine ⟨(Bur.abvS l (a, 32)).length - 1, by omega, ?_, ?_⟩
      · rw [List.getLast?_eq_getElem?] at hg
        simp [lo, List.getD, hg, hu]
      · rw [List.getLast?_eq_getElem?] at hg
        simp [hi, List.getD, hg, hv]
    rw [hu, hv]
    have hAl : (Bur.abvS l (a, 32)).length ≤ 9223372036854775807 := Nat.le_trans (Bur.abvS_le l (a, 32)) (by omega)
    obtain ⟨U, hU⟩ : ∃ U, Bur.abvS l (a, 32) = U := ⟨_, rfl⟩
    have HA := fun (w : World) (s : SpAt w q l) => above_any q cap l (a, 32) w ll s
    rw [hU] at G hAl
    simp only [hU, E1.out] at HA
    clear hF g1 g2 hu hv hU E1 E0
    go_upto_if 108 with fail
    go_cut [6, 20, 21] from 109 to 149 (fun _ _ _ wy => Below (w1.alloc (.cells #[.int .i64 u, .int .i64 v] 24)).heap.size (w1.alloc (.cells #[.int .i64 u, .int .i64 v] 24)) wy)
    case rest =>
      refine ‹∀ (a : Act) (w : World), Code.wp _ _ _ a w → _› _ _ ?_
      exact tb4 ll ((sl.alloc _).step hcut) (below_via (below_al hb _) hcut)
    case first =>
    go_wp2_with fail
    refine (HA _ (sl.alloc _)).mono ?_
    rintro e w2 ⟨qu, cu, rfl, sU, hb2⟩
    have d0 : w2.cell? ⟨w1.heap.size, 0, none⟩ = some (.int .i64 u) := (hb2.cell (p := ⟨w1.heap.size, 0, none⟩) (by simp)).trans (by go_simp)
    have d1 : w2.cell? ⟨w1.heap.size, 1, none⟩ = some (.int .i64 v) := (hb2.cell (p := ⟨w1.heap.size, 1, none⟩) (by simp)).trans (by go_simp)
    have HB : Hid _ := hb2
    clear hb2 HA sl hb
    cases hd : decide (v < 32)
    · clear G sU
      go_upto_region 18 with fail
      go_quiet (fail)
      go_wp2_with fail
      go_meet
      case rel => exact below_drewN HB.out _
    · obtain ⟨j, hj, g1, g2⟩ := G.out (by simpa using hd)
      obtain ⟨b, off, rfl, hbl, hc⟩ := sU (by omega)
      obtain ⟨k0, k1⟩ := hc j (by omega)
      rw [g1] at k0
      rw [g2] at k1
      have hne : ((U.length : Int) == 0) = false := beq_false_of_ne (by omega)
      have hj1 : IntKind.i64.wrap ((U.length : Int) - 1) = (j : Int) := by rw [Bur.wrap_i64_id _ (by omega) (by omega)]; omega
      have hj2 : (0 : Int) ≤ (j : Int) := by omega
      have hj3 : (j : Int) < (U.length : Int) := by omega
      have n1 : (u != u) = false := by simp
      have n2 : (v != v) = false := by simp
      clear G sU hc hj g1 g2 hAl
      go_upto_region 18 with fail
      go_quiet (fail)
      go_wp2_with fail
      go_meet
      case rel => exact below_drewN HB.out _
  · have E0 : Hid (ev (Bur.fndF l a) = errN (Bur.fndF l a)) := if_neg hF
    rw [E0.out]
    obtain ⟨u, hu⟩ : ∃ u, (Bur.fndS l a).1 = u := ⟨_, rfl⟩
    obtain ⟨v, hv⟩ : ∃ v, (Bur.fndS l a).2 = v := ⟨_, rfl⟩
    rw [hu, hv]
    clear hF hu hv
    go_upto_if 108 with fail
    go_cut [6, 20, 21] from 109 to 149 (fun _ _ _ wy => wy = w1.alloc (.cells #[.int .i64 u, .int .i64 v] 24))
    case rest =>
      subst hcut
      refine ‹∀ (a : Act) (w : World), Code.wp _ _ _ a w → _› _ _ ?_
      exact tb4 ll (sl.alloc _) (below_al hb _)
    case first =>
    go_wp2_with fail
    go_meet
    case rel => exact rfl
end Go.Proofs.YtncimpicnhleeaaDoor
