/- The walk of the law TreeChains: its first pieces, and the whole. -/
import Derived.Test.YtncimpicnhleeaaTcLawA
namespace Bur
theorem fact8 : tpF [(0, 8), (0, 16)] (1, 32) = 0 ∧ abvS [(0, 8), (0, 16)] (1, 32) = [(0, 8), (0, 16)] := by decide
theorem abvS_len (l : List Sp) (p : Sp) : (abvS l p).length ≤ 60 := by
  unfold abvS
  split
  · rename_i h
    obtain ⟨t1, t2⟩ := tpF_ok h
    obtain ⟨o1, o2⟩ := treF_ok t1
    rw [← abv_keep o2 t2]
    exact Nat.le_trans (List.length_filter_le _ _) o1
  · simp
theorem blwS_len (l : List Sp) (p : Sp) : (blwS l p).length ≤ 60 := by
  unfold blwS
  split
  · rename_i h
    obtain ⟨t1, t2⟩ := tpF_ok h
    obtain ⟨o1, o2⟩ := treF_ok t1
    exact Nat.le_trans (blw_len l p false) o1
  · simp
end Bur
namespace Go.Proofs.Ytncimpicnhleeaa
open Go.RowKit

set_option maxRecDepth 100000 in
set_option maxHeartbeats 8000000 in
theorem ch2b {l : List Bur.Sp} {q : Option Addr} {cap Bp : Nat} {a n : Int} {w wx : World} {c1 c2 c4 c5 c6 c7 c8 c9 c10 c11 c12 c13 c14 c15 c16 c17 c18 c19 c20 c21 c22 c23 c24 c25 c26 c27 c28 c29 c30 c31 c32 c33 c34 c35 c36 c37 c38 c39 c40 c41 c42 c43 c44 c45 c46 c47 c48 c49 c50 c51 c52 c53 c54 c55 c56 c57 c58 c59 c60 c61 c62 c63 c64 c65 c66 c67 c68 c69 c70 c71 c72 c73 c74 c75 c76 c77 c78 c79 c80 c81 c82 c83 c84 c85 c86 c87 c88 c89 c90 c91 c92 c93 c94 c95 c96 c97 c98 c99 c100 c101 c102 c103 c104 c105 c106 c107 c108 c109 c110 c111 c112 c113 c114 c115 c116 c117 c118 c119 c120 c121 c122 c123 c124 c125 c126 c127 c128 c129 c130 c131 c132 c133 c134 c135 c136 c137 c138 c139 c140 c141 c142 c143 c144 c145 c146 c147 c148 c149 c150 c151 c152 c153 c154 c155 c156 c157 c158 c159 c160 c161 c162 c163 c164 c165 c166 c167 c168 c169 c170 c171 c172 c173 c174 c175 c176 c177 c178 c179 c180 c181 c182 c183 c184 c185 : Value} (ll : l.length ≤ 9223372036854775807) (hF : Hid (Bur.tpF l (a, n) = 0)) (sl : SpAt wx q l) (pb : PfAt wx Bp (a, n)) (hb : Below w.heap.size w wx) :
    Code.wp Try.prog (dropSeq 6 (Try.f3.body.getD .skip)) (bodyPost Try.prog Try.f3 fun e w' => e = .returned (.bool true) ∧ Below w.heap.size w w') ⟨#[.slice q l.length cap, c1, c2, .pointer (some ⟨Bp, 0, none⟩), c4, c5, c6, c7, c8, c9, c10, c11, c12, c13, c14, c15, c16, c17, c18, c19, c20, c21, c22, c23, c24, c25, c26, c27, c28, c29, c30, c31, c32, c33, c34, c35, c36, c37, c38, c39, c40, c41, c42, c43, c44, c45, c46, c47, c48, c49, c50, c51, c52, c53, c54, c55, c56, c57, c58, c59, c60, c61, c62, c63, c64, c65, c66, c67, c68, c69, c70, c71, c72, c73, c74, c75, c76, c77, c78, c79, c80, c81, c82, c83, c84, c85, c86, c87, c88, c89, c90, c91, c92, c93, c94, c95, c96, c97, c98, c99, c100, c101, c102, c103, c104, c105, c106, c107, c108, c109, c110, c111, c112, c113, c114, c115, c116, c117, c118, c119, c120, c121, c122, c123, c124, c125, c126, c127, c128, c129, c130, c131, c132, c133, c134, c135, c136, c137, c138, c139, c140, c141, c142, c143, c144, c145, c146, c147, c148, c149, c150, c151, c152, c153, c154, c155, c156, c157, c158, c159, c160, c161, c162, c163, c164, c165, c166, c167, c168, c169, c170, c171, c172, c173, c174, c175, c176, c177, c178, c179, c180, c181, c182, c183, c184, c185], []⟩ wx := by
  conv => arg 2; whnf
  have pb0 := pb
  obtain ⟨p0, p1, p2⟩ := pb
  go_wp2_with fail
  refine (below_any q cap l (a, n) wx ll sl).mono ?_
  rintro e w1 ⟨qd, cd, rfl, sD, hb1⟩
  have E0 : Hid (ev (Bur.tpF l (a, n)) = .nilIface) := by show _ = _; rw [hF.out]; rfl
  have hD : Hid (∀ d ∈ Bur.blwS l (a, n), Bur.OkP d ∧ Bur.inP d (a, n) = true ∧ Bur.tpF l d = 0 ∧ ∀ k ∈ Bur.abv l d, Bur.OkP k ∧ (Bur.inP k (a, n) = true → k = (a, n))) := by
    show ∀ d ∈ Bur.blwS l (a, n), _
    rw [show Bur.blwS l (a, n) = Bur.blw l (a, n) false from if_pos hF.out]
    exact fun d hd => Bur.blw_chain hF.out hd
  have hOp : Hid (Bur.OkP (a, n)) := (Bur.tpF_ok hF.out).2
  have dl := Bur.blwS_len l (a, n)
  rw [E0.out]
  obtain ⟨D, hDD⟩ : ∃ D, Bur.blwS l (a, n) = D := ⟨_, rfl⟩
  rw [hDD] at sD hD dl ⊢
  clear hDD E0 hF p0 p1 p2
  go_upto_if 113 with fail
  go_cut [4] (fun _ wy => wy = w1)
  case first =>
    go_wp2_with fail
    go_meet
    case rel => exact rfl
  case rest =>
  subst hcut
  refine ‹∀ (a : Act) (w : World), Code.wp _ _ _ a w → _› _ _ ?_
  exact ch3 ll (by omega) hOp hD (fun d => Nat.le_trans (Bur.abvS_len l d) (by omega)) (sl.step hb1) sD (pb0.step hb1) (below_via hb hb1)

set_option maxRecDepth 100000 in
set_option maxHeartbeats 8000000 in
theorem ch2 {l U : List Bur.Sp} {q qu : Option Addr} {cap cu Bp : Nat} {a n : Int} {w wx : World} {c1 c2 c4 c5 c6 c8 c9 c10 c11 c12 c13 c14 c15 c16 c17 c18 c19 c20 c21 c22 c23 c24 c25 c26 c27 c28 c29 c30 c31 c32 c33 c34 c35 c36 c37 c38 c39 c40 c41 c42 c43 c44 c45 c46 c47 c48 c49 c50 c51 c52 c53 c54 c55 c56 c57 c58 c59 c60 c61 c62 c63 c64 c65 c66 c67 c68 c69 c70 c71 c72 c73 c74 c75 c76 c77 c78 c79 c80 c81 c82 c83 c84 c85 c86 c87 c88 c89 c90 c91 c92 c93 c94 c95 c96 c97 c98 c99 c100 c101 c102 c103 c104 c105 c106 c107 c108 c109 c110 c111 c112 c113 c114 c115 c116 c117 c118 c119 c120 c121 c122 c123 c124 c125 c126 c127 c128 c129 c130 c131 c132 c133 c134 c135 c136 c137 c138 c139 c140 c141 c142 c143 c144 c145 c146 c147 c148 c149 c150 c151 c152 c153 c154 c155 c156 c157 c158 c159 c160 c161 c162 c163 c164 c165 c166 c167 c168 c169 c170 c171 c172 c173 c174 c175 c176 c177 c178 c179 c180 c181 c182 c183 c184 c185 : Value} (ll : l.length ≤ 9223372036854775807) (ul : U.length ≤ 60) (hF : Hid (Bur.tpF l (a, n) = 0))
    (hU : Hid (∀ x ∈ U, Bur.OkP x ∧ Bur.inP (a, n) x = true)) (hC : Hid (∀ (i : Nat) (x y : Bur.Sp), U[i]? = some x → U[i + 1]? = some y → Bur.inP y x = true ∧ x.2 < y.2)) (sl : SpAt wx q l) (sU : SpAt wx qu U) (pb : PfAt wx Bp (a, n)) (hb : Below w.heap.size w wx) :
    Code.wp Try.prog (dropSeq 5 (Try.f3.body.getD .skip)) (bodyPost Try.prog Try.f3 fun e w' => e = .returned (.bool true) ∧ Below w.heap.size w w') ⟨#[.slice q l.length cap, c1, c2, .pointer (some ⟨Bp, 0, none⟩), c4, c5, c6, .slice qu U.length cu, c8, c9, c10, c11, c12, c13, c14, c15, c16, c17, c18, c19, c20, c21, c22, c23, c24, c25, c26, c27, c28, c29, c30, c31, c32, c33, c34, c35, c36, c37, c38, c39, c40, c41, c42, c43, c44, c45, c46, c47, c48, c49, c50, c51, c52, c53, c54, c55, c56, c57, c58, c59, c60, c61, c62, c63, c64, c65, c66, c67, c68, c69, c70, c71, c72, c73, c74, c75, c76, c77, c78, c79, c80, c81, c82, c83, c84, c85, c86, c87, c88, c89, c90, c91, c92, c93, c94, c95, c96, c97, c98, c99, c100, c101, c102, c103, c104, c105, c106, c107, c108, c109, c110, c111, c112, c113, c114, c115, c116, c117, c118, c119, c120, c121, c122, c123, c124, c125, c126, c127, c128, c129, c130, c131, c132, c133, c134, c135, c136, c137, c138, c139, c140, c141, c142, c143, c144, c145, c146, c147, c148, c149, c150, c151, c152, c153, c154, c155, c156, c157, c158, c159, c160, c161, c162, c163, c164, c165, c166, c167, c168, c169, c170, c171, c172, c173, c174, c175, c176, c177, c178, c179, c180, c181, c182, c183, c184, c185], []⟩ wx := by
  conv => arg 2; whnf
  have hOp : Hid (Bur.OkP (a, n)) := (Bur.tpF_ok hF.out).2
  go_upto_block 0 with fail
  go_cut [4, 9, 10, 11] from 50 to 105 (fun _ _ _ _ wy => Below wx.heap.size wx wy)
  case rest =>
    refine ‹∀ (a : Act) (w : World), Code.wp _ _ _ a w → _› _ _ ?_
    exact ch2b ll hF (sl.step hcut) (pb.step hcut) (below_via hb hcut)
  case first =>
  clear sl hb hF
  go_wp2_with fail
  go_loopw [9] (fun i wr => ∃ k : Nat, k ≤ U.length ∧ i = .int .i64 k ∧ Below wx.heap.size wx wr) (fun i _ => U.length - (intOf i).toNat)
  case atStart => exact ⟨0, by omega, rfl, below_self _⟩
  case round =>
    obtain ⟨k, hk, rfl, hbw⟩ := hrel
    have hsz := hbw.size
    by_cases hlt : k < U.length
    · have hlt' : (k : Int) < (U.length : Int) := by omega
      obtain ⟨b, off, rfl, hbl, hc⟩ := sU (by omega)
      have hcb := bcell hbw
      have c0 : wr.cell? ⟨b, off + k * 2, none⟩ = some (.int .i64 (lo U k)) := (hcb.1 _ _ hbl).trans (hc k hlt).1
      have c1 : wr.cell? ⟨b, off + k * 2 + 1, none⟩ = some (.int .i64 (hi U k)) := (hcb.1 _ _ hbl).trans (hc k hlt).2
      have prev : Hid (0 < k → ∃ j x2 y2, k = j + 1 ∧ wr.cell? ⟨b, off + j * 2, none⟩ = some (.int .i64 x2) ∧ wr.cell? ⟨b, off + j * 2 + 1, none⟩ = some (.int .i64 y2) ∧ Bur.OkP (x2, y2) ∧ Bur.inP (lo U k, hi U k) (x2, y2) = true ∧ y2 < hi U k) := fun h => by
        have hlt2 : k - 1 < U.length := by omega
        have e1 : U[k - 1]? = some (lo U (k - 1), hi U (k - 1)) := by simp [lo, hi, List.getD, List.getElem?_eq_getElem hlt2]
        have e2 : U[k - 1 + 1]? = some (lo U k, hi U k) := by rw [show k - 1 + 1 = k from by omega]; simp [lo, hi, List.getD, List.getElem?_eq_getElem hlt]
        obtain ⟨r1, r2⟩ := hC.out _ _ _ e1 e2
        exact ⟨k - 1, _, _, by omega, (hcb.1 _ _ hbl).trans (hc (k - 1) hlt2).1, (hcb.1 _ _ hbl).trans (hc (k - 1) hlt2).2, (hU.out _ (at_mem hlt2)).1, r1, r2⟩
      obtain ⟨o1, o2⟩ := hU.out _ (at_mem hlt)
      obtain ⟨x, hx⟩ : ∃ x, lo U k = x := ⟨_, rfl⟩
      obtain ⟨y, hy⟩ : ∃ y, hi U k = y := ⟨_, rfl⟩
      rw [hx] at c0 prev
      rw [hy] at c1 prev
      rw [hx, hy] at o1 o2
      obtain ⟨e1, e2⟩ := Bur.wit_ok hOp.out o1
      have E1 : Hid (ev (Bur.witF a n x y) = .nilIface) := by show _ = _; rw [e1]; rfl
      have E2 : Hid (Bur.witB a n x y = true) := e2.trans o2
      have O1 : Hid (Bur.OkP (x, y)) := o1
      have pbw := pb.step hbw
      obtain ⟨p0, p1, p2⟩ := pbw
      have hbl2 : b < wr.heap.size := by omega
      clear hcb hc o1 o2 e1 e2 hx hy hU hC sU
      obtain ⟨W, hW⟩ : ∃ W, W = wr := ⟨_, rfl⟩
      subst hW
      go_upto_region 10 with fail
      go_region_held3 (fun wy => wy.cell? ⟨b, off + k * 2, none⟩ = some (.int .i64 x) ∧ wy.cell? ⟨b, off + k * 2 + 1, none⟩ = some (.int .i64 y) ∧ wy.cell? ⟨Bp, 0, none⟩ = some (.int .i64 a) ∧ wy.cell? ⟨Bp, 1, none⟩ = some (.int .i64 n)) (first | exact ⟨c0, c1, p1, p2⟩ | exact ⟨d0, d1, d2, d3⟩)
        (first | (go_at_call 5; refine (within_any _ _ _ _ _).mono ?_; rintro e w1 ⟨rfl, hb1⟩; rw [E1.out, E2.out]; have d0 := (hb1.cell (p := ⟨b, off + k * 2, none⟩) hbl2).trans c0; have d1 := (hb1.cell (p := ⟨b, off + k * 2 + 1, none⟩) hbl2).trans c1; have d2 := (hb1.cell (p := ⟨Bp, 0, none⟩) p0).trans p1; have d3 := (hb1.cell (p := ⟨Bp, 1, none⟩) p0).trans p2))
      have hb2 := below_via hbw.drew hb1
      have hbl3 : b < w1.heap.size := Nat.lt_of_lt_of_le hbl2 hb1.size
      by_cases hk0 : 0 < k
      · obtain ⟨j, x2, y2, hj, f0, f1, f2, f3, f4⟩ := prev.out hk0
        have d4 := (hb1.cell (p := ⟨b, off + j * 2, none⟩) hbl2).trans f0
        have d5 := (hb1.cell (p := ⟨b, off + j * 2 + 1, none⟩) hbl2).trans f1
        have hg : decide ((0 : Int) < (k : Int)) = true := by simp; omega
        have hj1 : IntKind.i64.wrap ((k : Int) - 1) = (j : Int) := by rw [Bur.wrap_i64_id _ (by omega) (by omega)]; omega
        have hj2 : (0 : Int) ≤ (j : Int) := by omega
        have hj3 : (j : Int) < (U.length : Int) := by omega
        have hj4 : j < U.length := by omega
        obtain ⟨e1, e2⟩ := Bur.wit_ok (p := (x, y)) (q := (x2, y2)) O1.out f2
        have E3 : Hid (ev (Bur.witF x y x2 y2) = .nilIface) := by show _ = _; rw [e1]; rfl
        have E4 : Hid (Bur.witB x y x2 y2 = true) := e2.trans f3
        have hle : decide (y ≤ y2) = false := by simp; omega
        clear prev f0 f1 f2 f3 f4 e1 e2 hj hb1 c0 c1 p1 p2 hbw d2 d3
        go_upto_region 14 with fail
        go_region_held3 (fun wy => wy.cell? ⟨b, off + k * 2, none⟩ = some (.int .i64 x) ∧ wy.cell? ⟨b, off + k * 2 + 1, none⟩ = some (.int .i64 y) ∧ wy.cell? ⟨b, off + j * 2, none⟩ = some (.int .i64 x2) ∧ wy.cell? ⟨b, off + j * 2 + 1, none⟩ = some (.int .i64 y2)) (first | exact ⟨d0, d1, d4, d5⟩ | exact ⟨g0, g1, g4, g5⟩)
          (first | (go_at_call 5; refine (within_any _ _ _ _ _).mono ?_; rintro e w2 ⟨rfl, hb3⟩; rw [E3.out, E4.out]; have g0 := (hb3.cell (p := ⟨b, off + k * 2, none⟩) hbl3).trans d0; have g1 := (hb3.cell (p := ⟨b, off + k * 2 + 1, none⟩) hbl3).trans d1; have g4 := (hb3.cell (p := ⟨b, off + j * 2, none⟩) hbl3).trans d4; have g5 := (hb3.cell (p := ⟨b, off + j * 2 + 1, none⟩) hbl3).trans d5))
        have hb4 := below_via hb2.drew hb3
        have hk1 : Hid (k + 1 ≤ U.length) := hlt
        have hkM : Hid (U.length - (k + 1) < U.length - k) := by show _ < _; omega
        clear hb3 hb2 d0 d1 d4 d5 hk0 p0 hbl hbl2 hbl3 hsz pb g0 g4
        obtain ⟨V, hV⟩ : ∃ V, V = w2 := ⟨_, rfl⟩
        subst hV
        go_upto_region 15 with fail
        go_cut [105] from 86 to 104 (fun c wy => c = .bool false ∧ ∃ n, wy = V.drewN n)
        case first =>
          clear hkM hk1 hb4
          go_quiet (fail)
          go_wp2_with fail
          go_meet
          case rel => exact ⟨rfl, _, rfl⟩
        case rest =>
        obtain ⟨rfl, n2, hw⟩ := hcut
        have hb5 := below_drewN hb4 n2
        rw [← hw] at hb5
        clear hw hb4 hj1 hj2 hj3 hj4 hg
        go_wp2_with fail
        exact ⟨⟨k + 1, hk1.out, by go_num, hb5⟩, by simp [intOf]; omega⟩
      · have hg : decide ((0 : Int) < (k : Int)) = false := by simp; omega
        clear prev hb1 c0 c1 p1 p2 hbw
        go_wp2_with fail
        exact ⟨⟨k + 1, by omega, by go_num, hb2⟩, by simp [intOf]; omega⟩
    · clear hU hC sU pb
      go_wp2_with fail
      go_meet
      case rel => exact hbw
end Go.Proofs.Ytncimpicnhleeaa
