/- The walk of the law TreeChains: its last piece. -/
import Derived.Test.YtncimpicnhleeaaTrWalkF
import Derived.Deep.CutBlock
namespace Bur
theorem wit_ok {p q : Sp} (hp : OkP p) (hq : OkP q) : witF p.1 p.2 q.1 q.2 = 0 ∧ witB p.1 p.2 q.1 q.2 = inP p q := by
  have h : witF p.1 p.2 q.1 q.2 = 0 := (if_pos hp).trans hq
  refine ⟨h, ?_⟩
  simp only [witB, h, inP]
  rfl
theorem blw_len (l : List Sp) (p : Sp) (all : Bool) : (blw l p all).length ≤ l.length := List.length_filter_le _ _
end Bur
namespace Go.Proofs.Ytncimpicnhleeaa
open Go.RowKit

theorem at_mem {l : List Bur.Sp} {i : Nat} (hlt : i < l.length) : (lo l i, hi l i) ∈ l := by
  have : (lo l i, hi l i) = l[i] := by simp [lo, hi, List.getD, List.getElem?_eq_getElem hlt]
  rw [this]
  exact List.getElem_mem hlt

set_option maxRecDepth 100000 in
set_option maxHeartbeats 8000000 in
theorem ch3 {l D : List Bur.Sp} {q qd : Option Addr} {cap cd Bp : Nat} {a n : Int} {w wx : World} {c1 c2 c4 c5 c6 c7 c8 c9 c10 c11 c13 c14 c15 c16 c17 c18 c19 c20 c21 c22 c23 c24 c25 c26 c27 c28 c29 c30 c31 c32 c33 c34 c35 c36 c37 c38 c39 c40 c41 c42 c43 c44 c45 c46 c47 c48 c49 c50 c51 c52 c53 c54 c55 c56 c57 c58 c59 c60 c61 c62 c63 c64 c65 c66 c67 c68 c69 c70 c71 c72 c73 c74 c75 c76 c77 c78 c79 c80 c81 c82 c83 c84 c85 c86 c87 c88 c89 c90 c91 c92 c93 c94 c95 c96 c97 c98 c99 c100 c101 c102 c103 c104 c105 c106 c107 c108 c109 c110 c111 c112 c113 c114 c115 c116 c117 c118 c119 c120 c121 c122 c123 c124 c125 c126 c127 c128 c129 c130 c131 c132 c133 c134 c135 c136 c137 c138 c139 c140 c141 c142 c143 c144 c145 c146 c147 c148 c149 c150 c151 c152 c153 c154 c155 c156 c157 c158 c159 c160 c161 c162 c163 c164 c165 c166 c167 c168 c169 c170 c171 c172 c173 c174 c175 c176 c177 c178 c179 c180 c181 c182 c183 c184 c185 : Value} (ll : l.length ≤ 9223372036854775807) (dl : D.length ≤ 1000) (hOp : Hid (Bur.OkP (a, n)))
    (hD : Hid (∀ d ∈ D, Bur.OkP d ∧ Bur.inP d (a, n) = true ∧ Bur.tpF l d = 0 ∧ ∀ k ∈ Bur.abv l d, Bur.OkP k ∧ (Bur.inP k (a, n) = true → k = (a, n)))) (hA : Hid (∀ d, (Bur.abvS l d).length ≤ 1000000)) (sl : SpAt wx q l) (sD : SpAt wx qd D) (pb : PfAt wx Bp (a, n)) (hb : Below w.heap.size w wx) :
    Code.wp Try.prog (dropSeq 8 (Try.f3.body.getD .skip)) (bodyPost Try.prog Try.f3 fun e w' => e = .returned (.bool true) ∧ Below w.heap.size w w') ⟨#[.slice q l.length cap, c1, c2, .pointer (some ⟨Bp, 0, none⟩), c4, c5, c6, c7, c8, c9, c10, c11, .slice qd D.length cd, c13, c14, c15, c16, c17, c18, c19, c20, c21, c22, c23, c24, c25, c26, c27, c28, c29, c30, c31, c32, c33, c34, c35, c36, c37, c38, c39, c40, c41, c42, c43, c44, c45, c46, c47, c48, c49, c50, c51, c52, c53, c54, c55, c56, c57, c58, c59, c60, c61, c62, c63, c64, c65, c66, c67, c68, c69, c70, c71, c72, c73, c74, c75, c76, c77, c78, c79, c80, c81, c82, c83, c84, c85, c86, c87, c88, c89, c90, c91, c92, c93, c94, c95, c96, c97, c98, c99, c100, c101, c102, c103, c104, c105, c106, c107, c108, c109, c110, c111, c112, c113, c114, c115, c116, c117, c118, c119, c120, c121, c122, c123, c124, c125, c126, c127, c128, c129, c130, c131, c132, c133, c134, c135, c136, c137, c138, c139, c140, c141, c142, c143, c144, c145, c146, c147, c148, c149, c150, c151, c152, c153, c154, c155, c156, c157, c158, c159, c160, c161, c162, c163, c164, c165, c166, c167, c168, c169, c170, c171, c172, c173, c174, c175, c176, c177, c178, c179, c180, c181, c182, c183, c184, c185], []⟩ wx := by
  conv => arg 2; whnf
  go_wp2_with fail
  go_loopw [13] (fun i wr => ∃ k : Nat, k ≤ D.length ∧ i = .int .i64 k ∧ Below wx.heap.size wx wr) (fun i _ => D.length - (intOf i).toNat)
  case atStart => exact ⟨0, by omega, rfl, below_self _⟩
  case round =>
    obtain ⟨k, hk, rfl, hbw⟩ := hrel
    have hsz := hbw.size
    by_cases hlt : k < D.length
    · have hlt' : (k : Int) < (D.length : Int) := by omega
      obtain ⟨b, off, rfl, hbl, hc⟩ := sD (by omega)
      have hcb := bcell hbw
      have c0 : wr.cell? ⟨b, off + k * 2, none⟩ = some (.int .i64 (lo D k)) := (hcb.1 _ _ hbl).trans (hc k hlt).1
      have c1 : wr.cell? ⟨b, off + k * 2 + 1, none⟩ = some (.int .i64 (hi D k)) := (hcb.1 _ _ hbl).trans (hc k hlt).2
      obtain ⟨o1, o2, o3, o4⟩ := hD.out _ (at_mem hlt)
      obtain ⟨x, hx⟩ : ∃ x, lo D k = x := ⟨_, rfl⟩
      obtain ⟨y, hy⟩ : ∃ y, hi D k = y := ⟨_, rfl⟩
      rw [hx] at c0
      rw [hy] at c1
      rw [hx, hy] at o1 o2 o3 o4
      obtain ⟨e1, e2⟩ := Bur.wit_ok o1 hOp.out
      have E1 : Hid (ev (Bur.witF x y a n) = .nilIface) := by show _ = _; rw [e1]; rfl
      have E2 : Hid (Bur.witB x y a n = true) := e2.trans o2
      have E3 : Hid (ev (Bur.tpF l (x, y)) = .nilIface) := by show _ = _; rw [o3]; rfl
      have pbw := pb.step hbw
      obtain ⟨p0, p1, p2⟩ := pbw
      have slw := sl.step hbw
      have hbl2 : b < wr.heap.size := by omega
      have hk1 : Hid (k + 1 ≤ D.length) := hlt
      have hkM : Hid (D.length - (k + 1) < D.length - k) := by show _ < _; omega
      have C : Hid (∀ k ∈ Bur.abvS l (x, y), Bur.OkP k ∧ (Bur.inP k (a, n) = true → k = (a, n))) := by
        show ∀ k ∈ Bur.abvS l (x, y), _
        rw [show Bur.abvS l (x, y) = Bur.abv l (x, y) from if_pos o3]
        exact o4
      have hAl := hA.out (x, y)
      clear hcb hc o1 o2 o3 o4 e1 e2 hx hy hD hA sD
      obtain ⟨W, hW⟩ : ∃ W, W = wr := ⟨_, rfl⟩
      subst hW
      go_wp2_with fail
      go_upto_region 23 with fail
      go_region_held3 (fun wy => wy.cell? ⟨b, off + k * 2, none⟩ = some (.int .i64 x) ∧ wy.cell? ⟨b, off + k * 2 + 1, none⟩ = some (.int .i64 y) ∧ wy.cell? ⟨Bp, 0, none⟩ = some (.int .i64 a) ∧ wy.cell? ⟨Bp, 1, none⟩ = some (.int .i64 n)) (first | exact ⟨c0, c1, p1, p2⟩ | exact ⟨d0, d1, d2, d3⟩)
        (first | (go_at_call 5; refine (within_any _ _ _ _ _).mono ?_; rintro e w1 ⟨rfl, hb1⟩; rw [E1.out, E2.out]; have d0 := (hb1.cell (p := ⟨b, off + k * 2, none⟩) hbl2).trans c0; have d1 := (hb1.cell (p := ⟨b, off + k * 2 + 1, none⟩) hbl2).trans c1; have d2 := (hb1.cell (p := ⟨Bp, 0, none⟩) p0).trans p1; have d3 := (hb1.cell (p := ⟨Bp, 1, none⟩) p0).trans p2))
      have hb2 := below_via hbw.drew hb1
      have slw1 := (slw.step (below_self _).drew).step hb1
      have q0 : Bp < w1.heap.size := Nat.lt_of_lt_of_le p0 hb1.size
      clear hb1 c0 c1 p1 p2 hbw slw hbl2
      go_wp2_with fail
      refine (above_any q cap l (x, y) _ ll slw1).mono ?_
      rintro e w2 ⟨qc, cc, rfl, sc, hb3⟩
      rw [E3.out]
      have g2 := (hb3.cell (p := ⟨Bp, 0, none⟩) q0).trans d2
      have g3 := (hb3.cell (p := ⟨Bp, 1, none⟩) q0).trans d3
      have g0 : Bp < w2.heap.size := Nat.lt_of_lt_of_le q0 hb3.size
      have hb4 := below_via hb2 hb3
      obtain ⟨X, hX⟩ : ∃ X, Bur.abvS l (x, y) = X := ⟨_, rfl⟩
      rw [hX] at sc C hAl ⊢
      clear hb3 hb2 d0 d1 d2 d3 hX slw1 E1 E2 E3
      obtain ⟨V, hV⟩ : ∃ V, V = w2 := ⟨_, rfl⟩
      subst hV
      go_wp2_with fail
      go_loopw [17] (fun i wr => ∃ k : Nat, k ≤ X.length ∧ i = .int .i64 k ∧ Below V.heap.size V wr) (fun i _ => X.length - (intOf i).toNat)
      case atStart => exact ⟨0, by omega, rfl, below_self _⟩
      case round =>
        obtain ⟨j, hj, rfl, hbv⟩ := hrel
        by_cases hjl : j < X.length
        · have hjl' : (j : Int) < (X.length : Int) := by omega
          obtain ⟨bx, ox, rfl, hbx, hcx⟩ := sc (by omega)
          have hcb := bcell hbv
          have x0 : wr.cell? ⟨bx, ox + j * 2, none⟩ = some (.int .i64 (lo X j)) := (hcb.1 _ _ hbx).trans (hcx j hjl).1
          have x1 : wr.cell? ⟨bx, ox + j * 2 + 1, none⟩ = some (.int .i64 (hi X j)) := (hcb.1 _ _ hbx).trans (hcx j hjl).2
          have y2 := (hbv.cell (p := ⟨Bp, 0, none⟩) g0).trans g2
          have y3 := (hbv.cell (p := ⟨Bp, 1, none⟩) g0).trans g3
          have y0 : Bp < wr.heap.size := Nat.lt_of_lt_of_le g0 hbv.size
          have hbx2 : bx < wr.heap.size := Nat.lt_of_lt_of_le hbx hbv.size
          obtain ⟨o1, o2⟩ := C.out _ (at_mem hjl)
          obtain ⟨u, hu⟩ : ∃ u, lo X j = u := ⟨_, rfl⟩
          obtain ⟨v, hv⟩ : ∃ v, hi X j = v := ⟨_, rfl⟩
          rw [hu] at x0
          rw [hv] at x1
          rw [hu, hv] at o1 o2
          obtain ⟨e1, e2⟩ := Bur.wit_ok o1 hOp.out
          have E1 : Hid (ev (Bur.witF u v a n) = .nilIface) := by show _ = _; rw [e1]; rfl
          clear hcb hcx o1 e1 hu hv C sc
          obtain ⟨Y, hY⟩ : ∃ Y, Y = wr := ⟨_, rfl⟩
          subst hY
          cases hi : Bur.inP (u, v) (a, n)
          · have E2 : Hid (Bur.witB u v a n = false) := e2.trans hi
            clear e2 hi o2
            go_wp2_with fail
            go_region_held3 (fun wy => wy.cell? ⟨bx, ox + j * 2, none⟩ = some (.int .i64 u) ∧ wy.cell? ⟨bx, ox + j * 2 + 1, none⟩ = some (.int .i64 v) ∧ wy.cell? ⟨Bp, 0, none⟩ = some (.int .i64 a) ∧ wy.cell? ⟨Bp, 1, none⟩ = some (.int .i64 n)) (first | exact ⟨x0, x1, y2, y3⟩ | exact ⟨d0, d1, d2, d3⟩)
              (first | (go_at_call 5; refine (within_any _ _ _ _ _).mono ?_; rintro e w1 ⟨rfl, hb1⟩; rw [E1.out, E2.out]; have d0 := (hb1.cell (p := ⟨bx, ox + j * 2, none⟩) hbx2).trans x0; have d1 := (hb1.cell (p := ⟨bx, ox + j * 2 + 1, none⟩) hbx2).trans x1; have d2 := (hb1.cell (p := ⟨Bp, 0, none⟩) y0).trans y2; have d3 := (hb1.cell (p := ⟨Bp, 1, none⟩) y0).trans y3))
            have hb5 := below_via hbv.drew hb1
            clear x0 x1 y2 y3 hb1 hbv
            go_wp2_with fail
            go_quiet (fail)
            go_wp2_with fail
            exact ⟨⟨j + 1, by omega, by go_num, below_drewN hb5 _⟩, by simp [intOf]; omega⟩
          · have E2 : Hid (Bur.witB u v a n = true) := e2.trans hi
            have ho := o2 hi
            cases ho
            clear e2 hi o2
            have n1 : (a != a) = false := by simp
            have n2 : (n != n) = false := by simp
            go_wp2_with fail
            go_region_held3 (fun wy => wy.cell? ⟨bx, ox + j * 2, none⟩ = some (.int .i64 a) ∧ wy.cell? ⟨bx, ox + j * 2 + 1, none⟩ = some (.int .i64 n) ∧ wy.cell? ⟨Bp, 0, none⟩ = some (.int .i64 a) ∧ wy.cell? ⟨Bp, 1, none⟩ = some (.int .i64 n)) (first | exact ⟨x0, x1, y2, y3⟩ | exact ⟨d0, d1, d2, d3⟩)
              (first | (go_at_call 5; refine (within_any _ _ _ _ _).mono ?_; rintro e w1 ⟨rfl, hb1⟩; rw [E1.out, E2.out]; have d0 := (hb1.cell (p := ⟨bx, ox + j * 2, none⟩) hbx2).trans x0; have d1 := (hb1.cell (p := ⟨bx, ox + j * 2 + 1, none⟩) hbx2).trans x1; have d2 := (hb1.cell (p := ⟨Bp, 0, none⟩) y0).trans y2; have d3 := (hb1.cell (p := ⟨Bp, 1, none⟩) y0).trans y3))
            have hb5 := below_via hbv.drew hb1
            clear x0 x1 y2 y3 hb1 hbv
            go_wp2_with fail
            go_quiet (fail)
            go_wp2_with fail
            exact ⟨⟨j + 1, by omega, by go_num, below_drewN hb5 _⟩, by simp [intOf]; omega⟩
        · clear C sc
          go_wp2_with fail
          exact ⟨⟨k + 1, hk1.out, by go_num, below_via hb4 hbv⟩, by simp [intOf]; omega⟩
    · clear hD hA sD sl pb
      go_wp2_with fail
      go_ret
      exact ⟨rfl, below_via hb hbw⟩
end Go.Proofs.Ytncimpicnhleeaa
