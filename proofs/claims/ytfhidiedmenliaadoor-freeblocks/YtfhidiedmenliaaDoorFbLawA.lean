/- The walk of the law FreeBlocks: its last piece, and its loop. -/
import Derived.Test.YtfhidiedmenliaaDoorFrWalkA
import Derived.Test.YtfhidiedmenliaaDoorPfBox
import Derived.Deep.CutBlock
namespace Bur
theorem wit_in {p q : Sp} (hp : OkP p) (hq : OkP q) : witF p.1 p.2 q.1 q.2 = 0 ∧ witB p.1 p.2 q.1 q.2 = inP p q := by
  have h : witF p.1 p.2 q.1 q.2 = 0 := (if_pos hp).trans hq
  refine ⟨h, ?_⟩
  simp only [witB, h, inP]
  rfl
end Bur
namespace Go.Proofs.YtfhidiedmenliaaDoor
open Go.RowKit

set_option maxRecDepth 100000 in
set_option maxHeartbeats 8000000 in
theorem fb3 {l D : List Bur.Sp} {q qd : Option Addr} {cap cd Bp : Nat} {a z : Int} {w wx : World} {c0 c3 c4 c5 c6 c8 c9 c10 c11 c12 c13 c14 c15 c16 c17 c18 c19 c20 c21 c22 c23 c24 c25 c26 c27 c28 c29 c30 c31 c32 c33 c34 c35 c36 c37 c38 c39 c40 c41 c42 c43 c44 c45 c46 c47 c48 c49 c50 c51 c52 c53 c54 c55 c56 c57 c58 c59 c60 c61 c62 c63 c64 c65 c66 c67 c68 c69 c70 c71 c72 c73 c74 c75 c76 c77 c78 c79 c80 c81 c82 c83 c84 c85 c86 c87 c88 c89 c90 c91 c92 c93 c94 c95 c96 c97 c98 c99 c100 c101 c102 c103 c104 c105 c106 c107 c108 c109 c110 c111 c112 c113 c114 c115 c116 c117 c118 c119 c120 c121 c122 c123 c124 c125 c126 c127 c128 c129 c130 c131 c132 c133 c134 c135 c136 c137 c138 c139 c140 c141 c142 c143 c144 c145 c146 c147 c148 c149 c150 c151 c152 c153 c154 c155 c156 c157 c158 c159 c160 c161 c162 c163 c164 c165 c166 : Value} (ll : l.length ≤ 9223372036854775807) (dl : D.length ≤ 200)
    (hF : Hid (Bur.frF (a, z) l = 0)) (hps : Hid (Bur.psF D = 0 ∧ Bur.psS D = Bur.gps (a, z) l)) (sl : SpAt wx q l) (sD : SpAt wx qd D) (pb : Pb wx Bp (a, z)) (hb : Below w.heap.size w wx) :
    Code.wp Tryd.prog (dropSeq 7 (Tryd.f3.body.getD .skip)) (bodyPost Tryd.prog Tryd.f3 fun e w' => e = .returned (.bool true) ∧ Below w.heap.size w w') ⟨#[c0, .slice q l.length cap, .pointer (some ⟨Bp, 0, none⟩), c3, c4, c5, c6, .slice qd D.length cd, c8, c9, c10, c11, c12, c13, c14, c15, c16, c17, c18, c19, c20, c21, c22, c23, c24, c25, c26, c27, c28, c29, c30, c31, c32, c33, c34, c35, c36, c37, c38, c39, c40, c41, c42, c43, c44, c45, c46, c47, c48, c49, c50, c51, c52, c53, c54, c55, c56, c57, c58, c59, c60, c61, c62, c63, c64, c65, c66, c67, c68, c69, c70, c71, c72, c73, c74, c75, c76, c77, c78, c79, c80, c81, c82, c83, c84, c85, c86, c87, c88, c89, c90, c91, c92, c93, c94, c95, c96, c97, c98, c99, c100, c101, c102, c103, c104, c105, c106, c107, c108, c109, c110, c111, c112, c113, c114, c115, c116, c117, c118, c119, c120, c121, c122, c123, c124, c125, c126, c127, c128, c129, c130, c131, c132, c133, c134, c135, c136, c137, c138, c139, c140, c141, c142, c143, c144, c145, c146, c147, c148, c149, c150, c151, c152, c153, c154, c155, c156, c157, c158, c159, c160, c161, c162, c163, c164, c165, c166], []⟩ wx := by
  have E1 : Hid (ev (Bur.psF D) = .nilIface) := by show _ = _; rw [hps.out.1]; rfl
  have E2 : Hid (Bur.psS D = Bur.gps (a, z) l) := hps.out.2
  have E3 : Hid (ev (Bur.frF (a, z) l) = .nilIface) := by show _ = _; rw [hF.out]; rfl
  have E4 : Hid (Bur.gpS (a, z) l = Bur.gps (a, z) l) := if_pos hF.out
  have hgl := (Bur.gps_ps hF.out).2.1
  clear hps hF
  obtain ⟨G, hG⟩ : ∃ G, Bur.gps (a, z) l = G := ⟨_, rfl⟩
  rw [hG] at E2 E4 hgl
  clear hG
  conv => arg 2; whnf
  go_wp2_with fail
  refine (coverSpans qd cd D wx (by omega) sD).mono ?_
  rintro e w1 ⟨r, cr, rfl, sr, hb1⟩
  rw [E1.out, E2.out]
  rw [E2.out] at sr
  have pb1 := pb.step hb1
  have sl1 := sl.step hb1
  have hb2 := below_via hb hb1
  clear hb hb1 pb sl sD
  obtain ⟨p0, p1, p2⟩ := pb1
  simp only at p1 p2
  go_wp2_with fail
  refine (gaps a z q cap l w1 ll sl1).mono ?_
  rintro e w2 ⟨s, cs, rfl, ss, hb3⟩
  rw [E3.out, E4.out]
  rw [E4.out] at ss
  have sr2 := sr.step hb3
  have hb4 := below_via hb2 hb3
  clear hb2 hb3 sl1 sr p0 p1 p2
  go_wp2_with fail
  refine (spans_same r s cr cs G w2 (by omega) sr2 ss).mono ?_
  rintro e w3 ⟨rfl, hb5⟩
  have hb6 := below_via hb4 hb5
  clear hb4 hb5 sr2 ss
  go_wp2_with fail
  go_ret
  exact ⟨rfl, hb6⟩

set_option maxRecDepth 100000 in
set_option maxHeartbeats 8000000 in
theorem fb2 {l D : List Bur.Sp} {q qd : Option Addr} {cap cd Bp : Nat} {a z : Int} {w wx : World} {c0 c3 c4 c5 c6 c8 c9 c10 c11 c12 c13 c14 c15 c16 c17 c18 c19 c20 c21 c22 c23 c24 c25 c26 c27 c28 c29 c30 c31 c32 c33 c34 c35 c36 c37 c38 c39 c40 c41 c42 c43 c44 c45 c46 c47 c48 c49 c50 c51 c52 c53 c54 c55 c56 c57 c58 c59 c60 c61 c62 c63 c64 c65 c66 c67 c68 c69 c70 c71 c72 c73 c74 c75 c76 c77 c78 c79 c80 c81 c82 c83 c84 c85 c86 c87 c88 c89 c90 c91 c92 c93 c94 c95 c96 c97 c98 c99 c100 c101 c102 c103 c104 c105 c106 c107 c108 c109 c110 c111 c112 c113 c114 c115 c116 c117 c118 c119 c120 c121 c122 c123 c124 c125 c126 c127 c128 c129 c130 c131 c132 c133 c134 c135 c136 c137 c138 c139 c140 c141 c142 c143 c144 c145 c146 c147 c148 c149 c150 c151 c152 c153 c154 c155 c156 c157 c158 c159 c160 c161 c162 c163 c164 c165 c166 : Value} (ll : l.length ≤ 9223372036854775807) (dl : D.length ≤ 200)
    (hF : Hid (Bur.frF (a, z) l = 0)) (hps : Hid (Bur.psF D = 0 ∧ Bur.psS D = Bur.gps (a, z) l)) (hE : Hid (∀ b ∈ D, Bur.OkP b ∧ Bur.inP b (a, z) = true ∧ ∀ q ∈ l, Bur.inP b q = false ∧ Bur.inP q b = false)) (hR : Hid (Bur.Rs a D))
    (sl : SpAt wx q l) (sD : SpAt wx qd D) (pb : Pb wx Bp (a, z)) (hb : Below w.heap.size w wx) :
    Code.wp Tryd.prog (dropSeq 5 (Tryd.f3.body.getD .skip)) (bodyPost Tryd.prog Tryd.f3 fun e w' => e = .returned (.bool true) ∧ Below w.heap.size w w') ⟨#[c0, .slice q l.length cap, .pointer (some ⟨Bp, 0, none⟩), c3, c4, c5, c6, .slice qd D.length cd, c8, c9, c10, c11, c12, c13, c14, c15, c16, c17, c18, c19, c20, c21, c22, c23, c24, c25, c26, c27, c28, c29, c30, c31, c32, c33, c34, c35, c36, c37, c38, c39, c40, c41, c42, c43, c44, c45, c46, c47, c48, c49, c50, c51, c52, c53, c54, c55, c56, c57, c58, c59, c60, c61, c62, c63, c64, c65, c66, c67, c68, c69, c70, c71, c72, c73, c74, c75, c76, c77, c78, c79, c80, c81, c82, c83, c84, c85, c86, c87, c88, c89, c90, c91, c92, c93, c94, c95, c96, c97, c98, c99, c100, c101, c102, c103, c104, c105, c106, c107, c108, c109, c110, c111, c112, c113, c114, c115, c116, c117, c118, c119, c120, c121, c122, c123, c124, c125, c126, c127, c128, c129, c130, c131, c132, c133, c134, c135, c136, c137, c138, c139, c140, c141, c142, c143, c144, c145, c146, c147, c148, c149, c150, c151, c152, c153, c154, c155, c156, c157, c158, c159, c160, c161, c162, c163, c164, c165, c166], []⟩ wx := by
  obtain ⟨hP, h60, hO'⟩ := Bur.frF_ok hF.out
  have hO : Hid _ := hO'
  have hOp : Hid (Bur.OkP (a, z)) := hP
  have ha0 : 0 ≤ a := hP.parts.2.2.1
  clear hP hO'
  conv => arg 2; whnf
  go_upto_block 0 with fail
  go_cut [9, 10, 4, 11, 12, 13, 14, 15, 16, 17, 18, 19, 20] from 62 to 143 (fun _ _ _ _ _ _ _ _ _ _ _ _ _ wy => Below wx.heap.size wx wy)
  case rest =>
    refine ‹∀ (a : Act) (w : World), Code.wp _ _ _ a w → _› _ _ ?_
    exact fb3 ll dl hF hps (sl.step hcut) (sD.step hcut) (pb.step hcut) (below_via hb hcut)
  case first =>
  clear hps hF hb
  go_wp2_with fail
  go_loopw [9, 10] (fun v i wr => ∃ (k : Nat) (t : Int), k ≤ D.length ∧ i = .int .i64 k ∧ v = .int .i64 t ∧ Hid (Bur.Rs (t + 1) (D.drop k)) ∧ Below wx.heap.size wx wr) (fun _ i _ => D.length - (intOf i).toNat)
  case atStart => exact ⟨0, -1, by omega, rfl, rfl, hR.out.mono (by omega), below_self _⟩
  case round =>
    obtain ⟨k, t, hk, rfl, rfl, R, hbw⟩ := hrel
    have hsz := hbw.size
    by_cases hlt : k < D.length
    · have hlt' : (k : Int) < (D.length : Int) := by omega
      obtain ⟨b, off, rfl, hbl, hc⟩ := sD (by omega)
      have hcb := bcell hbw
      have c0 : wr.cell? ⟨b, off + k * 2, none⟩ = some (.int .i64 (lo D k)) := (hcb.1 _ _ hbl).trans (hc k hlt).1
      have c1 : wr.cell? ⟨b, off + k * 2 + 1, none⟩ = some (.int .i64 (hi D k)) := (hcb.1 _ _ hbl).trans (hc k hlt).2
      obtain ⟨o1, o2, o3⟩ := hE.out _ (atMem hlt)
      have hd0 := drop_sp hlt
      have R1 := R.out
      rw [hd0] at R1
      obtain ⟨r1, r2⟩ := R1
      obtain ⟨x, hx⟩ : ∃ x, lo D k = x := ⟨_, rfl⟩
      obtain ⟨y, hy⟩ : ∃ y, hi D k = y := ⟨_, rfl⟩
      rw [hx] at c0
      rw [hy] at c1
      rw [hx, hy] at o1 o2 o3
      simp only [hx, hy] at r1 r2
      have hf : Bur.fault x y = 0 := o1
      obtain ⟨e1, e2⟩ := Bur.wit_in o1 hOp.out
      have E1 : Hid (ev (Bur.witF x y a z) = .nilIface) := by show _ = _; rw [e1]; rfl
      have E2 : Hid (Bur.witB x y a z = true) := e2.trans o2
      have E3 : Hid (ev (Bur.fault x y) = .nilIface) := by show _ = _; rw [hf]; rfl
      have E4 : Hid (Bur.endA x y = x) := if_pos hf
      have E5 : Hid (Bur.endB x y = x + (Bur.sz y - 1)) := if_pos hf
      have R2 : Hid (Bur.Rs (x + (Bur.sz y - 1) + 1) (D.drop (k + 1))) := by rw [show x + (Bur.sz y - 1) + 1 = x + Bur.sz y by omega]; exact r2
      have X3 : Hid _ := o3
      have X1 : Hid (Bur.OkP (x, y)) := hf
      have hle : decide (x ≤ t) = false := by simp; omega
      have pbw := pb.step hbw
      obtain ⟨p0, p1, p2⟩ := pbw
      simp only at p1 p2
      have slw := sl.step hbw
      have hbl2 : b < wr.heap.size := by omega
      have hk1 : Hid (k + 1 ≤ D.length) := hlt
      have hkM : Hid (D.length - (k + 1) < D.length - k) := by show _ < _; omega
      obtain ⟨u, hu⟩ : ∃ u, x + (Bur.sz y - 1) = u := ⟨_, rfl⟩
      rw [hu] at E5 R2
      clear hcb hc o1 o2 o3 e1 e2 hx hy hE sD r1 r2 hd0 R hf hu
      obtain ⟨W, hW⟩ : ∃ W, W = wr := ⟨_, rfl⟩
      subst hW
      go_wp2_with fail
      refine (ends_any x y W).mono ?_
      rintro e w1 ⟨rfl, hb1⟩
      rw [E3.out, E4.out, E5.out]
      have d0 := (hb1.cell (p := ⟨b, off + k * 2, none⟩) hbl2).trans c0
      have d1 := (hb1.cell (p := ⟨b, off + k * 2 + 1, none⟩) hbl2).trans c1
      have d2 := (hb1.cell (p := ⟨Bp, 0, none⟩) p0).trans p1
      have d3 := (hb1.cell (p := ⟨Bp, 1, none⟩) p0).trans p2
      have hbl3 : b < w1.heap.size := Nat.lt_of_lt_of_le hbl2 hb1.size
      have q0 : Bp < w1.heap.size := Nat.lt_of_lt_of_le p0 hb1.size
      have sl1 := slw.step hb1
      have hb2 := below_via hbw hb1
      clear hb1 c0 c1 p0 p1 p2 slw hbw
      obtain ⟨V, hV⟩ : ∃ V, V = w1 := ⟨_, rfl⟩
      subst hV
      go_wp2_with fail
      go_region_held3 (fun wy => wy.cell? ⟨b, off + k * 2, none⟩ = some (.int .i64 x) ∧ wy.cell? ⟨b, off + k * 2 + 1, none⟩ = some (.int .i64 y) ∧ wy.cell? ⟨Bp, 0, none⟩ = some (.int .i64 a) ∧ wy.cell? ⟨Bp, 1, none⟩ = some (.int .i64 z)) (first | exact ⟨d0, d1, d2, d3⟩ | exact ⟨f0, f1, f2, f3⟩)
        (first | (go_at_call 6; refine (within_any _ _ _ _ _).mono ?_; rintro e w2 ⟨rfl, hb3⟩; rw [E1.out, E2.out]; have f0 := (hb3.cell (p := ⟨b, off + k * 2, none⟩) hbl3).trans d0; have f1 := (hb3.cell (p := ⟨b, off + k * 2 + 1, none⟩) hbl3).trans d1; have f2 := (hb3.cell (p := ⟨Bp, 0, none⟩) q0).trans d2; have f3 := (hb3.cell (p := ⟨Bp, 1, none⟩) q0).trans d3))
      have hb4 := below_via hb2.drew hb3
      have sl2 := (sl1.step (below_self _).drew).step hb3
      have hbl4 : b < w2.heap.size := Nat.lt_of_lt_of_le hbl3 hb3.size
      clear hb3 d0 d1 d2 d3 f2 f3 hb2 sl1 q0 hbl3 E1 E2 E3 E4 E5
      obtain ⟨U, hU⟩ : ∃ U, U = w2 := ⟨_, rfl⟩
      subst hU
      go_wp2_with fail
      go_loopw [16] (fun i wr => ∃ j : Nat, j ≤ l.length ∧ i = .int .i64 j ∧ Below U.heap.size U wr) (fun i _ => l.length - (intOf i).toNat)
      case atStart => exact ⟨0, by omega, rfl, below_self _⟩
      case round =>
        obtain ⟨j, hj, rfl, hbv⟩ := hrel
        by_cases hjl : j < l.length
        · have hjl' : (j : Int) < (l.length : Int) := by omega
          obtain ⟨bx, ox, rfl, hbx, hcx⟩ := sl2 (by omega)
          have hcb := bcell hbv
          have x0 : wr.cell? ⟨bx, ox + j * 2, none⟩ = some (.int .i64 (lo l j)) := (hcb.1 _ _ hbx).trans (hcx j hjl).1
          have x1 : wr.cell? ⟨bx, ox + j * 2 + 1, none⟩ = some (.int .i64 (hi l j)) := (hcb.1 _ _ hbx).trans (hcx j hjl).2
          have y0 := (hcb.1 _ _ hbl4).trans f0
          have y1 := (hcb.1 _ _ hbl4).trans f1
          have hbx2 : bx < wr.heap.size := Nat.lt_of_lt_of_le hbx hbv.size
          have hby2 : b < wr.heap.size := Nat.lt_of_lt_of_le hbl4 hbv.size
          obtain ⟨n1, n2⟩ := X3.out _ (atMem hjl)
          have n3 := hO.out _ (atMem hjl)
          obtain ⟨u2, hu2⟩ : ∃ u2, lo l j = u2 := ⟨_, rfl⟩
          obtain ⟨v2, hv2⟩ : ∃ v2, hi l j = v2 := ⟨_, rfl⟩
          rw [hu2] at x0
          rw [hv2] at x1
          rw [hu2, hv2] at n1 n2 n3
          obtain ⟨e1, e2⟩ := Bur.wit_in X1.out n3
          obtain ⟨e3, e4⟩ := Bur.wit_in n3 X1.out
          have E1 : Hid (ev (Bur.witF x y u2 v2) = .nilIface) := by show _ = _; rw [e1]; rfl
          have E2 : Hid (Bur.witB x y u2 v2 = false) := e2.trans n1
          have E3 : Hid (ev (Bur.witF u2 v2 x y) = .nilIface) := by show _ = _; rw [e3]; rfl
          have E4 : Hid (Bur.witB u2 v2 x y = false) := e4.trans n2
          clear hcb hcx hu2 hv2 sl2 n1 n2 n3 e1 e2 e3 e4
          obtain ⟨Y, hY⟩ : ∃ Y, Y = wr := ⟨_, rfl⟩
          subst hY
          go_wp2_with fail
          go_region_held3 (fun wy => wy.cell? ⟨bx, ox + j * 2, none⟩ = some (.int .i64 u2) ∧ wy.cell? ⟨bx, ox + j * 2 + 1, none⟩ = some (.int .i64 v2) ∧ wy.cell? ⟨b, off + k * 2, none⟩ = some (.int .i64 x) ∧ wy.cell? ⟨b, off + k * 2 + 1, none⟩ = some (.int .i64 y)) (first | exact ⟨x0, x1, y0, y1⟩ | exact ⟨g0, g1, g2, g3⟩)
            (first | (go_at_call 6; refine (within_any _ _ _ _ _).mono ?_; rintro e w3 ⟨rfl, hb5⟩; rw [E1.out, E2.out]; have g0 := (hb5.cell (p := ⟨bx, ox + j * 2, none⟩) hbx2).trans x0; have g1 := (hb5.cell (p := ⟨bx, ox + j * 2 + 1, none⟩) hbx2).trans x1; have g2 := (hb5.cell (p := ⟨b, off + k * 2, none⟩) hby2).trans y0; have g3 := (hb5.cell (p := ⟨b, off + k * 2 + 1, none⟩) hby2).trans y1))
          have hb6 := below_via hbv.drew hb5
          have hbx3 : bx < w3.heap.size := Nat.lt_of_lt_of_le hbx2 hb5.size
          have hby3 : b < w3.heap.size := Nat.lt_of_lt_of_le hby2 hb5.size
          clear x0 x1 y0 y1 hb5 hbv E1 E2
          obtain ⟨Z, hZ⟩ : ∃ Z, Z = w3 := ⟨_, rfl⟩
          subst hZ
          go_wp2_with fail
          go_region_held3 (fun wy => wy.cell? ⟨bx, ox + j * 2, none⟩ = some (.int .i64 u2) ∧ wy.cell? ⟨bx, ox + j * 2 + 1, none⟩ = some (.int .i64 v2) ∧ wy.cell? ⟨b, off + k * 2, none⟩ = some (.int .i64 x) ∧ wy.cell? ⟨b, off + k * 2 + 1, none⟩ = some (.int .i64 y)) (first | exact ⟨g0, g1, g2, g3⟩ | exact ⟨i0, i1, i2, i3⟩)
            (first | (go_at_call 6; refine (within_any _ _ _ _ _).mono ?_; rintro e w4 ⟨rfl, hb7⟩; rw [E3.out, E4.out]; have i0 := (hb7.cell (p := ⟨bx, ox + j * 2, none⟩) hbx3).trans g0; have i1 := (hb7.cell (p := ⟨bx, ox + j * 2 + 1, none⟩) hbx3).trans g1; have i2 := (hb7.cell (p := ⟨b, off + k * 2, none⟩) hby3).trans g2; have i3 := (hb7.cell (p := ⟨b, off + k * 2 + 1, none⟩) hby3).trans g3))
          have hb8 := below_via hb6.drew hb7
          clear g0 g1 g2 g3 i0 i1 i2 i3 hb6 hb7 E3 E4
          go_wp2_with fail
          exact ⟨⟨j + 1, by omega, by go_num, hb8⟩, by simp [intOf]; omega⟩
        · clear sl2 X3 X1 f0 f1
          go_wp2_with fail
          exact ⟨⟨k + 1, u, hk1.out, by go_num, rfl, R2, below_via hb4 hbv⟩, by simp [intOf]; omega⟩
    · clear R hE sD sl pb hR hO
      go_wp2_with fail
      go_meet
      case rel => exact hbw
end Go.Proofs.YtfhidiedmenliaaDoor
