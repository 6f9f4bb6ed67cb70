/- The walk of the law FreeFits: its loop. -/
import Derived.Test.YtfhidiedmenliaaGreatDoorFfLawA
namespace Bur
theorem mnS_bound (p : Sp) (l : List Sp) (n : Int) : 0 ≤ mnS p l n ∧ mnS p l n ≤ 4294967296 * 61 := by
  unfold mnS
  by_cases h : gfF p l n = 0
  · rw [if_pos h, (fs_fsg h).2]
    have h0 := (gfF_ok h).1
    have hb := mng_bound (n := n) (gps_one h0)
    have hl := (gps_ps h0).2.1
    omega
  · rw [if_neg h]; omega
end Bur
namespace Go.Proofs.YtfhidiedmenliaaGreatDoor
open Go.RowKit

/-- The boxes of the law: the prefix, the one that was found, the best. -/
structure Q3 (w : World) (Bp Bq Bb : Nat) (a z u n bu bn : Int) : Prop where
  pb : Pb w Bp (a, z)
  bq : Bx w Bq u n
  bb : Pb w Bb (bu, bn)
theorem Q3.step {w w' : World} {Bp Bq Bb : Nat} {a z u n bu bn : Int} (h : Q3 w Bp Bq Bb a z u n bu bn) (hb : Below w.heap.size w w') : Q3 w' Bp Bq Bb a z u n bu bn := ⟨h.pb.step hb, h.bq.step hb, h.bb.step hb⟩
theorem Q3.put {w : World} {Bp Bq Bb : Nat} {a z u n bu bn : Int} (h : Q3 w Bp Bq Bb a z u n bu bn) (h1 : Bp ≠ Bq) (h2 : Bb ≠ Bq) (x y : Int) : Q3 ((w.setCell ⟨Bq, 0, none⟩ (.int .i64 x)).setCell ⟨Bq, 1, none⟩ (.int .i64 y)) Bp Bq Bb a z x y bu bn := by
  obtain ⟨⟨p0, p1, p2⟩, ⟨q0, q1, q2, q3⟩, ⟨b0, b1, b2⟩⟩ := h
  have e1 : ∀ o o', (⟨Bp, o, none⟩ : Addr) ≠ ⟨Bq, o', none⟩ := fun o o' e => h1 (by injection e)
  have e2 : ∀ o o', (⟨Bb, o, none⟩ : Addr) ≠ ⟨Bq, o', none⟩ := fun o o' e => h2 (by injection e)
  simp only at p1 p2 b1 b2
  refine ⟨⟨by simpa using p0, by go_simp, by go_simp⟩, ⟨by go_simp, by go_simp, by go_simp, by go_simp⟩, ⟨by simpa using b0, by go_simp, by go_simp⟩⟩

set_option maxRecDepth 100000 in
set_option maxHeartbeats 8000000 in
theorem ff4 {l : List Bur.Sp} {q : Option Addr} {cap Bp Bq Bb : Nat} {a z n x bu bn m : Int} {fe : Value} {w wx : World} {c0 c4 c5 c6 c7 c8 c10 c12 c13 c16 c17 c18 c19 c20 c21 c22 c23 c24 c25 c26 c27 c28 c29 c30 c31 c32 c33 c34 c35 c36 c37 c38 c39 c40 c41 c42 c43 c44 c45 c46 c47 c48 c49 c50 c51 c52 c53 c54 c55 c56 c57 c58 c59 c60 c61 c62 c63 c64 c65 c66 c67 c68 c69 c70 c71 c72 c73 c74 c75 c76 c77 c78 c79 c80 c81 c82 c83 c84 c85 c86 c87 c88 c89 c90 c91 c92 c93 c94 c95 c96 c97 c98 c99 c100 c101 c102 c103 c104 c105 c106 c107 c108 c109 c110 c111 c112 c113 c114 c115 c116 c117 c118 c119 c120 c121 c122 c123 c124 c125 c126 c127 c128 c129 c130 c131 c132 c133 c134 c135 c136 c137 c138 c139 c140 c141 c142 c143 c144 c145 c146 c147 c148 c149 c150 c151 c152 c153 c154 c155 c156 c157 c158 c159 c160 c161 c162 c163 c164 c165 c166 c167 c168 c169 c170 c171 c172 c173 c174 c175 c176 c177 c178 c179 c180 c181 c182 c183 c184 c185 c186 c187 c188 c189 c190 c191 c192 c193 c194 c195 c196 c197 c198 c199 c200 c201 c202 c203 c204 c205 c206 c207 c208 c209 c210 c211 c212 c213 c214 c215 c216 c217 c218 c219 c220 c221 c222 c223 c224 c225 c226 c227 c228 c229 c230 c231 c232 c233 c234 c235 c236 c237 : Value} (ll : l.length ≤ 9223372036854775807)
    (hG : Hid (Bur.gfF (a, z) l n = 0)) (hm : Hid (Bur.mnS (a, z) l n = m)) (hx : Hid ((x, n) ∈ Bur.frs (a, z) l n ∧ ∀ s ∈ Bur.frs (a, z) l n, x ≤ s.1)) (hfe : Hid ((fe = .nilIface ∧ bn = n ∧ (bu, n) ∈ Bur.frs (a, z) l n) ∨ ∃ c, fe = errN c))
    (sl0 : SpAt w q l) (Q : Q3 wx Bp Bq Bb a z x n bu bn) (hpq : Bp ≠ Bq) (hbq : Bb ≠ Bq) (hwq : w.heap.size ≤ Bq) (hb : Below w.heap.size w wx) :
    Code.wp Tryz.prog (dropSeq 8 (Tryz.f4.body.getD .skip)) (bodyPost Tryz.prog Tryz.f4 fun e w' => e = .returned (.bool true) ∧ Below w.heap.size w w') ⟨#[c0, .slice q l.length cap, .int .i64 n, .pointer (some ⟨Bp, 0, none⟩), c4, c5, c6, c7, c8, .int .i64 m, c10, .pointer (some ⟨Bq, 0, none⟩), c12, c13, .pointer (some ⟨Bb, 0, none⟩), fe, c16, c17, c18, c19, c20, c21, c22, c23, c24, c25, c26, c27, c28, c29, c30, c31, c32, c33, c34, c35, c36, c37, c38, c39, c40, c41, c42, c43, c44, c45, c46, c47, c48, c49, c50, c51, c52, c53, c54, c55, c56, c57, c58, c59, c60, c61, c62, c63, c64, c65, c66, c67, c68, c69, c70, c71, c72, c73, c74, c75, c76, c77, c78, c79, c80, c81, c82, c83, c84, c85, c86, c87, c88, c89, c90, c91, c92, c93, c94, c95, c96, c97, c98, c99, c100, c101, c102, c103, c104, c105, c106, c107, c108, c109, c110, c111, c112, c113, c114, c115, c116, c117, c118, c119, c120, c121, c122, c123, c124, c125, c126, c127, c128, c129, c130, c131, c132, c133, c134, c135, c136, c137, c138, c139, c140, c141, c142, c143, c144, c145, c146, c147, c148, c149, c150, c151, c152, c153, c154, c155, c156, c157, c158, c159, c160, c161, c162, c163, c164, c165, c166, c167, c168, c169, c170, c171, c172, c173, c174, c175, c176, c177, c178, c179, c180, c181, c182, c183, c184, c185, c186, c187, c188, c189, c190, c191, c192, c193, c194, c195, c196, c197, c198, c199, c200, c201, c202, c203, c204, c205, c206, c207, c208, c209, c210, c211, c212, c213, c214, c215, c216, c217, c218, c219, c220, c221, c222, c223, c224, c225, c226, c227, c228, c229, c230, c231, c232, c233, c234, c235, c236, c237], []⟩ wx := by
  have hmb := Bur.mnS_bound (a, z) l n
  rw [hm.out] at hmb
  obtain ⟨m0, m1⟩ := hmb
  obtain ⟨g0, g1, g2⟩ := Bur.gfF_ok hG.out
  have hO : Hid _ := (Bur.frF_ok g0).2.2
  have hOp : Hid (Bur.OkP (a, z)) := (Bur.frF_ok g0).1
  have hF : Hid (Bur.frF (a, z) l = 0) := g0
  clear g0 g1 g2
  conv => arg 2; whnf
  go_upto_block 0 with fail
  go_cut [16, 6, 17, 18, 19, 20, 21, 22, 23, 24, 25, 26] from 83 to 169 (fun _ _ _ _ _ _ _ _ _ _ _ _ wy => Pb wy Bp (a, z) ∧ Below w.heap.size w wy)
  case rest =>
    obtain ⟨hc1, hc2⟩ := hcut
    refine ‹∀ (a : Act) (w : World), Code.wp _ _ _ a w → _› _ _ ?_
    exact ff5 ll hF (sl0.step hc2) hc1 hc2
  case first =>
  clear hF
  go_wp2_with fail
  go_loopw [16] (fun i wr => ∃ (k : Nat) (u : Int), k ≤ 2 ∧ i = .int .i64 k ∧ Hid ((u, n) ∈ Bur.frs (a, z) l n) ∧ Hid (k ≤ 1 → u = x) ∧ Q3 wr Bp Bq Bb a z u n bu bn ∧ Below w.heap.size w wr) (fun i _ => 2 - (intOf i).toNat)
  case atStart => exact ⟨0, x, by omega, rfl, hx.out.1, fun _ => rfl, Q, hb⟩
  case round =>
    obtain ⟨k, u, hk, rfl, hu, hux, Qr, hbw⟩ := hrel
    clear Q hb
    by_cases hlt : k < 2
    · have hlt' : (k : Int) < 2 := by omega
      obtain ⟨W, hW⟩ : ∃ W, W = wr := ⟨_, rfl⟩
      subst hW
      go_upto_if 88 with fail
      go_cut [] from 89 to 96 (fun wy => ∃ u' : Int, Hid ((u', n) ∈ Bur.frs (a, z) l n) ∧ Hid (k = 0 → u' = x) ∧ Q3 wy Bp Bq Bb a z u' n bu bn ∧ Below w.heap.size w wy)
      case first =>
        have Q0 := Qr
        obtain ⟨⟨p0, p1, p2⟩, ⟨b0, b1, b2, b3⟩, ⟨d0, d1, d2⟩⟩ := Qr
        simp only at p1 p2 d1 d2
        by_cases hk0 : k = 0
        · subst hk0
          go_wp2_with fail
          go_meet
          case rel => exact ⟨u, hu, fun _ => hux.out (by omega), Q0, hbw⟩
        · have hk1 : k = 1 := by omega
          subst hk1
          rcases hfe.out with ⟨rfl, rfl, hbest⟩ | ⟨c, rfl⟩
          · have hle : decide (bu < u) = false := by
              have h1 := hux.out (by omega)
              have h2 := hx.out.2 _ hbest
              simp only at h2
              simp; omega
            have Q1 := Q0.put hpq hbq bu bn
            clear Q0
            go_wp2_with fail
            go_meet
            case rel => exact ⟨bu, hbest, (fun h => by omega), Q1, (hbw.setCell hwq _).setCell hwq _⟩
          · clear hx hfe hu hux
            go_wp2_with fail
            go_meet
            case rel => exact ⟨Q0.pb, hbw⟩
      case rest =>
      obtain ⟨v, hv, hvk, Qv, hbv⟩ := hcut
      clear Qr hbw hu hux hx hfe
      obtain ⟨o1, o2, o3, o4, o5⟩ := Bur.fits_q hG.out hv.out
      obtain ⟨e1, e2⟩ := Bur.wit_in o1 hOp.out
      have E1 : Hid (ev (Bur.witF v n a z) = .nilIface) := by show _ = _; rw [e1]; rfl
      have E2 : Hid (Bur.witB v n a z = true) := e2.trans o3
      have X1 : Hid (Bur.OkP (v, n)) := o1
      have X4 : Hid _ := o4
      have X5 : Hid _ := o5
      have hk1 : Hid (k + 1 ≤ 2) := by show _ ≤ _; omega
      have hkM : Hid (2 - (k + 1) < 2 - k) := by show _ < _; omega
      clear o1 o2 o3 o4 o5 e1 e2
      obtain ⟨V, hV⟩ : ∃ V, V = wc := ⟨_, rfl⟩
      subst hV
      have Q0 := Qv
      obtain ⟨⟨p0, p1, p2⟩, ⟨b0, b1, b2, b3⟩, ⟨d0, d1, d2⟩⟩ := Qv
      simp only at p1 p2 d1 d2
      go_wp2_with fail
      refine (within_any v n a z V).mono ?_
      rintro e w1 ⟨rfl, hb1⟩
      rw [E1.out, E2.out]
      have Q1 := Q0.step hb1
      have hb2 := below_via hbv hb1
      clear hb1 Q0 hbv p0 p1 p2 b0 b1 b2 b3 d0 d1 d2 E1 E2
      have sl1 := sl0.step hb2
      obtain ⟨U, hU⟩ : ∃ U, U = w1 := ⟨_, rfl⟩
      subst hU
      go_upto_block 2 with fail
      go_cut [19, 6, 20, 21, 22, 23] from 109 to 144 (fun _ _ _ _ _ _ wy => Below U.heap.size U wy)
      case first =>
        have bq1 := Q1.bq
        obtain ⟨b0, b1, _, _⟩ := bq1
        have hBq : Bq < U.heap.size := World.block_lt_of_cell? _ _ b0
        clear Q1 X5 hG hm hvk
        go_wp2_with fail
        go_loopw [19] (fun i wr => ∃ j : Nat, j ≤ l.length ∧ i = .int .i64 j ∧ Below U.heap.size U wr) (fun i _ => l.length - (intOf i).toNat)
        case atStart => exact ⟨0, by omega, rfl, below_self _⟩
        case round =>
          obtain ⟨j, hj, rfl, hbx⟩ := hrel
          by_cases hjl : j < l.length
          · have hjl' : (j : Int) < (l.length : Int) := by omega
            obtain ⟨b, off, rfl, hbl, hc⟩ := sl1 (by omega)
            have hcb := bcell hbx
            have x0 : wr.cell? ⟨b, off + j * 2, none⟩ = some (.int .i64 (lo l j)) := (hcb.1 _ _ hbl).trans (hc j hjl).1
            have x1 : wr.cell? ⟨b, off + j * 2 + 1, none⟩ = some (.int .i64 (hi l j)) := (hcb.1 _ _ hbl).trans (hc j hjl).2
            have y0 := (hcb.1 _ _ hBq).trans b0
            have y1 := (hcb.1 _ _ hBq).trans b1
            have hbl2 : b < wr.heap.size := Nat.lt_of_lt_of_le hbl hbx.size
            have hBq2 : Bq < wr.heap.size := Nat.lt_of_lt_of_le hBq hbx.size
            obtain ⟨n1, n2⟩ := X4.out _ (atMem hjl)
            have n3 := hO.out _ (atMem hjl)
            obtain ⟨u2, hu2⟩ : ∃ u2, lo l j = u2 := ⟨_, rfl⟩
            obtain ⟨v2, hv2⟩ : ∃ v2, hi l j = v2 := ⟨_, rfl⟩
            rw [hu2] at x0
            rw [hv2] at x1
            rw [hu2, hv2] at n1 n2 n3
            obtain ⟨e1, e2⟩ := Bur.wit_in X1.out n3
            obtain ⟨e3, e4⟩ := Bur.wit_in n3 X1.out
            have E1 : Hid (ev (Bur.witF v n u2 v2) = .nilIface) := by show _ = _; rw [e1]; rfl
            have E2 : Hid (Bur.witB v n u2 v2 = false) := e2.trans n1
            have E3 : Hid (ev (Bur.witF u2 v2 v n) = .nilIface) := by show _ = _; rw [e3]; rfl
            have E4 : Hid (Bur.witB u2 v2 v n = false) := e4.trans n2
            clear hcb hc hu2 hv2 sl1 n1 n2 n3 e1 e2 e3 e4 b0 b1 X4 hO
            obtain ⟨Y, hY⟩ : ∃ Y, Y = wr := ⟨_, rfl⟩
            subst hY
            go_wp2_with fail
            go_region_held3 (fun wy => wy.cell? ⟨b, off + j * 2, none⟩ = some (.int .i64 u2) ∧ wy.cell? ⟨b, off + j * 2 + 1, none⟩ = some (.int .i64 v2) ∧ wy.cell? ⟨Bq, 0, none⟩ = some (.int .i64 v) ∧ wy.cell? ⟨Bq, 1, none⟩ = some (.int .i64 n)) (first | exact ⟨x0, x1, y0, y1⟩ | exact ⟨g0, g1, g2, g3⟩)
              (first | (go_at_call 18; refine (within_any _ _ _ _ _).mono ?_; rintro e w3 ⟨rfl, hb5⟩; rw [E1.out, E2.out]; have g0 := (hb5.cell (p := ⟨b, off + j * 2, none⟩) hbl2).trans x0; have g1 := (hb5.cell (p := ⟨b, off + j * 2 + 1, none⟩) hbl2).trans x1; have g2 := (hb5.cell (p := ⟨Bq, 0, none⟩) hBq2).trans y0; have g3 := (hb5.cell (p := ⟨Bq, 1, none⟩) hBq2).trans y1))
            have hb6 := below_via hbx.drew hb5
            have hbl3 : b < w3.heap.size := Nat.lt_of_lt_of_le hbl2 hb5.size
            have hBq3 : Bq < w3.heap.size := Nat.lt_of_lt_of_le hBq2 hb5.size
            clear x0 x1 y0 y1 hb5 hbx E1 E2
            obtain ⟨Z, hZ⟩ : ∃ Z, Z = w3 := ⟨_, rfl⟩
            subst hZ
            go_wp2_with fail
            go_region_held3 (fun wy => wy.cell? ⟨b, off + j * 2, none⟩ = some (.int .i64 u2) ∧ wy.cell? ⟨b, off + j * 2 + 1, none⟩ = some (.int .i64 v2) ∧ wy.cell? ⟨Bq, 0, none⟩ = some (.int .i64 v) ∧ wy.cell? ⟨Bq, 1, none⟩ = some (.int .i64 n)) (first | exact ⟨g0, g1, g2, g3⟩ | exact ⟨i0, i1, i2, i3⟩)
              (first | (go_at_call 18; refine (within_any _ _ _ _ _).mono ?_; rintro e w4 ⟨rfl, hb7⟩; rw [E3.out, E4.out]; have i0 := (hb7.cell (p := ⟨b, off + j * 2, none⟩) hbl3).trans g0; have i1 := (hb7.cell (p := ⟨b, off + j * 2 + 1, none⟩) hbl3).trans g1; have i2 := (hb7.cell (p := ⟨Bq, 0, none⟩) hBq3).trans g2; have i3 := (hb7.cell (p := ⟨Bq, 1, none⟩) hBq3).trans g3))
            have hb8 := below_via hb6.drew hb7
            clear g0 g1 g2 g3 i0 i1 i2 i3 hb6 hb7 E3 E4
            go_wp2_with fail
            exact ⟨⟨j + 1, by omega, by go_num, hb8⟩, by simp [intOf]; omega⟩
          · clear sl1 X4 X1 b0 b1 hO
            go_wp2_with fail
            go_meet
            case rel => exact hbx
      case rest =>
      have Q2 := Q1.step hcut
      have sl2 := sl1.step hcut
      have hb3 := below_via hb2 hcut
      clear hcut Q1 sl1 hb2 X4 hO
      obtain ⟨Y, hY⟩ : ∃ Y, Y = wc := ⟨_, rfl⟩
      subst hY
      by_cases h60 : l.length < 60
      · have h60' : (l.length : Int) < 60 := by omega
        obtain ⟨f1, f2⟩ := X5.out h60
        have E1 : Hid (ev (Bur.gfF (a, z) (l ++ [(v, n)]) n) = .nilIface) := by show _ = _; rw [f1]; rfl
        have E2 : Hid (Bur.mnS (a, z) (l ++ [(v, n)]) n = m - 1) := by show _ = _; rw [f2, hm.out]
        have E3 : Hid ((l ++ [(v, n)]).length = l.length + 1) := by show _ = _; simp
        clear f1 f2 X5 hG hm
        obtain ⟨i0, hin, hz0, hz1, hz2⟩ := info_parts infoPfx
        go_wp2_with (first
          | (at_builtin; refine wpList_append_sp rfl _ _ rfl Y.heap.size _ 0 [] rfl (World.ownsRow_nil _ _ _ _) (Nat.le_refl _) q cap l rfl sl2 (by omega) ?_; intro v1 w1 own1 hg1; have hbY : Below Y.heap.size Y w1 := (below_self Y).grown hg1 (Nat.le_refl _) (fun j hj => by cases hj); clear hg1 sl2; have hszY := hbY.size; obtain ⟨b0, b1, _, _⟩ := (Q2.step hbY).bq; simp only [Nat.zero_add, List.nil_append] at own1)
          | (at_builtin; refine wpList_append_own _ rfl _ _ 24 rfl Y.heap.size 23 i0 (.agg #[.int .i64 0, .int .i64 0]) 2 16 Tryz.underlying24 hin hz0 hz1 hz2 rfl (by decide) _ _ _ rfl (own1.alloc _) ⟨w1.heap.size, 0, none⟩ 1 1 [.int .i64 v, .int .i64 n] rfl rfl (two_new rfl) two_one (by unfold maxLen; omega) (by omega) (by simp; omega) ?_; intro v2 w2 own2 hg2 _; have hbZ : Below Y.heap.size Y w2 := (below_al hbY _).grown hg2 (by simp; omega) (fun j hj => (own1.lt j hj).1); clear hg2 own1; obtain ⟨pv, cv, hv2⟩ := own_form own2; subst hv2; have QZ := Q2.step hbZ; obtain ⟨p0, p1, p2⟩ := (Q2.step hbZ).pb; simp only at p1 p2))
        have own3 : w2.ownsRow Y.heap.size 23 2 (.slice pv (l.length + 1) cv) (l ++ [(v, n)]).length (spV (l ++ [(v, n)])) := by rw [E3.out, spV_app]; exact own2
        have sM := (spAtOwnP own3).2
        have cM := freeMany a z n pv cv (l ++ [(v, n)]) w2 (by rw [E3.out]; omega) sM
        rw [E3.out, E1.out, E2.out] at cM
        refine cM.mono ?_
        rintro e w3 ⟨rfl, hb4⟩
        have QW := QZ.step hb4
        have hb5 := below_via (below_via hb3 hbZ) hb4
        have hne : ((m - 1) != (m - 1)) = false := by simp
        clear cM sM own3 own2 hb4 hbZ hb3 QZ Q2 p0 p1 p2
        go_wp2_with fail
        exact ⟨⟨k + 1, v, hk1.out, by go_num, hv, (fun h => hvk.out (by omega)), QW, hb5⟩, by simp [intOf]; omega⟩
      · have h60' : (60 : Int) ≤ (l.length : Int) := by omega
        clear X5 hG hm sl2
        go_wp2_with fail
        exact ⟨⟨k + 1, v, hk1.out, by go_num, hv, (fun h => hvk.out (by omega)), Q2, hb3⟩, by simp [intOf]; omega⟩
    · obtain ⟨hc1, _, _⟩ := Qr
      clear hx hfe sl0 hu hux hO hOp hG hm
      go_wp2_with fail
      go_meet
      case rel => exact ⟨hc1, hbw⟩
end Go.Proofs.YtfhidiedmenliaaGreatDoor
