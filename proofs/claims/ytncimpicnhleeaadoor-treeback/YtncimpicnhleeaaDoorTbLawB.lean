/- The walk of the law TreeBack: its first pieces, and the whole. -/
import Derived.Test.YtncimpicnhleeaaDoorTbLawA
import Derived.Test.YtncimpicnhleeaaDoorTrWalkK
import Derived.Test.YtncimpicnhleeaaDoorTrSame
import Derived.Test.YtncimpicnhleeaaDoorAdErr2
namespace Bur
theorem fact9 : putF [(0, 8)] (0, 16) = 0 ∧ putS [(0, 8)] (0, 16) = [(0, 8), (0, 16)] := by decide
end Bur
namespace Go.Proofs.YtncimpicnhleeaaDoor
open Go.RowKit

theorem ErrType.step {w w' : World} (h : ErrType w) (hb : Below w.heap.size w w') : ErrType w' := (hb.cell (World.block_lt_of_cell? _ _ h)).trans h

set_option maxRecDepth 100000 in
set_option maxHeartbeats 8000000 in
theorem tb2 {l : List Bur.Sp} {q : Option Addr} {cap Bp : Nat} {x y a : Int} {w wx : World} {c1 c3 c5 c6 c7 c8 c9 c10 c11 c12 c13 c14 c15 c16 c17 c18 c19 c20 c21 c22 c23 c24 c25 c26 c27 c28 c29 c30 c31 c32 c33 c34 c35 c36 c37 c38 c39 c40 c41 c42 c43 c44 c45 c46 c47 c48 c49 c50 c51 c52 c53 c54 c55 c56 c57 c58 c59 c60 c61 c62 c63 c64 c65 c66 c67 c68 c69 c70 c71 c72 c73 c74 c75 c76 c77 c78 c79 c80 c81 c82 c83 c84 c85 c86 c87 c88 c89 c90 c91 c92 c93 c94 c95 c96 c97 c98 c99 c100 c101 c102 c103 c104 c105 c106 c107 c108 c109 c110 c111 c112 c113 c114 c115 c116 c117 c118 c119 c120 c121 c122 c123 c124 c125 c126 c127 c128 c129 c130 c131 c132 c133 c134 c135 c136 c137 c138 c139 c140 c141 c142 c143 c144 c145 c146 c147 c148 c149 c150 c151 c152 c153 c154 c155 c156 c157 c158 c159 c160 c161 c162 c163 c164 c165 c166 c167 c168 c169 c170 c171 c172 c173 c174 c175 c176 c177 c178 c179 c180 c181 c182 c183 : Value} (ll : l.length ≤ 9223372036854775807) (sl : SpAt wx q l) (pb : PfAt wx Bp (x, y)) (hT : ErrType wx) (hb : Below w.heap.size w wx) :
    Code.wp Tryd.prog (dropSeq 3 (Tryd.f4.body.getD .skip)) (bodyPost Tryd.prog Tryd.f4 fun e w' => e = .returned (.bool true) ∧ Below w.heap.size w w') ⟨#[.slice q l.length cap, c1, .int .i64 a, c3, .pointer (some ⟨Bp, 0, none⟩), c5, c6, c7, c8, c9, c10, c11, c12, c13, c14, c15, c16, c17, c18, c19, c20, c21, c22, c23, c24, c25, c26, c27, c28, c29, c30, c31, c32, c33, c34, c35, c36, c37, c38, c39, c40, c41, c42, c43, c44, c45, c46, c47, c48, c49, c50, c51, c52, c53, c54, c55, c56, c57, c58, c59, c60, c61, c62, c63, c64, c65, c66, c67, c68, c69, c70, c71, c72, c73, c74, c75, c76, c77, c78, c79, c80, c81, c82, c83, c84, c85, c86, c87, c88, c89, c90, c91, c92, c93, c94, c95, c96, c97, c98, c99, c100, c101, c102, c103, c104, c105, c106, c107, c108, c109, c110, c111, c112, c113, c114, c115, c116, c117, c118, c119, c120, c121, c122, c123, c124, c125, c126, c127, c128, c129, c130, c131, c132, c133, c134, c135, c136, c137, c138, c139, c140, c141, c142, c143, c144, c145, c146, c147, c148, c149, c150, c151, c152, c153, c154, c155, c156, c157, c158, c159, c160, c161, c162, c163, c164, c165, c166, c167, c168, c169, c170, c171, c172, c173, c174, c175, c176, c177, c178, c179, c180, c181, c182, c183], []⟩ wx := by
  conv => arg 2; whnf
  have pb0 := pb
  obtain ⟨p0, p1, p2⟩ := pb
  go_wp2_with fail
  refine (put_any q cap l (x, y) wx ll sl).mono ?_
  rintro e w1 ⟨qm, cm, rfl, sm, hb1⟩
  replace sl := sl.step hb1
  replace pb0 := pb0.step hb1
  have hT1 := hT.step hb1
  replace hb := below_via hb hb1
  clear hb1 p0 p1 p2 hT
  by_cases hF : Bur.putF l (x, y) = 0
  · obtain ⟨b1, b2, b3, b4, b5, b6⟩ := Bur.put_back hF
    have E0 : Hid (ev (Bur.putF l (x, y)) = .nilIface) := by show _ = _; rw [hF]; rfl
    rw [← b1] at b2 b3 b4 b5 b6
    have hml : (Bur.putS l (x, y)).length ≤ 9223372036854775807 := Nat.le_trans (Bur.putS_le l (x, y)) (by omega)
    obtain ⟨M, hM⟩ : ∃ M, Bur.putS l (x, y) = M := ⟨_, rfl⟩
    rw [hM] at b2 b3 b4 b5 b6 hml sm ⊢
    have E1 : Hid (ev (Bur.drpF M (x, y)) = .nilIface) := by show _ = _; rw [b2]; rfl
    have E2 : Hid (Bur.drpS M (x, y) = l) := b3
    have E3 : Hid (ev (Bur.fndF M x) = .nilIface) := by show _ = _; rw [b4]; rfl
    have E5 : Hid (ev (Bur.putF M (x, y)) = ev 6) := by show _ = _; rw [b6]
    obtain ⟨u, hu⟩ : ∃ u, (Bur.fndS M x).1 = u := ⟨_, rfl⟩
    obtain ⟨v, hv⟩ : ∃ v, (Bur.fndS M x).2 = v := ⟨_, rfl⟩
    have hle : decide (v < y) = false := by
      have : y ≤ (Bur.fndS M x).2 := b5
      rw [hv] at this
      simp; omega
    have E6 : Hid (pfx (Bur.fndS M x).1 (Bur.fndS M x).2 = pfx u v) := by show _ = _; rw [hu, hv]
    rw [E0.out]
    clear hF b1 b2 b3 b4 b5 b6 hM hu hv E0
    go_upto_if 55 with fail
    go_cut [6, 11, 12, 13, 14, 15, 16, 17, 18] from 56 to 100 (fun _ _ _ _ _ _ _ _ _ wy => Below w1.heap.size w1 wy)
    case rest =>
      refine ‹∀ (a : Act) (w : World), Code.wp _ _ _ a w → _› _ _ ?_
      exact tb3 ll (sl.step hcut) (below_via hb hcut)
    case first =>
    clear hb
    have pb1 := pb0
    obtain ⟨p0, p1, p2⟩ := pb1
    go_wp2_with fail
    refine (drop_any qm cm M (x, y) w1 hml sm).mono ?_
    rintro e w2 ⟨qb, cb, rfl, sb, hb2⟩
    rw [E1.out, E2.out]
    rw [E2.out] at sb
    have sl2 := sl.step hb2
    have sm2 := sm.step hb2
    have pb2 := pb0.step hb2
    have hT2 := hT1.step hb2
    clear sl sm pb0 p0 p1 p2 hT1
    go_wp2_with fail
    refine (prefixes_same qb q cb cap l w2 ll sb sl2).mono ?_
    rintro e w3 ⟨rfl, hb3⟩
    have sm3 := sm2.step hb3
    have pb3 := pb2.step hb3
    have hT3 := hT2.step hb3
    have hb4 := below_via hb2 hb3
    clear hb2 hb3 sb sl2 sm2 pb2 hT2
    have pb1 := pb3
    obtain ⟨p0, p1, p2⟩ := pb1
    go_wp2_with fail
    refine (find_any qm cm M x w3 hml sm3).mono ?_
    rintro e w4 ⟨rfl, hb5⟩
    rw [E3.out, E6.out]
    have sm4 := (sm3.step hb5).alloc (.cells #[.int .i64 u, .int .i64 v] 24)
    have pb4 := (pb3.step hb5).step (below_al (below_self _) (.cells #[.int .i64 u, .int .i64 v] 24))
    have hT4 := (hT3.step hb5).step (below_al (below_self _) (.cells #[.int .i64 u, .int .i64 v] 24))
    have qv4 : PfAt (w4.alloc (.cells #[.int .i64 u, .int .i64 v] 24)) w4.heap.size (u, v) := PfAt.new w4 u v
    have hb6 := below_al (below_via hb4 hb5) (.cells #[.int .i64 u, .int .i64 v] 24)
    clear hb4 hb5 sm3 pb3 hT3 p0 p1 p2
    have pb1 := pb4
    obtain ⟨p0, p1, p2⟩ := pb1
    go_wp2_with fail
    obtain ⟨Bq, hBq⟩ : ∃ Bq, w4.heap.size = Bq := ⟨_, rfl⟩
    obtain ⟨W4, hW4⟩ : ∃ W4, w4.alloc (.cells #[.int .i64 u, .int .i64 v] 24) = W4 := ⟨_, rfl⟩
    rw [hBq] at qv4 ⊢
    rw [hW4] at sm4 pb4 hT4 qv4 hb6 ⊢
    clear hBq hW4 p0 p1 p2
    refine (put_any qm cm M (x, y) W4 hml sm4).mono ?_
    rintro e w5 ⟨q5, c5, rfl, s5, hb7⟩
    rw [E5.out]
    have pb5 := pb4.step hb7
    have qv5 := qv4.step hb7
    have hT5 := hT4.step hb7
    have hb8 := below_via hb6 hb7
    obtain ⟨n5, hn5⟩ : ∃ n5, (Bur.putS M (x, y)).length = n5 := ⟨_, rfl⟩
    rw [hn5]
    clear hb6 hb7 sm4 pb4 qv4 hT4 s5 hn5
    go_wp2_with fail
    refine (error_any 6 6 w5 hT5).mono ?_
    rintro e w6 ⟨rfl, hb9⟩
    obtain ⟨p0, p1, p2⟩ := pb5.step hb9
    obtain ⟨q0, q1, q2⟩ := qv5.step hb9
    have hb10 := below_via hb8 hb9
    clear hb8 hb9 pb5 qv5 hT5
    go_wp2_with fail
    go_meet
    case rel => exact hb10
  · have E0 : Hid (ev (Bur.putF l (x, y)) = errN (Bur.putF l (x, y))) := if_neg hF
    rw [E0.out]
    clear hF
    go_upto_if 55 with fail
    go_cut [6, 11, 12, 13, 14, 15, 16, 17, 18] from 56 to 100 (fun _ _ _ _ _ _ _ _ _ wy => wy = w1)
    case rest =>
      subst hcut
      refine ‹∀ (a : Act) (w : World), Code.wp _ _ _ a w → _› _ _ ?_
      exact tb3 ll sl hb
    case first =>
    clear sl sm pb0 hT1 hb
    go_wp2_with fail
    go_meet
    case rel => exact rfl

/-- The fact that the law begins with. -/
theorem fact_put (b : Nat) (w : World) (h : b < w.heap.size) (c0 : w.cell? ⟨b, 0, none⟩ = some (.int .i64 0)) (c1 : w.cell? ⟨b, 1, none⟩ = some (.int .i64 8)) :
    Calls Tryd.prog 9 #[.slice (some ⟨b, 0, none⟩) 1 1, pfx 0 16] w fun e w' => ∃ (b' off' cap' : Nat), e = .returned (.tuple #[.slice (some ⟨b', off', none⟩) 2 cap', .nilIface]) ∧ w'.cell? ⟨b', off' + 2 + 1, none⟩ = some (.int .i64 16) ∧ Below w.heap.size w w' := by
  have hs : SpAt w (some ⟨b, 0, none⟩) [(0, 8)] := fun _ => ⟨b, 0, rfl, h, fun i hi => by
    match i, hi with
    | 0, _ => exact ⟨c0, c1⟩⟩
  refine (put_any (some ⟨b, 0, none⟩) 1 [(0, 8)] (0, 16) w (by decide) hs).mono ?_
  rintro e w' ⟨p', cap', rfl, hp, hb⟩
  rw [Bur.fact9.2] at hp
  obtain ⟨b', off', rfl, _, hc⟩ := hp (by decide)
  refine ⟨b', off', cap', ?_, (hc 1 (by decide)).2, hb⟩
  rw [Bur.fact9.1, Bur.fact9.2, ev_0]
  rfl

set_option maxRecDepth 100000 in
set_option maxHeartbeats 8000000 in
theorem law_back (x y a : Int) (l : List Bur.Sp) (q : Option Addr) (cap : Nat) (w : World) (ll : l.length ≤ 9223372036854775807) (sl : SpAt w q l) (hT : ErrType w) :
    Calls Tryd.prog 4 #[.slice q l.length cap, pfx x y, .int .i64 a] w fun e w' => e = .returned (.bool true) ∧ Below w.heap.size w w' := by
  have pb : PfAt (w.alloc (.cells #[.int .i64 x, .int .i64 y] 24)) w.heap.size (x, y) := PfAt.new w x y
  have hb0 : Below w.heap.size w (w.alloc (.cells #[.int .i64 x, .int .i64 y] 24)) := below_al (below_self _) _
  go_enter Tryd.func4, Tryd.ntmps4
  go_wp2_with fail
  refine (fact_put (w.heap.size + 1) _ (by simp) (by go_simp) (by go_simp)).mono ?_
  rintro e w1 ⟨b', off', cap', rfl, hc, hb1⟩
  replace pb := (pb.step (below_al (below_self _) _)).step hb1
  have hb2 := below_via (below_al hb0 _) hb1
  replace sl := sl.step hb2
  replace hT := hT.step hb2
  clear hb0 hb1
  obtain ⟨Bp, hBp⟩ : ∃ Bp, w.heap.size = Bp := ⟨_, rfl⟩
  rw [hBp] at pb ⊢
  have n1 : ((2 : Int) != 2) = false := by decide
  have n2 : ((16 : Int) != 16) = false := by decide
  go_upto_if 47 with fail
  go_cut [6] (fun _ wy => wy = w1)
  case first =>
    go_wp2_with fail
    go_meet
    case rel => exact rfl
  case rest =>
  subst hcut
  refine ‹∀ (a : Act) (w : World), Code.wp _ _ _ a w → _› _ _ ?_
  exact tb2 ll sl pb hT hb2
end Go.Proofs.YtncimpicnhleeaaDoor
