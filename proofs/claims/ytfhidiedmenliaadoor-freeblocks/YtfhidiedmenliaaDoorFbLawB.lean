/- The walk of the law FreeBlocks: its beginning, and the whole. -/
import Derived.Test.YtfhidiedmenliaaDoorFbLawA
namespace Bur
theorem factB : bkF (0, 30) [(0, 32)] = 0 ∧ bkS (0, 30) [(0, 32)] = [(1, 32), (2, 31)] := by decide
end Bur
namespace Go.Proofs.YtfhidiedmenliaaDoor
open Go.RowKit

set_option maxRecDepth 100000 in
set_option maxHeartbeats 8000000 in
theorem fb1 {l : List Bur.Sp} {q : Option Addr} {cap Bp : Nat} {a z : Int} {w wx : World} {c0 c3 c4 c5 c6 c7 c8 c9 c10 c11 c12 c13 c14 c15 c16 c17 c18 c19 c20 c21 c22 c23 c24 c25 c26 c27 c28 c29 c30 c31 c32 c33 c34 c35 c36 c37 c38 c39 c40 c41 c42 c43 c44 c45 c46 c47 c48 c49 c50 c51 c52 c53 c54 c55 c56 c57 c58 c59 c60 c61 c62 c63 c64 c65 c66 c67 c68 c69 c70 c71 c72 c73 c74 c75 c76 c77 c78 c79 c80 c81 c82 c83 c84 c85 c86 c87 c88 c89 c90 c91 c92 c93 c94 c95 c96 c97 c98 c99 c100 c101 c102 c103 c104 c105 c106 c107 c108 c109 c110 c111 c112 c113 c114 c115 c116 c117 c118 c119 c120 c121 c122 c123 c124 c125 c126 c127 c128 c129 c130 c131 c132 c133 c134 c135 c136 c137 c138 c139 c140 c141 c142 c143 c144 c145 c146 c147 c148 c149 c150 c151 c152 c153 c154 c155 c156 c157 c158 c159 c160 c161 c162 c163 c164 c165 c166 : Value} (ll : l.length ≤ 9223372036854775807) (sl : SpAt wx q l) (hT : Tab wx) (pb : Pb wx Bp (a, z)) (hb : Below w.heap.size w wx) :
    Code.wp Tryd.prog (dropSeq 3 (Tryd.f3.body.getD .skip)) (bodyPost Tryd.prog Tryd.f3 fun e w' => e = .returned (.bool true) ∧ Below w.heap.size w w') ⟨#[c0, .slice q l.length cap, .pointer (some ⟨Bp, 0, none⟩), c3, c4, c5, c6, c7, c8, c9, c10, c11, c12, c13, c14, c15, c16, c17, c18, c19, c20, c21, c22, c23, c24, c25, c26, c27, c28, c29, c30, c31, c32, c33, c34, c35, c36, c37, c38, c39, c40, c41, c42, c43, c44, c45, c46, c47, c48, c49, c50, c51, c52, c53, c54, c55, c56, c57, c58, c59, c60, c61, c62, c63, c64, c65, c66, c67, c68, c69, c70, c71, c72, c73, c74, c75, c76, c77, c78, c79, c80, c81, c82, c83, c84, c85, c86, c87, c88, c89, c90, c91, c92, c93, c94, c95, c96, c97, c98, c99, c100, c101, c102, c103, c104, c105, c106, c107, c108, c109, c110, c111, c112, c113, c114, c115, c116, c117, c118, c119, c120, c121, c122, c123, c124, c125, c126, c127, c128, c129, c130, c131, c132, c133, c134, c135, c136, c137, c138, c139, c140, c141, c142, c143, c144, c145, c146, c147, c148, c149, c150, c151, c152, c153, c154, c155, c156, c157, c158, c159, c160, c161, c162, c163, c164, c165, c166], []⟩ wx := by
  conv => arg 2; whnf
  have pb0 := pb
  obtain ⟨p0, p1, p2⟩ := pb
  simp only at p1 p2
  go_wp2_with fail
  refine (freeBlocks a z q cap l wx ll sl hT).mono ?_
  rintro e w1 ⟨qd, cd, rfl, sD, hb1⟩
  have pb1 := pb0.step hb1
  have sl1 := sl.step hb1
  have hb2 := below_via hb hb1
  clear hb hb1 pb0 sl p0 p1 p2 hT
  by_cases hF : Bur.bkF (a, z) l = 0
  · have E0 : Hid (ev (Bur.bkF (a, z) l) = .nilIface) := by show _ = _; rw [hF]; rfl
    have E1 : Hid (Bur.bkS (a, z) l = Bur.bks (a, z) l) := if_pos hF
    obtain ⟨f1, f2⟩ := Bur.bkF_ok hF
    obtain ⟨g1, g2⟩ := Bur.bks_each f1
    have H1 : Hid _ := f1
    have H2 : Hid _ := Bur.bks_ps hF
    have H3 : Hid _ := g1
    have H4 : Hid _ := g2
    rw [E0.out, E1.out]
    rw [E1.out] at sD
    clear hF f1 g1 g2 E0 E1
    obtain ⟨D, hD⟩ : ∃ D, Bur.bks (a, z) l = D := ⟨_, rfl⟩
    rw [hD] at sD H2 H3 H4 f2 ⊢
    clear hD
    go_upto_if 61 with fail
    go_cut [4] (fun _ wy => wy = w1)
    case first =>
      go_wp2_with fail
      go_meet
      case rel => exact rfl
    case rest =>
    subst hcut
    refine ‹∀ (a : Act) (w : World), Code.wp _ _ _ a w → _› _ _ ?_
    exact fb2 ll f2 H1 H2 H3 H4 sl1 sD pb1 hb2
  · have E0 : Hid (ev (Bur.bkF (a, z) l) = errN (Bur.bkF (a, z) l)) := ev_ne hF
    rw [E0.out]
    clear hF sD sl1 pb1
    go_wp2_with fail
    go_ret
    exact ⟨rfl, hb2⟩

/-- The fact that the law begins with. -/
theorem fact_blocks (b : Nat) (w : World) (hT : Tab w) (h : b < w.heap.size) (c0 : w.cell? ⟨b, 0, none⟩ = some (.int .i64 0)) (c1 : w.cell? ⟨b, 1, none⟩ = some (.int .i64 32)) :
    Calls Tryd.prog 4 #[pfx 0 30, .slice (some ⟨b, 0, none⟩) 1 1] w fun e w' => ∃ (b' off' cap' : Nat), e = .returned (.tuple #[.slice (some ⟨b', off', none⟩) 2 cap', .nilIface]) ∧ w'.cell? ⟨b', off', none⟩ = some (.int .i64 1) ∧ w'.cell? ⟨b', off' + 2, none⟩ = some (.int .i64 2) ∧ Below w.heap.size w w' := by
  have hs : SpAt w (some ⟨b, 0, none⟩) [(0, 32)] := fun _ => ⟨b, 0, rfl, h, fun i hi => by
    match i, hi with
    | 0, _ => exact ⟨c0, c1⟩⟩
  refine (freeBlocks 0 30 (some ⟨b, 0, none⟩) 1 [(0, 32)] w (by decide) hs hT).mono ?_
  rintro e w' ⟨p', cap', rfl, hp, hb⟩
  rw [Bur.factB.2] at hp
  obtain ⟨b', off', rfl, _, hc⟩ := hp (by decide)
  refine ⟨b', off', cap', ?_, (hc 0 (by decide)).1, (hc 1 (by decide)).1, hb⟩
  rw [Bur.factB.1, Bur.factB.2, ev_0]
  rfl

set_option maxRecDepth 100000 in
set_option maxHeartbeats 8000000 in
theorem law_blocks (a z : Int) (l : List Bur.Sp) (q : Option Addr) (cap : Nat) (w : World) (ll : l.length ≤ 9223372036854775807) (sl : SpAt w q l) (hT : Tab w) :
    Calls Tryd.prog 3 #[pfx a z, .slice q l.length cap] w fun e w' => e = .returned (.bool true) ∧ Below w.heap.size w w' := by
  have pb : Pb (w.alloc (.cells #[.int .i64 a, .int .i64 z] 23)) w.heap.size (a, z) := Pb.new w 23 a z
  have hb0 : Below w.heap.size w (w.alloc (.cells #[.int .i64 a, .int .i64 z] 23)) := below_al (below_self _) _
  go_enter Tryd.func3, Tryd.ntmps3
  go_wp2_with fail
  refine (fact_blocks (w.heap.size + 1) _ (hT.step (below_al hb0 _) hT.lt) (by simp) (by go_simp) (by go_simp)).mono ?_
  rintro e w1 ⟨b', off', cap', rfl, hc0, hc1, hb1⟩
  replace pb := (pb.step (below_al (below_self _) _)).step hb1
  have hb2 := below_via (below_al hb0 _) hb1
  replace sl := sl.step hb2
  replace hT := hT.step hb2 hT.lt
  clear hb0 hb1
  obtain ⟨Bp, hBp⟩ : ∃ Bp, w.heap.size = Bp := ⟨_, rfl⟩
  rw [hBp] at pb ⊢
  have n1 : ((2 : Int) != 2) = false := by decide
  have n2 : ((1 : Int) != 1) = false := by decide
  go_upto_if 53 with fail
  go_cut [4] (fun _ wy => wy = w1)
  case first =>
    go_wp2_with fail
    go_meet
    case rel => exact rfl
  case rest =>
  subst hcut
  refine ‹∀ (a : Act) (w : World), Code.wp _ _ _ a w → _› _ _ ?_
  exact fb1 ll sl hT pb hb2
end Go.Proofs.YtfhidiedmenliaaDoor
