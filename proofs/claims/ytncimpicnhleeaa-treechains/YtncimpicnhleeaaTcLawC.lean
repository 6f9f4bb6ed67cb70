/- The walk of the law TreeChains: the whole. -/
import Derived.Test.YtncimpicnhleeaaTcLawB
namespace Go.Proofs.Ytncimpicnhleeaa
open Go.RowKit

set_option maxRecDepth 100000 in
set_option maxHeartbeats 8000000 in
theorem ch1 {l : List Bur.Sp} {q : Option Addr} {cap Bp : Nat} {a n : Int} {w wx : World} {c1 c2 c4 c5 c6 c7 c8 c9 c10 c11 c12 c13 c14 c15 c16 c17 c18 c19 c20 c21 c22 c23 c24 c25 c26 c27 c28 c29 c30 c31 c32 c33 c34 c35 c36 c37 c38 c39 c40 c41 c42 c43 c44 c45 c46 c47 c48 c49 c50 c51 c52 c53 c54 c55 c56 c57 c58 c59 c60 c61 c62 c63 c64 c65 c66 c67 c68 c69 c70 c71 c72 c73 c74 c75 c76 c77 c78 c79 c80 c81 c82 c83 c84 c85 c86 c87 c88 c89 c90 c91 c92 c93 c94 c95 c96 c97 c98 c99 c100 c101 c102 c103 c104 c105 c106 c107 c108 c109 c110 c111 c112 c113 c114 c115 c116 c117 c118 c119 c120 c121 c122 c123 c124 c125 c126 c127 c128 c129 c130 c131 c132 c133 c134 c135 c136 c137 c138 c139 c140 c141 c142 c143 c144 c145 c146 c147 c148 c149 c150 c151 c152 c153 c154 c155 c156 c157 c158 c159 c160 c161 c162 c163 c164 c165 c166 c167 c168 c169 c170 c171 c172 c173 c174 c175 c176 c177 c178 c179 c180 c181 c182 c183 c184 c185 : Value} (ll : l.length ≤ 9223372036854775807) (sl : SpAt wx q l) (pb : PfAt wx Bp (a, n)) (hb : Below w.heap.size w wx) :
    Code.wp Try.prog (dropSeq 3 (Try.f3.body.getD .skip)) (bodyPost Try.prog Try.f3 fun e w' => e = .returned (.bool true) ∧ Below w.heap.size w w') ⟨#[.slice q l.length cap, c1, c2, .pointer (some ⟨Bp, 0, none⟩), c4, c5, c6, c7, c8, c9, c10, c11, c12, c13, c14, c15, c16, c17, c18, c19, c20, c21, c22, c23, c24, c25, c26, c27, c28, c29, c30, c31, c32, c33, c34, c35, c36, c37, c38, c39, c40, c41, c42, c43, c44, c45, c46, c47, c48, c49, c50, c51, c52, c53, c54, c55, c56, c57, c58, c59, c60, c61, c62, c63, c64, c65, c66, c67, c68, c69, c70, c71, c72, c73, c74, c75, c76, c77, c78, c79, c80, c81, c82, c83, c84, c85, c86, c87, c88, c89, c90, c91, c92, c93, c94, c95, c96, c97, c98, c99, c100, c101, c102, c103, c104, c105, c106, c107, c108, c109, c110, c111, c112, c113, c114, c115, c116, c117, c118, c119, c120, c121, c122, c123, c124, c125, c126, c127, c128, c129, c130, c131, c132, c133, c134, c135, c136, c137, c138, c139, c140, c141, c142, c143, c144, c145, c146, c147, c148, c149, c150, c151, c152, c153, c154, c155, c156, c157, c158, c159, c160, c161, c162, c163, c164, c165, c166, c167, c168, c169, c170, c171, c172, c173, c174, c175, c176, c177, c178, c179, c180, c181, c182, c183, c184, c185], []⟩ wx := by
  conv => arg 2; whnf
  have pb0 := pb
  obtain ⟨p0, p1, p2⟩ := pb
  go_wp2_with fail
  refine (above_any q cap l (a, n) wx ll sl).mono ?_
  rintro e w1 ⟨qu, cu, rfl, sU, hb1⟩
  have ul := Bur.abvS_len l (a, n)
  by_cases hF : Bur.tpF l (a, n) = 0
  · have E0 : Hid (ev (Bur.tpF l (a, n)) = .nilIface) := by show _ = _; rw [hF]; rfl
    have eS : Bur.abvS l (a, n) = Bur.abv l (a, n) := if_pos hF
    have hC := Bur.abv_chain hF
    rw [← eS] at hC
    obtain ⟨h1, h2⟩ := hC
    have hF' : Hid _ := hF
    have H1 : Hid _ := h1
    have H2 : Hid _ := h2
    rw [E0.out]
    obtain ⟨U, hUU⟩ : ∃ U, Bur.abvS l (a, n) = U := ⟨_, rfl⟩
    rw [hUU] at sU H1 H2 ul ⊢
    clear hUU E0 hF p0 p1 p2 h1 h2 eS
    go_upto_if 49 with fail
    go_cut [4] (fun _ wy => wy = w1)
    case first =>
      go_wp2_with fail
      go_meet
      case rel => exact rfl
    case rest =>
    subst hcut
    refine ‹∀ (a : Act) (w : World), Code.wp _ _ _ a w → _› _ _ ?_
    exact ch2 ll ul hF' H1 H2 (sl.step hb1) sU (pb0.step hb1) (below_via hb hb1)
  · have E0 : Hid (ev (Bur.tpF l (a, n)) = errN (Bur.tpF l (a, n))) := if_neg hF
    rw [E0.out]
    have hb2 := below_via hb hb1
    clear hF hb1 sU sl
    go_wp2_with fail
    go_ret
    exact ⟨rfl, hb2⟩

/-- The fact that the law begins with. -/
theorem fact_above (b : Nat) (w : World) (h : b < w.heap.size) (c0 : w.cell? ⟨b, 0, none⟩ = some (.int .i64 0)) (c1 : w.cell? ⟨b, 1, none⟩ = some (.int .i64 8)) (c2 : w.cell? ⟨b, 2, none⟩ = some (.int .i64 0)) (c3 : w.cell? ⟨b, 3, none⟩ = some (.int .i64 16)) :
    Calls Try.prog 4 #[.slice (some ⟨b, 0, none⟩) 2 2, pfx 1 32] w fun e w' => ∃ (b' off' cap' : Nat), e = .returned (.tuple #[.slice (some ⟨b', off', none⟩) 2 cap', .nilIface]) ∧ w'.cell? ⟨b', off' + 2 + 1, none⟩ = some (.int .i64 16) ∧ Below w.heap.size w w' := by
  have hs : SpAt w (some ⟨b, 0, none⟩) [(0, 8), (0, 16)] := fun _ => ⟨b, 0, rfl, h, fun i hi => by
    match i, hi with
    | 0, _ => exact ⟨c0, c1⟩
    | 1, _ => exact ⟨c2, c3⟩⟩
  refine (above_any (some ⟨b, 0, none⟩) 2 [(0, 8), (0, 16)] (1, 32) w (by decide) hs).mono ?_
  rintro e w' ⟨p', cap', rfl, hp, hb⟩
  rw [Bur.fact8.2] at hp
  obtain ⟨b', off', rfl, _, hc⟩ := hp (by decide)
  refine ⟨b', off', cap', ?_, (hc 1 (by decide)).2, hb⟩
  rw [Bur.fact8.1, Bur.fact8.2, ev_0]
  rfl

set_option maxRecDepth 100000 in
set_option maxHeartbeats 8000000 in
theorem law_chains (a n : Int) (l : List Bur.Sp) (q : Option Addr) (cap : Nat) (w : World) (ll : l.length ≤ 9223372036854775807) (sl : SpAt w q l) :
    Calls Try.prog 3 #[.slice q l.length cap, pfx a n] w fun e w' => e = .returned (.bool true) ∧ Below w.heap.size w w' := by
  have pb : PfAt (w.alloc (.cells #[.int .i64 a, .int .i64 n] 24)) w.heap.size (a, n) := PfAt.new w a n
  have hb0 : Below w.heap.size w (w.alloc (.cells #[.int .i64 a, .int .i64 n] 24)) := below_al (below_self _) _
  go_enter Try.func3, Try.ntmps3
  go_wp2_with fail
  refine (fact_above (w.heap.size + 1) _ (by simp) (by go_simp) (by go_simp) (by go_simp) (by go_simp)).mono ?_
  rintro e w1 ⟨b', off', cap', rfl, hc, hb1⟩
  replace pb := (pb.step (below_al (below_self _) _)).step hb1
  have hb2 := below_via (below_al hb0 _) hb1
  replace sl := sl.step hb2
  clear hb0 hb1
  obtain ⟨Bp, hBp⟩ : ∃ Bp, w.heap.size = Bp := ⟨_, rfl⟩
  rw [hBp] at pb ⊢
  have n1 : ((2 : Int) != 2) = false := by decide
  have n2 : ((16 : Int) != 16) = false := by decide
  go_upto_if 41 with fail
  go_cut [4] (fun _ wy => wy = w1)
  case first =>
    go_wp2_with fail
    go_meet
    case rel => exact rfl
  case rest =>
  subst hcut
  refine ‹∀ (a : Act) (w : World), Code.wp _ _ _ a w → _› _ _ ?_
  exact ch1 ll sl pb hb2
end Go.Proofs.Ytncimpicnhleeaa
