/- The walk of the law VersRanges: what is told, one by one. -/
import Derived.Test.YtollgepjgeoeiaaVrLaw
namespace Vs
theorem at_rise {N : List Pr} (h : rises N) {i j : Nat} {p q : Pr} (hij : i < j) (hp : N[i]? = some p) (hq : N[j]? = some q) : bl p.1 q.1 = true := by
  obtain ⟨h1, e1⟩ := List.getElem?_eq_some_iff.1 hp
  obtain ⟨h2, e2⟩ := List.getElem?_eq_some_iff.1 hq
  have := List.pairwise_iff_getElem.1 h i j h1 h2 hij
  rw [e1, e2] at this
  exact this
end Vs
namespace Go.Proofs.Ytollgepjgeoeiaa
open Go.RowKit

set_option maxRecDepth 100000 in
set_option maxHeartbeats 8000000 in
theorem vr3 {T : Tb} (V : Face T) {l : List Vs.Ver} {top a : Int} {key lo hi : ByteArray} {q : Option Addr} {cq : Nat} {N : List Vs.Pr} {Bt : Nat} {w wx : World} {c0 c5 c6 c7 c8 c9 c10 c12 c13 c14 c15 c17 c18 c19 c20 c21 c22 c23 c24 c25 c26 c27 c28 c29 c30 c31 c32 c33 c34 c35 c36 c37 c38 c39 c40 c41 c42 c43 c44 c45 c46 c47 c48 c49 c50 c51 c52 c53 c54 c55 c56 c57 c58 c59 c60 c61 c62 c63 c64 c65 c66 c67 c68 c69 c70 c71 c72 c73 c74 c75 c76 c77 c78 c79 c80 c81 c82 c83 c84 c85 c86 c87 c88 c89 c90 c91 c92 c93 c94 c95 c96 c97 c98 c99 c100 c101 c102 c103 c104 c105 c106 c107 c108 c109 c110 c111 c112 c113 c114 c115 c116 c117 c118 c119 c120 c121 c122 c123 c124 c125 c126 c127 c128 c129 c130 c131 c132 c133 c134 c135 c136 c137 c138 c139 c140 c141 c142 c143 c144 c145 c146 c147 c148 c149 c150 c151 c152 c153 c154 c155 c156 c157 c158 c159 c160 c161 c162 c163 c164 c165 c166 c167 c168 c169 c170 c171 c172 c173 c174 c175 c176 c177 c178 c179 c180 c181 c182 c183 c184 c185 c186 c187 c188 c189 c190 c191 c192 c193 c194 c195 c196 c197 c198 c199 c200 c201 c202 c203 c204 c205 c206 c207 c208 c209 c210 c211 c212 c213 c214 c215 c216 c217 c218 c219 c220 c221 : Value}
    (ok : Vs.OkT l top) (ll : l.length ≤ 900) (h0 : 0 ≤ a) (h1 : a ≤ 1000000) (hk : key.size ≤ maxLen) (hN : Hid (N = Vs.vrng l lo hi a)) (hNl : N.length ≤ 1000) (hp : PrAt wx q N) (on : On T w wx Bt l top) (hb : Below w.heap.size w wx) :
    Code.wp Try.prog (dropSeq 9 (Try.f3.body.getD .skip)) (bodyPost Try.prog Try.f3 fun e w' => e = .returned (.bool true) ∧ Below w.heap.size w w') ⟨#[c0, .string lo, .string hi, .int .i64 a, .string key, c5, c6, c7, c8, c9, c10, .pointer (some ⟨Bt, 0, none⟩), c12, c13, c14, c15, .slice q N.length cq, c17, c18, c19, c20, c21, c22, c23, c24, c25, c26, c27, c28, c29, c30, c31, c32, c33, c34, c35, c36, c37, c38, c39, c40, c41, c42, c43, c44, c45, c46, c47, c48, c49, c50, c51, c52, c53, c54, c55, c56, c57, c58, c59, c60, c61, c62, c63, c64, c65, c66, c67, c68, c69, c70, c71, c72, c73, c74, c75, c76, c77, c78, c79, c80, c81, c82, c83, c84, c85, c86, c87, c88, c89, c90, c91, c92, c93, c94, c95, c96, c97, c98, c99, c100, c101, c102, c103, c104, c105, c106, c107, c108, c109, c110, c111, c112, c113, c114, c115, c116, c117, c118, c119, c120, c121, c122, c123, c124, c125, c126, c127, c128, c129, c130, c131, c132, c133, c134, c135, c136, c137, c138, c139, c140, c141, c142, c143, c144, c145, c146, c147, c148, c149, c150, c151, c152, c153, c154, c155, c156, c157, c158, c159, c160, c161, c162, c163, c164, c165, c166, c167, c168, c169, c170, c171, c172, c173, c174, c175, c176, c177, c178, c179, c180, c181, c182, c183, c184, c185, c186, c187, c188, c189, c190, c191, c192, c193, c194, c195, c196, c197, c198, c199, c200, c201, c202, c203, c204, c205, c206, c207, c208, c209, c210, c211, c212, c213, c214, c215, c216, c217, c218, c219, c220, c221], []⟩ wx := by
  conv => arg 2; whnf
  have hA : Vs.atF a = 0 := if_neg (by omega)
  obtain ⟨hr, hm⟩ := Vs.vrng_is ok lo hi a
  rw [← hN.out] at hr hm
  have hall := Vs.hasK_is ok lo hi key a
  rw [← hN.out] at hall
  replace hall : Hid _ := hall
  go_upto_block 2 with fail
  go_cut [18, 19, 20, 21] from 111 to 184 (fun v18 _ _ _ wy => v18 = .bool (Vs.hasK N key) ∧ On T w wy Bt l top ∧ Below w.heap.size w wy)
  case rest =>
    obtain ⟨rfl, on', hb'⟩ := hcut
    refine ‹∀ (a : Act) (w : World), Code.wp _ _ _ a w → _› _ _ ?_
    exact vr4 V ok ll h0 h1 hk hall on' hb'
  case first =>
  clear hall
  go_wp2_with fail
  go_loopw [18, 19] (fun v i wr => ∃ (k : Nat), k ≤ N.length ∧ i = .int .i64 k ∧ v = .bool (Vs.hasK (N.take k) key) ∧ PrAt wr q N ∧ On T w wr Bt l top ∧ Below w.heap.size w wr) (fun _ i _ => N.length - (intOf i).toNat)
  case atStart => exact ⟨0, by omega, rfl, rfl, hp, on, hb⟩
  case round =>
    obtain ⟨k, hkl, rfl, hv, hpr, onr, hbr⟩ := hrel
    clear on hb hp
    by_cases hlt : k < N.length
    · have hlt' : (k : Int) < (N.length : Int) := by omega
      obtain ⟨b, off, rfl, hbl, hc⟩ := hpr (by omega)
      obtain ⟨x, hx⟩ : ∃ x, N[k]? = some x := ⟨N[k], List.getElem?_eq_getElem hlt⟩
      obtain ⟨d0, d1⟩ := hc k x hx
      obtain ⟨b1, b2⟩ := (hm x).1 (List.mem_of_getElem? hx)
      have hsz : x.1.size ≤ maxLen := by
        obtain ⟨z, hz, _, _⟩ := Vs.vget_some.1 b2
        obtain ⟨z1, z2, _⟩ := Vs.see_some hz
        have := (ok.each z z1).1.2.1
        rw [z2] at this
        unfold maxLen; omega
      obtain ⟨F, hT, hF⟩ := onr
      have K1 := V.get x.1 a hT ok (by omega) hsz
      rw [show Vs.gtF l x.1 a = 0 from (if_pos hA).trans (by rw [b2]; rfl), show Vs.gtS l x.1 a = x.2 from (if_pos hA).trans (by rw [b2]; rfl), ev_0] at K1
      simp only [Vs.btw, Bool.and_eq_true, Bool.not_eq_true', Vs.bl] at b1
      obtain ⟨g1, g2⟩ := b1
      have g5 : (x.2.toList == x.2.toList) = true := by simp
      have hstep := Vs.hasK_take hx key
      rw [← Vs.beq_str] at hstep
      have R0 : Hid (Vs.hasK (N.take k) key = true → Vs.hasK (N.take (k + 1)) key = true) := fun h => by rw [hstep, h]; rfl
      have R1 : Hid (Vs.hasK (N.take k) key = false → Vs.hasK (N.take (k + 1)) key = (x.1.toList == key.toList)) := fun h => by rw [hstep, h]; rfl
      subst hv
      by_cases hk0 : 0 < k
      · obtain ⟨y, hy⟩ : ∃ y, N[k - 1]? = some y := ⟨N[k - 1], List.getElem?_eq_getElem (by omega)⟩
        have y0 := (hc (k - 1) y hy).1
        have hyx := Vs.at_rise hr (show k - 1 < k by omega) hy hx
        have g3 : Op.bytesLess x.1.toList y.1.toList = false := Vs.bl_asym hyx
        have g4 : (x.1.toList == y.1.toList) = false := by rw [Vs.beq_str]; have := Vs.bl_ne hyx; simpa using fun e : x.1 = y.1 => this e.symm
        have g0 : decide ((0 : Int) < (k : Int)) = true := by simp; omega
        clear hc hx hy hyx hstep b2 hm hr hN
        cases hh : Vs.hasK (N.take k) key
        · have R : Hid _ := R1.out hh
          clear R0 R1 hh
          go_wp2_with fail
          refine K1.mono ?_
          rintro e w1 ⟨rfl, hb1⟩
          have on1 : On T w w1 Bt l top := On.step V ⟨F, hT, hF⟩ hb1
          have c0 := (hb1.cell (p := ⟨b, off + k * 2, none⟩) hbl).trans d0
          have c1 := (hb1.cell (p := ⟨b, off + k * 2 + 1, none⟩) hbl).trans d1
          have c2 := (hb1.cell (p := ⟨b, off + (k - 1) * 2, none⟩) hbl).trans y0
          have hp1 : PrAt w1 (some ⟨b, off, none⟩) N := hpr.step hb1
          have hb2 := below_via hbr hb1
          clear K1 hb1 hT hF hbr hpr
          go_wp2_with fail
          go_quiet (fail)
          go_wp2_with fail
          exact ⟨⟨k + 1, by omega, by go_num, by rw [R.out], hp1.step (below_drewN (below_self _) _), On.step V on1 (below_drewN (below_self _) _), below_drewN hb2 _⟩, by simp [intOf]; omega⟩
        · have R : Hid _ := R0.out hh
          clear R0 R1 hh
          go_wp2_with fail
          refine K1.mono ?_
          rintro e w1 ⟨rfl, hb1⟩
          have on1 : On T w w1 Bt l top := On.step V ⟨F, hT, hF⟩ hb1
          have c0 := (hb1.cell (p := ⟨b, off + k * 2, none⟩) hbl).trans d0
          have c1 := (hb1.cell (p := ⟨b, off + k * 2 + 1, none⟩) hbl).trans d1
          have c2 := (hb1.cell (p := ⟨b, off + (k - 1) * 2, none⟩) hbl).trans y0
          have hp1 : PrAt w1 (some ⟨b, off, none⟩) N := hpr.step hb1
          have hb2 := below_via hbr hb1
          clear K1 hb1 hT hF hbr hpr
          go_wp2_with fail
          go_quiet (fail)
          go_wp2_with fail
          exact ⟨⟨k + 1, by omega, by go_num, by rw [R.out], hp1.step (below_drewN (below_self _) _), On.step V on1 (below_drewN (below_self _) _), below_drewN hb2 _⟩, by simp [intOf]; omega⟩
      · have g0 : decide ((0 : Int) < (k : Int)) = false := by simp; omega
        clear hc hx hstep b2 hm hr hN
        cases hh : Vs.hasK (N.take k) key
        · have R : Hid _ := R1.out hh
          clear R0 R1 hh
          go_wp2_with fail
          refine K1.mono ?_
          rintro e w1 ⟨rfl, hb1⟩
          have on1 : On T w w1 Bt l top := On.step V ⟨F, hT, hF⟩ hb1
          have c0 := (hb1.cell (p := ⟨b, off + k * 2, none⟩) hbl).trans d0
          have c1 := (hb1.cell (p := ⟨b, off + k * 2 + 1, none⟩) hbl).trans d1
          have hp1 : PrAt w1 (some ⟨b, off, none⟩) N := hpr.step hb1
          have hb2 := below_via hbr hb1
          clear K1 hb1 hT hF hbr hpr
          go_wp2_with fail
          go_quiet (fail)
          go_wp2_with fail
          exact ⟨⟨k + 1, by omega, by go_num, by rw [R.out], hp1.step (below_drewN (below_self _) _), On.step V on1 (below_drewN (below_self _) _), below_drewN hb2 _⟩, by simp [intOf]; omega⟩
        · have R : Hid _ := R0.out hh
          clear R0 R1 hh
          go_wp2_with fail
          refine K1.mono ?_
          rintro e w1 ⟨rfl, hb1⟩
          have on1 : On T w w1 Bt l top := On.step V ⟨F, hT, hF⟩ hb1
          have c0 := (hb1.cell (p := ⟨b, off + k * 2, none⟩) hbl).trans d0
          have c1 := (hb1.cell (p := ⟨b, off + k * 2 + 1, none⟩) hbl).trans d1
          have hp1 : PrAt w1 (some ⟨b, off, none⟩) N := hpr.step hb1
          have hb2 := below_via hbr hb1
          clear K1 hb1 hT hF hbr hpr
          go_wp2_with fail
          go_quiet (fail)
          go_wp2_with fail
          exact ⟨⟨k + 1, by omega, by go_num, by rw [R.out], hp1.step (below_drewN (below_self _) _), On.step V on1 (below_drewN (below_self _) _), below_drewN hb2 _⟩, by simp [intOf]; omega⟩
    · have hE : N.take k = N := List.take_of_length_le (by omega)
      rw [hE] at hv
      clear hm hr hN hpr hE
      go_wp2_with fail
      go_meet
      case rel => exact ⟨hv, onr, hbr⟩
end Go.Proofs.Ytollgepjgeoeiaa
