/- The walk of the law VersStays: what is put, and the whole. -/
import Derived.Test.YtollgepjgeoeiaaDoorVtLawD
namespace Vs
def fact1 : List Ver := [⟨⟨#[97]⟩, ⟨#[120]⟩, 3, false⟩]
theorem fact_put : ptF ⟨⟨#[97]⟩, ⟨#[120]⟩, 3, false⟩ 0 = 0 := by decide
theorem fact_list : vput [] ⟨⟨#[97]⟩, ⟨#[120]⟩, 3, false⟩ = fact1 := rfl
theorem fact_ok : OkT fact1 3 := by rw [← fact_list]; exact OkT.nil.put fact_put
theorem fact_see2 : see fact1 ⟨#[97]⟩ 2 = none := by simp [see, fact1, hit]
theorem fact_see4 : see fact1 ⟨#[97]⟩ 4 = some ⟨⟨#[97]⟩, ⟨#[120]⟩, 3, false⟩ := by simp [see, fact1, hit]
theorem fact_get2 : gtF fact1 ⟨#[97]⟩ 2 = 4 := by
  unfold gtF vget; rw [fact_see2]; rfl
theorem fact_get4 : gtF fact1 ⟨#[97]⟩ 4 = 0 ∧ gtS fact1 ⟨#[97]⟩ 4 = ⟨#[120]⟩ := by
  unfold gtF gtS vget; rw [fact_see4]; exact ⟨rfl, rfl⟩
end Vs
namespace Go.Proofs.YtollgepjgeoeiaaDoor
open Go.RowKit

theorem etStep' {w w' : World} (h : ErrType w) (hb : Below w.heap.size w w') : ErrType w' := (hb.cell (World.block_lt_of_cell? _ _ h)).trans h

set_option maxRecDepth 100000 in
set_option maxHeartbeats 8000000 in
theorem vs2 {T : Tb} (V : Face T) {s : List Stp} {p : Option Addr} {cap : Nat} {c a : Int} {key lo hi : ByteArray} {Bt : Nat} {w wx : World} {c6 c7 c8 c9 c10 c11 c12 c14 c15 c16 c17 c18 c19 c20 c21 c22 c23 c24 c25 c26 c27 c28 c29 c30 c31 c32 c33 c34 c35 c36 c37 c38 c39 c40 c41 c42 c43 c44 c45 c46 c47 c48 c49 c50 c51 c52 c53 c54 c55 c56 c57 c58 c59 c60 c61 c62 c63 c64 c65 c66 c67 c68 c69 c70 c71 c72 c73 c74 c75 c76 c77 c78 c79 c80 c81 c82 c83 c84 c85 c86 c87 c88 c89 c90 c91 c92 c93 c94 c95 c96 c97 c98 c99 c100 c101 c102 c103 c104 c105 c106 c107 c108 c109 c110 c111 c112 c113 c114 c115 c116 c117 c118 c119 c120 c121 c122 c123 c124 c125 c126 c127 c128 c129 c130 c131 c132 c133 c134 c135 c136 c137 c138 c139 c140 c141 c142 c143 c144 c145 c146 c147 c148 c149 c150 c151 c152 c153 c154 c155 c156 c157 c158 c159 c160 c161 c162 c163 c164 c165 c166 c167 c168 c169 c170 c171 c172 c173 c174 c175 c176 c177 c178 c179 c180 c181 c182 c183 c184 c185 c186 c187 c188 c189 c190 c191 c192 c193 c194 c195 c196 c197 c198 c199 c200 c201 c202 c203 c204 c205 c206 c207 c208 c209 c210 c211 c212 c213 c214 c215 c216 c217 c218 c219 c220 c221 c222 c223 c224 c225 c226 c227 c228 c229 c230 c231 c232 c233 c234 c235 c236 c237 c238 c239 c240 c241 c242 c243 c244 c245 c246 c247 c248 c249 c250 c251 c252 c253 c254 c255 c256 c257 c258 c259 c260 c261 c262 c263 c264 : Value}
    (ls : s.length ≤ 9223372036854775807) (hs : StAt w p s) (hk : key.size ≤ maxLen) (on : On T w wx Bt [] 0) (hb : Below w.heap.size w wx) :
    Code.wp Tryd.prog (dropSeq 8 (Tryd.f3.body.getD .skip)) (bodyPost Tryd.prog Tryd.f3 fun e w' => e = .returned (.bool true) ∧ Below w.heap.size w w') ⟨#[.slice p s.length cap, .int .i64 c, .string key, .string lo, .string hi, .int .i64 a, c6, c7, c8, c9, c10, c11, c12, .pointer (some ⟨Bt, 0, none⟩), c14, c15, c16, c17, c18, c19, c20, c21, c22, c23, c24, c25, c26, c27, c28, c29, c30, c31, c32, c33, c34, c35, c36, c37, c38, c39, c40, c41, c42, c43, c44, c45, c46, c47, c48, c49, c50, c51, c52, c53, c54, c55, c56, c57, c58, c59, c60, c61, c62, c63, c64, c65, c66, c67, c68, c69, c70, c71, c72, c73, c74, c75, c76, c77, c78, c79, c80, c81, c82, c83, c84, c85, c86, c87, c88, c89, c90, c91, c92, c93, c94, c95, c96, c97, c98, c99, c100, c101, c102, c103, c104, c105, c106, c107, c108, c109, c110, c111, c112, c113, c114, c115, c116, c117, c118, c119, c120, c121, c122, c123, c124, c125, c126, c127, c128, c129, c130, c131, c132, c133, c134, c135, c136, c137, c138, c139, c140, c141, c142, c143, c144, c145, c146, c147, c148, c149, c150, c151, c152, c153, c154, c155, c156, c157, c158, c159, c160, c161, c162, c163, c164, c165, c166, c167, c168, c169, c170, c171, c172, c173, c174, c175, c176, c177, c178, c179, c180, c181, c182, c183, c184, c185, c186, c187, c188, c189, c190, c191, c192, c193, c194, c195, c196, c197, c198, c199, c200, c201, c202, c203, c204, c205, c206, c207, c208, c209, c210, c211, c212, c213, c214, c215, c216, c217, c218, c219, c220, c221, c222, c223, c224, c225, c226, c227, c228, c229, c230, c231, c232, c233, c234, c235, c236, c237, c238, c239, c240, c241, c242, c243, c244, c245, c246, c247, c248, c249, c250, c251, c252, c253, c254, c255, c256, c257, c258, c259, c260, c261, c262, c263, c264], []⟩ wx := by
  conv => arg 2; whnf
  conv => arg 4; dsimp only
  go_upto_block 0 with fail
  go_cut [20] from 67 to 111 (fun _ wy => ∃ (l : List Vs.Ver) (top : Int), l.length ≤ 40 ∧ Vs.OkT l top ∧ On T w wy Bt l top ∧ Below w.heap.size w wy)
  case rest =>
    obtain ⟨l, top, hl, ok, on', hb'⟩ := hcut
    refine ‹∀ (a : Act) (w : World), Code.wp _ _ _ a w → _› _ _ ?_
    exact vs3 V ok (by omega) hk on' hb'
  case first =>
  go_wp2_with fail
  go_loopw [20] (fun i wr => ∃ (k : Nat) (l : List Vs.Ver) (top : Int), k ≤ s.length ∧ k ≤ 40 ∧ i = .int .i64 k ∧ l.length ≤ k ∧ Vs.OkT l top ∧ On T w wr Bt l top ∧ Below w.heap.size w wr) (fun i _ => s.length - (intOf i).toNat)
  case atStart => exact ⟨0, [], 0, by omega, by omega, rfl, by simp, Vs.OkT.nil, on, hb⟩
  case round =>
    obtain ⟨k, l, top, hk1, hk40, rfl, hlk, ok, onr, hbr⟩ := hrel
    clear on hb
    by_cases hlt : k < s.length
    · by_cases h40 : k < 40
      · have g1 : decide ((k : Int) < (s.length : Int)) = true := by simp; omega
        have g2 : decide ((k : Int) < 40) = true := by simp; omega
        have hlt' : (k : Int) < (s.length : Int) := by omega
        obtain ⟨b, off, rfl, hbl, hc⟩ := hs (by omega)
        obtain ⟨x, hx⟩ : ∃ x, s[k]? = some x := ⟨s[k], List.getElem?_eq_getElem hlt⟩
        obtain ⟨f0, f1, f2, f3, f4, f5, z1, z2, z3⟩ := hc k x hx
        have d0 := (hbr.cell (p := ⟨b, off + k * 6, none⟩) hbl).trans f0
        have d2 := (hbr.cell (p := ⟨b, off + k * 6 + 2, none⟩) hbl).trans f2
        have d4 := (hbr.cell (p := ⟨b, off + k * 6 + 4, none⟩) hbl).trans f4
        have d5 := (hbr.cell (p := ⟨b, off + k * 6 + 5, none⟩) hbl).trans f5
        obtain ⟨F, hT, hF⟩ := onr.step V (below_self wr).drew
        have hbd := hbr.drew
        clear hc hx f0 f1 f3 hs onr
        by_cases hw : x.what = 0
        · have g3 : (x.what == 0) = true := by simpa using hw
          have K := V.drop x.key x.n hT ok (by omega) (fun j hj => (hF j hj).2) z1
          clear hw
          go_wp2_with fail
          go_region_held3 (fun wy => wy.cell? ⟨b, off + k * 6 + 2, none⟩ = some (.string x.key) ∧ wy.cell? ⟨b, off + k * 6 + 5, none⟩ = some (.int .i64 x.n)) (first | exact ⟨m2, m5⟩ | exact ⟨d2, d5⟩)
            (first
              | (go_at_call 8; refine K.mono ?_; rintro e w2 ⟨rfl, hT2, hb2⟩; have on2 := On.put hF hbd hT2 hb2; have m2 := (on2.2.cell (p := ⟨b, off + k * 6 + 2, none⟩) hbl).trans f2; have m5 := (on2.2.cell (p := ⟨b, off + k * 6 + 5, none⟩) hbl).trans f5))
          clear K hT hF
          go_wp2_with fail
          exact ⟨⟨k + 1, _, _, by omega, by omega, by go_num, Nat.le_trans (Vs.len_ptL _ _ _) (by omega), ok.putS _, on2.1, on2.2⟩, by simp [intOf]; omega⟩
        · have g3 : (x.what == 0) = false := by simpa using hw
          have K := V.put x.key x.val x.n hT ok (by omega) (fun j hj => (hF j hj).2) z1 z3
          clear hw
          go_wp2_with fail
          go_region_held3 (fun wy => wy.cell? ⟨b, off + k * 6 + 2, none⟩ = some (.string x.key) ∧ wy.cell? ⟨b, off + k * 6 + 4, none⟩ = some (.string x.val) ∧ wy.cell? ⟨b, off + k * 6 + 5, none⟩ = some (.int .i64 x.n)) (first | exact ⟨m2, m4, m5⟩ | exact ⟨d2, d4, d5⟩)
            (first
              | (go_at_call 5; refine K.mono ?_; rintro e w2 ⟨rfl, hT2, hb2⟩; have on2 := On.put hF hbd hT2 hb2; have m2 := (on2.2.cell (p := ⟨b, off + k * 6 + 2, none⟩) hbl).trans f2; have m4 := (on2.2.cell (p := ⟨b, off + k * 6 + 4, none⟩) hbl).trans f4; have m5 := (on2.2.cell (p := ⟨b, off + k * 6 + 5, none⟩) hbl).trans f5))
          clear K hT hF
          go_wp2_with fail
          exact ⟨⟨k + 1, _, _, by omega, by omega, by go_num, Nat.le_trans (Vs.len_ptL _ _ _) (by omega), ok.putS _, on2.1, on2.2⟩, by simp [intOf]; omega⟩
      · have g1 : decide ((k : Int) < (s.length : Int)) = true := by simp; omega
        have g2 : decide ((k : Int) < 40) = false := by simp; omega
        clear hs
        go_wp2_with fail
        go_meet
        case rel => exact ⟨l, top, by omega, ok, onr, hbr⟩
    · have g1 : decide ((k : Int) < (s.length : Int)) = false := by simp; omega
      clear hs
      go_wp2_with fail
      go_meet
      case rel => exact ⟨l, top, by omega, ok, onr, hbr⟩

set_option maxRecDepth 100000 in
set_option maxHeartbeats 8000000 in
theorem vs1 {T : Tb} (V : Face T) {s : List Stp} {p : Option Addr} {cap : Nat} {c a : Int} {key lo hi : ByteArray} {w wx : World} {c6 c7 c8 c9 c10 c11 c12 c13 c14 c15 c16 c17 c18 c19 c20 c21 c22 c23 c24 c25 c26 c27 c28 c29 c30 c31 c32 c33 c34 c35 c36 c37 c38 c39 c40 c41 c42 c43 c44 c45 c46 c47 c48 c49 c50 c51 c52 c53 c54 c55 c56 c57 c58 c59 c60 c61 c62 c63 c64 c65 c66 c67 c68 c69 c70 c71 c72 c73 c74 c75 c76 c77 c78 c79 c80 c81 c82 c83 c84 c85 c86 c87 c88 c89 c90 c91 c92 c93 c94 c95 c96 c97 c98 c99 c100 c101 c102 c103 c104 c105 c106 c107 c108 c109 c110 c111 c112 c113 c114 c115 c116 c117 c118 c119 c120 c121 c122 c123 c124 c125 c126 c127 c128 c129 c130 c131 c132 c133 c134 c135 c136 c137 c138 c139 c140 c141 c142 c143 c144 c145 c146 c147 c148 c149 c150 c151 c152 c153 c154 c155 c156 c157 c158 c159 c160 c161 c162 c163 c164 c165 c166 c167 c168 c169 c170 c171 c172 c173 c174 c175 c176 c177 c178 c179 c180 c181 c182 c183 c184 c185 c186 c187 c188 c189 c190 c191 c192 c193 c194 c195 c196 c197 c198 c199 c200 c201 c202 c203 c204 c205 c206 c207 c208 c209 c210 c211 c212 c213 c214 c215 c216 c217 c218 c219 c220 c221 c222 c223 c224 c225 c226 c227 c228 c229 c230 c231 c232 c233 c234 c235 c236 c237 c238 c239 c240 c241 c242 c243 c244 c245 c246 c247 c248 c249 c250 c251 c252 c253 c254 c255 c256 c257 c258 c259 c260 c261 c262 c263 c264 : Value}
    (ls : s.length ≤ 9223372036854775807) (hs : StAt w p s) (hk : key.size ≤ maxLen) (hb : Below w.heap.size w wx) :
    Code.wp Tryd.prog (dropSeq 7 (Tryd.f3.body.getD .skip)) (bodyPost Tryd.prog Tryd.f3 fun e w' => e = .returned (.bool true) ∧ Below w.heap.size w w') ⟨#[.slice p s.length cap, .int .i64 c, .string key, .string lo, .string hi, .int .i64 a, c6, c7, c8, c9, c10, c11, c12, c13, c14, c15, c16, c17, c18, c19, c20, c21, c22, c23, c24, c25, c26, c27, c28, c29, c30, c31, c32, c33, c34, c35, c36, c37, c38, c39, c40, c41, c42, c43, c44, c45, c46, c47, c48, c49, c50, c51, c52, c53, c54, c55, c56, c57, c58, c59, c60, c61, c62, c63, c64, c65, c66, c67, c68, c69, c70, c71, c72, c73, c74, c75, c76, c77, c78, c79, c80, c81, c82, c83, c84, c85, c86, c87, c88, c89, c90, c91, c92, c93, c94, c95, c96, c97, c98, c99, c100, c101, c102, c103, c104, c105, c106, c107, c108, c109, c110, c111, c112, c113, c114, c115, c116, c117, c118, c119, c120, c121, c122, c123, c124, c125, c126, c127, c128, c129, c130, c131, c132, c133, c134, c135, c136, c137, c138, c139, c140, c141, c142, c143, c144, c145, c146, c147, c148, c149, c150, c151, c152, c153, c154, c155, c156, c157, c158, c159, c160, c161, c162, c163, c164, c165, c166, c167, c168, c169, c170, c171, c172, c173, c174, c175, c176, c177, c178, c179, c180, c181, c182, c183, c184, c185, c186, c187, c188, c189, c190, c191, c192, c193, c194, c195, c196, c197, c198, c199, c200, c201, c202, c203, c204, c205, c206, c207, c208, c209, c210, c211, c212, c213, c214, c215, c216, c217, c218, c219, c220, c221, c222, c223, c224, c225, c226, c227, c228, c229, c230, c231, c232, c233, c234, c235, c236, c237, c238, c239, c240, c241, c242, c243, c244, c245, c246, c247, c248, c249, c250, c251, c252, c253, c254, c255, c256, c257, c258, c259, c260, c261, c262, c263, c264], []⟩ wx := by
  conv => arg 2; whnf
  conv => arg 4; dsimp only
  go_upto_region 8 with fail
  go_cut [13] from 66 to 66 (fun v wy => ∃ Bt, v = .pointer (some ⟨Bt, 0, none⟩) ∧ On T w wy Bt [] 0 ∧ Below w.heap.size w wy)
  case first =>
    go_wp2_with fail
    refine (V.new wx).mono ?_
    rintro e w1 ⟨Bt, rfl, hT1, hb1⟩
    have hs1 := hb.size
    have on : On T w w1 Bt [] 0 := ⟨_, hT1, fun j hj => ⟨by omega, hj.2⟩⟩
    replace hb := below_via hb hb1
    clear hT1 hb1
    go_wp2_with fail
    go_meet
    case rel => exact ⟨Bt, rfl, on, hb⟩
  case rest =>
  obtain ⟨Bt, rfl, on, hb1⟩ := hcut
  refine ‹∀ (a : Act) (w : World), Code.wp _ _ _ a w → _› _ _ ?_
  exact vs2 V ls hs hk on hb1

set_option maxRecDepth 100000 in
set_option maxHeartbeats 8000000 in
theorem law_stays {T : Tb} (V : Face T) (s : List Stp) (p : Option Addr) (cap : Nat) (c a : Int) (key lo hi : ByteArray) (w : World) (ls : s.length ≤ 9223372036854775807) (hs : StAt w p s) (hk : key.size ≤ maxLen) (het : ErrType w) :
    Calls Tryd.prog 3 #[.slice p s.length cap, .int .i64 c, .string key, .string lo, .string hi, .int .i64 a] w fun e w' => e = .returned (.bool true) ∧ Below w.heap.size w w' := by
  go_enter Tryd.func3, Tryd.ntmps3
  go_wp2_with fail
  refine (V.new w).mono ?_
  rintro e w1 ⟨B1, rfl, hT1, hb1⟩
  have K2 := V.put ⟨#[97]⟩ ⟨#[120]⟩ 3 hT1 Vs.OkT.nil (by simp) (fun j hj => hj.2) (by decide) (by decide)
  rw [show Vs.ptL [] 0 ⟨⟨#[97]⟩, ⟨#[120]⟩, 3, false⟩ = Vs.fact1 from if_pos Vs.fact_put, show Vs.ptT 0 ⟨⟨#[97]⟩, ⟨#[120]⟩, 3, false⟩ = 3 from if_pos Vs.fact_put, Vs.fact_put, ev_0] at K2
  go_wp2_with fail
  refine K2.mono ?_
  rintro e w2 ⟨rfl, hT2, hb2⟩
  have hbw := (On.put (w := w) (fun j hj => hj) hb1 hT2 hb2).2
  clear K2 hb2 hT1 hb1
  have K3 := V.get ⟨#[97]⟩ 2 hT2 Vs.fact_ok (by decide) (by decide)
  rw [Vs.fact_get2] at K3
  go_wp2_with fail
  refine K3.mono ?_
  rintro e w3 ⟨rfl, hb3⟩
  have hT3 := V.step hT2 hb3
  replace hbw := below_via hbw hb3
  clear K3 hT2 hb3
  have K4 := V.get ⟨#[97]⟩ 4 hT3 Vs.fact_ok (by decide) (by decide)
  rw [Vs.fact_get4.1, Vs.fact_get4.2, ev_0] at K4
  go_wp2_with fail
  refine K4.mono ?_
  rintro e w4 ⟨rfl, hb4⟩
  replace hbw := below_via hbw hb4
  clear K4 hT3 hb4
  go_wp2_with fail
  refine (error_any 4 4 _ (etStep' het hbw)).mono ?_
  rintro e w5 ⟨rfl, hb5⟩
  replace hbw := below_via hbw hb5
  clear hb5
  have n1 : (((⟨#[120]⟩ : ByteArray).toList == (⟨#[120]⟩ : ByteArray).toList)) = true := by simp
  go_upto_if 65 with fail
  go_cut [12] (fun _ wy => wy = w5)
  case first =>
    go_wp2_with fail
    go_meet
    case rel => exact rfl
  case rest =>
  subst hcut
  refine ‹∀ (a : Act) (w : World), Code.wp _ _ _ a w → _› _ _ ?_
  exact vs1 V ls hs hk hbw
end Go.Proofs.YtollgepjgeoeiaaDoor
