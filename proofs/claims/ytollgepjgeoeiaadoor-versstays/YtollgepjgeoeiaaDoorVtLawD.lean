/- The walk of the law VersStays: from its first question on. -/
import Derived.Test.YtollgepjgeoeiaaDoorVtLawC
namespace Go.Proofs.YtollgepjgeoeiaaDoor
open Go.RowKit

theorem vcol_len (l : List Vs.Ver) (a : Int) : (Vs.vcol l a).length ≤ l.length := List.length_filter_le _ _

set_option maxRecDepth 100000 in
set_option maxHeartbeats 8000000 in
theorem vs3 {T : Tb} (V : Face T) {l : List Vs.Ver} {top c a : Int} {key lo hi : ByteArray} {Bt : Nat} {w wx : World} {c0 c6 c7 c8 c9 c10 c11 c12 c14 c15 c16 c17 c18 c19 c20 c21 c22 c23 c24 c25 c26 c27 c28 c29 c30 c31 c32 c33 c34 c35 c36 c37 c38 c39 c40 c41 c42 c43 c44 c45 c46 c47 c48 c49 c50 c51 c52 c53 c54 c55 c56 c57 c58 c59 c60 c61 c62 c63 c64 c65 c66 c67 c68 c69 c70 c71 c72 c73 c74 c75 c76 c77 c78 c79 c80 c81 c82 c83 c84 c85 c86 c87 c88 c89 c90 c91 c92 c93 c94 c95 c96 c97 c98 c99 c100 c101 c102 c103 c104 c105 c106 c107 c108 c109 c110 c111 c112 c113 c114 c115 c116 c117 c118 c119 c120 c121 c122 c123 c124 c125 c126 c127 c128 c129 c130 c131 c132 c133 c134 c135 c136 c137 c138 c139 c140 c141 c142 c143 c144 c145 c146 c147 c148 c149 c150 c151 c152 c153 c154 c155 c156 c157 c158 c159 c160 c161 c162 c163 c164 c165 c166 c167 c168 c169 c170 c171 c172 c173 c174 c175 c176 c177 c178 c179 c180 c181 c182 c183 c184 c185 c186 c187 c188 c189 c190 c191 c192 c193 c194 c195 c196 c197 c198 c199 c200 c201 c202 c203 c204 c205 c206 c207 c208 c209 c210 c211 c212 c213 c214 c215 c216 c217 c218 c219 c220 c221 c222 c223 c224 c225 c226 c227 c228 c229 c230 c231 c232 c233 c234 c235 c236 c237 c238 c239 c240 c241 c242 c243 c244 c245 c246 c247 c248 c249 c250 c251 c252 c253 c254 c255 c256 c257 c258 c259 c260 c261 c262 c263 c264 : Value}
    (ok : Vs.OkT l top) (ll : l.length ≤ 900) (hk : key.size ≤ maxLen) (on : On T w wx Bt l top) (hb : Below w.heap.size w wx) :
    Code.wp Tryd.prog (dropSeq 9 (Tryd.f3.body.getD .skip)) (bodyPost Tryd.prog Tryd.f3 fun e w' => e = .returned (.bool true) ∧ Below w.heap.size w w') ⟨#[c0, .int .i64 c, .string key, .string lo, .string hi, .int .i64 a, c6, c7, c8, c9, c10, c11, c12, .pointer (some ⟨Bt, 0, none⟩), c14, c15, c16, c17, c18, c19, c20, c21, c22, c23, c24, c25, c26, c27, c28, c29, c30, c31, c32, c33, c34, c35, c36, c37, c38, c39, c40, c41, c42, c43, c44, c45, c46, c47, c48, c49, c50, c51, c52, c53, c54, c55, c56, c57, c58, c59, c60, c61, c62, c63, c64, c65, c66, c67, c68, c69, c70, c71, c72, c73, c74, c75, c76, c77, c78, c79, c80, c81, c82, c83, c84, c85, c86, c87, c88, c89, c90, c91, c92, c93, c94, c95, c96, c97, c98, c99, c100, c101, c102, c103, c104, c105, c106, c107, c108, c109, c110, c111, c112, c113, c114, c115, c116, c117, c118, c119, c120, c121, c122, c123, c124, c125, c126, c127, c128, c129, c130, c131, c132, c133, c134, c135, c136, c137, c138, c139, c140, c141, c142, c143, c144, c145, c146, c147, c148, c149, c150, c151, c152, c153, c154, c155, c156, c157, c158, c159, c160, c161, c162, c163, c164, c165, c166, c167, c168, c169, c170, c171, c172, c173, c174, c175, c176, c177, c178, c179, c180, c181, c182, c183, c184, c185, c186, c187, c188, c189, c190, c191, c192, c193, c194, c195, c196, c197, c198, c199, c200, c201, c202, c203, c204, c205, c206, c207, c208, c209, c210, c211, c212, c213, c214, c215, c216, c217, c218, c219, c220, c221, c222, c223, c224, c225, c226, c227, c228, c229, c230, c231, c232, c233, c234, c235, c236, c237, c238, c239, c240, c241, c242, c243, c244, c245, c246, c247, c248, c249, c250, c251, c252, c253, c254, c255, c256, c257, c258, c259, c260, c261, c262, c263, c264], []⟩ wx := by
  conv => arg 2; whnf
  conv => arg 4; dsimp only
  by_cases h1 : c < 0
  · have g1 : decide (c < 0) = true := by simpa using h1
    clear on h1
    go_wp2_with fail
    go_ret
    exact ⟨rfl, hb⟩
  have g1 : decide (c < 0) = false := by simpa using h1
  by_cases h2 : a < c
  · have g2 : decide (a < c) = true := by simpa using h2
    clear on h1 h2
    go_wp2_with fail
    go_ret
    exact ⟨rfl, hb⟩
  have g2 : decide (a < c) = false := by simpa using h2
  by_cases h3 : 1000000 < a
  · have g3 : decide (1000000 < a) = true := by simpa using h3
    clear on h1 h2 h3
    go_wp2_with fail
    go_ret
    exact ⟨rfl, hb⟩
  have g3 : decide (1000000 < a) = false := by simpa using h3
  obtain ⟨F, hT, hF⟩ := on
  have hAa : Vs.atF a = 0 := if_neg (by omega)
  have hAc : Vs.atF c = 0 := if_neg (by omega)
  have okC := ok.col c
  have lC := vcol_len l c
  have eg := Vs.gt_eq (Vs.vget_col ok (show c ≤ a by omega) key)
  have er := Vs.vrng_col ok (show c ≤ a by omega) lo hi
  have ea := Vs.vcol_again ok c
  have hNl := Vs.vrng_len l lo hi a
  have K1 := V.get key a hT ok (by omega) hk
  have K2 := fun (W2 : World) (hT2 : T W2 F Bt l top) => V.range lo hi a hT2 ok (by omega)
  have K3 := fun (W2 : World) (hT2 : T W2 F Bt l top) (hF2 : ∀ j, F j → j < W2.heap.size) => V.collect c hT2 ok (by omega) hF2
  rw [show Vs.rgS l lo hi a = Vs.vrng l lo hi a from if_pos hAa, hAa] at K2
  rw [show Vs.clS l c = Vs.vcol l c from if_pos hAc, hAc] at K3
  obtain ⟨lc, hlc⟩ : ∃ lc, lc = Vs.vcol l c := ⟨_, rfl⟩
  rw [← hlc] at okC lC eg er K3
  have K4 := fun (F2 : Nat → Prop) (W2 : World) (hT2 : T W2 F2 Bt lc top) => V.size hT2 okC (by omega)
  have K5 := fun (F2 : Nat → Prop) (W2 : World) (hT2 : T W2 F2 Bt lc top) => V.get key a hT2 okC (by omega) hk
  have K6 := fun (F2 : Nat → Prop) (W2 : World) (hT2 : T W2 F2 Bt lc top) => V.range lo hi a hT2 okC (by omega)
  have K7 := fun (F2 : Nat → Prop) (W2 : World) (hT2 : T W2 F2 Bt lc top) (hF2 : ∀ j, F2 j → j < W2.heap.size) => V.collect c hT2 okC (by omega) hF2
  rw [show Vs.rgS lc lo hi a = Vs.vrng lc lo hi a from if_pos hAa, er, hAa] at K6
  rw [show Vs.clS lc c = lc from (if_pos hAc).trans (by rw [hlc]; exact ea), hAc, Int.sub_self] at K7
  obtain ⟨xv, hxv⟩ : ∃ xv, xv = Vs.gtS l key a := ⟨_, rfl⟩
  obtain ⟨xe, hxe⟩ : ∃ xe, xe = Vs.gtF l key a := ⟨_, rfl⟩
  obtain ⟨N, hN⟩ : ∃ N, N = Vs.vrng l lo hi a := ⟨_, rfl⟩
  rw [eg.1, eg.2, ← hxv, ← hxe] at K5
  rw [← hxv, ← hxe] at K1
  rw [← hN] at K2 K6 hNl
  have X1 : Hid (Vs.gtS lc key a = xv) := by show _ = _; rw [eg.2, hxv]
  have X2 : Hid (Vs.gtF lc key a = xe) := by show _ = _; rw [eg.1, hxe]
  have X3 : Hid (Vs.vrng lc lo hi a = N) := by show _ = _; rw [er, hN]
  have a0 : 0 ≤ a := by omega
  have a1 : a ≤ 1000000 := by omega
  clear eg er ea hlc hxv hxe hN hAa hAc h1 h2 h3
  go_wp2_with fail
  refine K1.mono ?_
  rintro e w1 ⟨rfl, hb1⟩
  replace hT := V.step hT hb1
  replace hF : ∀ j, F j → w.heap.size ≤ j ∧ j < w1.heap.size := fun j hj => ⟨(hF j hj).1, Nat.lt_of_lt_of_le (hF j hj).2 hb1.size⟩
  replace hb := below_via hb hb1
  clear K1 hb1
  go_wp2_with fail
  refine (K2 _ hT).mono ?_
  rintro e w2 ⟨q2, cq2, rfl, hp2, hb2⟩
  have on2 := On2.mk V hF hT hp2 hb2
  have hT2 := V.step hT hb2
  have hP2 : PrIn (fun j => ¬ F j) w2 q2 N := hp2.mono (fun j _ h g => by have := (hF j g).2; omega)
  replace hF : ∀ j, F j → w.heap.size ≤ j ∧ j < w2.heap.size := fun j hj => ⟨(hF j hj).1, Nat.lt_of_lt_of_le (hF j hj).2 hb2.size⟩
  replace hb := below_via hb hb2
  clear K2 hb2 on2 hp2 hT
  go_wp2_with fail
  refine (K3 _ hT2 (fun j hj => (hF j hj).2)).mono ?_
  rintro e w3 ⟨rfl, hT3, hb3⟩
  obtain ⟨on3, hb'⟩ := On2.put hF hb hP2 hT3 hb3
  clear K3 hb3 hT3 hT2 hP2 hF hb
  obtain ⟨F3, hT3, hF3, hP3⟩ := on3
  go_wp2_with fail
  refine (K4 _ _ hT3).mono ?_
  rintro e w4 ⟨rfl, hb4⟩
  replace hT3 := V.step hT3 hb4
  replace hF3 : ∀ j, F3 j → w.heap.size ≤ j ∧ j < w4.heap.size := fun j hj => ⟨(hF3 j hj).1, Nat.lt_of_lt_of_le (hF3 j hj).2 hb4.size⟩
  replace hP3 := hP3.step hb4
  replace hb' := below_via hb' hb4
  clear K4 hb4
  go_wp2_with fail
  refine (K5 _ _ hT3).mono ?_
  rintro e w5 ⟨rfl, hb5⟩
  replace hT3 := V.step hT3 hb5
  replace hF3 : ∀ j, F3 j → w.heap.size ≤ j ∧ j < w5.heap.size := fun j hj => ⟨(hF3 j hj).1, Nat.lt_of_lt_of_le (hF3 j hj).2 hb5.size⟩
  replace hP3 := hP3.step hb5
  replace hb' := below_via hb' hb5
  clear K5 hb5
  go_wp2_with fail
  refine (K6 _ _ hT3).mono ?_
  rintro e w6 ⟨q6, cq6, rfl, hp6, hb6⟩
  have hp6n : PrIn (fun j => ¬ F3 j) w6 q6 N := hp6.mono (fun j _ h g => by have := (hF3 j g).2; omega)
  replace hT3 := V.step hT3 hb6
  replace hF3 : ∀ j, F3 j → w.heap.size ≤ j ∧ j < w6.heap.size := fun j hj => ⟨(hF3 j hj).1, Nat.lt_of_lt_of_le (hF3 j hj).2 hb6.size⟩
  replace hP3 := hP3.step hb6
  replace hb' := below_via hb' hb6
  clear K6 hb6 hp6
  go_upto_region 23 with fail
  rw [ev_0] at K7
  go_cut [32, 33] from 161 to 166 (fun v32 v33 wy => v32 = .int .i64 0 ∧ v33 = .nilIface ∧ On2 T w wy Bt lc top q2 N ∧ PrAt wy q6 N ∧ Below w.heap.size w wy)
  case first =>
    go_wp2_with fail
    refine (K7 _ _ hT3 (fun j hj => (hF3 j hj).2)).mono ?_
    rintro e w7 ⟨rfl, hT7, hb7⟩
    obtain ⟨on7, hb''⟩ := On2.put hF3 hb' hP3 hT7 hb7
    have hp7 := (hp6n.but hb7 (fun j _ g => g)).at
    clear K7 hb7 hT7 hT3 hF3 hP3 hp6n
    go_wp2_with fail
    go_meet
    case rel => exact ⟨rfl, rfl, on7, hp7, hb''⟩
  case rest =>
  obtain ⟨rfl, rfl, on7, hp7, hb''⟩ := hcut
  refine ‹∀ (a : Act) (w : World), Code.wp _ _ _ a w → _› _ _ ?_
  exact vs4 V okC (by omega) a0 a1 (by omega) hk X1 X2 X3 (by omega) on7 hp7 hb''
end Go.Proofs.YtollgepjgeoeiaaDoor
