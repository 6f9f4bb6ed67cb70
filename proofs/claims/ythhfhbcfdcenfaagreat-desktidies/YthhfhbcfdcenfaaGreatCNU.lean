/- The walk of the law DeskTidies: the steps. -/
import Derived.Test.YthhfhbcfdcenfaaGreatCNT
import Derived.Test.YthhfhbcfdcenfaaGreatCNF
import Derived.Test.YthhfhbcfdcenfaaGreatCMM
namespace Go.Proofs.YthhfhbcfdcenfaaGreat
open Go.RowKit Vs

theorem tvSm {k : Nat} {d : Dk} {is : List Int} (h : Tv k d is) (hk : k ≤ 100) : Sm d := ⟨by have := h.wl; omega, by have := h.ids; omega⟩
set_option maxRecDepth 100000 in
set_option maxHeartbeats 8000000 in
theorem dt1 {T : Td} (V : DFace T) {D : Dk} {s : List Stp} {key lo hi : ByteArray} {p : Option Addr} {cp B : Nat} {w wx : World} {c4 c5 c6 c7 c8 c10 c11 c12 c13 c14 c15 c16 c17 c18 c19 c20 c21 c22 c23 c24 c25 c26 c27 c28 c29 c30 c31 c32 c33 c34 c35 c36 c37 c38 c39 c40 c41 c42 c43 c44 c45 c46 c47 c48 c49 c50 c51 c52 c53 c54 c55 c56 c57 c58 c59 c60 c61 c62 c63 c64 c65 c66 c67 c68 c69 c70 c71 c72 c73 c74 c75 c76 c77 c78 c79 c80 c81 c82 c83 c84 c85 c86 c87 c88 c89 c90 c91 c92 c93 c94 c95 c96 c97 c98 c99 c100 c101 c102 c103 c104 c105 c106 c107 c108 c109 c110 c111 c112 c113 c114 c115 c116 c117 c118 c119 c120 c121 c122 c123 c124 c125 c126 c127 c128 c129 c130 c131 c132 c133 c134 c135 c136 c137 c138 c139 c140 c141 c142 c143 c144 c145 c146 c147 c148 c149 c150 c151 c152 c153 c154 c155 c156 c157 c158 c159 c160 c161 c162 c163 c164 c165 c166 c167 c168 c169 c170 c171 c172 c173 c174 c175 c176 c177 c178 c179 c180 c181 c182 c183 c184 c185 c186 c187 c188 c189 c190 c191 c192 c193 c194 c195 c196 c197 c198 c199 c200 c201 c202 c203 c204 c205 c206 c207 c208 c209 c210 c211 c212 c213 c214 c215 c216 c217 c218 c219 c220 c221 c222 c223 c224 c225 c226 c227 c228 c229 c230 c231 c232 c233 c234 c235 c236 c237 c238 c239 c240 c241 c242 c243 c244 c245 c246 c247 c248 c249 c250 c251 c252 c253 c254 c255 c256 c257 c258 c259 c260 : Value}
    (zk : key.size ≤ maxLen) (hsl : s.length ≤ 9223372036854775807) (hq : StAt w p s) (tv : Tv 0 D []) (o0 : Od T (fun _ => False) w wx B D) :
    Code.wp Tryz.prog (dropSeq 6 (Tryz.f5.body.getD .skip)) (bodyPost Tryz.prog Tryz.f5 fun e w' => e = .returned (.bool true) ∧ Below w.heap.size w w') ⟨#[.slice p s.length cp, .string key, .string lo, .string hi, c4, c5, c6, c7, c8, .pointer (some ⟨B, 0, none⟩), c10, c11, c12, c13, c14, c15, c16, c17, c18, c19, c20, c21, c22, c23, c24, c25, c26, c27, c28, c29, c30, c31, c32, c33, c34, c35, c36, c37, c38, c39, c40, c41, c42, c43, c44, c45, c46, c47, c48, c49, c50, c51, c52, c53, c54, c55, c56, c57, c58, c59, c60, c61, c62, c63, c64, c65, c66, c67, c68, c69, c70, c71, c72, c73, c74, c75, c76, c77, c78, c79, c80, c81, c82, c83, c84, c85, c86, c87, c88, c89, c90, c91, c92, c93, c94, c95, c96, c97, c98, c99, c100, c101, c102, c103, c104, c105, c106, c107, c108, c109, c110, c111, c112, c113, c114, c115, c116, c117, c118, c119, c120, c121, c122, c123, c124, c125, c126, c127, c128, c129, c130, c131, c132, c133, c134, c135, c136, c137, c138, c139, c140, c141, c142, c143, c144, c145, c146, c147, c148, c149, c150, c151, c152, c153, c154, c155, c156, c157, c158, c159, c160, c161, c162, c163, c164, c165, c166, c167, c168, c169, c170, c171, c172, c173, c174, c175, c176, c177, c178, c179, c180, c181, c182, c183, c184, c185, c186, c187, c188, c189, c190, c191, c192, c193, c194, c195, c196, c197, c198, c199, c200, c201, c202, c203, c204, c205, c206, c207, c208, c209, c210, c211, c212, c213, c214, c215, c216, c217, c218, c219, c220, c221, c222, c223, c224, c225, c226, c227, c228, c229, c230, c231, c232, c233, c234, c235, c236, c237, c238, c239, c240, c241, c242, c243, c244, c245, c246, c247, c248, c249, c250, c251, c252, c253, c254, c255, c256, c257, c258, c259, c260], []⟩ wx := by
  conv => arg 2; whnf
  have tq0 : Tq T (fun _ => False) (fun _ => False) w wx B D [] [] [] (.slice none 0 0) (.slice none 0 0) (.slice none 0 0) := ⟨o0, fun _ h => h.elim, OwnC.nil _ _ _ _ _, OwnC.nil _ _ _ _ _, OwnQ.nil _ _ _ _⟩
  clear o0
  go_upto_block 2 with fail
  go_cut [18, 19, 20, 21, 22] from 88 to 144 (fun v _ _ _ _ wy => ∃ (d : Dk) (is : List Int) (K : Nat → Prop), Tv 60 d is ∧ Tq T K (fun _ => False) w wy B d is [] [] v (.slice none 0 0) (.slice none 0 0))
  case rest =>
    obtain ⟨d, is, K', tv', tq1⟩ := hcut
    refine ‹∀ (a : Act) (w : World), Code.wp _ _ _ a w → _› _ _ ?_
    obtain ⟨p1, k1, e1, _⟩ := tq1.ri.form
    rw [List.length_map] at e1
    subst e1
    have hw := tv'.wl
    exact dt2 (D := d) V zk tv'.len tv'.ris (by omega) (by have := tv'.ids; omega) (fun o ho => ⟨fun g => by simp at g, fun _ => by rw [tv'.no o ho]; exact Int.le_refl _⟩) (fun x => by have := rngV_len tv'.ok x lo hi; omega) tq1
  case first =>
  go_wp2_with fail
  go_loopw [18, 19] (fun v i wr => ∃ (k : Nat) (d : Dk) (is : List Int) (K : Nat → Prop), k ≤ s.length ∧ k ≤ 60 ∧ i = .int .i64 k ∧ Tv k d is ∧ Tq T K (fun _ => False) w wr B d is [] [] v (.slice none 0 0) (.slice none 0 0)) (fun _ i _ => s.length - (intOf i).toNat)
  case atStart => exact ⟨0, D, [], _, by omega, by omega, rfl, tv, tq0⟩
  case round =>
    clear tq0 tv
    obtain ⟨k, d, is, K, hk, hk60, rfl, tv, tq⟩ := hrel
    by_cases hlt : k < s.length ∧ k < 60
    · obtain ⟨hlt, hlt60⟩ := hlt
      have hlt' : (k : Int) < (s.length : Int) := by omega
      have hlt60' : (k : Int) < 60 := by omega
      obtain ⟨b, off, rfl, hbl, hc⟩ := (hq.step tq.od.bw) (by omega)
      obtain ⟨x, hx⟩ : ∃ x, s[k]? = some x := ⟨s[k], List.getElem?_eq_getElem hlt⟩
      obtain ⟨d0, d1, d2, d3, d4, d5, z1, z2, z3⟩ := hc k x hx
      obtain ⟨p1, k1, rfl, hk1, hk1'⟩ := tq.ri.form
      rw [List.length_map] at tq hk1 ⊢
      have hb0 := below_al (below_self wr) (.cells #[.int .i64 x.what, .int .i64 x.who, .string x.key, .string x.hi, .string x.val, .int .i64 x.n] 39)
      have tq1 := tq.kn (tq.od.step V hb0) hb0
      have sb := Sb.new wr 39 x
      have c1 : (wr.alloc (.cells #[.int .i64 x.what, .int .i64 x.who, .string x.key, .string x.hi, .string x.val, .int .i64 x.n] 39)).cell? ⟨wr.heap.size, 1, none⟩ = some (.int .i64 x.who) := by simp
      have c0 := sb.c0
      have c2 := sb.c2
      have c4 := sb.c4
      have hil := tv.len
      clear tq hc hx hq hb0 sb
      go_upto_block 4 with fail
      obtain ⟨Bs, hBs⟩ : ∃ Bs, Bs = wr.heap.size := ⟨_, rfl⟩
      obtain ⟨w1, hw1⟩ : ∃ w1, w1 = wr.alloc (.cells #[.int .i64 x.what, .int .i64 x.who, .string x.key, .string x.hi, .string x.val, .int .i64 x.n] 39) := ⟨_, rfl⟩
      obtain ⟨K1, hK1⟩ : ∃ K1, K1 = Kn K wr (wr.alloc (.cells #[.int .i64 x.what, .int .i64 x.who, .string x.key, .string x.hi, .string x.val, .int .i64 x.n] 39)) := ⟨_, rfl⟩
      rw [← hK1, ← hw1] at tq1
      rw [← hw1, ← hBs] at c0 c1 c2 c4
      rw [← hw1, ← hBs]
      clear d0 d1 d2 d3 d4 d5 hK1 hw1 hBs
      by_cases hw : x.what = 0
      · have e0 : (x.what == 0) = true := by simp; omega
        clear hw
        by_cases hf : bgF d = 0
        · have tv2 := tv.bgN hf
          have P1 := tq1.od.begin_ V (tvSm tv2 (by omega))
          rw [hf, ev_0] at P1
          clear hf
          go_wp2_with fail
          refine P1.mono ?_
          rintro e w2 ⟨rfl, od2, hb2⟩
          have tq2 := tq1.kw od2 hb2
          obtain ⟨N, hN⟩ : ∃ N, bgN d = N := ⟨_, rfl⟩
          rw [hN] at tv2 ⊢
          clear P1 tq1 od2 hb2 c0 c1 c2 c4 hN
          have hbx := below_al (below_self w2) (.cells #[.int .i64 N] 3)
          have tq2a := tq2.kn (tq2.od.step V hbx) hbx
          have rg := tq2a.ri.1
          rw [List.length_map] at rg
          have hszA := tq2a.od.bw.size
          clear tq2 hbx
          go_wp2_with (at_builtin; refine wpList_append_oneAt 50 3 1 8 _ Tryz.underlying50 infoIn rfl (by decide) (by decide) rfl _ _ rfl w.heap.size _ is.length (is.map (Value.int .i64)) rfl rg hszA w2.heap.size [.int .i64 N] rfl rfl (op_cell _ _ _ _ rfl) op_int (by omega) ?_; intro v4 w4 own4 hg4 hat4; have tq4 := tq2a.pushI V own4 hg4 hat4; clear own4 hg4 hat4 tq2a rg hszA)
          exact ⟨⟨k + 1, _, _, _, by omega, by omega, by go_num, tv2, tq4⟩, by simp [intOf]; omega⟩
        · have tv2 := tv.bg0 hf
          have P1 := tq1.od.begin_ V (tvSm tv2 (by omega))
          rw [ev_ne hf] at P1
          clear hf
          go_wp2_with fail
          refine P1.mono ?_
          rintro e w2 ⟨rfl, od2, hb2⟩
          have tq2 := tq1.kw od2 hb2
          clear P1 tq1 od2 hb2 c0 c1 c2 c4
          go_wp2_with fail
          exact ⟨⟨k + 1, _, _, _, by omega, by omega, by go_num, tv2, tq2⟩, by simp [intOf]; omega⟩
      by_cases hw : x.what = 1
      · have e0 : (x.what == 0) = false := by simp; omega
        have e1 : (x.what == 1) = true := by simp; omega
        have P1 := tq1.od.put V x.who x.key x.val z1 z3 (tvSm (tv.dc x.who (c := ⟨x.key, x.val, false⟩) (fun g => by cases g)) (by omega))
        clear hw
        go_wp2_with fail
        refine P1.mono ?_
        rintro e w2 ⟨rfl, od2, hb2⟩
        have tq2 := tq1.kw od2 hb2
        clear P1 tq1 od2 hb2 c0 c1 c2 c4
        go_wp2_with fail
        exact ⟨⟨k + 1, _, _, _, by omega, by omega, by go_num, tv.dc x.who (fun g => by cases g), tq2⟩, by simp [intOf]; omega⟩
      by_cases hw : x.what = 2
      · have e0 : (x.what == 0) = false := by simp; omega
        have e1 : (x.what == 1) = false := by simp; omega
        have e2 : (x.what == 2) = true := by simp; omega
        have P1 := tq1.od.put V x.who x.key x.val z1 z3 (tvSm (tv.dc x.who (c := ⟨x.key, x.val, false⟩) (fun g => by cases g)) (by omega))
        clear hw
        go_wp2_with fail
        refine P1.mono ?_
        rintro e w2 ⟨rfl, od2, hb2⟩
        have tq2 := tq1.kw od2 hb2
        clear P1 tq1 od2 hb2 c0 c1 c2 c4
        go_wp2_with fail
        exact ⟨⟨k + 1, _, _, _, by omega, by omega, by go_num, tv.dc x.who (fun g => by cases g), tq2⟩, by simp [intOf]; omega⟩
      by_cases hw : x.what = 3
      · have e0 : (x.what == 0) = false := by simp; omega
        have e1 : (x.what == 1) = false := by simp; omega
        have e2 : (x.what == 2) = false := by simp; omega
        have e3 : (x.what == 3) = true := by simp; omega
        have P1 := tq1.od.put V x.who x.key x.val z1 z3 (tvSm (tv.dc x.who (c := ⟨x.key, x.val, false⟩) (fun g => by cases g)) (by omega))
        clear hw
        go_wp2_with fail
        refine P1.mono ?_
        rintro e w2 ⟨rfl, od2, hb2⟩
        have tq2 := tq1.kw od2 hb2
        clear P1 tq1 od2 hb2 c0 c1 c2 c4
        go_wp2_with fail
        exact ⟨⟨k + 1, _, _, _, by omega, by omega, by go_num, tv.dc x.who (fun g => by cases g), tq2⟩, by simp [intOf]; omega⟩
      by_cases hw : x.what = 4
      · have e0 : (x.what == 0) = false := by simp; omega
        have e1 : (x.what == 1) = false := by simp; omega
        have e2 : (x.what == 2) = false := by simp; omega
        have e3 : (x.what == 3) = false := by simp; omega
        have e4 : (x.what == 4) = true := by simp; omega
        have P1 := tq1.od.put V x.who x.key x.val z1 z3 (tvSm (tv.dc x.who (c := ⟨x.key, x.val, false⟩) (fun g => by cases g)) (by omega))
        clear hw
        go_wp2_with fail
        refine P1.mono ?_
        rintro e w2 ⟨rfl, od2, hb2⟩
        have tq2 := tq1.kw od2 hb2
        clear P1 tq1 od2 hb2 c0 c1 c2 c4
        go_wp2_with fail
        exact ⟨⟨k + 1, _, _, _, by omega, by omega, by go_num, tv.dc x.who (fun g => by cases g), tq2⟩, by simp [intOf]; omega⟩
      by_cases hw : x.what = 5
      · have e0 : (x.what == 0) = false := by simp; omega
        have e1 : (x.what == 1) = false := by simp; omega
        have e2 : (x.what == 2) = false := by simp; omega
        have e3 : (x.what == 3) = false := by simp; omega
        have e4 : (x.what == 4) = false := by simp; omega
        have e5 : (x.what == 5) = true := by simp; omega
        have P1 := tq1.od.drop V x.who x.key z1 (tvSm (tv.dc x.who (c := ⟨x.key, ByteArray.empty, true⟩) (fun _ => rfl)) (by omega))
        clear hw
        go_wp2_with fail
        refine P1.mono ?_
        rintro e w2 ⟨rfl, od2, hb2⟩
        have tq2 := tq1.kw od2 hb2
        clear P1 tq1 od2 hb2 c0 c1 c2 c4
        go_wp2_with fail
        exact ⟨⟨k + 1, _, _, _, by omega, by omega, by go_num, tv.dc x.who (fun _ => rfl), tq2⟩, by simp [intOf]; omega⟩
      by_cases hw : x.what = 6
      · have e0 : (x.what == 0) = false := by simp; omega
        have e1 : (x.what == 1) = false := by simp; omega
        have e2 : (x.what == 2) = false := by simp; omega
        have e3 : (x.what == 3) = false := by simp; omega
        have e4 : (x.what == 4) = false := by simp; omega
        have e5 : (x.what == 5) = false := by simp; omega
        have e6 : (x.what == 6) = true := by simp; omega
        have P1 := tq1.od.commit V x.who (Spz.of tv.ok tv.no) (tvSm (tv.cm x.who) (by omega))
        clear hw
        go_wp2_with fail
        refine P1.mono ?_
        rintro e w2 ⟨rfl, od2, hb2⟩
        have tq2 := tq1.kw od2 hb2
        clear P1 tq1 od2 hb2 c0 c1 c2 c4
        go_wp2_with fail
        exact ⟨⟨k + 1, _, _, _, by omega, by omega, by go_num, tv.cm x.who, tq2⟩, by simp [intOf]; omega⟩
      by_cases hw : x.what = 7
      · have e0 : (x.what == 0) = false := by simp; omega
        have e1 : (x.what == 1) = false := by simp; omega
        have e2 : (x.what == 2) = false := by simp; omega
        have e3 : (x.what == 3) = false := by simp; omega
        have e4 : (x.what == 4) = false := by simp; omega
        have e5 : (x.what == 5) = false := by simp; omega
        have e6 : (x.what == 6) = false := by simp; omega
        have e7 : (x.what == 7) = true := by simp; omega
        have P1 := tq1.od.commit V x.who (Spz.of tv.ok tv.no) (tvSm (tv.cm x.who) (by omega))
        clear hw
        go_wp2_with fail
        refine P1.mono ?_
        rintro e w2 ⟨rfl, od2, hb2⟩
        have tq2 := tq1.kw od2 hb2
        clear P1 tq1 od2 hb2 c0 c1 c2 c4
        go_wp2_with fail
        exact ⟨⟨k + 1, _, _, _, by omega, by omega, by go_num, tv.cm x.who, tq2⟩, by simp [intOf]; omega⟩
      have e0 : (x.what == 0) = false := by simp; omega
      have e1 : (x.what == 1) = false := by simp; omega
      have e2 : (x.what == 2) = false := by simp; omega
      have e3 : (x.what == 3) = false := by simp; omega
      have e4 : (x.what == 4) = false := by simp; omega
      have e5 : (x.what == 5) = false := by simp; omega
      have e6 : (x.what == 6) = false := by simp; omega
      have e7 : (x.what == 7) = false := by simp; omega
      clear c0 c1 c2 c4
      go_wp2_with fail
      exact ⟨⟨k + 1, d, is, _, by omega, by omega, by go_num, tv.mono (by omega), tq1⟩, by simp [intOf]; omega⟩
    · by_cases h1 : k < s.length
      · have g1 : decide ((k : Int) < (s.length : Int)) = true := by simp; omega
        have g2 : decide ((k : Int) < 60) = false := by simp; omega
        clear hq
        go_wp2_with fail
        go_meet
        case rel => exact ⟨d, is, K, tv.mono hk60, tq⟩
      · have g1 : decide ((k : Int) < (s.length : Int)) = false := by simp; omega
        clear hq
        go_wp2_with fail
        go_meet
        case rel => exact ⟨d, is, K, tv.mono hk60, tq⟩
end Go.Proofs.YthhfhbcfdcenfaaGreat

/- The law DeskTidies, from what package desk is asked for. -/
namespace Go.Proofs.YthhfhbcfdcenfaaGreat
open Go.RowKit Vs

theorem smS : ∀ {m : Nat}, m ≤ 2 → Sm (tS m)
  | 0, _ => ⟨by decide, by decide⟩
  | 1, _ => ⟨by decide, by decide⟩
  | 2, _ => ⟨by decide, by decide⟩
theorem smB : ∀ {m : Nat}, m < 2 → Sm (tB m)
  | 0, _ => ⟨by decide, by decide⟩
  | 1, _ => ⟨by decide, by decide⟩
theorem smP : ∀ {m : Nat}, m < 2 → Sm (tP m)
  | 0, _ => ⟨by decide, by decide⟩
  | 1, _ => ⟨by decide, by decide⟩
theorem smE : Sm tE := ⟨by decide, by decide⟩
set_option maxRecDepth 100000 in
set_option maxHeartbeats 4000000 in
theorem law_tidies {T : Td} (V : DFace T) (s : List Stp) (key lo hi : ByteArray) (p : Option Addr) (cp : Nat) (w : World) (zk : key.size ≤ maxLen) (hsl : s.length ≤ 9223372036854775807) (hq : StAt w p s) :
    Calls Tryz.prog 5 #[.slice p s.length cp, .string key, .string lo, .string hi] w fun e w' => e = .returned (.bool true) ∧ Below w.heap.size w w' := by
  have ok0 : OkD (tS 0) := OkD.new (room := 100000) (by decide) (by decide)
  go_enter Tryz.func5, Tryz.ntmps5
  go_wp2_with fail
  refine (V.newOk w (by decide) (by decide)).mono ?_
  rintro e w1 ⟨B, rfl, hT, hb1⟩
  have o0 : Od T (fun _ => False) w w1 B (tS 0) := ⟨⟨_, hT, fun j hj => ⟨hj.1, hj.2, id⟩⟩, ok0, smS (by decide), hb1⟩
  clear hT hb1 ok0
  go_upto_block 0 with fail
  go_cut [11, 12, 13, 14, 15, 16] from 45 to 78 (fun _ _ _ _ _ _ wy => ∃ K, Od T K w wy B (tS 2))
  case first =>
    go_wp2_with fail
    go_loopw [11] (fun i wr => ∃ (m : Nat) (K : Nat → Prop), m ≤ 2 ∧ i = .int .i64 m ∧ Od T K w wr B (tS m)) (fun i _ => 2 - (intOf i).toNat)
    case atStart => exact ⟨0, _, by omega, rfl, o0⟩
    case round =>
      clear o0
      obtain ⟨m, K, hm, rfl, on⟩ := hrel
      by_cases hlt : m < 2
      · have hlt' : (m : Int) < 2 := by omega
        obtain ⟨b1, b2, b3⟩ := tB_is hlt
        have P1 := on.begin_ V (by rw [b3]; exact smB hlt)
        rw [b1, b2, b3, ev_0] at P1
        have hself : (((m : Int) + 1) != ((m : Int) + 1)) = false := by simp
        clear on b1 b2 b3
        go_wp2_with fail
        refine P1.mono ?_
        rintro e w2 ⟨rfl, o1, u1⟩
        clear P1 u1
        have P2 := o1.put V ((m : Int) + 1) { data := #[107] } { data := #[118] } (by decide) (by decide) (by show Sm (dcD (tB m) (m + 1) cV); rw [tP_is.2]; exact smP hlt)
        change Calls Tryz.prog 8 _ _ (fun e w' => e = .returned (ev (dcF (tB m) (m + 1) cV)) ∧ Od T _ w w' B (dcD (tB m) (m + 1) cV) ∧ _) at P2
        rw [tP_is.1, tP_is.2, ev_0] at P2
        clear o1
        go_wp2_with fail
        refine P2.mono ?_
        rintro e w3 ⟨rfl, o2, u2⟩
        clear P2 u2
        obtain ⟨c1, c2, c3⟩ := tS_is hlt
        have P3 := o2.commit V ((m : Int) + 1) (Spz.of o2.ok (fun o ho => by simp [tP] at ho; rw [ho])) (by rw [c3]; exact smS (by omega))
        rw [c1, c2, c3, ev_0] at P3
        clear o2 c1 c2 c3
        go_wp2_with fail
        refine P3.mono ?_
        rintro e w4 ⟨rfl, o3, u3⟩
        clear P3 u3
        go_wp2_with fail
        exact ⟨⟨m + 1, _, by omega, by go_num, o3⟩, by simp [intOf]; omega⟩
      · have hm2 : m = 2 := by omega
        subst hm2
        go_wp2_with fail
        go_meet
        case rel => exact ⟨_, on⟩
  case rest =>
  obtain ⟨K, o1⟩ := hcut
  clear o0
  have P1 := o1.tidy V (by rw [tE_is.2]; exact smE)
  rw [tE_is.1, tE_is.2] at P1
  clear o1
  go_wp2_with fail
  refine P1.mono ?_
  rintro e w2 ⟨rfl, o2, u2⟩
  clear P1 u2
  have P2 := o2.size V
  rw [show tE.vs.length = 1 from rfl] at P2
  clear o2
  go_upto_if 87 with (go_at_call 21; refine P2.mono ?_; rintro e w3 ⟨rfl, o3, u3⟩)
  clear P2 u3
  go_cut [8] (fun _ wy => wy = w3)
  case first =>
    go_wp2_with fail
    go_meet
    case rel => exact rfl
  case rest =>
  have hcut' := hcut.symm
  subst hcut'
  refine ‹∀ (a : Act) (w : World), Code.wp _ _ _ a w → _› _ _ ?_
  exact dt1 V zk hsl hq (Tv.new o3.ok) (o3.less (fun _ _ g => g.elim))
end Go.Proofs.YthhfhbcfdcenfaaGreat
