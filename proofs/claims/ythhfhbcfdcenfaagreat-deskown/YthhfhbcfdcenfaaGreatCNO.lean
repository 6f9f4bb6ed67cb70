/- The walk of the law DeskOwn, its end. -/
import Derived.Test.YthhfhbcfdcenfaaGreatCMB
import Derived.Test.YthhfhbcfdcenfaaGreatCMM
import Derived.Deep.CutBlock
import Derived.BigQuiet
namespace Go.Proofs.YthhfhbcfdcenfaaGreat
open Go.RowKit Vs

theorem PrIn.kw {K : Nat → Prop} {w w' : World} {p : Option Addr} {l : List Pr} (h : PrIn K w p l) (hb : But (fun j => ¬ K j) w w') : PrIn (Kw K w) w' p l := by
  intro hl
  obtain ⟨b, off, rfl, hlt, hg, hc⟩ := h hl
  obtain ⟨b', off', e, _, _, hc'⟩ := (h.but hb (fun j _ hj hn => hn hj)) hl
  cases e
  exact ⟨b, off, rfl, Nat.lt_of_lt_of_le hlt hb.size, ⟨hg, hlt⟩, hc'⟩

set_option maxRecDepth 100000 in
set_option maxHeartbeats 2000000 in
theorem own2 {T : Td} (V : DFace T) {K : Nat → Prop} {n : Nat} {d : Dk} {x y : Ox} {key val : ByteArray} {B : Nat} {w wx : World} {c0 c3 c4 c5 c6 c8 c9 c10 c11 c12 c14 c16 c19 c20 c21 c22 c23 c24 c25 c26 c27 c28 c29 c30 c31 c32 c33 c34 c35 c36 c37 c38 c39 c40 c41 c42 c43 c44 c45 c46 c47 c48 c49 c50 c51 c52 c53 c54 c55 c56 c57 c58 c59 c60 c61 c62 c63 c64 c65 c66 c67 c68 c69 c70 c71 c72 c73 c74 c75 c76 c77 c78 c79 c80 c81 c82 c83 c84 c85 c86 c87 c88 c89 c90 c91 c92 c93 c94 c95 c96 c97 c98 c99 c100 c101 c102 c103 c104 c105 c106 c107 c108 c109 c110 c111 c112 c113 c114 c115 c116 c117 c118 c119 c120 c121 c122 c123 c124 c125 c126 c127 c128 c129 c130 c131 c132 c133 c134 c135 c136 c137 c138 c139 c140 c141 c142 c143 c144 c145 c146 c147 c148 c149 c150 c151 c152 c153 c154 c155 c156 c157 c158 c159 c160 c161 c162 c163 c164 c165 c166 c167 c168 c169 c170 c171 c172 c173 c174 c175 c176 c177 c178 c179 c180 c181 c182 c183 c184 c185 c186 c187 c188 c189 c190 c191 c192 c193 c194 c195 c196 c197 c198 c199 c200 c201 c202 c203 c204 c205 c206 c207 c208 c209 c210 c211 c212 c213 c214 c215 c216 c217 c218 c219 c220 c221 c222 c223 c224 c225 c226 c227 c228 : Value}
    (h : Lv n d) (hn : n ≤ 40) (hsh : shF key val = 0) (hz : key.size ≤ 24) (xi : x.id = d.ids + 1) (xs : x.sees = d.last) (xo : x.own = [⟨key, val, false⟩]) (xa : x.asked < 10) (xp : x.spans = []) (yp : y.spans = []) (yi : y.id = d.ids + 2) (ys : y.sees = d.last) (yo : y.own = []) (ya : y.asked < 10) (hod : Od T K w wx B (D2 d x y)) :
    Code.wp Tryz.prog (dropSeq 10 (Tryz.f4.body.getD .skip)) (bodyPost Tryz.prog Tryz.f4 fun e w' => e = .returned (.bool true) ∧ Below w.heap.size w w') ⟨#[c0, .string key, .string val, c3, c4, c5, c6, .pointer (some ⟨B, 0, none⟩), c8, c9, c10, c11, c12, .int .i64 (d.ids + 1), c14, .int .i64 (d.ids + 2), c16, .string (gS d key), ev (gE d key), c19, c20, c21, c22, c23, c24, c25, c26, c27, c28, c29, c30, c31, c32, c33, c34, c35, c36, c37, c38, c39, c40, c41, c42, c43, c44, c45, c46, c47, c48, c49, c50, c51, c52, c53, c54, c55, c56, c57, c58, c59, c60, c61, c62, c63, c64, c65, c66, c67, c68, c69, c70, c71, c72, c73, c74, c75, c76, c77, c78, c79, c80, c81, c82, c83, c84, c85, c86, c87, c88, c89, c90, c91, c92, c93, c94, c95, c96, c97, c98, c99, c100, c101, c102, c103, c104, c105, c106, c107, c108, c109, c110, c111, c112, c113, c114, c115, c116, c117, c118, c119, c120, c121, c122, c123, c124, c125, c126, c127, c128, c129, c130, c131, c132, c133, c134, c135, c136, c137, c138, c139, c140, c141, c142, c143, c144, c145, c146, c147, c148, c149, c150, c151, c152, c153, c154, c155, c156, c157, c158, c159, c160, c161, c162, c163, c164, c165, c166, c167, c168, c169, c170, c171, c172, c173, c174, c175, c176, c177, c178, c179, c180, c181, c182, c183, c184, c185, c186, c187, c188, c189, c190, c191, c192, c193, c194, c195, c196, c197, c198, c199, c200, c201, c202, c203, c204, c205, c206, c207, c208, c209, c210, c211, c212, c213, c214, c215, c216, c217, c218, c219, c220, c221, c222, c223, c224, c225, c226, c227, c228], []⟩ wx := by
  conv => arg 2; whnf
  have hk := shF_key hsh
  have hzk : key.size ≤ maxLen := by unfold maxLen; omega
  have hi : d.ids ≤ 40 := by have := h.ids; omega
  have hw : wtL d.lg.ls ≤ 40 := by have := h.wl; omega
  have hls := wtL_len h.ok.each
  have hwt : ∀ (x' y' : Ox), x'.own = [⟨key, val, false⟩] → y'.own = [] → Sm (D2 d x' y') := fun x' y' e1 e2 => ⟨by rw [wt_D2, e1, e2]; simp; omega, by show d.ids + 2 ≤ 100000; omega⟩
  have hdn : ∀ (ids : Int) (op : List Ox), wtO op = 0 → ids ≤ 100000 → Sm (dnk d ⟨key, val, false⟩ ids op) := fun ids op e1 e2 => ⟨by have := sm_dn (d := d) (c := ⟨key, val, false⟩) (ids := ids) e1; omega, e2⟩
  obtain ⟨a1, a2, a3⟩ := get_a (d := d) (y := y) hk xi yi xo (by omega)
  have P1 := hod.get V (d.ids + 1) key hzk (by rw [a3]; exact hwt _ _ xo yo)
  rw [a1, a2, a3, ev_0] at P1
  clear a1 a2 a3
  go_wp2_with fail
  refine P1.mono ?_
  rintro e w1 ⟨rfl, o1, b1⟩
  clear P1 b1 hod
  obtain ⟨a1, a2, a3⟩ := range_a (d := d) (x := askK x key) (y := y) h.ok.tb xi yi xo (by show x.asked + 1 < 100; omega)
  have P2 := o1.range V (d.ids + 1) key (kz key) (by rw [a3]; exact hwt _ _ xo yo)
  rw [a1, a2, a3, ev_0, ← kz_add] at P2
  clear a1 a2 a3 o1
  go_wp2_with fail
  refine P2.mono ?_
  rintro e w2 ⟨q, cq, K2, rfl, hcq, hK2, hK2', hpr0, o2, b2⟩
  have hpr := hpr0.mono (H := K2) (fun j _ hj => hj.2)
  clear P2 b2 hpr0 hK2 hK2' hcq
  rw [kz_add] at o2
  obtain ⟨x3, e3⟩ : ∃ x3, x3 = askR (askK x key) key (kz key) := ⟨_, rfl⟩
  rw [← e3] at o2
  have x3i : x3.id = d.ids + 1 := by rw [e3]; exact xi
  have x3o : x3.own = [⟨key, val, false⟩] := by rw [e3]; exact xo
  have x3s : x3.sees = d.last := by rw [e3]; exact xs
  have x3p : x3.spans = [(key, kz key)] := by rw [e3]; show x.spans ++ _ = _; rw [xp]; rfl
  clear e3
  obtain ⟨a1, a2, a3⟩ := get_b (d := d) (x := x3) hk x3i yi yo ys (by omega)
  have P3 := o2.get V (d.ids + 2) key hzk (by rw [a3]; exact hwt _ _ x3o yo)
  rw [a1, a2, a3] at P3
  clear a1 a2 a3
  go_wp2_with fail
  refine P3.mono ?_
  rintro e w3 ⟨rfl, o3, b3⟩
  have hpr3 := hpr.kw b3
  clear P3 o2 b3 hpr
  obtain ⟨a1, a2, a3⟩ := commit_a (d := d) (x := x3) (y := askK y key) o3.ok h.up (by omega) (chg_ok hsh) x3i yi x3o x3s
  have P4 := o3.commit V (d.ids + 1) (fun o ho s hs => by
    rcases List.mem_cons.1 ho with rfl | ho
    · rw [x3p] at hs; rw [List.mem_singleton.1 hs]; show key.size < _; omega
    · rw [List.mem_singleton.1 ho] at hs; rw [show (askK y key).spans = [] from yp] at hs; simp at hs) (by rw [a3]; exact hdn _ _ (by simp [wtO, askK, yo]) (by omega))
  rw [a1, a2, a3, ev_0] at P4
  clear a1 a2 a3
  go_wp2_with fail
  refine P4.mono ?_
  rintro e w4 ⟨rfl, o4, b4⟩
  have hpr4 := hpr3.kw b4
  clear P4 o3 b4 hpr3
  have y2i : (askK y key).id = d.ids + 2 := yi
  obtain ⟨a1, a2, a3⟩ := get_late (d := d) (y := askK y key) (c := ⟨key, val, false⟩) (ids := d.ids + 2) hk yo ys (by show y.asked + 1 < 100; omega)
  rw [y2i] at a1 a2 a3
  have P5 := o4.get V (d.ids + 2) key hzk (by rw [a3]; exact hdn _ _ (by simp [wtO, askK, yo]) (by omega))
  rw [a1, a2, a3] at P5
  clear a1 a2 a3 y2i
  go_wp2_with fail
  refine P5.mono ?_
  rintro e w5 ⟨rfl, o5, b5⟩
  have hpr5 := hpr4.kw b5
  clear P5 o4 b5 hpr4
  obtain ⟨a1, a2, a3⟩ := begin_new (d := d) (y := askK (askK y key) key) (c := ⟨key, val, false⟩) (ids := d.ids + 2) h.up
  have P6 := o5.begin_ V (by rw [a3]; exact hdn _ _ (by simp [wtO, askK, ox0, yo]) (by omega))
  rw [a1, a2, a3, ev_0] at P6
  clear a1 a2 a3
  go_wp2_with fail
  refine P6.mono ?_
  rintro e w6 ⟨rfl, o6, b6⟩
  have hpr6 := hpr5.kw b6
  clear P6 o5 b6 hpr5
  obtain ⟨a1, a2, a3⟩ := get_new (d := d) (y := askK (askK y key) key) (z := ox0 (d.ids + 2 + 1) (d.last + 1)) (k := key) (v := val) (ids := d.ids + 2 + 1) hk (by show ¬ d.ids + 2 + 1 = y.id; omega) rfl rfl (by show (0 : Int) < 100; decide)
  have P7 := o6.get V (d.ids + 2 + 1) key hzk (by show Sm (dgD _ (ox0 (d.ids + 2 + 1) (d.last + 1)).id key); rw [a3]; exact hdn _ _ (by simp [wtO, askK, ox0, yo]) (by omega))
  change dgS _ (d.ids + 2 + 1) key = val at a1
  change dgF _ (d.ids + 2 + 1) key = 0 at a2
  change dgD _ (d.ids + 2 + 1) key = _ at a3
  rw [a1, a2, a3, ev_0] at P7
  clear a1 a2 a3
  go_wp2_with fail
  refine P7.mono ?_
  rintro e w7 ⟨rfl, o7, b7⟩
  have hpr7 := hpr6.kw b7
  clear P7 o6 b7 hpr6
  have hself : (val.toList == val.toList) = true := by simp
  have hselS : ((gS d key).toList == (gS d key).toList) = true := by simp
  obtain ⟨b, off, rfl, hbl, hKb, hc⟩ := hpr7 (by simp)
  obtain ⟨c0', c1'⟩ := hc 0 (key, val) rfl
  rw [Nat.zero_mul, Nat.add_zero] at c0' c1'
  have hb0 := o7.bw
  have P8 := o7.top V
  change Calls Tryz.prog 15 _ _ (fun e w' => e = .returned (.int .i64 (d.last + 1)) ∧ _) at P8
  have hE : gE d key = 0 ∨ gE d key = 4 := by unfold gE; split <;> simp
  rcases hE with hE | hE
  · rw [hE, ev_0]
    clear hE
    go_wp2_with (go_at_call 15; refine P8.mono ?_; rintro e w8 ⟨rfl, hod8, hb8⟩; have c2 := (hb8.cell (p := ⟨b, off + 1, none⟩) hbl).trans c1')
    go_quiet (fail)
    go_wp2
    go_ret
    exact ⟨rfl, below_drewN (below_via hb0 hb8) nq⟩
  · rw [hE, show ev 4 = errN 4 from rfl]
    clear hE
    go_wp2_with (go_at_call 15; refine P8.mono ?_; rintro e w8 ⟨rfl, hod8, hb8⟩; have c2 := (hb8.cell (p := ⟨b, off + 1, none⟩) hbl).trans c1')
    go_quiet (fail)
    go_wp2
    go_ret
    exact ⟨rfl, below_drewN (below_via hb0 hb8) nq⟩
end Go.Proofs.YthhfhbcfdcenfaaGreat

/- The walk of the law DeskOwn. -/
namespace Go.Proofs.YthhfhbcfdcenfaaGreat
open Go.RowKit Vs

set_option maxRecDepth 100000 in
set_option maxHeartbeats 4000000 in
theorem own1 {T : Td} (V : DFace T) {K : Nat → Prop} {n : Nat} {d : Dk} {key val : ByteArray} {B : Nat} {w wx : World} {c0 c3 c4 c5 c6 c8 c9 c10 c11 c12 c13 c14 c15 c16 c17 c18 c19 c20 c21 c22 c23 c24 c25 c26 c27 c28 c29 c30 c31 c32 c33 c34 c35 c36 c37 c38 c39 c40 c41 c42 c43 c44 c45 c46 c47 c48 c49 c50 c51 c52 c53 c54 c55 c56 c57 c58 c59 c60 c61 c62 c63 c64 c65 c66 c67 c68 c69 c70 c71 c72 c73 c74 c75 c76 c77 c78 c79 c80 c81 c82 c83 c84 c85 c86 c87 c88 c89 c90 c91 c92 c93 c94 c95 c96 c97 c98 c99 c100 c101 c102 c103 c104 c105 c106 c107 c108 c109 c110 c111 c112 c113 c114 c115 c116 c117 c118 c119 c120 c121 c122 c123 c124 c125 c126 c127 c128 c129 c130 c131 c132 c133 c134 c135 c136 c137 c138 c139 c140 c141 c142 c143 c144 c145 c146 c147 c148 c149 c150 c151 c152 c153 c154 c155 c156 c157 c158 c159 c160 c161 c162 c163 c164 c165 c166 c167 c168 c169 c170 c171 c172 c173 c174 c175 c176 c177 c178 c179 c180 c181 c182 c183 c184 c185 c186 c187 c188 c189 c190 c191 c192 c193 c194 c195 c196 c197 c198 c199 c200 c201 c202 c203 c204 c205 c206 c207 c208 c209 c210 c211 c212 c213 c214 c215 c216 c217 c218 c219 c220 c221 c222 c223 c224 c225 c226 c227 c228 : Value}
    (h : Lv n d) (hn : n ≤ 40) (hzk : key.size ≤ maxLen) (hzv : val.size ≤ maxLen) (hod : Od T K w wx B d) :
    Code.wp Tryz.prog (dropSeq 4 (Tryz.f4.body.getD .skip)) (bodyPost Tryz.prog Tryz.f4 fun e w' => e = .returned (.bool true) ∧ Below w.heap.size w w') ⟨#[c0, .string key, .string val, c3, c4, c5, c6, .pointer (some ⟨B, 0, none⟩), c8, c9, c10, c11, c12, c13, c14, c15, c16, c17, c18, c19, c20, c21, c22, c23, c24, c25, c26, c27, c28, c29, c30, c31, c32, c33, c34, c35, c36, c37, c38, c39, c40, c41, c42, c43, c44, c45, c46, c47, c48, c49, c50, c51, c52, c53, c54, c55, c56, c57, c58, c59, c60, c61, c62, c63, c64, c65, c66, c67, c68, c69, c70, c71, c72, c73, c74, c75, c76, c77, c78, c79, c80, c81, c82, c83, c84, c85, c86, c87, c88, c89, c90, c91, c92, c93, c94, c95, c96, c97, c98, c99, c100, c101, c102, c103, c104, c105, c106, c107, c108, c109, c110, c111, c112, c113, c114, c115, c116, c117, c118, c119, c120, c121, c122, c123, c124, c125, c126, c127, c128, c129, c130, c131, c132, c133, c134, c135, c136, c137, c138, c139, c140, c141, c142, c143, c144, c145, c146, c147, c148, c149, c150, c151, c152, c153, c154, c155, c156, c157, c158, c159, c160, c161, c162, c163, c164, c165, c166, c167, c168, c169, c170, c171, c172, c173, c174, c175, c176, c177, c178, c179, c180, c181, c182, c183, c184, c185, c186, c187, c188, c189, c190, c191, c192, c193, c194, c195, c196, c197, c198, c199, c200, c201, c202, c203, c204, c205, c206, c207, c208, c209, c210, c211, c212, c213, c214, c215, c216, c217, c218, c219, c220, c221, c222, c223, c224, c225, c226, c227, c228], []⟩ wx := by
  conv => arg 2; whnf
  have hi : d.ids ≤ 40 := by have := h.ids; omega
  have hw : wtL d.lg.ls ≤ 40 := by have := h.wl; omega
  obtain ⟨t1, t2, t3, t4⟩ := begin_two h
  have hl : d.op.length < 8 := by rw [h.op0]; decide
  have P1 := hod.begin_ V (by rw [t4]; exact ⟨by simp [wt, wtO, ox0]; omega, by show d.ids + 1 ≤ 100000; omega⟩)
  rw [bgN_ok hl h.up, bg_ok hl h.up, ev_0] at P1
  go_wp2_with fail
  refine P1.mono ?_
  rintro e w1 ⟨rfl, o1, b1⟩
  clear P1 b1 hod
  have P2 := o1.begin_ V (by rw [t3]; exact ⟨by rw [wt_D2]; simp [ox0]; omega, by show d.ids + 2 ≤ 100000; omega⟩)
  rw [t1, t2, t3, ev_0] at P2
  clear t1 t2 t3 t4 o1
  go_wp2_with fail
  refine P2.mono ?_
  rintro e w2 ⟨rfl, o2, b2⟩
  clear P2 b2
  by_cases hsh : shF key val = 0
  · have hk := shF_key hsh
    have hz24 := (shF_ok hsh).2.1
    obtain ⟨a1, a2, a3⟩ := get_b (d := d) (x := ox0 (d.ids + 1) d.last) (y := ox0 (d.ids + 2) d.last) hk rfl rfl rfl rfl (by show (0 : Int) < 100; decide)
    have P3 := o2.get V (d.ids + 2) key hzk (by rw [a3]; exact ⟨by rw [wt_D2]; simp [askK, ox0]; omega, by show d.ids + 2 ≤ 100000; omega⟩)
    rw [a1, a2, a3] at P3
    clear a1 a2 a3
    go_wp2_with fail
    refine P3.mono ?_
    rintro e w3 ⟨rfl, o3, b3⟩
    clear P3 o2 b3
    obtain ⟨a1, a2, _⟩ := put_a (d := d) (x := ox0 (d.ids + 1) d.last) (y := askK (ox0 (d.ids + 2) d.last) key) (k := key) (v := val) rfl rfl rfl
    have a3 := a2 hsh
    rw [hsh] at a1
    have P4 := o3.put V (d.ids + 1) key val hzk hzv (by rw [a3]; exact ⟨by rw [wt_D2]; simp [askK, ox0]; omega, by show d.ids + 2 ≤ 100000; omega⟩)
    rw [a1, a3, ev_0] at P4
    clear a1 a2 a3
    go_wp2_with fail
    refine P4.mono ?_
    rintro e w4 ⟨rfl, o4, b4⟩
    clear P4 o3 b4
    go_upto_if 98 with fail
    go_cut [6] (fun _ wy => wy = w4)
    case first =>
      go_wp2_with fail
      go_meet
      case rel => exact rfl
    case rest =>
    subst hcut
    refine ‹∀ (a : Act) (w : World), Code.wp _ _ _ a w → _› _ _ ?_
    exact own2 V h hn hsh hz24 rfl rfl rfl (by show (0 : Int) < 10; decide) rfl rfl rfl rfl rfl (by show (0 : Int) + 1 < 10; decide) o4
  · obtain ⟨y', a3, yi, yo⟩ := get_bad (d := d) (x := ox0 (d.ids + 1) d.last) (y := ox0 (d.ids + 2) d.last) key rfl rfl
    have P3 := o2.get V (d.ids + 2) key hzk (by rw [a3]; exact ⟨by rw [wt_D2, yo]; simp [ox0]; omega, by show d.ids + 2 ≤ 100000; omega⟩)
    rw [a3] at P3
    clear a3
    go_wp2_with fail
    refine P3.mono ?_
    rintro e w3 ⟨rfl, o3, b3⟩
    clear P3 o2 b3
    obtain ⟨a1, _, a2⟩ := put_a (d := d) (x := ox0 (d.ids + 1) d.last) (y := y') (k := key) (v := val) rfl yi rfl
    have a3 := a2 hsh
    have P4 := o3.put V (d.ids + 1) key val hzk hzv (by rw [a3]; exact ⟨by rw [wt_D2, yo]; simp [ox0]; omega, by show d.ids + 2 ≤ 100000; omega⟩)
    have e2 : shF key val = 2 := by
      unfold shF at hsh ⊢
      split
      · rfl
      · rename_i g; rw [if_neg g] at hsh; exact absurd rfl hsh
    rw [a1, e2, a3, show ev 2 = errN 2 from rfl] at P4
    have hbad : key.size < 1 ∨ 24 < key.size ∨ 12 < val.size := by
      apply Classical.byContradiction
      intro g
      unfold shF at hsh
      rw [if_neg g] at hsh
      exact hsh rfl
    clear a1 a2 a3 e2 hsh
    have hzk' : key.size ≤ 9223372036854775807 := by unfold maxLen at hzk; omega
    have hzv' : val.size ≤ 9223372036854775807 := by unfold maxLen at hzv; omega
    by_cases g1 : key.size < 1
    · have q1 : decide ((key.size : Int) < 1) = true := by simp; omega
      go_wp2_with fail
      refine P4.mono ?_
      rintro e w4 ⟨rfl, o4, b4⟩
      have bw := o4.bw
      clear P4 o3 o4 b4
      go_wp2_with fail
      go_ret
      exact ⟨rfl, bw⟩
    · have q1 : decide ((key.size : Int) < 1) = false := by simp; omega
      by_cases g2 : 24 < key.size
      · have q2 : decide ((24 : Int) < (key.size : Int)) = true := by simp; omega
        go_wp2_with fail
        refine P4.mono ?_
        rintro e w4 ⟨rfl, o4, b4⟩
        have bw := o4.bw
        clear P4 o3 o4 b4
        go_wp2_with fail
        go_ret
        exact ⟨rfl, bw⟩
      · have q2 : decide ((24 : Int) < (key.size : Int)) = false := by simp; omega
        have q3 : decide ((12 : Int) < (val.size : Int)) = true := by simp; omega
        go_wp2_with fail
        refine P4.mono ?_
        rintro e w4 ⟨rfl, o4, b4⟩
        have bw := o4.bw
        clear P4 o3 o4 b4
        go_wp2_with fail
        go_ret
        exact ⟨rfl, bw⟩

set_option maxRecDepth 100000 in
set_option maxHeartbeats 4000000 in
theorem law_own {T : Td} (V : DFace T) (s : List Stp) (p : Option Addr) (cp : Nat) (key val : ByteArray) (w : World) (hsl : s.length ≤ 9223372036854775807) (hq : StAt w p s) (hzk : key.size ≤ maxLen) (hzv : val.size ≤ maxLen) :
    Calls Tryz.prog 4 #[.slice p s.length cp, .string key, .string val] w fun e w' => e = .returned (.bool true) ∧ Below w.heap.size w w' := by
  go_enter Tryz.func4, Tryz.ntmps4
  go_wp2_with fail
  refine (V.newOk w (by decide) (by decide)).mono ?_
  rintro e w1 ⟨B, rfl, hT, hb1⟩
  have o0 : Od T (fun _ => False) w w1 B (dk0 100000) := ⟨⟨_, hT, fun j hj => ⟨hj.1, hj.2, id⟩⟩, Lv.new.ok, ⟨by decide, by decide⟩, hb1⟩
  clear hT hb1
  go_upto_block 0 with fail
  go_cut [9, 10, 11, 12] from 38 to 68 (fun _ _ _ _ wy => ∃ (n : Nat) (d : Dk) (K : Nat → Prop), n ≤ 40 ∧ Lv n d ∧ Od T K w wy B d)
  case rest =>
    obtain ⟨n, d, K, hn, h, od⟩ := hcut
    refine ‹∀ (a : Act) (w : World), Code.wp _ _ _ a w → _› _ _ ?_
    exact own1 V h hn hzk hzv od
  case first =>
  go_wp2_with fail
  go_loopw [9] (fun i wr => ∃ (k : Nat) (d : Dk) (K : Nat → Prop), k ≤ s.length ∧ k ≤ 40 ∧ i = .int .i64 k ∧ Lv k d ∧ Od T K w wr B d) (fun i _ => s.length - (intOf i).toNat)
  case atStart => exact ⟨0, _, _, by omega, by omega, rfl, Lv.new, o0⟩
  case round =>
    obtain ⟨k, d, K, hk, hk40, rfl, lv, on⟩ := hrel
    clear o0
    by_cases hlt : k < s.length ∧ k < 40
    · obtain ⟨hlt, hlt40⟩ := hlt
      have hlt' : (k : Int) < (s.length : Int) := by omega
      have hlt40' : (k : Int) < 40 := by omega
      obtain ⟨b, off, rfl, hbl, hc⟩ := (hq.step on.bw) (by omega)
      obtain ⟨x, hx⟩ : ∃ x, s[k]? = some x := ⟨s[k], List.getElem?_eq_getElem hlt⟩
      obtain ⟨d0, d1, d2, d3, d4, d5, z1, z2, z3⟩ := hc k x hx
      obtain ⟨m1, m2, m3, m4, m5, m6, m7⟩ := lv.more x.key x.val
      have kb := on.step V (below_al (below_self wr) (.cells #[.int .i64 x.what, .int .i64 x.who, .string x.key, .string x.hi, .string x.val, .int .i64 x.n] 39))
      have sb := Sb.new wr 39 x
      have hKB : Kn K wr (wr.alloc (.cells #[.int .i64 x.what, .int .i64 x.who, .string x.key, .string x.hi, .string x.val, .int .i64 x.n] 39)) wr.heap.size := .inr ⟨Nat.le_refl _, by simp⟩
      have P1 := kb.begin_ V ⟨by omega, by rw [m5]; omega⟩
      rw [m1, m2, ev_0] at P1
      clear on hc hx hq m1 m2
      go_wp2_with fail
      refine P1.mono ?_
      rintro e w2 ⟨rfl, o2, b2⟩
      have sb2 := sb.but b2 (fun hn => hn hKB)
      have hKB2 := (show Kw _ _ wr.heap.size from ⟨hKB, sb.lt⟩)
      have c2 := sb2.c2
      have c4 := sb2.c4
      have P2 := o2.put V ((k : Int) + 1) x.key x.val z1 z3 ⟨by omega, by rw [m7]; omega⟩
      clear P1 kb b2 sb d0 d1 d2 d3 d4 d5
      go_wp2_with fail
      refine P2.mono ?_
      rintro e w3 ⟨rfl, o3, b3⟩
      have P3 := o3.commit V ((k : Int) + 1) (Spz.of o3.ok (no_dc (no_bg (fun o ho => by rw [lv.op0] at ho; simp at ho)) _ _)) ⟨by have := m3.wl; have := m3.op0; simp only [wt, this, wtO, List.map_nil, List.sum_nil]; omega, by rw [m3.ids]; omega⟩
      clear P2 o2 b3 sb2 c2 c4
      go_wp2_with fail
      refine P3.mono ?_
      rintro e w4 ⟨rfl, o4, b4⟩
      clear P3 o3 b4
      go_wp2_with fail
      exact ⟨⟨k + 1, _, _, by omega, by omega, by go_num, m3, o4⟩, by simp [intOf]; omega⟩
    · by_cases h1 : k < s.length
      · have g1 : decide ((k : Int) < (s.length : Int)) = true := by simp; omega
        have g2 : decide ((k : Int) < 40) = false := by simp; omega
        go_wp2_with fail
        go_meet
        case rel => exact ⟨k, d, K, hk40, lv, on⟩
      · have g1 : decide ((k : Int) < (s.length : Int)) = false := by simp; omega
        go_wp2_with fail
        go_meet
        case rel => exact ⟨k, d, K, hk40, lv, on⟩
end Go.Proofs.YthhfhbcfdcenfaaGreat
