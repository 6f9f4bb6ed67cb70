/- The law DeskSerial: its code's pieces, its rows. -/
import Derived.Test.YtfnkaehpidaanaaGreatDoorCNR
import Derived.Test.YtfnkaehpidaanaaGreatDoorCNF
import Derived.Test.YtfnkaehpidaanaaGreatDoorCNE
import Derived.Deep.CutBlock
import Derived.BigQuiet
namespace Go.Proofs.YtfnkaehpidaanaaGreatDoor
open Go.RowKit Vs

def cFst : Code → Code
  | .seq a _ => a
  | c => c
def cSnd : Code → Code
  | .seq _ b => b
  | c => c
def cIn : Code → Code
  | .block _ b => b
  | .loop b => b
  | c => c
def cThen : Code → Code
  | .cond _ a _ => a
  | c => c
/-- One round of the law's first loop. -/
def srIn (c : Code) : Code := cIn (cFst (cSnd (cIn (cIn (cSnd (cFst (dropSeq 15 c)))))))
/-- What it does where one is closed. -/
def srThen (c : Code) : Code := cThen (cSnd (cFst (dropSeq 5 (srIn c))))
theorem etStep {w w' : World} (h : ErrType w) (hb : Below w.heap.size w w') : ErrType w' := (hb.cell (World.block_lt_of_cell? _ _ h)).trans h
theorem encS_one (l : List Stp) : ∀ u ∈ l.flatMap encS, u.oneCell' = true := by
  intro u hu
  obtain ⟨x, _, hx⟩ := List.mem_flatMap.1 hu
  simp [encS] at hx
  rcases hx with rfl | rfl | rfl | rfl | rfl | rfl <;> rfl
theorem encS_one1 (x : Stp) : ∀ u ∈ encS x, u.oneCell' = true := fun u hu => encS_one [x] u (by simpa using hu)
theorem tds_one (l : List ByteArray) : ∀ u ∈ l.map Value.string, u.oneCell' = true := by
  intro u hu
  obtain ⟨x, _, rfl⟩ := List.mem_map.1 hu
  rfl
theorem tx_one {t : ByteArray} : ∀ u ∈ ([.string t] : List Value), u.oneCell' = true := fun u hu => by rw [List.mem_singleton.1 hu]; rfl
theorem vps_one {X : Nat → Prop} {w : World} {v : Value} {ls : List (List Pr)} {vs : List Value} (h : w.ownsRow 0 42 1 v ls.length vs) (h2 : ∀ (i : Nat) (l : List Pr), ls[i]? = some l → ∃ q c, vs[i]? = some (.slice q l.length c) ∧ l.length ≤ c ∧ PrIn X w q l) : ∀ u ∈ vs, u.oneCell' = true := by
  intro u hu
  obtain ⟨i, hi, e⟩ := List.getElem_of_mem hu
  have hl := h.1
  have hil : i < ls.length := by omega
  obtain ⟨q, c, h3, _, _⟩ := h2 i ls[i] (List.getElem?_eq_getElem hil)
  rw [List.getElem?_eq_getElem hi, e] at h3
  cases h3; rfl
theorem six_new (V : World) (N : Nat) (a b c d e f : Value) (t : TypeId) (hN : N = V.heap.size) : ∀ j u, [a, b, c, d, e, f][j]? = some u → (V.alloc (.cells #[a, b, c, d, e, f] t)).cell? ⟨N, j, none⟩ = some u := by
  subst hN
  intro j u hj
  match j, hj with
  | 0, hj => simp at hj; subst hj; simp
  | 1, hj => simp at hj; subst hj; simp
  | 2, hj => simp at hj; subst hj; simp
  | 3, hj => simp at hj; subst hj; simp
  | 4, hj => simp at hj; subst hj; simp
  | 5, hj => simp at hj; subst hj; simp
/-- One that has begun. -/
def dq0 (i : Int) : Dq := ⟨⟨i, 0, [], [], []⟩, .slice none 0 0, .slice none 0 0, .slice none 0 0⟩
theorem dq0_ok (X : Nat → Prop) (w : World) (i : Int) : DqOk X w (dq0 i) :=
  ⟨Fz.nil _ _ _ _, Fz.nil _ _ _ _, ⟨[], Fz.nil _ _ _ _, fun i l h => by simp [dq0] at h⟩, fun x h => by simp [dq0] at h, Nat.zero_le _⟩
theorem dq0_one (i : Int) : ∀ u ∈ encD (dq0 i), u.oneCell' = true := by
  intro u hu
  simp [encD, dq0] at hu
  rcases hu with rfl | rfl | rfl <;> rfl
theorem five_new (V : World) (N : Nat) (a b c d e : Value) (t : TypeId) (hN : N = V.heap.size) : ∀ j u, [a, b, c, d, e][j]? = some u → (V.alloc (.cells #[a, b, c, d, e] t)).cell? ⟨N, j, none⟩ = some u := by
  subst hN
  intro j u hj
  match j, hj with
  | 0, hj => simp at hj; subst hj; simp
  | 1, hj => simp at hj; subst hj; simp
  | 2, hj => simp at hj; subst hj; simp
  | 3, hj => simp at hj; subst hj; simp
  | 4, hj => simp at hj; subst hj; simp
theorem map_er (l : List Dq) (j : Nat) : (l.eraseIdx j).map (·.x) = (l.map (·.x)).eraseIdx j := by rw [List.eraseIdx_eq_take_drop_succ, List.eraseIdx_eq_take_drop_succ, List.map_append, List.map_take, List.map_drop]
theorem fl_cut (l : List Dq) (j : Nat) : l.flatMap encD = (l.take j).flatMap encD ++ (l.drop j).flatMap encD := by rw [← List.flatMap_append, List.take_append_drop]
theorem fl_take {l : List Dq} {j i : Nat} {u : Value} (h : ((l.take j).flatMap encD)[i]? = some u) : (l.flatMap encD)[i]? = some u := by
  rw [fl_cut l j, List.getElem?_append_left (List.getElem?_eq_some_iff.1 h).1]; exact h
theorem fl_drop {l : List Dq} {j i : Nat} {u : Value} (hj : j ≤ l.length) (h : ((l.drop j).flatMap encD)[i]? = some u) : (l.flatMap encD)[j * 5 + i]? = some u := by
  rw [fl_cut l j, List.getElem?_append_right (by rw [encD_len, List.length_take]; omega), encD_len, List.length_take, Nat.min_eq_left hj, Nat.add_sub_cancel_left]; exact h
theorem fl_one {X : Nat → Prop} {w : World} {l : List Dq} (h : ∀ e ∈ l, DqOk X w e) : ∀ u ∈ l.flatMap encD, u.oneCell' = true := by
  intro u hu
  obtain ⟨e, he, hx⟩ := List.mem_flatMap.1 hu
  have q := h e he
  obtain ⟨x, a, b, c⟩ := e
  obtain ⟨pa, ca, ea, _⟩ := Fz.form q.a
  obtain ⟨pb, cb, eb, _⟩ := Fz.form q.b
  obtain ⟨vs, qc, _⟩ := q.c
  obtain ⟨pc, cc, ec, _⟩ := Fz.form qc
  simp only at ea eb ec
  subst ea eb ec
  simp [encD] at hx
  rcases hx with rfl | rfl | rfl | rfl | rfl <;> rfl
end Go.Proofs.YtfnkaehpidaanaaGreatDoor

/- The walk of the law DeskSerial: one that is open is closed. -/
namespace Go.Proofs.YtfnkaehpidaanaaGreatDoor
open Go.RowKit Vs

set_option maxRecDepth 100000 in
set_option maxHeartbeats 8000000 in
theorem sr_close {T : Td} (V : DFace T) {K6 X : Nat → Prop} {k j m2 B bs Bx : Nat} {d : Dk} {o : Ox} {v5 : Value} {p2 : Option Addr} {e1 e2 : List Dq} {x : Stp} {yid ynum : Int} {yst : List Stp} {ytd : List ByteArray} {ypr : List (List Pr)} {pa pb pc : Option Addr} {ca cb cc : Nat} {w w5 : World} {Q : Exit → Act → World → Prop} {c0 c1 c2 c4 c5 c6 c7 c8 c9 c10 c11 c12 c13 c14 c15 c16 c17 c22 c23 c24 c27 c28 c29 c30 c31 c32 c33 c34 c35 c36 c37 c38 c39 c40 c41 c42 c43 c44 c45 c46 c47 c48 c49 c50 c51 c52 c53 c54 c55 c56 c57 c58 c59 c60 c61 c62 c63 c64 c65 c66 c67 c68 c69 c70 c71 c72 c73 c74 c75 c76 c77 c78 c79 c80 c81 c82 c83 c84 c85 c86 c87 c88 c89 c90 c91 c92 c93 c94 c95 c96 c97 c98 c99 c100 c101 c102 c103 c104 c105 c106 c107 c108 c109 c110 c111 c112 c113 c114 c115 c116 c117 c118 c119 c120 c121 c122 c123 c124 c125 c126 c127 c128 c129 c130 c131 c132 c133 c134 c135 c136 c137 c138 c139 c140 c141 c142 c143 c144 c145 c146 c147 c148 c149 c150 c151 c152 c153 c154 c155 c156 c157 c158 c159 c160 c161 c162 c163 c164 c165 c166 c167 c168 c169 c170 c171 c172 c173 c174 c175 c176 c177 c178 c179 c180 c181 c182 c183 c184 c185 c186 c187 c188 c189 c190 c191 c192 c193 c194 c195 c196 c197 c198 c199 c200 c201 c202 c203 c204 c205 c206 c207 c208 c209 c210 c211 c212 c213 c214 c215 c216 c217 c218 c219 c220 c221 c222 c223 c224 c225 c226 c227 c228 c229 c230 c231 c232 c233 c234 c235 c236 c237 c238 c239 c240 c241 c242 c243 c244 c245 c246 c247 c248 c249 c250 c251 c252 c253 c254 c255 c256 c257 c258 c259 c260 c261 c262 c263 c264 c265 c266 c267 c268 c269 c270 c271 c272 c273 c274 c275 c276 c277 c278 c279 c280 c281 c282 c283 c284 c285 c286 c287 c288 c289 c290 c291 c292 c293 c294 c295 c296 c297 c298 c299 c300 c301 c302 c303 c304 c305 c306 c307 c308 c309 c310 c311 c312 c313 c314 c315 c316 c317 c318 c319 c320 c321 c322 c323 c324 c325 c326 c327 c328 c329 c330 c331 c332 c333 c334 c335 c336 c337 c338 c339 c340 c341 c342 c343 c344 c345 c346 c347 c348 c349 c350 c351 c352 c353 c354 c355 c356 c357 c358 c359 c360 c361 c362 c363 c364 c365 c366 c367 c368 c369 c370 c371 c372 c373 c374 c375 c376 c377 c378 c379 c380 c381 c382 : Value}
    (hk : k < 60) (hel2 : e2.length ≤ 60) (sd : Sd k d (e1.map (·.x)) (e2.map (·.x))) (hyx : (e1.map (·.x))[j]? = some ⟨yid, ynum, yst, ytd, ypr⟩) (ho : d.op[j]? = some o) (hopI : opI d yid = some o) (hz : Spz d) (sr4 : Sr T K6 X w w5 B d v5 (.slice p2 e2.length m2) (e1.eraseIdx j) e2) (db5 : Db w5 Bx ⟨⟨yid, ynum, yst, ytd, ypr⟩, .slice pa yst.length ca, .slice pb ytd.length cb, .slice pc ypr.length cc⟩) (dq5 : DqOk X w5 ⟨⟨yid, ynum, yst, ytd, ypr⟩, .slice pa yst.length ca, .slice pb ytd.length cb, .slice pc ypr.length cc⟩) (fb5 : w5.frozen? ⟨Bx, 1, none⟩ = false) (hK5 : K6 Bx) (hX5 : ¬ X Bx) (hv25 : (Value.slice p2 e2.length m2).ownBlock ≠ some Bx) (hv15 : v5.ownBlock ≠ some Bx) (hwB : w.heap.size ≤ Bx) (c05' : w5.cell? ⟨bs, 0, none⟩ = some (.int .i64 x.what))
    (hQ : ∀ {d' : Dk} {v1' v2' : Value} {e1' e2' : List Dq} {K' X' : Nat → Prop} {w' : World} {d21 d22 d23 d24 d25 d26 d27 d28 d29 d30 d31 d32 d33 d34 d35 d122 d123 d124 d125 d126 d127 d128 d129 d130 d131 d132 d133 d134 d135 d136 d137 d138 d139 d140 d141 d142 d143 d144 d145 d146 d147 d148 d149 d150 d151 d152 d153 d154 d155 d156 d157 d158 d159 d160 d161 d162 d163 d164 d165 d166 d167 d168 d169 d170 d171 d172 d173 d174 d175 d176 d177 d178 d179 d180 d181 d182 d183 d184 d185 d186 d187 d188 d189 d190 d191 d192 d193 d194 d195 d196 d197 d198 d199 d200 d201 d202 d203 d204 d205 d206 d207 d208 d209 d210 d211 d212 d213 d214 d215 d216 d217 d218 d219 d220 d221 d222 d223 d224 d225 d226 d227 d228 d229 d230 d231 d232 d233 d234 d235 d236 d237 d238 d239 d240 d241 d242 d243 d244 d245 d246 d247 d248 d249 d250 d251 d252 d253 d254 d255 d256 d257 d258 d259 d260 d261 d262 d263 d264 d265 d266 d267 d268 d269 d270 d271 d272 d273 d274 d275 d276 : Value}, Sd (k + 1) d' (e1'.map (·.x)) (e2'.map (·.x)) → Spz d' → Sr T K' X' w w' B d' v1' v2' e1' e2' → Q (.exit 1) ⟨#[c0, c1, c2, .pointer (some ⟨B, 0, none⟩), c4, c5, c6, c7, c8, c9, c10, c11, c12, c13, c14, c15, c16, c17, v1', v2', .int .i64 (k : Int), d21, d22, d23, d24, d25, d26, d27, d28, d29, d30, d31, d32, d33, d34, d35, c36, c37, c38, c39, c40, c41, c42, c43, c44, c45, c46, c47, c48, c49, c50, c51, c52, c53, c54, c55, c56, c57, c58, c59, c60, c61, c62, c63, c64, c65, c66, c67, c68, c69, c70, c71, c72, c73, c74, c75, c76, c77, c78, c79, c80, c81, c82, c83, c84, c85, c86, c87, c88, c89, c90, c91, c92, c93, c94, c95, c96, c97, c98, c99, c100, c101, c102, c103, c104, c105, c106, c107, c108, c109, c110, c111, c112, c113, c114, c115, c116, c117, c118, c119, c120, c121, d122, d123, d124, d125, d126, d127, d128, d129, d130, d131, d132, d133, d134, d135, d136, d137, d138, d139, d140, d141, d142, d143, d144, d145, d146, d147, d148, d149, d150, d151, d152, d153, d154, d155, d156, d157, d158, d159, d160, d161, d162, d163, d164, d165, d166, d167, d168, d169, d170, d171, d172, d173, d174, d175, d176, d177, d178, d179, d180, d181, d182, d183, d184, d185, d186, d187, d188, d189, d190, d191, d192, d193, d194, d195, d196, d197, d198, d199, d200, d201, d202, d203, d204, d205, d206, d207, d208, d209, d210, d211, d212, d213, d214, d215, d216, d217, d218, d219, d220, d221, d222, d223, d224, d225, d226, d227, d228, d229, d230, d231, d232, d233, d234, d235, d236, d237, d238, d239, d240, d241, d242, d243, d244, d245, d246, d247, d248, d249, d250, d251, d252, d253, d254, d255, d256, d257, d258, d259, d260, d261, d262, d263, d264, d265, d266, d267, d268, d269, d270, d271, d272, d273, d274, d275, d276, c277, c278, c279, c280, c281, c282, c283, c284, c285, c286, c287, c288, c289, c290, c291, c292, c293, c294, c295, c296, c297, c298, c299, c300, c301, c302, c303, c304, c305, c306, c307, c308, c309, c310, c311, c312, c313, c314, c315, c316, c317, c318, c319, c320, c321, c322, c323, c324, c325, c326, c327, c328, c329, c330, c331, c332, c333, c334, c335, c336, c337, c338, c339, c340, c341, c342, c343, c344, c345, c346, c347, c348, c349, c350, c351, c352, c353, c354, c355, c356, c357, c358, c359, c360, c361, c362, c363, c364, c365, c366, c367, c368, c369, c370, c371, c372, c373, c374, c375, c376, c377, c378, c379, c380, c381, c382], []⟩ w') :
    Code.wp Tryz.prog (dropSeq 4 (srThen (Tryz.f4.body.getD .skip))) Q ⟨#[c0, c1, c2, .pointer (some ⟨B, 0, none⟩), c4, c5, c6, c7, c8, c9, c10, c11, c12, c13, c14, c15, c16, c17, v5, .slice p2 e2.length m2, .int .i64 (k : Int), .pointer (some ⟨bs, 0, none⟩), c22, c23, c24, .int .i64 yid, .pointer (some ⟨Bx, 0, none⟩), c27, c28, c29, c30, c31, c32, c33, c34, c35, c36, c37, c38, c39, c40, c41, c42, c43, c44, c45, c46, c47, c48, c49, c50, c51, c52, c53, c54, c55, c56, c57, c58, c59, c60, c61, c62, c63, c64, c65, c66, c67, c68, c69, c70, c71, c72, c73, c74, c75, c76, c77, c78, c79, c80, c81, c82, c83, c84, c85, c86, c87, c88, c89, c90, c91, c92, c93, c94, c95, c96, c97, c98, c99, c100, c101, c102, c103, c104, c105, c106, c107, c108, c109, c110, c111, c112, c113, c114, c115, c116, c117, c118, c119, c120, c121, c122, c123, c124, c125, c126, c127, c128, c129, c130, c131, c132, c133, c134, c135, c136, c137, c138, c139, c140, c141, c142, c143, c144, c145, c146, c147, c148, c149, c150, c151, c152, c153, c154, c155, c156, c157, c158, c159, c160, c161, c162, c163, c164, c165, c166, c167, c168, c169, c170, c171, c172, c173, c174, c175, c176, c177, c178, c179, c180, c181, c182, c183, c184, c185, c186, c187, c188, c189, c190, c191, c192, c193, c194, c195, c196, c197, c198, c199, c200, c201, c202, c203, c204, c205, c206, c207, c208, c209, c210, c211, c212, c213, c214, c215, c216, c217, c218, c219, c220, c221, c222, c223, c224, c225, c226, c227, c228, c229, c230, c231, c232, c233, c234, c235, c236, c237, c238, c239, c240, c241, c242, c243, c244, c245, c246, c247, c248, c249, c250, c251, c252, c253, c254, c255, c256, c257, c258, c259, c260, c261, c262, c263, c264, c265, c266, c267, c268, c269, c270, c271, c272, c273, c274, c275, c276, c277, c278, c279, c280, c281, c282, c283, c284, c285, c286, c287, c288, c289, c290, c291, c292, c293, c294, c295, c296, c297, c298, c299, c300, c301, c302, c303, c304, c305, c306, c307, c308, c309, c310, c311, c312, c313, c314, c315, c316, c317, c318, c319, c320, c321, c322, c323, c324, c325, c326, c327, c328, c329, c330, c331, c332, c333, c334, c335, c336, c337, c338, c339, c340, c341, c342, c343, c344, c345, c346, c347, c348, c349, c350, c351, c352, c353, c354, c355, c356, c357, c358, c359, c360, c361, c362, c363, c364, c365, c366, c367, c368, c369, c370, c371, c372, c373, c374, c375, c376, c377, c378, c379, c380, c381, c382], []⟩ w5 := by
  conv => arg 2; whnf
  by_cases hx8 : x.what = 8
  · have e8 : (x.what == 8) = true := by simp [hx8]
    clear hx8
    have sdg := sd.gone hyx ho
    have PA := sr4.od.abort V yid (sdSm sdg (by omega))
    rw [show abF d yid = 0 from by rw [abF, hopI]; rfl, ev_0] at PA
    clear db5 dq5 fb5 hX5 hv25 hv15 hwB
    go_wp2_with fail
    refine PA.mono ?_
    clear PA
    rintro e w6 ⟨rfl, od6, hb6⟩
    have sr5 := sr4.kw od6 hb6
    clear hb6 od6 sr4
    go_wp2
    exact hQ (by rw [map_er]; exact sdg) (hz.del _) sr5
  · have e8 : (x.what == 8) = false := beq_eq_false_iff_ne.2 hx8
    clear hx8
    rcases sd.cm (by omega) hyx ho with ⟨hf, sdc⟩ | ⟨hf, sdc⟩
    · have PM := sr4.od.commit V yid hz (sdSm sdc (by omega))
      have hf' : cmF d yid = 0 := hf
      rw [hf', ev_0] at PM
      simp only at sdc
      clear hf hf'
      go_wp2_with fail
      refine PM.mono ?_
      clear PM
      rintro e w6 ⟨rfl, od6, hb6⟩
      have sr5 := sr4.kw od6 hb6
      have db6 := db5.but hb6 (fun g => g hK5)
      have fb6 : w6.frozen? ⟨Bx, 1, none⟩ = false := (hb6.frozen (p := ⟨Bx, 1, none⟩) db5.lt (fun g => g hK5)).trans fb5
      have dq6 := dq5.but (X' := X) hb6 (fun i hi g => g (sr4.xk i hi).1) (fun _ _ g => g)
      have hK7 : Kw K6 w5 Bx := ⟨hK5, db5.lt⟩
      have hblt := db6.lt
      have hbS : But (fun i => i = Bx) w6 (w6.setCell ⟨Bx, 1, none⟩ (.int .i64 (cmN d yid))) := lw_set
      have sr6 := sr5.mine V hbS (fun i hi => by rw [hi]; exact ⟨hK7, hwB, hX5, hv15, hv25⟩)
      have dq7 := dq6.but (X' := X) hbS (fun i hi g => hX5 (g ▸ hi)) (fun _ _ g => g)
      obtain ⟨k0, k1, k2, k3, k4⟩ := db6
      simp only at k0 k1 k2 k3 k4
      have hbT := below_al (below_self (w6.setCell ⟨Bx, 1, none⟩ (.int .i64 (cmN d yid)))) (.cells #[.int .i64 yid, .int .i64 (cmN d yid), .slice pa yst.length ca, .slice pb ytd.length cb, .slice pc ypr.length cc] 80)
      have sr7 := sr6.kn V hbT
      have dq8 := dq7.but (E := fun _ => False) (X' := X) (.below hbT) (fun _ _ => id) (fun _ _ g => g)
      have dq9 : DqOk X _ ⟨⟨yid, cmN d yid, yst, ytd, ypr⟩, .slice pa yst.length ca, .slice pb ytd.length cb, .slice pc ypr.length cc⟩ := ⟨dq8.a, dq8.b, dq8.c, dq8.s, dq8.n⟩
      have hw7 := sr7.od.bw.size
      clear db5 dq5 fb5 hX5 hv25 hv15 hK5 hb6 od6 sr4 sr5 sr6 dq6 dq7 dq8 hK7 hbS hwB
      go_wp2_with (at_builtin; refine wpList_append_oneAt 76 80 5 88 _ Tryz.underlying76 infoDn rfl (by decide) (by decide) rfl _ _ rfl w.heap.size _ e2.length (e2.flatMap encD) rfl sr7.r2.row hw7 w6.heap.size (encD ⟨⟨yid, cmN d yid, yst, ytd, ypr⟩, .slice pa yst.length ca, .slice pb ytd.length cb, .slice pc ypr.length cc⟩) rfl rfl (five_new _ _ _ _ _ _ _ _ (by simp [World.setCell])) (fl_one (l := [⟨⟨yid, cmN d yid, yst, ytd, ypr⟩, .slice pa yst.length ca, .slice pb ytd.length cb, .slice pc ypr.length cc⟩]) (fun e he => by rw [List.mem_singleton.1 he]; exact dq9)) (by omega) ?_; intro v8 w8 own8 hg8 hat8)
      have sr8 := sr7.push2 V own8 hg8 hat8 dq9
      exact hQ (by rw [map_er, List.map_append]; exact sdc) (hz.cm _) sr8
    · have PM := sr4.od.commit V yid hz (sdSm sdc (by omega))
      have hf' : cmF d yid ≠ 0 := hf
      rw [ev_ne hf'] at PM
      simp only at sdc
      clear hf hf' db5 dq5 fb5 hX5 hv25 hv15 hwB
      go_wp2_with fail
      refine PM.mono ?_
      clear PM
      rintro e w6 ⟨rfl, od6, hb6⟩
      have sr5 := sr4.kw od6 hb6
      clear hb6 od6 sr4
      go_wp2
      exact hQ (by rw [map_er]; exact sdc) (hz.cm _) sr5
end Go.Proofs.YtfnkaehpidaanaaGreatDoor

/- The walk of the law DeskSerial: one is taken out of those that are open. -/
namespace Go.Proofs.YtfnkaehpidaanaaGreatDoor
open Go.RowKit Vs

set_option maxRecDepth 100000 in
set_option maxHeartbeats 8000000 in
theorem sr_take {T : Td} (V : DFace T) {K1 X : Nat → Prop} {k j g m1 m2 B bs Bx : Nat} {d : Dk} {o : Ox} {p2 : Option Addr} {e1 e2 : List Dq} {x : Stp} {yid ynum : Int} {yst : List Stp} {ytd : List ByteArray} {ypr : List (List Pr)} {pa pb pc : Option Addr} {ca cb cc : Nat} {w wA : World} {Q : Exit → Act → World → Prop} {c0 c1 c2 c4 c5 c6 c7 c8 c9 c10 c11 c12 c13 c14 c15 c16 c17 c22 c23 c27 c28 c29 c30 c31 c32 c33 c34 c35 c36 c37 c38 c39 c40 c41 c42 c43 c44 c45 c46 c47 c48 c49 c50 c51 c52 c53 c54 c55 c56 c57 c58 c59 c60 c61 c62 c63 c64 c65 c66 c67 c68 c69 c70 c71 c72 c73 c74 c75 c76 c77 c78 c79 c80 c81 c82 c83 c84 c85 c86 c87 c88 c89 c90 c91 c92 c93 c94 c95 c96 c97 c98 c99 c100 c101 c102 c103 c104 c105 c106 c107 c108 c109 c110 c111 c112 c113 c114 c115 c116 c117 c118 c119 c120 c121 c122 c123 c124 c125 c126 c127 c128 c129 c130 c131 c132 c133 c134 c135 c136 c137 c138 c139 c140 c141 c142 c143 c144 c145 c146 c147 c148 c149 c150 c151 c152 c153 c154 c155 c156 c157 c158 c159 c160 c161 c162 c163 c164 c165 c166 c167 c168 c169 c170 c171 c172 c173 c174 c175 c176 c177 c178 c179 c180 c181 c182 c183 c184 c185 c186 c187 c188 c189 c190 c191 c192 c193 c194 c195 c196 c197 c198 c199 c200 c201 c202 c203 c204 c205 c206 c207 c208 c209 c210 c211 c212 c213 c214 c215 c216 c217 c218 c219 c220 c221 c222 c223 c224 c225 c226 c227 c228 c229 c230 c231 c232 c233 c234 c235 c236 c237 c238 c239 c240 c241 c242 c243 c244 c245 c246 c247 c248 c249 c250 c251 c252 c253 c254 c255 c256 c257 c258 c259 c260 c261 c262 c263 c264 c265 c266 c267 c268 c269 c270 c271 c272 c273 c274 c275 c276 c277 c278 c279 c280 c281 c282 c283 c284 c285 c286 c287 c288 c289 c290 c291 c292 c293 c294 c295 c296 c297 c298 c299 c300 c301 c302 c303 c304 c305 c306 c307 c308 c309 c310 c311 c312 c313 c314 c315 c316 c317 c318 c319 c320 c321 c322 c323 c324 c325 c326 c327 c328 c329 c330 c331 c332 c333 c334 c335 c336 c337 c338 c339 c340 c341 c342 c343 c344 c345 c346 c347 c348 c349 c350 c351 c352 c353 c354 c355 c356 c357 c358 c359 c360 c361 c362 c363 c364 c365 c366 c367 c368 c369 c370 c371 c372 c373 c374 c375 c376 c377 c378 c379 c380 c381 c382 : Value}
    (hk : k < 60) (hj : j < e1.length) (hel : e1.length ≤ 8) (hel2 : e2.length ≤ 60) (h1c : e1.length ≤ m1) (h1m : m1 ≤ 9223372036854775807) (sd : Sd k d (e1.map (·.x)) (e2.map (·.x))) (hyx : (e1.map (·.x))[j]? = some ⟨yid, ynum, yst, ytd, ypr⟩) (ho : d.op[j]? = some o) (hopI : opI d yid = some o) (hz : Spz d) (hgl : g < wA.heap.size) (hsr2 : Sr T K1 X w wA B d (.slice (some ⟨g, 0, none⟩) e1.length m1) (.slice p2 e2.length m2) e1 e2) (db : Db wA Bx ⟨⟨yid, ynum, yst, ytd, ypr⟩, .slice pa yst.length ca, .slice pb ytd.length cb, .slice pc ypr.length cc⟩) (dq : DqOk X wA ⟨⟨yid, ynum, yst, ytd, ypr⟩, .slice pa yst.length ca, .slice pb ytd.length cb, .slice pc ypr.length cc⟩) (fb : wA.frozen? ⟨Bx, 1, none⟩ = false) (hKb : K1 Bx) (hXb : ¬ X Bx) (hv2 : (Value.slice p2 e2.length m2).ownBlock ≠ some Bx) (hwB : w.heap.size ≤ Bx) (sb : Sb wA bs x)
    (hQ : ∀ {d' : Dk} {v1' v2' : Value} {e1' e2' : List Dq} {K' X' : Nat → Prop} {w' : World} {d21 d22 d23 d24 d25 d26 d27 d28 d29 d30 d31 d32 d33 d34 d35 d122 d123 d124 d125 d126 d127 d128 d129 d130 d131 d132 d133 d134 d135 d136 d137 d138 d139 d140 d141 d142 d143 d144 d145 d146 d147 d148 d149 d150 d151 d152 d153 d154 d155 d156 d157 d158 d159 d160 d161 d162 d163 d164 d165 d166 d167 d168 d169 d170 d171 d172 d173 d174 d175 d176 d177 d178 d179 d180 d181 d182 d183 d184 d185 d186 d187 d188 d189 d190 d191 d192 d193 d194 d195 d196 d197 d198 d199 d200 d201 d202 d203 d204 d205 d206 d207 d208 d209 d210 d211 d212 d213 d214 d215 d216 d217 d218 d219 d220 d221 d222 d223 d224 d225 d226 d227 d228 d229 d230 d231 d232 d233 d234 d235 d236 d237 d238 d239 d240 d241 d242 d243 d244 d245 d246 d247 d248 d249 d250 d251 d252 d253 d254 d255 d256 d257 d258 d259 d260 d261 d262 d263 d264 d265 d266 d267 d268 d269 d270 d271 d272 d273 d274 d275 d276 : Value}, Sd (k + 1) d' (e1'.map (·.x)) (e2'.map (·.x)) → Spz d' → Sr T K' X' w w' B d' v1' v2' e1' e2' → Q (.exit 1) ⟨#[c0, c1, c2, .pointer (some ⟨B, 0, none⟩), c4, c5, c6, c7, c8, c9, c10, c11, c12, c13, c14, c15, c16, c17, v1', v2', .int .i64 (k : Int), d21, d22, d23, d24, d25, d26, d27, d28, d29, d30, d31, d32, d33, d34, d35, c36, c37, c38, c39, c40, c41, c42, c43, c44, c45, c46, c47, c48, c49, c50, c51, c52, c53, c54, c55, c56, c57, c58, c59, c60, c61, c62, c63, c64, c65, c66, c67, c68, c69, c70, c71, c72, c73, c74, c75, c76, c77, c78, c79, c80, c81, c82, c83, c84, c85, c86, c87, c88, c89, c90, c91, c92, c93, c94, c95, c96, c97, c98, c99, c100, c101, c102, c103, c104, c105, c106, c107, c108, c109, c110, c111, c112, c113, c114, c115, c116, c117, c118, c119, c120, c121, d122, d123, d124, d125, d126, d127, d128, d129, d130, d131, d132, d133, d134, d135, d136, d137, d138, d139, d140, d141, d142, d143, d144, d145, d146, d147, d148, d149, d150, d151, d152, d153, d154, d155, d156, d157, d158, d159, d160, d161, d162, d163, d164, d165, d166, d167, d168, d169, d170, d171, d172, d173, d174, d175, d176, d177, d178, d179, d180, d181, d182, d183, d184, d185, d186, d187, d188, d189, d190, d191, d192, d193, d194, d195, d196, d197, d198, d199, d200, d201, d202, d203, d204, d205, d206, d207, d208, d209, d210, d211, d212, d213, d214, d215, d216, d217, d218, d219, d220, d221, d222, d223, d224, d225, d226, d227, d228, d229, d230, d231, d232, d233, d234, d235, d236, d237, d238, d239, d240, d241, d242, d243, d244, d245, d246, d247, d248, d249, d250, d251, d252, d253, d254, d255, d256, d257, d258, d259, d260, d261, d262, d263, d264, d265, d266, d267, d268, d269, d270, d271, d272, d273, d274, d275, d276, c277, c278, c279, c280, c281, c282, c283, c284, c285, c286, c287, c288, c289, c290, c291, c292, c293, c294, c295, c296, c297, c298, c299, c300, c301, c302, c303, c304, c305, c306, c307, c308, c309, c310, c311, c312, c313, c314, c315, c316, c317, c318, c319, c320, c321, c322, c323, c324, c325, c326, c327, c328, c329, c330, c331, c332, c333, c334, c335, c336, c337, c338, c339, c340, c341, c342, c343, c344, c345, c346, c347, c348, c349, c350, c351, c352, c353, c354, c355, c356, c357, c358, c359, c360, c361, c362, c363, c364, c365, c366, c367, c368, c369, c370, c371, c372, c373, c374, c375, c376, c377, c378, c379, c380, c381, c382], []⟩ w') :
    Code.wp Tryz.prog (dropSeq 1 (srThen (Tryz.f4.body.getD .skip))) Q ⟨#[c0, c1, c2, .pointer (some ⟨B, 0, none⟩), c4, c5, c6, c7, c8, c9, c10, c11, c12, c13, c14, c15, c16, c17, .slice (some ⟨g, 0, none⟩) e1.length m1, .slice p2 e2.length m2, .int .i64 (k : Int), .pointer (some ⟨bs, 0, none⟩), c22, c23, .int .i64 (j : Int), .int .i64 yid, .pointer (some ⟨Bx, 0, none⟩), c27, c28, c29, c30, c31, c32, c33, c34, c35, c36, c37, c38, c39, c40, c41, c42, c43, c44, c45, c46, c47, c48, c49, c50, c51, c52, c53, c54, c55, c56, c57, c58, c59, c60, c61, c62, c63, c64, c65, c66, c67, c68, c69, c70, c71, c72, c73, c74, c75, c76, c77, c78, c79, c80, c81, c82, c83, c84, c85, c86, c87, c88, c89, c90, c91, c92, c93, c94, c95, c96, c97, c98, c99, c100, c101, c102, c103, c104, c105, c106, c107, c108, c109, c110, c111, c112, c113, c114, c115, c116, c117, c118, c119, c120, c121, c122, c123, c124, c125, c126, c127, c128, c129, c130, c131, c132, c133, c134, c135, c136, c137, c138, c139, c140, c141, c142, c143, c144, c145, c146, c147, c148, c149, c150, c151, c152, c153, c154, c155, c156, c157, c158, c159, c160, c161, c162, c163, c164, c165, c166, c167, c168, c169, c170, c171, c172, c173, c174, c175, c176, c177, c178, c179, c180, c181, c182, c183, c184, c185, c186, c187, c188, c189, c190, c191, c192, c193, c194, c195, c196, c197, c198, c199, c200, c201, c202, c203, c204, c205, c206, c207, c208, c209, c210, c211, c212, c213, c214, c215, c216, c217, c218, c219, c220, c221, c222, c223, c224, c225, c226, c227, c228, c229, c230, c231, c232, c233, c234, c235, c236, c237, c238, c239, c240, c241, c242, c243, c244, c245, c246, c247, c248, c249, c250, c251, c252, c253, c254, c255, c256, c257, c258, c259, c260, c261, c262, c263, c264, c265, c266, c267, c268, c269, c270, c271, c272, c273, c274, c275, c276, c277, c278, c279, c280, c281, c282, c283, c284, c285, c286, c287, c288, c289, c290, c291, c292, c293, c294, c295, c296, c297, c298, c299, c300, c301, c302, c303, c304, c305, c306, c307, c308, c309, c310, c311, c312, c313, c314, c315, c316, c317, c318, c319, c320, c321, c322, c323, c324, c325, c326, c327, c328, c329, c330, c331, c332, c333, c334, c335, c336, c337, c338, c339, c340, c341, c342, c343, c344, c345, c346, c347, c348, c349, c350, c351, c352, c353, c354, c355, c356, c357, c358, c359, c360, c361, c362, c363, c364, c365, c366, c367, c368, c369, c370, c371, c372, c373, c374, c375, c376, c377, c378, c379, c380, c381, c382], []⟩ wA := by
  conv => arg 2; whnf
  have hj' : (j : Int) < (e1.length : Int) := by omega
  have hcp : (j : Int) ≤ (m1 : Int) := by omega
  have hcp1 : (j : Int) + 1 ≤ (m1 : Int) := by omega
  have hcp2 : (j : Int) + 1 ≤ (e1.length : Int) := by omega
  go_upto_region 33 with (at_builtin; refine wpList_append_at 76 80 5 88 _ Tryz.underlying76 infoDn rfl (by decide) (by decide) rfl _ _ rfl wA.heap.size _ 0 [] rfl (World.ownsRow_nil _ _ _ _) (Nat.le_refl _) g 0 j m1 ((e1.take j).flatMap encD) rfl (by rw [encD_len, List.length_take]; omega) (fun i u hi => by rw [Nat.zero_add, hsr2.r1.row.cellAt i (by have := (List.getElem?_eq_some_iff.1 hi).1; rw [encD_len, List.length_take] at this; omega)]; exact fl_take hi) (fl_one (fun e he => hsr2.r1.each e (List.mem_of_mem_take he))) (by omega) ?_; intro v4 w4 own4 hg4 hat4; have hbB : Below wA.heap.size wA w4 := (Below.refl _ _).grown hg4 (Nat.le_refl _) (fun k e => by cases e))
  go_cut [18] from 186 to 191 (fun v1 wy => ∃ K6 : Nat → Prop, Sr T K6 X w wy B d v1 (.slice p2 e2.length m2) (e1.eraseIdx j) e2 ∧ Db wy Bx ⟨⟨yid, ynum, yst, ytd, ypr⟩, .slice pa yst.length ca, .slice pb ytd.length cb, .slice pc ypr.length cc⟩ ∧ DqOk X wy ⟨⟨yid, ynum, yst, ytd, ypr⟩, .slice pa yst.length ca, .slice pb ytd.length cb, .slice pc ypr.length cc⟩ ∧ wy.frozen? ⟨Bx, 1, none⟩ = false ∧ K6 Bx ∧ v1.ownBlock ≠ some Bx ∧ wy.cell? ⟨bs, 0, none⟩ = some (.int .i64 x.what))
  case rest =>
    obtain ⟨K6, sr4, db5, dq5, fb5, hK5, hv15, c05'⟩ := hcut
    refine ‹∀ (a : Act) (w : World), Code.wp _ _ _ a w → _› _ _ ?_
    exact sr_close V hk hel2 sd hyx ho hopI hz sr4 db5 dq5 fb5 hK5 hXb hv2 hv15 hwB c05' hQ
  case first =>
    by_cases hcap : j + 1 < m1
    · go_wp2_with (at_builtin; refine wpList_append_at 76 80 5 88 _ Tryz.underlying76 infoDn rfl (by decide) (by decide) rfl _ _ rfl wA.heap.size _ (0 + j) ([] ++ (e1.take j).flatMap encD) rfl own4 hbB.size g ((j + 1) * 5) _ _ ((e1.drop (j + 1)).flatMap encD) rfl (by rw [encD_len, List.length_drop]) (fun i u hi => by rw [(hbB.cell (p := ⟨g, (j + 1) * 5 + i, none⟩) hgl), hsr2.r1.row.cellAt _ (by have := (List.getElem?_eq_some_iff.1 hi).1; rw [encD_len, List.length_drop] at this; omega)]; exact fl_drop (by omega) hi) (fl_one (fun e he => hsr2.r1.each e (List.mem_of_mem_drop he))) (by omega) ?_; intro v5 w5 own5 hg5 hat5)
      go_meet
      case rel =>
        have hbC : Below wA.heap.size wA w5 := hbB.grown hg5 hbB.size (fun k e => (own4.lt k e).1)
        have sr3 := hsr2.kn V hbC
        have row5 : w5.ownsRow wA.heap.size 80 5 v5 (e1.eraseIdx j).length ((e1.eraseIdx j).flatMap encD) := by rw [List.eraseIdx_eq_take_drop_succ, List.length_append, List.length_take, List.length_drop, List.flatMap_append, Nat.min_eq_left (by omega)]; rw [Nat.zero_add, List.nil_append] at own5; exact own5
        have sr4 := sr3.swap (es := e1.eraseIdx j) row5 hsr2.od.bw.size (fun i h1 h2 => ⟨.inr ⟨h1, h2⟩, fun hX => by have := (hsr2.xk i hX).2; omega, fun hv => by have := (op_lt hsr2.r2.row hv).2; omega⟩) (fun e he => sr3.r1.each e (List.mem_of_mem_eraseIdx he))
        exact ⟨_, sr4, db.but (F := fun _ => False) (.below hbC) id, dq.but (E := fun _ => False) (X' := X) (.below hbC) (fun _ _ => id) (fun _ _ g => g), (hbC.frozen (p := ⟨Bx, 1, none⟩) db.lt).trans fb, .inl hKb, fun hv => by have := (op_lt row5 hv).1; have := db.lt; omega, (hbC.cell (p := ⟨bs, 0, none⟩) sb.lt).trans sb.c0⟩
    · have hcap' : m1 ≤ j + 1 := by omega
      clear hcap
      go_wp2_with (at_builtin; refine wpList_append_at 76 80 5 88 _ Tryz.underlying76 infoDn rfl (by decide) (by decide) rfl _ _ rfl wA.heap.size _ (0 + j) ([] ++ (e1.take j).flatMap encD) rfl own4 hbB.size g 0 _ _ ((e1.drop (j + 1)).flatMap encD) rfl (by rw [encD_len, List.length_drop]) (fun i u hi => by have := (List.getElem?_eq_some_iff.1 hi).1; rw [encD_len, List.length_drop] at this; omega) (fl_one (fun e he => hsr2.r1.each e (List.mem_of_mem_drop he))) (by omega) ?_; intro v5 w5 own5 hg5 hat5)
      go_meet
      case rel =>
        have hbC : Below wA.heap.size wA w5 := hbB.grown hg5 hbB.size (fun k e => (own4.lt k e).1)
        have sr3 := hsr2.kn V hbC
        have row5 : w5.ownsRow wA.heap.size 80 5 v5 (e1.eraseIdx j).length ((e1.eraseIdx j).flatMap encD) := by rw [List.eraseIdx_eq_take_drop_succ, List.length_append, List.length_take, List.length_drop, List.flatMap_append, Nat.min_eq_left (by omega)]; rw [Nat.zero_add, List.nil_append] at own5; exact own5
        have sr4 := sr3.swap (es := e1.eraseIdx j) row5 hsr2.od.bw.size (fun i h1 h2 => ⟨.inr ⟨h1, h2⟩, fun hX => by have := (hsr2.xk i hX).2; omega, fun hv => by have := (op_lt hsr2.r2.row hv).2; omega⟩) (fun e he => sr3.r1.each e (List.mem_of_mem_eraseIdx he))
        exact ⟨_, sr4, db.but (F := fun _ => False) (.below hbC) id, dq.but (E := fun _ => False) (X' := X) (.below hbC) (fun _ _ => id) (fun _ _ g => g), (hbC.frozen (p := ⟨Bx, 1, none⟩) db.lt).trans fb, .inl hKb, fun hv => by have := (op_lt row5 hv).1; have := db.lt; omega, (hbC.cell (p := ⟨bs, 0, none⟩) sb.lt).trans sb.c0⟩
end Go.Proofs.YtfnkaehpidaanaaGreatDoor

/- The walk of the law DeskSerial: what one that is open did and was told, in its rows. -/
namespace Go.Proofs.YtfnkaehpidaanaaGreatDoor
open Go.RowKit Vs

set_option maxRecDepth 100000 in
set_option maxHeartbeats 8000000 in
theorem sr_told {T : Td} (V : DFace T) {K3 X3 : Nat → Prop} {k j g m1 m2 m3 B bs : Nat} {d2 : Dk} {p2 q3 : Option Addr} {e1 e2 : List Dq} {x : Stp} {t1 : ByteArray} {l1 : List Pr} {yid ynum : Int} {yst : List Stp} {ytd : List ByteArray} {ypr : List (List Pr)} {va vb vc : Value} {w w3 : World} {Q : Exit → Act → World → Prop} {c0 c1 c2 c4 c5 c6 c7 c8 c9 c10 c11 c12 c13 c14 c15 c16 c17 c22 c23 c25 c26 c27 c28 c29 c30 c33 c34 c35 c36 c37 c38 c39 c40 c41 c42 c43 c44 c45 c46 c47 c48 c49 c50 c51 c52 c53 c54 c55 c56 c57 c58 c59 c60 c61 c62 c63 c64 c65 c66 c67 c68 c69 c70 c71 c72 c73 c74 c75 c76 c77 c78 c79 c80 c81 c82 c83 c84 c85 c86 c87 c88 c89 c90 c91 c92 c93 c94 c95 c96 c97 c98 c99 c100 c101 c102 c103 c104 c105 c106 c107 c108 c109 c110 c111 c112 c113 c114 c115 c116 c117 c118 c119 c120 c121 c122 c123 c124 c125 c126 c127 c128 c129 c130 c131 c132 c133 c134 c135 c136 c137 c138 c139 c140 c141 c142 c143 c144 c145 c146 c147 c148 c149 c150 c151 c152 c153 c154 c155 c156 c157 c158 c159 c160 c161 c162 c163 c164 c165 c166 c167 c168 c169 c170 c171 c172 c173 c174 c175 c176 c177 c178 c179 c180 c181 c182 c183 c184 c185 c186 c187 c188 c189 c190 c191 c192 c193 c194 c195 c196 c197 c198 c199 c200 c201 c202 c203 c204 c205 c206 c207 c208 c209 c210 c211 c212 c213 c214 c215 c216 c217 c218 c219 c220 c221 c222 c223 c224 c225 c226 c227 c228 c229 c230 c231 c232 c233 c234 c235 c236 c237 c238 c239 c240 c241 c242 c243 c244 c245 c246 c247 c248 c249 c250 c251 c252 c253 c254 c255 c256 c257 c258 c259 c260 c261 c262 c263 c264 c265 c266 c267 c268 c269 c270 c271 c272 c273 c274 c275 c276 c277 c278 c279 c280 c281 c282 c283 c284 c285 c286 c287 c288 c289 c290 c291 c292 c293 c294 c295 c296 c297 c298 c299 c300 c301 c302 c303 c304 c305 c306 c307 c308 c309 c310 c311 c312 c313 c314 c315 c316 c317 c318 c319 c320 c321 c322 c323 c324 c325 c326 c327 c328 c329 c330 c331 c332 c333 c334 c335 c336 c337 c338 c339 c340 c341 c342 c343 c344 c345 c346 c347 c348 c349 c350 c351 c352 c353 c354 c355 c356 c357 c358 c359 c360 c361 c362 c363 c364 c365 c366 c367 c368 c369 c370 c371 c372 c373 c374 c375 c376 c377 c378 c379 c380 c381 c382 : Value}
    (hk : k < 60) (hj : j < e1.length) (hy : e1[j]? = some ⟨⟨yid, ynum, yst, ytd, ypr⟩, va, vb, vc⟩) (hzx : x.key.size ≤ 1048576) (z2 : x.hi.size ≤ maxLen) (z3 : x.val.size ≤ maxLen) (hOp2 : ytd.length = yst.length ∧ ypr.length = yst.length) (hys : yst.length ≤ k)
    (sd2 : Sd (k + 1) d2 ((e1.map (·.x)).set j ⟨yid, ynum, yst ++ [x], ytd ++ [t1], ypr ++ [l1]⟩) (e2.map (·.x))) (hz2 : Spz d2) (sr3 : Sr T K3 X3 w w3 B d2 (.slice (some ⟨g, 0, none⟩) e1.length m1) (.slice p2 e2.length m2) e1 e2) (hlc : l1.length ≤ m3) (hpr : PrIn X3 w3 q3 l1) (sb3 : Sb w3 bs x) (sw3 : w3.cell? ⟨bs, 1, none⟩ = some (.int .i64 x.who))
    (hQ : ∀ {ex : Exit} {d' : Dk} {v1' v2' : Value} {e1' e2' : List Dq} {K' X' : Nat → Prop} {w' : World} {d21 d22 d23 d24 d25 d26 d27 d28 d29 d30 d31 d32 d33 d34 d35 d122 d123 d124 d125 d126 d127 d128 d129 d130 d131 d132 d133 d134 d135 d136 d137 d138 d139 d140 d141 d142 d143 d144 d145 d146 d147 d148 d149 d150 d151 d152 d153 d154 d155 d156 d157 d158 d159 d160 d161 d162 d163 d164 d165 d166 d167 d168 d169 d170 d171 d172 d173 d174 d175 d176 d177 d178 d179 d180 d181 d182 d183 d184 d185 d186 d187 d188 d189 d190 d191 d192 d193 d194 d195 d196 d197 d198 d199 d200 d201 d202 d203 d204 d205 d206 d207 d208 d209 d210 d211 d212 d213 d214 d215 d216 d217 d218 d219 d220 d221 d222 d223 d224 d225 d226 d227 d228 d229 d230 d231 d232 d233 d234 d235 d236 d237 d238 d239 d240 d241 d242 d243 d244 d245 d246 d247 d248 d249 d250 d251 d252 d253 d254 d255 d256 d257 d258 d259 d260 d261 d262 d263 d264 d265 d266 d267 d268 d269 d270 d271 d272 d273 d274 d275 d276 : Value}, (ex = .normal ∨ ex = .exit 1) → Sd (k + 1) d' (e1'.map (·.x)) (e2'.map (·.x)) → Spz d' → Sr T K' X' w w' B d' v1' v2' e1' e2' → Q ex ⟨#[c0, c1, c2, .pointer (some ⟨B, 0, none⟩), c4, c5, c6, c7, c8, c9, c10, c11, c12, c13, c14, c15, c16, c17, v1', v2', .int .i64 (k : Int), d21, d22, d23, d24, d25, d26, d27, d28, d29, d30, d31, d32, d33, d34, d35, c36, c37, c38, c39, c40, c41, c42, c43, c44, c45, c46, c47, c48, c49, c50, c51, c52, c53, c54, c55, c56, c57, c58, c59, c60, c61, c62, c63, c64, c65, c66, c67, c68, c69, c70, c71, c72, c73, c74, c75, c76, c77, c78, c79, c80, c81, c82, c83, c84, c85, c86, c87, c88, c89, c90, c91, c92, c93, c94, c95, c96, c97, c98, c99, c100, c101, c102, c103, c104, c105, c106, c107, c108, c109, c110, c111, c112, c113, c114, c115, c116, c117, c118, c119, c120, c121, d122, d123, d124, d125, d126, d127, d128, d129, d130, d131, d132, d133, d134, d135, d136, d137, d138, d139, d140, d141, d142, d143, d144, d145, d146, d147, d148, d149, d150, d151, d152, d153, d154, d155, d156, d157, d158, d159, d160, d161, d162, d163, d164, d165, d166, d167, d168, d169, d170, d171, d172, d173, d174, d175, d176, d177, d178, d179, d180, d181, d182, d183, d184, d185, d186, d187, d188, d189, d190, d191, d192, d193, d194, d195, d196, d197, d198, d199, d200, d201, d202, d203, d204, d205, d206, d207, d208, d209, d210, d211, d212, d213, d214, d215, d216, d217, d218, d219, d220, d221, d222, d223, d224, d225, d226, d227, d228, d229, d230, d231, d232, d233, d234, d235, d236, d237, d238, d239, d240, d241, d242, d243, d244, d245, d246, d247, d248, d249, d250, d251, d252, d253, d254, d255, d256, d257, d258, d259, d260, d261, d262, d263, d264, d265, d266, d267, d268, d269, d270, d271, d272, d273, d274, d275, d276, c277, c278, c279, c280, c281, c282, c283, c284, c285, c286, c287, c288, c289, c290, c291, c292, c293, c294, c295, c296, c297, c298, c299, c300, c301, c302, c303, c304, c305, c306, c307, c308, c309, c310, c311, c312, c313, c314, c315, c316, c317, c318, c319, c320, c321, c322, c323, c324, c325, c326, c327, c328, c329, c330, c331, c332, c333, c334, c335, c336, c337, c338, c339, c340, c341, c342, c343, c344, c345, c346, c347, c348, c349, c350, c351, c352, c353, c354, c355, c356, c357, c358, c359, c360, c361, c362, c363, c364, c365, c366, c367, c368, c369, c370, c371, c372, c373, c374, c375, c376, c377, c378, c379, c380, c381, c382], []⟩ w') :
    Code.wp Tryz.prog (dropSeq 8 (srIn (Tryz.f4.body.getD .skip))) Q ⟨#[c0, c1, c2, .pointer (some ⟨B, 0, none⟩), c4, c5, c6, c7, c8, c9, c10, c11, c12, c13, c14, c15, c16, c17, .slice (some ⟨g, 0, none⟩) e1.length m1, .slice p2 e2.length m2, .int .i64 (k : Int), .pointer (some ⟨bs, 0, none⟩), c22, c23, .int .i64 (j : Int), c25, c26, c27, c28, c29, c30, .string t1, .slice q3 l1.length m3, c33, c34, c35, c36, c37, c38, c39, c40, c41, c42, c43, c44, c45, c46, c47, c48, c49, c50, c51, c52, c53, c54, c55, c56, c57, c58, c59, c60, c61, c62, c63, c64, c65, c66, c67, c68, c69, c70, c71, c72, c73, c74, c75, c76, c77, c78, c79, c80, c81, c82, c83, c84, c85, c86, c87, c88, c89, c90, c91, c92, c93, c94, c95, c96, c97, c98, c99, c100, c101, c102, c103, c104, c105, c106, c107, c108, c109, c110, c111, c112, c113, c114, c115, c116, c117, c118, c119, c120, c121, c122, c123, c124, c125, c126, c127, c128, c129, c130, c131, c132, c133, c134, c135, c136, c137, c138, c139, c140, c141, c142, c143, c144, c145, c146, c147, c148, c149, c150, c151, c152, c153, c154, c155, c156, c157, c158, c159, c160, c161, c162, c163, c164, c165, c166, c167, c168, c169, c170, c171, c172, c173, c174, c175, c176, c177, c178, c179, c180, c181, c182, c183, c184, c185, c186, c187, c188, c189, c190, c191, c192, c193, c194, c195, c196, c197, c198, c199, c200, c201, c202, c203, c204, c205, c206, c207, c208, c209, c210, c211, c212, c213, c214, c215, c216, c217, c218, c219, c220, c221, c222, c223, c224, c225, c226, c227, c228, c229, c230, c231, c232, c233, c234, c235, c236, c237, c238, c239, c240, c241, c242, c243, c244, c245, c246, c247, c248, c249, c250, c251, c252, c253, c254, c255, c256, c257, c258, c259, c260, c261, c262, c263, c264, c265, c266, c267, c268, c269, c270, c271, c272, c273, c274, c275, c276, c277, c278, c279, c280, c281, c282, c283, c284, c285, c286, c287, c288, c289, c290, c291, c292, c293, c294, c295, c296, c297, c298, c299, c300, c301, c302, c303, c304, c305, c306, c307, c308, c309, c310, c311, c312, c313, c314, c315, c316, c317, c318, c319, c320, c321, c322, c323, c324, c325, c326, c327, c328, c329, c330, c331, c332, c333, c334, c335, c336, c337, c338, c339, c340, c341, c342, c343, c344, c345, c346, c347, c348, c349, c350, c351, c352, c353, c354, c355, c356, c357, c358, c359, c360, c361, c362, c363, c364, c365, c366, c367, c368, c369, c370, c371, c372, c373, c374, c375, c376, c377, c378, c379, c380, c381, c382], []⟩ w3 := by
  conv => arg 2; whnf
  have hym := List.mem_of_getElem? hy
  have hj' : (j : Int) < (e1.length : Int) := by omega
  obtain ⟨g', eg', hgl3, hKg3, b03, b13, b23, b33, b43⟩ := sr3.r1.at hy
  cases eg'
  have dq3 := sr3.r1.each _ hym
  simp only at b03 b13 b23 b33 b43 sd2
  have dqa : Fz X3 w3 33 6 va yst.length (yst.flatMap encS) := dq3.a
  have dqb : Fz X3 w3 9 1 vb ytd.length (ytd.map Value.string) := dq3.b
  obtain ⟨vps, dqc, dqc2⟩ : FzP X3 w3 vc ypr := dq3.c
  have hn3 : yst.length ≤ 1000 := dq3.n
  have hfr : ∀ i, w3.frozen? ⟨g, i, none⟩ = false := fun i => sr3.r1.row.frozenAt i
  have htd : ytd.length = yst.length := hOp2.1
  have hpd : ypr.length = yst.length := hOp2.2
  have htd' : ytd.length ≤ 1000 := by omega
  have hpd' : ypr.length ≤ 1000 := by omega
  clear htd hpd hOp2
  have hw3 := sr3.od.bw.size
  go_wp2_with (first
    | (at_builtin; have own8' := own8; refine wpList_append_oneAt 78 42 1 24 _ Tryz.underlying78 infoPl rfl (by decide) (by decide) rfl _ _ rfl w7.heap.size _ ypr.length vps rfl (own8.alloc _) (by simp; omega) w8.heap.size [.slice q3 l1.length m3] rfl rfl (op_cell _ _ _ _ rfl) op_one (by omega) ?_; intro p9 w9 own9 hg9 hat9; obtain ⟨pP, cP, rfl, -⟩ := lw_form own9; have hb9 : Below w7.heap.size w7 w9 := (hb8.alloc (by omega) _).grown hg9 (by simp; omega) (fun k e => (own8.lt k e).1); have hball := below_via hb7w hb9; have r2 := (hball.cell (p := ⟨g, j * 5 + 2, none⟩) hgl3).trans b23; have r3' := (hball.cell (p := ⟨g, j * 5 + 3, none⟩) hgl3).trans b33; have r4' := (hball.cell (p := ⟨g, j * 5 + 4, none⟩) hgl3).trans b43; have f2 := (hball.frozen (p := ⟨g, j * 5 + 2, none⟩) hgl3).trans (hfr _); have f3 := (hball.frozen (p := ⟨g, j * 5 + 3, none⟩) hgl3).trans (hfr _); have f4 := (hball.frozen (p := ⟨g, j * 5 + 4, none⟩) hgl3).trans (hfr _))
    | (at_builtin; have own7' := own7; refine wpList_append_row 78 42 1 24 _ Tryz.underlying78 infoPl rfl (by decide) (by decide) rfl _ _ rfl w7.heap.size _ 0 [] rfl (World.ownsRow_nil _ _ _ _) (Nat.le_refl _) 0 _ ypr.length vps rfl (own_below dqc.1 hb7w) (vps_one dqc.1 dqc2) (by omega) ?_; intro p8 w8 own8 hg8 hat8; rw [List.nil_append, Nat.zero_add] at own8; have hb8 : Below w7.heap.size w7 w8 := (below_self w7).grown hg8 (Nat.le_refl _) (fun k e => by cases e); have hs8 := hb8.size)
    | (at_builtin; have own6' := own6; refine wpList_append_oneAt 77 9 1 16 _ Tryz.underlying77 infoTx rfl (by decide) (by decide) rfl _ _ rfl w5.heap.size _ ytd.length (ytd.map Value.string) rfl (own6.alloc _) (by simp; omega) w6.heap.size [.string t1] rfl rfl (op_cell _ _ _ _ rfl) tx_one (by omega) ?_; intro t7 w7 own7 hg7 hat7; obtain ⟨pT, cT, rfl, -⟩ := lw_form own7; have hb7 : Below w5.heap.size w5 w7 := (hb6.alloc (by omega) _).grown hg7 (by simp; omega) (fun k e => (own6.lt k e).1); have hb7w := below_via hb5 hb7; have r4 := (hb7w.cell (p := ⟨g, j * 5 + 4, none⟩) hgl3).trans b43)
    | (at_builtin; have own5' := own5; refine wpList_append_row 77 9 1 16 _ Tryz.underlying77 infoTx rfl (by decide) (by decide) rfl _ _ rfl w5.heap.size _ 0 [] rfl (World.ownsRow_nil _ _ _ _) (Nat.le_refl _) 0 _ ytd.length (ytd.map Value.string) rfl (own_below dqb.1 hb5) (tds_one ytd) (by omega) ?_; intro t6 w6 own6 hg6 hat6; rw [List.nil_append, Nat.zero_add] at own6; have hb6 : Below w5.heap.size w5 w6 := (below_self w5).grown hg6 (Nat.le_refl _) (fun k e => by cases e); have hs6 := hb6.size)
    | (at_builtin; have own4' := own4; refine wpList_append_oneAt 22 33 6 72 _ Tryz.underlying22 infoSp rfl (by decide) (by decide) rfl _ _ rfl w3.heap.size _ yst.length (yst.flatMap encS) rfl (own4.alloc _) (by simp; omega) w4.heap.size (encS x) rfl rfl (six_new _ _ _ _ _ _ _ _ _ rfl) (encS_one1 x) (by omega) ?_; intro s5 w5 own5 hg5 hat5; obtain ⟨pS, cS, rfl, -⟩ := lw_form own5; have hb5 : Below w3.heap.size w3 w5 := (hb4.alloc (by omega) _).grown hg5 (by simp; omega) (fun k e => (own4.lt k e).1); have r3 := (hb5.cell (p := ⟨g, j * 5 + 3, none⟩) hgl3).trans b33)
    | (at_builtin; refine wpList_append_row 22 33 6 72 _ Tryz.underlying22 infoSp rfl (by decide) (by decide) rfl _ _ rfl w3.heap.size _ 0 [] rfl (World.ownsRow_nil _ _ _ _) (Nat.le_refl _) 0 _ yst.length (yst.flatMap encS) rfl dqa.1 (encS_one yst) (by omega) ?_; intro s4 w4 own4 hg4 hat4; rw [List.nil_append, Nat.zero_add] at own4; have hb4 : Below w3.heap.size w3 w4 := (below_self w3).grown hg4 (Nat.le_refl _) (fun k e => by cases e); have hs4 := hb4.size; have sb4 := sb3.but (F := fun _ => False) (.below hb4) id; have y0 := sb4.c0; have y1 := (hb4.cell (p := ⟨bs, 1, none⟩) sb3.lt).trans sw3; have y2 := sb4.c2; have y3 := sb4.c3; have y4 := sb4.c4; have y5 := sb4.c5))
  have hb59 : Below w5.heap.size w5 w9 := below_via hb7 hb9
  have sr4 := sr3.freeze V hball
  have hE := (But.below hball : But (fun _ => False) w3 w9)
  have hs9 := hb9.size
  have hs7 := hb7.size
  have hs5 := hb5.size
  have hDq : DqOk (Kn X3 w3 w9) w9 ⟨⟨yid, ynum, yst ++ [x], ytd ++ [t1], ypr ++ [l1]⟩, .slice pS (yst.length + 1) cS, .slice pT (ytd.length + 1) cT, .slice pP (ypr.length + 1) cP⟩ := by
    refine ⟨⟨?_, fun i hi => ?_⟩, ⟨?_, fun i hi => ?_⟩, ⟨vps ++ [.slice q3 l1.length m3], ⟨?_, fun i hi => ?_⟩, fun i l hl => ?_⟩, fun z hz => ?_, ?_⟩
    · have := own_zero (own_below own5 hb59)
      simpa using this
    · exact .inr ⟨(op_lt own5 hi).1, Nat.lt_of_lt_of_le (op_lt own5 hi).2 hb59.size⟩
    · have := own_zero (own_below own7 hb9)
      simpa using this
    · have := op_lt own7 hi
      exact .inr ⟨by omega, by omega⟩
    · have := own_zero own9
      simpa using this
    · have := op_lt own9 hi
      exact .inr ⟨by omega, this.2⟩
    · have hvl : vps.length = ypr.length := by have := dqc.1.1; omega
      rw [List.getElem?_append] at hl
      split at hl
      · rename_i hil
        obtain ⟨q, c, g1, g2, g3⟩ := dqc2 i l hl
        exact ⟨q, c, by rw [List.getElem?_append, if_pos (by omega)]; exact g1, g2, (g3.step hball).mono (fun _ _ g => .inl g)⟩
      · rename_i hil
        have h0 : i - ypr.length = 0 := by
          have := (List.getElem?_eq_some_iff.1 hl).1
          simp at this; omega
        rw [h0] at hl
        simp at hl
        subst hl
        exact ⟨q3, m3, by rw [List.getElem?_append, if_neg (by omega), hvl, h0]; rfl, hlc, (hpr.step hball).mono (fun _ _ g => .inl g)⟩
    · rcases List.mem_append.1 hz with g | g
      · exact dq3.s z g
      · rw [List.mem_singleton.1 g]; exact ⟨hzx, z2, z3⟩
    · show (yst ++ [x]).length ≤ 1000
      rw [List.length_append]; simp only [List.length_singleton]; omega
  have sr5 := sr4.put V (x := ⟨yid, ynum, yst ++ [x], ytd ++ [t1], ypr ++ [l1]⟩) hy rfl rfl hDq
  exact hQ (.inl rfl) (by rw [List.map_set]; exact sd2) hz2 sr5
end Go.Proofs.YtfnkaehpidaanaaGreatDoor

/- The walk of the law DeskSerial: one step of one that is open. -/
namespace Go.Proofs.YtfnkaehpidaanaaGreatDoor
open Go.RowKit Vs

set_option maxRecDepth 100000 in
set_option maxHeartbeats 8000000 in
theorem sr_step {T : Td} (V : DFace T) {K X : Nat → Prop} {k j g m1 m2 B bs : Nat} {d : Dk} {p2 : Option Addr} {e1 e2 : List Dq} {x : Stp} {y : Dq} {w wz : World} {Q : Exit → Act → World → Prop} {c0 c1 c2 c4 c5 c6 c7 c8 c9 c10 c11 c12 c13 c14 c15 c16 c17 c22 c23 c26 c27 c28 c29 c30 c31 c32 c33 c34 c35 c36 c37 c38 c39 c40 c41 c42 c43 c44 c45 c46 c47 c48 c49 c50 c51 c52 c53 c54 c55 c56 c57 c58 c59 c60 c61 c62 c63 c64 c65 c66 c67 c68 c69 c70 c71 c72 c73 c74 c75 c76 c77 c78 c79 c80 c81 c82 c83 c84 c85 c86 c87 c88 c89 c90 c91 c92 c93 c94 c95 c96 c97 c98 c99 c100 c101 c102 c103 c104 c105 c106 c107 c108 c109 c110 c111 c112 c113 c114 c115 c116 c117 c118 c119 c120 c121 c122 c123 c124 c125 c126 c127 c128 c129 c130 c131 c132 c133 c134 c135 c136 c137 c138 c139 c140 c141 c142 c143 c144 c145 c146 c147 c148 c149 c150 c151 c152 c153 c154 c155 c156 c157 c158 c159 c160 c161 c162 c163 c164 c165 c166 c167 c168 c169 c170 c171 c172 c173 c174 c175 c176 c177 c178 c179 c180 c181 c182 c183 c184 c185 c186 c187 c188 c189 c190 c191 c192 c193 c194 c195 c196 c197 c198 c199 c200 c201 c202 c203 c204 c205 c206 c207 c208 c209 c210 c211 c212 c213 c214 c215 c216 c217 c218 c219 c220 c221 c222 c223 c224 c225 c226 c227 c228 c229 c230 c231 c232 c233 c234 c235 c236 c237 c238 c239 c240 c241 c242 c243 c244 c245 c246 c247 c248 c249 c250 c251 c252 c253 c254 c255 c256 c257 c258 c259 c260 c261 c262 c263 c264 c265 c266 c267 c268 c269 c270 c271 c272 c273 c274 c275 c276 c277 c278 c279 c280 c281 c282 c283 c284 c285 c286 c287 c288 c289 c290 c291 c292 c293 c294 c295 c296 c297 c298 c299 c300 c301 c302 c303 c304 c305 c306 c307 c308 c309 c310 c311 c312 c313 c314 c315 c316 c317 c318 c319 c320 c321 c322 c323 c324 c325 c326 c327 c328 c329 c330 c331 c332 c333 c334 c335 c336 c337 c338 c339 c340 c341 c342 c343 c344 c345 c346 c347 c348 c349 c350 c351 c352 c353 c354 c355 c356 c357 c358 c359 c360 c361 c362 c363 c364 c365 c366 c367 c368 c369 c370 c371 c372 c373 c374 c375 c376 c377 c378 c379 c380 c381 c382 : Value}
    (hk : k < 60) (hj : j < e1.length) (hel : e1.length ≤ 8) (hel2 : e2.length ≤ 60) (h1c : e1.length ≤ m1) (h1m : m1 ≤ 9223372036854775807) (sd : Sd k d (e1.map (·.x)) (e2.map (·.x))) (hz : Spz d) (hy : e1[j]? = some y) (hzx : x.key.size ≤ 1048576) (z1 : x.key.size ≤ maxLen) (z2 : x.hi.size ≤ maxLen) (z3 : x.val.size ≤ maxLen) (sr1 : Sr T K X w wz B d (.slice (some ⟨g, 0, none⟩) e1.length m1) (.slice p2 e2.length m2) e1 e2) (sb : Sb wz bs x) (sw : wz.cell? ⟨bs, 1, none⟩ = some (.int .i64 x.who)) (hKs : K bs)
    (hQ : ∀ {ex : Exit} {d' : Dk} {v1' v2' : Value} {e1' e2' : List Dq} {K' X' : Nat → Prop} {w' : World} {d21 d22 d23 d24 d25 d26 d27 d28 d29 d30 d31 d32 d33 d34 d35 d122 d123 d124 d125 d126 d127 d128 d129 d130 d131 d132 d133 d134 d135 d136 d137 d138 d139 d140 d141 d142 d143 d144 d145 d146 d147 d148 d149 d150 d151 d152 d153 d154 d155 d156 d157 d158 d159 d160 d161 d162 d163 d164 d165 d166 d167 d168 d169 d170 d171 d172 d173 d174 d175 d176 d177 d178 d179 d180 d181 d182 d183 d184 d185 d186 d187 d188 d189 d190 d191 d192 d193 d194 d195 d196 d197 d198 d199 d200 d201 d202 d203 d204 d205 d206 d207 d208 d209 d210 d211 d212 d213 d214 d215 d216 d217 d218 d219 d220 d221 d222 d223 d224 d225 d226 d227 d228 d229 d230 d231 d232 d233 d234 d235 d236 d237 d238 d239 d240 d241 d242 d243 d244 d245 d246 d247 d248 d249 d250 d251 d252 d253 d254 d255 d256 d257 d258 d259 d260 d261 d262 d263 d264 d265 d266 d267 d268 d269 d270 d271 d272 d273 d274 d275 d276 : Value}, (ex = .normal ∨ ex = .exit 1) → Sd (k + 1) d' (e1'.map (·.x)) (e2'.map (·.x)) → Spz d' → Sr T K' X' w w' B d' v1' v2' e1' e2' → Q ex ⟨#[c0, c1, c2, .pointer (some ⟨B, 0, none⟩), c4, c5, c6, c7, c8, c9, c10, c11, c12, c13, c14, c15, c16, c17, v1', v2', .int .i64 (k : Int), d21, d22, d23, d24, d25, d26, d27, d28, d29, d30, d31, d32, d33, d34, d35, c36, c37, c38, c39, c40, c41, c42, c43, c44, c45, c46, c47, c48, c49, c50, c51, c52, c53, c54, c55, c56, c57, c58, c59, c60, c61, c62, c63, c64, c65, c66, c67, c68, c69, c70, c71, c72, c73, c74, c75, c76, c77, c78, c79, c80, c81, c82, c83, c84, c85, c86, c87, c88, c89, c90, c91, c92, c93, c94, c95, c96, c97, c98, c99, c100, c101, c102, c103, c104, c105, c106, c107, c108, c109, c110, c111, c112, c113, c114, c115, c116, c117, c118, c119, c120, c121, d122, d123, d124, d125, d126, d127, d128, d129, d130, d131, d132, d133, d134, d135, d136, d137, d138, d139, d140, d141, d142, d143, d144, d145, d146, d147, d148, d149, d150, d151, d152, d153, d154, d155, d156, d157, d158, d159, d160, d161, d162, d163, d164, d165, d166, d167, d168, d169, d170, d171, d172, d173, d174, d175, d176, d177, d178, d179, d180, d181, d182, d183, d184, d185, d186, d187, d188, d189, d190, d191, d192, d193, d194, d195, d196, d197, d198, d199, d200, d201, d202, d203, d204, d205, d206, d207, d208, d209, d210, d211, d212, d213, d214, d215, d216, d217, d218, d219, d220, d221, d222, d223, d224, d225, d226, d227, d228, d229, d230, d231, d232, d233, d234, d235, d236, d237, d238, d239, d240, d241, d242, d243, d244, d245, d246, d247, d248, d249, d250, d251, d252, d253, d254, d255, d256, d257, d258, d259, d260, d261, d262, d263, d264, d265, d266, d267, d268, d269, d270, d271, d272, d273, d274, d275, d276, c277, c278, c279, c280, c281, c282, c283, c284, c285, c286, c287, c288, c289, c290, c291, c292, c293, c294, c295, c296, c297, c298, c299, c300, c301, c302, c303, c304, c305, c306, c307, c308, c309, c310, c311, c312, c313, c314, c315, c316, c317, c318, c319, c320, c321, c322, c323, c324, c325, c326, c327, c328, c329, c330, c331, c332, c333, c334, c335, c336, c337, c338, c339, c340, c341, c342, c343, c344, c345, c346, c347, c348, c349, c350, c351, c352, c353, c354, c355, c356, c357, c358, c359, c360, c361, c362, c363, c364, c365, c366, c367, c368, c369, c370, c371, c372, c373, c374, c375, c376, c377, c378, c379, c380, c381, c382], []⟩ w') :
    Code.wp Tryz.prog (dropSeq 5 (srIn (Tryz.f4.body.getD .skip))) Q ⟨#[c0, c1, c2, .pointer (some ⟨B, 0, none⟩), c4, c5, c6, c7, c8, c9, c10, c11, c12, c13, c14, c15, c16, c17, .slice (some ⟨g, 0, none⟩) e1.length m1, .slice p2 e2.length m2, .int .i64 (k : Int), .pointer (some ⟨bs, 0, none⟩), c22, c23, .int .i64 (j : Int), .int .i64 y.x.id, c26, c27, c28, c29, c30, c31, c32, c33, c34, c35, c36, c37, c38, c39, c40, c41, c42, c43, c44, c45, c46, c47, c48, c49, c50, c51, c52, c53, c54, c55, c56, c57, c58, c59, c60, c61, c62, c63, c64, c65, c66, c67, c68, c69, c70, c71, c72, c73, c74, c75, c76, c77, c78, c79, c80, c81, c82, c83, c84, c85, c86, c87, c88, c89, c90, c91, c92, c93, c94, c95, c96, c97, c98, c99, c100, c101, c102, c103, c104, c105, c106, c107, c108, c109, c110, c111, c112, c113, c114, c115, c116, c117, c118, c119, c120, c121, c122, c123, c124, c125, c126, c127, c128, c129, c130, c131, c132, c133, c134, c135, c136, c137, c138, c139, c140, c141, c142, c143, c144, c145, c146, c147, c148, c149, c150, c151, c152, c153, c154, c155, c156, c157, c158, c159, c160, c161, c162, c163, c164, c165, c166, c167, c168, c169, c170, c171, c172, c173, c174, c175, c176, c177, c178, c179, c180, c181, c182, c183, c184, c185, c186, c187, c188, c189, c190, c191, c192, c193, c194, c195, c196, c197, c198, c199, c200, c201, c202, c203, c204, c205, c206, c207, c208, c209, c210, c211, c212, c213, c214, c215, c216, c217, c218, c219, c220, c221, c222, c223, c224, c225, c226, c227, c228, c229, c230, c231, c232, c233, c234, c235, c236, c237, c238, c239, c240, c241, c242, c243, c244, c245, c246, c247, c248, c249, c250, c251, c252, c253, c254, c255, c256, c257, c258, c259, c260, c261, c262, c263, c264, c265, c266, c267, c268, c269, c270, c271, c272, c273, c274, c275, c276, c277, c278, c279, c280, c281, c282, c283, c284, c285, c286, c287, c288, c289, c290, c291, c292, c293, c294, c295, c296, c297, c298, c299, c300, c301, c302, c303, c304, c305, c306, c307, c308, c309, c310, c311, c312, c313, c314, c315, c316, c317, c318, c319, c320, c321, c322, c323, c324, c325, c326, c327, c328, c329, c330, c331, c332, c333, c334, c335, c336, c337, c338, c339, c340, c341, c342, c343, c344, c345, c346, c347, c348, c349, c350, c351, c352, c353, c354, c355, c356, c357, c358, c359, c360, c361, c362, c363, c364, c365, c366, c367, c368, c369, c370, c371, c372, c373, c374, c375, c376, c377, c378, c379, c380, c381, c382], []⟩ wz := by
  conv => arg 2; whnf
  have hj' : (j : Int) < (e1.length : Int) := by omega
  obtain ⟨g', eg', hgl, hKg, b0, b1, b2, b3, b4⟩ := sr1.r1.at hy
  cases eg'
  have hym := List.mem_of_getElem? hy
  have hyx : (e1.map (·.x))[j]? = some y.x := by rw [List.getElem?_map, hy]; rfl
  obtain ⟨o, ho, hOp, hom, hopI⟩ := sd.at hyx
  have c0' := sb.c0
  by_cases w68 : 6 ≤ x.what ∧ x.what ≤ 8
  · obtain ⟨⟨yid, ynum, yst, ytd, ypr⟩, va, vb, vc⟩ := y
    have dq := sr1.r1.each _ hym
    have dqa : Fz X _ 33 6 va yst.length (yst.flatMap encS) := dq.a
    have dqb : Fz X _ 9 1 vb ytd.length (ytd.map Value.string) := dq.b
    obtain ⟨vps, dqc, dqc2⟩ : FzP X _ vc ypr := dq.c
    obtain ⟨pa, ca, rfl, ha1, ha2⟩ := dqa.form
    obtain ⟨pb, cb, rfl, hb1, hb2⟩ := dqb.form
    obtain ⟨pc, cc, rfl, hc1, hc2⟩ := dqc.form
    clear dqa dqb dqc dqc2
    simp only at b0 b1 b2 b3 b4 hopI
    have hbA := below_al (below_self wz) (.cells #[.int .i64 yid, .int .i64 ynum, .slice pa yst.length ca, .slice pb ytd.length cb, .slice pc ypr.length cc] 80)
    have hyb := Db.new wz 80 ⟨⟨yid, ynum, yst, ytd, ypr⟩, .slice pa yst.length ca, .slice pb ytd.length cb, .slice pc ypr.length cc⟩
    have hsr2 := sr1.kn V hbA
    have dqA := dq.but (E := fun _ => False) (X' := X) (.below hbA) (fun _ _ => id) (fun _ _ g => g)
    have fbA : (wz.alloc (.cells #[.int .i64 yid, .int .i64 ynum, .slice pa yst.length ca, .slice pb ytd.length cb, .slice pc ypr.length cc] 80)).frozen? ⟨wz.heap.size, 1, none⟩ = false := by simp
    have hKA : Kn K wz (wz.alloc (.cells #[.int .i64 yid, .int .i64 ynum, .slice pa yst.length ca, .slice pb ytd.length cb, .slice pc ypr.length cc] 80)) wz.heap.size := .inr ⟨Nat.le_refl _, by simp⟩
    have hXA : ¬ X wz.heap.size := fun hX => by have := (sr1.xk _ hX).2; omega
    have hvA : (Value.slice p2 e2.length m2).ownBlock ≠ some wz.heap.size := fun hv => by have := (op_lt sr1.r2.row hv).2; omega
    have hwA : w.heap.size ≤ wz.heap.size := sr1.od.bw.size
    have sbA := sb.step hbA
    have hx : x.what = 6 ∨ x.what = 7 ∨ x.what = 8 := by omega
    rcases hx with hx | hx | hx
    · have e6 : (x.what == 6) = true := by simp [hx]
      clear hx w68
      go_upto_region 30 with fail
      go_cut [26] from 177 to 180 (fun v26 wy => v26 = .pointer (some ⟨wz.heap.size, 0, none⟩) ∧ wy = wz.alloc (.cells #[.int .i64 yid, .int .i64 ynum, .slice pa yst.length ca, .slice pb ytd.length cb, .slice pc ypr.length cc] 80))
      case rest =>
        obtain ⟨rfl, rfl⟩ := hcut
        refine ‹∀ (a : Act) (w : World), Code.wp _ _ _ a w → _› _ _ ?_
        exact sr_take V hk hj hel hel2 h1c h1m sd hyx ho hopI hz (by simp; omega) hsr2 hyb dqA fbA hKA hXA hvA hwA sbA (fun s z r => hQ (.inr rfl) s z r)
      case first =>
        go_wp2
        go_meet
        case rel => exact ⟨rfl, rfl⟩
    · have e6 : (x.what == 6) = false := by simp [hx]
      have e7 : (x.what == 7) = true := by simp [hx]
      clear hx w68
      go_upto_region 30 with fail
      go_cut [26] from 177 to 180 (fun v26 wy => v26 = .pointer (some ⟨wz.heap.size, 0, none⟩) ∧ wy = wz.alloc (.cells #[.int .i64 yid, .int .i64 ynum, .slice pa yst.length ca, .slice pb ytd.length cb, .slice pc ypr.length cc] 80))
      case rest =>
        obtain ⟨rfl, rfl⟩ := hcut
        refine ‹∀ (a : Act) (w : World), Code.wp _ _ _ a w → _› _ _ ?_
        exact sr_take V hk hj hel hel2 h1c h1m sd hyx ho hopI hz (by simp; omega) hsr2 hyb dqA fbA hKA hXA hvA hwA sbA (fun s z r => hQ (.inr rfl) s z r)
      case first =>
        go_wp2
        go_meet
        case rel => exact ⟨rfl, rfl⟩
    · have e6 : (x.what == 6) = false := by simp [hx]
      have e7 : (x.what == 7) = false := by simp [hx]
      have e8 : (x.what == 8) = true := by simp [hx]
      clear hx w68
      go_upto_region 30 with fail
      go_cut [26] from 177 to 180 (fun v26 wy => v26 = .pointer (some ⟨wz.heap.size, 0, none⟩) ∧ wy = wz.alloc (.cells #[.int .i64 yid, .int .i64 ynum, .slice pa yst.length ca, .slice pb ytd.length cb, .slice pc ypr.length cc] 80))
      case rest =>
        obtain ⟨rfl, rfl⟩ := hcut
        refine ‹∀ (a : Act) (w : World), Code.wp _ _ _ a w → _› _ _ ?_
        exact sr_take V hk hj hel hel2 h1c h1m sd hyx ho hopI hz (by simp; omega) hsr2 hyb dqA fbA hKA hXA hvA hwA sbA (fun s z r => hQ (.inr rfl) s z r)
      case first =>
        go_wp2
        go_meet
        case rel => exact ⟨rfl, rfl⟩
  · have e6 : (x.what == 6) = false := beq_eq_false_iff_ne.2 (by omega)
    have e7 : (x.what == 7) = false := beq_eq_false_iff_ne.2 (by omega)
    have e8 : (x.what == 8) = false := beq_eq_false_iff_ne.2 (by omega)
    by_cases w15 : 1 ≤ x.what ∧ x.what ≤ 5
    · obtain ⟨w1, w5⟩ := w15
      have w1' : ¬ (x.what < 1) := by omega
      have w5' : ¬ (5 < x.what) := by omega
      have c1' := sw
      have c2' := sb.c2
      have c3' := sb.c3
      have c4' := sb.c4
      have c5' := sb.c5
      have hsmA : Sm (opSet d (nextO o x)) := by
        have h1 := wt_act sd.ok hom x
        have h2 := sd.wl
        have h3 := sd.ids
        exact ⟨by omega, by show d.ids ≤ 100000; omega⟩
      have PA := srAct V x sr1.od hopI ⟨w1, w5⟩ z1 z3 hsmA
      have sd2 := sd.act hyx ho (x := x) ⟨w1, w5⟩
      have hz2 := hz.act hom (x := x) hzx
      have hys : y.x.st.length ≤ k := sd.so _ (List.mem_of_getElem? hyx)
      generalize tellO d.vs o x = tl at PA sd2
      obtain ⟨t1, l1⟩ := tl
      simp only at PA sd2
      have hOp2 : y.x.td.length = y.x.st.length ∧ y.x.pr.length = y.x.st.length := ⟨hOp.rc.lt, hOp.rc.lp⟩
      clear hsmA hopI hOp w68
      go_upto_region 43 with fail
      go_cut [31, 32] from 222 to 228 (fun v31 v32 wy => ∃ (K3 X3 : Nat → Prop) (q3 : Option Addr) (m3 : Nat), v31 = .string t1 ∧ v32 = .slice q3 l1.length m3 ∧ Sr T K3 X3 w wy B (opSet d (nextO o x)) (.slice (some ⟨g, 0, none⟩) e1.length m1) (.slice p2 e2.length m2) e1 e2 ∧ l1.length ≤ m3 ∧ PrIn X3 wy q3 l1 ∧ Sb wy bs x ∧ wy.cell? ⟨bs, 1, none⟩ = some (.int .i64 x.who))
      case rest =>
        obtain ⟨K3, X3, q3, m3, rfl, rfl, sr3, hlc, hpr, sb3, sw3⟩ := hcut
        refine ‹∀ (a : Act) (w : World), Code.wp _ _ _ a w → _› _ _ ?_
        obtain ⟨⟨yid, ynum, yst, ytd, ypr⟩, va, vb, vc⟩ := y
        exact sr_told V hk hj hy hzx z2 z3 hOp2 hys sd2 hz2 sr3 hlc hpr sb3 sw3 hQ
      case first =>
        go_wp2_with fail
        refine PA.mono ?_
        clear PA
        rintro e w3 ⟨q3, m3, rfl, ac⟩
        obtain ⟨K3, X3, sr3, hlc, hpr, hXm, hXl, hKm, hb3⟩ := sr1.act ac
        have sb3 := sb.but hb3 (fun g => g hKs)
        have sw3 : w3.cell? ⟨bs, 1, none⟩ = some (.int .i64 x.who) := (hb3.cell (p := ⟨bs, 1, none⟩) sb.lt (fun g => g hKs)).trans sw
        go_wp2
        go_meet
        case rel => exact ⟨K3, X3, q3, m3, rfl, rfl, sr3, hlc, hpr, sb3, sw3⟩
    · by_cases w1 : x.what < 1
      · go_wp2
        exact hQ (.inr rfl) (sd.mono (by omega)) hz sr1
      · have w5 : 5 < x.what := by omega
        go_wp2
        exact hQ (.inr rfl) (sd.mono (by omega)) hz sr1
end Go.Proofs.YtfnkaehpidaanaaGreatDoor
