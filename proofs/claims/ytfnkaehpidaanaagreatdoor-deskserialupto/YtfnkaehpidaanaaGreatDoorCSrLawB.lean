/- The walk of the law DeskSerial, its end: each alone, one behind the other. -/
import Derived.Test.YtfnkaehpidaanaaGreatDoorCNR
import Derived.Test.YtfnkaehpidaanaaGreatDoorCNF
import Derived.Test.YtfnkaehpidaanaaGreatDoorCMM
import Derived.Deep.CutBlock
import Derived.BigQuiet
namespace Go.Proofs.YtfnkaehpidaanaaGreatDoor
open Go.RowKit Vs

theorem tell_len (vs : List Ver) (o : Ox) (x : Stp) : (tellO vs o x).2.length ≤ vs.length + o.own.length := by
  unfold tellO
  split
  · split
    · exact Nat.zero_le _
    · exact rngO_len _ _ _ _ _
  · split
    · split
      · split
        · exact Nat.zero_le _
        · split <;> exact Nat.zero_le _
      · exact Nat.zero_le _
    · split
      · split <;> exact Nat.zero_le _
      · exact Nat.zero_le _
theorem chF_all {k : Nat} {d : Dk} {op ov : List Dn} (h : Sd k d op ov) : ∀ l ∈ d.lg.ls, chF l = 0 := h.ok.lg.each
theorem wt_take {d a : Dk} {m : Nat} (h : a.lg.ls = d.lg.ls.take m) (ho : a.op = []) : wt a ≤ wt d := by
  have := wtL_take d.lg.ls m
  unfold wt
  rw [h, ho]
  simp [wtO]; omega
set_option maxRecDepth 100000 in
set_option maxHeartbeats 8000000 in
theorem sr_alone {T : Td} (V : DFace T) {K X : Nat → Prop} {k : Nat} {d : Dk} {B : Nat} {v1 v2 : Value} {e1 e2 : List Dq} {op ov : List Dn} {w wx : World} {c0 c1 c2 c4 c5 c6 c7 c8 c9 c10 c11 c12 c13 c14 c15 c16 c17 c18 c20 c21 c22 c23 c24 c25 c26 c27 c28 c29 c30 c31 c32 c33 c34 c35 c36 c37 c38 c39 c40 c41 c42 c43 c44 c45 c46 c47 c48 c49 c50 c51 c52 c53 c54 c55 c56 c57 c58 c59 c60 c61 c62 c63 c64 c65 c66 c67 c68 c69 c70 c71 c72 c73 c74 c75 c76 c77 c78 c79 c80 c81 c82 c83 c84 c85 c86 c87 c88 c89 c90 c91 c92 c93 c94 c95 c96 c97 c98 c99 c100 c101 c102 c103 c104 c105 c106 c107 c108 c109 c110 c111 c112 c113 c114 c115 c116 c117 c118 c119 c120 c121 c122 c123 c124 c125 c126 c127 c128 c129 c130 c131 c132 c133 c134 c135 c136 c137 c138 c139 c140 c141 c142 c143 c144 c145 c146 c147 c148 c149 c150 c151 c152 c153 c154 c155 c156 c157 c158 c159 c160 c161 c162 c163 c164 c165 c166 c167 c168 c169 c170 c171 c172 c173 c174 c175 c176 c177 c178 c179 c180 c181 c182 c183 c184 c185 c186 c187 c188 c189 c190 c191 c192 c193 c194 c195 c196 c197 c198 c199 c200 c201 c202 c203 c204 c205 c206 c207 c208 c209 c210 c211 c212 c213 c214 c215 c216 c217 c218 c219 c220 c221 c222 c223 c224 c225 c226 c227 c228 c229 c230 c231 c232 c233 c234 c235 c236 c237 c238 c239 c240 c241 c242 c243 c244 c245 c246 c247 c248 c249 c250 c251 c252 c253 c254 c255 c256 c257 c258 c259 c260 c261 c262 c263 c264 c265 c266 c267 c268 c269 c270 c271 c272 c273 c274 c275 c276 c277 c278 c279 c280 c281 c282 c283 c284 c285 c286 c287 c288 c289 c290 c291 c292 c293 c294 c295 c296 c297 c298 c299 c300 c301 c302 c303 c304 c305 c306 c307 c308 c309 c310 c311 c312 c313 c314 c315 c316 c317 c318 c319 c320 c321 c322 c323 c324 c325 c326 c327 c328 c329 c330 c331 c332 c333 c334 c335 c336 c337 c338 c339 c340 c341 c342 c343 c344 c345 c346 c347 c348 c349 c350 c351 c352 c353 c354 c355 c356 c357 c358 c359 c360 c361 c362 c363 c364 c365 c366 c367 c368 c369 c370 c371 c372 c373 c374 c375 c376 c377 c378 c379 c380 c381 c382 : Value}
    (sd : Sd k d op ov) (hk : k ≤ 60) (he : e2.map (·.x) = ov) (sr : Sr T K X w wx B d v1 v2 e1 e2) :
    Code.wp Tryz.prog (dropSeq 16 (Tryz.f4.body.getD .skip)) (bodyPost Tryz.prog Tryz.f4 fun e w' => e = .returned (.bool true) ∧ Below w.heap.size w w') ⟨#[c0, c1, c2, .pointer (some ⟨B, 0, none⟩), c4, c5, c6, c7, c8, c9, c10, c11, c12, c13, c14, c15, c16, c17, c18, v2, c20, c21, c22, c23, c24, c25, c26, c27, c28, c29, c30, c31, c32, c33, c34, c35, c36, c37, c38, c39, c40, c41, c42, c43, c44, c45, c46, c47, c48, c49, c50, c51, c52, c53, c54, c55, c56, c57, c58, c59, c60, c61, c62, c63, c64, c65, c66, c67, c68, c69, c70, c71, c72, c73, c74, c75, c76, c77, c78, c79, c80, c81, c82, c83, c84, c85, c86, c87, c88, c89, c90, c91, c92, c93, c94, c95, c96, c97, c98, c99, c100, c101, c102, c103, c104, c105, c106, c107, c108, c109, c110, c111, c112, c113, c114, c115, c116, c117, c118, c119, c120, c121, c122, c123, c124, c125, c126, c127, c128, c129, c130, c131, c132, c133, c134, c135, c136, c137, c138, c139, c140, c141, c142, c143, c144, c145, c146, c147, c148, c149, c150, c151, c152, c153, c154, c155, c156, c157, c158, c159, c160, c161, c162, c163, c164, c165, c166, c167, c168, c169, c170, c171, c172, c173, c174, c175, c176, c177, c178, c179, c180, c181, c182, c183, c184, c185, c186, c187, c188, c189, c190, c191, c192, c193, c194, c195, c196, c197, c198, c199, c200, c201, c202, c203, c204, c205, c206, c207, c208, c209, c210, c211, c212, c213, c214, c215, c216, c217, c218, c219, c220, c221, c222, c223, c224, c225, c226, c227, c228, c229, c230, c231, c232, c233, c234, c235, c236, c237, c238, c239, c240, c241, c242, c243, c244, c245, c246, c247, c248, c249, c250, c251, c252, c253, c254, c255, c256, c257, c258, c259, c260, c261, c262, c263, c264, c265, c266, c267, c268, c269, c270, c271, c272, c273, c274, c275, c276, c277, c278, c279, c280, c281, c282, c283, c284, c285, c286, c287, c288, c289, c290, c291, c292, c293, c294, c295, c296, c297, c298, c299, c300, c301, c302, c303, c304, c305, c306, c307, c308, c309, c310, c311, c312, c313, c314, c315, c316, c317, c318, c319, c320, c321, c322, c323, c324, c325, c326, c327, c328, c329, c330, c331, c332, c333, c334, c335, c336, c337, c338, c339, c340, c341, c342, c343, c344, c345, c346, c347, c348, c349, c350, c351, c352, c353, c354, c355, c356, c357, c358, c359, c360, c361, c362, c363, c364, c365, c366, c367, c368, c369, c370, c371, c372, c373, c374, c375, c376, c377, c378, c379, c380, c381, c382], []⟩ wx := by
  conv => arg 2; whnf
  have hsm := sdSm sd (by omega)
  have hLk := sd.ls
  have hlast := sd.ok.last
  have hlen : e2.length ≤ 60 := by have := sd.nv; rw [← he, List.length_map] at this; omega
  obtain ⟨p2, c2, rfl, h2c, h2m, -⟩ := lw_form sr.r2.row
  have P0 := V.newOk wx (room := 100000) (by decide) (by decide)
  go_wp2_with fail
  refine P0.mono ?_
  rintro e w1 ⟨Ba, rfl, hT, hb1⟩
  clear P0
  have s2 : S2 T (fun j => j < wx.heap.size) X w w1 Ba (dk0 100000) B d (.slice p2 e2.length c2) e2 := by
    have hs1 := hb1.size
    have hw := sr.od.bw.size
    obtain ⟨F, f1, f2⟩ := sr.od.ex
    refine ⟨⟨⟨_, hT, fun j hj => ⟨by omega, hj.2, by omega⟩⟩, OkD.new (by decide) (by decide), ⟨by decide, by decide⟩, below_via sr.od.bw hb1⟩, fun j hj => ⟨(sr.xk j hj).2, by have := (sr.xk j hj).2; omega⟩, ⟨F, V.step f1 hb1, fun j hj => ⟨(f2 j hj).2.1, by have := (f2 j hj).2.1; omega⟩⟩, ?_⟩
    exact sr.r2.but (E := fun _ => False) (.below hb1) (fun _ _ => id) (fun _ _ => id) (fun _ _ g => g) (fun _ _ g => g) (fun _ hj _ => hj)
  have al := Al.new d.lg.ls
  clear hT hb1 sr
  go_wp2_with fail
  go_loopw [37] (fun i wr => ∃ (n m : Nat) (a : Dk) (K2 : Nat → Prop), i = .int .i64 n ∧ n ≤ d.lg.ls.length + 1 ∧ Hid ((n = 0 ∧ m = 0) ∨ m + 1 = n) ∧ Al d.lg.ls m a ∧ a.ids ≤ 120 * n ∧ S2 T K2 X w wr Ba a B d (.slice p2 e2.length c2) e2) (fun i _ => d.lg.ls.length + 1 - (intOf i).toNat)
  case atStart => exact ⟨0, 0, _, _, rfl, by omega, .inl ⟨rfl, rfl⟩, al, by decide, s2⟩
  case round =>
    obtain ⟨n, m, a, K2, rfl, hn, hnm, alm, hids, s2n⟩ := hrel
    clear s2 al
    obtain ⟨F, f1, f2⟩ := s2n.dd
    have PT := V.top f1 sd.ok hsm
    by_cases hle : n ≤ d.lg.ls.length
    · have hle' : ((n : Int) ≤ d.last) := by rw [hlast]; omega
      have hh : Hid (d.last = d.lg.ls.length) := hlast
      have hat : Hid (At0 ov n 0 m) := by
        rcases hnm.out with ⟨g1, g2⟩ | g
        · rw [g1, g2]; exact At0.first sd
        · rw [← g]; exact At0.next
      clear hlast hnm
      go_wp2_with fail
      refine PT.mono ?_
      rintro e w2 ⟨rfl, hb2⟩
      have s3 := s2n.kn V hb2
      clear PT s2n f1 f2
      go_wp2_with fail
      go_loopw [38] (fun i wr => ∃ (t m : Nat) (a : Dk) (K2 : Nat → Prop), i = .int .i64 t ∧ t ≤ 2 ∧ Hid ((t = 0 ∧ At0 ov n 0 m) ∨ (1 ≤ t ∧ m = n)) ∧ Al d.lg.ls m a ∧ a.ids ≤ 120 * n + 60 * t ∧ S2 T K2 X w wr Ba a B d (.slice p2 e2.length c2) e2) (fun i _ => 2 - (intOf i).toNat)
      case atStart => exact ⟨0, m, _, _, rfl, by omega, .inl ⟨rfl, hat.out⟩, alm, by omega, s3⟩
      case round =>
        clear s3 alm hids hat
        obtain ⟨t, m, a, K2, rfl, ht, hst, alm, hids, s3⟩ := hrel
        by_cases hlt : t < 2
        · have hlt' : (t : Int) < 2 := by omega
          go_wp2_with fail
          go_loopw [39] (fun i wr => ∃ (r m : Nat) (a : Dk) (K2 : Nat → Prop), i = .int .i64 r ∧ r ≤ e2.length ∧ Hid ((t = 0 ∧ At0 ov n r m) ∨ (1 ≤ t ∧ m = n)) ∧ Al d.lg.ls m a ∧ a.ids ≤ 120 * n + 60 * t + r ∧ S2 T K2 X w wr Ba a B d (.slice p2 e2.length c2) e2) (fun i _ => e2.length - (intOf i).toNat)
          case atStart => exact ⟨0, m, _, _, rfl, by omega, hst, alm, by omega, s3⟩
          case round =>
            clear s3 alm hids hst
            obtain ⟨r, m, a, K2, rfl, hr, hst, alm, hids, s3⟩ := hrel
            by_cases hlr : r < e2.length
            · have hlr' : (r : Int) < (e2.length : Int) := by omega
              obtain ⟨e, hee⟩ : ∃ e, e2[r]? = some e := ⟨e2[r], List.getElem?_eq_getElem hlr⟩
              have hov : ov[r]? = some e.x := by rw [← he, List.getElem?_map, hee]; rfl
              obtain ⟨g, rfl, hgl, hKg, b0, b1, b2, b3, b4⟩ := s3.r2.at hee
              have dq := s3.r2.each e (List.mem_of_getElem? hee)
              obtain ⟨⟨xid, xnum, xst, xtd, xpr⟩, va, vb, vc⟩ := e
              simp only at hov b0 b1 b2 b3 b4
              have dqa : Fz X wr 33 6 va xst.length (xst.flatMap encS) := dq.a
              have dqb : Fz X wr 9 1 vb xtd.length (xtd.map Value.string) := dq.b
              obtain ⟨vps, dqc, dqc2⟩ : FzP X wr vc xpr := dq.c
              obtain ⟨pa, ca, rfl, ha1, ha2⟩ := dqa.form
              obtain ⟨pb, cb', rfl, hb1, hb2'⟩ := dqb.form
              obtain ⟨pc, cc, rfl, hc1, hc2⟩ := dqc.form
              clear dqa dqb dqc dqc2
              have hb4 := below_al (below_self wr) (.cells #[.int .i64 xid, .int .i64 xnum, .slice pa xst.length ca, .slice pb xtd.length cb', .slice pc xpr.length cc] 80)
              have s4 := s3.kn V hb4
              have db := Db.new wr 80 ⟨⟨xid, xnum, xst, xtd, xpr⟩, .slice pa xst.length ca, .slice pb xtd.length cb', .slice pc xpr.length cc⟩
              have dq4 := dq.but (E := fun _ => False) (X' := X) (.below hb4) (fun _ _ => id) (fun _ _ g => g)
              obtain ⟨so, bo, hOv⟩ := sd.ovr ⟨xid, xnum, xst, xtd, xpr⟩ (List.mem_of_getElem? hov)
              have hch : chT xst xtd = chD ⟨xid, xnum, xst, xtd, xpr⟩ := chT_is hOv.rc hOv.wh
              have PC := srChanges dq4 hOv.rc.lt
              simp only at PC
              rw [hch] at PC
              clear dq4 hch dq
              by_cases hnum : xnum = n
              · subst hnum
                obtain ⟨cb, hcb⟩ : ∃ cb, cb = chD ⟨xid, n, xst, xtd, xpr⟩ := ⟨_, rfl⟩
                rw [← hcb] at PC
                by_cases hcd : cb = decide (t = 0)
                · obtain ⟨⟨s', hOm⟩, m', hm', hst2⟩ : (∃ s', Ov d.lg.ls ⟨xid, n, xst, xtd, xpr⟩ s' m) ∧ ∃ m', m' = (if ownS xst = [] then m else m + 1) ∧ Hid ((t = 0 ∧ At0 ov n (r + 1) m') ∨ (1 ≤ t ∧ m' = n)) := by
                    rcases hst.out with ⟨g1, g2⟩ | ⟨g1, g2⟩
                    · obtain ⟨h1, h2, h3⟩ := At0.done sd g2 hov rfl (by rw [← hcb, hcd, decide_eq_true g1])
                      exact ⟨h1, m + 1, by rw [if_neg h2], .inl ⟨g1, h3⟩⟩
                    · obtain ⟨h1, h2⟩ := Sd.old sd hov rfl (by rw [← hcb, hcd, decide_eq_false (by omega)])
                      have h1' : ∃ s', Ov d.lg.ls ⟨xid, n, xst, xtd, xpr⟩ s' m := by rw [g2]; exact h1
                      exact ⟨h1', m, by rw [if_pos h2], .inr ⟨g1, g2⟩⟩
                  rw [hcd] at PC
                  have hbt : ((t : Int) == 0) = decide (t = 0) := by
                    by_cases c : t = 0
                    · subst c; rfl
                    · rw [decide_eq_false c]; exact beq_eq_false_iff_ne.2 (by omega)
                  generalize decide (t = 0) = bb at PC hbt
                  clear hst hcd hOv hcb
                  go_wp2_with (go_at_call 37; refine PC.mono ?_; clear PC; rintro e w5 ⟨rfl, hb5⟩)
                  have s5 := s4.kn V hb5
                  have db5 := db.but (F := fun _ => False) (.below hb5) id
                  have hKb : Kn (Kn K2 wr (wr.alloc (.cells #[.int .i64 xid, .int .i64 n, .slice pa xst.length ca, .slice pb xtd.length cb', .slice pc xpr.length cc] 80))) (wr.alloc (.cells #[.int .i64 xid, .int .i64 n, .slice pa xst.length ca, .slice pb xtd.length cb', .slice pc xpr.length cc] 80)) w5 wr.heap.size := .inl (.inr ⟨Nat.le_refl _, by simp⟩)
                  obtain ⟨Bx, hBx⟩ : ∃ Bx, Bx = wr.heap.size := ⟨_, rfl⟩
                  rw [← hBx] at db5 hKb ⊢
                  obtain ⟨K5, hK5⟩ : ∃ K5, K5 = Kn (Kn K2 wr (wr.alloc (.cells #[.int .i64 xid, .int .i64 n, .slice pa xst.length ca, .slice pb xtd.length cb', .slice pc xpr.length cc] 80))) (wr.alloc (.cells #[.int .i64 xid, .int .i64 n, .slice pa xst.length ca, .slice pb xtd.length cb', .slice pc xpr.length cc] 80)) w5 := ⟨_, rfl⟩
                  rw [← hK5] at s5 hKb
                  have hwa : wtL a.lg.ls ≤ 60 := by
                    have h1 := wt_take (d := d) alm.le alm.op
                    have h2 := sd.wl
                    unfold wt at h1 h2
                    omega
                  have haid : a.ids ≤ 100000 - 1 := by omega
                  have hsmA : ∀ o : Ox, OkD (aD a o) → Sm (aD a o) := fun o ho => by
                    have h1 := (chF_ok (ho.op o (by simp [aD])).own).1
                    exact ⟨by simp only [wt, aD, wtO, List.map_cons, List.map_nil, List.sum_cons, List.sum_nil]; omega, by show a.ids + 1 ≤ 100000; omega⟩
                  obtain ⟨f1, f2, f3⟩ := alm.bg
                  have PB := s5.od.begin_ V (by rw [f3]; exact hsmA _ alm.ok0)
                  rw [f1, f2, f3, ev_0] at PB
                  clear hK5 hBx s4 db s3 hb5 hb4 f1 f2 f3
                  go_wp2_with fail
                  refine PB.mono ?_
                  clear PB
                  rintro e w6 ⟨rfl, od6, hb6⟩
                  have s6 := s5.kw V od6 hb6
                  have db6 := db5.but hb6 (fun g => g hKb)
                  have hK6 : Kw K5 w5 Bx := ⟨hKb, db5.lt⟩
                  have hRec := Al.told (fun l hl => chF_all sd l hl) (by omega) alm hOm (a.ids + 1)
                  have hsz := (s6.r2.each _ (List.mem_of_getElem? hee)).s
                  have hstl := (s6.r2.each _ (List.mem_of_getElem? hee)).n
                  clear s5 db5 hKb hb6 od6
                  go_wp2_with fail
                  go_loopw [43] (fun i wr => ∃ (j : Nat) (K7 : Nat → Prop), i = .int .i64 j ∧ j ≤ xst.length ∧ S2 T K7 X w wr Ba (aD a (runO (ox0 (a.ids + 1) m) (xst.take j))) B d (.slice (some ⟨g, 0, none⟩) e2.length c2) e2 ∧ Db wr Bx ⟨⟨xid, n, xst, xtd, xpr⟩, .slice pa xst.length ca, .slice pb xtd.length cb', .slice pc xpr.length cc⟩ ∧ K7 Bx ∧ Spz (aD a (runO (ox0 (a.ids + 1) m) (xst.take j)))) (fun i _ => xst.length - (intOf i).toNat)
                  case atStart => exact ⟨0, _, rfl, by omega, s6, db6, hK6, fun o ho s hs => by rw [List.mem_singleton.1 ho] at hs; exact absurd hs (List.not_mem_nil)⟩
                  case round =>
                    clear s6 db6 hK6
                    obtain ⟨j, K7, rfl, hj, s7, db7, hK7, hz7⟩ := hrel
                    obtain ⟨k0, k1, k2, k3, k4⟩ := db7
                    have db7 : Db wr Bx ⟨⟨xid, n, xst, xtd, xpr⟩, .slice pa xst.length ca, .slice pb xtd.length cb', .slice pc xpr.length cc⟩ := ⟨k0, k1, k2, k3, k4⟩
                    simp only at k0 k1 k2 k3 k4
                    by_cases hlj : j < xst.length
                    · have hlj' : (j : Int) < (xst.length : Int) := by omega
                      obtain ⟨y, hy⟩ : ∃ y, xst[j]? = some y := ⟨xst[j], List.getElem?_eq_getElem hlj⟩
                      have dq7 := s7.r2.each _ (List.mem_of_getElem? hee)
                      have dqa : Fz X wr 33 6 (.slice pa xst.length ca) xst.length (xst.flatMap encS) := dq7.a
                      obtain ⟨ga, ca', ea, _, hga, hXa, hcl⟩ := dqa.at (by omega)
                      cases ea
                      have hl6 : (xst.flatMap encS).length = xst.length * 6 := flat_len (k := 6) (fun _ => rfl) xst
                      obtain ⟨y0, y1, y2, y3, y4, y5⟩ := encS_at xst j y hy
                      have z0 := (hcl _ (by omega)).trans y0
                      have z1 := (hcl _ (by omega)).trans y1
                      have z2 := (hcl _ (by omega)).trans y2
                      have z3 := (hcl _ (by omega)).trans y3
                      have z4 := (hcl _ (by omega)).trans y4
                      have z5 := (hcl _ (by omega)).trans y5
                      have hym := List.mem_of_getElem? hy
                      have hid : (runO (ox0 (a.ids + 1) m) (xst.take j)).id = a.ids + 1 := al_id _ _ _
                      have hid2 : (nextO (runO (ox0 (a.ids + 1) m) (xst.take j)) y).id = a.ids + 1 := by rw [(next_is _ _).1]; exact hid
                      have hop := aD_at hid
                      have hwy := hOm.wh y hym
                      have hok8 := OkD.act s7.od.ok hop hwy
                      have hst8 : opSet (aD a (runO (ox0 (a.ids + 1) m) (xst.take j))) (nextO (runO (ox0 (a.ids + 1) m) (xst.take j)) y) = aD a (runO (ox0 (a.ids + 1) m) (xst.take (j + 1))) := by
                        rw [aD_set hid hid2, run_step hy]
                      rw [hst8] at hok8
                      have hz8 : Spz (aD a (runO (ox0 (a.ids + 1) m) (xst.take (j + 1)))) := by rw [← hst8]; exact hz7.act (by simp [aD]) (hsz y hym).1
                      have PA := srAct V y s7.od hop hwy (by have := (hsz y hym).1; unfold maxLen; omega) (hsz y hym).2.2 (by rw [hst8]; exact hsmA _ hok8)
                      rw [hst8] at PA
                      obtain ⟨r1, r2⟩ := hRec.all j y hy
                      change xtd[j]? = some (tellO (aD a (runO (ox0 (a.ids + 1) m) (xst.take j))).vs (runO (ox0 (a.ids + 1) m) (xst.take j)) y).1 at r1
                      change xpr[j]? = some (tellO (aD a (runO (ox0 (a.ids + 1) m) (xst.take j))).vs (runO (ox0 (a.ids + 1) m) (xst.take j)) y).2 at r2
                      have hl1 : (tellO (aD a (runO (ox0 (a.ids + 1) m) (xst.take j))).vs (runO (ox0 (a.ids + 1) m) (xst.take j)) y).2.length ≤ 1000000 := by
                        have h1 := tell_len (aD a (runO (ox0 (a.ids + 1) m) (xst.take j))).vs (runO (ox0 (a.ids + 1) m) (xst.take j)) y
                        have h2 : a.vs.length ≤ wtL a.lg.ls := alm.ok.len
                        have h3 := (chF_ok (s7.od.ok.op (runO (ox0 (a.ids + 1) m) (xst.take j)) (by simp [aD])).own).1
                        change _ ≤ a.vs.length + _ at h1
                        omega
                      generalize tellO (aD a (runO (ox0 (a.ids + 1) m) (xst.take j))).vs (runO (ox0 (a.ids + 1) m) (xst.take j)) y = tl at PA r1 r2 hl1
                      obtain ⟨t1, l1⟩ := tl
                      simp only at PA r1 r2 hl1
                      have hlt1 : j < xtd.length := (List.getElem?_eq_some_iff.1 r1).1
                      have hlt2 : j < xpr.length := (List.getElem?_eq_some_iff.1 r2).1
                      have hlt1' : (j : Int) < (xtd.length : Int) := by omega
                      have hlt2' : (j : Int) < (xpr.length : Int) := by omega
                      have hr1 : Hid (xtd[j]? = some t1) := r1
                      have hr2 : Hid (xpr[j]? = some l1) := r2
                      have hyH : Hid (xst[j]? = some y) := hy
                      clear dqa hcl y0 y1 y2 y3 y4 y5 hop hok8 hst8 hid hid2 r1 r2 hy dq7 hz7
                      go_wp2_with fail
                      refine PA.mono ?_
                      clear PA
                      rintro e w8 ⟨q8, c8, rfl, ac⟩
                      obtain ⟨K8, s8, hp8, hc8, hK78, hb8⟩ := s7.act V ac
                      have db8 := db7.but hb8 (fun g => g hK7)
                      have hK8 := hK78 Bx db7.lt hK7
                      have dq8 := s8.r2.each _ (List.mem_of_getElem? hee)
                      obtain ⟨vps, dqc, dqc2⟩ : FzP X w8 (.slice pc xpr.length cc) xpr := dq8.c
                      obtain ⟨q9, c9, hq9, hc9, hp9⟩ := dqc2 j l1 hr2.out
                      obtain ⟨gc, cc', ec, _, hgc, hXc, hcc⟩ := dqc.at (by omega)
                      cases ec
                      have x0 : w8.cell? ⟨gc, j, none⟩ = some (.slice q9 l1.length c9) := (hcc _ (List.getElem?_eq_some_iff.1 hq9).1).trans hq9
                      have x4 : w8.cell? ⟨Bx, 4, none⟩ = some (.slice (some ⟨gc, 0, none⟩) xpr.length cc) := db8.c4
                      have PS := samePairs l1 l1 q8 q9 c8 c9 w8 hl1 hp8 hp9.at
                      rw [decide_eq_true rfl] at PS
                      clear s7 db7 hK7 k0 k1 k2 k3 k4 z0 z1 z2 z3 z4 z5 ac hb8 hcc hq9 dqc dqc2
                      go_wp2_with fail
                      refine PS.mono ?_
                      clear PS
                      rintro e w9 ⟨rfl, hb9⟩
                      have s9 := s8.kn V hb9
                      have db9 := db8.but (F := fun _ => False) (.below hb9) id
                      have dq9 := s9.r2.each _ (List.mem_of_getElem? hee)
                      have dqb : Fz X w9 9 1 (.slice pb xtd.length cb') xtd.length (xtd.map Value.string) := dq9.b
                      obtain ⟨gb, cb'', eb, _, hgb, hXb, hcb⟩ := dqb.at (by omega)
                      cases eb
                      have x1 : w9.cell? ⟨gb, j, none⟩ = some (.string t1) := (hcb _ (by simp; omega)).trans (by rw [List.getElem?_map, hr1.out]; rfl)
                      have x3 : w9.cell? ⟨Bx, 3, none⟩ = some (.slice (some ⟨gb, 0, none⟩) xtd.length cb') := db9.c3
                      have hself : (t1.toList == t1.toList) = true := by simp
                      have hKn : Kn K8 w8 w9 Bx := .inl hK8
                      clear s8 db8 hK8 hcb dqb x0 x4
                      go_wp2
                      exact ⟨⟨j + 1, _, by go_num, by omega, s9, db9, hKn, hz8⟩, by simp [intOf]; omega⟩
                    · have hjl : Hid (j = xst.length) := by show _ = _; omega
                      rw [hjl.out, List.take_of_length_le (Nat.le_refl _)] at s7 hz7
                      obtain ⟨f1, f2, f3, f4⟩ := Al.cm (by omega) alm hOm rfl s7.od.ok
                      simp only at f2
                      rw [← hm'] at f4
                      have hsmc : Sm (cmD (aD a (runO (ox0 (a.ids + 1) m) xst)) (a.ids + 1)) := by
                        refine ⟨?_, by rw [f3]; omega⟩
                        exact Nat.le_trans (wt_take (d := d) f4.le f4.op) (Nat.le_trans sd.wl (by omega))
                      have PM := s7.od.commit V (a.ids + 1) hz7 hsmc
                      rw [f1, f2, ev_0] at PM
                      clear f1 f2 hz7 hRec db7
                      go_wp2_with fail
                      refine PM.mono ?_
                      clear PM
                      rintro e w10 ⟨rfl, od10, hb10⟩
                      have s10 := s7.kw V od10 hb10
                      clear s7 od10 hb10 hK7
                      go_wp2
                      exact ⟨⟨r + 1, m', _, _, by go_num, by omega, hst2, f4, by rw [f3]; omega, s10⟩, by simp [intOf]; omega⟩
                · have hst2 : Hid ((t = 0 ∧ At0 ov n (r + 1) m) ∨ (1 ≤ t ∧ m = n)) := by
                    rcases hst.out with ⟨g1, g2⟩ | g
                    · exact .inl ⟨g1, g2.skip hov (fun q => hcd (by rw [hcb, q.2, decide_eq_true g1]))⟩
                    · exact .inr g
                  have hbt : ((t : Int) == 0) = !cb := by
                    by_cases c : t = 0
                    · subst c
                      cases h : cb
                      · rfl
                      · exact absurd (by rw [h]; rfl) hcd
                    · rw [decide_eq_false c] at hcd
                      cases h : cb
                      · exact absurd h hcd
                      · exact beq_eq_false_iff_ne.2 (by omega)
                  cases cb
                  · rw [Bool.not_false] at hbt
                    clear hst hcd hOv hcb
                    go_wp2_with (go_at_call 37; refine PC.mono ?_; clear PC; rintro e w5 ⟨rfl, hb5⟩)
                    exact ⟨⟨r + 1, m, a, _, by go_num, by omega, hst2, alm, by omega, s4.kn V hb5⟩, by simp [intOf]; omega⟩
                  · rw [Bool.not_true] at hbt
                    clear hst hcd hOv hcb
                    go_wp2_with (go_at_call 37; refine PC.mono ?_; clear PC; rintro e w5 ⟨rfl, hb5⟩)
                    exact ⟨⟨r + 1, m, a, _, by go_num, by omega, hst2, alm, by omega, s4.kn V hb5⟩, by simp [intOf]; omega⟩
              · have hst2 : Hid ((t = 0 ∧ At0 ov n (r + 1) m) ∨ (1 ≤ t ∧ m = n)) := by
                  rcases hst.out with ⟨g1, g2⟩ | g
                  · exact .inl ⟨g1, g2.skip hov (fun q => hnum q.1)⟩
                  · exact .inr g
                have hne : (xnum == (n : Int)) = false := beq_eq_false_iff_ne.2 hnum
                clear hst PC hOv
                go_wp2
                exact ⟨⟨r + 1, m, a, _, by go_num, by omega, hst2, alm, by omega, s4⟩, by simp [intOf]; omega⟩
            · have hst2 : Hid ((t + 1 = 0 ∧ At0 ov n 0 m) ∨ (1 ≤ t + 1 ∧ m = n)) := by
                refine .inr ⟨by omega, ?_⟩
                rcases hst.out with ⟨_, g⟩ | g
                · have er : r = ov.length := by rw [← he, List.length_map]; omega
                  rw [er] at g
                  exact At0.end sd hle g
                · exact g.2
              clear hst
              go_wp2
              exact ⟨⟨t + 1, m, a, K2, by go_num, by omega, hst2, alm, by omega, s3⟩, by simp [intOf]; omega⟩
        · have hmn : Hid ((n + 1 = 0 ∧ m = 0) ∨ m + 1 = n + 1) := by
            rcases hst.out with g | g
            · omega
            · exact .inr (by omega)
          clear hst
          go_wp2
          exact ⟨⟨n + 1, m, a, K2, by go_num, by omega, hmn, alm, by omega, s3⟩, by simp [intOf]; omega⟩
    · have hmL : m = d.lg.ls.length := by rcases hnm.out with g | g <;> omega
      subst hmL
      obtain ⟨q1, q2⟩ := Al.same sd alm
      have hq1 : Hid (allP a = allP d) := q1
      have hq2 : Hid (a.last = d.last) := q2
      have hgt : ¬ ((n : Int) ≤ d.last) := by rw [hlast]; omega
      have hal : (allP d).length ≤ 1000 := by
        have h1 := allAt_len d.vs d.last
        have h2 := sd.ok.len
        have h3 := sd.wl
        unfold wt at h3
        rw [allP_at]; omega
      have hh : Hid (d.last = d.lg.ls.length) := hlast
      clear q1 q2 hlast
      go_wp2_with fail
      refine PT.mono ?_
      rintro e w2 ⟨rfl, hb2⟩
      have s3 := s2n.kn V hb2
      have PA := s3.od.all V
      clear PT s2n f1 f2
      go_wp2_with fail
      refine PA.mono ?_
      clear PA
      rintro e w3 ⟨qa, ca, rfl, hca, hpa, od3, hb3⟩
      have s4 := s3.kn V hb3
      obtain ⟨F4, f41, f42⟩ := s4.dd
      have PB := V.all f41 sd.ok hsm
      clear s3 od3
      go_wp2_with fail
      refine PB.mono ?_
      clear PB
      rintro e w4 ⟨qd, cd, rfl, hcd, hpd, hb4⟩
      have s5 := s4.kn V hb4
      rw [hq1.out] at hpa
      have PS := samePairs (allP d) (allP d) qa qd ca cd w4 (by omega) (hpa.at.step hb4) hpd.at
      rw [decide_eq_true rfl] at PS
      rw [hq1.out]
      clear s4 f41 f42
      go_wp2_with fail
      refine PS.mono ?_
      clear PS
      rintro e w5 ⟨rfl, hb5⟩
      have s6 := s5.kn V hb5
      have PTa := s6.od.top V
      rw [hq2.out] at PTa
      clear s5
      go_wp2_with fail
      refine PTa.mono ?_
      clear PTa
      rintro e w6 ⟨rfl, od6, hb6⟩
      have s7 := s6.kn V hb6
      obtain ⟨F7, f71, f72⟩ := s7.dd
      have PTd := V.top f71 sd.ok hsm
      clear s6 od6
      go_wp2_with fail
      refine PTd.mono ?_
      clear PTd
      rintro e w7 ⟨rfl, hb7⟩
      have bw := below_via s7.od.bw hb7
      go_wp2
      go_ret
      exact ⟨rfl, bw⟩
end Go.Proofs.YtfnkaehpidaanaaGreatDoor
