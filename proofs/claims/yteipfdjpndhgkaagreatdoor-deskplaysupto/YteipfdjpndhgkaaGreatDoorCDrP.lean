/- The reference's desk: Commit. -/
import Derived.Test.YteipfdjpndhgkaaGreatDoorCPM
namespace Go.Proofs.YteipfdjpndhgkaaGreatDoor
open Go.RowKit Vs

theorem any_take {α : Type} (p : α → Bool) (l : List α) (n : Nat) (x : α) (h : l[n]? = some x) (h0 : (l.take n).any p = false) : (l.take (n + 1)).any p = p x := by
  rw [List.take_add_one, h, List.any_append, h0]
  simp
theorem any_at {α : Type} {p : α → Bool} {l : List α} {n : Nat} {x : α} (h : l[n]? = some x) (h0 : p x = true) : l.any p = true := List.any_eq_true.2 ⟨x, List.mem_of_getElem? h, h0⟩
/-- The one that was closed, in a block of its own. -/
structure Ob (w : World) (b : Nat) (x : Ox) (ks ss os : Value) : Prop where
  lt : b < w.heap.size
  c1 : w.cell? ⟨b, 1, none⟩ = some (.int .i64 x.sees)
  c3 : w.cell? ⟨b, 3, none⟩ = some ks
  c4 : w.cell? ⟨b, 4, none⟩ = some ss
  c5 : w.cell? ⟨b, 5, none⟩ = some os
theorem Ob.but {E : Nat → Prop} {w w' : World} {b : Nat} {x : Ox} {ks ss os : Value} (h : Ob w b x ks ss os) (hb : But E w w') (hE : ¬ E b) : Ob w' b x ks ss os :=
  ⟨Nat.lt_of_lt_of_le h.lt hb.size, (hb.cell (p := ⟨b, 1, none⟩) h.lt hE).trans h.c1, (hb.cell (p := ⟨b, 3, none⟩) h.lt hE).trans h.c3, (hb.cell (p := ⟨b, 4, none⟩) h.lt hE).trans h.c4, (hb.cell (p := ⟨b, 5, none⟩) h.lt hE).trans h.c5⟩
theorem Ob.step {w w' : World} {b : Nat} {x : Ox} {ks ss os : Value} (h : Ob w b x ks ss os) (hb : Below w.heap.size w w') : Ob w' b x ks ss os := h.but (E := fun _ => False) (.below hb) id
/-- Behind a commit that was kept. -/
theorem rd_commit {w w1 w2 W w4 w5 : World} {F : Nat → Prop} {c : Nat → Int} {B L Tb k : Nat} {v' : Value} {d : Dk} {es : List Oq} {y : Oq} {i : Int} (ok : OkD d) (hop : es.map (·.x) = d.op) (hcF : ∀ j, c j ≠ 0 → F j) (hi : y.x.id = i) (hk : es[k]? = some y) (hopi : opI d i = some y.x) (hcl : clash d.vs y.x = false) (hne : y.x.own ≠ []) (hap : apF d.lg y.x.own = 0)
    (b1 : Below w.heap.size w w1) (b2 : But (fun j => c j = -1 ∨ c j = -2) w1 w2) (b3 : Below w2.heap.size w2 W) (b4 : But (fun j => rq c (-2) w1 w2 j = -3) W w4) (b5 : But (fun j => j = B ∨ j = Tb) w4 w5) (hB : F B) (hT : F Tb)
    (R : RD w5 (rq (rq (rq c (-2) w1 w2) (-3) W w4) (-4) w4 w5) B L Tb v' (apG d.lg y.x.own) (shL d.vs y.x.own (d.last + 1) y.x.own.length) (shT d.top (d.last + 1) y.x.own.length) (d.last + 1) d.ids (es.eraseIdx k)) : RDk w5 (Nw F w w5) B (cmD d i) ∧ But F w w5 := by
  have s1 := b1.size
  have s2 := b2.size
  have s3 := b3.size
  have s4 := b4.size
  have s5 := b5.size
  have hl0 : y.x.own.length ≠ 0 := fun q => hne (List.eq_nil_of_length_eq_zero q)
  have e : cmD d i = addL (opDel d i) y.x.own := by rw [cmD, hopi]; simp only; rw [if_neg (by rw [hcl]; decide), if_neg hne, if_pos hap]
  rw [shL_all, shT, if_neg hl0] at R
  have F2 : ∀ j, rq c (-2) w1 w2 j ≠ 0 → Nw F w w2 j := rq_Fw (fun j hj => .inl (hcF j hj)) s1 s2
  have F3 : ∀ j, rq c (-2) w1 w2 j ≠ 0 → Nw F w W j := fun j hj => (F2 j hj).elim .inl (fun q => .inr ⟨q.1, by omega⟩)
  have F4 := rq_Fw (x := -3) F3 (by omega) s4
  have F5 := rq_Fw (x := -4) F4 (by omega) s5
  refine ⟨?_, ?_⟩
  · rw [e]
    exact ⟨_, L, Tb, v', _, R, by rw [rd_del ok hop hk, hi]; try rfl, F5⟩
  · have q1 : But F w w2 := (But.below b1 : But F w w1).then b2 (fun j _ q => hcF j (by omega))
    have q2 : But F w w4 := (q1.step b3).then b4 (fun j hj q => by
      have q' : rq c (-2) w1 w2 j = -3 := q
      rw [rq_old (by omega)] at q'
      exact hcF j (by rw [q']; decide))
    exact q2.then b5 (fun j _ q => q.elim (fun q => by rw [q]; exact hB) (fun q => by rw [q]; exact hT))
/-- Behind one that could not be kept. -/
theorem rd_commit_no {w w1 w2 W w4 : World} {F : Nat → Prop} {c : Nat → Int} {B L Tb k : Nat} {v' : Value} {d : Dk} {es : List Oq} {y : Oq} {i : Int} (ok : OkD d) (hop : es.map (·.x) = d.op) (hcF : ∀ j, c j ≠ 0 → F j) (hi : y.x.id = i) (hk : es[k]? = some y) (hopi : opI d i = some y.x) (hcl : clash d.vs y.x = false) (hne : y.x.own ≠ []) (hap : apF d.lg y.x.own ≠ 0)
    (b1 : Below w.heap.size w w1) (b2 : But (fun j => c j = -1 ∨ c j = -2) w1 w2) (b3 : Below w2.heap.size w2 W) (b4 : But (fun j => rq c (-2) w1 w2 j = -3) W w4)
    (R : RD w4 (rq (rq c (-2) w1 w2) (-3) W w4) B L Tb v' (apG d.lg y.x.own) d.vs d.top d.last d.ids (es.eraseIdx k)) : RDk w4 (Nw F w w4) B (cmD d i) ∧ But F w w4 := by
  have s1 := b1.size
  have s2 := b2.size
  have s3 := b3.size
  have s4 := b4.size
  have e : cmD d i = { opDel d i with lg := apG d.lg y.x.own } := by rw [cmD, hopi]; simp only; rw [if_neg (by rw [hcl]; decide), if_neg hne, if_neg hap]
  have F2 : ∀ j, rq c (-2) w1 w2 j ≠ 0 → Nw F w w2 j := rq_Fw (fun j hj => .inl (hcF j hj)) s1 s2
  have F3 : ∀ j, rq c (-2) w1 w2 j ≠ 0 → Nw F w W j := fun j hj => (F2 j hj).elim .inl (fun q => .inr ⟨q.1, by omega⟩)
  have F4 := rq_Fw (x := -3) F3 (by omega) s4
  refine ⟨?_, ?_⟩
  · rw [e]
    exact ⟨_, L, Tb, v', _, R, by rw [rd_del ok hop hk, hi]; try rfl, F4⟩
  · have q1 : But F w w2 := (But.below b1 : But F w w1).then b2 (fun j _ q => hcF j (by omega))
    exact (q1.step b3).then b4 (fun j hj q => by
      have q' : rq c (-2) w1 w2 j = -3 := q
      rw [rq_old (by omega)] at q'
      exact hcF j (by rw [q']; decide))
/-- Behind one that was closed, as long as nothing but what is new is done. -/
theorem rd_shut {w w1 w2 W : World} {F : Nat → Prop} {c : Nat → Int} {x : Int} {B L Tb k : Nat} {v : Value} {d : Dk} {es : List Oq} {y : Oq} (hcF : ∀ j, c j ≠ 0 → F j) (hb1 : Below w.heap.size w w1) (b2 : But (fun j => c j = -1 ∨ c j = -2) w1 w2) (ok : OkD d) (hop : es.map (·.x) = d.op) (hk : es[k]? = some y) (R : RD w2 (rq c x w1 w2) B L Tb v d.lg d.vs d.top d.last d.ids (es.eraseIdx k)) (bW : Below w2.heap.size w2 W) :
    ∀ wz, Below W.heap.size W wz → RDk wz (Nw F w wz) B (opDel d y.x.id) ∧ But F w wz := fun wz hz => by
  obtain ⟨h1, h2⟩ := rd_closed hcF hb1 b2 ok hop hk R
  have s1 := hb1.size
  have s2 := b2.size
  have s3 := (below_via bW hz).size
  exact ⟨(h1.step (below_via bW hz)).mono (fun j q => q.elim .inl (fun q => .inr ⟨q.1, by omega⟩)), h2.step (below_via bW hz)⟩
set_option maxRecDepth 100000 in
set_option maxHeartbeats 16000000 in
theorem drCommit {w : World} {F : Nat → Prop} {B : Nat} {d : Dk} (i : Int) (h : RDk w F B d) (ok : OkD d) (sm : Sm d) :
    Calls Tryz.prog 17 #[.pointer (some ⟨B, 0, none⟩), .int .i64 i] w fun e w' => e = .returned (.tuple #[.int .i64 (cmN d i), .int .i64 (cmF d i)]) ∧ RDk w' (Nw F w w') B (cmD d i) ∧ But F w w' := by
  obtain ⟨c, L, Tb, v, es, h, hop, hcF⟩ := h
  have hvl := sm.vs ok
  have hfew := ok.few
  have hlen : es.length = d.op.length := by rw [← hop, List.length_map]
  rcases drFind (i := i) h ok hop with ⟨hn, KA⟩ | ⟨k, ⟨x, ks, ss, os⟩, hk, hi, hopi, hid, KA⟩
  · rw [show cmN d i = 0 from by rw [cmN, hn], show cmF d i = 4 from by rw [cmF, hn], show cmD d i = d from by rw [cmD, hn]]
    go_enter Tryz.func17, Tryz.ntmps17
    go_wp2_with (go_at_call 40; refine KA.mono ?_; rintro e w1 ⟨rfl, hb1⟩)
    go_ret2
    exact ⟨rfl, ⟨c, L, Tb, v, es, h.step hb1, hop, fun j hj => .inl (hcF j hj)⟩, .below hb1⟩
  · replace hi : x.id = i := hi
    replace hopi : opI d i = some x := hopi
    have hk0 : ¬ (k : Int) < 0 := by omega
    have oko := ok.op x (opI_some hopi).1
    have hown := oko.own
    have hol := (chF_ok hown).1
    have hcw := (chF_ok hown).2
    have hkl : x.keys.length ≤ 1000 := by have := oko.asks; have := oko.a1; omega
    have hspl : x.spans.length ≤ 1000 := by have := oko.asks; have := oko.a1; omega
    have he := h.each _ (List.mem_of_getElem? hk)
    obtain ⟨pa, ca, ea, _, _, ha2⟩ := lw_form he.k
    obtain ⟨pb, cb, eb, _, _, hb2'⟩ := lw_form he.s
    obtain ⟨pc, cc, ec, hc1, hc2', _⟩ := he.o
    replace ea : ks = .slice pa x.keys.length ca := ea
    replace eb : ss = .slice pb x.spans.length cb := eb
    replace ec : os = .slice pc x.own.length cc := ec
    subst ea eb ec
    have KC := fun w1 (hb1 : Below w.heap.size w w1) => drClose (h.step hb1) hk (by omega)
    have hFB : F B := hcF B (by rw [h.cB]; decide)
    have hFT : F Tb := hcF Tb (by rw [show c Tb = -4 from h.tb.gB]; decide)
    have A6 : Hid (clash d.vs x = true → cmN d i = 0 ∧ cmF d i = 6 ∧ cmD d i = opDel d x.id) := fun q => by rw [cmN, cmF, cmD, hopi, hi]; simp only; rw [if_pos q, if_pos q, if_pos q]; exact ⟨rfl, rfl, rfl⟩
    have A0 : Hid (clash d.vs x = false → x.own = [] → cmN d i = x.sees ∧ cmF d i = 0 ∧ cmD d i = opDel d x.id) := fun q q2 => by
      have q' : ¬ clash d.vs x = true := by rw [q]; decide
      rw [cmN, cmF, cmD, hopi, hi]; simp only; rw [if_neg q', if_neg q', if_neg q', if_pos q2, if_pos q2, if_pos q2]; exact ⟨rfl, rfl, rfl⟩
    have AP : Hid (clash d.vs x = false → x.own ≠ [] → cmN d i = (if apF d.lg x.own = 0 then d.last + 1 else 0) ∧ cmF d i = apF d.lg x.own) := fun q q2 => by
      have q' : ¬ clash d.vs x = true := by rw [q]; decide
      rw [cmN, cmF, hopi]; simp only; rw [if_neg q', if_neg q', if_neg q2, if_neg q2]; exact ⟨rfl, rfl⟩
    have hlast : d.last < 1000000 := by have := ok.last; have := ok.lg.few.1; omega
    have hlast0 : 0 ≤ d.last := by have := ok.last; omega
    have YES := fun (w1 w2 W w4 w5 : World) (v' : Value) (hcl : clash d.vs x = false) (hne : x.own ≠ []) (hap : apF d.lg x.own = 0) => rd_commit (w := w) (w1 := w1) (w2 := w2) (W := W) (w4 := w4) (w5 := w5) (F := F) (L := L) (Tb := Tb) (B := B) (v' := v') ok hop hcF hi hk hopi hcl hne hap
    have NO := fun (w1 w2 W w4 : World) (v' : Value) (hcl : clash d.vs x = false) (hne : x.own ≠ []) (hap : apF d.lg x.own ≠ 0) => rd_commit_no (w := w) (w1 := w1) (w2 := w2) (W := W) (w4 := w4) (F := F) (L := L) (Tb := Tb) (B := B) (v' := v') ok hop hcF hi hk hopi hcl hne hap
    have HY : Hid _ := YES
    have HN : Hid _ := NO
    have SH := fun (w1 w2 W : World) (v' : Value) (hb1 : Below w.heap.size w w1) (b2 : But (fun j => c j = -1 ∨ c j = -2) w1 w2) (R : RD w2 (rq c (-2) w1 w2) B L Tb v' d.lg d.vs d.top d.last d.ids (es.eraseIdx k)) (bW : Below w2.heap.size w2 W) => rd_shut hcF hb1 b2 ok hop hk R bW
    have HS : Hid _ := SH
    have HI : Hid _ := hi
    clear YES NO SH hlen hi
    generalize cmN d i = CN at A6 A0 AP ⊢
    generalize cmF d i = CF at A6 A0 AP ⊢
    go_enter Tryz.func17, Tryz.ntmps17
    go_wp2_with (first
      | (go_at_call 40; refine KA.mono ?_; rintro e w1 ⟨rfl, hb1⟩)
      | (go_at_call 54; refine (KC _ hb1).mono ?_; rintro e w2 ⟨rfl, ⟨v', R2⟩, oq, b2⟩))
    obtain ⟨W, hW⟩ : ∃ W, W = w2.alloc (.cells #[.int .i64 x.id, .int .i64 x.sees, .int .i64 x.asked, .slice pa x.keys.length ca, .slice pb x.spans.length cb, .slice pc x.own.length cc] 90) := ⟨_, rfl⟩
    rw [← hW]
    have bW : Below w2.heap.size w2 W := by rw [hW]; exact below_al (below_self w2) _
    have ob : Ob W w2.heap.size x (.slice pa x.keys.length ca) (.slice pb x.spans.length cb) (.slice pc x.own.length cc) := by rw [hW]; exact ⟨by simp, by simp, by simp, by simp, by simp⟩
    have FIN : Hid _ := HS.out w1 w2 W v' hb1 b2 R2 bW
    have RW := R2.step bW
    have oW := oq.but (E := fun _ => False) (.below bW) (fun _ _ _ => id) (fun _ _ => rfl)
    obtain ⟨bo, hbo⟩ : ∃ bo, bo = w2.heap.size := ⟨_, rfl⟩
    rw [← hbo] at ob
    rw [← hbo]
    have Y2 := fun Wz (hz : Below W.heap.size W Wz) w4 w5 q1 q2 q3 => HY.out w1 w2 Wz w4 w5 v' q1 q2 q3 hb1 b2 (below_via bW hz)
    have N2 := fun Wz (hz : Below W.heap.size W Wz) w4 q1 q2 q3 => HN.out w1 w2 Wz w4 v' q1 q2 q3 hb1 b2 (below_via bW hz)
    have R2lt := R2.lt
    rw [← hbo] at R2lt
    generalize rq c (-2) w1 w2 = c2 at RW oW Y2 N2 R2lt
    have Y3 : Hid _ := Y2
    have N3 : Hid _ := N2
    have kc : ∀ (n : Nat) (key : ByteArray), x.keys[n]? = some key → ∃ b, pa = some ⟨b, 0, none⟩ ∧ b < W.heap.size ∧ W.cell? ⟨b, n, none⟩ = some (.string key) := fun n key hn => by
      have hl := (List.getElem?_eq_some_iff.1 hn).1
      obtain ⟨b, rfl⟩ := ha2 (show 0 < x.keys.length by omega)
      have row := oW.k
      exact ⟨b, rfl, (rd_lt row rfl).2, (row.cellAt _ (show n < x.keys.length * 1 by omega)).trans (by simp [hn])⟩
    have sc : ∀ (n : Nat) (s : Pr), x.spans[n]? = some s → ∃ b, pb = some ⟨b, 0, none⟩ ∧ b < W.heap.size ∧ W.cell? ⟨b, n * 2, none⟩ = some (.string s.1) ∧ W.cell? ⟨b, n * 2 + 1, none⟩ = some (.string s.2) := fun n s hn => by
      have hl := (List.getElem?_eq_some_iff.1 hn).1
      obtain ⟨b, rfl⟩ := hb2' (show 0 < x.spans.length by omega)
      have row := oW.s
      obtain ⟨q1, q2⟩ := prV_at x.spans n s hn
      exact ⟨b, rfl, (rd_lt row rfl).2, (row.cellAt _ (show n * 2 < x.spans.length * 2 by omega)).trans q1, (row.cellAt _ (show n * 2 + 1 < x.spans.length * 2 by omega)).trans q2⟩
    obtain ⟨pc', cc', ec', _, _, hch⟩ := oW.o
    replace ec' : Value.slice pc x.own.length cc = .slice pc' x.own.length cc' := ec'
    cases ec'
    have hks : ∀ key ∈ x.keys, key.size < 9223372036854775807 := fun key hk' => by have := (oko.keys key hk').2; omega
    have hos : ∀ z ∈ x.own, z.k.size < 9223372036854775807 := fun z hz => by have := (chW_ok (hcw z hz)).2.1; omega
    clear hW HS HY HN KC KA Y2 N2 R2 oq b2 oW hb1 bW h he hop hk hid hopi hbo
    go_loopw [8] (fun a wr => ∃ (n : Nat), n ≤ x.keys.length ∧ a = .int .i64 n ∧ Hid ((x.keys.take n).any (fun k => snc d.vs k x.sees) = false) ∧ Below W.heap.size W wr) (fun a _ => x.keys.length - (intOf a).toNat)
    case atStart => exact ⟨0, by omega, rfl, (by show _ = _; rfl), below_self _⟩
    case round =>
      obtain ⟨n, hn, rfl, hM, hb⟩ := hrel
      have obr := ob.step hb
      have o1 := obr.c1
      have o3 := obr.c3
      by_cases hlt : n < x.keys.length
      · have hlt' : (n : Int) < (x.keys.length : Int) := by omega
        obtain ⟨key, hkey⟩ := Vs.getsome hlt
        obtain ⟨bk, rfl, hbk, kcell⟩ := kc n key hkey
        have kcr := (hb.cell (p := ⟨bk, n, none⟩) hbk).trans kcell
        have hbkr : bk < wr.heap.size := by have := hb.size; omega
        clear kcell
        have K := drSince (RW.step hb.drew) (by omega) key x.sees (hks key (List.mem_of_getElem? hkey))
        cases hs : snc d.vs key x.sees
        · have nx : Hid _ := (any_take (fun k => snc d.vs k x.sees) x.keys n key hkey hM.out).trans hs
          rw [hs] at K
          clear hM A6 A0 AP FIN Y3 N3 hkey
          go_wp2_with fail
          go_region_held3 (fun wy => wy.cell? ⟨bo, 3, none⟩ = some (.slice (some ⟨bk, 0, none⟩) x.keys.length ca) ∧ wy.cell? ⟨bo, 1, none⟩ = some (.int .i64 x.sees) ∧ wy.cell? ⟨bk, n, none⟩ = some (.string key))
            (first | exact ⟨o3, o1, kcr⟩ | exact ⟨s3, s1, s2⟩)
            (first | (go_at_call 55; refine K.mono ?_; rintro e w5 ⟨rfl, hb5⟩; have s3 := (hb5.cell (p := ⟨bo, 3, none⟩) obr.lt).trans o3; have s1 := (hb5.cell (p := ⟨bo, 1, none⟩) obr.lt).trans o1; have s2 := (hb5.cell (p := ⟨bk, n, none⟩) hbkr).trans kcr))
          clear s1 s2 s3
          go_wp2_with fail
          exact ⟨⟨n + 1, by omega, by go_num, nx, below_via hb.drew hb5⟩, by simp [intOf]; omega⟩
        · obtain ⟨e1, e2, e3⟩ := A6.out (by unfold clash; rw [any_at (p := fun k => snc d.vs k x.sees) hkey hs, Bool.true_or, Bool.true_or])
          have E1 : Hid _ := e1
          have E2 : Hid _ := e2
          have E3 : Hid _ := e3
          rw [hs] at K
          clear hM A6 A0 AP Y3 N3 hkey e1 e2 e3
          go_wp2_with fail
          go_region_held3 (fun wy => wy.cell? ⟨bo, 3, none⟩ = some (.slice (some ⟨bk, 0, none⟩) x.keys.length ca) ∧ wy.cell? ⟨bo, 1, none⟩ = some (.int .i64 x.sees) ∧ wy.cell? ⟨bk, n, none⟩ = some (.string key))
            (first | exact ⟨o3, o1, kcr⟩ | exact ⟨s3, s1, s2⟩)
            (first | (go_at_call 55; refine K.mono ?_; rintro e w5 ⟨rfl, hb5⟩; have s3 := (hb5.cell (p := ⟨bo, 3, none⟩) obr.lt).trans o3; have s1 := (hb5.cell (p := ⟨bo, 1, none⟩) obr.lt).trans o1; have s2 := (hb5.cell (p := ⟨bk, n, none⟩) hbkr).trans kcr))
          clear s1 s2 s3
          go_wp2_with fail
          go_ret2
          exact ⟨by rw [E1.out, E2.out]; rfl, by rw [E3.out]; exact FIN.out _ (below_via hb.drew hb5)⟩
      · have hlt' : ¬ (n : Int) < (x.keys.length : Int) := by omega
        have hno8 : Hid (x.keys.any (fun k => snc d.vs k x.sees) = false) := by
          have := hM.out
          rw [List.take_of_length_le (by omega)] at this
          exact this
        clear hM hlt hn
        obtain ⟨wx8, hx8⟩ : ∃ q, q = wr := ⟨_, rfl⟩
        subst hx8
        have hbx8 := hb
        clear hb
        go_wp2_with fail
        clear o1 o3 obr
        go_loopw [10] (fun a wr => ∃ (n : Nat), n ≤ x.own.length ∧ a = .int .i64 n ∧ Hid ((x.own.take n).any (fun c => snc d.vs c.k x.sees) = false) ∧ Below W.heap.size W wr) (fun a _ => x.own.length - (intOf a).toNat)
        case atStart => exact ⟨0, by omega, rfl, (by show _ = _; rfl), hbx8⟩
        case round =>
          obtain ⟨n, hn, rfl, hM, hb⟩ := hrel
          have obr := ob.step hb
          have o1 := obr.c1
          have o3 := obr.c5
          by_cases hlt : n < x.own.length
          · have hlt' : (n : Int) < (x.own.length : Int) := by omega
            obtain ⟨key, hkey⟩ := Vs.getsome hlt
            obtain ⟨bk, off, rfl, hbk, _, kcs⟩ := hch (by omega)
            have kcell := (kcs n key hkey).1
            have kcr := (hb.cell (p := ⟨bk, off + n * 3, none⟩) hbk).trans kcell
            have hbkr : bk < wr.heap.size := by have := hb.size; omega
            clear kcell kcs
            have K := drSince (RW.step hb.drew) (by omega) key.k x.sees (hos key (List.mem_of_getElem? hkey))
            cases hs : snc d.vs key.k x.sees
            · have nx : Hid _ := (any_take (fun c => snc d.vs c.k x.sees) x.own n key hkey hM.out).trans hs
              rw [hs] at K
              clear hM A6 A0 AP FIN Y3 N3 hkey
              go_wp2_with fail
              go_region_held3 (fun wy => wy.cell? ⟨bo, 5, none⟩ = some (.slice (some ⟨bk, off, none⟩) x.own.length cc) ∧ wy.cell? ⟨bo, 1, none⟩ = some (.int .i64 x.sees) ∧ wy.cell? ⟨bk, off + n * 3, none⟩ = some (.string key.k))
                (first | exact ⟨o3, o1, kcr⟩ | exact ⟨s3, s1, s2⟩)
                (first | (go_at_call 55; refine K.mono ?_; rintro e w5 ⟨rfl, hb5⟩; have s3 := (hb5.cell (p := ⟨bo, 5, none⟩) obr.lt).trans o3; have s1 := (hb5.cell (p := ⟨bo, 1, none⟩) obr.lt).trans o1; have s2 := (hb5.cell (p := ⟨bk, off + n * 3, none⟩) hbkr).trans kcr))
              clear s1 s2 s3
              go_wp2_with fail
              exact ⟨⟨n + 1, by omega, by go_num, nx, below_via hb.drew hb5⟩, by simp [intOf]; omega⟩
            · obtain ⟨e1, e2, e3⟩ := A6.out (by unfold clash; rw [any_at (p := fun c : Chg => snc d.vs c.k x.sees) hkey hs, Bool.or_true, Bool.true_or])
              have E1 : Hid _ := e1
              have E2 : Hid _ := e2
              have E3 : Hid _ := e3
              rw [hs] at K
              clear hM A6 A0 AP Y3 N3 hkey e1 e2 e3
              go_wp2_with fail
              go_region_held3 (fun wy => wy.cell? ⟨bo, 5, none⟩ = some (.slice (some ⟨bk, off, none⟩) x.own.length cc) ∧ wy.cell? ⟨bo, 1, none⟩ = some (.int .i64 x.sees) ∧ wy.cell? ⟨bk, off + n * 3, none⟩ = some (.string key.k))
                (first | exact ⟨o3, o1, kcr⟩ | exact ⟨s3, s1, s2⟩)
                (first | (go_at_call 55; refine K.mono ?_; rintro e w5 ⟨rfl, hb5⟩; have s3 := (hb5.cell (p := ⟨bo, 5, none⟩) obr.lt).trans o3; have s1 := (hb5.cell (p := ⟨bo, 1, none⟩) obr.lt).trans o1; have s2 := (hb5.cell (p := ⟨bk, off + n * 3, none⟩) hbkr).trans kcr))
              clear s1 s2 s3
              go_wp2_with fail
              go_ret2
              exact ⟨by rw [E1.out, E2.out]; rfl, by rw [E3.out]; exact FIN.out _ (below_via hb.drew hb5)⟩
          · have hlt' : ¬ (n : Int) < (x.own.length : Int) := by omega
            have hno10 : Hid (x.own.any (fun c => snc d.vs c.k x.sees) = false) := by
              have := hM.out
              rw [List.take_of_length_le (by omega)] at this
              exact this
            clear hM hlt hn
            obtain ⟨wx10, hx10⟩ : ∃ q, q = wr := ⟨_, rfl⟩
            subst hx10
            have hbx10 := hb
            clear hb
            go_wp2_with fail
            clear o1 o3 obr
            go_loopw [12] (fun a wr => ∃ (n : Nat), n ≤ x.spans.length ∧ a = .int .i64 n ∧ Hid ((x.spans.take n).any (fun s => vtch d.vs s.1 s.2 x.sees) = false) ∧ Below W.heap.size W wr) (fun a _ => x.spans.length - (intOf a).toNat)
            case atStart => exact ⟨0, by omega, rfl, (by show _ = _; rfl), hbx10⟩
            case round =>
              obtain ⟨n, hn, rfl, hM, hb⟩ := hrel
              have obr := ob.step hb
              have o1 := obr.c1
              have o3 := obr.c4
              by_cases hlt : n < x.spans.length
              · have hlt' : (n : Int) < (x.spans.length : Int) := by omega
                obtain ⟨key, hkey⟩ := Vs.getsome hlt
                obtain ⟨bk, rfl, hbk, kcell, kcell2⟩ := sc n key hkey
                have kcr := (hb.cell (p := ⟨bk, n * 2, none⟩) hbk).trans kcell
                have kcr2 := (hb.cell (p := ⟨bk, n * 2 + 1, none⟩) hbk).trans kcell2
                have hbkr : bk < wr.heap.size := by have := hb.size; omega
                clear kcell kcell2
                have RWr := RW.step hb
                have k1 := RWr.c1
                have hBr := RWr.ltB
                clear RWr
                have K := refTouched key.1 key.2 x.sees _ (RW.step hb.drew).tb (by omega)
                cases hs : vtch d.vs key.1 key.2 x.sees
                · have nx : Hid _ := (any_take (fun s => vtch d.vs s.1 s.2 x.sees) x.spans n key hkey hM.out).trans hs
                  rw [hs] at K
                  clear hM A6 A0 AP FIN Y3 N3 hkey
                  go_wp2_with fail
                  go_region_held3 (fun wy => wy.cell? ⟨bo, 4, none⟩ = some (.slice (some ⟨bk, 0, none⟩) x.spans.length cb) ∧ wy.cell? ⟨bo, 1, none⟩ = some (.int .i64 x.sees) ∧ wy.cell? ⟨bk, n * 2, none⟩ = some (.string key.1) ∧ wy.cell? ⟨bk, n * 2 + 1, none⟩ = some (.string key.2) ∧ wy.cell? ⟨B, 1, none⟩ = some (.pointer (some ⟨Tb, 0, none⟩)))
                    (first | exact ⟨o3, o1, kcr, kcr2, k1⟩ | exact ⟨s3, s1, s2, s4, s5⟩)
                    (first | (go_at_call 56; refine K.mono ?_; rintro e w5 ⟨rfl, hb5⟩; have s3 := (hb5.cell (p := ⟨bo, 4, none⟩) obr.lt).trans o3; have s1 := (hb5.cell (p := ⟨bo, 1, none⟩) obr.lt).trans o1; have s2 := (hb5.cell (p := ⟨bk, n * 2, none⟩) hbkr).trans kcr; have s4 := (hb5.cell (p := ⟨bk, n * 2 + 1, none⟩) hbkr).trans kcr2; have s5 := (hb5.cell (p := ⟨B, 1, none⟩) hBr).trans k1))
                  clear s1 s2 s3
                  go_wp2_with fail
                  exact ⟨⟨n + 1, by omega, by go_num, nx, below_via hb.drew hb5⟩, by simp [intOf]; omega⟩
                · obtain ⟨e1, e2, e3⟩ := A6.out (by unfold clash; rw [any_at (p := fun s : Pr => vtch d.vs s.1 s.2 x.sees) hkey hs, Bool.or_true])
                  have E1 : Hid _ := e1
                  have E2 : Hid _ := e2
                  have E3 : Hid _ := e3
                  rw [hs] at K
                  clear hM A6 A0 AP Y3 N3 hkey e1 e2 e3
                  go_wp2_with fail
                  go_region_held3 (fun wy => wy.cell? ⟨bo, 4, none⟩ = some (.slice (some ⟨bk, 0, none⟩) x.spans.length cb) ∧ wy.cell? ⟨bo, 1, none⟩ = some (.int .i64 x.sees) ∧ wy.cell? ⟨bk, n * 2, none⟩ = some (.string key.1) ∧ wy.cell? ⟨bk, n * 2 + 1, none⟩ = some (.string key.2) ∧ wy.cell? ⟨B, 1, none⟩ = some (.pointer (some ⟨Tb, 0, none⟩)))
                    (first | exact ⟨o3, o1, kcr, kcr2, k1⟩ | exact ⟨s3, s1, s2, s4, s5⟩)
                    (first | (go_at_call 56; refine K.mono ?_; rintro e w5 ⟨rfl, hb5⟩; have s3 := (hb5.cell (p := ⟨bo, 4, none⟩) obr.lt).trans o3; have s1 := (hb5.cell (p := ⟨bo, 1, none⟩) obr.lt).trans o1; have s2 := (hb5.cell (p := ⟨bk, n * 2, none⟩) hbkr).trans kcr; have s4 := (hb5.cell (p := ⟨bk, n * 2 + 1, none⟩) hbkr).trans kcr2; have s5 := (hb5.cell (p := ⟨B, 1, none⟩) hBr).trans k1))
                  clear s1 s2 s3
                  go_wp2_with fail
                  go_ret2
                  exact ⟨by rw [E1.out, E2.out]; rfl, by rw [E3.out]; exact FIN.out _ (below_via hb.drew hb5)⟩
              · have hlt' : ¬ (n : Int) < (x.spans.length : Int) := by omega
                have hno12 : Hid (x.spans.any (fun s => vtch d.vs s.1 s.2 x.sees) = false) := by
                  have := hM.out
                  rw [List.take_of_length_le (by omega)] at this
                  exact this
                clear hM hlt hn
                obtain ⟨wx12, hx12⟩ : ∃ q, q = wr := ⟨_, rfl⟩
                subst hx12
                have hbx12 := hb
                clear hb
                have hcl : clash d.vs x = false := by unfold clash; rw [hno8.out, hno10.out, hno12.out]; rfl
                clear hno8 hno10 hno12
                have o5 := obr.c5
                by_cases hne : x.own = []
                · obtain ⟨e1, e2, e3⟩ := A0.out hcl hne
                  have E1 : Hid _ := e1
                  have E2 : Hid _ := e2
                  have E3 : Hid _ := e3
                  have hl0 : x.own.length = 0 := by rw [hne]; rfl
                  rw [hl0] at o5
                  clear A6 A0 AP Y3 N3 e1 e2 e3 hne hl0 hcl
                  go_wp2_with fail
                  go_ret2
                  exact ⟨by rw [E1.out, E2.out]; rfl, by rw [E3.out]; exact FIN.out _ hbx12⟩
                · obtain ⟨e1, e2⟩ := AP.out hcl hne
                  have hl0 : 0 < x.own.length := List.length_pos_iff.2 hne
                  have hl0' : ((x.own.length : Int) == 0) = false := by simp; omega
                  have RD_ := RW.step hbx12.drew
                  have k0 := (RW.step hbx12).c0
                  have hBr := (RW.step hbx12).ltB
                  have hB3 : ¬ c2 B = -3 := by rw [RW.cB]; decide
                  have hbo3 : ¬ c2 bo = -3 := fun q => by have := R2lt bo (by rw [q]; decide); omega
                  have hch4 := hch.step hbx12.drew
                  have K := refAppend x.own pc cc wx12.drew RD_.lg ok.lg (fun j hj => RD_.lt j (by rw [show c2 j = -3 from hj]; decide)) hc1 hc2' hch4
                  clear A6 A0 AP FIN
                  by_cases hap : apF d.lg x.own = 0
                  · have E1 : Hid _ := e1.trans (if_pos hap)
                    have E2 : Hid _ := e2.trans hap
                    have S4 := fun w4 (hL : RL w4 (fun j => c2 j = -5) (Nw (fun j => c2 j = -3) wx12.drew w4) L (apG d.lg x.own)) (b4 : But (fun j => c2 j = -3) wx12.drew w4) => drApply (m := cc) (RD_.lset b4 hL) ((hch4.but b4 (fun j hj e q => by have e' : c2 j = -5 := e; have q' : c2 j = -3 := q; omega)).mono (fun j _ e => by show rq c2 (-3) wx12.drew w4 j = -5; rw [rq_old (RD_.lt j (by rw [show c2 j = -5 from e]; decide))]; exact e)) hown hlast0 hlast ok.tl (by omega) ok.tb
                    have HYY : Hid _ := fun w4 w5 => Y3.out wx12.drew hbx12.drew w4 w5 hcl hne hap
                    rw [hap] at K
                    clear e1 e2 hap hne hcl Y3 N3
                    go_wp2_with fail
                    go_region_held3 (fun wy => wy.cell? ⟨B, 0, none⟩ = some (.pointer (some ⟨L, 0, none⟩)) ∧ wy.cell? ⟨bo, 5, none⟩ = some (.slice pc x.own.length cc))
                      (first | exact ⟨k0, o5⟩ | exact ⟨s0, s5⟩)
                      (first | (go_at_call 57; refine K.mono ?_; rintro e w4 ⟨rfl, hL4, b4⟩; have s0 := (b4.cell (p := ⟨B, 0, none⟩) hBr hB3).trans k0; have s5 := (b4.cell (p := ⟨bo, 5, none⟩) obr.lt hbo3).trans o5))
                    have K5 := S4 w4 hL4 b4
                    clear s0 K S4
                    go_wp2_with (go_at_call 58; refine K5.mono ?_; rintro e w5 ⟨rfl, R5, b5⟩; have r2 := R5.c2)
                    go_ret2
                    exact ⟨by rw [E1.out, E2.out]; rfl, HYY.out w4 w5 b4 b5 hFB hFT R5⟩
                  · have E1 : Hid _ := e1.trans (if_neg hap)
                    have E2 : Hid _ := e2
                    have HNN : Hid _ := fun w4 => N3.out wx12.drew hbx12.drew w4 hcl hne hap
                    have hap' : (apF d.lg x.own != 0) = true := by simpa using hap
                    clear e1 e2 hap hne hcl Y3 N3
                    go_wp2_with fail
                    go_region_held3 (fun wy => wy.cell? ⟨B, 0, none⟩ = some (.pointer (some ⟨L, 0, none⟩)) ∧ wy.cell? ⟨bo, 5, none⟩ = some (.slice pc x.own.length cc))
                      (first | exact ⟨k0, o5⟩ | exact ⟨s0, s5⟩)
                      (first | (go_at_call 57; refine K.mono ?_; rintro e w4 ⟨rfl, hL4, b4⟩; have s0 := (b4.cell (p := ⟨B, 0, none⟩) hBr hB3).trans k0; have s5 := (b4.cell (p := ⟨bo, 5, none⟩) obr.lt hbo3).trans o5))
                    clear s0 s5 K
                    go_wp2_with fail
                    go_ret2
                    exact ⟨by rw [E1.out, E2.out]; rfl, HNN.out w4 b4 (RD_.lset b4 hL4)⟩
end Go.Proofs.YteipfdjpndhgkaaGreatDoor
