/- The reference's desk: its log has changed; what is there now. -/
import Derived.Test.YteipfdjpndhgkaaGreatDoorCPH
import Derived.Test.YteipfdjpndhgkaaGreatDoorCPR
import Derived.Test.YteipfdjpndhgkaaGreatDoorCMB
import Derived.Test.YteipfdjpndhgkaaGreatDoorCMM
import Derived.Test.YteipfdjpndhgkaaGreatDoorCPA
namespace Go.Proofs.YteipfdjpndhgkaaGreatDoor
open Go.RowKit Vs

/-- The log has changed; what is new is its own. -/
theorem RD.lset {w w' : World} {c : Nat → Int} {B L Tb : Nat} {v : Value} {g g' : Lg} {vs : List Ver} {top last ids : Int} {es : List Oq} (h : RD w c B L Tb v g vs top last ids es) (hb : But (fun j => c j = -3) w w') (hl : RL w' (fun j => c j = -5) (Nw (fun j => c j = -3) w w') L g') : RD w' (rq c (-3) w w') B L Tb v g' vs top last ids es := by
  have hn : ∀ j, c j ≠ -3 → ¬ (c j = -3) := fun j h1 e => h1 e
  have hs := hb.size
  have hold : ∀ j, c j ≠ 0 → rq c (-3) w w' j = c j := fun j hj => rq_old (h.lt j hj)
  have hB := hn B (by rw [h.cB]; decide)
  have hlg : RL w' (fun j => rq c (-3) w w' j = -5) (fun j => rq c (-3) w w' j = -3) L g' := by
    have h1 : RL w' (fun j => c j = -5) (fun j => rq c (-3) w w' j = -3) L g' := hl.mono (fun j e => by
      show rq c (-3) w w' j = -3
      rcases e with e | e
      · have e' : c j = -3 := e
        rw [hold j (by rw [e']; decide)]; exact e'
      · exact rq_new e) (fun j e q => by
      have e' : c j = -5 := e
      have q' : rq c (-3) w w' j = -3 := q
      rw [hold j (by rw [e']; decide)] at q'; omega)
    exact h1.more (fun j e => by show rq c (-3) w w' j = -5; rw [hold j (by rw [show c j = -5 from e]; decide)]; exact e) (fun j e => ⟨fun q => by have e' : rq c (-3) w w' j = -5 := e; have q' : rq c (-3) w w' j = -3 := q; omega, rq_lt h hs _ j (by rw [show rq c (-3) w w' j = -5 from e]; decide)⟩)
  refine ⟨by rw [hold B (by rw [h.cB]; decide)]; exact h.cB, (hb.cell (p := ⟨B, 0, none⟩) h.ltB hB).trans h.c0, (hb.cell (p := ⟨B, 1, none⟩) h.ltB hB).trans h.c1, (hb.cell (p := ⟨B, 2, none⟩) h.ltB hB).trans h.c2, (hb.cell (p := ⟨B, 3, none⟩) h.ltB hB).trans h.c3, (hb.cell (p := ⟨B, 4, none⟩) h.ltB hB).trans h.c4, fun i hi => (hb.frozen (p := ⟨B, i, none⟩) h.ltB hB).trans (h.fz i hi), rq_lt h hs _, hlg, (h.tb.but hb (fun j hj e => hn j (by rw [show c j = -4 from e]; decide))).mono (fun j _ e => by show rq c (-3) w w' j = -4; rw [hold j (by rw [show c j = -4 from e]; decide)]; exact e), row_but h.row hb (fun j hj => hn j (by rw [h.rw_ j hj]; decide)), fun j hj => by rw [rq_old (rd_lt h.row hj).2]; exact h.rw_ j hj, fun e he => ?_⟩
  have := (h.each e he).one
  exact (h.each e he).but hb (fun j hj q => hn j (by omega)) (fun j hj => rq_old hj)
theorem rq_Fw {c : Nat → Int} {x : Int} {F : Nat → Prop} {w a b : World} (h : ∀ j, c j ≠ 0 → Nw F w a j) (h1 : w.heap.size ≤ a.heap.size) (h2 : a.heap.size ≤ b.heap.size) : ∀ j, rq c x a b j ≠ 0 → Nw F w b j := fun j hj => by
  rcases rq_F h j hj with (q | q) | q
  · exact .inl q
  · exact .inr ⟨q.1, by omega⟩
  · exact .inr ⟨by omega, q.2⟩
set_option maxRecDepth 100000 in
set_option maxHeartbeats 4000000 in
theorem drAll {w : World} {F : Nat → Prop} {B : Nat} {d : Dk} (h : RDk w F B d) (ok : OkD d) (sm : Sm d) :
    Calls Tryz.prog 29 #[.pointer (some ⟨B, 0, none⟩)] w fun e w' => ∃ (q : Option Addr) (cq : Nat), e = .returned (.slice q (allP d).length cq) ∧ PrAt w' q (allP d) ∧ Below w.heap.size w w' := by
  obtain ⟨c, L, Tb, v, es, h, hop, hcF⟩ := h
  have hvl := sm.vs ok
  have hT := ok.tb
  have hR := h.tb
  have hBl := h.ltB
  have c1 := h.c1
  have c2 := h.c2
  clear hop hcF h
  obtain ⟨N, hN⟩ : ∃ N, N = allP d := ⟨_, rfl⟩
  rw [← hN]
  replace hN : Hid (N = ((d.vs.drop 0).filter (allV d.vs d.last)).foldl (fun r x => Vs.insP r (x.k, x.v)) []) := hN
  go_enter Tryz.func29, Tryz.ntmps29
  go_wp2_with fail
  go_loopw [3, 4] (fun s i wr => ∃ (k : Nat) (r : List Vs.Pr) (q : Option Addr) (cq : Nat), k ≤ d.vs.length ∧ i = .int .i64 k ∧ s = .slice q r.length cq ∧ r.length ≤ k ∧ PrAt wr q r ∧ Hid (N = ((d.vs.drop k).filter (allV d.vs d.last)).foldl (fun r x => Vs.insP r (x.k, x.v)) r) ∧ Below w.heap.size w wr) (fun _ i _ => d.vs.length - (intOf i).toNat)
  case atStart => exact ⟨0, [], none, 0, by omega, rfl, rfl, by simp, PrAt.nil _ _, hN, below_self _⟩
  case round =>
    obtain ⟨k, r, q, cq, hk, rfl, rfl, hrl, hq, hM, hb⟩ := hrel
    obtain ⟨p, cap, hp, hv⟩ := (hR.step hb).row
    have k1 := (hb.cell (p := ⟨B, 1, none⟩) hBl).trans c1
    have k2 := (hb.cell (p := ⟨B, 2, none⟩) hBl).trans c2
    have hsz := hb.size
    have hBr : B < wr.heap.size := by omega
    have hBn : ¬ B = wr.heap.size := by omega
    by_cases hlt : k < d.vs.length
    · have hlt' : (k : Int) < (d.vs.length : Int) := by omega
      obtain ⟨bb, off, rfl, hbl, _, hc⟩ := hv (by omega)
      obtain ⟨x, hx⟩ := Vs.getsome hlt
      obtain ⟨d0, d1, d2, d3⟩ := hc k x hx
      have hst : Hid _ := hM.out.trans (Vs.fold_drop hx r)
      have hno : Hid (allV d.vs d.last x = false → N = ((d.vs.drop (k + 1)).filter (allV d.vs d.last)).foldl (fun r x => Vs.insP r (x.k, x.v)) r) := fun h => by rw [hst.out, if_neg (by rw [h]; simp)]
      have hyes : Hid (allV d.vs d.last x = true → N = ((d.vs.drop (k + 1)).filter (allV d.vs d.last)).foldl (fun r x => Vs.insP r (x.k, x.v)) (Vs.insP r (x.k, x.v))) := fun h => by rw [hst.out, if_pos h]
      have vb := Vb.new wr 135 x
      have hbA := below_al (below_self wr) (.cells #[.string x.k, .string x.v, .int .i64 x.n, .bool x.g] 135)
      have hbW := below_al hb (.cells #[.string x.k, .string x.v, .int .i64 x.n, .bool x.g] 135)
      have hqA := hq.step hbA
      have hsee := Vs.sI_at hT hx d.last
      clear hst hM hN hc hv hx
      have a1 := (World.cell?_alloc_lt wr (.cells #[.string x.k, .string x.v, .int .i64 x.n, .bool x.g] 135) ⟨B, 1, none⟩ hBr).trans k1
      have a2 := (World.cell?_alloc_lt wr (.cells #[.string x.k, .string x.v, .int .i64 x.n, .bool x.g] 135) ⟨B, 2, none⟩ hBr).trans k2
      cases g3 : x.g
      · have K := refSeen x.k d.last _ hT ((hR.step hb).step hbA.drew) (by omega)
        rw [g3] at d3 vb hbA hbW hqA K a1 a2
        have v0 := vb.c0
        have v3 := vb.c3
        rw [g3] at v3
        have hBA : B < (wr.alloc (.cells #[.string x.k, .string x.v, .int .i64 x.n, .bool false] 135)).heap.size := by simp; omega
        cases g4 : (Vs.sI d.vs x.k d.last == (k : Int))
        · have R : Hid _ := hno.out (by rw [g4] at hsee; simp [allV, ← hsee])
          clear hno hyes hsee
          go_wp2_with fail
          go_region_held3 (fun wy => wy.cell? ⟨B, 1, none⟩ = some (.pointer (some ⟨Tb, 0, none⟩)) ∧ wy.cell? ⟨B, 2, none⟩ = some (.int .i64 d.last) ∧ wy.cell? ⟨wr.heap.size, 3, none⟩ = some (.bool false) ∧ wy.cell? ⟨wr.heap.size, 0, none⟩ = some (.string x.k))
            (first | exact ⟨a1, a2, v3, v0⟩ | exact ⟨s1, s2, s3, s0⟩)
            (first | (go_at_call 73; refine K.mono ?_; rintro e w2 ⟨rfl, hb2⟩; have s1 := (hb2.cell (p := ⟨B, 1, none⟩) hBA).trans a1; have s2 := (hb2.cell (p := ⟨B, 2, none⟩) hBA).trans a2; have s3 := (hb2.cell (p := ⟨wr.heap.size, 3, none⟩) vb.lt).trans v3; have s0 := (hb2.cell (p := ⟨wr.heap.size, 0, none⟩) vb.lt).trans v0))
          clear s0 s1 s2 s3
          go_wp2_with fail
          exact ⟨⟨k + 1, r, q, cq, by omega, by go_num, rfl, by omega, (hqA.step (below_self _).drew).step hb2, R, below_via hbW.drew hb2⟩, by simp [intOf]; omega⟩
        · have R : Hid _ := hyes.out (by rw [g4] at hsee; simp [allV, ← hsee, g3])
          have v1 := vb.c1
          clear hno hyes hsee
          go_wp2_with fail
          go_region_held3 (fun wy => wy.cell? ⟨B, 1, none⟩ = some (.pointer (some ⟨Tb, 0, none⟩)) ∧ wy.cell? ⟨B, 2, none⟩ = some (.int .i64 d.last) ∧ wy.cell? ⟨wr.heap.size, 3, none⟩ = some (.bool false) ∧ wy.cell? ⟨wr.heap.size, 0, none⟩ = some (.string x.k))
            (first | exact ⟨a1, a2, v3, v0⟩ | exact ⟨s1, s2, s3, s0⟩)
            (first | (go_at_call 73; refine K.mono ?_; rintro e w2 ⟨rfl, hb2⟩; have s1 := (hb2.cell (p := ⟨B, 1, none⟩) hBA).trans a1; have s2 := (hb2.cell (p := ⟨B, 2, none⟩) hBA).trans a2; have s3 := (hb2.cell (p := ⟨wr.heap.size, 3, none⟩) vb.lt).trans v3; have s0 := (hb2.cell (p := ⟨wr.heap.size, 0, none⟩) vb.lt).trans v0; have s4 := (hb2.cell (p := ⟨wr.heap.size, 1, none⟩) vb.lt).trans v1; have hq2 := (hqA.step (below_self _).drew).step hb2; have hbX := below_via hbW.drew hb2))
          clear s1 s2 s3 hb2 K
          go_wp2_with (go_at_call 50; refine (refInsert r x.k x.v q cq _ (by omega) hq2).mono ?_; rintro e w3 ⟨v3, rfl, hown3, hb3⟩)
          obtain ⟨q3, c3, rfl⟩ := own_form hown3
          exact ⟨⟨k + 1, Vs.insP r (x.k, x.v), q3, c3, by omega, by go_num, rfl, by rw [Vs.len_insP]; omega, (prAt_own hown3).2, R, below_via hbX hb3⟩, by simp [intOf]; omega⟩
      · have R : Hid _ := hno.out (by simp [allV, g3])
        rw [g3] at d3 vb hbA hbW hqA a1 a2
        clear hno hyes hsee
        go_wp2_with fail
        go_quiet (fail)
        go_wp2_with fail
        exact ⟨⟨k + 1, r, q, cq, by omega, by go_num, rfl, by omega, hqA.step (below_drewN (below_self _) _), R, below_via hbW (below_drewN (below_self _) _)⟩, by simp [intOf]; omega⟩
    · have hlt' : ¬ (k : Int) < (d.vs.length : Int) := by omega
      have hE : Hid (N = r) := by
        show _ = _
        rw [hM.out, List.drop_eq_nil_of_le (by omega)]; rfl
      clear hM hN hv
      go_wp2_with fail
      go_ret
      first
        | exact ⟨q, cq, by rw [hE.out]; rfl, by rw [hE.out]; exact hq, hb⟩
        | exact ⟨q, ⟨cq, by rw [hE.out]; rfl⟩, by rw [hE.out]; exact hq, hb⟩
end Go.Proofs.YteipfdjpndhgkaaGreatDoor

/- Desks that any steps lead to stay small. No program stands here. -/
namespace Go.Proofs.YteipfdjpndhgkaaGreatDoor
open Go.RowKit Vs

/-- A desk behind k steps. -/
structure Dp (k : Nat) (d : Dk) : Prop where
  ok : OkD d
  wl : wt d ≤ k
  ids : d.ids ≤ k
  spz : Spz d
theorem Dp.sm {k : Nat} {d : Dk} (h : Dp k d) (hk : k ≤ 900) : Sm d := ⟨by have := h.wl; omega, by have := h.ids; omega⟩
theorem Dp.new {room : Int} (h0 : 0 ≤ room) (h1 : room ≤ 100000) : Dp 0 (dk0 room) := ⟨OkD.new h0 h1, by simp [wt, dk0, lg0, wtL, wtO], by simp [dk0], fun o ho => by simp [dk0] at ho⟩
theorem Dp.more {k : Nat} {d : Dk} (h : Dp k d) : Dp (k + 1) d := ⟨h.ok, by have := h.wl; omega, by have := h.ids; omega, h.spz⟩
theorem Dp.bg {k : Nat} {d : Dk} (h : Dp k d) : Dp (k + 1) (bgD d) := by
  obtain ⟨h1, h2, _⟩ := wt_bg d
  refine ⟨h.ok.bg, by have := h.wl; omega, by have := h.ids; omega, fun o ho => ?_⟩
  unfold bgD at ho
  split at ho
  · rcases List.mem_append.1 ho with ho | ho
    · exact h.spz o ho
    · rw [List.mem_singleton.1 ho]; intro s hs; simp at hs
  · exact h.spz o ho
theorem dp_set {k : Nat} {d : Dk} (h : Dp k d) {o o' : Ox} (ho : o ∈ d.op) (e : o'.id = o.id) (e2 : o'.own = o.own) (ok : OkD (opSet d o')) (hz : ∀ s ∈ o'.spans, s.1.size < 9223372036854775807) : Dp (k + 1) (opSet d o') := by
  have key : wtO (opSet d o').op + o.own.length = wtO d.op + o'.own.length := wtO_set h.ok.ids (o' := o') ho e
  refine ⟨ok, ?_, by have := h.ids; show d.ids ≤ _; omega, fun q hq => ?_⟩
  · have := h.wl
    unfold wt at this
    show wtL d.lg.ls + wtO (opSet d o').op ≤ _
    rw [e2] at key
    omega
  · obtain ⟨y, hy, rfl⟩ := List.mem_map.1 hq
    split
    · exact hz
    · exact h.spz y hy
theorem Dp.dg {k : Nat} {d : Dk} (h : Dp k d) (i : Int) (key : ByteArray) : Dp (k + 1) (dgD d i key) := by
  have ok := h.ok.dg i key
  unfold dgD at ok ⊢
  cases e : opI d i with
  | none => exact h.more
  | some o =>
    rw [e] at ok
    simp only at ok ⊢
    obtain ⟨h1, h2⟩ := opI_some e
    split
    · rename_i g1
      rw [if_pos g1] at ok
      split
      · exact h.more
      · rename_i g2
        rw [if_neg g2] at ok
        exact dp_set h h1 rfl rfl ok (h.spz o h1)
    · exact h.more
theorem Dp.dr {k : Nat} {d : Dk} (h : Dp k d) (i : Int) (lo hi : ByteArray) (hlo : lo.size < 9223372036854775807) : Dp (k + 1) (drD d i lo hi) := by
  have ok := h.ok.dr i lo hi
  unfold drD at ok ⊢
  cases e : opI d i with
  | none => exact h.more
  | some o =>
    rw [e] at ok
    simp only at ok ⊢
    obtain ⟨h1, h2⟩ := opI_some e
    split
    · exact h.more
    · rename_i g2
      rw [if_neg g2] at ok
      refine dp_set h h1 rfl rfl ok (fun s hs => ?_)
      rcases List.mem_append.1 hs with hs | hs
      · exact h.spz o h1 s hs
      · rw [List.mem_singleton.1 hs]; exact hlo
theorem Dp.dc {k : Nat} {d : Dk} (h : Dp k d) (i : Int) {c : Chg} (g : okc c) : Dp (k + 1) (dcD d i c) := by
  obtain ⟨h1, h2, _⟩ := wt_dc h.ok i c
  refine ⟨h.ok.dc i g, by have := h.wl; omega, by have := h.ids; omega, ?_⟩
  unfold dcD
  cases e : opI d i with
  | none => exact h.spz
  | some o =>
    obtain ⟨o1, _⟩ := opI_some e
    simp only
    split
    · split
      · exact h.spz
      · intro q hq
        obtain ⟨y, hy, rfl⟩ := List.mem_map.1 hq
        split
        · exact h.spz o o1
        · exact h.spz y hy
    · exact h.spz
theorem spz_del {d : Dk} (h : Spz d) (i : Int) : Spz (opDel d i) := fun o ho => h o (memF ho)
theorem Dp.cm {k : Nat} {d : Dk} (h : Dp k d) (i : Int) : Dp (k + 1) (cmD d i) := by
  have hd := spz_del h.spz i
  refine ⟨h.ok.cm i, ?_, by rw [cm_ids]; have := h.ids; omega, ?_⟩
  · have := h.wl
    rcases cm_cases h.ok i with ⟨_, _, _, h1, _⟩ | ⟨_, _, _, _, _, h1, _⟩ <;> omega
  · unfold cmD
    cases e : opI d i with
    | none => exact h.spz
    | some o =>
      simp only
      split
      · exact hd
      · split
        · exact hd
        · split
          · exact hd
          · exact hd
theorem Dp.del {k : Nat} {d : Dk} (h : Dp k d) (i : Int) : Dp (k + 1) (opDel d i) := by
  refine ⟨h.ok.del i, ?_, by have := h.ids; show d.ids ≤ _; omega, spz_del h.spz i⟩
  have := h.wl
  have h1 := wtO_filter d.op (fun o => !decide (o.id = i))
  unfold wt at this
  show wtL d.lg.ls + wtO (d.op.filter (fun o => !decide (o.id = i))) ≤ _
  omega
theorem Dp.fl {k : Nat} {d : Dk} (h : Dp k d) : Dp (k + 1) (flD d) := by
  refine ⟨h.ok.fl, ?_, by have := h.ids; show d.ids ≤ _; omega, h.spz⟩
  have := h.wl
  unfold wt at this
  show wtL (syG d.lg).ls + wtO d.op ≤ _
  rw [ls_sy]; omega
theorem Dp.fd {k : Nat} {d : Dk} (h : Dp k d) {n : Int} (hn : n ≤ 9223372036854775807) : Dp (k + 1) (fdD d n) := by
  refine ⟨h.ok.fd hn, ?_, by have := h.ids; show d.ids ≤ _; omega, h.spz⟩
  have := h.wl
  unfold wt at this
  show wtL d.lg.ls + wtO d.op ≤ _
  omega
theorem Dp.cd {k : Nat} {d : Dk} (h : Dp k d) (n : Int) : Dp (k + 1) (cdD d n) := by
  refine ⟨h.ok.cd n, ?_, by have := h.ids; show d.ids ≤ _; omega, fun o ho => by simp [cdD] at ho⟩
  have := h.wl
  unfold wt at this
  show wtL (crG d.lg n).ls + wtO [] ≤ _
  obtain ⟨j, _, h2, _⟩ := fitL_take (crN d.lg n) d.lg.ls
  rw [show (crG d.lg n).ls = d.lg.ls.take j from h2]
  have := wtL_take d.lg.ls j
  simp [wtO]; omega
theorem Dp.td {k : Nat} {d : Dk} (h : Dp k d) : Dp (k + 1) (tdD d) := by
  refine ⟨h.ok.td, ?_, by have := h.ids; show d.ids ≤ _; omega, h.spz⟩
  have := h.wl
  unfold wt at this
  show wtL d.lg.ls + wtO d.op ≤ _
  omega
theorem fold_len {α : Type} (f : α → Pr) : ∀ (l : List α) (r : List Pr), (l.foldl (fun r x => insP r (f x)) r).length = r.length + l.length
  | [], r => by simp
  | x :: l, r => by rw [List.foldl_cons, fold_len f l, len_insP, List.length_cons]; omega
theorem allP_len (d : Dk) : (allP d).length ≤ d.vs.length := by
  have h := fold_len (fun x : Ver => (x.k, x.v)) (d.vs.filter (allV d.vs d.last)) []
  have h2 : (d.vs.filter (allV d.vs d.last)).length ≤ d.vs.length := List.length_filter_le _ _
  unfold allP
  simp only [List.length_nil] at h
  omega
theorem own_wt : ∀ {l : List Ox} {o : Ox}, o ∈ l → o.own.length ≤ wtO l
  | x :: r, o, h => by
    have e : wtO (x :: r) = x.own.length + wtO r := by simp [wtO]
    rcases List.mem_cons.1 h with rfl | h
    · omega
    · have := own_wt h; omega
theorem drS_len {d : Dk} (ok : OkD d) (i : Int) (lo hi : ByteArray) : (drS d i lo hi).length ≤ wt d := by
  unfold drS
  cases e : opI d i with
  | none => simp
  | some o =>
    obtain ⟨h1, _⟩ := opI_some e
    simp only
    split
    · simp
    · have h := fold_len (fun c : Chg => (c.k, c.v)) (o.own.filter (fun c => !c.g && btw lo hi c.k)) ((vrng d.vs lo hi o.sees).filter (fun p => (ownC o.own p.1).isNone))
      have h2 : (o.own.filter (fun c => !c.g && btw lo hi c.k)).length ≤ o.own.length := List.length_filter_le _ _
      have h3 : ((vrng d.vs lo hi o.sees).filter (fun p => (ownC o.own p.1).isNone)).length ≤ (vrng d.vs lo hi o.sees).length := List.length_filter_le _ _
      have h4 := vrng_len d.vs lo hi o.sees
      have h5 := ok.len
      have h6 := own_wt h1
      unfold rngO wt
      omega
end Go.Proofs.YteipfdjpndhgkaaGreatDoor

/- The reference's desk and the one of package desk, side by side. -/
namespace Go.Proofs.YteipfdjpndhgkaaGreatDoor
open Go.RowKit Vs

theorem RDk.but {E F : Nat → Prop} {w w' : World} {B : Nat} {d : Dk} (h : RDk w F B d) (hb : But E w w') (hE : ∀ j, j < w.heap.size → F j → ¬ E j) : RDk w' F B d := by
  obtain ⟨c, L, Tb, v, es, h, hop, hcF⟩ := h
  exact ⟨c, L, Tb, v, es, h.but hb (fun j hj q => hE j hj (hcF j q)), hop, hcF⟩
theorem RDk.step {F : Nat → Prop} {w w' : World} {B : Nat} {d : Dk} (h : RDk w F B d) (hb : Below w.heap.size w w') : RDk w' F B d := h.but (E := fun _ => False) (.below hb) (fun _ _ _ => id)
theorem RDk.mono {F G : Nat → Prop} {w : World} {B : Nat} {d : Dk} (h : RDk w F B d) (hG : ∀ j, F j → G j) : RDk w G B d := by
  obtain ⟨c, L, Tb, v, es, h, hop, hcF⟩ := h
  exact ⟨c, L, Tb, v, es, h, hop, fun j hj => hG j (hcF j hj)⟩
/-- Blocks of F and of G, all new since w. -/
structure Fg (w wr : World) (F G : Nat → Prop) : Prop where
  sep : ∀ j, F j → ¬ G j
  f : ∀ j, F j → w.heap.size ≤ j ∧ j < wr.heap.size
  g : ∀ j, G j → w.heap.size ≤ j ∧ j < wr.heap.size
/-- The box of the step at hand, whose transaction is told, too. -/
structure Sw (w : World) (B : Nat) (x : Stp) : Prop extends Sb w B x where
  c1 : w.cell? ⟨B, 1, none⟩ = some (.int .i64 x.who)
theorem Sw.lt {w : World} {B : Nat} {x : Stp} (h : Sw w B x) : B < w.heap.size := h.toSb.lt
theorem Sw.but {F : Nat → Prop} {w w' : World} {B : Nat} {x : Stp} (h : Sw w B x) (hb : But F w w') (hF : ¬ F B) : Sw w' B x := ⟨h.toSb.but hb hF, (hb.cell (p := ⟨B, 1, none⟩) h.lt hF).trans h.c1⟩
theorem Sw.step {w w' : World} {B : Nat} {x : Stp} (h : Sw w B x) (hb : Below w.heap.size w w') : Sw w' B x := h.but (F := fun _ => False) (.below hb) id
theorem Sw.new (wr : World) (t : Nat) (x : Stp) : Sw (wr.alloc (.cells #[.int .i64 x.what, .int .i64 x.who, .string x.key, .string x.hi, .string x.val, .int .i64 x.n] t)) wr.heap.size x := ⟨Sb.new wr t x, by simp⟩
/-- Both desks; the box of the step at hand is apart from them. -/
structure Dw (T : Td) (w wr : World) (Bm Bt Bs : Nat) (x : Stp) (d d2 : Dk) : Prop where
  ex : ∃ F G : Nat → Prop, RDk wr G Bm d ∧ T wr F Bt d2 ∧ Fg w wr F G ∧ ¬ F Bs ∧ ¬ G Bs
  sb : Sw wr Bs x
  bw : Below w.heap.size w wr
section
variable {T : Td} {w wr w' : World} {F G F' : Nat → Prop} {Bm Bt Bs : Nat} {x : Stp} {d d2 d' : Dk}
theorem Dw.step (V : DFace T) (h : Dw T w wr Bm Bt Bs x d d2) (hb : Below wr.heap.size wr w') : Dw T w w' Bm Bt Bs x d d2 := by
  obtain ⟨F, G, hR, hT, fg, h1, h2⟩ := h.ex
  exact ⟨⟨F, G, hR.step hb, V.step hT hb, ⟨fg.sep, fun j hj => ⟨(fg.f j hj).1, Nat.lt_of_lt_of_le (fg.f j hj).2 hb.size⟩, fun j hj => ⟨(fg.g j hj).1, Nat.lt_of_lt_of_le (fg.g j hj).2 hb.size⟩⟩, h1, h2⟩, h.sb.step hb, below_via h.bw hb⟩
theorem Dw.ref (V : DFace T) (hT : T wr F Bt d2) (fg : Fg w wr F G) (h1 : ¬ F Bs) (h2 : ¬ G Bs) (sb : Sw wr Bs x) (bw : Below w.heap.size w wr) (hR2 : RDk w' (Nw G wr w') Bm d') (hb : But G wr w') : Dw T w w' Bm Bt Bs x d' d2 := by
  have hs := hb.size
  have hw := bw.size
  refine ⟨⟨F, Nw G wr w', hR2, V.but hT hb (fun j _ hj e => fg.sep j hj e), ⟨?_, ?_, ?_⟩, h1, ?_⟩, sb.but hb h2, ?_⟩
  · intro j hj g
    rcases g with g | g
    · exact fg.sep j hj g
    · have := (fg.f j hj).2; omega
  · intro j hj
    have := fg.f j hj; omega
  · intro j hj
    rcases hj with g | g
    · have := fg.g j g; omega
    · omega
  · rintro (g | g)
    · exact h2 g
    · have := sb.lt; omega
  · exact But.under2 bw hb bw.size (fun i hi e => by have := (fg.g i e).1; omega)
/-- The reference's desk has changed: what is kept of the other one. -/
theorem dw_ref (V : DFace T) (hT : T wr F Bt d2) (fg : Fg w wr F G) (h1 : ¬ F Bs) (h2 : ¬ G Bs) (sb : Sw wr Bs x) (bw : Below w.heap.size w wr) (hb : But G wr w') : T w' F Bt d2 ∧ Fg w w' F (Nw G wr w') ∧ ¬ F Bs ∧ ¬ Nw G wr w' Bs ∧ Sw w' Bs x ∧ Below w.heap.size w w' := by
  have hs := hb.size
  have hw := bw.size
  refine ⟨V.but hT hb (fun j _ hj e => fg.sep j hj e), ⟨?_, ?_, ?_⟩, h1, ?_, sb.but hb h2, ?_⟩
  · intro j hj g
    rcases g with g | g
    · exact fg.sep j hj g
    · have := (fg.f j hj).2; omega
  · intro j hj
    have := fg.f j hj; omega
  · intro j hj
    rcases hj with g | g
    · have := fg.g j g; omega
    · omega
  · rintro (g | g)
    · exact h2 g
    · have := sb.lt; omega
  · exact But.under2 bw hb bw.size (fun i hi e => by have := (fg.g i e).1; omega)
theorem Dw.dskF (hR : RDk wr G Bm d) (fg : Fg w wr F G) (h1 : ¬ F Bs) (h2 : ¬ G Bs) (sb : Sw wr Bs x) (bw : Below w.heap.size w wr) (hT2 : T w' F' Bt d') (hF' : ∀ j, F' j → Nw F wr w' j) (hb : But F wr w') : Dw T w w' Bm Bt Bs x d d' := by
  have hs := hb.size
  have hw := bw.size
  refine ⟨⟨F', G, hR.but hb (fun j _ hj e => fg.sep j e hj), hT2, ⟨?_, ?_, ?_⟩, ?_, h2⟩, sb.but hb h1, ?_⟩
  · intro j g hj
    rcases hF' j g with g | g
    · exact fg.sep j g hj
    · have := (fg.g j hj).2; omega
  · intro j g
    rcases hF' j g with g | g
    · have := fg.f j g; omega
    · omega
  · intro j hj
    have := fg.g j hj; omega
  · intro g
    rcases hF' _ g with g | g
    · exact h1 g
    · have := sb.lt; omega
  · exact But.under2 bw hb bw.size (fun i hi e => by have := (fg.f i e).1; omega)
theorem Dw.dsk (hR : RDk wr G Bm d) (fg : Fg w wr F G) (h1 : ¬ F Bs) (h2 : ¬ G Bs) (sb : Sw wr Bs x) (bw : Below w.heap.size w wr) (hT2 : T w' (Nw F wr w') Bt d') (hb : But F wr w') : Dw T w w' Bm Bt Bs x d d' := Dw.dskF hR fg h1 h2 sb bw hT2 (fun _ h => h) hb
/-- The reference's desk has changed in a block of its own. -/
theorem Dw.own (V : DFace T) (hT : T wr F Bt d2) (fg : Fg w wr F G) (h1 : ¬ F Bs) (h2 : ¬ G Bs) (sb : Sw wr Bs x) (bw : Below w.heap.size w wr) (hR2 : RDk w' G Bm d') (hb : But G wr w') : Dw T w w' Bm Bt Bs x d' d2 := Dw.ref V hT fg h1 h2 sb bw (hR2.mono (fun _ h => .inl h)) hb
/-- Both desks, between two steps. -/
structure Dt (T : Td) (w wr : World) (Bm Bt : Nat) (d : Dk) : Prop where
  ex : ∃ F G : Nat → Prop, RDk wr G Bm d ∧ T wr F Bt d ∧ Fg w wr F G
  bw : Below w.heap.size w wr
theorem Dt.box (V : DFace T) (h : Dt T w wr Bm Bt d) (t : Nat) (x : Stp) : Dw T w (wr.alloc (.cells #[.int .i64 x.what, .int .i64 x.who, .string x.key, .string x.hi, .string x.val, .int .i64 x.n] t)) Bm Bt wr.heap.size x d d := by
  obtain ⟨F, G, hR, hT, fg⟩ := h.ex
  have hb := below_al (below_self wr) (.cells #[.int .i64 x.what, .int .i64 x.who, .string x.key, .string x.hi, .string x.val, .int .i64 x.n] t)
  refine ⟨⟨F, G, hR.step hb, V.step hT hb, ⟨fg.sep, fun j hj => ⟨(fg.f j hj).1, ?_⟩, fun j hj => ⟨(fg.g j hj).1, ?_⟩⟩, fun g => ?_, fun g => ?_⟩, Sw.new wr t x, below_via h.bw hb⟩
  · have := (fg.f j hj).2; simp; omega
  · have := (fg.g j hj).2; simp; omega
  · have := (fg.f _ g).2; omega
  · have := (fg.g _ g).2; omega
theorem Dw.two (h : Dw T w wr Bm Bt Bs x d d) : Dt T w wr Bm Bt d := by
  obtain ⟨F, G, hR, hT, fg, _, _⟩ := h.ex
  exact ⟨⟨F, G, hR, hT, fg⟩, h.bw⟩
end
end Go.Proofs.YteipfdjpndhgkaaGreatDoor

/- The reference's desk: a new one; what a law asks of its log. -/
namespace Go.Proofs.YteipfdjpndhgkaaGreatDoor
open Go.RowKit Vs

theorem rd_new {W : World} {B L Tb : Nat} {room : Int} (hBL : B ≠ L) (hBT : B ≠ Tb) (hLT : L ≠ Tb) (c0 : W.cell? ⟨B, 0, none⟩ = some (.pointer (some ⟨L, 0, none⟩))) (c1 : W.cell? ⟨B, 1, none⟩ = some (.pointer (some ⟨Tb, 0, none⟩))) (c2 : W.cell? ⟨B, 2, none⟩ = some (.int .i64 0)) (c3 : W.cell? ⟨B, 3, none⟩ = some (.int .i64 0)) (c4 : W.cell? ⟨B, 4, none⟩ = some (.slice none 0 0)) (fz : ∀ i, i < 5 → W.frozen? ⟨B, i, none⟩ = false) (hl : RL W (fun _ => False) (fun j => j = L) L (lg0 room)) (ht : RT W (fun j => j = Tb) Tb [] 0) :
    RDk W (fun j => j = B ∨ j = L ∨ j = Tb) B (dk0 room) := by
  obtain ⟨c, hc⟩ : ∃ c : Nat → Int, c = fun j => if j = B then -1 else if j = L then -3 else if j = Tb then -4 else 0 := ⟨_, rfl⟩
  have cB : c B = -1 := by rw [hc]; exact if_pos rfl
  have cL : c L = -3 := by rw [hc]; show (if L = B then (-1 : Int) else if L = L then -3 else _) = _; rw [if_neg (fun q => hBL q.symm), if_pos rfl]
  have cT : c Tb = -4 := by rw [hc]; show (if Tb = B then (-1 : Int) else if Tb = L then -3 else if Tb = Tb then -4 else 0) = _; rw [if_neg (fun q => hBT q.symm), if_neg (fun q => hLT q.symm), if_pos rfl]
  have hF : ∀ j, c j ≠ 0 → j = B ∨ j = L ∨ j = Tb := fun j hj => by
    by_cases h1 : j = B
    · exact .inl h1
    · by_cases h2 : j = L
      · exact .inr (.inl h2)
      · by_cases h3 : j = Tb
        · exact .inr (.inr h3)
        · exact absurd (by rw [hc]; show (if j = B then (-1 : Int) else if j = L then -3 else if j = Tb then -4 else 0) = 0; rw [if_neg h1, if_neg h2, if_neg h3]) hj
  have h5 : ∀ j, c j ≠ -5 := fun j q => by
    rcases hF j (by rw [q]; decide) with e | e | e <;> subst e <;> omega
  have hLl : L < W.heap.size := by
    obtain ⟨v1, v2, v3, x⟩ := hl
    exact x.lt
  have hl1 : RL W (fun _ => False) (fun j => c j = -3) L (lg0 room) := hl.mono (fun j e => by have e' : j = L := e; show c j = -3; rw [e']; exact cL) (fun j e => e.elim)
  refine ⟨c, L, Tb, .slice none 0 0, [], ⟨cB, c0, c1, c2, c3, c4, fz, fun j hj => ?_, hl1.more (fun j e => e.elim) (fun j e => absurd e (h5 j)), ht.mono (fun j _ e => by have e' : j = Tb := e; show c j = -4; rw [e']; exact cT), World.ownsRow_nil _ _ _ _, fun j hj => (by cases hj), fun e he => (by cases he)⟩, rfl, hF⟩
  rcases hF j hj with e | e | e <;> subst e
  · exact World.block_lt_of_cell? _ _ c0
  · exact hLl
  · exact ht.lt
set_option maxRecDepth 100000 in
theorem drSafe {G X : Nat → Prop} {B : Nat} {g : Lg} (w : World) (h : RL w X G B g) (ok : OkL g) :
    Calls Tryz.prog 32 #[.pointer (some ⟨B, 0, none⟩)] w fun e w' => e = .returned (.int .i64 ((fitL g.safe g.ls).length : Nat)) ∧ Below w.heap.size w w' := by
  obtain ⟨v1, v2, v3, x⟩ := h
  obtain ⟨p2, c2, rfl⟩ := own_form x.rr.en
  have b2 : w.cell? ⟨B, 2, none⟩ = some (.slice p2 g.ls.length c2) := by
    have := x.c2
    rw [ends_len] at this
    exact this
  have b4 := x.c4
  have hfw1 := ok.few.1
  have hfw2 := ok.few.2.1
  have hsf := ok.safe
  have en2 : w.ownsRow 0 3 1 (.slice p2 g.ls.length c2) g.ls.length (inV (ends 0 g.ls)) := by
    have := x.rr.en
    rw [ends_len] at this
    exact this
  have hBl := x.lt
  clear x
  obtain ⟨N, hN⟩ : ∃ N, N = (fitL g.safe g.ls).length := ⟨_, rfl⟩
  rw [← hN]
  replace hN : Hid _ := hN
  go_enter Tryz.func32, Tryz.ntmps32
  go_wp2_with fail
  go_loopw [3] (fun i wr => ∃ (k : Nat), k ≤ g.ls.length ∧ i = .int .i64 k ∧ Hid ((frs (g.ls.take k)).length ≤ g.safe) ∧ Below w.heap.size w wr) (fun i _ => g.ls.length - (intOf i).toNat)
  case atStart => exact ⟨0, Nat.zero_le _, rfl, Nat.zero_le _, below_self _⟩
  case round =>
    obtain ⟨k, hk, rfl, hkN, hb⟩ := hrel
    have r2 := (hb.cell (p := ⟨B, 2, none⟩) hBl).trans b2
    have r4 := (hb.cell (p := ⟨B, 4, none⟩) hBl).trans b4
    have fin : (k = g.ls.length ∨ g.safe < (frs (g.ls.take (k + 1))).length) → N = k := fun he => by
      rw [hN.out, fitL_end hk hkN.out he, List.length_take]; omega
    by_cases hlt : k < g.ls.length
    · have hlt' : (k : Int) < (g.ls.length : Int) := by omega
      obtain ⟨eb, rfl⟩ : ∃ eb : Nat, p2 = some ⟨eb, 0, none⟩ := by
        rcases en2.2 with ⟨h0, h1⟩ | ⟨b, cap, cur, h0, _⟩
        · omega
        · cases h0; exact ⟨b, rfl⟩
      have ce : w.cell? ⟨eb, k, none⟩ = some (.int .i64 ((frs (g.ls.take (k + 1))).length : Nat)) := by
        rw [en2.cellAt k (by omega), inV_at (ends_at 0 g.ls k hlt), Nat.zero_add]
      have cr := (hb.cell (p := ⟨eb, k, none⟩) (rd_lt en2 rfl).2).trans ce
      by_cases hle : (frs (g.ls.take (k + 1))).length ≤ g.safe
      · have hle' : (((frs (g.ls.take (k + 1))).length : Nat) : Int) ≤ (g.safe : Int) := by omega
        have hE1 : Hid _ := hle
        clear hle fin ce
        generalize (((frs (g.ls.take (k + 1))).length : Nat) : Int) = E1 at cr hle'
        go_wp2_with fail
        go_quiet (fail)
        go_wp2_with fail
        exact ⟨⟨k + 1, by omega, by go_num, hE1, below_via hb (below_drewN (below_self _) _)⟩, by simp [intOf]; omega⟩
      · have hle' : ¬ (((frs (g.ls.take (k + 1))).length : Nat) : Int) ≤ (g.safe : Int) := by omega
        have FH : Hid _ := fin (.inr (by omega))
        clear fin hle ce
        generalize (((frs (g.ls.take (k + 1))).length : Nat) : Int) = E1 at cr hle'
        go_wp2_with fail
        go_quiet (fail)
        go_wp2_with fail
        go_ret
        exact ⟨by rw [FH.out]; rfl, below_via hb (below_drewN (below_self _) _)⟩
    · have hlt' : ¬ (k : Int) < (g.ls.length : Int) := by omega
      have FH : Hid _ := fin (.inl (by omega))
      clear fin
      go_wp2_with fail
      go_quiet (fail)
      go_wp2_with fail
      go_ret
      exact ⟨by rw [FH.out]; rfl, below_via hb (below_drewN (below_self _) _)⟩
set_option maxRecDepth 100000 in
theorem drNew (room : Int) (w : World) : Calls Tryz.prog 6 #[.int .i64 room] w fun e w' => ∃ B, e = .returned (.pointer (some ⟨B, 0, none⟩)) ∧ RDk w' (fun j => w.heap.size ≤ j ∧ j < w'.heap.size) B (dk0 room) ∧ Below w.heap.size w w' := by
  have K := refNew room w
  go_enter Tryz.func6, Tryz.ntmps6
  go_wp2_with (go_at_call 37; refine K.mono ?_; rintro e w1 ⟨rfl, hl, hb1, hz0⟩; have hz1 : Hid _ := hz0; clear hz0)
  go_ret
  have hz := hz1.out
  have hl1 := hl (fun _ => False) (fun j e => e.elim)
  have b2 := below_al (below_al (below_self w1) (.cells #[.slice none 0 0, .int .i64 0] 74)) (.cells #[.pointer (some ⟨w.heap.size, 0, none⟩), .pointer (some ⟨w1.heap.size, 0, none⟩), .int .i64 0, .int .i64 0, .slice none 0 0] 61)
  refine ⟨_, rfl, (rd_new (B := w1.heap.size + 1) (L := w.heap.size) (Tb := w1.heap.size) (by omega) (by omega) (by omega) (by simp) (by simp) (by simp) (by simp) (by simp) (fun i hi => by simp) (hl1.step b2) ⟨rfl, ⟨none, 0, by simp, fun h => by simp at h⟩, by simp, by simp, by simp⟩).mono (fun j hj => ?_), below_via hb1 b2⟩
  rcases hj with e | e | e <;> subst e <;> simp <;> omega
/-- What a law asks of the reference's desk itself. -/
theorem RDk.see {w : World} {F : Nat → Prop} {B : Nat} {d : Dk} (h : RDk w F B d) : ∃ L Tb p cap, B < w.heap.size ∧ L < w.heap.size ∧ B ≠ L ∧ F L ∧ w.cell? ⟨B, 0, none⟩ = some (.pointer (some ⟨L, 0, none⟩)) ∧ w.cell? ⟨B, 1, none⟩ = some (.pointer (some ⟨Tb, 0, none⟩)) ∧ w.cell? ⟨B, 2, none⟩ = some (.int .i64 d.last) ∧ Tb < w.heap.size ∧ w.cell? ⟨Tb, 0, none⟩ = some (.slice p d.vs.length cap) ∧ w.frozen? ⟨L, 5, none⟩ = false ∧ (∃ u, w.cell? ⟨L, 5, none⟩ = some u) ∧ ∃ X G, RL w X G L d.lg := by
  obtain ⟨c, L, Tb, v, es, h, hop, hcF⟩ := h
  obtain ⟨p, cap, hp, _⟩ := h.tb.row
  have hlg := h.lg
  have hL : c L = -3 := h.lg.gB
  obtain ⟨v1, v2, v3, x⟩ := hlg
  exact ⟨L, Tb, p, cap, h.ltB, x.lt, (fun q => by have := h.cB; rw [q, hL] at this; cases this), hcF L (by rw [hL]; decide), h.c0, h.c1, h.c2, h.tb.lt, hp, x.fz 5 (by decide), ⟨_, x.c5⟩, _, _, h.lg⟩
theorem RDk.left {w : World} {F : Nat → Prop} {B L : Nat} {d : Dk} (h : RDk w F B d) (hL0 : w.cell? ⟨B, 0, none⟩ = some (.pointer (some ⟨L, 0, none⟩))) (n : Int) : RDk (w.setCell ⟨L, 5, none⟩ (.int .i64 n)) F B { d with lg := { d.lg with left := n } } := by
  obtain ⟨c, L', Tb, v, es, h, hop, hcF⟩ := h
  have e : L = L' := by
    have := hL0.symm.trans h.c0
    injection this with this
    injection this with this
    injection this with this
    injection this with this
  subst e
  have cL : c L = -3 := h.lg.gB
  have hlg := h.lg
  obtain ⟨v1, v2, v3, x⟩ := hlg
  have zs : (w.setCell ⟨L, 5, none⟩ (.int .i64 n)).heap.size = w.heap.size := by simp [World.setCell]
  have hb : But (fun j => c j = -3) w (w.setCell ⟨L, 5, none⟩ (.int .i64 n)) := setB.mono (fun j _ q => by show c j = -3; rw [q]; exact cL)
  have hl' : RL (w.setCell ⟨L, 5, none⟩ (.int .i64 n)) (fun j => c j = -5) (fun j => c j = -3) L { d.lg with left := n } := ⟨v1, v2, v3, x.set5 n⟩
  have R := h.lset hb (hl'.mono (fun j q => .inl q) (fun j q g => g.elim (fun g => by have q' : c j = -5 := q; have g' : c j = -3 := g; omega) (fun g => by omega)))
  rw [rq_self zs] at R
  exact ⟨c, L, Tb, v, es, R, hop, hcF⟩
theorem drSync {w : World} {F : Nat → Prop} {B L : Nat} {d : Dk} (h : RDk w F B d) (ok : OkD d) (hL0 : w.cell? ⟨B, 0, none⟩ = some (.pointer (some ⟨L, 0, none⟩))) :
    Calls Tryz.prog 21 #[.pointer (some ⟨L, 0, none⟩)] w fun e w' => e = .returned (.int .i64 (flF d)) ∧ RDk w' (Nw F w w') B (flD d) ∧ But F w w' := by
  obtain ⟨c, L', Tb, v, es, h, hop, hcF⟩ := h
  have e : L = L' := by
    have := hL0.symm.trans h.c0
    injection this with this
    injection this with this
    injection this with this
    injection this with this
  subst e
  have cL : c L = -3 := h.lg.gB
  refine (refSync w h.lg ok.lg).mono ?_
  rintro e w' ⟨rfl, hl', hb⟩
  have hb' : But (fun j => c j = -3) w w' := hb.mono (fun j _ q => by show c j = -3; rw [q]; exact cL)
  have hX : ∀ j, c j = -5 → ¬ Nw (fun j => c j = -3) w w' j := fun j q g => g.elim (fun g => by have g' : c j = -3 := g; omega) (fun g => by have := h.lt j (by rw [q]; decide); omega)
  exact ⟨rfl, ⟨_, L, Tb, v, es, h.lset hb' (hl'.mono (fun j q => .inl q) hX), hop, rq_F hcF⟩, hb.mono (fun j _ q => hcF j (by rw [q, cL]; decide))⟩
end Go.Proofs.YteipfdjpndhgkaaGreatDoor

/- The reference's desk: Crash. -/
namespace Go.Proofs.YteipfdjpndhgkaaGreatDoor
open Go.RowKit Vs

/-- A new table, no number, nothing open. -/
theorem rd_fresh {w1 W : World} {c : Nat → Int} {B L Tb : Nat} {v : Value} {g : Lg} {vs : List Ver} {top last ids : Int} {es : List Oq} (h : RD w1 c B L Tb v g vs top last ids es) (hW : W = (((w1.setCell ⟨B, 1, none⟩ (.pointer (some ⟨w1.heap.size, 0, none⟩))).setCell ⟨B, 2, none⟩ (.int .i64 0)).setCell ⟨B, 4, none⟩ (.slice none 0 0)).alloc (.cells #[.slice none 0 0, .int .i64 0] 74)) :
    RD W (rq c (-4) w1 W) B L w1.heap.size (.slice none 0 0) g [] 0 0 ids [] ∧ But (fun j => j = B) w1 W := by
  have hBl := h.ltB
  have k0 := h.c0
  have k1 := h.c1
  have k2 := h.c2
  have k3 := h.c3
  have k4 := h.c4
  have f0 := h.fz 0 (by decide)
  have f1 := h.fz 1 (by decide)
  have f2 := h.fz 2 (by decide)
  have f3 := h.fz 3 (by decide)
  have f4 := h.fz 4 (by decide)
  have hne : ¬ B = w1.heap.size := by omega
  have hne' : ¬ w1.heap.size = B := by omega
  have hb : But (fun j => j = B) w1 W := by
    rw [hW]
    exact ((((But.refl (fun j => j = B) w1).setCell (p := ⟨B, 1, none⟩) (.inl rfl) _).setCell (p := ⟨B, 2, none⟩) (.inl rfl) _).setCell (p := ⟨B, 4, none⟩) (.inl rfl) _).alloc _
  have zW : W.heap.size = w1.heap.size + 1 := by rw [hW]; simp [World.setCell]
  have hs := hb.size
  have hold : ∀ j, c j ≠ 0 → rq c (-4) w1 W j = c j := fun j hj => rq_old (h.lt j hj)
  have hnB : ∀ j, c j ≠ -1 → ¬ j = B := fun j h1 e => h1 (by rw [e]; exact h.cB)
  have hlg := h.lg.but hb (fun j e => hnB j (by rw [show c j = -3 from e]; decide)) (fun j e => hnB j (by rw [show c j = -5 from e]; decide))
  have hnew : rq c (-4) w1 W w1.heap.size = -4 := rq_new ⟨Nat.le_refl _, by omega⟩
  have hcB : rq c (-4) w1 W B = -1 := (hold B (by rw [h.cB]; decide)).trans h.cB
  have hq := rq_lt h hs (-4)
  have hlg' := rl_rq (x := -4) hlg h.lt hq
  generalize rq c (-4) w1 W = c' at hnew hcB hq hlg' ⊢
  refine ⟨⟨hcB, by rw [hW]; go_simp, by rw [hW]; go_simp, by rw [hW]; go_simp, by rw [hW]; go_simp, by rw [hW]; go_simp, fun i hi => ?_, hq, hlg', ⟨hnew, ⟨none, 0, by rw [hW]; go_simp, fun hl => by simp at hl⟩, by rw [hW]; go_simp, by rw [hW]; go_simp, by rw [hW]; go_simp⟩, World.ownsRow_nil _ _ _ _, fun j hj => (by cases hj), fun e he => (by cases he)⟩, hb⟩
  rw [hW]
  match i, hi with
  | 0, _ => go_simp
  | 1, _ => go_simp
  | 2, _ => go_simp
  | 3, _ => go_simp
  | 4, _ => go_simp
set_option maxRecDepth 100000 in
set_option maxHeartbeats 4000000 in
theorem drCrash {w : World} {F : Nat → Prop} {B : Nat} {d : Dk} (n : Int) (n0 : -9223372036854775808 ≤ n) (n1 : n ≤ 9223372036854775807) (h : RDk w F B d) (ok : OkD d) (sm : Sm d) :
    Calls Tryz.prog 25 #[.pointer (some ⟨B, 0, none⟩), .int .i64 n] w fun e w' => e = .returned (.tuple #[]) ∧ RDk w' (Nw F w w') B (cdD d n) ∧ But F w w' := by
  obtain ⟨c, L, Tb, v, es, h, hop, hcF⟩ := h
  have okc := ok.cd n
  have K1 := refCrash n w h.lg ok.lg n0 n1
  have c0 := h.c0
  have cL : c L = -3 := h.lg.gB
  have hwl : wtL (crG d.lg n).ls ≤ 1000 := by
    obtain ⟨k, _, h2, _⟩ := fitL_take (crN d.lg n) d.lg.ls
    have : (crG d.lg n).ls = d.lg.ls.take k := h2
    rw [this]
    exact Nat.le_trans (wtL_take _ _) sm.log
  have okg : OkL (crG d.lg n) := okc.lg
  have heach : ∀ l ∈ (crG d.lg n).ls, 0 < l.length := okc.each
  have hfew := okg.few.1
  have hcd : Hid (cdD d n = ⟨crG d.lg n, tab (crG d.lg n).ls, (crG d.lg n).ls.length, (crG d.lg n).ls.length, d.ids, []⟩) := rfl
  clear okc
  generalize cdD d n = d' at hcd ⊢
  generalize crG d.lg n = g at *
  have hX : ∀ w1, But (fun j => j = L) w w1 → ∀ j, c j = -5 → ¬ Nw (fun j => c j = -3) w w1 j := fun w1 _ j q g => g.elim (fun g => by have g' : c j = -3 := g; omega) (fun g => by have := h.lt j (by rw [q]; decide); omega)
  have S1 : ∀ w1, RL w1 (fun j => c j = -5) (fun j => c j = -3) L g → But (fun j => j = L) w w1 → RD w1 (rq c (-3) w w1) B L Tb v g d.vs d.top d.last d.ids es := fun w1 hl hb => h.lset (hb.mono (fun j _ q => by show c j = -3; rw [q]; exact cL)) (hl.mono (fun j q => .inl q) (hX w1 hb))
  clear hX
  go_enter Tryz.func25, Tryz.ntmps25
  go_wp2_with (go_at_call 69; refine K1.mono ?_; clear K1; rintro e w1 ⟨rfl, hl1, b1⟩; have R1 := S1 w1 hl1 b1; have k1 := R1.c1; have k2 := R1.c2; have k4 := R1.c4; have f1 := R1.fz 1 (by decide); have f2 := R1.fz 2 (by decide); have f4 := R1.fz 4 (by decide); have hBl := R1.ltB; have hne : ¬ B = w1.heap.size := by omega)
  obtain ⟨W, hW⟩ : ∃ W, W = (((w1.setCell ⟨B, 1, none⟩ (.pointer (some ⟨w1.heap.size, 0, none⟩))).setCell ⟨B, 2, none⟩ (.int .i64 0)).setCell ⟨B, 4, none⟩ (.slice none 0 0)).alloc (.cells #[.slice none 0 0, .int .i64 0] 74) := ⟨_, rfl⟩
  obtain ⟨R0, b0⟩ := rd_fresh R1 hW
  rw [← hW]
  have s1 := b1.size
  have s0 := b0.size
  have hcW : ∀ j, rq (rq c (-3) w w1) (-4) w1 W j ≠ 0 → Nw F w W j := rq_Fw (rq_F hcF) s1 s0
  have hFB : F B := hcF B (by rw [h.cB]; decide)
  have bW : But F w W := (b1.mono (fun j _ q => hcF j (by rw [q, cL]; decide))).then b0 (fun j _ q => by rw [q]; exact hFB)
  have hT3 : w.heap.size ≤ w1.heap.size := s1
  generalize w1.heap.size = T3 at R0 hT3
  generalize rq (rq c (-3) w w1) (-4) w1 W = c4 at R0 hcW
  clear hW R1 S1 hl1 b1 k1 k2 k4 f1 f2 f4 hBl hne h b0 s0 s1 c0 cL
  go_loopw [4] (fun i wr => ∃ (k : Nat), k ≤ g.ls.length ∧ i = .int .i64 k ∧ RD wr (rq c4 (-4) W wr) B L T3 (.slice none 0 0) g (tab (g.ls.take k)) k k d.ids [] ∧ But (fun j => j = B ∨ j = T3) W wr) (fun i _ => g.ls.length - (intOf i).toNat)
  case atStart => exact ⟨0, Nat.zero_le _, rfl, by rw [rq_self rfl]; simpa [tab, tabF] using R0, But.refl _ _⟩
  case round =>
    obtain ⟨k, hk, rfl, R, hb⟩ := hrel
    have r0 := R.c0
    have hlg := R.lg
    obtain ⟨v1, v2, v3, x⟩ := hlg
    obtain ⟨p1, c1, rfl, hc1, _⟩ := x.rr.li.form
    have x1 := x.c1
    have hsz := hb.size
    by_cases hlt : k < g.ls.length
    · have hlt' : (k : Int) < (g.ls.length : Int) := by omega
      obtain ⟨l, hl⟩ : ∃ l, g.ls[k]? = some l := ⟨g.ls[k], List.getElem?_eq_getElem hlt⟩
      obtain ⟨us, o1, o2⟩ := x.rr.li
      obtain ⟨u, hu, q, cq, rfl, _, _, hch⟩ := o2 k l hl
      obtain ⟨eb, rfl⟩ : ∃ eb : Nat, p1 = some ⟨eb, 0, none⟩ := by
        rcases o1.2 with ⟨h0, h1⟩ | ⟨b, cap, cur, h0, _⟩
        · omega
        · cases h0; exact ⟨b, rfl⟩
      have ce : wr.cell? ⟨eb, k, none⟩ = some (.slice q l.length cq) := by
        rw [o1.cellAt k (by have := (List.getElem?_eq_some_iff.1 hu).1; omega)]; exact hu
      have hlm := List.mem_of_getElem? hl
      have hl0 := heach l hlm
      have hvl : (tab (g.ls.take k)).length ≤ 2000 := by
        rw [tab_len]
        have := wtL_take g.ls k
        omega
      have okT : OkT (tab (g.ls.take k)) (k : Int) := by
        have := tab_ok (ls := g.ls.take k) (fun m hm => okg.each m (List.mem_of_mem_take hm)) (by rw [List.length_take]; omega)
        rw [List.length_take, Nat.min_eq_left (by omega)] at this
        exact this
      have K := drApply (m := cq) R hch (okg.each l hlm) (by omega) (by omega) (Int.le_refl _) hvl okT
      have nx : ∀ w5, RD w5 (rq (rq c4 (-4) W wr) (-4) wr w5) B L T3 (.slice none 0 0) g (shL (tab (g.ls.take k)) l ((k : Int) + 1) l.length) (shT (k : Int) ((k : Int) + 1) l.length) ((k : Int) + 1) d.ids [] → But (fun j => j = B ∨ j = T3) wr w5 → RD w5 (rq c4 (-4) W w5) B L T3 (.slice none 0 0) g (tab (g.ls.take (k + 1))) ((k + 1 : Nat) : Int) ((k + 1 : Nat) : Int) d.ids [] ∧ But (fun j => j = B ∨ j = T3) W w5 := fun w5 R5 b5 => ⟨by
        rw [rq_rq hsz b5.size, shL_all, ← tab_succ hl, shT, if_neg (by omega)] at R5
        exact R5, hb.then b5 (fun j _ q => q)⟩
      have NX : Hid _ := nx
      clear nx hch hu hl o1 o2 hvl okT R x hb
      go_wp2_with (go_at_call 58; refine K.mono ?_; rintro e w5 ⟨rfl, R5, b5⟩)
      obtain ⟨R6, B6⟩ := NX.out _ R5 b5
      exact ⟨⟨k + 1, by omega, by go_num, R6, B6⟩, by simp [intOf]; omega⟩
    · have hlt' : ¬ (k : Int) < (g.ls.length : Int) := by omega
      have hkl : k = g.ls.length := by omega
      subst hkl
      rw [List.take_length] at R
      have fin : RDk wr (Nw F w wr) B d' ∧ But F w wr := by
        rw [hcd.out]
        exact ⟨⟨_, L, T3, _, [], R, rfl, rq_Fw hcW bW.size hsz⟩, bW.then hb (fun j hj q => q.elim (fun q => by rw [q]; exact hFB) (fun q => by omega))⟩
      have FH : Hid _ := fin
      clear fin R x hb
      go_wp2_with fail
      go_end0
      exact ⟨rfl, FH.out⟩
end Go.Proofs.YteipfdjpndhgkaaGreatDoor
