/- The reference's desk: Range. -/
import Derived.Test.YteipfdjpndhgkaaGreatDoorCPM
namespace Go.Proofs.YteipfdjpndhgkaaGreatDoor
open Go.RowKit Vs

theorem prIn_own {w : World} {B n cap e : Nat} {p : Option Addr} {l : List Vs.Pr} (h : w.ownsRow B e 2 (.slice p n cap) l.length (prV l)) : n = l.length ∧ PrIn (fun j => B ≤ j) w p l := by
  obtain ⟨h1, h2⟩ := prAt_own h
  refine ⟨h1, fun hl => ?_⟩
  obtain ⟨b, off, rfl, hb, hc⟩ := h2 hl
  exact ⟨b, off, rfl, hb, (h.lt b rfl).1, hc⟩
theorem filt_take {α : Type} (p : α → Bool) (l : List α) (n : Nat) (x : α) (h : l[n]? = some x) : (l.take (n + 1)).filter p = (l.take n).filter p ++ (if p x = true then [x] else []) := by
  rw [List.take_add_one, h, List.filter_append]
  congr 1
  cases e : p x <;> simp [e]
theorem foldC_drop {l : List Chg} {p : Chg → Bool} {k : Nat} {x : Chg} (hx : l[k]? = some x) (r : List Pr) : ((l.drop k).filter p).foldl (fun r c => insP r (c.k, c.v)) r = ((l.drop (k + 1)).filter p).foldl (fun r c => insP r (c.k, c.v)) (if p x = true then insP r (x.k, x.v) else r) := by
  obtain ⟨h, e⟩ := List.getElem?_eq_some_iff.1 hx
  rw [List.drop_eq_getElem_cons h, e]
  by_cases c : p x = true
  · rw [List.filter_cons, if_pos c, if_pos c, List.foldl_cons]
  · rw [List.filter_cons, if_neg c, if_neg c]
set_option maxRecDepth 100000 in
set_option maxHeartbeats 16000000 in
theorem drRange {w : World} {F : Nat → Prop} {B : Nat} {d : Dk} (i : Int) (lo hi : ByteArray) (h : RDk w F B d) (ok : OkD d) (sm : Sm d) :
    Calls Tryz.prog 11 #[.pointer (some ⟨B, 0, none⟩), .int .i64 i, .string lo, .string hi] w fun e w' => ∃ (q : Option Addr) (cq : Nat), e = .returned (.tuple #[.slice q (drS d i lo hi).length cq, .int .i64 (drF d i)]) ∧ PrIn (fun j => w.heap.size ≤ j) w' q (drS d i lo hi) ∧ RDk w' (Nw F w w') B (drD d i lo hi) ∧ But F w w' := by
  obtain ⟨c, L, Tb, v, es, h, hop, hcF⟩ := h
  have hfew := ok.few
  have hlen : es.length = d.op.length := by rw [← hop, List.length_map]
  have hvl := sm.vs ok
  have hsame : ∀ w', Below w.heap.size w w' → RDk w' (Nw F w w') B d := fun w' hb => ⟨c, L, Tb, v, es, h.step hb, hop, fun j hj => .inl (hcF j hj)⟩
  rcases drFind (i := i) h ok hop with ⟨hn, KA⟩ | ⟨k, y, hk, hi_, hopi, hid, KA⟩
  · rw [show drS d i lo hi = [] from by rw [drS, hn], show drF d i = 4 from by rw [drF, hn], show drD d i lo hi = d from by rw [drD, hn]]
    go_enter Tryz.func11, Tryz.ntmps11
    go_wp2_with (go_at_call 40; refine KA.mono ?_; rintro e w1 ⟨rfl, hb1⟩)
    go_ret2
    exact ⟨none, 0, rfl, fun hl => by simp at hl, hsame _ hb1, .below hb1⟩
  · have oko := ok.op y.x (opI_some hopi).1
    have hkl := (List.getElem?_eq_some_iff.1 hk).1
    have hk0 : ¬ (k : Int) < 0 := by omega
    have hkl' : (k : Int) < (es.length : Int) := by omega
    by_cases h100 : 100 ≤ y.x.asked
    · rw [show drS d i lo hi = [] from by rw [drS, hopi]; simp only; rw [if_pos h100], show drF d i = 3 from by rw [drF, hopi]; simp only; rw [if_pos h100], show drD d i lo hi = d from by rw [drD, hopi]; simp only; rw [if_pos h100]]
      obtain ⟨r, cap, rfl, hcap, hrl, hcr, hfr, a0, a1, a2, a3, a4, a5⟩ := h.at hk
      have c4' := fun w1 (hb1 : Below w.heap.size w w1) => (h.step hb1).c4
      have a2' := fun w1 (hb1 : Below w.heap.size w w1) => (hb1.cell (p := ⟨r, k * 6 + 2, none⟩) hrl).trans a2
      clear a0 a1 a2 a3 a4 a5
      go_enter Tryz.func11, Tryz.ntmps11
      go_wp2_with (go_at_call 40; refine KA.mono ?_; rintro e w1 ⟨rfl, hb1⟩; have c4 := c4' w1 hb1; have a2 := a2' w1 hb1)
      go_ret2
      exact ⟨none, 0, rfl, fun hl => by simp at hl, hsame _ hb1, .below hb1⟩
    · obtain ⟨N, hN⟩ : ∃ N, N = rngO d.vs y.x.sees y.x.own lo hi := ⟨_, rfl⟩
      rw [show drS d i lo hi = N from by rw [drS, hopi]; simp only; rw [if_neg h100, hN], show drF d i = 0 from by rw [drF, hopi]; simp only; rw [if_neg h100], show drD d i lo hi = opSet d (askR y.x lo hi) from by rw [drD, hopi]; simp only; rw [if_neg h100]]
      have HN : Hid _ := hN
      clear hN
      obtain ⟨r, cap, rfl, hcap, hrl, hcr, hfr, a0, a1, a2, a3, a4, a5⟩ := h.at hk
      have c4' := fun w1 (hb1 : Below w.heap.size w w1) => (h.step hb1).c4
      have a2' := fun w1 (hb1 : Below w.heap.size w w1) => (hb1.cell (p := ⟨r, k * 6 + 2, none⟩) hrl).trans a2
      have f2' := fun w1 (hb1 : Below w.heap.size w w1) => (hb1.frozen (p := ⟨r, k * 6 + 2, none⟩) hrl).trans (hfr (k * 6 + 2))
      have hal : y.x.spans.length ≤ 1000 := by have := oko.asks; have := oko.a1; omega
      have hask : y.x.asked + 1 ≤ 9223372036854775807 := by have := oko.a1; omega
      have hask0 : 0 ≤ y.x.asked := oko.a0
      clear a0 a1 a2 a3 a4 a5
      have HL : Hid _ := hlen
      clear hlen
      have hk' : ∀ e', (es.set k e')[k]? = some e' := fun e' => List.getElem?_set_self hkl
      go_enter Tryz.func11, Tryz.ntmps11
      go_upto_region 7 with (go_at_call 40; refine KA.mono ?_; rintro e w1 ⟨rfl, hb1⟩; have c4 := c4' w1 hb1; have a2 := a2' w1 hb1; have f2 := f2' w1 hb1)
      go_cut [] from 41 to 60 (fun wy => ∃ pk ck, But (fun j => c j = -2 ∨ c j = 2 * y.x.id + 1) w1 wy ∧ RD wy (rq c (2 * y.x.id + 1) w1 wy) B L Tb (.slice (some ⟨r, 0, none⟩) es.length cap) d.lg d.vs d.top d.last d.ids (es.set k ⟨askR y.x lo hi, y.ks, .slice pk (y.x.spans.length + 1) ck, y.os⟩))
      case first =>
        obtain ⟨W, hW⟩ : ∃ W, W = w1.setCell ⟨r, k * 6 + 2, none⟩ (.int .i64 (y.x.asked + 1)) := ⟨_, rfl⟩
        rw [← hW]
        obtain ⟨pk, ck, w9, hr, f9, k9, W4, W3, w94, b10, R10⟩ := drAskS (h.step hb1) hk hid lo hi hal hW
        have zW : W.heap.size = w1.heap.size := by rw [hW]; simp [World.setCell]
        have s1 := hb1.size
        have hB1 : B < W.heap.size := by rw [zW]; exact (h.step hb1).ltB
        have hBn : ¬ B = W.heap.size := by omega
        have hr1 : r < W.heap.size := by omega
        have hrn : ¬ r = W.heap.size := by omega
        have A4 := (World.cell?_alloc_lt W (.cells #[.string lo, .string hi] 115) ⟨B, 4, none⟩ hB1).trans W4
        have A3 := (World.cell?_alloc_lt W (.cells #[.string lo, .string hi] 115) ⟨r, k * 6 + 4, none⟩ hr1).trans W3
        clear hW zW
        have R : Hid _ := R10
        have BT : Hid _ := b10
        clear R10 b10 c4 a2 f2
        go_region_law (refine step_append_run rfl _ _ 87 rfl rfl rfl hr ?_)
        all_goals (go_wp2_with fail; go_meet; exact ⟨pk, ck, BT.out, R.out⟩)
      case rest =>
        obtain ⟨pk, ck, b10, R10⟩ := hcut
        clear c4' a2' f2' KA hsame c4 a2 f2
        obtain ⟨hrl', a0, a1, a2, a3, a4, a5⟩ := R10.cells (hk' _)
        have c4 := R10.c4
        have c1 := R10.c1
        have a2 : wc.cell? ⟨r, k * 6 + 2, none⟩ = some (.int .i64 (y.x.asked + 1)) := a2
        have a0 : wc.cell? ⟨r, k * 6, none⟩ = some (.int .i64 y.x.id) := a0
        have a1 : wc.cell? ⟨r, k * 6 + 1, none⟩ = some (.int .i64 y.x.sees) := a1
        have a4 : wc.cell? ⟨r, k * 6 + 4, none⟩ = some (.slice pk (y.x.spans.length + 1) ck) := a4
        have oq : OqOk wc _ ⟨askR y.x lo hi, y.ks, .slice pk (y.x.spans.length + 1) ck, y.os⟩ := R10.each _ (List.mem_of_getElem? (hk' _))
        obtain ⟨pa, ca, ea, _, _, _⟩ := lw_form oq.k
        replace ea : y.ks = .slice pa y.x.keys.length ca := ea
        rw [ea] at a3
        have hls : LsE wc _ y.os y.x.own := oq.o
        have hown := oko.own
        have hol : y.x.own.length ≤ 20 := (chF_ok hown).1
        obtain ⟨q, cq, eo, hq1, hq2, h4⟩ := hls
        rw [eo] at a5
        have KR := refRange lo hi y.x.sees wc.drew ok.tb (R10.step (below_self _).drew).tb (by omega)
        have hrl2 : (vrng d.vs lo hi y.x.sees).length ≤ d.vs.length := vrng_len _ _ _ _
        have E := fun w' (hb2 : Below wc.heap.size wc w') => rd_asked (y' := ⟨askR y.x lo hi, y.ks, .slice pk (y.x.spans.length + 1) ck, y.os⟩) hcF hb1 b10 (fun j q => by have := oko.i1; omega) hb2 ok hop hk rfl R10
        have EH : Hid _ := E
        have hBl := R10.ltB
        have hws : w.heap.size ≤ wc.heap.size := by have := hb1.size; have := b10.size; omega
        have HN2 : Hid (N = (y.x.own.filter (fun c => !c.g && btw lo hi c.k)).foldl (fun r c => insP r (c.k, c.v)) ((vrng d.vs lo hi y.x.sees).filter (fun p => (ownC y.x.own p.1).isNone))) := HN.out
        clear E R10 b10 h hop hk hid hi_ hopi oq eo ea HN
        generalize vrng d.vs lo hi y.x.sees = VR at KR hrl2 HN2
        go_wp2_with fail
        go_region_held3 (fun wy => wy.cell? ⟨B, 1, none⟩ = some (.pointer (some ⟨Tb, 0, none⟩)) ∧ wy.cell? ⟨B, 4, none⟩ = some (.slice (some ⟨r, 0, none⟩) es.length cap) ∧ wy.cell? ⟨r, k * 6 + 1, none⟩ = some (.int .i64 y.x.sees))
          (first | exact ⟨c1, c4, a1⟩ | exact ⟨s1, s4, sa⟩)
          (first | (go_at_call 49; refine KR.mono ?_; rintro e w3 ⟨q3, c3, rfl, hp3, hb3⟩; have s1 := (hb3.cell (p := ⟨B, 1, none⟩) hBl).trans c1; have s4 := (hb3.cell (p := ⟨B, 4, none⟩) hBl).trans c4; have sa := (hb3.cell (p := ⟨r, k * 6 + 1, none⟩) hrl').trans a1))
        have b3 : Below wc.heap.size wc w3 := below_via (below_self wc).drew hb3
        have h43 := h4.step b3
        have t4 := s4
        have t0 := (b3.cell (p := ⟨r, k * 6, none⟩) hrl').trans a0
        have t1 := (b3.cell (p := ⟨r, k * 6 + 1, none⟩) hrl').trans a1
        have t2 := (b3.cell (p := ⟨r, k * 6 + 2, none⟩) hrl').trans a2
        have t3 := (b3.cell (p := ⟨r, k * 6 + 3, none⟩) hrl').trans a3
        have t5 := (b3.cell (p := ⟨r, k * 6 + 4, none⟩) hrl').trans a4
        have t6 := (b3.cell (p := ⟨r, k * 6 + 5, none⟩) hrl').trans a5
        have hB3 : B < w3.heap.size := by have := b3.size; omega
        have hr3 : r < w3.heap.size := by have := b3.size; omega
        clear s1 s4 sa c1 c4 a0 a1 a2 a3 a4 a5 h4 hb3 KR
        go_wp2_with fail
        go_loopw [12, 13] (fun v a wr => ∃ (n : Nat) (o : List Pr), n ≤ VR.length ∧ a = .int .i64 n ∧ o.length ≤ n ∧ Hid (o = (VR.take n).filter (fun p => (ownC y.x.own p.1).isNone)) ∧ wr.ownsRow w3.heap.size 118 2 v o.length (prV o) ∧ Below w3.heap.size w3 wr) (fun _ a _ => VR.length - (intOf a).toNat)
        case atStart => exact ⟨0, [], by omega, rfl, by simp, (by show _ = _; rfl), World.ownsRow_nil _ _ _ _, below_self _⟩
        case round =>
          obtain ⟨n, o, hn, rfl, hon, hM, hrow, hb⟩ := hrel
          have hsz := hb.size
          by_cases hlt : n < VR.length
          · have hlt' : (n : Int) < (VR.length : Int) := by omega
            obtain ⟨z, hz⟩ := Vs.getsome hlt
            obtain ⟨bv, vo, rfl, hbv, hvc⟩ := hp3 (by omega)
            obtain ⟨d0, d1⟩ := hvc n z hz
            have e0 := (hb.cell (p := ⟨bv, vo + n * 2, none⟩) hbv).trans d0
            have e1 := (hb.cell (p := ⟨bv, vo + n * 2 + 1, none⟩) hbv).trans d1
            have u4 := (hb.cell (p := ⟨B, 4, none⟩) hB3).trans t4
            have u0 := (hb.cell (p := ⟨r, k * 6, none⟩) hr3).trans t0
            have u1 := (hb.cell (p := ⟨r, k * 6 + 1, none⟩) hr3).trans t1
            have u2 := (hb.cell (p := ⟨r, k * 6 + 2, none⟩) hr3).trans t2
            have u3 := (hb.cell (p := ⟨r, k * 6 + 3, none⟩) hr3).trans t3
            have u5 := (hb.cell (p := ⟨r, k * 6 + 4, none⟩) hr3).trans t5
            have u6 := (hb.cell (p := ⟨r, k * 6 + 5, none⟩) hr3).trans t6
            have hBr : B < wr.heap.size := by omega
            have hrr : r < wr.heap.size := by omega
            have hbvr : bv < wr.heap.size := by omega
            have KO := drOwn (X := _) y.x.id y.x.sees (y.x.asked + 1) (.slice pa y.x.keys.length ca) (.slice pk (y.x.spans.length + 1) ck) (.slice q y.x.own.length cq) y.x.own z.1 ⟨q, cq, rfl, hq1, hq2, h43.step hb.drew⟩ (by omega)
            have hft := filt_take (fun p : Pr => (ownC y.x.own p.1).isNone) VR n z hz
            cases hc : ownC y.x.own z.1 with
            | none =>
              have KO' : Calls Tryz.prog 42 #[.agg #[.int .i64 y.x.id, .int .i64 y.x.sees, .int .i64 (y.x.asked + 1), .slice pa y.x.keys.length ca, .slice pk (y.x.spans.length + 1) ck, .slice q y.x.own.length cq], .string z.1] wr.drew fun e w' => e = .returned (.int .i64 (-1)) ∧ Below wr.drew.heap.size wr.drew w' := KO.mono (fun e w' ⟨z', hb⟩ => ⟨by
                rcases z' with ⟨z', _⟩ | ⟨j, x, rfl, hj, hx⟩
                · exact z'
                · exact absurd hx (ownC_none.1 hc x (List.mem_of_getElem? hj)), hb⟩)
              have hM2 : Hid (o ++ [z] = (VR.take (n + 1)).filter (fun p => (ownC y.x.own p.1).isNone)) := by
                show _ = _
                rw [hft, if_pos (by rw [hc]; rfl), ← hM.out]
              clear KO hft hM hc hvc hz d0 d1 hp3 h43
              go_wp2_with fail
              go_region_held3 (fun wy => wy.cell? ⟨B, 4, none⟩ = some (.slice (some ⟨r, 0, none⟩) es.length cap) ∧ wy.cell? ⟨r, k * 6, none⟩ = some (.int .i64 y.x.id) ∧ wy.cell? ⟨r, k * 6 + 1, none⟩ = some (.int .i64 y.x.sees) ∧ wy.cell? ⟨r, k * 6 + 2, none⟩ = some (.int .i64 (y.x.asked + 1)) ∧ wy.cell? ⟨r, k * 6 + 3, none⟩ = some (.slice pa y.x.keys.length ca) ∧ wy.cell? ⟨r, k * 6 + 4, none⟩ = some (.slice pk (y.x.spans.length + 1) ck) ∧ wy.cell? ⟨r, k * 6 + 5, none⟩ = some (.slice q y.x.own.length cq) ∧ wy.cell? ⟨bv, vo + n * 2, none⟩ = some (.string z.1))
                (first | exact ⟨u4, u0, u1, u2, u3, u5, u6, e0⟩ | exact ⟨v4, v0, v1, v2, v3, v5, v6, v7⟩)
                (first | (go_at_call 42; refine KO'.mono ?_; rintro e w5 ⟨rfl, hb5⟩; have v4 := (hb5.cell (p := ⟨B, 4, none⟩) hBr).trans u4; have v0 := (hb5.cell (p := ⟨r, k * 6, none⟩) hrr).trans u0; have v1 := (hb5.cell (p := ⟨r, k * 6 + 1, none⟩) hrr).trans u1; have v2 := (hb5.cell (p := ⟨r, k * 6 + 2, none⟩) hrr).trans u2; have v3 := (hb5.cell (p := ⟨r, k * 6 + 3, none⟩) hrr).trans u3; have v5 := (hb5.cell (p := ⟨r, k * 6 + 4, none⟩) hrr).trans u5; have v6 := (hb5.cell (p := ⟨r, k * 6 + 5, none⟩) hrr).trans u6; have v7 := (hb5.cell (p := ⟨bv, vo + n * 2, none⟩) hbvr).trans e0))
              have e15 := (hb5.cell (p := ⟨bv, vo + n * 2 + 1, none⟩) hbvr).trans e1
              have row5 := row_but (E := fun _ => False) hrow (.below (below_via (below_self wr).drew hb5)) (fun _ _ => id)
              have b5 := below_via hb.drew hb5
              have hs5 := b5.size
              clear v0 v1 v2 v3 v4 v5 v6 u0 u1 u2 u3 u4 u5 u6 KO' hrow e0 e1
              go_wp2_with (at_builtin; refine wpList_append_one 42 118 2 32 _ Tryz.underlying42 infoPair rfl (by decide) (by decide) rfl _ _ rfl w3.heap.size _ o.length (prV o) rfl (row5.alloc _) (by simp; omega) w5.heap.size [.string z.1, .string z.2] rfl rfl (pair_new _ _ _ _) pair_one (by omega) ?_; intro v6 w6 hown6 hgrow6; have hb6 : Below w3.heap.size w3 w6 := (b5.alloc (by simpa using hs5) _).grown hgrow6 (by simp; omega) (fun j hj => (row5.lt j hj).1); have own6 := own_pair hown6)
              exact ⟨⟨n + 1, o ++ [z], by omega, by go_num, by simp; omega, hM2, own6, hb6⟩, by simp [intOf]; omega⟩
            | some x0 =>
              have KO' : Calls Tryz.prog 42 #[.agg #[.int .i64 y.x.id, .int .i64 y.x.sees, .int .i64 (y.x.asked + 1), .slice pa y.x.keys.length ca, .slice pk (y.x.spans.length + 1) ck, .slice q y.x.own.length cq], .string z.1] wr.drew fun e w' => (∃ j : Nat, e = .returned (.int .i64 (j : Int)) ∧ ¬ (j : Int) < 0) ∧ Below wr.drew.heap.size wr.drew w' := KO.mono (fun e w' ⟨z', hb⟩ => ⟨by
                rcases z' with ⟨_, hn'⟩ | ⟨j, x, rfl, hj, hx⟩
                · rw [hn'] at hc; cases hc
                · exact ⟨j, rfl, by omega⟩, hb⟩)
              have hM2 : Hid (o = (VR.take (n + 1)).filter (fun p => (ownC y.x.own p.1).isNone)) := by
                show _ = _
                rw [hft, if_neg (by rw [hc]; simp), List.append_nil, ← hM.out]
              clear KO hft hM hc hvc hz d0 d1 hp3 h43
              go_wp2_with fail
              go_region_held3 (fun wy => wy.cell? ⟨B, 4, none⟩ = some (.slice (some ⟨r, 0, none⟩) es.length cap) ∧ wy.cell? ⟨r, k * 6, none⟩ = some (.int .i64 y.x.id) ∧ wy.cell? ⟨r, k * 6 + 1, none⟩ = some (.int .i64 y.x.sees) ∧ wy.cell? ⟨r, k * 6 + 2, none⟩ = some (.int .i64 (y.x.asked + 1)) ∧ wy.cell? ⟨r, k * 6 + 3, none⟩ = some (.slice pa y.x.keys.length ca) ∧ wy.cell? ⟨r, k * 6 + 4, none⟩ = some (.slice pk (y.x.spans.length + 1) ck) ∧ wy.cell? ⟨r, k * 6 + 5, none⟩ = some (.slice q y.x.own.length cq) ∧ wy.cell? ⟨bv, vo + n * 2, none⟩ = some (.string z.1))
                (first | exact ⟨u4, u0, u1, u2, u3, u5, u6, e0⟩ | exact ⟨v4, v0, v1, v2, v3, v5, v6, v7⟩)
                (first | (go_at_call 42; refine KO'.mono ?_; rintro e w5 ⟨⟨j5, rfl, hj5⟩, hb5⟩; have v4 := (hb5.cell (p := ⟨B, 4, none⟩) hBr).trans u4; have v0 := (hb5.cell (p := ⟨r, k * 6, none⟩) hrr).trans u0; have v1 := (hb5.cell (p := ⟨r, k * 6 + 1, none⟩) hrr).trans u1; have v2 := (hb5.cell (p := ⟨r, k * 6 + 2, none⟩) hrr).trans u2; have v3 := (hb5.cell (p := ⟨r, k * 6 + 3, none⟩) hrr).trans u3; have v5 := (hb5.cell (p := ⟨r, k * 6 + 4, none⟩) hrr).trans u5; have v6 := (hb5.cell (p := ⟨r, k * 6 + 5, none⟩) hrr).trans u6; have v7 := (hb5.cell (p := ⟨bv, vo + n * 2, none⟩) hbvr).trans e0))
              have row5 := row_but (E := fun _ => False) hrow (.below (below_via (below_self wr).drew hb5)) (fun _ _ => id)
              have b5 := below_via hb.drew hb5
              clear v0 v1 v2 v3 v4 v5 v6 v7 u0 u1 u2 u3 u4 u5 u6 KO' hrow e0 e1
              go_wp2_with fail
              exact ⟨⟨n + 1, o, by omega, by go_num, by omega, hM2, row5, b5⟩, by simp [intOf]; omega⟩
          · have hlt' : ¬ (n : Int) < (VR.length : Int) := by omega
            have hE : Hid (N = ((y.x.own.drop 0).filter (fun c => !c.g && btw lo hi c.k)).foldl (fun r c => insP r (c.k, c.v)) o) := by
              show _ = _
              rw [HN2.out, hM.out, List.take_of_length_le (by omega)]; rfl
            obtain ⟨qo, co, rfl⟩ := own_form hrow
            have hpo : PrIn (fun j => w.heap.size ≤ j) wr qo o := (prIn_own hrow).2.mono (fun j _ q => by have := b3.size; have q' : w3.heap.size ≤ j := q; omega)
            obtain ⟨wx, hwx⟩ : ∃ q, q = wr := ⟨_, rfl⟩
            subst hwx
            have bx : Below wc.heap.size wc wx := below_via b3 hb
            have h4x := h43.step hb
            have u4 := (hb.cell (p := ⟨B, 4, none⟩) hB3).trans t4
            have u6 := (hb.cell (p := ⟨r, k * 6 + 5, none⟩) hr3).trans t6
            have hBx : B < wx.heap.size := by omega
            have hrx : r < wx.heap.size := by omega
            clear t0 t1 t2 t3 t4 t5 t6 hM HN2 hrow h43 hp3 hb hlt
            go_wp2_with fail
            go_loopw [12, 14] (fun v a wr => ∃ (m : Nat) (s : List Pr) (qs : Option Addr) (cs : Nat), m ≤ y.x.own.length ∧ a = .int .i64 m ∧ v = .slice qs s.length cs ∧ s.length ≤ o.length + m ∧ PrIn (fun j => w.heap.size ≤ j) wr qs s ∧ Hid (N = ((y.x.own.drop m).filter (fun c => !c.g && btw lo hi c.k)).foldl (fun r c => insP r (c.k, c.v)) s) ∧ Below wx.heap.size wx wr) (fun _ a _ => y.x.own.length - (intOf a).toNat)
            case atStart => exact ⟨0, o, qo, co, by omega, rfl, rfl, by omega, hpo, hE, below_self _⟩
            case round =>
              obtain ⟨m, s, qs, cs, hm, rfl, rfl, hsl, hps, hE2, hbr⟩ := hrel
              have k4 := (hbr.cell (p := ⟨B, 4, none⟩) hBx).trans u4
              have k6 := (hbr.cell (p := ⟨r, k * 6 + 5, none⟩) hrx).trans u6
              have hszr := hbr.size
              by_cases hltm : m < y.x.own.length
              · have hltm' : (m : Int) < (y.x.own.length : Int) := by omega
                obtain ⟨z, hz⟩ := Vs.getsome hltm
                obtain ⟨bq, oq, rfl, hbq, _, hcs⟩ := h4x (by omega)
                obtain ⟨d0, d1, d2⟩ := hcs m z hz
                have e0 := (hbr.cell (p := ⟨bq, oq + m * 3, none⟩) hbq).trans d0
                have e1 := (hbr.cell (p := ⟨bq, oq + m * 3 + 1, none⟩) hbq).trans d1
                have e2 := (hbr.cell (p := ⟨bq, oq + m * 3 + 2, none⟩) hbq).trans d2
                have hst : Hid _ := hE2.out.trans (foldC_drop hz s)
                have bA := below_al (below_self wr) (.cells #[.string z.k, .string z.v, .bool z.g] 50)
                have bAx := below_al hbr (.cells #[.string z.k, .string z.v, .bool z.g] 50)
                have hpA := hps.step bA
                clear hcs hz d0 d1 d2 hE2 hE
                cases g3 : z.g
                · cases g1 : bl z.k lo
                  · cases g2 : bl z.k hi
                    · have R : Hid _ := hst.out.trans (by rw [if_neg (by simp [btw, g3, g1, g2])])
                      have g2' : Op.bytesLess z.k.toList hi.toList = false := g2
                      have g1' : Op.bytesLess z.k.toList lo.toList = false := g1
                      rw [g3] at e2 bA bAx hpA
                      clear hst g1 g2
                      go_wp2_with fail
                      exact ⟨⟨m + 1, s, qs, cs, by omega, by go_num, rfl, by omega, hpA, R, bAx⟩, by simp [intOf]; omega⟩
                    · have R : Hid _ := hst.out.trans (by rw [if_pos (by simp [btw, g3, g1, g2])])
                      have g2' : Op.bytesLess z.k.toList hi.toList = true := g2
                      have g1' : Op.bytesLess z.k.toList lo.toList = false := g1
                      rw [g3] at e2 bA bAx hpA
                      clear hst g1 g2
                      go_wp2_with (go_at_call 50; refine (refInsert s z.k z.v qs cs _ (by omega) hpA.at).mono ?_; rintro e w7 ⟨v7, rfl, hown7, hb7⟩)
                      obtain ⟨q7, c7, rfl⟩ := own_form hown7
                      exact ⟨⟨m + 1, insP s (z.k, z.v), q7, c7, by omega, by go_num, rfl, by rw [Vs.len_insP]; omega, (prIn_own hown7).2.mono (fun j _ q => by have := bx.size; have q' : _ ≤ j := q; simp at q'; omega), R, below_via bAx hb7⟩, by simp [intOf]; omega⟩
                  · have R : Hid _ := hst.out.trans (by rw [if_neg (by simp [btw, g3, g1])])
                    have g1' : Op.bytesLess z.k.toList lo.toList = true := g1
                    rw [g3] at e2 bA bAx hpA
                    clear hst g1
                    go_wp2_with fail
                    exact ⟨⟨m + 1, s, qs, cs, by omega, by go_num, rfl, by omega, hpA, R, bAx⟩, by simp [intOf]; omega⟩
                · have R : Hid _ := hst.out.trans (by rw [if_neg (by simp [g3])])
                  rw [g3] at e2 bA bAx hpA
                  clear hst
                  go_wp2_with fail
                  exact ⟨⟨m + 1, s, qs, cs, by omega, by go_num, rfl, by omega, hpA, R, bAx⟩, by simp [intOf]; omega⟩
              · have hltm' : ¬ (m : Int) < (y.x.own.length : Int) := by omega
                have hF : Hid (N = s) := by
                  show _ = _
                  rw [hE2.out, List.drop_eq_nil_of_le (by omega)]; rfl
                clear hE2 hE h4x
                go_wp2_with fail
                go_ret2
                first
                  | exact ⟨qs, ⟨cs, by rw [hF.out]; rfl⟩, by rw [hF.out]; exact hps, EH.out _ (below_via bx hbr)⟩
                  | exact ⟨qs, cs, by rw [hF.out]; rfl, by rw [hF.out]; exact hps, EH.out _ (below_via bx hbr)⟩
end Go.Proofs.YteipfdjpndhgkaaGreatDoor
