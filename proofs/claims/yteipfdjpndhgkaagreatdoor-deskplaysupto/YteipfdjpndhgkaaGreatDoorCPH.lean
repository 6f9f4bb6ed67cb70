/- The reference's desk: Tidy. -/
import Derived.Test.YteipfdjpndhgkaaGreatDoorCPE
import Derived.Test.YteipfdjpndhgkaaGreatDoorCPR
import Derived.Test.YteipfdjpndhgkaaGreatDoorCMM
import Derived.Test.YteipfdjpndhgkaaGreatDoorCPL
import Derived.Test.YteipfdjpndhgkaaGreatDoorCMC
namespace Go.Proofs.YteipfdjpndhgkaaGreatDoor
open Go.RowKit Vs

/-- The table has changed; what is new is its own. -/
theorem RD.tset {w w' : World} {c : Nat → Int} {B L Tb : Nat} {v : Value} {g : Lg} {vs vs' : List Ver} {top top' last ids : Int} {es : List Oq} (h : RD w c B L Tb v g vs top last ids es) (hb : But (fun j => j = Tb) w w') (ht : RT w' (fun k => c k = -4 ∨ (w.heap.size ≤ k ∧ k < w'.heap.size)) Tb vs' top') : RD w' (rq c (-4) w w') B L Tb v g vs' top' last ids es := by
  have cT : c Tb = -4 := h.tb.gB
  have hn : ∀ j, c j ≠ -4 → ¬ j = Tb := fun j h1 e => h1 (by rw [e]; exact cT)
  have hs := hb.size
  have hold : ∀ j, c j ≠ 0 → rq c (-4) w w' j = c j := fun j hj => rq_old (h.lt j hj)
  have hlg := h.lg.but hb (fun j e => hn j (by rw [show c j = -3 from e]; decide)) (fun j e => hn j (by rw [show c j = -5 from e]; decide))
  have hB := hn B (by rw [h.cB]; decide)
  refine ⟨by rw [hold B (by rw [h.cB]; decide)]; exact h.cB, (hb.cell (p := ⟨B, 0, none⟩) h.ltB hB).trans h.c0, (hb.cell (p := ⟨B, 1, none⟩) h.ltB hB).trans h.c1, (hb.cell (p := ⟨B, 2, none⟩) h.ltB hB).trans h.c2, (hb.cell (p := ⟨B, 3, none⟩) h.ltB hB).trans h.c3, (hb.cell (p := ⟨B, 4, none⟩) h.ltB hB).trans h.c4, fun i hi => (hb.frozen (p := ⟨B, i, none⟩) h.ltB hB).trans (h.fz i hi), rq_lt h hs _, rl_rq hlg h.lt (rq_lt h hs _), ht.mono (fun j _ e => ?_), row_but h.row hb (fun j hj => hn j (by rw [h.rw_ j hj]; decide)), fun j hj => by rw [rq_old (rd_lt h.row hj).2]; exact h.rw_ j hj, fun e he => ?_⟩
  · rcases e with e | e
    · show rq c (-4) w w' j = -4
      rw [hold j (by rw [e]; decide)]; exact e
    · exact rq_new e
  · have := (h.each e he).one
    exact (h.each e he).but hb (fun j hj q => hn j (by omega)) (fun j hj => rq_old hj)
theorem least_take (a : Int) (l : List Ox) (n : Nat) (o : Ox) (h : l[n]? = some o) : least a (l.take (n + 1)) = if o.sees < least a (l.take n) then o.sees else least a (l.take n) := by
  rw [List.take_add_one, h, least, List.foldl_append]
  rfl
set_option maxRecDepth 100000 in
set_option maxHeartbeats 4000000 in
theorem drTidy {w : World} {F : Nat → Prop} {B : Nat} {d : Dk} (h : RDk w F B d) (ok : OkD d) (sm : Sm d) :
    Calls Tryz.prog 27 #[.pointer (some ⟨B, 0, none⟩)] w fun e w' => e = .returned (.int .i64 (tdN d)) ∧ RDk w' (Nw F w w') B (tdD d) ∧ But F w w' := by
  obtain ⟨c, L, Tb, v, es, h, hop, hcF⟩ := h
  have hvl := sm.vs ok
  have hfew := ok.few
  have hlen : es.length = d.op.length := by rw [← hop, List.length_map]
  obtain ⟨p, cap, rfl, hcap, hcm, _⟩ := lw_form h.row
  have c1 := h.c1
  have c2 := h.c2
  have c4 := h.c4
  have KC := refCollect (least d.last d.op) w ok.tb h.tb (by omega)
  have hat : ∀ (n : Nat) (e : Oq), es[n]? = some e → d.op[n]? = some e.x := fun n e he => by rw [← hop, List.getElem?_map, he]; rfl
  have fin : ∀ w', RT w' (fun k => c k = -4 ∨ (w.heap.size ≤ k ∧ k < w'.heap.size)) Tb (vcol d.vs (least d.last d.op)) d.top → But (fun k => k = Tb) w w' → RDk w' (Nw F w w') B (tdD d) ∧ But F w w' := fun w' ht hb => ⟨⟨_, L, Tb, _, es, h.tset hb ht, hop, rq_F hcF⟩, hb.mono (fun j _ q => hcF j (by rw [q, show c Tb = -4 from h.tb.gB]; decide))⟩
  have HL : Hid _ := hlen
  clear hlen
  go_enter Tryz.func27, Tryz.ntmps27
  go_wp2_with fail
  go_loopw [3, 4] (fun a' i wr => ∃ (n : Nat), n ≤ es.length ∧ i = .int .i64 n ∧ a' = .int .i64 (least d.last (d.op.take n)) ∧ wr = w) (fun _ i _ => es.length - (intOf i).toNat)
  case atStart => exact ⟨0, by omega, rfl, rfl, rfl⟩
  case round =>
    obtain ⟨n, hn, rfl, rfl, rfl⟩ := hrel
    by_cases hlt : n < es.length
    · have hlt' : (n : Int) < (es.length : Int) := by omega
      obtain ⟨e, he⟩ : ∃ e, es[n]? = some e := ⟨es[n], List.getElem?_eq_getElem hlt⟩
      obtain ⟨r, cap', hv, _, hr, _, _, _, a1, _⟩ := h.at he
      cases hv
      have hl := least_take d.last d.op n e.x (hat n e he)
      by_cases hc : e.x.sees < least d.last (d.op.take n)
      · have LH : Hid _ := hl.trans (if_pos hc)
        clear hl
        generalize least d.last (d.op.take n) = M at hc LH ⊢
        go_wp2_with fail
        exact ⟨⟨n + 1, by omega, by go_num, by rw [LH.out], trivial⟩, by simp [intOf]; omega⟩
      · have LH : Hid _ := hl.trans (if_neg hc)
        clear hl
        generalize least d.last (d.op.take n) = M at hc LH ⊢
        go_wp2_with fail
        exact ⟨⟨n + 1, by omega, by go_num, by rw [LH.out], trivial⟩, by simp [intOf]; omega⟩
    · have hlt' : ¬ (n : Int) < (es.length : Int) := by omega
      have hl : d.op.take n = d.op := List.take_of_length_le (by rw [← HL.out]; omega)
      rw [hl]
      clear hl
      have FH : Hid _ := fin
      clear fin
      go_wp2_with (go_at_call 71; refine KC.mono ?_; rintro e w1 ⟨rfl, ht, hb⟩)
      go_ret
      exact ⟨rfl, FH.out _ ht hb⟩
end Go.Proofs.YteipfdjpndhgkaaGreatDoor

/- The reference's desk: changes are applied. -/
namespace Go.Proofs.YteipfdjpndhgkaaGreatDoor
open Go.RowKit Vs

theorem rq_rq {c : Nat → Int} {x : Int} {a b e : World} (h1 : a.heap.size ≤ b.heap.size) (h2 : b.heap.size ≤ e.heap.size) : rq (rq c x a b) x b e = rq c x a e := by
  funext j
  unfold rq
  by_cases p : b.heap.size ≤ j ∧ j < e.heap.size
  · rw [if_pos p, if_pos ⟨by omega, p.2⟩]
  · rw [if_neg p]
    by_cases q : a.heap.size ≤ j ∧ j < b.heap.size
    · rw [if_pos q, if_pos ⟨q.1, by omega⟩]
    · rw [if_neg q, if_neg (by omega)]
theorem rq_self {c : Nat → Int} {x : Int} {a b : World} (h : b.heap.size = a.heap.size) : rq c x a b = c := by
  funext j
  unfold rq
  rw [if_neg (by omega)]
set_option maxRecDepth 100000 in
set_option maxHeartbeats 4000000 in
theorem drApply {w : World} {c : Nat → Int} {B L Tb : Nat} {v : Value} {g : Lg} {vs : List Ver} {top last ids : Int} {es : List Oq} {l : List Chg} {q : Option Addr} {m : Nat} (h : RD w c B L Tb v g vs top last ids es) (hl : ChIn w (fun j => c j = -5) q l) (hc : chF l = 0) (h0 : 0 ≤ last) (h1 : last < 1000000) (ht : top ≤ last) (hvl : vs.length ≤ 2000) (okT : OkT vs top) :
    Calls Tryz.prog 58 #[.pointer (some ⟨B, 0, none⟩), .slice q l.length m] w fun e w' => e = .returned (.tuple #[]) ∧ RD w' (rq c (-4) w w') B L Tb v g (shL vs l (last + 1) l.length) (shT top (last + 1) l.length) (last + 1) ids es ∧ But (fun j => j = B ∨ j = Tb) w w' := by
  obtain ⟨hl20, hcw⟩ := chF_ok hc
  obtain ⟨W, hW⟩ : ∃ W, W = w.setCell ⟨B, 2, none⟩ (.int .i64 (last + 1)) := ⟨_, rfl⟩
  have bW : But (fun j => j = B) w W := by rw [hW]; exact setB
  have zW : W.heap.size = w.heap.size := by rw [hW]; simp [World.setCell]
  have R0 : RD W c B L Tb v g vs top (last + 1) ids es := by
    have R := h.turn (v' := v) (last' := last + 1) (ids' := ids) (es' := es) bW (fun j _ e => .inl (by rw [e]; exact h.cB)) (by rw [hW]; exact (World.cell?_setCell_other _ _ _ _ (by intro q; injection q; omega)).trans h.c0) (by rw [hW]; exact (World.cell?_setCell_other _ _ _ _ (by intro q; injection q; omega)).trans h.c1) (by rw [hW]; exact World.cell?_setCell_same _ _ _ h.c2) (by rw [hW]; exact (World.cell?_setCell_other _ _ _ _ (by intro q; injection q; omega)).trans h.c3) (by rw [hW]; exact (World.cell?_setCell_other _ _ _ _ (by intro q; injection q; omega)).trans h.c4) (fun i hi => by rw [hW]; simpa using h.fz i hi) (row_but h.row bW (fun j hj q => by have := h.rw_ j hj; rw [q, h.cB] at this; cases this)) (fun j hj => by rw [rq_old (rd_lt h.row hj).2]; exact h.rw_ j hj) (fun e he => .inl he)
    rw [rq_self zW] at R
    exact R
  have hlW : ChIn W (fun j => c j = -5) q l := hl.but bW (fun j hj e q => by have e' : c j = -5 := e; rw [q, h.cB] at e'; cases e')
  have c2 := h.c2
  have f2 := h.fz 2 (by decide)
  have hN1 : last + 1 ≤ 9223372036854775807 := by omega
  have cT : c Tb = -4 := h.tb.gB
  have cB := h.cB
  have hBT : B ≠ Tb := fun q => by rw [q, cT] at cB; cases cB
  have hBW : B < W.heap.size := R0.ltB
  have fin : ∀ wr, RD wr (rq c (-4) W wr) B L Tb v g (shL vs l (last + 1) l.length) (shT top (last + 1) l.length) (last + 1) ids es → But (fun j => j = Tb) W wr → RD wr (rq c (-4) w wr) B L Tb v g (shL vs l (last + 1) l.length) (shT top (last + 1) l.length) (last + 1) ids es ∧ But (fun j => j = B ∨ j = Tb) w wr := fun wr R b => ⟨by
    have : rq c (-4) W wr = rq c (-4) w wr := by unfold rq; rw [zW]
    rw [← this]; exact R, (bW.mono (fun j _ q => .inl q)).then b (fun j _ q => .inr q)⟩
  have FH : Hid _ := fin
  clear fin
  go_enter Tryz.func58, Tryz.ntmps58
  go_wp2_with fail
  rw [← hW]
  clear hW zW bW h c2 f2 hl
  go_loopw [4] (fun i wr => ∃ (n : Nat), n ≤ l.length ∧ i = .int .i64 n ∧ RD wr (rq c (-4) W wr) B L Tb v g (shL vs l (last + 1) n) (shT top (last + 1) n) (last + 1) ids es ∧ But (fun j => j = Tb) W wr) (fun i _ => l.length - (intOf i).toNat)
  case atStart => exact ⟨0, by omega, rfl, by rw [rq_self rfl]; simpa [shL, shT] using R0, But.refl _ _⟩
  case round =>
    obtain ⟨n, hn, rfl, R, hb⟩ := hrel
    by_cases hlt : n < l.length
    · have hlt' : (n : Int) < (l.length : Int) := by omega
      obtain ⟨z, hz⟩ : ∃ z, l[n]? = some z := ⟨l[n], List.getElem?_eq_getElem hlt⟩
      obtain ⟨b, off, rfl, hbl, hb5, hcs⟩ := hlW (by omega)
      obtain ⟨d0, d1, d2⟩ := hcs n z hz
      have hbT : ¬ b = Tb := fun q => by have e' : c b = -5 := hb5; rw [q, cT] at e'; cases e'
      have f0 := (hb.cell (p := ⟨b, off + n * 3, none⟩) hbl hbT).trans d0
      have f1 := (hb.cell (p := ⟨b, off + n * 3 + 1, none⟩) hbl hbT).trans d1
      have f2 := (hb.cell (p := ⟨b, off + n * 3 + 2, none⟩) hbl hbT).trans d2
      have r1 := R.c1
      have r2 := R.c2
      obtain ⟨st1, st2, st3⟩ := sh_step (n := last + 1) okT hc (by omega) (by omega) hz
      have hln := shL_len vs l (last + 1) n
      have K := refPut ⟨z.k, z.v, last + 1, z.g⟩ wr.drew (R.tb.step (below_self wr).drew) (by omega)
      rw [show ptL (shL vs l (last + 1) n) (shT top (last + 1) n) ⟨z.k, z.v, last + 1, z.g⟩ = shL vs l (last + 1) (n + 1) from (if_pos st1).trans st2, show ptT (shT top (last + 1) n) ⟨z.k, z.v, last + 1, z.g⟩ = shT top (last + 1) (n + 1) from (if_pos st1).trans st3.symm] at K
      have hsz := hb.size
      have nx : ∀ w5, RT w5 (fun k => rq c (-4) W wr k = -4 ∨ (wr.drew.heap.size ≤ k ∧ k < w5.heap.size)) Tb (shL vs l (last + 1) (n + 1)) (shT top (last + 1) (n + 1)) → But (fun k => k = Tb) wr.drew w5 → (RD w5 (rq c (-4) W w5) B L Tb v g (shL vs l (last + 1) (n + 1)) (shT top (last + 1) (n + 1)) (last + 1) ids es ∧ But (fun j => j = Tb) W w5) := fun w5 hT b5 => ⟨by
        have R5 := (R.step (below_self wr).drew).tset b5 hT
        have b5s := b5.size
        rw [show rq (rq c (-4) W wr) (-4) wr.drew w5 = rq c (-4) W w5 from rq_rq (b := wr.drew) hsz b5s] at R5
        exact R5, hb.drew.then b5 (fun j _ q => q)⟩
      have NX : Hid _ := nx
      have hBwr : B < wr.heap.size := R.ltB
      have hbwr : b < wr.heap.size := by omega
      clear nx st1 st2 st3 R R0 FH hcs d0 d1 d2 hlW hz
      go_wp2_with fail
      go_region_held3 (fun wy => wy.cell? ⟨B, 1, none⟩ = some (.pointer (some ⟨Tb, 0, none⟩)) ∧ wy.cell? ⟨B, 2, none⟩ = some (.int .i64 (last + 1)) ∧ wy.cell? ⟨b, off + n * 3, none⟩ = some (.string z.k) ∧ wy.cell? ⟨b, off + n * 3 + 1, none⟩ = some (.string z.v) ∧ wy.cell? ⟨b, off + n * 3 + 2, none⟩ = some (.bool z.g))
        (first | exact ⟨r1, r2, f0, f1, f2⟩ | exact ⟨s1, s2, s3, s4, s5⟩)
        (first | (go_at_call 91; refine K.mono ?_; rintro e w5 ⟨rfl, hT5, b5⟩; have s1 := (b5.cell (p := ⟨B, 1, none⟩) hBwr hBT).trans r1; have s2 := (b5.cell (p := ⟨B, 2, none⟩) hBwr hBT).trans r2; have s3 := (b5.cell (p := ⟨b, off + n * 3, none⟩) hbwr hbT).trans f0; have s4 := (b5.cell (p := ⟨b, off + n * 3 + 1, none⟩) hbwr hbT).trans f1; have s5 := (b5.cell (p := ⟨b, off + n * 3 + 2, none⟩) hbwr hbT).trans f2))
      clear s1 s2 s3 s4 s5 r1 r2 f0 f1 f2
      go_wp2_with fail
      obtain ⟨R5, B5⟩ := NX.out _ hT5 b5
      exact ⟨⟨n + 1, by omega, by go_num, R5, B5⟩, by simp [intOf]; omega⟩
    · have hlt' : ¬ (n : Int) < (l.length : Int) := by omega
      have hnl : n = l.length := by omega
      subst hnl
      have RH : Hid _ := FH.out _ R hb
      clear R hb R0 FH hlW
      go_wp2_with fail
      go_end0
      exact ⟨rfl, RH.out⟩
end Go.Proofs.YteipfdjpndhgkaaGreatDoor

/- The reference's desk: since; a new desk. -/
namespace Go.Proofs.YteipfdjpndhgkaaGreatDoor
open Go.RowKit Vs

set_option maxRecDepth 100000 in
theorem drSince {w : World} {c : Nat → Int} {B L Tb : Nat} {v : Value} {g : Lg} {vs : List Ver} {top last ids : Int} {es : List Oq} (h : RD w c B L Tb v g vs top last ids es) (hvl : vs.length ≤ 2000) (k : ByteArray) (a : Int) (hk : k.size < 9223372036854775807) :
    Calls Tryz.prog 55 #[.pointer (some ⟨B, 0, none⟩), .string k, .int .i64 a] w fun e w' => e = .returned (.bool (snc vs k a)) ∧ Below w.heap.size w w' := by
  have K := fun w1 (hb : Below w.heap.size w w1) => refTouched k (kz k) a w1 (h.step hb).tb (by omega)
  rw [vtch_kz, ← kz_add] at K
  have c1 := h.c1
  generalize snc vs k a = S at K ⊢
  go_enter Tryz.func55, Tryz.ntmps55
  go_wp2_with (go_at_call 56; refine (K _ (below_self w)).mono ?_; rintro e w1 ⟨rfl, hb1⟩)
  go_ret
  exact ⟨rfl, hb1⟩
end Go.Proofs.YteipfdjpndhgkaaGreatDoor

/- The reference's desk: a transaction has changed something. -/
namespace Go.Proofs.YteipfdjpndhgkaaGreatDoor
open Go.RowKit Vs

theorem drSetOwn {w w6 : World} {c : Nat → Int} {B L Tb r cap k m : Nat} {g : Lg} {vs : List Ver} {top last ids : Int} {es : List Oq} {e : Oq} {p : Option Addr} {R : List Chg} (h : RD w c B L Tb (.slice (some ⟨r, 0, none⟩) es.length cap) g vs top last ids es) (hk : es[k]? = some e) (hid : ∀ (j : Nat) (y : Oq), es[j]? = some y → j ≠ k → y.x.id ≠ e.x.id) (hb : Below w.heap.size w w6) (own6 : w6.ownsRow w.heap.size 50 3 (.slice p R.length m) R.length (chV R)) :
    But (fun j => c j = -2) w (w6.setCell ⟨r, k * 6 + 5, none⟩ (.slice p R.length m)) ∧ RD (w6.setCell ⟨r, k * 6 + 5, none⟩ (.slice p R.length m)) (rq c (-5) w (w6.setCell ⟨r, k * 6 + 5, none⟩ (.slice p R.length m))) B L Tb (.slice (some ⟨r, 0, none⟩) es.length cap) g vs top last ids (es.set k ⟨{ e.x with own := R }, e.ks, e.ss, .slice p R.length m⟩) := by
  obtain ⟨r', cap', hv, hcap, hrl, hcr, hfr, a0, a1, a2, a3, a4, a5⟩ := h.at hk
  cases hv
  have he := h.each e (List.mem_of_getElem? hk)
  have h1 := he.one
  have hkl := (List.getElem?_eq_some_iff.1 hk).1
  have hs := hb.size
  have b7 : But (fun j => c j = -2) w (w6.setCell ⟨r, k * 6 + 5, none⟩ (.slice p R.length m)) := (But.below hb : But (fun j => c j = -2) w w6).setCell (p := ⟨r, k * 6 + 5, none⟩) (.inl hcr) _
  have row6 := row_but (E := fun _ => False) h.row (.below hb) (fun _ _ => id)
  have row7 := own_put (j := k * 6 + 5) (u := .slice p R.length m) row6 (by rw [encO_len]; omega)
  refine ⟨b7, h.puto (-5) hk hid b7 (fun j _ q => .inl q) ?_ ?_⟩
  · rw [flat_set (k := 6) (x' := ⟨{ e.x with own := R }, e.ks, e.ss, .slice p R.length m⟩) (fun _ => rfl) (by decide) es k e hk rfl] at row7
    exact row7
  · refine ⟨h1, row_but he.k b7 (fun j hj q => by have := he.kc j hj; omega), fun j hj => by rw [rq_old (rd_lt he.k hj).2]; exact he.kc j hj, row_but he.s b7 (fun j hj q => by have := he.sc j hj; omega), fun j hj => by rw [rq_old (rd_lt he.s hj).2]; exact he.sc j hj, ?_⟩
    have own7 := row_but own6 (setB (B := r) (i := k * 6 + 5) (v := .slice p R.length m)) (fun j hj q => by have := (rd_lt own6 hj).1; omega)
    obtain ⟨p', m', q1, q2, q3, q4⟩ := lw_form own7
    cases q1
    refine ⟨p, m, rfl, q2, q3, fun hl => ?_⟩
    obtain ⟨gb, rfl⟩ := q4 hl
    obtain ⟨b, off, s1, s2, s3⟩ := (chAt_own own7).2 hl
    cases s1
    have := rd_lt own6 (j := gb) rfl
    exact ⟨gb, 0, rfl, s2, rq_new ⟨this.1, by simp [World.setCell]; omega⟩, s3⟩
theorem insC_step (x c : Chg) (r : List Chg) : insC (x :: r) c = if c.k = x.k then c :: r else if bl c.k x.k = true then c :: x :: r else x :: insC r c := rfl
set_option maxRecDepth 100000 in
set_option maxHeartbeats 4000000 in
theorem drChange {w : World} {F : Nat → Prop} {B : Nat} {d : Dk} (i : Int) (x : Chg) (h : RDk w F B d) (ok : OkD d) :
    Calls Tryz.prog 14 #[.pointer (some ⟨B, 0, none⟩), .int .i64 i, .agg #[.string x.k, .string x.v, .bool x.g]] w fun e w' => e = .returned (.int .i64 (dcF d i x)) ∧ RDk w' (Nw F w w') B (dcD d i x) ∧ But F w w' := by
  obtain ⟨c, L, Tb, v, es, h, hop, hcF⟩ := h
  have hfew := ok.few
  have hlen : es.length = d.op.length := by rw [← hop, List.length_map]
  have hsame : ∀ w', Below w.heap.size w w' → RDk w' (Nw F w w') B d := fun w' hb => ⟨c, L, Tb, v, es, h.step hb, hop, fun j hj => .inl (hcF j hj)⟩
  obtain ⟨w0, hw0⟩ : ∃ w0, w0 = w.alloc (.cells #[.string x.k, .string x.v, .bool x.g] 50) := ⟨_, rfl⟩
  have hb0 : Below w.heap.size w w0 := by rw [hw0]; exact below_al (below_self w) _
  have hs0 : w.heap.size < w0.heap.size := by rw [hw0]; simp
  have n0 : w0.cell? ⟨w.heap.size, 0, none⟩ = some (.string x.k) := by rw [hw0]; simp
  have n1 : w0.cell? ⟨w.heap.size, 1, none⟩ = some (.string x.v) := by rw [hw0]; simp
  have n2 : w0.cell? ⟨w.heap.size, 2, none⟩ = some (.bool x.g) := by rw [hw0]; simp
  have h0 := h.step hb0
  have KF := fun w' => keyFault x.k x.v w'
  rcases drFind (i := i) h0 ok hop with ⟨hn, KA⟩ | ⟨k, y, hk, hi, hopi, hid, KA⟩
  · rw [show dcF d i x = 4 from by rw [dcF, hn], show dcD d i x = d from by rw [dcD, hn]]
    rw [hw0] at KA hb0
    clear hw0 n0 n1 n2 h0 hs0
    go_enter Tryz.func14, Tryz.ntmps14
    go_wp2_with (go_at_call 40; refine KA.mono ?_; rintro e w1 ⟨rfl, hb1⟩)
    go_ret
    exact ⟨rfl, hsame _ (below_via hb0 hb1), .below (below_via hb0 hb1)⟩
  · have hk0 : ¬ (k : Int) < 0 := by omega
    have m0 := fun w1 (hb1 : Below w0.heap.size w0 w1) => (hb1.cell (p := ⟨w.heap.size, 0, none⟩) hs0).trans n0
    have m1 := fun w1 (hb1 : Below w0.heap.size w0 w1) => (hb1.cell (p := ⟨w.heap.size, 1, none⟩) hs0).trans n1
    have m2 := fun w1 (hb1 : Below w0.heap.size w0 w1) => (hb1.cell (p := ⟨w.heap.size, 2, none⟩) hs0).trans n2
    by_cases hs : shF x.k x.v = 0
    · have oko := ok.op y.x (opI_some hopi).1
      have hown := oko.own
      have hol : y.x.own.length ≤ 20 := (chF_ok hown).1
      have hris := chF_ris hown
      have e1 : dcF d i x = (if 20 < (insC y.x.own x).length then 3 else 0) := by rw [dcF, hopi]; simp only; rw [if_pos hs]
      have e2 : dcD d i x = (if 20 < (insC y.x.own x).length then d else opSet d { y.x with own := insC y.x.own x }) := by rw [dcD, hopi]; simp only; rw [if_pos hs]
      have hkl := (List.getElem?_eq_some_iff.1 hk).1
      have hkl' : (k : Int) < (es.length : Int) := by omega
      have hRl := len_insC y.x.own x
      obtain ⟨R, hR⟩ : ∃ R, R = insC y.x.own x := ⟨_, rfl⟩
      rw [← hR] at e1 e2 hRl
      replace hR : Hid (R = [] ++ insC (y.x.own.drop 0) x) := hR
      have E1 : Hid _ := e1
      have E2 : Hid _ := e2
      obtain ⟨r, cap, rfl, hcap, hrl, hcr, hfr, -, -, -, -, -, a5⟩ := h0.at hk
      obtain ⟨q, cq, eo, hq1, hq2, h4⟩ := (h0.each y (List.mem_of_getElem? hk)).o
      rw [eo] at a5
      rw [hs] at KF
      have c4 := h0.c4
      have c4' := fun w1 (hb1 : Below w0.heap.size w0 w1) => (hb1.cell (p := ⟨B, 4, none⟩) h0.ltB).trans c4
      have a5' := fun w1 (hb1 : Below w0.heap.size w0 w1) => (hb1.cell (p := ⟨r, k * 6 + 5, none⟩) hrl).trans a5
      have f5' := fun w1 (hb1 : Below w0.heap.size w0 w1) => (hb1.frozen (p := ⟨r, k * 6 + 5, none⟩) hrl).trans (hfr (k * 6 + 5))
      have HL : Hid _ := hlen
      clear hlen e1 e2 hs eo a5 c4
      go_enter Tryz.func14, Tryz.ntmps14
      go_upto_block 0 with (first
        | (go_at_call 40; rw [← hw0]; refine KA.mono ?_; rintro e w1 ⟨rfl, hb1⟩; have k0 := m0 w1 hb1; have k1 := m1 w1 hb1; have k2 := m2 w1 hb1)
        | (go_at_call 41; refine (KF _).mono ?_; rintro e w2 ⟨rfl, hw⟩; have := hw.symm; subst this))
      have hz1 := hb1.size
      have h41 := h4.step hb1
      have hN1 : w.heap.size < w1.heap.size := by omega
      have c41 := c4' _ hb1
      have a51 := a5' _ hb1
      have f51 := f5' _ hb1
      have hB1 : B < w1.heap.size := (h0.step hb1).ltB
      have hr1 : r < w1.heap.size := by omega
      go_cut [9, 10, 11] from 12 to 71 (fun v dd _ wr => ∃ (o : List Chg) (dn : Bool), dd = .bool dn ∧ o.length ≤ y.x.own.length + 1 ∧ Hid ((dn = false ∧ R = o ++ [x]) ∨ (dn = true ∧ R = o)) ∧ wr.ownsRow w1.heap.size 50 3 v o.length (chV o) ∧ Below w1.heap.size w1 wr)
      case first =>
        clear E1 E2 hsame KA KF m0 m1 m2 n0 n1 n2
        go_wp2_with fail
        go_loopw [9, 10, 11] (fun v dd i wr => ∃ (n : Nat) (o : List Chg) (dn : Bool), n ≤ y.x.own.length ∧ i = .int .i64 n ∧ dd = .bool dn ∧ o.length ≤ n + 1 ∧ Hid ((dn = false ∧ o.length ≤ n ∧ R = o ++ insC (y.x.own.drop n) x) ∨ (dn = true ∧ R = o ++ y.x.own.drop n ∧ ∀ z ∈ y.x.own.drop n, z.k ≠ x.k)) ∧ wr.ownsRow w1.heap.size 50 3 v o.length (chV o) ∧ Below w1.heap.size w1 wr) (fun _ _ i _ => y.x.own.length - (intOf i).toNat)
        case atStart => exact ⟨0, [], false, by omega, rfl, rfl, by simp, .inl ⟨rfl, by simp, hR⟩, World.ownsRow_nil _ _ _ _, Below.refl _ _⟩
        case round =>
          obtain ⟨n, o, dn, hn, rfl, rfl, hol', hM, hown, hbw⟩ := hrel
          have hws := hbw.size
          have c4 := (hbw.cell (p := ⟨B, 4, none⟩) hB1).trans c41
          have a5 := (hbw.cell (p := ⟨r, k * 6 + 5, none⟩) hr1).trans a51
          have e0 := (hbw.cell (p := ⟨w.heap.size, 0, none⟩) hN1).trans k0
          have e1 := (hbw.cell (p := ⟨w.heap.size, 1, none⟩) hN1).trans k1
          have e2 := (hbw.cell (p := ⟨w.heap.size, 2, none⟩) hN1).trans k2
          have hNr : w.heap.size < wr.heap.size := by omega
          have hNn : ¬ w.heap.size = wr.heap.size := by omega
          by_cases hlt : n < y.x.own.length
          · have hlt' : (n : Int) < (y.x.own.length : Int) := by omega
            obtain ⟨b, off, rfl, hbl, _, hc⟩ := h41 (by omega)
            obtain ⟨z, hz⟩ : ∃ z, y.x.own[n]? = some z := ⟨y.x.own[n], List.getElem?_eq_getElem hlt⟩
            obtain ⟨d0, d1, d2⟩ := hc n z hz
            have f0 := (hbw.cell (p := ⟨b, off + n * 3, none⟩) hbl).trans d0
            have f1 := (hbw.cell (p := ⟨b, off + n * 3 + 1, none⟩) hbl).trans d1
            have f2 := (hbw.cell (p := ⟨b, off + n * 3 + 2, none⟩) hbl).trans d2
            have hd := drop_ch hz
            have g1 := leq_bl x.k z.k
            have hgr : ∀ u ∈ y.x.own.drop (n + 1), bl z.k u.k = true := fun u hu => by
              have hp := List.Pairwise.sublist (List.drop_sublist n y.x.own) hris
              rw [hd] at hp
              exact (List.pairwise_cons.1 hp).1 u hu
            rcases hM.out with ⟨rfl, hol2, hM1⟩ | ⟨rfl, hM1, hne⟩
            · rw [hd, insC_step] at hM1
              cases hb : bl z.k x.k
              · rw [hb] at g1
                have g1' : (Op.bytesLess x.k.toList z.k.toList || x.k.toList == z.k.toList) = true := g1
                by_cases he : x.k = z.k
                · have g2 : (z.k.toList == x.k.toList) = true := by rw [he]; simp
                  have hM2 : Hid (R = (o ++ [x]) ++ y.x.own.drop (n + 1) ∧ ∀ u ∈ y.x.own.drop (n + 1), u.k ≠ x.k) := by
                    refine ⟨by rw [hM1, if_pos he]; simp, fun u hu q => ?_⟩
                    have := hgr u hu
                    rw [q, he, bl_irr] at this; cases this
                  clear hM hM1 hd hz hc d0 d1 d2 hR h41 h4 g1 hb hgr he
                  go_wp2_with (first | (at_builtin; refine wpList_append_one 88 50 3 40 _ Tryz.underlying88 infoChg rfl (by decide) (by decide) rfl _ _ rfl w1.heap.size _ o.length (chV o) rfl ((hown.alloc _).alloc _) (by simp; omega) (wr.heap.size + 1) [.string x.k, .string x.v, .bool x.g] rfl rfl (chg_new (by simp)) chg_one (by omega) ?_; intro v2 w2 own2 hg2; have own3 := own_chg own2; have hb2 : Below w1.heap.size w1 w2 := ((hbw.alloc hws _).alloc (by simp; omega) _).grown hg2 (by simp; omega) (fun j hj => (hown.lt j hj).1); have t2 := turned_val hg2; have hz2 := hg2.size; have z0 := (t2.cell (p := ⟨wr.heap.size, 0, none⟩) (by simp; omega) (fun q => by have := (hown.lt _ q).2; simp at this)).trans (show _ = some (Value.string z.k) by simp); have z1 := (t2.cell (p := ⟨wr.heap.size, 1, none⟩) (by simp; omega) (fun q => by have := (hown.lt _ q).2; simp at this)).trans (show _ = some (Value.string z.v) by simp); have z2 := (t2.cell (p := ⟨wr.heap.size, 2, none⟩) (by simp; omega) (fun q => by have := (hown.lt _ q).2; simp at this)).trans (show _ = some (Value.bool z.g) by simp); have kk0 := (hb2.cell (p := ⟨w.heap.size, 0, none⟩) hN1).trans k0; have hM3 := hM2) | go_in)
                  exact ⟨⟨n + 1, o ++ [x], true, by omega, by go_num, rfl, by simp; omega, .inr ⟨rfl, hM2.out⟩, own3, hb2⟩, by simp [intOf]; omega⟩
                · have g2 : (z.k.toList == x.k.toList) = false := beq_eq_false_iff_ne.2 (fun q => he (toL.1 q).symm)
                  have hlx : bl x.k z.k = true := by
                    cases q : bl x.k z.k
                    · exact absurd (bl_tri q hb) he
                    · rfl
                  have hM2 : Hid (R = ((o ++ [x]) ++ [z]) ++ y.x.own.drop (n + 1) ∧ ∀ u ∈ y.x.own.drop (n + 1), u.k ≠ x.k) := by
                    refine ⟨by rw [hM1, if_neg he, if_pos hlx]; simp, fun u hu q => ?_⟩
                    have := bl_trans hlx (hgr u hu)
                    rw [q, bl_irr] at this; cases this
                  clear hM hM1 hd hz hc d0 d1 d2 hR h41 h4 g1 hb hgr hlx
                  go_wp2_with (first | (at_builtin; refine wpList_append_one 88 50 3 40 _ Tryz.underlying88 infoChg rfl (by decide) (by decide) rfl _ _ rfl w1.heap.size _ (o ++ [Vs.Chg.mk x.k x.v x.g]).length (chV (o ++ [Vs.Chg.mk x.k x.v x.g])) rfl (own3.alloc _) (by have := hb2.size; simp; omega) w2.heap.size [.string z.k, .string z.v, .bool z.g] rfl rfl (chg_new rfl) chg_one (by simp; omega) ?_; intro v4 w4 own4 hg4; have own5 := own_chg own4; have hb4 : Below w1.heap.size w1 w4 := (hb2.alloc hb2.size _).grown hg4 (by have := hb2.size; simp; omega) (fun j hj => (own3.lt j hj).1)) | (at_builtin; refine wpList_append_one 88 50 3 40 _ Tryz.underlying88 infoChg rfl (by decide) (by decide) rfl _ _ rfl w1.heap.size _ o.length (chV o) rfl ((hown.alloc _).alloc _) (by simp; omega) (wr.heap.size + 1) [.string x.k, .string x.v, .bool x.g] rfl rfl (chg_new (by simp)) chg_one (by omega) ?_; intro v2 w2 own2 hg2; have own3 := own_chg own2; have hb2 : Below w1.heap.size w1 w2 := ((hbw.alloc hws _).alloc (by simp; omega) _).grown hg2 (by simp; omega) (fun j hj => (hown.lt j hj).1); have t2 := turned_val hg2; have hz2 := hg2.size; have z0 := (t2.cell (p := ⟨wr.heap.size, 0, none⟩) (by simp; omega) (fun q => by have := (hown.lt _ q).2; simp at this)).trans (show _ = some (Value.string z.k) by simp); have z1 := (t2.cell (p := ⟨wr.heap.size, 1, none⟩) (by simp; omega) (fun q => by have := (hown.lt _ q).2; simp at this)).trans (show _ = some (Value.string z.v) by simp); have z2 := (t2.cell (p := ⟨wr.heap.size, 2, none⟩) (by simp; omega) (fun q => by have := (hown.lt _ q).2; simp at this)).trans (show _ = some (Value.bool z.g) by simp); have kk0 := (hb2.cell (p := ⟨w.heap.size, 0, none⟩) hN1).trans k0; have hM3 := hM2) | go_in)
                  exact ⟨⟨n + 1, (o ++ [x]) ++ [z], true, by omega, by go_num, rfl, by simp; omega, .inr ⟨rfl, hM2.out⟩, own5, hb4⟩, by simp [intOf]; omega⟩
              · rw [hb] at g1
                have g1' : (Op.bytesLess x.k.toList z.k.toList || x.k.toList == z.k.toList) = false := g1
                have he : x.k ≠ z.k := fun q => by rw [q, bl_irr] at hb; cases hb
                have g2 : (z.k.toList == x.k.toList) = false := beq_eq_false_iff_ne.2 (fun q => he (toL.1 q).symm)
                have hM2 : Hid (R = (o ++ [z]) ++ insC (y.x.own.drop (n + 1)) x) := by
                  show _ = _
                  rw [hM1, if_neg he, if_neg (by rw [bl_asym hb]; decide)]; simp
                clear hM hM1 hd hz hc d0 d1 d2 hR h41 h4 g1 hb hgr
                go_wp2_with (first | (at_builtin; refine wpList_append_one 88 50 3 40 _ Tryz.underlying88 infoChg rfl (by decide) (by decide) rfl _ _ rfl w1.heap.size _ o.length (chV o) rfl ((hown.alloc _).alloc _) (by simp; omega) (wr.heap.size + 1) [.string z.k, .string z.v, .bool z.g] rfl rfl (chg_new (by simp)) chg_one (by omega) ?_; intro v2 w2 own2 hg2; have own3 := own_chg own2; have hb2 : Below w1.heap.size w1 w2 := ((hbw.alloc hws _).alloc (by simp; omega) _).grown hg2 (by simp; omega) (fun j hj => (hown.lt j hj).1)) | go_in)
                exact ⟨⟨n + 1, o ++ [z], false, by omega, by go_num, rfl, by simp; omega, .inl ⟨rfl, by simp; omega, hM2.out⟩, own3, hb2⟩, by simp [intOf]; omega⟩
            · rw [hd] at hM1 hne
              have he : z.k ≠ x.k := hne z (by simp)
              have g2 : (z.k.toList == x.k.toList) = false := beq_eq_false_iff_ne.2 (fun q => he (toL.1 q))
              have hM2 : Hid (R = (o ++ [z]) ++ y.x.own.drop (n + 1) ∧ ∀ u ∈ y.x.own.drop (n + 1), u.k ≠ x.k) := ⟨by rw [hM1]; simp, fun u hu => hne u (by simp [hu])⟩
              clear hM hM1 hd hz hc d0 d1 d2 hR h41 h4 g1 hgr hne
              go_wp2_with (first | (at_builtin; refine wpList_append_one 88 50 3 40 _ Tryz.underlying88 infoChg rfl (by decide) (by decide) rfl _ _ rfl w1.heap.size _ o.length (chV o) rfl ((hown.alloc _).alloc _) (by simp; omega) (wr.heap.size + 1) [.string z.k, .string z.v, .bool z.g] rfl rfl (chg_new (by simp)) chg_one (by omega) ?_; intro v2 w2 own2 hg2; have own3 := own_chg own2; have hb2 : Below w1.heap.size w1 w2 := ((hbw.alloc hws _).alloc (by simp; omega) _).grown hg2 (by simp; omega) (fun j hj => (hown.lt j hj).1)) | go_in)
              exact ⟨⟨n + 1, o ++ [z], true, by omega, by go_num, rfl, by simp; omega, .inr ⟨rfl, hM2.out⟩, own3, hb2⟩, by simp [intOf]; omega⟩
          · have hE : Hid ((dn = false ∧ R = o ++ [x]) ∨ (dn = true ∧ R = o)) := by
              have hd : y.x.own.drop n = [] := List.drop_eq_nil_of_le (by omega)
              rcases hM.out with ⟨h1, _, h2⟩ | ⟨h1, h2, _⟩
              · exact .inl ⟨h1, by rw [h2, hd]; rfl⟩
              · exact .inr ⟨h1, by rw [h2, hd]; simp⟩
            have hlt' : ¬ (n : Int) < (y.x.own.length : Int) := by omega
            clear hM hR h41 h4
            go_wp2_with fail
            go_meet
            case rel => exact ⟨o, dn, rfl, by omega, hE, hown, hbw⟩
      case rest =>
        obtain ⟨o, dn, rfl, hol', hE, hownr, hbr⟩ := hcut
        have hbx := below_via hb1 hbr
        have c4 := c4' _ hbx
        have a5 := a5' _ hbx
        have f5 := f5' _ hbx
        have k0 := m0 _ hbx
        have k1 := m1 _ hbx
        have k2 := m2 _ hbx
        have hzr := hbr.size
        have no : ∀ w2, Below w1.heap.size w1 w2 → RDk w2 (Nw F w w2) B d ∧ But F w w2 := fun w2 hb => ⟨hsame _ (below_via (below_via hb0 hb1) hb), .below (below_via (below_via hb0 hb1) hb)⟩
        have yes : ∀ (w2 : World) (p2 : Option Addr) (m2 : Nat), w2.ownsRow w1.heap.size 50 3 (.slice p2 R.length m2) R.length (chV R) → Below w1.heap.size w1 w2 → RDk (w2.setCell ⟨r, k * 6 + 5, none⟩ (.slice p2 R.length m2)) (Nw F w (w2.setCell ⟨r, k * 6 + 5, none⟩ (.slice p2 R.length m2))) B (opSet d { y.x with own := R }) ∧ But F w (w2.setCell ⟨r, k * 6 + 5, none⟩ (.slice p2 R.length m2)) := fun w2 p2 m2 ho hb => by
          obtain ⟨b7, R7⟩ := drSetOwn (h0.step hb1) hk hid hb ho
          exact rd_asked (y' := ⟨{ y.x with own := R }, y.ks, y.ss, .slice p2 R.length m2⟩) hcF (below_via hb0 hb1) b7 (fun j q => by omega) (below_self _) ok hop hk rfl R7
        have NO : Hid _ := no
        have YES : Hid _ := yes
        clear no yes m0 m1 m2 c4' a5' f5' n0 n1 n2 KA KF hsame h4 h41
        by_cases h20 : 20 < R.length
        · have h20' : (20 : Int) < (R.length : Int) := by omega
          have EF : Hid (dcF d i x = 3) := by show _ = _; rw [E1.out, if_pos h20]
          have ED : Hid (dcD d i x = d) := by show _ = _; rw [E2.out, if_pos h20]
          clear h20
          rcases hE.out with ⟨rfl, hE'⟩ | ⟨rfl, hE'⟩
          · have EH : Hid _ := hE'
            clear hE hE'
            go_wp2_with (at_builtin; refine wpList_append_one 88 50 3 40 _ Tryz.underlying88 infoChg rfl (by decide) (by decide) rfl _ _ rfl w1.heap.size _ o.length (chV o) rfl (hownr.alloc _) (by simp; omega) wc.heap.size [.string x.k, .string x.v, .bool x.g] rfl rfl (chg_new rfl) chg_one (by omega) ?_; intro v2 w2 own2 hg2; have own3 : w2.ownsRow w1.heap.size 50 3 v2 R.length (chV R) := (by rw [EH.out]; exact own_chg own2); obtain ⟨p2, q2, rfl, _⟩ := lw_form own3; have hb2 : Below w1.heap.size w1 w2 := (hbr.alloc hzr _).grown hg2 (by simp; omega) (fun j hj => (hownr.lt j hj).1))
            go_ret
            exact ⟨congrArg (fun z => Ending.returned (Value.int .i64 z)) EF.out.symm, by rw [ED.out]; exact NO.out _ hb2⟩
          · subst hE'
            clear hE
            obtain ⟨p2, q2, rfl, _⟩ := lw_form hownr
            go_wp2_with fail
            go_ret
            exact ⟨congrArg (fun z => Ending.returned (Value.int .i64 z)) EF.out.symm, by rw [ED.out]; exact NO.out _ hbr⟩
        · have h20' : ¬ (20 : Int) < (R.length : Int) := by omega
          have EF : Hid (dcF d i x = 0) := by show _ = _; rw [E1.out, if_neg h20]
          have ED : Hid (dcD d i x = opSet d { y.x with own := R }) := by show _ = _; rw [E2.out, if_neg h20]
          clear h20
          rcases hE.out with ⟨rfl, hE'⟩ | ⟨rfl, hE'⟩
          · have EH : Hid _ := hE'
            clear hE hE'
            go_wp2_with (at_builtin; refine wpList_append_one 88 50 3 40 _ Tryz.underlying88 infoChg rfl (by decide) (by decide) rfl _ _ rfl w1.heap.size _ o.length (chV o) rfl (hownr.alloc _) (by simp; omega) wc.heap.size [.string x.k, .string x.v, .bool x.g] rfl rfl (chg_new rfl) chg_one (by omega) ?_; intro v2 w2 own2 hg2; have own3 : w2.ownsRow w1.heap.size 50 3 v2 R.length (chV R) := (by rw [EH.out]; exact own_chg own2); obtain ⟨p2, q2, rfl, _⟩ := lw_form own3; have hb2 : Below w1.heap.size w1 w2 := (hbr.alloc hzr _).grown hg2 (by simp; omega) (fun j hj => (hownr.lt j hj).1); have c42 := (hb2.cell (p := ⟨B, 4, none⟩) hB1).trans c41; have a52 := (hb2.cell (p := ⟨r, k * 6 + 5, none⟩) hr1).trans a51; have f52 := (hb2.frozen (p := ⟨r, k * 6 + 5, none⟩) hr1).trans f51)
            go_ret
            exact ⟨congrArg (fun z => Ending.returned (Value.int .i64 z)) EF.out.symm, by rw [ED.out]; exact YES.out _ _ _ own3 hb2⟩
          · subst hE'
            clear hE
            obtain ⟨p2, q2, rfl, _⟩ := lw_form hownr
            go_wp2_with fail
            go_ret
            exact ⟨congrArg (fun z => Ending.returned (Value.int .i64 z)) EF.out.symm, by rw [ED.out]; exact YES.out _ _ _ hownr hbr⟩
    · rw [show dcF d i x = 2 from by rw [dcF, hopi]; simp only; rw [if_neg hs], show dcD d i x = d from by rw [dcD, hopi]; simp only; rw [if_neg hs]]
      rw [(shF_cases x.k x.v).resolve_left hs] at KF
      rw [hw0] at KA hb0 m0 m1
      clear hw0 n0 n1 n2 h0 hs hlen hs0
      go_enter Tryz.func14, Tryz.ntmps14
      go_wp2_with (first
        | (go_at_call 40; refine KA.mono ?_; rintro e w1 ⟨rfl, hb1⟩; have k0 := m0 w1 hb1; have k1 := m1 w1 hb1)
        | (go_at_call 41; refine (KF _).mono ?_; rintro e w2 ⟨rfl, hw⟩; have := hw.symm; subst this))
      go_ret
      exact ⟨rfl, hsame _ (below_via hb0 hb1), .below (below_via hb0 hb1)⟩
end Go.Proofs.YteipfdjpndhgkaaGreatDoor
