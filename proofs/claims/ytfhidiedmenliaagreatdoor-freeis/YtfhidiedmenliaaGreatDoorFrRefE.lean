/- The contract of the reference's GapsOf. -/
import Derived.Test.YtfhidiedmenliaaGreatDoorFrRefB
namespace Bur
/-- Blocks joined to spans, behind one that may be open. -/
def gmo : Option Sp → List Sp → List Sp
  | none, l => gms l
  | some c, l => gm c l
theorem gmo_none (b : Sp) (r : List Sp) : gmo none (b :: r) = gmo (some (b.1, b.1 + sz b.2 - 1)) r := rfl
theorem gmo_join {c b : Sp} (r : List Sp) (h : c.2 = b.1 - 1) : gmo (some c) (b :: r) = gmo (some (c.1, b.1 + sz b.2 - 1)) r := by
  show gm c (b :: r) = _
  rw [gm, if_pos h]; rfl
theorem gmo_apart {c b : Sp} (r : List Sp) (h : ¬ c.2 = b.1 - 1) : gmo (some c) (b :: r) = c :: gmo (some (b.1, b.1 + sz b.2 - 1)) r := by
  show gm c (b :: r) = _
  rw [gm, if_neg h]; rfl
end Bur
namespace Go.Proofs.YtfhidiedmenliaaGreatDoor
open Go.RowKit

set_option maxRecDepth 100000 in
set_option maxHeartbeats 8000000 in
theorem refGaps (a z : Int) (p : Option Addr) (cap : Nat) (l : List Bur.Sp) (w : World) (hP : Bur.OkP (a, z)) (hl : l.length ≤ 60) (hO : Hid (∀ q ∈ l, Bur.OkP q)) (hs : SpAt w p l) :
    Calls Tryz.prog 6 #[pfx a z, .slice p l.length cap] w fun e w' => ∃ (q : Option Addr) (cq : Nat), e = .returned (.slice q (Bur.gms (Bur.bks (a, z) l)).length cq) ∧ SpAt w' q (Bur.gms (Bur.bks (a, z) l)) ∧ Below w.heap.size w w' := by
  obtain ⟨i0, hin, hz0, hz1, hz2⟩ := info_parts info_span
  obtain ⟨k1, k2⟩ := hP.okK
  have bl := fun w hs => refBlocks p cap l hl hO (32 - z).toNat a w k1 hs
  have hz32 : 32 - (((32 - z).toNat : Nat) : Int) = z := by have := hP.parts; omega
  rw [hz32] at bl
  have hE : Hid (∀ b ∈ Bur.bks (a, z) l, Bur.OkP b) := fun b hb => ((Bur.bks_each (Bur.frF_mk hP hl hO.out)).1 b hb).1
  have hlen : (Bur.bks (a, z) l).length ≤ 4294967296 := by
    have h1 := Bur.blk_len l (32 - z).toNat a
    have h3 : 2 ^ (32 - z).toNat ≤ 2 ^ 32 := Nat.pow_le_pow_right (by decide) (by have := hP.parts; omega)
    exact Nat.le_trans h1 (by omega)
  unfold BkP at bl
  change ∀ w, SpAt w p l → Calls _ _ _ w (fun e w' => ∃ v, e = .returned v ∧ w'.ownsRow w.heap.size 23 2 v (Bur.bks (a, z) l).length (spV (Bur.bks (a, z) l)) ∧ ((Bur.bks (a, z) l).length = 0 → v = .slice none 0 0) ∧ Below w.heap.size w w') at bl
  obtain ⟨BL, hBL⟩ : ∃ BL, Bur.bks (a, z) l = BL := ⟨_, rfl⟩
  simp only [hBL] at bl hE hlen ⊢
  clear hBL k1 k2 hz32 hP hO
  go_enter Tryz.func6, Tryz.ntmps6
  go_wp2_with fail
  have hb0 : Below w.heap.size w (w.alloc (.cells #[.int .i64 a, .int .i64 z] 23)) := below_al (below_self _) _
  refine (bl _ (hs.step hb0)).mono ?_
  rintro e w1 ⟨v, rfl, own1, _, hb1⟩
  replace hb1 := below_via hb0 hb1
  obtain ⟨pv, cv, rfl⟩ := own_form own1
  have hsb := (spAtOwnP own1).2
  clear own1 bl hs
  go_wp2_with fail
  go_loopw [6, 7] (fun v i wr => ∃ (k : Nat) (done : List Bur.Sp) (cur : Option Bur.Sp), k ≤ BL.length ∧ i = .int .i64 k ∧ (rowT done cur).length ≤ k ∧ Hid (cur = none → done = []) ∧ Hid (Bur.gms BL = done ++ Bur.gmo cur (BL.drop k)) ∧ wr.ownsRow w1.heap.size 53 2 v (rowT done cur).length (spV (rowT done cur)) ∧ Below w1.heap.size w1 wr) (fun _ i _ => BL.length - (intOf i).toNat)
  case atStart => exact ⟨0, [], none, by omega, rfl, by simp [rowT], fun _ => rfl, rfl, World.ownsRow_nil _ _ _ _, below_self _⟩
  case round =>
    obtain ⟨k, done, cur, hk, rfl, hrl, hcn, R, hown, hbw⟩ := hrel
    have hsz := hbw.size
    by_cases hlt : k < BL.length
    · have hlt' : (k : Int) < (BL.length : Int) := by omega
      obtain ⟨b, off, rfl, hbl, hc⟩ := hsb (by omega)
      have hcb2 := bcell hbw
      have c0 : wr.cell? ⟨b, off + k * 2, none⟩ = some (.int .i64 (lo BL k)) := (hcb2.1 _ _ hbl).trans (hc k hlt).1
      have c1 : wr.cell? ⟨b, off + k * 2 + 1, none⟩ = some (.int .i64 (hi BL k)) := (hcb2.1 _ _ hbl).trans (hc k hlt).2
      have ok := hE.out _ (at_memR hlt)
      have hd : Hid _ := drop_sp hlt
      obtain ⟨x, hx⟩ : ∃ x, lo BL k = x := ⟨_, rfl⟩
      obtain ⟨y, hy⟩ : ∃ y, hi BL k = y := ⟨_, rfl⟩
      rw [hx] at c0
      rw [hy] at c1
      rw [hx, hy] at ok hd
      obtain ⟨o0, o1, o2, o3, _⟩ := ok.parts
      simp only at o0 o1 o2 o3
      have hzy := Bur.sz_pos y
      have hax : Bur.isA x = true := Bur.isA_mk o2 (by omega)
      have lo' : ∀ w, Calls Tryz.prog 23 #[pfx x y] w fun e w' => e = .returned (.int .i64 (x + Bur.sz y - 1)) ∧ ∃ n, w' = (w.alloc (pcs x y)).drewN n := fun w => lastOf x y w o0 o1 hax
      obtain ⟨t, ht⟩ : ∃ t, x + Bur.sz y - 1 = t := ⟨_, rfl⟩
      have hT : Hid (x + Bur.sz y - 1 = t) := ht
      simp only [ht] at lo'
      have ht2 : t ≤ 4294967295 := by omega
      have ht3 : 0 ≤ t := by omega
      have hb2 : b < wr.heap.size := by omega
      have a5 : IntKind.i64.wrap (x - 1) = x - 1 := by simp [IntKind.wrap, IntKind.bits, IntKind.signed]; omega
      clear hx hy hc hcb2 hsb ok hax ht
      obtain ⟨N, hN⟩ : ∃ N, Hid ((rowT done cur).length = N) := ⟨_, rfl⟩
      rw [hN.out] at hown hrl
      obtain ⟨pw, cw, rfl⟩ := own_form hown
      cases cur with
      | none =>
          have R2 : Hid (Bur.gms BL = done ++ Bur.gmo (some (x, t)) (BL.drop (k + 1))) := by
            show _ = _
            rw [R.out, hd.out, Bur.gmo_none, ← hT.out]
          have hN0 : Hid (done.length = N) := hN.out
          have hg : decide ((0 : Int) < (N : Int)) = false := by
            have hn0 : N = 0 := by rw [← hN0.out, hcn.out rfl]; rfl
            simp; omega
          have hg2 : decide (0 < N) = false := by
            have hn0 : N = 0 := by rw [← hN0.out, hcn.out rfl]; rfl
            simp; omega
          clear R hd hT
          obtain ⟨U, hU⟩ : ∃ U, U = wr := ⟨_, rfl⟩
          subst hU
          go_upto_region 7 with fail
          go_cut [36] from 20 to 35 (fun c wy => c = .bool false ∧ ∃ n, wy = U.drewN n)
          case first =>
            clear hown lo'
            go_quiet (fail)
            go_wp2_with fail
            go_meet
            case rel => exact ⟨rfl, _, rfl⟩
          case rest =>
          obtain ⟨rfl, n, hw⟩ := hcut
          have hownV := own_drewN hown n
          have hbV := below_drewN hbw n
          have d0 : (U.drewN n).cell? ⟨b, off + k * 2, none⟩ = some (.int .i64 x) := c0
          have d1 : (U.drewN n).cell? ⟨b, off + k * 2 + 1, none⟩ = some (.int .i64 y) := c1
          rw [← hw] at hownV hbV d0 d1
          clear hw hown hbw c0 c1
          obtain ⟨V, hV⟩ : ∃ V, V = wc := ⟨_, rfl⟩
          subst hV
          go_wp2_with fail
          have hszV : w1.heap.size ≤ V.heap.size := hbV.size
          go_region_held3 (fun wy => wy.cell? ⟨b, off + k * 2, none⟩ = some (.int .i64 x) ∧ wy.cell? ⟨b, off + k * 2 + 1, none⟩ = some (.int .i64 y))
            (first | exact ⟨hgrow.cell ((World.cell?_alloc_lt _ _ _ (by show b < w3.heap.size; omega)).trans e0) (fun e => by have := (own3.lt b e.symm).1; omega), hgrow.cell ((World.cell?_alloc_lt _ _ _ (by show b < w3.heap.size; omega)).trans e1) (fun e => by have := (own3.lt b e.symm).1; omega)⟩ | exact ⟨(World.cell?_alloc_lt _ _ _ (by show b < w3.heap.size; omega)).trans e0, (World.cell?_alloc_lt _ _ _ (by show b < w3.heap.size; omega)).trans e1⟩ | exact ⟨e0, e1⟩ | exact ⟨d0, d1⟩)
            (first
              | (go_at_call 23; refine (lo' _).mono ?_; clear lo'; rintro e w3 ⟨rfl, q, hw3⟩; have hb3 : Below V.drew.heap.size V.drew w3 := by rw [hw3]; exact below_box _ _ q
                 have e0 : w3.cell? ⟨b, off + k * 2, none⟩ = some (.int .i64 x) := (hb3.cell (p := ⟨b, off + k * 2, none⟩) (by show b < V.heap.size; omega)).trans d0
                 have e1 : w3.cell? ⟨b, off + k * 2 + 1, none⟩ = some (.int .i64 y) := (hb3.cell (p := ⟨b, off + k * 2 + 1, none⟩) (by show b < V.heap.size; omega)).trans d1
                 have own3 := own_below hownV.drew hb3
                 have hbw3 := below_via hbV.drew hb3
                 have hsz3 := hbw3.size
                 have hb3s : V.heap.size ≤ w3.heap.size := hb3.size
                 clear hw3)
              | (refine step_append_lies _ rfl _ _ 27 rfl w1.heap.size 53 i0 (.agg #[.int .i64 0, .int .i64 0]) 2 16 Tryz.underlying27 hin hz0 hz1 hz2 rfl (by decide) _ _ _ rfl (own3.alloc _) ⟨w3.heap.size, 0, none⟩ 1 1 [.int .i64 x, .int .i64 t] rfl rfl (two_new rfl) two_one (by decide) (by unfold maxLen; omega) (by omega) (by simp; omega) w3.heap.size.succ (by simp) ?_; intro g2 cap' w4 own4 hgrow _ _))
          have hb5 : Below w1.heap.size w1 w4 := (below_al hbw3 _).grown hgrow (by simp; omega) (fun j hj => (own3.lt j hj).1)
          clear hgrow own3 hownV d0 d1 e0 e1
          go_wp2_with fail
          exact ⟨⟨k + 1, done, some (x, t), by omega, by go_num, by simp [rowT]; rw [hN0.out]; omega, (fun h => by cases h), R2, by simp only [rowT, List.length_append, List.length_cons, List.length_nil, Nat.zero_add, spV_app]; rw [hN0.out]; exact own4, hb5⟩, by simp [intOf]; omega⟩
      | some s =>
        obtain ⟨s1, s2⟩ := s
        have hN1 : Hid (done.length + 1 = N) := by show _ = _; rw [← hN.out]; simp [rowT]
        have hn0 : 0 < N := by have := hN1.out; omega
        have hg : decide ((0 : Int) < (N : Int)) = true := by simp; omega
        have hown2 : wr.ownsRow w1.heap.size 53 2 (.slice pw N cw) N (spV (done ++ [(s1, s2)])) := hown
        obtain ⟨g, cp, hgv, hg0, hg1⟩ := hown.form (by omega)
        cases hgv
        have a1 : (0 : Int) ≤ (N : Int) - 1 := by omega
        have a2 : (N : Int) - 1 < (N : Int) := by omega
        have a3 : ((N : Int) - 1).toNat = N - 1 := by omega
        have a4 : IntKind.i64.wrap ((N : Int) - 1) = (N : Int) - 1 := Bur.wrap_i64_id _ (by omega) (by omega)
        have hgN : Hid ((N - 1) * 2 + 1 = done.length * 2 + 1) := by show _ = _; have := hN1.out; omega
        have f1 : wr.cell? ⟨g, (N - 1) * 2 + 1, none⟩ = some (.int .i64 s2) := by
          rw [hgN.out, hown.cellAt (done.length * 2 + 1) (by have := hN1.out; omega)]
          show (spV (done ++ [(s1, s2)]))[done.length * 2 + 1]? = _
          rw [spV_app, List.getElem?_append_right (by rw [spV_len]; omega), spV_len, show done.length * 2 + 1 - done.length * 2 = 1 from by omega]
          rfl
        clear hown
        have hown := hown2
        clear hown2
        cases hd0 : (s2 == x - 1)
        · have R2 : Hid (Bur.gms BL = (done ++ [(s1, s2)]) ++ Bur.gmo (some (x, t)) (BL.drop (k + 1))) := by
            show _ = _
            rw [R.out, hd.out, Bur.gmo_apart _ (by simpa using hd0), ← hT.out]; simp
          clear R hd hT
          obtain ⟨U, hU⟩ : ∃ U, U = wr := ⟨_, rfl⟩
          subst hU
          go_upto_region 7 with fail
          go_cut [36] from 20 to 35 (fun c wy => c = .bool false ∧ ∃ n, wy = U.drewN n)
          case first =>
            clear hown lo'
            go_quiet (fail)
            go_wp2_with fail
            go_meet
            case rel => exact ⟨rfl, _, rfl⟩
          case rest =>
          obtain ⟨rfl, n, hw⟩ := hcut
          have hownV := own_drewN hown n
          have hbV := below_drewN hbw n
          have d0 : (U.drewN n).cell? ⟨b, off + k * 2, none⟩ = some (.int .i64 x) := c0
          have d1 : (U.drewN n).cell? ⟨b, off + k * 2 + 1, none⟩ = some (.int .i64 y) := c1
          rw [← hw] at hownV hbV d0 d1
          clear hw hown hbw c0 c1 f1
          obtain ⟨V, hV⟩ : ∃ V, V = wc := ⟨_, rfl⟩
          subst hV
          go_wp2_with fail
          have hszV : w1.heap.size ≤ V.heap.size := hbV.size
          go_region_held3 (fun wy => wy.cell? ⟨b, off + k * 2, none⟩ = some (.int .i64 x) ∧ wy.cell? ⟨b, off + k * 2 + 1, none⟩ = some (.int .i64 y))
            (first | exact ⟨hgrow.cell ((World.cell?_alloc_lt _ _ _ (by show b < w3.heap.size; omega)).trans e0) (fun e => by have := (own3.lt b e.symm).1; omega), hgrow.cell ((World.cell?_alloc_lt _ _ _ (by show b < w3.heap.size; omega)).trans e1) (fun e => by have := (own3.lt b e.symm).1; omega)⟩ | exact ⟨(World.cell?_alloc_lt _ _ _ (by show b < w3.heap.size; omega)).trans e0, (World.cell?_alloc_lt _ _ _ (by show b < w3.heap.size; omega)).trans e1⟩ | exact ⟨e0, e1⟩ | exact ⟨d0, d1⟩)
            (first
              | (go_at_call 23; refine (lo' _).mono ?_; clear lo'; rintro e w3 ⟨rfl, q, hw3⟩; have hb3 : Below V.drew.heap.size V.drew w3 := by rw [hw3]; exact below_box _ _ q
                 have e0 : w3.cell? ⟨b, off + k * 2, none⟩ = some (.int .i64 x) := (hb3.cell (p := ⟨b, off + k * 2, none⟩) (by show b < V.heap.size; omega)).trans d0
                 have e1 : w3.cell? ⟨b, off + k * 2 + 1, none⟩ = some (.int .i64 y) := (hb3.cell (p := ⟨b, off + k * 2 + 1, none⟩) (by show b < V.heap.size; omega)).trans d1
                 have own3 := own_below hownV.drew hb3
                 have hbw3 := below_via hbV.drew hb3
                 have hsz3 := hbw3.size
                 have hb3s : V.heap.size ≤ w3.heap.size := hb3.size
                 clear hw3)
              | (refine step_append_lies _ rfl _ _ 27 rfl w1.heap.size 53 i0 (.agg #[.int .i64 0, .int .i64 0]) 2 16 Tryz.underlying27 hin hz0 hz1 hz2 rfl (by decide) _ _ _ rfl (own3.alloc _) ⟨w3.heap.size, 0, none⟩ 1 1 [.int .i64 x, .int .i64 t] rfl rfl (two_new rfl) two_one (by decide) (by unfold maxLen; omega) (by omega) (by simp; omega) w3.heap.size.succ (by simp) ?_; intro g2 cap' w4 own4 hgrow _ _))
          have hb5 : Below w1.heap.size w1 w4 := (below_al hbw3 _).grown hgrow (by simp; omega) (fun j hj => (own3.lt j hj).1)
          clear hgrow own3 hownV d0 d1 e0 e1
          go_wp2_with fail
          exact ⟨⟨k + 1, done ++ [(s1, s2)], some (x, t), by omega, by go_num, by simp [rowT]; have := hN1.out; omega, (fun h => by cases h), R2, by simp only [rowT]; rw [spV_app, List.length_append, show (done ++ [(s1, s2)]).length = N from by simp; exact hN1.out]; exact own4, hb5⟩, by simp [intOf]; omega⟩
        · have R2 : Hid (Bur.gms BL = done ++ Bur.gmo (some (s1, t)) (BL.drop (k + 1))) := by
            show _ = _
            rw [R.out, hd.out, Bur.gmo_join _ (by simpa using hd0), ← hT.out]
          clear R hd hT
          obtain ⟨U, hU⟩ : ∃ U, U = wr := ⟨_, rfl⟩
          subst hU
          go_upto_region 7 with fail
          go_cut [36] from 20 to 35 (fun c wy => c = .bool true ∧ ∃ n, wy = U.drewN n)
          case first =>
            clear hown lo'
            go_quiet (fail)
            go_wp2_with fail
            go_meet
            case rel => exact ⟨rfl, _, rfl⟩
          case rest =>
          obtain ⟨rfl, n, hw⟩ := hcut
          have hownV := own_drewN hown n
          have hbV := below_drewN hbw n
          have d0 : (U.drewN n).cell? ⟨b, off + k * 2, none⟩ = some (.int .i64 x) := c0
          have d1 : (U.drewN n).cell? ⟨b, off + k * 2 + 1, none⟩ = some (.int .i64 y) := c1
          rw [← hw] at hownV hbV d0 d1
          clear hw hown hbw c0 c1 f1
          obtain ⟨V, hV⟩ : ∃ V, V = wc := ⟨_, rfl⟩
          subst hV
          go_wp2_with fail
          refine (lo' _).mono ?_
          rintro e w3 ⟨rfl, q, hw3⟩
          have hb3 : Below V.heap.size V w3 := by rw [hw3]; exact below_box _ _ q
          have own3 := own_below hownV hb3
          have hbw3 := below_via hbV hb3
          clear hw3 hb3 hownV hbV d0 d1 lo'
          have e2 : w3.cell? ⟨g, (N - 1) * 2 + 1, none⟩ = some (.int .i64 s2) := by
            rw [hgN.out, own3.cellAt (done.length * 2 + 1) (by have := hN1.out; omega)]
            rw [spV_app, List.getElem?_append_right (by rw [spV_len]; omega), spV_len, show done.length * 2 + 1 - done.length * 2 = 1 from by omega]
            rfl
          have f2 : w3.frozen? ⟨g, (N - 1) * 2 + 1, none⟩ = false := own3.frozenAt _
          have hst := own3.stored ((N - 1) * 2 + 1) (.int .i64 t)
          have hbS := hbw3.setCell (p := ⟨g, (N - 1) * 2 + 1, none⟩) hg0 (.int .i64 t)
          have hrow : Hid ((spV (done ++ [(s1, s2)])).set ((N - 1) * 2 + 1) (.int .i64 t) = spV (done ++ [(s1, t)])) := by show _ = _; rw [hgN.out]; exact spV_grow done (s1, s2) t
          clear own3
          go_wp2_with fail
          obtain ⟨s1', s2'⟩ := hst
          rw [hrow.out] at s1'
          exact ⟨⟨k + 1, done, some (s1, t), by omega, by go_num, by simp [rowT]; have := hN1.out; omega, (fun h => by cases h), R2, by simp only [rowT]; rw [show (done ++ [(s1, t)]).length = N from by simp; exact hN1.out]; exact s1', hbS⟩, by simp [intOf]; omega⟩
    · have R2 : Hid (Bur.gms BL = rowT done cur) := by
        show _ = _
        rw [R.out, List.drop_eq_nil_of_le (show BL.length ≤ k by omega)]
        cases cur <;> simp [Bur.gmo, Bur.gms, Bur.gm, rowT]
      rw [← R2.out] at hown
      clear R R2 hsb hE
      have hb2 := below_via hb1 hbw
      go_wp2_with fail
      rcases hown.2 with ⟨rfl, h0⟩ | ⟨g, cp, cur', rfl, _⟩
      · go_wp2_with fail
        go_ret
        exact ⟨none, 0, by rw [h0]; rfl, fun h => by omega, hb2⟩
      · go_wp2_with fail
        go_ret
        exact ⟨some ⟨g, 0, none⟩, cp, rfl, (spAt_own hown).2, hb2⟩
end Go.Proofs.YtfhidiedmenliaaGreatDoor
