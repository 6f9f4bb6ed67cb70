/- The contract of the reference's Together. -/
import Derived.Test.YtfncclkmnkigoaaDoorSpRefC
namespace Go.Proofs.YtfncclkmnkigoaaDoor
open Go.RowKit

/-- The row while it is made: what is done, and the span that may still grow. -/
def rowT (done : List Bur.Sp) : Option Bur.Sp → List Bur.Sp
  | none => done
  | some s => done ++ [s]
/-- Does the span that may grow end at z? -/
def nxt (cur : Option Bur.Sp) (z : Int) : Bool := match cur with | none => false | some s => s.2 == z - 1
theorem drop_two {zs : List Int} {k : Nat} (h : k + 1 < zs.length) : zs.drop k = zs.getD k 0 :: zs.getD (k + 1) 0 :: zs.drop (k + 2) := by
  rw [drop_int (show k < zs.length by omega), drop_int h]
theorem tg_no {p : Int → Bool} {cur : Option Bur.Sp} {e e' : Int} {r : List Int} (h : p e = false) : Bur.tg p cur (e :: e' :: r) = Bur.tg p cur (e' :: r) := by
  cases cur <;> rw [Bur.tg, if_neg (by simp [h])]
theorem spV_grow (done : List Bur.Sp) (s : Bur.Sp) (e : Int) : (spV (done ++ [s])).set (done.length * 2 + 1) (.int .i64 e) = spV (done ++ [(s.1, e)]) := by
  rw [spV_app, spV_app]
  show (spV done ++ [Value.int .i64 s.1, Value.int .i64 s.2]).set (done.length * 2 + 1) (.int .i64 e) = spV done ++ [Value.int .i64 s.1, Value.int .i64 e]
  rw [List.set_append_right _ _ (by rw [spV_len]; omega), spV_len, show done.length * 2 + 1 - done.length * 2 = 1 from by omega]
  rfl

set_option maxRecDepth 100000 in
set_option maxHeartbeats 8000000 in
theorem refTogether (how : Int) (p : Option Addr) (ca : Nat) (l : List Bur.Sp) (q : Option Addr) (cb : Nat) (m : List Bur.Sp) (w : World) (h1 : 1 ≤ how) (h3 : how ≤ 3) (hl : l.length ≤ 256) (hm : m.length ≤ 256) (hA : Bur.InA l) (hAm : Bur.InA m) (hs : SpAt w p l) (hsm : SpAt w q m) :
    Calls Tryd.prog 7 #[.slice p l.length ca, .slice q m.length cb, .int .i64 how] w fun e w' => ∃ (r : Option Addr) (cr : Nat), e = .returned (.slice r (Bur.two how l m).length cr) ∧ SpAt w' r (Bur.two how l m) ∧ Below w.heap.size w w' := by
  obtain ⟨i0, hin, hz0, hz1, hz2⟩ := info_parts info_span
  go_enter Tryd.func7, Tryd.ntmps7
  go_wp2_with fail
  refine (refEdges p ca l q cb m w hl hm hA hAm hs hsm).mono ?_
  rintro e w1 ⟨r1, c1, zs, rfl, hpw, hme, hzl, hz, hb⟩
  have HT : Hid (Bur.tg (fun x => Bur.kp how (Bur.mem l x) (Bur.mem m x)) none zs = Bur.two how l m) := Bur.tg_two how hA hAm hpw hme
  have hBz : ∀ z ∈ zs, 0 ≤ z ∧ z ≤ 4294967296 := fun z hz => by
    rcases List.mem_append.1 ((hme z).1 hz) with g | g
    · exact Bur.edg_pos hA z g
    · exact Bur.edg_pos hAm z g
  replace hs := hs.step hb
  replace hsm := hsm.step hb
  clear hpw hme hA hAm
  go_wp2_with fail
  go_loopw [8, 9] (fun v i wr => ∃ (k : Nat) (done : List Bur.Sp) (cur : Option Bur.Sp), k ≤ zs.length ∧ i = .int .i64 k ∧ (rowT done cur).length ≤ k ∧ Hid (cur = none → done = []) ∧ Hid (Bur.two how l m = done ++ Bur.tg (fun x => Bur.kp how (Bur.mem l x) (Bur.mem m x)) cur (zs.drop k)) ∧ wr.ownsRow w1.heap.size 26 2 v (rowT done cur).length (spV (rowT done cur)) ∧ Below w1.heap.size w1 wr) (fun _ i _ => zs.length - (intOf i).toNat)
  case atStart => exact ⟨0, [], none, by omega, rfl, by simp [rowT], fun _ => rfl, HT.out.symm, World.ownsRow_nil _ _ _ _, below_self _⟩
  case round =>
    obtain ⟨k, done, cur, hk, rfl, hrl, hcn, R, hown, hbw⟩ := hrel
    have hsz := hbw.size
    by_cases hlt : k + 1 < zs.length
    · have hlt' : (k : Int) + 1 < (zs.length : Int) := by omega
      have hltk : (k : Int) < (zs.length : Int) := by omega
      have h0k : (0 : Int) ≤ (k : Int) := by omega
      have h0k1 : (0 : Int) ≤ (k : Int) + 1 := by omega
      have hk1 : ((k : Int) + 1).toNat = k + 1 := by omega
      have hs2 := hs.step hbw
      have hsm2 := hsm.step hbw
      obtain ⟨b, off, rfl, hbl, hc⟩ := hz (by omega)
      obtain ⟨z, hz'⟩ : ∃ z, z = zs.getD k 0 := ⟨_, rfl⟩
      obtain ⟨y, hy'⟩ : ∃ y, y = zs.getD (k + 1) 0 := ⟨_, rfl⟩
      have c0 : wr.cell? ⟨b, off + k, none⟩ = some (.int .i64 z) := by rw [hz']; exact (hbw.cell (p := ⟨b, off + k, none⟩) hbl).trans (hc k (by omega))
      have c1 : wr.cell? ⟨b, off + (k + 1), none⟩ = some (.int .i64 y) := by rw [hy']; exact (hbw.cell (p := ⟨b, off + (k + 1), none⟩) hbl).trans (hc (k + 1) hlt)
      have hd : Hid (zs.drop k = z :: y :: zs.drop (k + 2)) := by show _ = _; rw [hz', hy']; exact drop_two hlt
      have hd2 : Hid (zs.drop (k + 1) = y :: zs.drop (k + 2)) := by show _ = _; rw [hy']; exact drop_int hlt
      have bz := hBz z (List.mem_of_mem_drop (by rw [hd.out]; simp))
      have by' := hBz y (List.mem_of_mem_drop (by rw [hd.out]; simp))
      clear hz' hy' hc hz hBz
      obtain ⟨W, hW⟩ : ∃ W, W = wr := ⟨_, rfl⟩
      subst hW
      obtain ⟨N, hN⟩ : ∃ N, Hid ((rowT done cur).length = N) := ⟨_, rfl⟩
      rw [hN.out] at hown hrl
      obtain ⟨pv, cv, rfl⟩ := own_form hown
      obtain ⟨K, hK⟩ : ∃ K, Hid (Bur.kp how (Bur.mem l z) (Bur.mem m z) = K) := ⟨_, rfl⟩
      go_wp2_with fail
      refine (refInside p ca l z W (by omega) hs2).mono ?_
      rintro e w2 ⟨rfl, rfl⟩
      go_wp2_with fail
      refine (refInside q cb m z w2 (by omega) hsm2).mono ?_
      rintro e w3 ⟨rfl, rfl⟩
      obtain ⟨X, hX⟩ : ∃ X, Bur.mem l z = X := ⟨_, rfl⟩
      obtain ⟨Y, hY⟩ : ∃ Y, Bur.mem m z = Y := ⟨_, rfl⟩
      have hK2 : Hid (Bur.kp how X Y = K) := by rw [← hX, ← hY]; exact hK
      rw [hX, hY]
      clear hX hY
      go_upto_region 8 with fail
      go_cut [12] from 36 to 64 (fun v wy => v = .bool K ∧ wy = w3)
      case first =>
        have hh : how = 1 ∨ how = 2 ∨ how = 3 := by omega
        rcases hh with rfl | rfl | rfl <;> cases X <;> cases Y <;> (have hK3 : Hid _ := hK2.out.symm; clear hK2 hK; go_wp2_with fail; go_meet; case rel => exact ⟨by rw [hK3.out]; rfl, rfl⟩)
      case rest =>
      obtain ⟨rfl, hw⟩ := hcut
      subst hw
      cases K
      · have R2 : Hid (Bur.two how l m = done ++ Bur.tg (fun x => Bur.kp how (Bur.mem l x) (Bur.mem m x)) cur (zs.drop (k + 1))) := by
          show _ = _
          rw [R.out, hd.out, hd2.out, tg_no hK.out]
        clear R hd hd2 hK hK2 hs2 hsm2 c0 c1
        go_wp2_with fail
        exact ⟨⟨k + 1, done, cur, by omega, by go_num, by rw [hN.out]; omega, hcn, R2, by rw [hN.out]; exact hown, hbw⟩, by simp [intOf]; omega⟩
      · have x1 : IntKind.i64.wrap (y - 1) = y - 1 := by simp [IntKind.wrap, IntKind.bits, IntKind.signed]; omega
        have x2 : IntKind.i64.wrap ((k : Int) + 1) = (k : Int) + 1 := Bur.wrap_i64_id _ (by omega) (by omega)
        cases cur with
        | none =>
          have R2 : Hid (Bur.two how l m = done ++ Bur.tg (fun x => Bur.kp how (Bur.mem l x) (Bur.mem m x)) (some (z, y - 1)) (zs.drop (k + 1))) := by
            show _ = _
            rw [R.out, hd.out, hd2.out, Bur.tg, if_pos hK.out]
          have hN0 : Hid (done.length = N) := hN.out
          have hg : decide ((0 : Int) < (N : Int)) = false := by
            have hn0 : N = 0 := by rw [← hN0.out, hcn.out rfl]; rfl
            simp; omega
          have hg2 : decide (0 < N) = false := by
            have hn0 : N = 0 := by rw [← hN0.out, hcn.out rfl]; rfl
            simp; omega
          clear R hd hd2 hK hK2 hs2 hsm2
          obtain ⟨U, hU⟩ : ∃ U, U = wc := ⟨_, rfl⟩
          subst hU
          go_upto_region 11 with fail
          go_cut [84] from 69 to 83 (fun c wy => c = .bool false ∧ ∃ n, wy = U.drewN n)
          case first =>
            go_quiet (fail)
            go_wp2_with fail
            go_meet
            case rel => exact ⟨rfl, _, rfl⟩
          case rest =>
          obtain ⟨rfl, n, hw⟩ := hcut
          have hownV := own_drewN hown n
          have hbV := below_drewN hbw n
          have d0 : (U.drewN n).cell? ⟨b, off + k, none⟩ = some (.int .i64 z) := c0
          have d1 : (U.drewN n).cell? ⟨b, off + (k + 1), none⟩ = some (.int .i64 y) := c1
          rw [← hw] at hownV hbV d0 d1
          clear hw hown hbw c0 c1
          obtain ⟨V, hV⟩ : ∃ V, V = wc := ⟨_, rfl⟩
          subst hV
          go_wp2_with fail
          have hszV : w1.heap.size ≤ V.heap.size := hbV.size
          go_region_held3 (fun wy => wy.cell? ⟨b, off + k, none⟩ = some (.int .i64 z) ∧ wy.cell? ⟨b, off + (k + 1), none⟩ = some (.int .i64 y)) (first | exact ⟨hgrow.cell ((World.cell?_alloc_lt _ _ _ (by show b < V.heap.size; omega)).trans d0) (fun e => by have := (hownV.lt b e.symm).1; omega), hgrow.cell ((World.cell?_alloc_lt _ _ _ (by show b < V.heap.size; omega)).trans d1) (fun e => by have := (hownV.lt b e.symm).1; omega)⟩ | exact ⟨(World.cell?_alloc_lt _ _ _ (by show b < V.heap.size; omega)).trans d0, (World.cell?_alloc_lt _ _ _ (by show b < V.heap.size; omega)).trans d1⟩ | exact ⟨d0, d1⟩)
            (first
              | (refine step_append_lies _ rfl _ _ 22 rfl w1.heap.size 26 i0 (.agg #[.int .i64 0, .int .i64 0]) 2 16 Tryd.underlying22 hin hz0 hz1 hz2 rfl (by decide) _ _ _ rfl (hownV.drew.alloc _) ⟨V.heap.size, 0, none⟩ 1 1 [.int .i64 z, .int .i64 (y - 1)] rfl rfl (two_new rfl) two_one (by decide) (by unfold maxLen; omega) (by omega) (by simp; omega) V.heap.size.succ (by simp) ?_; intro g cap' w2 hown3 hgrow _ _))
          have hb4 : Below w1.heap.size w1 w2 := (below_al hbV.drew _).grown hgrow (by simp; omega) (fun j hj => (hownV.lt j hj).1)
          clear hgrow hownV d0 d1
          go_wp2_with fail
          exact ⟨⟨k + 1, done, some (z, y - 1), by omega, by go_num, by simp [rowT]; rw [hN0.out]; omega, (fun h => by cases h), R2, by simp only [rowT, List.length_append, List.length_cons, List.length_nil, Nat.zero_add, spV_app]; rw [hN0.out]; exact hown3, hb4⟩, by simp [intOf]; omega⟩
        | some s =>
          have hN1 : Hid (done.length + 1 = N) := by show _ = _; rw [← hN.out]; simp [rowT]
          have hn0 : 0 < N := by have := hN1.out; omega
          have hg : decide ((0 : Int) < (N : Int)) = true := by simp; omega
          have ownS : wc.ownsRow w1.heap.size 26 2 (.slice pv N cv) N (spV (done ++ [s])) := hown
          obtain ⟨g, cp, hgv, hg0, hg1⟩ := hown.form (by omega)
          cases hgv
          have a1 : (0 : Int) ≤ (N : Int) - 1 := by omega
          have a2 : (N : Int) - 1 < (N : Int) := by omega
          have a3 : ((N : Int) - 1).toNat = N - 1 := by omega
          have a4 : IntKind.i64.wrap ((N : Int) - 1) = (N : Int) - 1 := Bur.wrap_i64_id _ (by omega) (by omega)
          have hgN : Hid ((N - 1) * 2 + 1 = done.length * 2 + 1) := by show _ = _; have := hN1.out; omega
          have e1 : wc.cell? ⟨g, (N - 1) * 2 + 1, none⟩ = some (.int .i64 s.2) := by
            rw [hgN.out, hown.cellAt (done.length * 2 + 1) (by have := hN1.out; omega)]
            show (spV (done ++ [s]))[done.length * 2 + 1]? = _
            rw [spV_app, List.getElem?_append_right (by rw [spV_len]; omega), spV_len, show done.length * 2 + 1 - done.length * 2 = 1 from by omega]
            rfl
          cases hd0 : (s.2 == z - 1)
          · have R2 : Hid (Bur.two how l m = (done ++ [s]) ++ Bur.tg (fun x => Bur.kp how (Bur.mem l x) (Bur.mem m x)) (some (z, y - 1)) (zs.drop (k + 1))) := by
              show _ = _
              rw [R.out, hd.out, hd2.out, Bur.tg, if_pos hK.out, if_neg (by simpa using hd0)]; simp
            clear R hd hd2 hK hK2 hs2 hsm2 hown
            obtain ⟨U, hU⟩ : ∃ U, U = wc := ⟨_, rfl⟩
            subst hU
            go_upto_region 11 with fail
            go_cut [84] from 69 to 83 (fun c wy => c = .bool false ∧ ∃ n, wy = U.drewN n)
            case first =>
              clear ownS
              go_quiet (fail)
              go_wp2_with fail
              go_meet
              case rel => exact ⟨rfl, _, rfl⟩
            case rest =>
            obtain ⟨rfl, n, hw⟩ := hcut
            have hownV := own_drewN ownS n
            have hbV := below_drewN hbw n
            have d0 : (U.drewN n).cell? ⟨b, off + k, none⟩ = some (.int .i64 z) := c0
            have d1 : (U.drewN n).cell? ⟨b, off + (k + 1), none⟩ = some (.int .i64 y) := c1
            have d2 : (U.drewN n).cell? ⟨g, (N - 1) * 2 + 1, none⟩ = some (.int .i64 s.2) := e1
            rw [← hw] at hownV hbV d0 d1 d2
            clear hw ownS hbw c0 c1 e1
            obtain ⟨V, hV⟩ : ∃ V, V = wc := ⟨_, rfl⟩
            subst hV
            clear d2
            go_wp2_with fail
            have hszV : w1.heap.size ≤ V.heap.size := hbV.size
            go_region_held3 (fun wy => wy.cell? ⟨b, off + k, none⟩ = some (.int .i64 z) ∧ wy.cell? ⟨b, off + (k + 1), none⟩ = some (.int .i64 y)) (first | exact ⟨hgrow.cell ((World.cell?_alloc_lt _ _ _ (by show b < V.heap.size; omega)).trans d0) (fun e => by have := (hownV.lt b e.symm).1; omega), hgrow.cell ((World.cell?_alloc_lt _ _ _ (by show b < V.heap.size; omega)).trans d1) (fun e => by have := (hownV.lt b e.symm).1; omega)⟩ | exact ⟨(World.cell?_alloc_lt _ _ _ (by show b < V.heap.size; omega)).trans d0, (World.cell?_alloc_lt _ _ _ (by show b < V.heap.size; omega)).trans d1⟩ | exact ⟨d0, d1⟩)
              (first
                | (refine step_append_lies _ rfl _ _ 22 rfl w1.heap.size 26 i0 (.agg #[.int .i64 0, .int .i64 0]) 2 16 Tryd.underlying22 hin hz0 hz1 hz2 rfl (by decide) _ _ _ rfl (hownV.drew.alloc _) ⟨V.heap.size, 0, none⟩ 1 1 [.int .i64 z, .int .i64 (y - 1)] rfl rfl (two_new rfl) two_one (by decide) (by unfold maxLen; omega) (by omega) (by simp; omega) V.heap.size.succ (by simp) ?_; intro g cap' w2 hown3 hgrow _ _))
            have hb4 : Below w1.heap.size w1 w2 := (below_al hbV.drew _).grown hgrow (by simp; omega) (fun j hj => (hownV.lt j hj).1)
            clear hgrow hownV d0 d1
            go_wp2_with fail
            exact ⟨⟨k + 1, done ++ [s], some (z, y - 1), by omega, by go_num, by simp [rowT]; have := hN1.out; omega, (fun h => by cases h), R2, by simp only [rowT]; rw [spV_app, List.length_append, show (done ++ [s]).length = N from by simp; exact hN1.out]; exact hown3, hb4⟩, by simp [intOf]; omega⟩
          · have R2 : Hid (Bur.two how l m = done ++ Bur.tg (fun x => Bur.kp how (Bur.mem l x) (Bur.mem m x)) (some (s.1, y - 1)) (zs.drop (k + 1))) := by
              show _ = _
              rw [R.out, hd.out, hd2.out, Bur.tg, if_pos hK.out, if_pos (by simpa using hd0)]
            clear R hd hd2 hK hK2 hs2 hsm2 hown
            obtain ⟨U, hU⟩ : ∃ U, U = wc := ⟨_, rfl⟩
            subst hU
            go_upto_region 11 with fail
            go_cut [84] from 69 to 83 (fun c wy => c = .bool true ∧ ∃ n, wy = U.drewN n)
            case first =>
              clear ownS
              go_quiet (fail)
              go_wp2_with fail
              go_meet
              case rel => exact ⟨rfl, _, rfl⟩
            case rest =>
            obtain ⟨rfl, n, hw⟩ := hcut
            have hownV := own_drewN ownS n
            have hbV := below_drewN hbw n
            have d0 : (U.drewN n).cell? ⟨b, off + k, none⟩ = some (.int .i64 z) := c0
            have d1 : (U.drewN n).cell? ⟨b, off + (k + 1), none⟩ = some (.int .i64 y) := c1
            have d2 : (U.drewN n).cell? ⟨g, (N - 1) * 2 + 1, none⟩ = some (.int .i64 s.2) := e1
            rw [← hw] at hownV hbV d0 d1 d2
            clear hw ownS hbw c0 c1 e1
            obtain ⟨V, hV⟩ : ∃ V, V = wc := ⟨_, rfl⟩
            subst hV
            have f2 : V.frozen? ⟨g, (N - 1) * 2 + 1, none⟩ = false := hownV.frozenAt _
            have hst := hownV.stored ((N - 1) * 2 + 1) (.int .i64 (y - 1))
            have hbS := hbV.setCell (p := ⟨g, (N - 1) * 2 + 1, none⟩) hg0 (.int .i64 (y - 1))
            have hrow : Hid ((spV (done ++ [s])).set ((N - 1) * 2 + 1) (.int .i64 (y - 1)) = spV (done ++ [(s.1, y - 1)])) := by show _ = _; rw [hgN.out]; exact spV_grow done s (y - 1)
            clear hownV
            go_wp2_with fail
            obtain ⟨s1, s2⟩ := hst
            rw [hrow.out] at s1
            exact ⟨⟨k + 1, done, some (s.1, y - 1), by omega, by go_num, by simp [rowT]; have := hN1.out; omega, (fun h => by cases h), R2, by simp only [rowT]; rw [show (done ++ [(s.1, y - 1)]).length = N from by simp; exact hN1.out]; exact s1, hbS⟩, by simp [intOf]; omega⟩
    · have R2 : Hid (Bur.two how l m = rowT done cur) := by
        show _ = _
        rw [R.out]
        by_cases hke : k < zs.length
        · rw [drop_int hke, List.drop_eq_nil_of_le (show zs.length ≤ k + 1 by omega)]
          cases cur <;> simp [Bur.tg, rowT]
        · rw [List.drop_eq_nil_of_le (show zs.length ≤ k by omega)]
          cases cur <;> simp [Bur.tg, rowT]
      rw [← R2.out] at hown
      clear R R2 hz hs hsm hBz HT
      have hb2 := below_via hb hbw
      go_wp2_with fail
      rcases hown.2 with ⟨rfl, h0⟩ | ⟨g, cp, cur', rfl, _⟩
      · go_wp2_with fail
        go_ret
        exact ⟨none, 0, by rw [h0]; rfl, fun h => by omega, hb2⟩
      · go_wp2_with fail
        go_ret
        exact ⟨some ⟨g, 0, none⟩, cp, rfl, (spAt_own hown).2, hb2⟩
end Go.Proofs.YtfncclkmnkigoaaDoor
