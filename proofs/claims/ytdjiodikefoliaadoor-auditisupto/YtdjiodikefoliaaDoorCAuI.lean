/- Package audit: Use. -/
import Derived.Test.YtdjiodikefoliaaDoorCAuH
import Derived.Test.YtdjiodikefoliaaDoorCAppInt
import Derived.Test.YtdjiodikefoliaaDoorCHsB
namespace Bur
def ueS (L : List Vs.Pr) (n : List UInt8) (p : Sp) : Int := if ueF L n p = 0 then shp p (usd L n p) else 0
def ueA (L : List Vs.Pr) (n : List UInt8) (p : Sp) : Int := if ueF L n p = 0 then alp p else 0
def uw (p : Sp) (P : List Sp) : List Int := (P.filter fun q => witB q.1 q.2 p.1 p.2).map Prod.fst
theorem uw_take (p : Sp) (P : List Sp) (k : Nat) (x : Sp) (h : P[k]? = some x) : uw p (P.take (k + 1)) = uw p (P.take k) ++ (if witB x.1 x.2 p.1 p.2 = true then [x.1] else []) := by
  unfold uw
  rw [List.take_add_one, h, Option.toList_some, List.filter_append, List.map_append]
  congr 1
  by_cases g : witB x.1 x.2 p.1 p.2 = true
  · simp [g]
  · simp [g]
theorem witB_F {a l b m : Int} (h : witB a l b m = true) : witF a l b m = 0 := by
  unfold witB at h
  simp only [Bool.and_eq_true, decide_eq_true_eq] at h
  exact h.1
end Bur
namespace Go.Proofs.YtdjiodikefoliaaDoor.Au
open Go.RowKit Go.Maps Pa
open Ta (SpAt spV spAt_own own_below lo hi)
open Ha (InAt inV infoInt inAt_own share)

theorem sp_get {P : List Bur.Sp} {k : Nat} {x : Bur.Sp} (h : P[k]? = some x) : lo P k = x.1 ∧ hi P k = x.2 := by
  simp [lo, hi, List.getD_eq_getElem?_getD, h]
theorem one_cell (V : World) (a : Value) (t : TypeId) : ∀ j u, [a][j]? = some u → (V.alloc (.cells #[a] t)).cell? ⟨V.heap.size, j, none⟩ = some u := by
  intro j u hj
  match j, hj with
  | 0, hj => simp at hj; subst hj; simp
set_option maxRecDepth 100000 in
set_option maxHeartbeats 4000000 in
theorem auUse (L : List Vs.Pr) (p : Option Addr) (cap : Nat) (n : List UInt8) (x l : Int) (w : World) (hp : PrAt w p L) (hl : L.length ≤ 1000) (hk : ∀ x ∈ L, x.1.size < 4294967281) (hm : MaxL w) (hn : n.length ≤ maxLen) (hx : I64 x) (hI : I64 l) :
    Calls Tryd.prog 12 #[.slice p L.length cap, .string ⟨n.toArray⟩, pfx x l] w fun e w' => e = .returned (.tuple #[.int .i64 (Bur.ueS L n (x, l)), .int .i64 (Bur.ueA L n (x, l)), ev (Bur.ueF L n (x, l))]) ∧ Below w.heap.size w w' := by
  have b0 := below_al (below_self w) (.cells #[.int .i64 x, .int .i64 l] 24)
  have bx0 := Bx.new w 24 x l
  have K1 := auLook L p cap (w.alloc (.cells #[.int .i64 x, .int .i64 l] 24)) (hp.step b0) hl hk (hm.step b0)
  have K2 := fun a b W hb hg => auChecks L p cap a b W hg (hp.step hb) hl hk (hm.step hb)
  have K3 := fun W hb => auPick L p cap 3 n W (hp.step hb) hl hk (hm.step hb) (by decide)
  unfold sgV at K1 K2
  by_cases h0 : (Bur.auP L).2 = 0
  · have K4 := fun a b W (hg : Sg W a b L) => auHas hg (n := n) (x := x) (l := l) ⟨hn, hx, hI⟩
    unfold sgV at K4
    rw [h0, ev_0] at K2
    generalize (Bur.auP L).1 = i at K2
    by_cases hq : Bur.hasQ L n (x, l) = true
    · obtain ⟨hf, hus⟩ := Bur.ueF_us h0 hq
      rw [hq] at K4
      have hlen := Bur.pck_len L 3 n L.length
      rw [List.take_length] at hlen
      have eU : Bur.usd L n (x, l) = Bur.uw (x, l) (Bur.pck L 3 n) := rfl
      have eS : Bur.ueS L n (x, l) = Bur.shS (x, l) (Bur.uw (x, l) (Bur.pck L 3 n)) := by
        unfold Bur.ueS Bur.shS
        rw [← eU, hus]
      have eA : Bur.ueA L n (x, l) = Bur.shA (x, l) (Bur.uw (x, l) (Bur.pck L 3 n)) := by
        unfold Bur.ueA Bur.shA
        rw [← eU, hus]
      rw [eS, eA, ← hus, eU]
      generalize Bur.pck L 3 n = P at K3 hlen ⊢
      clear eU eS eA hus hf hq h0
      have K6 := fun (q : Option Addr) (c : Nat) (u : List Int) (W : World) (hlu : u.length ≤ 1000) hu => share x l u q c W (by omega) hu
      have K5 := fun (a b : Int) (W : World) => within_any a b x l W
      go_enter Tryd.func12, Tryd.ntmps12
      go_wp2_with (first
        | (go_at_call 16; refine K1.mono ?_; clear K1; rintro e w1 ⟨a, b, rfl, hg, hb1⟩; have bA := below_al (below_self w1) (.cells #[.map (some a), .map (some b)] 55); have hg1 := hg.step bA; have s0 : (w1.alloc (.cells #[.map (some a), .map (some b)] 55)).cell? ⟨w1.heap.size, 0, none⟩ = some (.map (some a)) := (by simp); have s1 : (w1.alloc (.cells #[.map (some a), .map (some b)] 55)).cell? ⟨w1.heap.size, 1, none⟩ = some (.map (some b)) := (by simp); have bB := below_via (below_via b0 hb1) bA; have bx1 := (bx0.step hb1).step bA)
        | (go_at_call 17; refine (K2 a b _ bB hg1).mono ?_; rintro e w2 ⟨rfl, hb2⟩; have hg2 := hg1.step hb2; have bC := below_via bB hb2; have s02 := (hb2.cell (p := ⟨w1.heap.size, 0, none⟩) (by simp)).trans s0; have s12 := (hb2.cell (p := ⟨w1.heap.size, 1, none⟩) (by simp)).trans s1; have bx2 := bx1.step hb2; have c0 := bx2.c0; have c1 := bx2.c1)
        | (go_at_call 25; refine (K4 a b _ hg2).mono ?_; rintro e w3 ⟨rfl, hb3⟩; have bD := below_via bC hb3; have bx3 := bx2.step hb3)
        | (go_at_call 19; refine (K3 _ bD).mono ?_; rintro e w4 ⟨v, rfl, row4, hb4⟩; obtain ⟨q, c, rfl⟩ := own_form row4; have bE := below_via bD hb4; have bx4 := bx3.step hb4))
      have sp4 := (spAt_own row4).2
      clear c0 c1 s0 s1 s02 s12 bx0 bx1 bx2 bx3 K2 K3 K4 row4 hg hg1 hg2 hb1 hb2 hb3 hb4 bA bB bC bD b0
      go_loopw [12, 39] (fun v a wr => ∃ (k : Nat) (r : List Int), k ≤ P.length ∧ a = .int .i64 k ∧ r.length ≤ k ∧ Hid (r = Bur.uw (x, l) (P.take k)) ∧ wr.ownsRow w4.heap.size 3 1 v r.length (inV r) ∧ Below w4.heap.size w4 wr) (fun _ a _ => P.length - (intOf a).toNat)
      case atStart => exact ⟨0, [], by omega, rfl, by simp, (by show _ = _; rfl), World.ownsRow_nil _ _ _ _, below_self _⟩
      case round =>
        obtain ⟨k, r, hkl, rfl, hrk, hM, hrow, hb⟩ := hrel
        have bxr := bx4.step hb
        have c0 := bxr.c0
        have c1 := bxr.c1
        by_cases hlt : k < P.length
        · have hlt' : (k : Int) < (P.length : Int) := by omega
          obtain ⟨y, hy⟩ : ∃ y, P[k]? = some y := ⟨P[k], List.getElem?_eq_getElem hlt⟩
          obtain ⟨B, off, rfl, hbl, hc⟩ := (sp4.step hb) (by omega)
          obtain ⟨d0, d1⟩ := hc k hlt
          rw [(sp_get hy).1] at d0
          rw [(sp_get hy).2] at d1
          have hst := Bur.uw_take (x, l) P k y hy
          have KW := K5 y.1 y.2 (wr.alloc (.cells #[.int .i64 y.1, .int .i64 y.2] 24))
          have bW := below_al (below_self wr) (.cells #[.int .i64 y.1, .int .i64 y.2] 24)
          have hszr := hb.size
          have hwr : w.heap.size < wr.heap.size := bxr.lt
          have c0' := (bxr.step bW).c0
          have c1' := (bxr.step bW).c1
          have g0 : (wr.alloc (.cells #[.int .i64 y.1, .int .i64 y.2] 24)).cell? ⟨wr.heap.size, 0, none⟩ = some (.int .i64 y.1) := by simp
          cases hB : Bur.witB y.1 y.2 x l with
          | true =>
            rw [hB, Bur.witB_F hB, ev_0] at KW
            have hst : Bur.uw (x, l) (P.take (k + 1)) = Bur.uw (x, l) (P.take k) ++ [y.1] := by rw [hst]; exact congrArg _ (if_pos hB)
            rw [← hM.out] at hst
            have hM2 : Hid (r ++ [y.1] = Bur.uw (x, l) (P.take (k + 1))) := hst.symm
            clear hst hM hB hc hy K5
            go_wp2_with (first
              | (go_at_call 26; refine KW.mono ?_; clear KW; rintro e w5 ⟨rfl, hb5⟩; have g05 := (hb5.cell (p := ⟨wr.heap.size, 0, none⟩) (by simp)).trans g0; have row5 := own_below hrow (below_via bW hb5); have bb5 := below_via (below_via hb bW) hb5; have hs5 := bb5.size)
              | (at_builtin; refine wpList_append_one 39 3 1 8 _ Tryd.underlying39 infoInt rfl (by decide) (by decide) rfl _ _ rfl w4.heap.size _ r.length (inV r) rfl (row5.alloc _) (by simp; omega) _ [.int .i64 y.1] rfl rfl (one_cell _ _ _) (fun u hu => by rw [List.mem_singleton.1 hu]; rfl) (by omega) ?_; intro v6 w6 own6 hg6; have hb6 : Below w4.heap.size w4 w6 := (bb5.alloc hs5 _).grown hg6 (by simp; omega) (fun j hj => (row5.lt j hj).1)))
            have own7 : w6.ownsRow w4.heap.size 3 1 v6 (r ++ [y.1]).length (inV (r ++ [y.1])) := by
              rw [List.length_append, show inV (r ++ [y.1]) = inV r ++ [.int .i64 y.1] from by simp [inV]]
              exact own6
            exact ⟨⟨k + 1, r ++ [y.1], by omega, by go_num, by simp; omega, hM2, own7, hb6⟩, by simp [intOf]; omega⟩
          | false =>
            rw [hB] at KW
            have hst : Bur.uw (x, l) (P.take (k + 1)) = Bur.uw (x, l) (P.take k) := by rw [hst, show (if Bur.witB y.1 y.2 (x, l).1 (x, l).2 = true then [y.1] else []) = [] from if_neg (by show ¬ Bur.witB y.1 y.2 x l = true; rw [hB]; decide), List.append_nil]
            rw [← hM.out] at hst
            have hM2 : Hid (r = Bur.uw (x, l) (P.take (k + 1))) := hst.symm
            generalize ev (Bur.witF y.1 y.2 x l) = EV at KW
            clear hst hM hB hc hy K5
            go_wp2_with (go_at_call 26; refine KW.mono ?_; clear KW; rintro e w5 ⟨rfl, hb5⟩)
            exact ⟨⟨k + 1, r, by omega, by go_num, by omega, hM2, own_below hrow (below_via bW hb5), below_via (below_via hb bW) hb5⟩, by simp [intOf]; omega⟩
        · have hlt' : ¬ (k : Int) < (P.length : Int) := by omega
          have hE : Hid (r = Bur.uw (x, l) P) := by
            have := hM.out
            rw [List.take_of_length_le (by omega)] at this
            exact this
          obtain ⟨q2, c2, rfl⟩ := own_form hrow
          have KS := K6 q2 c2 r wr (by omega) (inAt_own hrow).2
          obtain ⟨EV, hEV⟩ : ∃ EV, Hid (EV = ev (Bur.usF (x, l) r)) := ⟨_, rfl⟩
          rw [← hEV.out] at KS
          obtain ⟨A1, hA1⟩ : ∃ A1, Hid (A1 = Bur.shS (x, l) r) := ⟨_, rfl⟩
          rw [← hA1.out] at KS
          obtain ⟨A2, hA2⟩ : ∃ A2, Hid (A2 = Bur.shA (x, l) r) := ⟨_, rfl⟩
          rw [← hA2.out] at KS
          clear hM
          go_wp2_with (go_at_call 27; refine KS.mono ?_; clear KS; rintro e w5 ⟨rfl, hb5⟩)
          go_ret3
          exact ⟨by rw [← hE.out, ← hA1.out, ← hA2.out, ← hEV.out]; rfl, below_via (below_via bE hb) hb5⟩
    · have hq : Bur.hasQ L n (x, l) = false := by simpa using hq
      have hF : Bur.ueF L n (x, l) = 4 := by unfold Bur.ueF; rw [if_pos h0, hq]; rfl
      rw [show Bur.ueS L n (x, l) = 0 from if_neg (by rw [hF]; decide), show Bur.ueA L n (x, l) = 0 from if_neg (by rw [hF]; decide), hF, ev_ne (by decide)]
      rw [hq] at K4
      clear hF hq h0 K3
      go_enter Tryd.func12, Tryd.ntmps12
      go_wp2_with (first
        | (go_at_call 16; refine K1.mono ?_; clear K1; rintro e w1 ⟨a, b, rfl, hg, hb1⟩; have bA := below_al (below_self w1) (.cells #[.map (some a), .map (some b)] 55); have hg1 := hg.step bA; have s0 : (w1.alloc (.cells #[.map (some a), .map (some b)] 55)).cell? ⟨w1.heap.size, 0, none⟩ = some (.map (some a)) := (by simp); have s1 : (w1.alloc (.cells #[.map (some a), .map (some b)] 55)).cell? ⟨w1.heap.size, 1, none⟩ = some (.map (some b)) := (by simp); have bB := below_via (below_via b0 hb1) bA; have bx1 := (bx0.step hb1).step bA)
        | (go_at_call 17; refine (K2 a b _ bB hg1).mono ?_; rintro e w2 ⟨rfl, hb2⟩; have hg2 := hg1.step hb2; have bC := below_via bB hb2; have s02 := (hb2.cell (p := ⟨w1.heap.size, 0, none⟩) (by simp)).trans s0; have s12 := (hb2.cell (p := ⟨w1.heap.size, 1, none⟩) (by simp)).trans s1; have bx2 := bx1.step hb2; have c0 := bx2.c0; have c1 := bx2.c1)
        | (go_at_call 25; refine (K4 a b _ hg2).mono ?_; rintro e w3 ⟨rfl, hb3⟩; have bD := below_via bC hb3))
      go_ret3
      exact ⟨rfl, bD⟩
  · have hF : Bur.ueF L n (x, l) = (Bur.auP L).2 := if_neg h0
    rw [show Bur.ueS L n (x, l) = 0 from if_neg (by rw [hF]; exact h0), show Bur.ueA L n (x, l) = 0 from if_neg (by rw [hF]; exact h0), hF, ev_ne h0]
    rw [ev_ne h0] at K2
    generalize (Bur.auP L).1 = i at K2
    generalize (Bur.auP L).2 = G at K2 ⊢
    clear hF h0 K3
    go_enter Tryd.func12, Tryd.ntmps12
    go_wp2_with (first
      | (go_at_call 16; refine K1.mono ?_; clear K1; rintro e w1 ⟨a, b, rfl, hg, hb1⟩; have bA := below_al (below_self w1) (.cells #[.map (some a), .map (some b)] 55); have hg1 := hg.step bA; have bB := below_via (below_via b0 hb1) bA)
      | (go_at_call 17; refine (K2 a b _ bB hg1).mono ?_; rintro e w2 ⟨rfl, hb2⟩; have bC := below_via bB hb2))
    go_ret3
    exact ⟨rfl, bC⟩
end Go.Proofs.YtdjiodikefoliaaDoor.Au
