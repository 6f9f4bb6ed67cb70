/- The walk of the law AuditIs, from its end. -/
import Derived.Test.YtdjiodikefoliaaDoorCAuK
import Derived.Test.YtdjiodikefoliaaDoorCNE
import Derived.Test.YtdjiodikefoliaaDoorCTrSame
import Derived.Test.YtdjiodikefoliaaDoorCHiRefB
import Derived.Deep.CutBlock
namespace Go.Proofs.YtdjiodikefoliaaDoor.Au
open Go.RowKit Go.Maps Pa
open Ta (SpAt spV spAt_own own_below lo hi)
open Ha (InAt inV infoInt inAt_own shareOf)

theorem etStep {w w' : World} (h : ErrType w) (hb : Below w.heap.size w w') : ErrType w' := (hb.cell (World.block_lt_of_cell? _ _ h)).trans h
/-- What the law keeps. -/
structure Ka (w wr : World) (L : List Vs.Pr) (p : Option Addr) (x l : Int) : Prop where
  bw : Below w.heap.size w wr
  bx : Bx wr w.heap.size x l
  pr : PrAt wr p L
  mx : MaxL wr
  et : ErrType wr
theorem Ka.step {w wr w' : World} {L : List Vs.Pr} {p : Option Addr} {x l : Int} (h : Ka w wr L p x l) (hb : Below wr.heap.size wr w') : Ka w w' L p x l := ⟨below_via h.bw hb, h.bx.step hb, h.pr.step hb, h.mx.step hb, etStep h.et hb⟩
/-- What the law is given. -/
structure Ga (L : List Vs.Pr) (n : List UInt8) (x l : Int) : Prop where
  hl : L.length ≤ 400
  hk : ∀ x ∈ L, x.1.size < 4294967281
  hv : ∀ x ∈ L, x.2.size < 4294967281
  hn : n.length ≤ maxLen
  hx : I64 x
  hy : I64 l
set_option maxRecDepth 100000 in
set_option maxHeartbeats 8000000 in
theorem au_use {L : List Vs.Pr} {n : List UInt8} {x l : Int} {p : Option Addr} {cap : Nat} {w wx : World} {c2 c3 c4 c6 c7 c9 c10 c11 c12 c13 c14 c15 c16 c17 c20 c21 c22 c23 c24 c25 c26 c27 c28 c29 c30 c31 c32 c33 c34 c35 c36 c37 c38 c39 c40 c41 c42 c43 c44 c45 c46 c47 c48 c49 c50 c51 c52 c53 c54 c55 c56 c57 c58 c59 c60 c61 c62 c63 c64 c65 c66 c67 c68 c69 c70 c71 c72 c73 c74 c75 c76 c77 c78 c79 c80 c81 c82 c83 c84 c85 c86 c87 c88 c89 c90 c91 c92 c93 c94 c95 c96 c97 c98 c99 c100 c101 c102 c103 c104 c105 c106 c107 c108 c109 c110 c111 c112 c113 c114 c115 c116 c117 c118 c119 c120 c121 c122 c123 c124 c125 c126 c127 c128 c129 c130 c131 c132 c133 c134 c135 c136 c137 c138 c139 c140 c141 c142 c143 c144 c145 c146 c147 c148 c149 c150 c151 c152 c153 c154 c155 c156 : Value} (hg : Ga L n x l) (hk : Ka w wx L p x l) :
    Code.wp Tryd.prog (dropSeq 16 (Tryd.f3.body.getD .skip)) (bodyPost Tryd.prog Tryd.f3 fun e w' => e = .returned (.bool true) ∧ Below w.heap.size w w') ⟨#[.slice p L.length cap, .string ⟨n.toArray⟩, c2, c3, c4, .pointer (some ⟨w.heap.size, 0, none⟩), c6, c7, .int .i64 (Bur.ueF L n (x, l)), c9, c10, c11, c12, c13, c14, c15, c16, c17, .int .i64 (Bur.ueS L n (x, l)), .int .i64 (Bur.ueA L n (x, l)), c20, c21, c22, c23, c24, c25, c26, c27, c28, c29, c30, c31, c32, c33, c34, c35, c36, c37, c38, c39, c40, c41, c42, c43, c44, c45, c46, c47, c48, c49, c50, c51, c52, c53, c54, c55, c56, c57, c58, c59, c60, c61, c62, c63, c64, c65, c66, c67, c68, c69, c70, c71, c72, c73, c74, c75, c76, c77, c78, c79, c80, c81, c82, c83, c84, c85, c86, c87, c88, c89, c90, c91, c92, c93, c94, c95, c96, c97, c98, c99, c100, c101, c102, c103, c104, c105, c106, c107, c108, c109, c110, c111, c112, c113, c114, c115, c116, c117, c118, c119, c120, c121, c122, c123, c124, c125, c126, c127, c128, c129, c130, c131, c132, c133, c134, c135, c136, c137, c138, c139, c140, c141, c142, c143, c144, c145, c146, c147, c148, c149, c150, c151, c152, c153, c154, c155, c156], []⟩ wx := by
  conv => arg 2; whnf
  have hl := hg.hl
  have K1 := auUse L p cap n x l wx hk.pr (by omega) hg.hk hk.mx hg.hn hg.hx hg.hy
  generalize Bur.ueS L n (x, l) = S at K1 ⊢
  generalize Bur.ueA L n (x, l) = A at K1 ⊢
  generalize Bur.ueF L n (x, l) = F at K1 ⊢
  have K2 := fun W (hW : ErrType W) => error_any F F W hW
  rw [show (F == F) = true from by simp] at K2
  generalize ev F = V at K1 K2
  obtain ⟨c0, c1, _, _⟩ := id hk.bx
  have e1 : (S == S) = true := by simp
  have e2 : (A == A) = true := by simp
  clear hl
  go_wp2_with (first
    | (go_at_call 12; refine K1.mono ?_; clear K1; rintro e w1 ⟨rfl, hb1⟩; have hk1 := hk.step hb1)
    | (go_at_call 6; refine (K2 _ hk1.et).mono ?_; rintro e w2 ⟨rfl, hb2⟩; have hk2 := hk1.step hb2))
  go_ret
  exact ⟨rfl, hk2.bw⟩
theorem pck_at {P : List Bur.Sp} {k : Nat} (x : Bur.Sp) (h : k < P.length) : decide (x ∈ P.take (k + 1)) = (decide (x ∈ P.take k) || (decide (lo P k = x.1) && decide (hi P k = x.2))) := by
  rw [List.take_add_one, List.getElem?_eq_getElem h, Option.toList_some]
  have e1 : lo P k = P[k].1 := by simp [lo, List.getD_eq_getElem?_getD, List.getElem?_eq_getElem h]
  have e2 : hi P k = P[k].2 := by simp [hi, List.getD_eq_getElem?_getD, List.getElem?_eq_getElem h]
  rw [e1, e2, Bool.eq_iff_iff]
  simp only [decide_eq_true_eq, List.mem_append, List.mem_singleton, Bool.or_eq_true, Bool.and_eq_true]
  constructor
  · rintro (h | h)
    · exact .inl h
    · exact .inr ⟨by rw [h], by rw [h]⟩
  · rintro (h | ⟨h1, h2⟩)
    · exact .inl h
    · exact .inr (Prod.ext h1.symm h2.symm)
theorem own_cap2 {w : World} {B e size n : Nat} {v : Value} {xs : List Value} (h : w.ownsRow B e size v n xs) : ∀ q c, v = .slice q n c → n ≤ c := fun q c hv => by
  rcases h.2 with ⟨rfl, h1⟩ | ⟨g, cap, cur, rfl, _, _, h2, _⟩
  · omega
  · injection hv with _ _ h3
    omega
theorem hasQ_dec (L : List Vs.Pr) (n : List UInt8) (q : Bur.Sp) : Bur.hasQ L n q = decide (q ∈ Bur.pck L 2 n) := by
  rw [Bool.eq_iff_iff, Bur.hasQ_mem, decide_eq_true_eq]
set_option maxRecDepth 100000 in
set_option maxHeartbeats 16000000 in
theorem au_mid {L : List Vs.Pr} {n : List UInt8} {x l : Int} {p : Option Addr} {cap : Nat} {w wx : World} {c2 c3 c4 c6 c7 c9 c10 c11 c12 c13 c14 c15 c16 c17 c18 c19 c20 c21 c22 c23 c24 c25 c26 c27 c28 c29 c30 c31 c32 c33 c34 c35 c36 c37 c38 c39 c40 c41 c42 c43 c44 c45 c46 c47 c48 c49 c50 c51 c52 c53 c54 c55 c56 c57 c58 c59 c60 c61 c62 c63 c64 c65 c66 c67 c68 c69 c70 c71 c72 c73 c74 c75 c76 c77 c78 c79 c80 c81 c82 c83 c84 c85 c86 c87 c88 c89 c90 c91 c92 c93 c94 c95 c96 c97 c98 c99 c100 c101 c102 c103 c104 c105 c106 c107 c108 c109 c110 c111 c112 c113 c114 c115 c116 c117 c118 c119 c120 c121 c122 c123 c124 c125 c126 c127 c128 c129 c130 c131 c132 c133 c134 c135 c136 c137 c138 c139 c140 c141 c142 c143 c144 c145 c146 c147 c148 c149 c150 c151 c152 c153 c154 c155 c156 : Value} (hg : Ga L n x l) (hk : Ka w wx L p x l) :
    Code.wp Tryd.prog (dropSeq 13 (Tryd.f3.body.getD .skip)) (bodyPost Tryd.prog Tryd.f3 fun e w' => e = .returned (.bool true) ∧ Below w.heap.size w w') ⟨#[.slice p L.length cap, .string ⟨n.toArray⟩, c2, c3, c4, .pointer (some ⟨w.heap.size, 0, none⟩), c6, c7, .int .i64 (Bur.auP L).2, c9, c10, c11, c12, c13, c14, c15, c16, c17, c18, c19, c20, c21, c22, c23, c24, c25, c26, c27, c28, c29, c30, c31, c32, c33, c34, c35, c36, c37, c38, c39, c40, c41, c42, c43, c44, c45, c46, c47, c48, c49, c50, c51, c52, c53, c54, c55, c56, c57, c58, c59, c60, c61, c62, c63, c64, c65, c66, c67, c68, c69, c70, c71, c72, c73, c74, c75, c76, c77, c78, c79, c80, c81, c82, c83, c84, c85, c86, c87, c88, c89, c90, c91, c92, c93, c94, c95, c96, c97, c98, c99, c100, c101, c102, c103, c104, c105, c106, c107, c108, c109, c110, c111, c112, c113, c114, c115, c116, c117, c118, c119, c120, c121, c122, c123, c124, c125, c126, c127, c128, c129, c130, c131, c132, c133, c134, c135, c136, c137, c138, c139, c140, c141, c142, c143, c144, c145, c146, c147, c148, c149, c150, c151, c152, c153, c154, c155, c156], []⟩ wx := by
  conv => arg 2; whnf
  have hl := hg.hl
  by_cases h0 : (Bur.auP L).2 = 0
  · have K1 := refPrefixes L p cap n wx hk.pr (by omega) hg.hk
    rw [h0]
    have hlen := Bur.pck_len L 2 n L.length
    rw [List.take_length] at hlen
    go_upto_if 86 with fail
    go_cut [8, 18, 19] from 87 to 134 (fun s8 s18 s19 wy => s8 = .int .i64 (Bur.ueF L n (x, l)) ∧ s18 = .int .i64 (Bur.ueS L n (x, l)) ∧ s19 = .int .i64 (Bur.ueA L n (x, l)) ∧ Ka w wy L p x l)
    case rest =>
      obtain ⟨rfl, rfl, rfl, hk2⟩ := hcut
      refine ‹∀ (a : Act) (w : World), Code.wp _ _ _ a w → _› _ _ ?_
      exact au_use hg hk2
    case first =>
      go_upto_block 0 with (go_at_call 7; refine K1.mono ?_; clear K1; rintro e w1 ⟨v, rfl, row1, hb1⟩; obtain ⟨q, c, rfl⟩ := own_form row1; have hk1 := hk.step hb1; have sp1 := (spAt_own row1).2)
      clear row1
      have hQ := hasQ_dec L n (x, l)
      generalize Bur.pck L 2 n = P at hQ hlen sp1
      obtain ⟨hd, hHd⟩ : ∃ hd, Hid (hd = Bur.hasQ L n (x, l)) := ⟨_, rfl⟩
      have hQ2 : Hid (hd = decide ((x, l) ∈ P)) := hHd.out.trans hQ
      clear hQ
      go_cut [22, 23] from 93 to 119 (fun s22 _ wy => s22 = .bool hd ∧ Ka w wy L p x l)
      case first =>
        go_wp2_with fail
        go_loopw [22, 23] (fun s i wr => ∃ (k : Nat) (b : Bool), k ≤ P.length ∧ i = .int .i64 k ∧ s = .bool b ∧ Hid (b = decide ((x, l) ∈ P.take k)) ∧ Ka w wr L p x l ∧ Below w1.heap.size w1 wr) (fun _ i _ => P.length - (intOf i).toNat)
        case atStart => exact ⟨0, false, by omega, rfl, rfl, (by show _ = _; simp), hk1, below_self _⟩
        case round =>
          obtain ⟨k, b, hkl, rfl, rfl, hM, hkr, hbr⟩ := hrel
          by_cases hlt : k < P.length
          · have hlt' : (k : Int) < (P.length : Int) := by omega
            obtain ⟨B, off, rfl, hbl, hc⟩ := (sp1.step hbr) (by omega)
            obtain ⟨d0, d1⟩ := hc k hlt
            obtain ⟨c0, c1, _, _⟩ := id hkr.bx
            have hst := pck_at (x, l) hlt
            rw [← hM.out] at hst
            obtain ⟨u, hu⟩ : ∃ u, u = lo P k := ⟨_, rfl⟩
            obtain ⟨z, hz⟩ : ∃ z, z = hi P k := ⟨_, rfl⟩
            rw [← hu] at d0 hst
            rw [← hz] at d1 hst
            clear hu hz hM hc
            cases b with
            | true =>
              have hM2 : Hid (true = decide ((x, l) ∈ P.take (k + 1))) := by show _ = _; rw [hst]; rfl
              clear hst
              go_wp2_with fail
              go_quiet (fail)
              go_wp2_with fail
              exact ⟨⟨k + 1, true, by omega, by go_num, rfl, hM2, hkr.step (below_drewN (below_self _) _), below_drewN hbr _⟩, by simp [intOf]; omega⟩
            | false =>
              by_cases e1 : u = x
              · by_cases e2 : z = l
                · have hM2 : Hid (true = decide ((x, l) ∈ P.take (k + 1))) := by show _ = _; rw [hst]; simp [e1, e2]
                  have b1 : (u == x) = true := by simp [e1]
                  have b2 : (z == l) = true := by simp [e2]
                  clear hst e1 e2
                  go_wp2_with fail
                  go_quiet (fail)
                  go_wp2_with fail
                  exact ⟨⟨k + 1, true, by omega, by go_num, rfl, hM2, hkr.step (below_drewN (below_self _) _), below_drewN hbr _⟩, by simp [intOf]; omega⟩
                · have hM2 : Hid (false = decide ((x, l) ∈ P.take (k + 1))) := by show _ = _; rw [hst]; simp [e1, e2]
                  have b1 : (u == x) = true := by simp [e1]
                  have b2 : (z == l) = false := beq_eq_false_iff_ne.2 e2
                  clear hst e1 e2
                  go_wp2_with fail
                  go_quiet (fail)
                  go_wp2_with fail
                  exact ⟨⟨k + 1, false, by omega, by go_num, rfl, hM2, hkr.step (below_drewN (below_self _) _), below_drewN hbr _⟩, by simp [intOf]; omega⟩
              · have hM2 : Hid (false = decide ((x, l) ∈ P.take (k + 1))) := by show _ = _; rw [hst]; simp [e1]
                have b1 : (u == x) = false := beq_eq_false_iff_ne.2 e1
                clear hst e1
                go_wp2_with fail
                go_quiet (fail)
                go_wp2_with fail
                exact ⟨⟨k + 1, false, by omega, by go_num, rfl, hM2, hkr.step (below_drewN (below_self _) _), below_drewN hbr _⟩, by simp [intOf]; omega⟩
          · have hlt' : ¬ (k : Int) < (P.length : Int) := by omega
            have hE : Hid (b = hd) := by
              show _ = _
              rw [hM.out, List.take_of_length_le (by omega), hQ2.out]
            clear hM
            go_wp2_with fail
            go_meet
            case rel => exact ⟨by rw [hE.out], hkr⟩
      case rest =>
        obtain ⟨rfl, hk2⟩ := hcut
        clear sp1 hQ2 hk1 hlen
        obtain ⟨c0, c1, _, _⟩ := id hk2.bx
        cases hd with
        | false =>
          have hq : Bur.hasQ L n (x, l) = false := hHd.out.symm
          have hF : Bur.ueF L n (x, l) = 4 := by unfold Bur.ueF; rw [if_pos h0, hq]; rfl
          have G1 : Hid (Bur.ueF L n (x, l) = 4) := hF
          have G2 : Hid (Bur.ueS L n (x, l) = 0) := if_neg (by rw [hF]; decide)
          have G3 : Hid (Bur.ueA L n (x, l) = 0) := if_neg (by rw [hF]; decide)
          clear hF hq hHd h0
          go_wp2_with fail
          go_meet
          case rel => exact ⟨by rw [G1.out], by rw [G2.out], by rw [G3.out], hk2⟩
        | true =>
          obtain ⟨hf, hus⟩ := Bur.ueF_us h0 hHd.out.symm
          have eU := Bur.usd_eq L n (p := (x, l)) hf
          have hlu : (Bur.usB L n (x, l)).length ≤ 1000 := by
            unfold Bur.usB
            exact Nat.le_trans (List.length_filterMap_le _ _) (by omega)
          have hF : Bur.ueF L n (x, l) = if 200 < (Bur.usB L n (x, l)).length then 3 else 0 := by unfold Bur.ueF; rw [if_pos h0, ← hHd.out, if_pos rfl, eU]
          have K2 := refPlaced L p cap n x l wc hk2.pr (by omega) hg.hk hf
          have K3 := fun q c W (hq : InAt W q (Bur.usB L n (x, l))) (hc : (Bur.usB L n (x, l)).length ≤ c) => shareOf x l (Bur.usB L n (x, l)) q c W hf (by omega) hc hq
          by_cases hc : 200 < (Bur.usB L n (x, l)).length
          · rw [if_pos hc] at hF
            have hc' : (200 : Int) < ((Bur.usB L n (x, l)).length : Int) := by omega
            have G1 : Hid (Bur.ueF L n (x, l) = 3) := hF
            have G2 : Hid (Bur.ueS L n (x, l) = 0) := if_neg (by rw [hF]; decide)
            have G3 : Hid (Bur.ueA L n (x, l) = 0) := if_neg (by rw [hF]; decide)
            generalize Bur.usB L n (x, l) = U at K2 hc'
            clear hF hHd h0 hus eU hc K3 hlu
            go_wp2_with (go_at_call 10; refine K2.mono ?_; clear K2; rintro e w3 ⟨v, rfl, row3, hb3⟩; obtain ⟨q3, c3', rfl⟩ := own_form row3; have hk3 := hk2.step hb3)
            go_meet
            case rel => exact ⟨by rw [G1.out], by rw [G2.out], by rw [G3.out], hk3⟩
          · rw [if_neg hc] at hF
            have hc' : ¬ (200 : Int) < ((Bur.usB L n (x, l)).length : Int) := by omega
            have G1 : Hid (Bur.ueF L n (x, l) = 0) := hF
            have G2 : Hid (Bur.ueS L n (x, l) = Bur.shp (x, l) (Bur.usB L n (x, l))) := by show _ = _; unfold Bur.ueS; rw [if_pos hF, eU]
            have G3 : Hid (Bur.ueA L n (x, l) = Bur.alp (x, l)) := if_pos hF
            generalize Bur.usB L n (x, l) = U at K2 K3 hc' G2 hlu
            clear hF hHd h0 hus eU hc
            go_wp2_with (first
              | (go_at_call 10; refine K2.mono ?_; clear K2; rintro e w3 ⟨v, rfl, row3, hb3⟩; have hcap := own_cap2 row3; obtain ⟨q3, c3', rfl⟩ := own_form row3; have hk3 := hk2.step hb3; obtain ⟨c0', c1', _, _⟩ := id hk3.bx)
              | (go_at_call 11; refine (K3 q3 c3' _ (inAt_own row3).2 (hcap _ _ rfl)).mono ?_; rintro e w4 ⟨rfl, hb4⟩; have hk4 := hk3.step hb4))
            go_meet
            case rel => exact ⟨by rw [G1.out], by rw [G2.out], by rw [G3.out], hk4⟩
  · have hF : Bur.ueF L n (x, l) = (Bur.auP L).2 := if_neg h0
    have G2 : Bur.ueS L n (x, l) = 0 := if_neg (by rw [hF]; exact h0)
    have G3 : Bur.ueA L n (x, l) = 0 := if_neg (by rw [hF]; exact h0)
    have h0' : ((Bur.auP L).2 == 0) = false := beq_eq_false_iff_ne.2 h0
    have H1 : Hid (Bur.ueF L n (x, l) = (Bur.auP L).2) := hF
    have H2 : Hid (Bur.ueS L n (x, l) = 0) := G2
    have H3 : Hid (Bur.ueA L n (x, l) = 0) := G3
    clear hF G2 G3 h0
    generalize (Bur.auP L).2 = C at h0' H1 ⊢
    go_upto_if 86 with fail
    go_cut [8, 18, 19] from 87 to 134 (fun s8 s18 s19 wy => s8 = .int .i64 (Bur.ueF L n (x, l)) ∧ s18 = .int .i64 (Bur.ueS L n (x, l)) ∧ s19 = .int .i64 (Bur.ueA L n (x, l)) ∧ Ka w wy L p x l)
    case rest =>
      obtain ⟨rfl, rfl, rfl, hk2⟩ := hcut
      refine ‹∀ (a : Act) (w : World), Code.wp _ _ _ a w → _› _ _ ?_
      exact au_use hg hk2
    case first =>
      go_wp2_with fail
      go_meet
      case rel => exact ⟨by rw [H1.out], by rw [H2.out], by rw [H3.out], hk⟩
end Go.Proofs.YtdjiodikefoliaaDoor.Au
