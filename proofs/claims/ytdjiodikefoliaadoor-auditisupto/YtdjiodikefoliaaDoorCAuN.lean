/- The law AuditIs is true of every list of pairs, every name, every prefix. -/
import Derived.Test.YtdjiodikefoliaaDoorCAuL
import Derived.Test.YtdjiodikefoliaaDoorCAuM
namespace Go.Proofs.YtdjiodikefoliaaDoor.Au
open Go.RowKit Go.Maps Pa
open Ta (SpAt spV spAt_own own_below lo hi prefixes_same)

theorem len0 (q : Option Addr) (w : World) : SpAt w q [] := fun h => by simp at h
set_option maxRecDepth 100000 in
set_option maxHeartbeats 16000000 in
theorem au_pf {L : List Vs.Pr} {n : List UInt8} {x l : Int} {p : Option Addr} {cap : Nat} {w wx : World} {c2 c3 c4 c6 c7 c9 c10 c11 c12 c13 c14 c15 c16 c17 c18 c19 c20 c21 c22 c23 c24 c25 c26 c27 c28 c29 c30 c31 c32 c33 c34 c35 c36 c37 c38 c39 c40 c41 c42 c43 c44 c45 c46 c47 c48 c49 c50 c51 c52 c53 c54 c55 c56 c57 c58 c59 c60 c61 c62 c63 c64 c65 c66 c67 c68 c69 c70 c71 c72 c73 c74 c75 c76 c77 c78 c79 c80 c81 c82 c83 c84 c85 c86 c87 c88 c89 c90 c91 c92 c93 c94 c95 c96 c97 c98 c99 c100 c101 c102 c103 c104 c105 c106 c107 c108 c109 c110 c111 c112 c113 c114 c115 c116 c117 c118 c119 c120 c121 c122 c123 c124 c125 c126 c127 c128 c129 c130 c131 c132 c133 c134 c135 c136 c137 c138 c139 c140 c141 c142 c143 c144 c145 c146 c147 c148 c149 c150 c151 c152 c153 c154 c155 c156 : Value} (hg : Ga L n x l) (hk : Ka w wx L p x l) :
    Code.wp Tryd.prog (dropSeq 6 (Tryd.f3.body.getD .skip)) (bodyPost Tryd.prog Tryd.f3 fun e w' => e = .returned (.bool true) ∧ Below w.heap.size w w') ⟨#[.slice p L.length cap, .string ⟨n.toArray⟩, c2, c3, c4, .pointer (some ⟨w.heap.size, 0, none⟩), c6, c7, .int .i64 (Bur.auP L).2, c9, c10, c11, c12, c13, c14, c15, c16, c17, c18, c19, c20, c21, c22, c23, c24, c25, c26, c27, c28, c29, c30, c31, c32, c33, c34, c35, c36, c37, c38, c39, c40, c41, c42, c43, c44, c45, c46, c47, c48, c49, c50, c51, c52, c53, c54, c55, c56, c57, c58, c59, c60, c61, c62, c63, c64, c65, c66, c67, c68, c69, c70, c71, c72, c73, c74, c75, c76, c77, c78, c79, c80, c81, c82, c83, c84, c85, c86, c87, c88, c89, c90, c91, c92, c93, c94, c95, c96, c97, c98, c99, c100, c101, c102, c103, c104, c105, c106, c107, c108, c109, c110, c111, c112, c113, c114, c115, c116, c117, c118, c119, c120, c121, c122, c123, c124, c125, c126, c127, c128, c129, c130, c131, c132, c133, c134, c135, c136, c137, c138, c139, c140, c141, c142, c143, c144, c145, c146, c147, c148, c149, c150, c151, c152, c153, c154, c155, c156], []⟩ wx := by
  conv => arg 2; whnf
  have hl := hg.hl
  have hTl : (Bur.pfT L n).length ≤ 1000 := by
    unfold Bur.pfT
    split
    · have := Bur.pck_len L 2 n L.length
      rw [List.take_length] at this
      omega
    · simp
  obtain ⟨C, hC⟩ : ∃ C, C = (Bur.auP L).2 := ⟨_, rfl⟩
  rw [← hC]
  have HC : Hid (C = (Bur.auP L).2) := hC
  clear hC
  go_upto_if 52 with fail
  go_cut [12, 13] from 51 to 66 (fun s12 s13 wy => s12 = .int .i64 (Bur.pfF L n) ∧ ∃ q c, s13 = .slice q (Bur.pfT L n).length c ∧ SpAt wy q (Bur.pfT L n) ∧ Ka w wy L p x l)
  case rest =>
    obtain ⟨rfl, q, c, rfl, sq, hk1⟩ := hcut
    have K1 := auPrefixes L p cap n wc hk1.pr (by omega) hg.hk hk1.mx hg.hn
    have K2 := fun W (hW : ErrType W) => error_any (Bur.pfF L n) (Bur.pfF L n) W hW
    rw [show (Bur.pfF L n == Bur.pfF L n) = true from by simp] at K2
    have K3 := fun q1 c1 W (h1 : SpAt W q1 (Bur.pfT L n)) (h2 : SpAt W q (Bur.pfT L n)) => prefixes_same q1 q c1 c (Bur.pfT L n) W (by omega) h1 h2
    generalize Bur.pfT L n = T at K1 K3 sq hTl
    generalize Bur.pfF L n = F at K1 K2
    generalize ev F = V at K1 K2
    go_upto_if 84 with (first
      | (go_at_call 8; refine K1.mono ?_; clear K1; rintro e w2 ⟨v, rfl, row2, hb2⟩; obtain ⟨q2, c2', rfl⟩ := own_form row2; have hk2 := hk1.step hb2; have sq2 := sq.step hb2; have sr2 := (spAt_own row2).2)
      | (go_at_call 6; refine (K2 _ hk2.et).mono ?_; rintro e w3 ⟨rfl, hb3⟩; have hk3 := hk2.step hb3; have sq3 := sq2.step hb3; have sr3 := sr2.step hb3)
      | (go_at_call 9; refine (K3 q2 c2' _ sr3 sq3).mono ?_; rintro e w4 ⟨rfl, hb4⟩; have hk4 := hk3.step hb4))
    go_cut [] (fun wy => Ka w wy L p x l)
    case first =>
      go_wp2_with fail
      go_meet
      case rel => exact hk4
    case rest =>
      refine ‹∀ (a : Act) (w : World), Code.wp _ _ _ a w → _› _ _ ?_
      obtain rfl := HC.out
      exact au_mid hg hcut
  case first =>
    by_cases h0 : (Bur.auP L).2 = 0
    · have z1 : (C == 0) = true := by rw [HC.out, h0]; rfl
      have z2 : (C != 0) = false := by rw [HC.out, h0]; rfl
      have HZ : Hid (C = 0) := HC.out.trans h0
      have K1 := refPrefixes L p cap n wx hk.pr (by omega) hg.hk
      have hF : Bur.pfF L n = if Bur.hasN L n = true then (if 60 < (Bur.pck L 2 n).length then 3 else 0) else 4 := if_pos h0
      cases hN : Bur.hasN L n with
      | false =>
        rw [hN] at K1 hF
        have hF : Bur.pfF L n = 4 := hF
        have G1 : Hid (Bur.pfF L n = 4) := hF
        have G2 : Hid (Bur.pfT L n = []) := if_neg (by rw [hF]; decide)
        clear hF hN h0
        go_wp2_with (go_at_call 7; refine K1.mono ?_; clear K1; rintro e w1 ⟨v, rfl, row1, hb1⟩; obtain ⟨q, c, rfl⟩ := own_form row1; have hk1 := hk.step hb1)
        go_meet
        case rel => exact ⟨by rw [G1.out], none, 0, by rw [G2.out]; rfl, by rw [G2.out]; exact len0 _ _, hk1⟩
      | true =>
        rw [hN] at K1 hF
        rw [if_pos rfl] at hF
        by_cases h6 : 60 < (Bur.pck L 2 n).length
        · rw [if_pos h6] at hF
          have h6' : (60 : Int) < ((Bur.pck L 2 n).length : Int) := by omega
          have G1 : Hid (Bur.pfF L n = 3) := hF
          have G2 : Hid (Bur.pfT L n = []) := if_neg (by rw [hF]; decide)
          generalize Bur.pck L 2 n = P at K1 h6'
          clear hF hN h0 h6
          go_wp2_with (go_at_call 7; refine K1.mono ?_; clear K1; rintro e w1 ⟨v, rfl, row1, hb1⟩; obtain ⟨q, c, rfl⟩ := own_form row1; have hk1 := hk.step hb1)
          go_meet
          case rel => exact ⟨by rw [G1.out], none, 0, by rw [G2.out]; rfl, by rw [G2.out]; exact len0 _ _, hk1⟩
        · rw [if_neg h6] at hF
          have h6' : ¬ (60 : Int) < ((Bur.pck L 2 n).length : Int) := by omega
          have G1 : Hid (Bur.pfF L n = C) := hF.trans HZ.out.symm
          have G2 : Hid (Bur.pfT L n = Bur.pck L 2 n) := if_pos hF
          generalize Bur.pck L 2 n = P at K1 h6' G2
          clear hF hN h0 h6
          go_wp2_with (go_at_call 7; refine K1.mono ?_; clear K1; rintro e w1 ⟨v, rfl, row1, hb1⟩; obtain ⟨q, c, rfl⟩ := own_form row1; have hk1 := hk.step hb1; have sq := (spAt_own row1).2)
          go_meet
          case rel => exact ⟨by rw [G1.out], q, c, by rw [G2.out], by rw [G2.out]; exact sq, hk1⟩
    · have hF : Bur.pfF L n = (Bur.auP L).2 := if_neg h0
      have G1 : Hid (Bur.pfF L n = C) := hF.trans HC.out.symm
      have G2 : Hid (Bur.pfT L n = []) := if_neg (by rw [hF]; exact h0)
      have h0' : (C == 0) = false := by rw [HC.out]; exact beq_eq_false_iff_ne.2 h0
      clear hF h0
      go_wp2_with fail
      go_meet
      case rel => exact ⟨by rw [G1.out], none, 0, by rw [G2.out]; rfl, by rw [G2.out]; exact len0 _ _, hk⟩
set_option maxRecDepth 100000 in
set_option maxHeartbeats 8000000 in
theorem law_audit (L : List Vs.Pr) (n : List UInt8) (x l : Int) (p : Option Addr) (cap : Nat) (w : World) (hp : PrAt w p L) (hl : L.length ≤ 9223372036854775807) (hk : ∀ x ∈ L, x.1.size < 4294967281) (hv : ∀ x ∈ L, x.2.size < 4294967281) (hn : n.length ≤ maxLen) (hx : I64 x) (hy : I64 l) (hM : MaxL w) (het : ErrType w) :
    Calls Tryd.prog 3 #[.slice p L.length cap, .string ⟨n.toArray⟩, pfx x l] w fun e w' => e = .returned (.bool true) ∧ Below w.heap.size w w' := by
  have b0 := below_al (below_self w) (.cells #[.int .i64 x, .int .i64 l] 24)
  by_cases h4 : 400 < L.length
  · have h4' : (400 : Int) < (L.length : Int) := by omega
    go_enter Tryd.func3, Tryd.ntmps3
    go_wp2
    go_ret
    exact ⟨rfl, b0⟩
  · have h4' : ¬ (400 : Int) < (L.length : Int) := by omega
    have hg : Ga L n x l := ⟨by omega, hk, hv, hn, hx, hy⟩
    have kk : Ka w (w.alloc (.cells #[.int .i64 x, .int .i64 l] 24)) L p x l := ⟨b0, Bx.new w _ x l, hp.step b0, hM.step b0, etStep het b0⟩
    have K1 := fun W (h : PrAt W p L) => refAudit L p cap W h (by omega) hk hv
    have K2 := fun W (h : PrAt W p L) (hm : MaxL W) => auCheck L p cap W h (by omega) hk hm
    have K3 := fun W (hW : ErrType W) => error_any (Bur.auP L).2 (Bur.auP L).2 W hW
    rw [show ((Bur.auP L).2 == (Bur.auP L).2) = true from by simp] at K3
    obtain ⟨C, hC⟩ : ∃ C, Hid (C = (Bur.auP L).2) := ⟨_, rfl⟩
    obtain ⟨I, hI⟩ : ∃ I, Hid (I = (Bur.auP L).1) := ⟨_, rfl⟩
    rw [← hC.out] at K1 K2 K3
    rw [← hI.out] at K1 K2
    generalize ev C = V at K2 K3
    have hne : (I != I) = false := by simp
    clear b0 h4
    go_enter Tryd.func3, Tryd.ntmps3
    go_upto_if 49 with (first
      | (go_at_call 4; refine (K1 _ kk.pr).mono ?_; rintro e w1 ⟨rfl, hb1⟩; have kk1 := kk.step hb1)
      | (go_at_call 5; refine (K2 _ kk1.pr kk1.mx).mono ?_; rintro e w2 ⟨rfl, hb2⟩; have kk2 := kk1.step hb2)
      | (go_at_call 6; refine (K3 _ kk2.et).mono ?_; rintro e w3 ⟨rfl, hb3⟩; have kk3 := kk2.step hb3))
    go_cut [8] (fun s8 wy => s8 = .int .i64 (Bur.auP L).2 ∧ Ka w wy L p x l)
    case first =>
      go_wp2_with fail
      go_meet
      case rel => exact ⟨by rw [← hC.out], kk3⟩
    case rest =>
      obtain ⟨rfl, hcut⟩ := hcut
      refine ‹∀ (a : Act) (w : World), Code.wp _ _ _ a w → _› _ _ ?_
      exact au_pf hg hcut
end Go.Proofs.YtdjiodikefoliaaDoor.Au
