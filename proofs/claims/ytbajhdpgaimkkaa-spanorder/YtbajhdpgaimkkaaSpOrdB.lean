/- The walk of the law SpanOrder: its first pieces, and the whole. -/
import Derived.Test.YtbajhdpgaimkkaaSpOrdA
import Derived.Deep.CutBlock
namespace Go.Proofs.Ytbajhdpgaimkkaa
open Go.RowKit

theorem fact_new (w : World) : SpAt (w.alloc (.cells #[.int .i64 5, .int .i64 9, .int .i64 1, .int .i64 4] 28)) (some ⟨w.heap.size, 0, none⟩) [(5, 9), (1, 4)] := fun _ => ⟨w.heap.size, 0, rfl, by simp, fun i hi => by
  match i, hi with
  | 0, _ => exact ⟨by simp; rfl, by simp; rfl⟩
  | 1, _ => exact ⟨by simp; rfl, by simp; rfl⟩⟩
theorem rev_step {l : List Bur.Sp} {k : Nat} (h : k < l.length) : spV (l.drop k).reverse = spV (l.drop (k + 1)).reverse ++ [.int .i64 (lo l k), .int .i64 (hi l k)] := by
  rw [drop_sp h, List.reverse_cons, spV_app]; rfl

set_option maxRecDepth 100000 in
set_option maxHeartbeats 8000000 in
theorem order1 {l : List Bur.Sp} {p pm : Option Addr} {cap cm : Nat} {w wx : World} {c1 c2 c4 c5 c6 c7 c8 c9 c10 c11 c12 c13 c14 c15 c16 c17 c18 c19 c20 c21 c22 c23 c24 c25 c26 c27 c28 c29 c30 c31 c32 c33 c34 c35 c36 c37 c38 c39 c40 c41 c42 c43 c44 c45 c46 c47 c48 c49 c50 c51 c52 c53 c54 c55 c56 c57 c58 c59 c60 c61 c62 c63 c64 c65 c66 c67 c68 c69 c70 c71 c72 c73 c74 c75 c76 c77 c78 c79 c80 c81 c82 c83 c84 c85 c86 c87 c88 c89 c90 c91 c92 c93 c94 c95 c96 c97 c98 c99 c100 c101 c102 c103 c104 c105 c106 c107 c108 c109 c110 c111 c112 c113 c114 c115 c116 c117 c118 c119 c120 c121 c122 c123 c124 c125 c126 c127 c128 c129 : Value} (hl : l.length ≤ 64) (hA : Bur.InA l) (hs : SpAt wx p l) (hm : SpAt wx pm (Bur.mk l)) (hb : Below w.heap.size w wx) :
    Code.wp Try.prog (dropSeq 5 (Try.f4.body.getD .skip)) (bodyPost Try.prog Try.f4 fun e w' => e = .returned (.bool true) ∧ Below w.heap.size w w') ⟨#[.slice p l.length cap, c1, c2, .slice pm (Bur.mk l).length cm, c4, c5, c6, c7, c8, c9, c10, c11, c12, c13, c14, c15, c16, c17, c18, c19, c20, c21, c22, c23, c24, c25, c26, c27, c28, c29, c30, c31, c32, c33, c34, c35, c36, c37, c38, c39, c40, c41, c42, c43, c44, c45, c46, c47, c48, c49, c50, c51, c52, c53, c54, c55, c56, c57, c58, c59, c60, c61, c62, c63, c64, c65, c66, c67, c68, c69, c70, c71, c72, c73, c74, c75, c76, c77, c78, c79, c80, c81, c82, c83, c84, c85, c86, c87, c88, c89, c90, c91, c92, c93, c94, c95, c96, c97, c98, c99, c100, c101, c102, c103, c104, c105, c106, c107, c108, c109, c110, c111, c112, c113, c114, c115, c116, c117, c118, c119, c120, c121, c122, c123, c124, c125, c126, c127, c128, c129], []⟩ wx := by
  obtain ⟨i0, hin, hz0, hz1, hz2⟩ := info_parts info_span
  conv => arg 2; whnf
  go_upto_block 0 with fail
  go_cut [7, 8] from 41 to 54 (fun v _ wy => ∃ pb cb, v = .slice pb l.reverse.length cb ∧ SpAt wy pb l.reverse ∧ Below wx.heap.size wx wy)
  case rest =>
    obtain ⟨pb, cb, rfl, hr, hb2⟩ := hcut
    replace hs := hs.step hb2
    replace hm := hm.step hb2
    replace hb := below_via hb hb2
    refine ‹∀ (a : Act) (w : World), Code.wp _ _ _ a w → _› _ _ ?_
    exact order2 hl hA hs hm hr hb
  case first =>
  go_wp2_with fail
  go_loopw [7, 8] (fun v i wr => ∃ k : Nat, k ≤ l.length ∧ i = .int .i64 ((k : Int) - 1) ∧ wr.ownsRow wx.heap.size 28 2 v (l.length - k) (spV (l.drop k).reverse) ∧ Below wx.heap.size wx wr) (fun _ i _ => (intOf i + 1).toNat)
  case atStart => exact ⟨l.length, by omega, rfl, by simpa [spV] using World.ownsRow_nil _ _ _ _, below_self _⟩
  case round =>
    obtain ⟨k, hk, rfl, hown, hb2⟩ := hrel
    have hsz := hb2.size
    by_cases hlt : 0 < k
    · have hlt' : (0 : Int) ≤ (k : Int) - 1 := by omega
      have hkl : k - 1 < l.length := by omega
      obtain ⟨j, rfl⟩ : ∃ j, k = j + 1 := ⟨k - 1, by omega⟩
      obtain ⟨b, off, rfl, hbl, hc⟩ := hs (by omega)
      have hcb := bcell hb2
      have c0 : wr.cell? ⟨b, off + j * 2, none⟩ = some (.int .i64 (lo l j)) := (hcb.1 _ _ hbl).trans (hc j (by omega)).1
      have c1 : wr.cell? ⟨b, off + j * 2 + 1, none⟩ = some (.int .i64 (hi l j)) := (hcb.1 _ _ hbl).trans (hc j (by omega)).2
      have HR : Hid _ := rev_step (l := l) (k := j) (by omega)
      have ei : ((j + 1 : Nat) : Int) - 1 = (j : Int) := by omega
      rw [ei]
      clear hc hcb hs hA hm ei hlt' hlt
      go_wp2_with (at_builtin; refine wpList_append_own _ rfl _ _ 22 rfl wx.heap.size 28 i0 (.agg #[.int .i64 0, .int .i64 0]) 2 16 Try.underlying22 hin hz0 hz1 hz2 rfl (by decide) _ _ _ rfl (hown.alloc _) ⟨wr.heap.size, 0, none⟩ 1 1 [.int .i64 (lo l j), .int .i64 (hi l j)] rfl rfl ?c1 ?c2 ?c3 ?c4 ?c5 ?_)
      case c1 =>
        intro j u hj
        match j, hj with
        | 0, hj => simp at hj; subst hj; simp [Addr.add]
        | 1, hj => simp at hj; subst hj; simp [Addr.add]
      case c2 => intro u hu; simp at hu; rcases hu with rfl | rfl <;> rfl
      case c3 => unfold maxLen; omega
      case c4 => omega
      case c5 => simp; omega
      intro v' w2 hown3 hgrow _
      have hb4 : Below wx.heap.size wx w2 := (below_al hb2 _).grown hgrow (by simp; omega) (fun j hj => (hown.lt j hj).1)
      have hown4 : w2.ownsRow wx.heap.size 28 2 v' (l.length - j) (spV (l.drop j).reverse) := by
        rw [HR.out, show l.length - j = l.length - (j + 1) + 1 from by omega]; exact hown3
      clear hown3 hgrow hown HR
      go_wp2_with fail
      exact ⟨⟨j, by omega, by go_num, hown4, hb4⟩, by simp [intOf]⟩
    · have hk0 : k = 0 := by omega
      subst hk0
      have hown2 := hown
      simp only [Nat.sub_zero, List.drop_zero] at hown2
      rw [← List.length_reverse] at hown2
      clear hown hs hm hb
      go_wp2_with fail
      go_meet
      case rel =>
        rcases hown2.2 with ⟨h0, h1⟩ | ⟨g, cp, cur', h0, _⟩
        · exact ⟨none, 0, by rw [h1]; exact h0, fun h => by omega, hb2⟩
        · exact ⟨some ⟨g, 0, none⟩, cp, h0, by rw [h0] at hown2; exact (spAt_own hown2).2, hb2⟩

set_option maxRecDepth 100000 in
set_option maxHeartbeats 8000000 in
theorem law_order (p : Option Addr) (cap : Nat) (l : List Bur.Sp) (w : World) (hl : l.length ≤ 9223372036854775807) (hs : SpAt w p l) :
    Calls Try.prog 4 #[.slice p l.length cap] w fun e w' => e = .returned (.bool true) ∧ Below w.heap.size w w' := by
  by_cases h0 : Bur.mkF l = 0
  · obtain ⟨h64, hA⟩ := Bur.mkF_ok h0
    have HF : Hid (Bur.mkF l = 0) := h0
    have HS : Hid (Bur.mkS l = Bur.mk l) := if_pos h0
    clear h0
    go_enter Try.func4, Try.ntmps4
    go_wp2_with fail
    refine (make p cap l w hl hs).mono ?_
    rintro e w1 ⟨pm, cm, rfl, hm, hb⟩
    rw [HF.out, HS.out, ev_0]
    rw [HS.out] at hm
    replace hs := hs.step hb
    go_wp2_with fail
    have hx := fact_new w1
    replace hs := hs.alloc (.cells #[.int .i64 5, .int .i64 9, .int .i64 1, .int .i64 4] 28)
    replace hm := hm.alloc (.cells #[.int .i64 5, .int .i64 9, .int .i64 1, .int .i64 4] 28)
    replace hb := below_al hb (.cells #[.int .i64 5, .int .i64 9, .int .i64 1, .int .i64 4] 28)
    refine (make (some ⟨w1.heap.size, 0, none⟩) 2 [(5, 9), (1, 4)] _ (by decide) hx).mono ?_
    rintro e w2 ⟨pf, cf, rfl, _, hb1⟩
    rw [Bur.mk_fact.1, show Bur.mkS [(5, 9), (1, 4)] = [(1, 9)] from by unfold Bur.mkS; rw [if_pos Bur.mk_fact.1, Bur.mk_fact.2], ev_0]
    replace hs := hs.step hb1
    replace hm := hm.step hb1
    replace hb := below_via hb hb1
    clear hb1 hx
    go_upto_if 40 with fail
    go_cut [] (fun wy => wy = w2)
    case first =>
      go_wp2_with fail
      go_meet
      case rel => exact rfl
    case rest =>
    subst hcut
    refine ‹∀ (a : Act) (w : World), Code.wp _ _ _ a w → _› _ _ ?_
    exact order1 h64 hA hs hm hb
  · have hev : Hid (ev (Bur.mkF l) = errN (Bur.mkF l)) := if_neg h0
    go_enter Try.func4, Try.ntmps4
    go_wp2_with fail
    refine (make p cap l w hl hs).mono ?_
    rintro e w1 ⟨pm, cm, rfl, hm, hb⟩
    rw [hev.out]
    go_wp2_with fail
    go_ret
    exact ⟨rfl, hb⟩
end Go.Proofs.Ytbajhdpgaimkkaa
