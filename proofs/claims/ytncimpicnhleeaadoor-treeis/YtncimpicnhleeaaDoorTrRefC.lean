/- The contracts of the reference's DropFrom and PutIn. -/
import Derived.Test.YtncimpicnhleeaaDoorTrRefB
import Derived.Test.YtncimpicnhleeaaDoorTrWalkE
import Derived.Deep.CutBlock
namespace Bur
open Go
theorem drp_len (p : Sp) (l : List Sp) : ((drpT p l).length == l.length) = !hasP p l := by
  rw [Bool.eq_iff_iff, beq_iff_eq, drpT_eq, List.length_filter_eq_length_iff, Bool.not_eq_true']
  constructor
  · intro h
    cases e : hasP p l with
    | false => rfl
    | true =>
      have := h p ((hasP_iff p l).1 e)
      rw [sm_self] at this
      cases this
  · intro h q hq
    cases e : sm q p with
    | false => rfl
    | true =>
      have : p ∈ l := (sm_iff q p).1 e ▸ hq
      rw [(hasP_iff p l).2 this] at h
      cases h
theorem drp_cons (p q : Sp) (r : List Sp) : drpT p (q :: r) = if sm q p = true then drpT p r else q :: drpT p r := by
  rw [drpT_eq, List.filter_cons, drpT_eq]
  cases sm q p <;> rfl
/-- What is still to come. -/
def rst (dn : Bool) (p : Sp) (r : List Sp) : List Sp := if dn = true then r else insT p r
end Bur
namespace Go.Proofs.YtncimpicnhleeaaDoor
open Go.RowKit

set_option maxRecDepth 100000 in
set_option maxHeartbeats 4000000 in
theorem dropFrom_ok (q : Option Addr) (cap : Nat) (l : List Bur.Sp) (p : Bur.Sp) (w : World) (hl : l.length ≤ 9223372036854775807) (hs : SpAt w q l) (h : Bur.tpF l p = 0) :
    Calls Tryd.prog 11 #[.slice q l.length cap, pfx p.1 p.2] w fun e w' => ∃ (p' : Option Addr) (cap' : Nat), e = .returned (.tuple #[.slice p' (Bur.drpS l p).length cap', .int .i64 (Bur.drpF l p)]) ∧ SpAt w' p' (Bur.drpS l p) ∧ Below w.heap.size w w' := by
  obtain ⟨x, y⟩ := p
  obtain ⟨i0, hi0, hz0, hz1, hz2⟩ := info_parts info_pfx
  obtain ⟨t1, t2⟩ := Bur.tpF_ok h
  have ll6 := (Bur.treF_ok t1).1
  have F : Bur.drpF l (x, y) = if Bur.hasP (x, y) l = true then 0 else 4 := if_pos h
  have T1 : Hid (Bur.treF l = 0) := t1
  have T2 : Hid (Bur.fault x y = 0) := t2
  have LE := Bur.drp_len (x, y) l
  have FIN : Hid (((Bur.drpT (x, y) l).length == l.length) = true ∧ Bur.drpS l (x, y) = [] ∧ Bur.drpF l (x, y) = 4 ∨ ((Bur.drpT (x, y) l).length == l.length) = false ∧ Bur.drpS l (x, y) = Bur.drpT (x, y) l ∧ Bur.drpF l (x, y) = 0) := by
    cases hh : Bur.hasP (x, y) l with
    | false =>
      have F' : Bur.drpF l (x, y) = 4 := by rw [F, hh]; rfl
      exact .inl ⟨by rw [LE, hh]; rfl, if_neg (by rw [F']; decide), F'⟩
    | true =>
      have F' : Bur.drpF l (x, y) = 0 := by rw [F, hh]; rfl
      exact .inr ⟨by rw [LE, hh]; rfl, if_pos F', F'⟩
  clear h t1 t2 F LE
  have pb : PfAt (w.alloc (.cells #[.int .i64 x, .int .i64 y] 24)) w.heap.size (x, y) := PfAt.new w x y
  have hb0 : Below w.heap.size w (w.alloc (.cells #[.int .i64 x, .int .i64 y] 24)) := below_al (below_self _) _
  go_enter Tryd.func11, Tryd.ntmps11
  go_wp2_with fail
  refine (treeFault q cap l _ hl (hs.step hb0)).mono ?_
  rintro e w1 ⟨rfl, hb1⟩
  rw [T1.out]
  have pb1 := pb.step hb1
  obtain ⟨p0, p1, p2⟩ := pb1
  have hb2 := below_via hb0 hb1
  clear hb0 hb1 pb
  go_wp2_with fail
  refine (refFault x y w1).mono ?_
  rintro e w2 ⟨rfl, hb3⟩
  rw [T2.out]
  have pb2 : PfAt w2 w.heap.size (x, y) := PfAt.step ⟨p0, p1, p2⟩ hb3
  have hb4 := below_via hb2 hb3
  have hs2 : SpAt w2 q l := hs.step hb4
  clear hb2 hb3 p0 p1 p2 hs
  go_wp2_with fail
  go_loopw [7, 8] (fun v i wr => ∃ (k : Nat) (acc : List Bur.Sp), k ≤ l.length ∧ i = .int .i64 k ∧ acc.length ≤ k ∧ Hid (Bur.drpT (x, y) l = acc ++ Bur.drpT (x, y) (l.drop k)) ∧ wr.ownsRow w2.heap.size 24 2 v acc.length (spV acc) ∧ Below w2.heap.size w2 wr) (fun _ i _ => l.length - (intOf i).toNat)
  case atStart => exact ⟨0, [], by omega, rfl, by simp, rfl, World.ownsRow_nil _ _ _ _, below_self _⟩
  case round =>
    obtain ⟨k, acc, hk, rfl, hrl, R, hown, hb⟩ := hrel
    have hsz := hb.size
    by_cases hlt : k < l.length
    · have hlt' : (k : Int) < (l.length : Int) := by omega
      obtain ⟨b, off, rfl, hbl, hc⟩ := hs2 (by omega)
      have c0 : wr.cell? ⟨b, off + k * 2, none⟩ = some (.int .i64 (lo l k)) := (hb.cell (p := ⟨b, off + k * 2, none⟩) hbl).trans (hc k hlt).1
      have c1 : wr.cell? ⟨b, off + k * 2 + 1, none⟩ = some (.int .i64 (hi l k)) := (hb.cell (p := ⟨b, off + k * 2 + 1, none⟩) hbl).trans (hc k hlt).2
      have hd0 := drop_sp hlt
      obtain ⟨u, hu⟩ : ∃ u, lo l k = u := ⟨_, rfl⟩
      obtain ⟨v2, hv⟩ : ∃ v, hi l k = v := ⟨_, rfl⟩
      rw [hu] at c0 hd0
      rw [hv] at c1 hd0
      have R1 := R.out
      rw [hd0, Bur.drp_cons] at R1
      obtain ⟨p0, p1, p2⟩ := pb2.step hb
      have hbl2 : b < wr.heap.size := by omega
      have hO := refSame (u, v2) (x, y)
      clear hc hs2 hd0 hu hv R pb2 FIN
      cases hp : Bur.sm (u, v2) (x, y)
      · have R2 : Hid (Bur.drpT (x, y) l = (acc ++ [(u, v2)]) ++ Bur.drpT (x, y) (l.drop (k + 1))) := by
          show _ = _
          rw [R1, if_neg (by rw [hp]; simp)]; simp
        rw [hp] at hO
        clear R1 hp
        go_upto_region 10 with fail
        go_region_held3 (fun wy => wy.cell? ⟨b, off + k * 2, none⟩ = some (.int .i64 u) ∧ wy.cell? ⟨b, off + k * 2 + 1, none⟩ = some (.int .i64 v2) ∧ wy.cell? ⟨w.heap.size, 0, none⟩ = some (.int .i64 x) ∧ wy.cell? ⟨w.heap.size, 1, none⟩ = some (.int .i64 y)) (first | exact ⟨c0, c1, p1, p2⟩ | exact ⟨d0, d1, d2, d3⟩)
          (first | (go_at_call 26; refine (hO _).mono ?_; rintro e w3 ⟨rfl, hb5⟩; have d0 := (hb5.cell (p := ⟨b, off + k * 2, none⟩) hbl2).trans c0; have d1 := (hb5.cell (p := ⟨b, off + k * 2 + 1, none⟩) hbl2).trans c1; have d2 := (hb5.cell (p := ⟨w.heap.size, 0, none⟩) p0).trans p1; have d3 := (hb5.cell (p := ⟨w.heap.size, 1, none⟩) p0).trans p2))
        have hb6 := below_via hb.drew hb5
        have hown2 := own_below (own_below hown (below_self _).drew) hb5
        have hsz2 := hb6.size
        clear hb5 c0 c1 p1 p2 hown hb
        go_wp2_with (at_builtin; refine wpList_append_own _ rfl _ _ 22 rfl w2.heap.size 24 i0 (.agg #[.int .i64 0, .int .i64 0]) 2 16 Tryd.underlying22 hi0 hz0 hz1 hz2 rfl (by decide) _ _ _ rfl (hown2.alloc _) ⟨w3.heap.size, 0, none⟩ 1 1 [.int .i64 u, .int .i64 v2] rfl rfl ?c1 ?c2 ?c3 ?c4 ?c5 ?_)
        case c1 =>
          intro j u hj
          match j, hj with
          | 0, hj => simp at hj; subst hj; simp [Addr.add]
          | 1, hj => simp at hj; subst hj; simp [Addr.add]
        case c2 => intro u hu; simp at hu; rcases hu with rfl | rfl <;> rfl
        case c3 => unfold maxLen; omega
        case c4 => omega
        case c5 => simp; omega
        intro v' w4 hown3 hgrow _
        have hb7 : Below w2.heap.size w2 w4 := (below_al hb6 _).grown hgrow (by simp; omega) (fun j hj => (hown2.lt j hj).1)
        clear hown2 hgrow
        go_wp2
        exact ⟨⟨k + 1, acc ++ [(u, v2)], by omega, by go_num, by simp; omega, R2, by simpa [spV_app, spV] using hown3, hb7⟩, by simp [intOf]; omega⟩
      · have R2 : Hid (Bur.drpT (x, y) l = acc ++ Bur.drpT (x, y) (l.drop (k + 1))) := by
          show _ = _
          rw [R1, if_pos hp]
        rw [hp] at hO
        clear R1 hp
        go_upto_region 10 with fail
        go_region_held3 (fun wy => wy.cell? ⟨b, off + k * 2, none⟩ = some (.int .i64 u) ∧ wy.cell? ⟨b, off + k * 2 + 1, none⟩ = some (.int .i64 v2) ∧ wy.cell? ⟨w.heap.size, 0, none⟩ = some (.int .i64 x) ∧ wy.cell? ⟨w.heap.size, 1, none⟩ = some (.int .i64 y)) (first | exact ⟨c0, c1, p1, p2⟩ | exact ⟨d0, d1, d2, d3⟩)
          (first | (go_at_call 26; refine (hO _).mono ?_; rintro e w3 ⟨rfl, hb5⟩; have d0 := (hb5.cell (p := ⟨b, off + k * 2, none⟩) hbl2).trans c0; have d1 := (hb5.cell (p := ⟨b, off + k * 2 + 1, none⟩) hbl2).trans c1; have d2 := (hb5.cell (p := ⟨w.heap.size, 0, none⟩) p0).trans p1; have d3 := (hb5.cell (p := ⟨w.heap.size, 1, none⟩) p0).trans p2))
        have hb6 := below_via hb.drew hb5
        have hown2 := own_below (own_below hown (below_self _).drew) hb5
        clear hb5 c0 c1 p1 p2 hown hb
        go_wp2_with fail
        exact ⟨⟨k + 1, acc, by omega, by go_num, by omega, R2, hown2, hb6⟩, by simp [intOf]; omega⟩
    · have R2 : Hid (Bur.drpT (x, y) l = acc) := by
        show _ = _
        rw [R.out, List.drop_eq_nil_of_le (by omega), Bur.drpT_eq]
        simp
      have FI := FIN.out
      rw [R2.out] at FI
      have hb8 := below_via hb4 hb
      clear R hs2 pb2 FIN
      rcases FI with ⟨f1, f2, f3⟩ | ⟨f1, f2, f3⟩
      · have g1 : ((acc.length : Int) == (l.length : Int)) = true := by rw [beq_iff_eq] at f1 ⊢; omega
        have G2 : Hid _ := f2
        have G3 : Hid _ := f3
        clear f1 f2 f3 R2
        rcases hown.2 with ⟨rfl, h0⟩ | ⟨g2, cp, cur', rfl, _⟩
        · rw [h0] at g1
          go_wp2
          go_ret2
          exact ⟨none, 0, by rw [G2.out, G3.out]; rfl, by rw [G2.out]; exact SpAt.nil _ _, hb8⟩
        · go_wp2
          go_ret2
          exact ⟨none, 0, by rw [G2.out, G3.out]; rfl, by rw [G2.out]; exact SpAt.nil _ _, hb8⟩
      · have g1 : ((acc.length : Int) == (l.length : Int)) = false := by
          have := ne_of_beq_false f1
          exact beq_false_of_ne (by omega)
        have G2 : Hid _ := f2
        have G3 : Hid _ := f3
        clear f1 f2 f3 R2
        rcases hown.2 with ⟨rfl, h0⟩ | ⟨g2, cp, cur', rfl, _⟩
        · rw [h0] at g1
          go_wp2
          go_ret2
          exact ⟨none, 0, by rw [G2.out, G3.out, h0]; rfl, by rw [G2.out]; exact fun h => by omega, hb8⟩
        · go_wp2
          go_ret2
          exact ⟨some ⟨g2, 0, none⟩, cp, by rw [G2.out, G3.out]; rfl, by rw [G2.out]; exact (spAt_own hown).2, hb8⟩
end Go.Proofs.YtncimpicnhleeaaDoor
