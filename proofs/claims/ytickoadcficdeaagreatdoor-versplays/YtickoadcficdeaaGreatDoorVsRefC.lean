/- The contracts of the reference's Insert and Range. -/
import Derived.Test.YtickoadcficdeaaGreatDoorVsRefA
import Derived.Test.YtickoadcficdeaaGreatDoorVsSame
import Derived.Laws.Cover1
import Derived.Deep.CutBlock
import Derived.Test.YtickoadcficdeaaGreatDoorAppOne
namespace Vs
theorem insP_step (x p : Pr) (r : List Pr) : insP (x :: r) p = if bl p.1 x.1 = true then p :: x :: r else x :: insP r p := rfl
end Vs
namespace Go.Proofs.YtickoadcficdeaaGreatDoor
open Go.RowKit

theorem infoPair : (Tryz.prog.info? 79).map (fun i => (i.zero, i.size, i.bytes)) = some (some (.agg #[.string ByteArray.empty, .string ByteArray.empty]), 2, 32) := by kernel_rfl
theorem pair_new (W : World) (x y : ByteArray) (t : Nat) : ∀ (j : Nat) (u : Value), ([.string x, .string y] : List Value)[j]? = some u → (W.alloc (.cells #[.string x, .string y] t)).cell? ⟨W.heap.size, j, none⟩ = some u := by
  intro j u hj
  match j, hj with
  | 0, hj => simp at hj; subst hj; simp
  | 1, hj => simp at hj; subst hj; simp
theorem pair_one {x y : ByteArray} : ∀ u ∈ ([.string x, .string y] : List Value), u.oneCell' = true := by
  intro u hu; simp at hu; rcases hu with rfl | rfl <;> rfl
theorem own_pair {w : World} {B : Nat} {v : Value} {o : List Vs.Pr} {x y : ByteArray} (h : w.ownsRow B 79 2 v (o.length + 1) (prV o ++ [.string x, .string y])) : w.ownsRow B 79 2 v (o ++ [(x, y)]).length (prV (o ++ [(x, y)])) := by
  rw [prV_app, List.length_append]; exact h

set_option maxHeartbeats 4000000 in
theorem refInsert (l : List Vs.Pr) (x y : ByteArray) (q : Option Addr) (cq : Nat) (w : World) (hl : l.length ≤ 100000) (hq : PrAt w q l) :
    Calls Tryz.prog 30 #[.slice q l.length cq, .agg #[.string x, .string y]] w fun e w' => ∃ v, e = .returned v ∧ w'.ownsRow w.heap.size 79 2 v (Vs.insP l (x, y)).length (prV (Vs.insP l (x, y))) ∧ Below w.heap.size w w' := by
  have hbA := below_al (below_self w) (.cells #[.string x, .string y] 79)
  obtain ⟨R, hR⟩ : ∃ R, R = Vs.insP l (x, y) := ⟨_, rfl⟩
  rw [← hR]
  replace hR : Hid (R = [] ++ Vs.insP (l.drop 0) (x, y)) := hR
  have k0 : (w.alloc (.cells #[.string x, .string y] 79)).cell? ⟨w.heap.size, 0, none⟩ = some (.string x) := by simp
  have k1 : (w.alloc (.cells #[.string x, .string y] 79)).cell? ⟨w.heap.size, 1, none⟩ = some (.string y) := by simp
  have hq1 := hq.step hbA
  have hsA : (w.alloc (.cells #[.string x, .string y] 79)).heap.size = w.heap.size + 1 := by simp
  clear hq
  go_enter Tryz.func30, Tryz.ntmps30
  go_upto_block 0 with fail
  obtain ⟨W, hW⟩ : ∃ W, W = w.alloc (.cells #[.string x, .string y] 79) := ⟨_, rfl⟩
  rw [← hW] at hbA k0 k1 hq1 hsA ⊢
  clear hW
  go_cut [5, 6, 7] from 8 to 36 (fun v d _ wr => ∃ (o : List Vs.Pr) (dn : Bool), d = .bool dn ∧ o.length ≤ l.length + 1 ∧ Hid ((dn = false ∧ R = o ++ [(x, y)]) ∨ (dn = true ∧ R = o)) ∧ wr.ownsRow W.heap.size 79 2 v o.length (prV o) ∧ Below W.heap.size W wr)
  case first =>
    go_wp2_with fail
    go_loopw [5, 6, 7] (fun v d i wr => ∃ (k : Nat) (o : List Vs.Pr) (dn : Bool), k ≤ l.length ∧ i = .int .i64 k ∧ d = .bool dn ∧ o.length ≤ k + 1 ∧ Hid ((dn = false ∧ o.length ≤ k ∧ R = o ++ Vs.insP (l.drop k) (x, y)) ∨ (dn = true ∧ R = o ++ l.drop k)) ∧ wr.ownsRow W.heap.size 79 2 v o.length (prV o) ∧ Below W.heap.size W wr) (fun _ _ i _ => l.length - (intOf i).toNat)
    case atStart => exact ⟨0, [], false, by omega, rfl, rfl, by simp, .inl ⟨rfl, by simp, hR⟩, World.ownsRow_nil _ _ _ _, Below.refl _ _⟩
    case round =>
      obtain ⟨k, o, dn, hk, rfl, rfl, hol, hM, hown, hb⟩ := hrel
      have hws := hb.size
      have e0 := (hb.cell (p := ⟨w.heap.size, 0, none⟩) (by simp; omega)).trans k0
      have e1 := (hb.cell (p := ⟨w.heap.size, 1, none⟩) (by simp; omega)).trans k1
      by_cases hlt : k < l.length
      · have hlt' : (k : Int) < (l.length : Int) := by omega
        obtain ⟨b, off, rfl, hbl, hc⟩ := hq1 (by omega)
        obtain ⟨z, hz⟩ := Vs.getsome' hlt
        obtain ⟨d0, d1⟩ := hc k z hz
        have f0 := (hb.cell (p := ⟨b, off + k * 2, none⟩) hbl).trans d0
        have f1 := (hb.cell (p := ⟨b, off + k * 2 + 1, none⟩) hbl).trans d1
        have hd := Vs.drop_pr hz
        rcases hM.out with ⟨rfl, hol2, hM1⟩ | ⟨rfl, hM1⟩
        · rw [hd, Vs.insP_step] at hM1
          cases hc2 : Op.bytesLess x.toList z.1.toList
          · -- not yet
            have hM2 : Hid (R = (o ++ [z]) ++ Vs.insP (l.drop (k + 1)) (x, y)) := by
              show _ = _
              rw [hM1, if_neg (by show ¬ Vs.bl x z.1 = true; rw [Vs.bl, hc2]; simp)]; simp
            clear hM hM1 hd hz hc d0 d1 hR hq1
            go_wp2
            go_quiet (fail)
            have hown1 := own_below hown (below_drewN (below_self wr) nq)
            have hb1 := below_drewN hb nq
            go_wp2_with (first
              | (at_builtin; refine wpList_append_one 48 79 2 32 _ Tryz.underlying48 infoPair rfl (by decide) (by decide) rfl _ _ rfl W.heap.size _ o.length (prV o) rfl (hown1.alloc _) (by simp; omega) wr.heap.size [.string z.1, .string z.2] rfl rfl (pair_new _ _ _ _) pair_one (by omega) ?_; intro v2 w2 hown2 hgrow2)
              | go_in)
            exact ⟨⟨k + 1, o ++ [z], false, by omega, by go_num, rfl, by simp; omega, .inl ⟨rfl, by simp; omega, hM2.out⟩, own_pair hown2, (hb1.alloc (by simpa using hws) _).grown hgrow2 (by simp; omega) (fun j hj => (hown1.lt j hj).1)⟩, by simp [intOf]; omega⟩
          · -- here
            have hM2 : Hid (R = ((o ++ [(x, y)]) ++ [z]) ++ l.drop (k + 1)) := by
              show _ = _
              rw [hM1, if_pos (by show Vs.bl x z.1 = true; rw [Vs.bl, hc2])]; simp
            clear hM hM1 hd hz hc hR hq1
            go_wp2
            go_quiet (fail)
            have hown1 := own_below hown (below_drewN (below_self wr) nq)
            have hb1 := below_drewN hb nq
            go_wp2_with (first
              | (at_builtin; refine wpList_append_one 48 79 2 32 _ Tryz.underlying48 infoPair rfl (by decide) (by decide) rfl _ _ rfl W.heap.size _ (o ++ [(x, y)]).length (prV (o ++ [(x, y)])) rfl (hown3.alloc _) (by simp; omega) w2.heap.size [.string z.1, .string z.2] rfl rfl (pair_new _ _ _ _) pair_one (by simp; omega) ?_; intro v4 w4 hown4 hgrow4)
              | (at_builtin; refine wpList_append_one 48 79 2 32 _ Tryz.underlying48 infoPair rfl (by decide) (by decide) rfl _ _ rfl W.heap.size _ o.length (prV o) rfl (hown1.alloc _) (by simp; omega) wr.heap.size [.string x, .string y] rfl rfl (pair_new _ _ _ _) pair_one (by omega) ?_; intro v2 w2 hown2 hgrow2; have hown3 := own_pair hown2; have hb2 : Below W.heap.size W w2 := (hb1.alloc (by simpa using hws) _).grown hgrow2 (by simp; omega) (fun j hj => (hown1.lt j hj).1); have hws2 := hb2.size; have f2 := (hb2.cell (p := ⟨b, off + k * 2, none⟩) hbl).trans d0; have f3 := (hb2.cell (p := ⟨b, off + k * 2 + 1, none⟩) hbl).trans d1)
              | go_in)
            exact ⟨⟨k + 1, (o ++ [(x, y)]) ++ [z], true, by omega, by go_num, rfl, by simp; omega, .inr ⟨rfl, hM2.out⟩, own_pair hown4, (hb2.alloc (by simpa using hws2) _).grown hgrow4 (by simp; omega) (fun j hj => (hown3.lt j hj).1)⟩, by simp [intOf]; omega⟩
        · rw [hd] at hM1
          have hM2 : Hid (R = (o ++ [z]) ++ l.drop (k + 1)) := by
            show _ = _
            rw [hM1]; simp
          clear hM hM1 hd hz hc d0 d1 hR hq1
          go_wp2
          go_quiet (fail)
          have hown1 := own_below hown (below_drewN (below_self wr) nq)
          have hb1 := below_drewN hb nq
          go_wp2_with (first
            | (at_builtin; refine wpList_append_one 48 79 2 32 _ Tryz.underlying48 infoPair rfl (by decide) (by decide) rfl _ _ rfl W.heap.size _ o.length (prV o) rfl (hown1.alloc _) (by simp; omega) wr.heap.size [.string z.1, .string z.2] rfl rfl (pair_new _ _ _ _) pair_one (by omega) ?_; intro v2 w2 hown2 hgrow2)
            | go_in)
          exact ⟨⟨k + 1, o ++ [z], true, by omega, by go_num, rfl, by simp; omega, .inr ⟨rfl, hM2.out⟩, own_pair hown2, (hb1.alloc (by simpa using hws) _).grown hgrow2 (by simp; omega) (fun j hj => (hown1.lt j hj).1)⟩, by simp [intOf]; omega⟩
      · have hE : Hid ((dn = false ∧ R = o ++ [(x, y)]) ∨ (dn = true ∧ R = o)) := by
          have hd : l.drop k = [] := List.drop_eq_nil_of_le (by omega)
          rcases hM.out with ⟨h1, _, h2⟩ | ⟨h1, h2⟩
          · exact .inl ⟨h1, by rw [h2, hd]; rfl⟩
          · exact .inr ⟨h1, by rw [h2, hd]; simp⟩
        clear hM hR hq1
        go_wp2_with fail
        go_meet
        case rel => exact ⟨o, dn, rfl, by omega, hE, hown, hb⟩
  case rest =>
    obtain ⟨o, dn, rfl, hol, hE, hown, hb⟩ := hcut
    have hws := hb.size
    have e0 := (hb.cell (p := ⟨w.heap.size, 0, none⟩) (by simp; omega)).trans k0
    have e1 := (hb.cell (p := ⟨w.heap.size, 1, none⟩) (by simp; omega)).trans k1
    rcases hE.out with ⟨rfl, hE1⟩ | ⟨rfl, hE1⟩
    · replace hE1 : Hid _ := hE1
      clear hE hR hq1
      refine ‹∀ (a : Act) (w : World), Code.wp _ _ _ a w → _› _ _ ?_
      go_wp2_with (first
        | (at_builtin; refine wpList_append_one 48 79 2 32 _ Tryz.underlying48 infoPair rfl (by decide) (by decide) rfl _ _ rfl W.heap.size _ o.length (prV o) rfl (hown.alloc _) (by simp; omega) wc.heap.size [.string x, .string y] rfl rfl (pair_new _ _ _ _) pair_one (by omega) ?_; intro v2 w2 hown2 hgrow2)
        | go_in)
      go_ret
      refine ⟨_, rfl, ?_, ?_⟩
      · rw [hE1.out]; exact ownMono (by omega) (own_pair hown2)
      · exact hbA.trans (((hb.alloc (by simpa using hws) _).grown hgrow2 (by simp; omega) (fun j hj => (hown.lt j hj).1)).mono (by omega))
    · replace hE1 : Hid _ := hE1
      clear hE hR hq1
      refine ‹∀ (a : Act) (w : World), Code.wp _ _ _ a w → _› _ _ ?_
      go_wp2_with fail
      go_ret
      refine ⟨_, rfl, ?_, ?_⟩
      · rw [hE1.out]; exact ownMono (by omega) hown
      · exact hbA.trans (hb.mono (by omega))
end Go.Proofs.YtickoadcficdeaaGreatDoor
