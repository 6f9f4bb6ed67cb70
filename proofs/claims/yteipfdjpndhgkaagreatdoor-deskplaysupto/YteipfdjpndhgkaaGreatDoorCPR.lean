/- The contracts of the reference's KeyFault, Seen, Get and Touched. -/
import Derived.Test.YteipfdjpndhgkaaGreatDoorCMB
import Derived.Test.YteipfdjpndhgkaaGreatDoorCNF
import Derived.Laws.Cover1
import Derived.Deep.CutBlock
import Derived.Test.YteipfdjpndhgkaaGreatDoorCMC
namespace Vs
theorem seeI_drop {key : ByteArray} {a : Int} {l : List Ver} {k : Nat} {x : Ver} (hx : l[k]? = some x) (b : Int) : seeI key a k b (l.drop k) = if hit key a x = true then seeI key a (k + 1) k (l.drop (k + 1)) else seeI key a (k + 1) b (l.drop (k + 1)) := by
  obtain ⟨h, e⟩ := List.getElem?_eq_some_iff.1 hx
  rw [List.drop_eq_getElem_cons h, e, seeI]
theorem less_of {l : List Ver} {top : Int} (hT : OkT l top) {i j : Nat} {x y : Ver} (hij : i < j) (hx : l[i]? = some x) (hy : l[j]? = some y) (hk : x.k = y.k) : x.n < y.n := by
  obtain ⟨h1, e1⟩ := List.getElem?_eq_some_iff.1 hx
  obtain ⟨h2, e2⟩ := List.getElem?_eq_some_iff.1 hy
  have a1 := List.pairwise_iff_getElem.1 hT.rise i j h1 h2 hij
  have a2 := List.pairwise_iff_getElem.1 hT.once i j h1 h2 hij
  rw [e1, e2] at a1 a2
  have : x.n ≠ y.n := fun e => a2 ⟨hk, e⟩
  omega
theorem getsome {α : Type} {l : List α} {k : Nat} (h : k < l.length) : ∃ x, l[k]? = some x := ⟨l[k], List.getElem?_eq_getElem h⟩
end Vs
namespace Go.Proofs.YteipfdjpndhgkaaGreatDoor
open Go.RowKit

theorem keyFault (k v : ByteArray) (w : World) : Calls Tryz.prog 41 #[.string k, .string v] w fun e w' => e = .returned (.int .i64 (Vs.shF k v)) ∧ w' = w := by
  unfold Vs.shF
  by_cases h1 : k.size < 1
  · rw [if_pos (.inl h1)]
    go_enter Tryz.func41, Tryz.ntmps41
    go_wp2
    go_ret
    exact ⟨rfl, rfl⟩
  by_cases h2 : 24 < k.size
  · rw [if_pos (.inr (.inl h2))]
    go_enter Tryz.func41, Tryz.ntmps41
    go_wp2
    go_ret
    exact ⟨rfl, rfl⟩
  by_cases h3 : 12 < v.size
  · rw [if_pos (.inr (.inr h3))]
    go_enter Tryz.func41, Tryz.ntmps41
    go_wp2
    go_ret
    exact ⟨rfl, rfl⟩
  · rw [if_neg (by omega)]
    go_enter Tryz.func41, Tryz.ntmps41
    go_wp2
    go_ret
    exact ⟨rfl, rfl⟩

set_option maxHeartbeats 4000000 in
theorem refSeen {G : Nat → Prop} {B : Nat} {l : List Vs.Ver} {top : Int} (key : ByteArray) (a : Int) (w : World) (hT : Vs.OkT l top) (hR : RT w G B l top) (hl : l.length ≤ 1000000) :
    Calls Tryz.prog 73 #[.pointer (some ⟨B, 0, none⟩), .string key, .int .i64 a] w fun e w' => e = .returned (.int .i64 (Vs.sI l key a)) ∧ Below w.heap.size w w' := by
  obtain ⟨N, hN⟩ : ∃ N, N = Vs.sI l key a := ⟨_, rfl⟩
  rw [← hN]
  obtain ⟨p, cap, hp, hv⟩ := hR.row
  have hB := hR.lt
  replace hN : Hid (N = Vs.seeI key a 0 (-1) (l.drop 0)) := hN
  clear hR
  go_enter Tryz.func73, Tryz.ntmps73
  go_wp2
  go_loopw [7, 8] (fun s i wr => ∃ (k : Nat) (b : Int), k ≤ l.length ∧ i = .int .i64 k ∧ s = .int .i64 b ∧ Hid (N = Vs.seeI key a k b (l.drop k)) ∧ Hid (b = -1 ∨ ∃ (j : Nat) (y : Vs.Ver), b = j ∧ j < k ∧ l[j]? = some y ∧ Vs.hit key a y = true) ∧ Below w.heap.size w wr) (fun _ i _ => l.length - (intOf i).toNat)
  case atStart => exact ⟨0, -1, by omega, rfl, rfl, hN, .inl rfl, below_self _⟩
  case round =>
    obtain ⟨k, b, hk, rfl, rfl, hM, hJ, hb⟩ := hrel
    have c0 : wr.cell? ⟨B, 0, none⟩ = some (.slice p l.length cap) := (hb.cell (p := ⟨B, 0, none⟩) hB).trans hp
    by_cases hlt : k < l.length
    · have hlt' : (k : Int) < (l.length : Int) := by omega
      obtain ⟨bb, off, rfl, hbl, _, hc⟩ := hv (by omega)
      obtain ⟨x, hx⟩ := Vs.getsome hlt
      obtain ⟨d0, d1, d2, d3⟩ := hc k x hx
      have e0 : wr.cell? ⟨bb, off + k * 4, none⟩ = some (.string x.k) := (hb.cell (p := ⟨bb, off + k * 4, none⟩) hbl).trans d0
      have e2 : wr.cell? ⟨bb, off + k * 4 + 2, none⟩ = some (.int .i64 x.n) := (hb.cell (p := ⟨bb, off + k * 4 + 2, none⟩) hbl).trans d2
      have hst : Hid _ := hM.out.trans (Vs.seeI_drop hx b)
      by_cases h1 : x.k = key
      · have g1 : (x.k.toList == key.toList) = true := by rw [Vs.beq_str]; simpa using h1
        by_cases h2 : x.n ≤ a
        · have g2 : decide (x.n ≤ a) = true := by simpa using h2
          have hh : Vs.hit key a x = true := by simp [Vs.hit, h1, h2]
          have hM2 : Hid (N = Vs.seeI key a (k + 1) k (l.drop (k + 1))) := by show _ = _; rw [hst.out, if_pos hh]
          have hJ2 : Hid ((k : Int) = -1 ∨ ∃ (j : Nat) (y : Vs.Ver), (k : Int) = j ∧ j < k + 1 ∧ l[j]? = some y ∧ Vs.hit key a y = true) := .inr ⟨k, x, rfl, by omega, hx, hh⟩
          rcases hJ.out with rfl | ⟨j, y, rfl, hj, hy, hyh⟩
          · clear hM hN hst hx hc d0 d1 d2 d3 hv hJ hp h1
            have g3 : decide ((-1 : Int) < 0) = true := by decide
            go_wp2
            go_quiet (fail)
            go_wp2
            exact ⟨⟨k + 1, k, by omega, by go_num, rfl, hM2, hJ2, below_drewN hb _⟩, by simp [intOf]; omega⟩
          · have hyk : y.k = key := by simp [Vs.hit] at hyh; exact hyh.1
            have hlt3 := Vs.less_of hT hj hy hx (hyk.trans h1.symm)
            obtain ⟨_, _, b2, _⟩ := hc j y hy
            have e5 : wr.cell? ⟨bb, off + j * 4 + 2, none⟩ = some (.int .i64 y.n) := (hb.cell (p := ⟨bb, off + j * 4 + 2, none⟩) hbl).trans b2
            have hjl : (j : Int) < (l.length : Int) := by omega
            have g3 : decide ((j : Int) < 0) = false := by simp
            have g4 : decide (y.n < x.n) = true := by simpa using hlt3
            clear hM hN hst hx hc d0 d1 d2 d3 hv hJ hp h1 hy hyh hyk b2
            go_wp2
            go_quiet (fail)
            go_wp2
            exact ⟨⟨k + 1, k, by omega, by go_num, rfl, hM2, hJ2, below_drewN hb _⟩, by simp [intOf]; omega⟩
        · have g2 : decide (x.n ≤ a) = false := by simpa using h2
          have hh : ¬ Vs.hit key a x = true := by simp [Vs.hit, h1, h2]
          have hM2 : Hid (N = Vs.seeI key a (k + 1) b (l.drop (k + 1))) := by show _ = _; rw [hst.out, if_neg hh]
          have hJ2 : Hid (b = -1 ∨ ∃ (j : Nat) (y : Vs.Ver), b = j ∧ j < k + 1 ∧ l[j]? = some y ∧ Vs.hit key a y = true) := hJ.out.imp id (fun ⟨j, y, h1, h2, h3⟩ => ⟨j, y, h1, by omega, h3⟩)
          clear hM hN hst hx hc d0 d1 d2 d3 hv hJ hp h1
          go_wp2
          go_quiet (fail)
          go_wp2
          exact ⟨⟨k + 1, b, by omega, by go_num, rfl, hM2, hJ2, below_drewN hb _⟩, by simp [intOf]; omega⟩
      · have g1 : (x.k.toList == key.toList) = false := by rw [Vs.beq_str]; simpa using h1
        have hh : ¬ Vs.hit key a x = true := by simp [Vs.hit, h1]
        have hM2 : Hid (N = Vs.seeI key a (k + 1) b (l.drop (k + 1))) := by show _ = _; rw [hst.out, if_neg hh]
        have hJ2 : Hid (b = -1 ∨ ∃ (j : Nat) (y : Vs.Ver), b = j ∧ j < k + 1 ∧ l[j]? = some y ∧ Vs.hit key a y = true) := hJ.out.imp id (fun ⟨j, y, h1, h2, h3⟩ => ⟨j, y, h1, by omega, h3⟩)
        clear hM hN hst hx hc d0 d1 d2 d3 hv hJ hp h1
        go_wp2
        go_quiet (fail)
        go_wp2
        exact ⟨⟨k + 1, b, by omega, by go_num, rfl, hM2, hJ2, below_drewN hb _⟩, by simp [intOf]; omega⟩
    · have hE : Hid (N = b) := by
        show _ = _
        rw [hM.out, List.drop_eq_nil_of_le (by omega)]; rfl
      clear hM hN hv hJ
      go_wp2
      go_ret
      exact ⟨by rw [hE.out]; rfl, hb⟩
end Go.Proofs.YteipfdjpndhgkaaGreatDoor

/- The contracts of the reference's Insert and Range. -/
namespace Vs
theorem insP_step (x p : Pr) (r : List Pr) : insP (x :: r) p = if bl p.1 x.1 = true then p :: x :: r else x :: insP r p := rfl
end Vs
namespace Go.Proofs.YteipfdjpndhgkaaGreatDoor
open Go.RowKit

theorem infoPair : (Tryz.prog.info? 118).map (fun i => (i.zero, i.size, i.bytes)) = some (some (.agg #[.string ByteArray.empty, .string ByteArray.empty]), 2, 32) := by kernel_rfl
theorem pair_new (W : World) (x y : ByteArray) (t : Nat) : ∀ (j : Nat) (u : Value), ([.string x, .string y] : List Value)[j]? = some u → (W.alloc (.cells #[.string x, .string y] t)).cell? ⟨W.heap.size, j, none⟩ = some u := by
  intro j u hj
  match j, hj with
  | 0, hj => simp at hj; subst hj; simp
  | 1, hj => simp at hj; subst hj; simp
theorem pair_one {x y : ByteArray} : ∀ u ∈ ([.string x, .string y] : List Value), u.oneCell' = true := by
  intro u hu; simp at hu; rcases hu with rfl | rfl <;> rfl
theorem own_pair {w : World} {B : Nat} {v : Value} {o : List Vs.Pr} {x y : ByteArray} (h : w.ownsRow B 118 2 v (o.length + 1) (prV o ++ [.string x, .string y])) : w.ownsRow B 118 2 v (o ++ [(x, y)]).length (prV (o ++ [(x, y)])) := by
  rw [prV_app, List.length_append]; exact h

set_option maxHeartbeats 4000000 in
theorem refInsert (l : List Vs.Pr) (x y : ByteArray) (q : Option Addr) (cq : Nat) (w : World) (hl : l.length ≤ 100000) (hq : PrAt w q l) :
    Calls Tryz.prog 50 #[.slice q l.length cq, .agg #[.string x, .string y]] w fun e w' => ∃ v, e = .returned v ∧ w'.ownsRow w.heap.size 118 2 v (Vs.insP l (x, y)).length (prV (Vs.insP l (x, y))) ∧ Below w.heap.size w w' := by
  have hbA := below_al (below_self w) (.cells #[.string x, .string y] 118)
  obtain ⟨R, hR⟩ : ∃ R, R = Vs.insP l (x, y) := ⟨_, rfl⟩
  rw [← hR]
  replace hR : Hid (R = [] ++ Vs.insP (l.drop 0) (x, y)) := hR
  have k0 : (w.alloc (.cells #[.string x, .string y] 118)).cell? ⟨w.heap.size, 0, none⟩ = some (.string x) := by simp
  have k1 : (w.alloc (.cells #[.string x, .string y] 118)).cell? ⟨w.heap.size, 1, none⟩ = some (.string y) := by simp
  have hq1 := hq.step hbA
  have hsA : (w.alloc (.cells #[.string x, .string y] 118)).heap.size = w.heap.size + 1 := by simp
  clear hq
  go_enter Tryz.func50, Tryz.ntmps50
  go_upto_block 0 with fail
  obtain ⟨W, hW⟩ : ∃ W, W = w.alloc (.cells #[.string x, .string y] 118) := ⟨_, rfl⟩
  rw [← hW] at hbA k0 k1 hq1 hsA ⊢
  clear hW
  go_cut [5, 6, 7] from 8 to 36 (fun v d _ wr => ∃ (o : List Vs.Pr) (dn : Bool), d = .bool dn ∧ o.length ≤ l.length + 1 ∧ Hid ((dn = false ∧ R = o ++ [(x, y)]) ∨ (dn = true ∧ R = o)) ∧ wr.ownsRow W.heap.size 118 2 v o.length (prV o) ∧ Below W.heap.size W wr)
  case first =>
    go_wp2_with fail
    go_loopw [5, 6, 7] (fun v d i wr => ∃ (k : Nat) (o : List Vs.Pr) (dn : Bool), k ≤ l.length ∧ i = .int .i64 k ∧ d = .bool dn ∧ o.length ≤ k + 1 ∧ Hid ((dn = false ∧ o.length ≤ k ∧ R = o ++ Vs.insP (l.drop k) (x, y)) ∨ (dn = true ∧ R = o ++ l.drop k)) ∧ wr.ownsRow W.heap.size 118 2 v o.length (prV o) ∧ Below W.heap.size W wr) (fun _ _ i _ => l.length - (intOf i).toNat)
    case atStart => exact ⟨0, [], false, by omega, rfl, rfl, by simp, .inl ⟨rfl, by simp, hR⟩, World.ownsRow_nil _ _ _ _, Below.refl _ _⟩
    case round =>
      obtain ⟨k, o, dn, hk, rfl, rfl, hol, hM, hown, hb⟩ := hrel
      have hws := hb.size
      have e0 := (hb.cell (p := ⟨w.heap.size, 0, none⟩) (by simp; omega)).trans k0
      have e1 := (hb.cell (p := ⟨w.heap.size, 1, none⟩) (by simp; omega)).trans k1
      by_cases hlt : k < l.length
      · have hlt' : (k : Int) < (l.length : Int) := by omega
        obtain ⟨b, off, rfl, hbl, hc⟩ := hq1 (by omega)
        obtain ⟨z, hz⟩ := Vs.getsome' hlt
        obtain ⟨d0, d1⟩ := hc k z hz
        have f0 := (hb.cell (p := ⟨b, off + k * 2, none⟩) hbl).trans d0
        have f1 := (hb.cell (p := ⟨b, off + k * 2 + 1, none⟩) hbl).trans d1
        have hd := Vs.drop_pr hz
        rcases hM.out with ⟨rfl, hol2, hM1⟩ | ⟨rfl, hM1⟩
        · rw [hd, Vs.insP_step] at hM1
          cases hc2 : Op.bytesLess x.toList z.1.toList
          · -- not yet
            have hM2 : Hid (R = (o ++ [z]) ++ Vs.insP (l.drop (k + 1)) (x, y)) := by
              show _ = _
              rw [hM1, if_neg (by show ¬ Vs.bl x z.1 = true; rw [Vs.bl, hc2]; simp)]; simp
            clear hM hM1 hd hz hc d0 d1 hR hq1
            go_wp2
            go_quiet (fail)
            have hown1 := own_below hown (below_drewN (below_self wr) nq)
            have hb1 := below_drewN hb nq
            go_wp2_with (first
              | (at_builtin; refine wpList_append_one 42 118 2 32 _ Tryz.underlying42 infoPair rfl (by decide) (by decide) rfl _ _ rfl W.heap.size _ o.length (prV o) rfl (hown1.alloc _) (by simp; omega) wr.heap.size [.string z.1, .string z.2] rfl rfl (pair_new _ _ _ _) pair_one (by omega) ?_; intro v2 w2 hown2 hgrow2)
              | go_in)
            exact ⟨⟨k + 1, o ++ [z], false, by omega, by go_num, rfl, by simp; omega, .inl ⟨rfl, by simp; omega, hM2.out⟩, own_pair hown2, (hb1.alloc (by simpa using hws) _).grown hgrow2 (by simp; omega) (fun j hj => (hown1.lt j hj).1)⟩, by simp [intOf]; omega⟩
          · -- here
            have hM2 : Hid (R = ((o ++ [(x, y)]) ++ [z]) ++ l.drop (k + 1)) := by
              show _ = _
              rw [hM1, if_pos (by show Vs.bl x z.1 = true; rw [Vs.bl, hc2])]; simp
            clear hM hM1 hd hz hc hR hq1
            go_wp2
            go_quiet (fail)
            have hown1 := own_below hown (below_drewN (below_self wr) nq)
            have hb1 := below_drewN hb nq
            go_wp2_with (first
              | (at_builtin; refine wpList_append_one 42 118 2 32 _ Tryz.underlying42 infoPair rfl (by decide) (by decide) rfl _ _ rfl W.heap.size _ (o ++ [(x, y)]).length (prV (o ++ [(x, y)])) rfl (hown3.alloc _) (by simp; omega) w2.heap.size [.string z.1, .string z.2] rfl rfl (pair_new _ _ _ _) pair_one (by simp; omega) ?_; intro v4 w4 hown4 hgrow4)
              | (at_builtin; refine wpList_append_one 42 118 2 32 _ Tryz.underlying42 infoPair rfl (by decide) (by decide) rfl _ _ rfl W.heap.size _ o.length (prV o) rfl (hown1.alloc _) (by simp; omega) wr.heap.size [.string x, .string y] rfl rfl (pair_new _ _ _ _) pair_one (by omega) ?_; intro v2 w2 hown2 hgrow2; have hown3 := own_pair hown2; have hb2 : Below W.heap.size W w2 := (hb1.alloc (by simpa using hws) _).grown hgrow2 (by simp; omega) (fun j hj => (hown1.lt j hj).1); have hws2 := hb2.size; have f2 := (hb2.cell (p := ⟨b, off + k * 2, none⟩) hbl).trans d0; have f3 := (hb2.cell (p := ⟨b, off + k * 2 + 1, none⟩) hbl).trans d1)
              | go_in)
            exact ⟨⟨k + 1, (o ++ [(x, y)]) ++ [z], true, by omega, by go_num, rfl, by simp; omega, .inr ⟨rfl, hM2.out⟩, own_pair hown4, (hb2.alloc (by simpa using hws2) _).grown hgrow4 (by simp; omega) (fun j hj => (hown3.lt j hj).1)⟩, by simp [intOf]; omega⟩
        · rw [hd] at hM1
          have hM2 : Hid (R = (o ++ [z]) ++ l.drop (k + 1)) := by
            show _ = _
            rw [hM1]; simp
          clear hM hM1 hd hz hc d0 d1 hR hq1
          go_wp2
          go_quiet (fail)
          have hown1 := own_below hown (below_drewN (below_self wr) nq)
          have hb1 := below_drewN hb nq
          go_wp2_with (first
            | (at_builtin; refine wpList_append_one 42 118 2 32 _ Tryz.underlying42 infoPair rfl (by decide) (by decide) rfl _ _ rfl W.heap.size _ o.length (prV o) rfl (hown1.alloc _) (by simp; omega) wr.heap.size [.string z.1, .string z.2] rfl rfl (pair_new _ _ _ _) pair_one (by omega) ?_; intro v2 w2 hown2 hgrow2)
            | go_in)
          exact ⟨⟨k + 1, o ++ [z], true, by omega, by go_num, rfl, by simp; omega, .inr ⟨rfl, hM2.out⟩, own_pair hown2, (hb1.alloc (by simpa using hws) _).grown hgrow2 (by simp; omega) (fun j hj => (hown1.lt j hj).1)⟩, by simp [intOf]; omega⟩
      · have hE : Hid ((dn = false ∧ R = o ++ [(x, y)]) ∨ (dn = true ∧ R = o)) := by
          have hd : l.drop k = [] := List.drop_eq_nil_of_le (by omega)
          rcases hM.out with ⟨h1, _, h2⟩ | ⟨h1, h2⟩
          · exact .inl ⟨h1, by rw [h2, hd]; rfl⟩
          · exact .inr ⟨h1, by rw [h2, hd]; simp⟩
        clear hM hR hq1
        go_wp2_with fail
        go_meet
        case rel => exact ⟨o, dn, rfl, by omega, hE, hown, hb⟩
  case rest =>
    obtain ⟨o, dn, rfl, hol, hE, hown, hb⟩ := hcut
    have hws := hb.size
    have e0 := (hb.cell (p := ⟨w.heap.size, 0, none⟩) (by simp; omega)).trans k0
    have e1 := (hb.cell (p := ⟨w.heap.size, 1, none⟩) (by simp; omega)).trans k1
    rcases hE.out with ⟨rfl, hE1⟩ | ⟨rfl, hE1⟩
    · replace hE1 : Hid _ := hE1
      clear hE hR hq1
      refine ‹∀ (a : Act) (w : World), Code.wp _ _ _ a w → _› _ _ ?_
      go_wp2_with (first
        | (at_builtin; refine wpList_append_one 42 118 2 32 _ Tryz.underlying42 infoPair rfl (by decide) (by decide) rfl _ _ rfl W.heap.size _ o.length (prV o) rfl (hown.alloc _) (by simp; omega) wc.heap.size [.string x, .string y] rfl rfl (pair_new _ _ _ _) pair_one (by omega) ?_; intro v2 w2 hown2 hgrow2)
        | go_in)
      go_ret
      refine ⟨_, rfl, ?_, ?_⟩
      · rw [hE1.out]; exact ownMono (by omega) (own_pair hown2)
      · exact hbA.trans (((hb.alloc (by simpa using hws) _).grown hgrow2 (by simp; omega) (fun j hj => (hown.lt j hj).1)).mono (by omega))
    · replace hE1 : Hid _ := hE1
      clear hE hR hq1
      refine ‹∀ (a : Act) (w : World), Code.wp _ _ _ a w → _› _ _ ?_
      go_wp2_with fail
      go_ret
      refine ⟨_, rfl, ?_, ?_⟩
      · rw [hE1.out]; exact ownMono (by omega) hown
      · exact hbA.trans (hb.mono (by omega))
end Go.Proofs.YteipfdjpndhgkaaGreatDoor

/- The contracts of the reference's Get and Touched. -/
namespace Vs
theorem any_drop {l : List Ver} {p : Ver → Bool} {k : Nat} {x : Ver} (hx : l[k]? = some x) : (l.drop k).any p = (p x || (l.drop (k + 1)).any p) := by
  obtain ⟨h, e⟩ := List.getElem?_eq_some_iff.1 hx
  rw [List.drop_eq_getElem_cons h, e, List.any_cons]
end Vs
namespace Go.Proofs.YteipfdjpndhgkaaGreatDoor
open Go.RowKit

set_option maxHeartbeats 2000000 in
theorem refGet {G : Nat → Prop} {B : Nat} {l : List Vs.Ver} {top : Int} (key : ByteArray) (a : Int) (w : World) (hT : Vs.OkT l top) (hR : RT w G B l top) (hl : l.length ≤ 1000000) :
    Calls Tryz.prog 43 #[.pointer (some ⟨B, 0, none⟩), .string key, .int .i64 a] w fun e w' => e = .returned (.tuple #[.string (Vs.gtS l key a), .int .i64 (Vs.gtF l key a)]) ∧ Below w.heap.size w w' := by
  by_cases h0 : a < 0 ∨ 1000000 < a
  · have hA : Vs.atF a ≠ 0 := by rw [Vs.atF, if_pos h0]; decide
    rw [show Vs.gtS l key a = ByteArray.empty from if_neg hA, show Vs.gtF l key a = 1 from if_neg hA]
    clear hA hR
    by_cases h1 : a < 0
    · go_enter Tryz.func43, Tryz.ntmps43
      go_wp2
      go_ret2
      exact ⟨rfl, below_self _⟩
    · have h2 : 1000000 < a := by omega
      clear h0
      go_enter Tryz.func43, Tryz.ntmps43
      go_wp2
      go_ret2
      exact ⟨rfl, below_self _⟩
  · have hA : Vs.atF a = 0 := if_neg h0
    have h1 : ¬ a < 0 := by omega
    have h2 : ¬ 1000000 < a := by omega
    rw [show Vs.gtS l key a = (Vs.vget l key a).getD ByteArray.empty from if_pos hA, show Vs.gtF l key a = if (Vs.vget l key a).isSome = true then 0 else 4 from if_pos hA]
    have K := refSeen key a w hT hR hl
    obtain ⟨p, cap, hp, hv⟩ := hR.row
    have hB := hR.lt
    clear hR h0 hA
    rcases Vs.sI_is l key a with ⟨e1, e2⟩ | ⟨j, x, e1, e2, e3⟩
    · rw [show Vs.vget l key a = none from by rw [Vs.vget, e2]]
      rw [e1] at K
      clear e1 e2
      go_enter Tryz.func43, Tryz.ntmps43
      go_wp2_with fail
      refine K.mono ?_
      rintro e w1 ⟨rfl, hb⟩
      clear K
      go_wp2
      go_ret2
      exact ⟨rfl, hb⟩
    · have hj := (List.getElem?_eq_some_iff.1 e2).1
      have hjl : (j : Int) < (l.length : Int) := by omega
      obtain ⟨bb, off, rfl, hbl, _, hc⟩ := hv (by omega)
      obtain ⟨d0, d1, d2, d3⟩ := hc j x e2
      rw [e1] at K
      have g1 : decide ((j : Int) < 0) = false := by simp
      cases hg : x.g
      · rw [show Vs.vget l key a = some x.v from by rw [Vs.vget, e3]; simp [hg]]
        rw [hg] at d3
        clear e1 e2 e3 hc hv
        go_enter Tryz.func43, Tryz.ntmps43
        go_wp2_with fail
        refine K.mono ?_
        rintro e w1 ⟨rfl, hb⟩
        have c0 := (hb.cell (p := ⟨B, 0, none⟩) hB).trans hp
        have c1 := (hb.cell (p := ⟨bb, off + j * 4 + 1, none⟩) hbl).trans d1
        have c3 := (hb.cell (p := ⟨bb, off + j * 4 + 3, none⟩) hbl).trans d3
        clear K
        go_wp2
        go_ret2
        exact ⟨rfl, hb⟩
      · rw [show Vs.vget l key a = none from by rw [Vs.vget, e3]; simp [hg]]
        rw [hg] at d3
        clear e1 e2 e3 hc hv
        go_enter Tryz.func43, Tryz.ntmps43
        go_wp2_with fail
        refine K.mono ?_
        rintro e w1 ⟨rfl, hb⟩
        have c0 := (hb.cell (p := ⟨B, 0, none⟩) hB).trans hp
        have c3 := (hb.cell (p := ⟨bb, off + j * 4 + 3, none⟩) hbl).trans d3
        clear K
        go_wp2
        go_ret2
        exact ⟨rfl, hb⟩

set_option maxHeartbeats 4000000 in
theorem refTouched {G : Nat → Prop} {B : Nat} {l : List Vs.Ver} {top : Int} (lo hi : ByteArray) (a : Int) (w : World) (hR : RT w G B l top) (hl : l.length ≤ 1000000) :
    Calls Tryz.prog 56 #[.pointer (some ⟨B, 0, none⟩), .string lo, .string hi, .int .i64 a] w fun e w' => e = .returned (.bool (Vs.vtch l lo hi a)) ∧ Below w.heap.size w w' := by
  obtain ⟨N, hN⟩ : ∃ N, N = Vs.vtch l lo hi a := ⟨_, rfl⟩
  rw [← hN]
  obtain ⟨p, cap, hp, hv⟩ := hR.row
  have hB := hR.lt
  replace hN : Hid (N = (l.drop 0).any (fun x => Vs.btw lo hi x.k && decide (a < x.n))) := hN
  clear hR
  go_enter Tryz.func56, Tryz.ntmps56
  go_wp2
  go_loopw [9] (fun i wr => ∃ (k : Nat), k ≤ l.length ∧ i = .int .i64 k ∧ Hid (N = (l.drop k).any (fun x => Vs.btw lo hi x.k && decide (a < x.n))) ∧ Below w.heap.size w wr) (fun i _ => l.length - (intOf i).toNat)
  case atStart => exact ⟨0, by omega, rfl, hN, below_self _⟩
  case round =>
    obtain ⟨k, hk, rfl, hM, hb⟩ := hrel
    have c0 : wr.cell? ⟨B, 0, none⟩ = some (.slice p l.length cap) := (hb.cell (p := ⟨B, 0, none⟩) hB).trans hp
    by_cases hlt : k < l.length
    · have hlt' : (k : Int) < (l.length : Int) := by omega
      obtain ⟨bb, off, rfl, hbl, _, hc⟩ := hv (by omega)
      obtain ⟨x, hx⟩ := Vs.getsome hlt
      obtain ⟨d0, d1, d2, d3⟩ := hc k x hx
      have e0 : wr.cell? ⟨bb, off + k * 4, none⟩ = some (.string x.k) := (hb.cell (p := ⟨bb, off + k * 4, none⟩) hbl).trans d0
      have e2 : wr.cell? ⟨bb, off + k * 4 + 2, none⟩ = some (.int .i64 x.n) := (hb.cell (p := ⟨bb, off + k * 4 + 2, none⟩) hbl).trans d2
      have hst : Hid _ := hM.out.trans (Vs.any_drop hx)
      have hno : Hid ((Vs.btw lo hi x.k && decide (a < x.n)) = false → N = (l.drop (k + 1)).any (fun x => Vs.btw lo hi x.k && decide (a < x.n))) := fun h => by rw [hst.out, h, Bool.false_or]
      have hyes : Hid ((Vs.btw lo hi x.k && decide (a < x.n)) = true → N = true) := fun h => by rw [hst.out, h, Bool.true_or]
      clear hM hN hst hx hc d0 d1 d2 d3 hv hp
      cases g1 : Op.bytesLess x.k.toList lo.toList
      · cases g2 : Op.bytesLess x.k.toList hi.toList
        · have R := hno.out (by simp [Vs.btw, Vs.bl, g2])
          replace R : Hid _ := R
          clear hno hyes
          go_wp2
          exact ⟨⟨k + 1, by omega, by go_num, R, hb⟩, by simp [intOf]; omega⟩
        · by_cases h3 : a < x.n
          · have g3 : decide (a < x.n) = true := by simpa using h3
            have R : Hid _ := hyes.out (by simp [Vs.btw, Vs.bl, g1, g2, h3])
            clear hno hyes
            go_wp2
            go_ret
            exact ⟨by rw [R.out]; rfl, hb⟩
          · have g3 : decide (a < x.n) = false := by simpa using h3
            have R : Hid _ := hno.out (by simp [h3])
            clear hno hyes
            go_wp2
            exact ⟨⟨k + 1, by omega, by go_num, R, hb⟩, by simp [intOf]; omega⟩
      · have R : Hid _ := hno.out (by simp [Vs.btw, Vs.bl, g1])
        clear hno hyes
        go_wp2
        exact ⟨⟨k + 1, by omega, by go_num, R, hb⟩, by simp [intOf]; omega⟩
    · have hE : Hid (N = false) := by
        show _ = _
        rw [hM.out, List.drop_eq_nil_of_le (by omega)]; rfl
      clear hM hN hv
      go_wp2
      go_ret
      exact ⟨by rw [hE.out]; rfl, hb⟩
end Go.Proofs.YteipfdjpndhgkaaGreatDoor

/- The contract of the reference's Range. -/
namespace Vs
theorem fold_drop {l : List Ver} {p : Ver → Bool} {k : Nat} {x : Ver} (hx : l[k]? = some x) (r : List Pr) : ((l.drop k).filter p).foldl (fun r x => insP r (x.k, x.v)) r = ((l.drop (k + 1)).filter p).foldl (fun r x => insP r (x.k, x.v)) (if p x = true then insP r (x.k, x.v) else r) := by
  obtain ⟨h, e⟩ := List.getElem?_eq_some_iff.1 hx
  rw [List.drop_eq_getElem_cons h, e]
  by_cases c : p x = true
  · rw [if_pos c, List.filter_cons_of_pos c, List.foldl_cons]
  · rw [if_neg c, List.filter_cons_of_neg c]
end Vs
namespace Go.Proofs.YteipfdjpndhgkaaGreatDoor
open Go.RowKit

/-- A version in a box. -/
structure Vb (w : World) (B : Nat) (x : Vs.Ver) : Prop where
  c0 : w.cell? ⟨B, 0, none⟩ = some (.string x.k)
  c1 : w.cell? ⟨B, 1, none⟩ = some (.string x.v)
  c2 : w.cell? ⟨B, 2, none⟩ = some (.int .i64 x.n)
  c3 : w.cell? ⟨B, 3, none⟩ = some (.bool x.g)
theorem Vb.lt {w : World} {B : Nat} {x : Vs.Ver} (h : Vb w B x) : B < w.heap.size := World.block_lt_of_cell? _ _ h.c0
theorem Vb.step {w w' : World} {B : Nat} {x : Vs.Ver} (h : Vb w B x) (hb : Below w.heap.size w w') : Vb w' B x :=
  ⟨(hb.cell (p := ⟨B, 0, none⟩) h.lt).trans h.c0, (hb.cell (p := ⟨B, 1, none⟩) h.lt).trans h.c1, (hb.cell (p := ⟨B, 2, none⟩) h.lt).trans h.c2, (hb.cell (p := ⟨B, 3, none⟩) h.lt).trans h.c3⟩
theorem Vb.new (w : World) (t : Nat) (x : Vs.Ver) : Vb (w.alloc (.cells #[.string x.k, .string x.v, .int .i64 x.n, .bool x.g] t)) w.heap.size x := ⟨by simp, by simp, by simp, by simp⟩

set_option maxHeartbeats 4000000 in
theorem refRange {G : Nat → Prop} {B : Nat} {l : List Vs.Ver} {top : Int} (lo hi : ByteArray) (a : Int) (w : World) (hT : Vs.OkT l top) (hR : RT w G B l top) (hl : l.length ≤ 100000) :
    Calls Tryz.prog 49 #[.pointer (some ⟨B, 0, none⟩), .string lo, .string hi, .int .i64 a] w fun e w' => ∃ (q : Option Addr) (cq : Nat), e = .returned (.slice q (Vs.vrng l lo hi a).length cq) ∧ PrAt w' q (Vs.vrng l lo hi a) ∧ Below w.heap.size w w' := by
  obtain ⟨N, hN⟩ : ∃ N, N = Vs.vrng l lo hi a := ⟨_, rfl⟩
  rw [← hN]
  replace hN : Hid (N = ((l.drop 0).filter (Vs.told l lo hi a)).foldl (fun r x => Vs.insP r (x.k, x.v)) []) := hN
  go_enter Tryz.func49, Tryz.ntmps49
  go_wp2
  go_loopw [9, 10] (fun s i wr => ∃ (k : Nat) (r : List Vs.Pr) (q : Option Addr) (cq : Nat), k ≤ l.length ∧ i = .int .i64 k ∧ s = .slice q r.length cq ∧ r.length ≤ k ∧ PrAt wr q r ∧ Hid (N = ((l.drop k).filter (Vs.told l lo hi a)).foldl (fun r x => Vs.insP r (x.k, x.v)) r) ∧ Below w.heap.size w wr) (fun _ i _ => l.length - (intOf i).toNat)
  case atStart => exact ⟨0, [], none, 0, by omega, rfl, rfl, by simp, PrAt.nil _ _, hN, below_self _⟩
  case round =>
    obtain ⟨k, r, q, cq, hk, rfl, rfl, hrl, hq, hM, hb⟩ := hrel
    obtain ⟨p, cap, hp, hv⟩ := (hR.step hb).row
    by_cases hlt : k < l.length
    · have hlt' : (k : Int) < (l.length : Int) := by omega
      obtain ⟨bb, off, rfl, hbl, _, hc⟩ := hv (by omega)
      obtain ⟨x, hx⟩ := Vs.getsome hlt
      obtain ⟨d0, d1, d2, d3⟩ := hc k x hx
      have hst : Hid _ := hM.out.trans (Vs.fold_drop hx r)
      have hno : Hid (Vs.told l lo hi a x = false → N = ((l.drop (k + 1)).filter (Vs.told l lo hi a)).foldl (fun r x => Vs.insP r (x.k, x.v)) r) := fun h => by rw [hst.out, if_neg (by rw [h]; simp)]
      have hyes : Hid (Vs.told l lo hi a x = true → N = ((l.drop (k + 1)).filter (Vs.told l lo hi a)).foldl (fun r x => Vs.insP r (x.k, x.v)) (Vs.insP r (x.k, x.v))) := fun h => by rw [hst.out, if_pos h]
      have vb := Vb.new wr 135 x
      have hbA := below_al (below_self wr) (.cells #[.string x.k, .string x.v, .int .i64 x.n, .bool x.g] 135)
      have hbW := below_al hb (.cells #[.string x.k, .string x.v, .int .i64 x.n, .bool x.g] 135)
      have hqA := hq.step hbA
      have hsee := Vs.sI_at hT hx a
      clear hst hM hN hc hv hx
      cases g1 : Op.bytesLess x.k.toList lo.toList
      · cases g2 : Op.bytesLess x.k.toList hi.toList
        · have R : Hid _ := hno.out (by simp [Vs.told, Vs.btw, Vs.bl, g2])
          clear hno hyes hsee vb
          go_wp2
          exact ⟨⟨k + 1, r, q, cq, by omega, by go_num, rfl, by omega, hqA, R, hbW⟩, by simp [intOf]; omega⟩
        · cases g3 : x.g
          · have K := refSeen x.k a _ hT ((hR.step hb).step hbA) (by omega)
            cases g4 : (Vs.sI l x.k a == (k : Int))
            · have R : Hid _ := hno.out (by rw [g4] at hsee; simp [Vs.told, ← hsee])
              rw [g3] at d3 vb hbA hbW hqA K
              clear hno hyes hsee
              go_wp2_with (go_at_call 73; refine K.mono ?_; rintro e w2 ⟨rfl, hb2⟩)
              exact ⟨⟨k + 1, r, q, cq, by omega, by go_num, rfl, by omega, hqA.step hb2, R, below_via hbW hb2⟩, by simp [intOf]; omega⟩
            · have R : Hid _ := hyes.out (by rw [g4] at hsee; simp [Vs.told, ← hsee, g3, Vs.btw, Vs.bl, g1, g2])
              rw [g3] at d3 vb hbA hbW hqA K
              clear hno hyes hsee
              go_wp2_with (first
                | (go_at_call 73; refine K.mono ?_; rintro e w2 ⟨rfl, hb2⟩; have c4 := (hb2.cell (p := ⟨wr.heap.size, 0, none⟩) vb.lt).trans vb.c0; have c5 := (hb2.cell (p := ⟨wr.heap.size, 1, none⟩) vb.lt).trans vb.c1; have hq2 := hqA.step hb2; have hbX := below_via hbW hb2; clear hb2 K)
                | (go_at_call 50; refine (refInsert r x.k x.v q cq _ (by omega) hq2).mono ?_; rintro e w3 ⟨v3, rfl, hown3, hb3⟩))
              obtain ⟨q3, c3, rfl⟩ := own_form hown3
              exact ⟨⟨k + 1, Vs.insP r (x.k, x.v), q3, c3, by omega, by go_num, rfl, by rw [Vs.len_insP]; omega, (prAt_own hown3).2, R, below_via hbX hb3⟩, by simp [intOf]; omega⟩
          · have R : Hid _ := hno.out (by simp [Vs.told, g3])
            rw [g3] at d3 vb hbA hbW hqA
            clear hno hyes hsee
            go_wp2
            exact ⟨⟨k + 1, r, q, cq, by omega, by go_num, rfl, by omega, hqA, R, hbW⟩, by simp [intOf]; omega⟩
      · have R : Hid _ := hno.out (by simp [Vs.told, Vs.btw, Vs.bl, g1])
        clear hno hyes hsee vb
        go_wp2
        exact ⟨⟨k + 1, r, q, cq, by omega, by go_num, rfl, by omega, hqA, R, hbW⟩, by simp [intOf]; omega⟩
    · have hE : Hid (N = r) := by
        show _ = _
        rw [hM.out, List.drop_eq_nil_of_le (by omega)]; rfl
      clear hM hN hv
      go_wp2
      go_ret
      exact ⟨q, cq, by rw [hE.out]; rfl, by rw [hE.out]; exact hq, hb⟩
end Go.Proofs.YteipfdjpndhgkaaGreatDoor

/- The contract of the reference's Collect. -/
namespace Vs
theorem filter_drop {l : List Ver} {p : Ver → Bool} {k : Nat} {x : Ver} (hx : l[k]? = some x) (o : List Ver) : o ++ (l.drop k).filter p = (if p x = true then o ++ [x] else o) ++ (l.drop (k + 1)).filter p := by
  obtain ⟨h, e⟩ := List.getElem?_eq_some_iff.1 hx
  rw [List.drop_eq_getElem_cons h, e]
  by_cases c : p x = true
  · rw [if_pos c, List.filter_cons_of_pos c]; simp
  · rw [if_neg c, List.filter_cons_of_neg c]
end Vs
namespace Go.Proofs.YteipfdjpndhgkaaGreatDoor
open Go.RowKit

theorem infoVer : (Tryz.prog.info? 135).map (fun i => (i.zero, i.size, i.bytes)) = some (some (.agg #[.string ByteArray.empty, .string ByteArray.empty, .int .i64 0, .bool false]), 4, 48) := by kernel_rfl
abbrev verC (x : Vs.Ver) : List Value := [.string x.k, .string x.v, .int .i64 x.n, .bool x.g]
theorem ver_new {W : World} {k v : ByteArray} {n : Int} {g : Bool} {t N : Nat} (hN : N = W.heap.size) : ∀ (j : Nat) (u : Value), ([.string k, .string v, .int .i64 n, .bool g] : List Value)[j]? = some u → (W.alloc (.cells #[.string k, .string v, .int .i64 n, .bool g] t)).cell? ⟨N, j, none⟩ = some u := by
  subst hN
  intro j u hj
  match j, hj with
  | 0, hj => simp at hj; subst hj; simp
  | 1, hj => simp at hj; subst hj; simp
  | 2, hj => simp at hj; subst hj; simp
  | 3, hj => simp at hj; subst hj; simp
theorem ver_one {k v : ByteArray} {n : Int} {g : Bool} : ∀ u ∈ ([.string k, .string v, .int .i64 n, .bool g] : List Value), u.oneCell' = true := by
  intro u hu; simp at hu; rcases hu with rfl | rfl | rfl | rfl <;> rfl
theorem own_ver {w : World} {B e : Nat} {v : Value} {o : List Vs.Ver} {x : Vs.Ver} (h : w.ownsRow B e 4 v (o.length + 1) (verV o ++ verC x)) : w.ownsRow B e 4 v (o ++ [x]).length (verV (o ++ [x])) := by
  rw [verV_app, List.length_append]; exact h
/-- The table gets a new row. -/
theorem RT.set {w : World} {G : Nat → Prop} {B n0 e m cq : Nat} {q : Option Addr} {l : List Vs.Ver} {top : Int} (gB : G B) (hB : B < n0) (hBw : B < w.heap.size) (h0 : ∃ u, w.cell? ⟨B, 0, none⟩ = some u) (h1 : w.cell? ⟨B, 1, none⟩ = some (.int .i64 top)) (f0 : w.frozen? ⟨B, 0, none⟩ = false) (f1 : w.frozen? ⟨B, 1, none⟩ = false)
    (hown : w.ownsRow n0 e 4 (.slice q m cq) l.length (verV l)) : RT (w.setCell ⟨B, 0, none⟩ (.slice q m cq)) (fun k => G k ∨ (n0 ≤ k ∧ k < w.heap.size)) B l top := by
  obtain ⟨u, h0⟩ := h0
  obtain ⟨hm, hv⟩ := vrAt_own hown
  subst hm
  have hs : (w.setCell ⟨B, 0, none⟩ (.slice q l.length cq)).heap.size = w.heap.size := by simp [World.setCell]
  refine ⟨.inl gB, ⟨q, cq, by go_simp, ?_⟩, by go_simp, by go_simp, by go_simp⟩
  have hb : But (fun k => k = B) w (w.setCell ⟨B, 0, none⟩ (.slice q l.length cq)) := (But.refl (fun k => k = B) w).setCell (p := ⟨B, 0, none⟩) (.inl rfl) _
  intro hl
  obtain ⟨b, off, rfl, hlt, hg, hc⟩ := (hv.but hb (fun k hk hg e => by subst e; omega)) hl
  exact ⟨b, off, rfl, hlt, ⟨.inr ⟨hg, by omega⟩, by omega⟩, hc⟩

set_option maxHeartbeats 4000000 in
theorem refCollect {G : Nat → Prop} {B : Nat} {l : List Vs.Ver} {top : Int} (a : Int) (w : World) (hT : Vs.OkT l top) (hR : RT w G B l top) (hl : l.length ≤ 100000) :
    Calls Tryz.prog 71 #[.pointer (some ⟨B, 0, none⟩), .int .i64 a] w fun e w' => e = .returned (.int .i64 ((l.length : Int) - (Vs.vcol l a).length)) ∧ RT w' (fun k => G k ∨ (w.heap.size ≤ k ∧ k < w'.heap.size)) B (Vs.vcol l a) top ∧ But (fun k => k = B) w w' := by
  obtain ⟨N, hN⟩ : ∃ N, N = Vs.vcol l a := ⟨_, rfl⟩
  have hNl : N.length ≤ l.length := by rw [hN]; exact List.length_filter_le _ _
  rw [← hN]
  replace hN : Hid (N = [] ++ (l.drop 0).filter (Vs.kept l a)) := hN
  have hB := hR.lt
  go_enter Tryz.func71, Tryz.ntmps71
  go_upto_block 0 with fail
  go_cut [5, 6, 7] from 9 to 46 (fun s _ _ wr => wr.ownsRow w.heap.size 135 4 s N.length (verV N) ∧ Below w.heap.size w wr)
  case first =>
    go_wp2_with fail
    go_loopw [5, 6] (fun s i wr => ∃ (k : Nat) (o : List Vs.Ver), k ≤ l.length ∧ i = .int .i64 k ∧ o.length ≤ k ∧ wr.ownsRow w.heap.size 135 4 s o.length (verV o) ∧ Hid (N = o ++ (l.drop k).filter (Vs.kept l a)) ∧ Below w.heap.size w wr) (fun _ i _ => l.length - (intOf i).toNat)
    case atStart => exact ⟨0, [], by omega, rfl, by simp, World.ownsRow_nil _ _ _ _, hN, below_self _⟩
    case round =>
      obtain ⟨k, o, hk, rfl, hol, hown, hM, hb⟩ := hrel
      have hws := hb.size
      obtain ⟨p, cap, hp, hv⟩ := (hR.step hb).row
      by_cases hlt : k < l.length
      · have hlt' : (k : Int) < (l.length : Int) := by omega
        obtain ⟨bb, off, rfl, hbl, _, hc⟩ := hv (by omega)
        obtain ⟨x, hx⟩ := Vs.getsome hlt
        obtain ⟨d0, d1, d2, d3⟩ := hc k x hx
        have hst : Hid _ := hM.out.trans (Vs.filter_drop hx o)
        have hno : Hid (Vs.kept l a x = false → N = o ++ (l.drop (k + 1)).filter (Vs.kept l a)) := fun h => by rw [hst.out, if_neg (by rw [h]; simp)]
        have hyes : Hid (Vs.kept l a x = true → N = (o ++ [x]) ++ (l.drop (k + 1)).filter (Vs.kept l a)) := fun h => by rw [hst.out, if_pos h]
        have vb := Vb.new wr 135 x
        have hbA := below_al (below_self wr) (.cells #[.string x.k, .string x.v, .int .i64 x.n, .bool x.g] 135)
        have hbW := below_al hb (.cells #[.string x.k, .string x.v, .int .i64 x.n, .bool x.g] 135)
        have hownA := own_below hown hbA
        have hsee := Vs.sI_at hT hx a
        clear hst hM hN hc hv hx
        by_cases h1 : a < x.n
        · have g1 : decide (a < x.n) = true := by simpa using h1
          have R : Hid _ := hyes.out (by simp [Vs.kept, h1])
          clear hno hyes hsee
          go_wp2_with (first
            | (at_builtin; refine wpList_append_one 72 135 4 48 _ Tryz.underlying72 infoVer rfl (by decide) (by decide) rfl _ _ rfl w.heap.size _ o.length (verV o) rfl (hownA.alloc _) (by simp; omega) (wr.heap.size + 1) (verC x) rfl rfl (ver_new (by simp)) ver_one (by omega) ?_; intro v2 w2 hown2 hgrow2)
            | go_in)
          exact ⟨⟨k + 1, o ++ [x], by omega, by go_num, by simp; omega, own_ver hown2, R, (below_al hbW _).grown hgrow2 (by simp; omega) (fun j hj => (hownA.lt j hj).1)⟩, by simp [intOf]; omega⟩
        · have g1 : decide (a < x.n) = false := by simpa using h1
          have K := refSeen x.k a _ hT ((hR.step hb).step hbA) (by omega)
          cases g4 : (Vs.sI l x.k a == (k : Int))
          · have R : Hid _ := hno.out (by rw [g4] at hsee; simp [Vs.kept, ← hsee, h1])
            clear hno hyes hsee
            go_wp2_with (go_at_call 73; refine K.mono ?_; rintro e w2 ⟨rfl, hb2⟩)
            exact ⟨⟨k + 1, o, by omega, by go_num, by omega, own_below hownA hb2, R, below_via hbW hb2⟩, by simp [intOf]; omega⟩
          · cases g3 : x.g
            · have R : Hid _ := hyes.out (by rw [g4] at hsee; simp [Vs.kept, ← hsee, g3])
              have HG : Hid _ := g3
              clear hno hyes hsee g3
              go_wp2_with (first
                | (go_at_call 73; refine K.mono ?_; rintro e w2 ⟨rfl, hb2⟩; obtain ⟨c4, c5, c6, c7⟩ := vb.step hb2; rw [HG.out] at c7; have hownX := own_below hownA hb2; have hbX := below_via hbW hb2; have hsX := hbX.size; clear hb2 K)
                | (at_builtin; refine wpList_append_one 72 135 4 48 _ Tryz.underlying72 infoVer rfl (by decide) (by decide) rfl _ _ rfl w.heap.size _ o.length (verV o) rfl (hownX.alloc _) (by simp; omega) w2.heap.size [.string x.k, .string x.v, .int .i64 x.n, .bool false] rfl rfl (ver_new rfl) ver_one (by omega) ?_; intro v3 w3 hown3 hgrow3)
                | go_in)
              exact ⟨⟨k + 1, o ++ [x], by omega, by go_num, by simp; omega, own_ver (by rw [← HG.out] at hown3; exact hown3), R, (below_al hbX _).grown hgrow3 (by simp; omega) (fun j hj => (hownX.lt j hj).1)⟩, by simp [intOf]; omega⟩
            · have R : Hid _ := hno.out (by simp [Vs.kept, h1, g3])
              have HG : Hid _ := g3
              clear hno hyes hsee g3
              go_wp2_with (first
                | (go_at_call 73; refine K.mono ?_; rintro e w2 ⟨rfl, hb2⟩; obtain ⟨c4, c5, c6, c7⟩ := vb.step hb2; rw [HG.out] at c7; have hownX := own_below hownA hb2; have hbX := below_via hbW hb2; clear hb2 K)
                | go_in)
              exact ⟨⟨k + 1, o, by omega, by go_num, by omega, hownX, R, hbX⟩, by simp [intOf]; omega⟩
      · have hE : Hid (N = o) := by
          show _ = _
          rw [hM.out, List.drop_eq_nil_of_le (by omega)]; simp
        clear hM hN hv
        go_wp2_with fail
        go_meet
        case rel => exact ⟨by rw [hE.out]; exact hown, hb⟩
  case rest =>
    obtain ⟨hown, hb⟩ := hcut
    have hR2 := hR.step hb
    obtain ⟨p, cap, hp, hv⟩ := hR2.row
    obtain ⟨q, cq, rfl⟩ := own_form hown
    refine ‹∀ (a : Act) (w : World), Code.wp _ _ _ a w → _› _ _ ?_
    have hf0 := hR2.f0
    have hst := RT.set hR.gB hB hR2.lt ⟨_, hp⟩ hR2.c1 hR2.f0 hR2.f1 hown
    have hbut : But (fun k => k = B) w (wc.setCell ⟨B, 0, none⟩ (.slice q N.length cq)) := (But.below (F := fun k => k = B) hb).setCell (p := ⟨B, 0, none⟩) (.inl rfl) _
    have hsz : (wc.setCell ⟨B, 0, none⟩ (.slice q N.length cq)).heap.size = wc.heap.size := by simp [World.setCell]
    clear hN hv
    go_wp2_with fail
    go_ret
    exact ⟨rfl, by rw [hsz]; exact hst, hbut⟩
end Go.Proofs.YteipfdjpndhgkaaGreatDoor

/- The contract of the reference's Put. -/
namespace Go.Proofs.YteipfdjpndhgkaaGreatDoor
open Go.RowKit

set_option maxHeartbeats 8000000 in
theorem put_in {G : Nat → Prop} {B : Nat} {l : List Vs.Ver} {top : Int} (x : Vs.Ver) (w : World) (hR : RT w G B l top) (hl : l.length ≤ 100000) (hx : Vs.ptF x top = 0) :
    Calls Tryz.prog 91 #[.pointer (some ⟨B, 0, none⟩), .agg #[.string x.k, .string x.v, .int .i64 x.n, .bool x.g]] w fun e w' => e = .returned (.int .i64 0) ∧ RT w' (fun k => G k ∨ (w.heap.size ≤ k ∧ k < w'.heap.size)) B (Vs.vput l x) x.n ∧ But (fun k => k = B) w w' := by
  obtain ⟨hv, ht⟩ := Vs.ptF_ok hx
  have hsh : Vs.shF x.k x.v = 0 := if_neg (by unfold Vs.OkV at hv; omega)
  have hn1 : 1 ≤ x.n := hv.2.2.2.1
  have hn2 : x.n ≤ 1000000 := hv.2.2.2.2
  have K := keyFault x.k x.v
  rw [hsh] at K
  have vb0 := Vb.new w 135 x
  have hb0 := below_al (below_self w) (.cells #[.string x.k, .string x.v, .int .i64 x.n, .bool x.g] 135)
  have hB := hR.lt
  have hRA := hR.step hb0
  obtain ⟨p, cap, hp, hvr⟩ := hRA.row
  have q1 := hRA.c1
  have q2 := hRA.f0
  have q3 := hRA.f1
  have hG := hR.gB
  have k0 := vb0.c0
  have k1 := vb0.c1
  have k2 := vb0.c2
  have d1 : decide (x.n < 1) = false := by simp; omega
  have d2 : decide (1000000 < x.n) = false := by simp; omega
  have d3 : decide (x.n < top) = false := by simp; omega
  have hsA : (w.alloc (.cells #[.string x.k, .string x.v, .int .i64 x.n, .bool x.g] 135)).heap.size = w.heap.size + 1 := by simp
  clear hv hsh hx hR hRA
  go_enter Tryz.func91, Tryz.ntmps91
  go_wp2_with (go_at_call 41; refine (K _).mono ?_; rintro e w1 ⟨rfl, rfl⟩)
  go_quiet (fail)
  obtain ⟨A, hA⟩ : ∃ A, A = (w.alloc (.cells #[.string x.k, .string x.v, .int .i64 x.n, .bool x.g] 135)).drewN nq := ⟨_, rfl⟩
  have hbA : Below w.heap.size w A := by rw [hA]; exact below_drewN hb0 nq
  have hb1 := below_drewN (below_self (w.alloc (.cells #[.string x.k, .string x.v, .int .i64 x.n, .bool x.g] 135))) nq
  rw [← hA] at hb1 ⊢
  have hsA1 : A.heap.size = w.heap.size + 1 := by rw [hA]; simp
  clear hA hsA
  replace vb0 := vb0.step hb1
  replace hp := (hb1.cell (p := ⟨B, 0, none⟩) (by simp; omega)).trans hp
  replace q1 := (hb1.cell (p := ⟨B, 1, none⟩) (by simp; omega)).trans q1
  replace q2 := (hb1.frozen (p := ⟨B, 0, none⟩) (by simp; omega)).trans q2
  replace q3 := (hb1.frozen (p := ⟨B, 1, none⟩) (by simp; omega)).trans q3
  replace hvr := hvr.step hb1
  have hbut : But (fun k => k = B) A (A.setCell ⟨B, 1, none⟩ (.int .i64 x.n)) := (But.refl (fun k => k = B) A).setCell (p := ⟨B, 1, none⟩) (.inl rfl) _
  have hneB : w.heap.size ≠ B := by omega
  have m0 := (hbut.cell (p := ⟨w.heap.size, 0, none⟩) vb0.lt hneB).trans vb0.c0
  have m1 := (hbut.cell (p := ⟨w.heap.size, 1, none⟩) vb0.lt hneB).trans vb0.c1
  have m2 := (hbut.cell (p := ⟨w.heap.size, 2, none⟩) vb0.lt hneB).trans vb0.c2
  have m3 := (hbut.cell (p := ⟨w.heap.size, 3, none⟩) vb0.lt hneB).trans vb0.c3
  have n0 : (A.setCell ⟨B, 1, none⟩ (.int .i64 x.n)).cell? ⟨B, 0, none⟩ = some (.slice p l.length cap) := by go_simp
  have n1 : (A.setCell ⟨B, 1, none⟩ (.int .i64 x.n)).cell? ⟨B, 1, none⟩ = some (.int .i64 x.n) := by go_simp
  have n2 : (A.setCell ⟨B, 1, none⟩ (.int .i64 x.n)).frozen? ⟨B, 0, none⟩ = false := by go_simp
  have n3 : (A.setCell ⟨B, 1, none⟩ (.int .i64 x.n)).frozen? ⟨B, 1, none⟩ = false := by go_simp
  have hvr1 := hvr.but hbut (fun k _ hg e => hg.2 e)
  have j2 := vb0.c2
  have hbw : But (fun k => k = B) w (A.setCell ⟨B, 1, none⟩ (.int .i64 x.n)) := (But.below hbA).trans hbut
  have hsW : (A.setCell ⟨B, 1, none⟩ (.int .i64 x.n)).heap.size = w.heap.size + 1 := by simpa [World.setCell] using hsA1
  clear hb0 hb1 hbA hvr K vb0 k0 k1 k2 hbut
  go_upto_block 0 with fail
  obtain ⟨W, hW⟩ : ∃ W, W = A.setCell ⟨B, 1, none⟩ (.int .i64 x.n) := ⟨_, rfl⟩
  rw [← hW] at m0 m1 m2 m3 n0 n1 n2 n3 hvr1 hbw hsW ⊢
  clear hW hp q1 q2 q3 j2
  obtain ⟨N, hN⟩ : ∃ N, N = l.filter (fun y => !Vs.same x y) := ⟨_, rfl⟩
  have hNl : N.length ≤ l.length := by rw [hN]; exact List.length_filter_le _ _
  have hE : Hid (Vs.vput l x = N ++ [x]) := by show _ = _; rw [hN]; rfl
  replace hN : Hid (N = [] ++ (l.drop 0).filter (fun y => !Vs.same x y)) := hN
  go_cut [6, 7] from 36 to 78 (fun s _ wr => wr.ownsRow W.heap.size 135 4 s N.length (verV N) ∧ Below W.heap.size W wr)
  case first =>
    go_wp2_with fail
    go_loopw [6, 7] (fun s i wr => ∃ (k : Nat) (o : List Vs.Ver), k ≤ l.length ∧ i = .int .i64 k ∧ o.length ≤ k ∧ wr.ownsRow W.heap.size 135 4 s o.length (verV o) ∧ Hid (N = o ++ (l.drop k).filter (fun y => !Vs.same x y)) ∧ Below W.heap.size W wr) (fun _ i _ => l.length - (intOf i).toNat)
    case atStart => exact ⟨0, [], by omega, rfl, by simp, World.ownsRow_nil _ _ _ _, hN, below_self _⟩
    case round =>
      obtain ⟨k, o, hk, rfl, hol, hown, hM, hb⟩ := hrel
      have hws := hb.size
      have e0 := (hb.cell (p := ⟨B, 0, none⟩) (by simp; omega)).trans n0
      have e1 := (hb.cell (p := ⟨w.heap.size, 0, none⟩) (by simp; omega)).trans m0
      have e2 := (hb.cell (p := ⟨w.heap.size, 2, none⟩) (by simp; omega)).trans m2
      by_cases hlt : k < l.length
      · have hlt' : (k : Int) < (l.length : Int) := by omega
        obtain ⟨bb, off, rfl, hbl, _, hc⟩ := (hvr1.step hb) (by omega)
        obtain ⟨y, hy⟩ := Vs.getsome hlt
        obtain ⟨d0, d1, d2, d3⟩ := hc k y hy
        have hst : Hid _ := hM.out.trans (Vs.filter_drop hy o)
        have hno : Hid (Vs.same x y = true → N = o ++ (l.drop (k + 1)).filter (fun y => !Vs.same x y)) := fun h => by rw [hst.out, if_neg (by rw [h]; simp)]
        have hyes : Hid (Vs.same x y = false → N = (o ++ [y]) ++ (l.drop (k + 1)).filter (fun y => !Vs.same x y)) := fun h => by rw [hst.out, if_pos (by rw [h]; rfl)]
        clear hst hM hN hc hy hvr1
        by_cases h1 : y.k = x.k
        · have g1 : (y.k.toList == x.k.toList) = true := by rw [Vs.beq_str]; simpa using h1
          by_cases h2 : y.n = x.n
          · have g2 : (y.n != x.n) = false := by simpa using h2
            have R : Hid _ := hno.out (by simp [Vs.same, h1, h2])
            clear hno hyes h1 h2
            go_wp2
            go_quiet (fail)
            go_wp2
            exact ⟨⟨k + 1, o, by omega, by go_num, by omega, own_below hown (below_drewN (below_self wr) nq), R, below_drewN hb nq⟩, by simp [intOf]; omega⟩
          · have g2 : (y.n != x.n) = true := by simpa using h2
            have R : Hid _ := hyes.out (by simp [Vs.same, h2])
            clear hno hyes h1 h2
            go_wp2
            go_quiet (fail)
            have hown1 := own_below hown (below_drewN (below_self wr) nq)
            have hb1 := below_drewN hb nq
            go_wp2_with (first
              | (at_builtin; refine wpList_append_one 72 135 4 48 _ Tryz.underlying72 infoVer rfl (by decide) (by decide) rfl _ _ rfl W.heap.size _ o.length (verV o) rfl (hown1.alloc _) (by simp; omega) wr.heap.size [.string y.k, .string y.v, .int .i64 y.n, .bool y.g] rfl rfl (ver_new rfl) ver_one (by omega) ?_; intro v2 w2 hown2 hgrow2)
              | go_in)
            exact ⟨⟨k + 1, o ++ [y], by omega, by go_num, by simp; omega, own_ver hown2, R, (hb1.alloc (by simpa using hws) _).grown hgrow2 (by simp; omega) (fun j hj => (hown1.lt j hj).1)⟩, by simp [intOf]; omega⟩
        · have g1 : (y.k.toList == x.k.toList) = false := by rw [Vs.beq_str]; simpa using h1
          have R : Hid _ := hyes.out (by simp [Vs.same, h1])
          clear hno hyes h1
          go_wp2
          go_quiet (fail)
          have hown1 := own_below hown (below_drewN (below_self wr) nq)
          have hb1 := below_drewN hb nq
          go_wp2_with (first
            | (at_builtin; refine wpList_append_one 72 135 4 48 _ Tryz.underlying72 infoVer rfl (by decide) (by decide) rfl _ _ rfl W.heap.size _ o.length (verV o) rfl (hown1.alloc _) (by simp; omega) wr.heap.size [.string y.k, .string y.v, .int .i64 y.n, .bool y.g] rfl rfl (ver_new rfl) ver_one (by omega) ?_; intro v2 w2 hown2 hgrow2)
            | go_in)
          exact ⟨⟨k + 1, o ++ [y], by omega, by go_num, by simp; omega, own_ver hown2, R, (hb1.alloc (by simpa using hws) _).grown hgrow2 (by simp; omega) (fun j hj => (hown1.lt j hj).1)⟩, by simp [intOf]; omega⟩
      · have hE2 : Hid (N = o) := by
          show _ = _
          rw [hM.out, List.drop_eq_nil_of_le (by omega)]; simp
        clear hM hN hvr1
        go_wp2_with fail
        go_meet
        case rel => exact ⟨by rw [hE2.out]; exact hown, hb⟩
  case rest =>
    obtain ⟨hown, hb⟩ := hcut
    have hws := hb.size
    have e0 := (hb.cell (p := ⟨B, 0, none⟩) (by simp; omega)).trans n0
    have e1 := (hb.cell (p := ⟨B, 1, none⟩) (by simp; omega)).trans n1
    have e2 := (hb.frozen (p := ⟨B, 0, none⟩) (by simp; omega)).trans n2
    have e3 := (hb.frozen (p := ⟨B, 1, none⟩) (by simp; omega)).trans n3
    have l0 := (hb.cell (p := ⟨w.heap.size, 0, none⟩) (by simp; omega)).trans m0
    have l1 := (hb.cell (p := ⟨w.heap.size, 1, none⟩) (by simp; omega)).trans m1
    have l2 := (hb.cell (p := ⟨w.heap.size, 2, none⟩) (by simp; omega)).trans m2
    have l3 := (hb.cell (p := ⟨w.heap.size, 3, none⟩) (by simp; omega)).trans m3
    refine ‹∀ (a : Act) (w : World), Code.wp _ _ _ a w → _› _ _ ?_
    clear hN hvr1
    go_wp2_with (first
      | (at_builtin; refine wpList_append_one 72 135 4 48 _ Tryz.underlying72 infoVer rfl (by decide) (by decide) rfl _ _ rfl W.heap.size _ N.length (verV N) rfl (hown.alloc _) (by simp; omega) wc.heap.size [.string x.k, .string x.v, .int .i64 x.n, .bool x.g] rfl rfl (ver_new rfl) ver_one (by omega) ?_; intro v2 w2 hown2 hgrow2; have hb2 : Below W.heap.size W w2 := (hb.alloc (by simpa using hws) _).grown hgrow2 (by simp; omega) (fun j hj => (hown.lt j hj).1); have r0 := (hb2.cell (p := ⟨B, 0, none⟩) (by simp; omega)).trans n0; have r1 := (hb2.cell (p := ⟨B, 1, none⟩) (by simp; omega)).trans n1; have r2 := (hb2.frozen (p := ⟨B, 0, none⟩) (by simp; omega)).trans n2; have r3 := (hb2.frozen (p := ⟨B, 1, none⟩) (by simp; omega)).trans n3; obtain ⟨q2, cq2, rfl⟩ := own_form hown2)
      | go_in)
    have hws2 := hb2.size
    have hst := RT.set (l := N ++ [x]) (top := x.n) hG (show B < W.heap.size by omega) (show B < w2.heap.size by omega) ⟨_, r0⟩ r1 r2 r3 (own_ver hown2)
    have hbut : But (fun k => k = B) w (w2.setCell ⟨B, 0, none⟩ (.slice q2 (N.length + 1) cq2)) := (hbw.step hb2).setCell (p := ⟨B, 0, none⟩) (.inl rfl) _
    have hsz : (w2.setCell ⟨B, 0, none⟩ (.slice q2 (N.length + 1) cq2)).heap.size = w2.heap.size := by simp [World.setCell]
    go_ret
    refine ⟨rfl, ?_, hbut⟩
    rw [hE.out, hsz]
    exact hst.mono (fun k _ g => g.imp id (fun g => ⟨by omega, g.2⟩))

set_option maxHeartbeats 8000000 in
theorem put_no {B : Nat} {top : Int} (x : Vs.Ver) (w : World) (hB : B < w.heap.size) (c1 : w.cell? ⟨B, 1, none⟩ = some (.int .i64 top)) (hx : Vs.ptF x top ≠ 0) :
    Calls Tryz.prog 91 #[.pointer (some ⟨B, 0, none⟩), .agg #[.string x.k, .string x.v, .int .i64 x.n, .bool x.g]] w fun e w' => e = .returned (.int .i64 (Vs.ptF x top)) ∧ Below w.heap.size w w' := by
  have K := keyFault x.k x.v
  have hb0 := below_al (below_self w) (.cells #[.string x.k, .string x.v, .int .i64 x.n, .bool x.g] 135)
  have e1 := (hb0.cell (p := ⟨B, 1, none⟩) hB).trans c1
  obtain ⟨R, hR⟩ : ∃ R, R = Vs.ptF x top := ⟨_, rfl⟩
  rw [← hR] at hx ⊢
  by_cases hsh : Vs.shF x.k x.v = 0
  · have hR2 : R = if x.n < 1 ∨ 1000000 < x.n then 1 else if x.n < top then 7 else 0 := by rw [hR, Vs.ptF, if_pos hsh]
    rw [hsh] at K
    clear hR
    by_cases h1 : x.n < 1
    · have E : Hid (R = 1) := by show _ = _; rw [hR2, if_pos (.inl h1)]
      have d1 : decide (x.n < 1) = true := by simpa using h1
      clear hR2 hx
      go_enter Tryz.func91, Tryz.ntmps91
      go_wp2_with (go_at_call 41; refine (K _).mono ?_; rintro e w1 ⟨rfl, rfl⟩)
      go_ret
      exact ⟨by rw [E.out]; rfl, hb0⟩
    have d1 : decide (x.n < 1) = false := by simpa using h1
    by_cases h2 : 1000000 < x.n
    · have E : Hid (R = 1) := by show _ = _; rw [hR2, if_pos (.inr h2)]
      have d2 : decide (1000000 < x.n) = true := by simpa using h2
      clear hR2 hx
      go_enter Tryz.func91, Tryz.ntmps91
      go_wp2_with (go_at_call 41; refine (K _).mono ?_; rintro e w1 ⟨rfl, rfl⟩)
      go_ret
      exact ⟨by rw [E.out]; rfl, hb0⟩
    have d2 : decide (1000000 < x.n) = false := by simpa using h2
    have h3 : x.n < top := by
      apply Classical.byContradiction
      intro h3
      apply hx
      rw [hR2, if_neg (by omega), if_neg h3]
    have E : Hid (R = 7) := by show _ = _; rw [hR2, if_neg (by omega), if_pos h3]
    have d3 : decide (x.n < top) = true := by simpa using h3
    clear hR2 hx
    go_enter Tryz.func91, Tryz.ntmps91
    go_wp2_with (go_at_call 41; refine (K _).mono ?_; rintro e w1 ⟨rfl, rfl⟩)
    go_quiet (fail)
    go_wp2
    go_ret
    exact ⟨by rw [E.out]; rfl, below_drewN hb0 _⟩
  · have h2 : Vs.shF x.k x.v = 2 := by
      by_cases c : x.k.size < 1 ∨ 24 < x.k.size ∨ 12 < x.v.size
      · exact if_pos c
      · exact absurd (if_neg c) hsh
    have E : Hid (R = 2) := by show _ = _; rw [hR, Vs.ptF, if_neg hsh]
    rw [h2] at K
    clear hR hx hsh h2
    go_enter Tryz.func91, Tryz.ntmps91
    go_wp2_with (go_at_call 41; refine (K _).mono ?_; rintro e w1 ⟨rfl, rfl⟩)
    go_ret
    exact ⟨by rw [E.out]; rfl, hb0⟩

theorem refPut {G : Nat → Prop} {B : Nat} {l : List Vs.Ver} {top : Int} (x : Vs.Ver) (w : World) (hR : RT w G B l top) (hl : l.length ≤ 100000) :
    Calls Tryz.prog 91 #[.pointer (some ⟨B, 0, none⟩), .agg #[.string x.k, .string x.v, .int .i64 x.n, .bool x.g]] w fun e w' => e = .returned (.int .i64 (Vs.ptF x top)) ∧ RT w' (fun k => G k ∨ (w.heap.size ≤ k ∧ k < w'.heap.size)) B (Vs.ptL l top x) (Vs.ptT top x) ∧ But (fun k => k = B) w w' := by
  by_cases hx : Vs.ptF x top = 0
  · rw [show Vs.ptL l top x = Vs.vput l x from if_pos hx, show Vs.ptT top x = x.n from if_pos hx, hx]
    exact put_in x w hR hl hx
  · rw [show Vs.ptL l top x = l from if_neg hx, show Vs.ptT top x = top from if_neg hx]
    refine (put_no x w hR.lt hR.c1 hx).mono ?_
    rintro e w' ⟨rfl, hb⟩
    exact ⟨rfl, (hR.step hb).mono (fun k _ g => .inl g), .below hb⟩
end Go.Proofs.YteipfdjpndhgkaaGreatDoor
