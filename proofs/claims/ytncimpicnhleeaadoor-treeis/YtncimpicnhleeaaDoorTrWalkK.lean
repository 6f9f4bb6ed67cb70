/- The contract of tree's Put. -/
import Derived.Test.YtncimpicnhleeaaDoorTrWalkJ
import Derived.Test.YtncimpicnhleeaaDoorTrWalkG
namespace Go.Proofs.YtncimpicnhleeaaDoor
open Go.RowKit

theorem own_le {w : World} {B B' e size n : Nat} {v : Value} {xs : List Value} (h : w.ownsRow B e size v n xs) (hB : B' ≤ B) : w.ownsRow B' e size v n xs := by
  refine ⟨h.1, ?_⟩
  rcases h.2 with hn | ⟨g, cap, cur, rfl, h1, rest⟩
  · exact .inl hn
  · exact .inr ⟨g, cap, cur, rfl, Nat.le_trans hB h1, rest⟩
theorem alloc_at (w : World) (o : Obj) : (w.alloc o).heap[w.heap.size]? = some o := by show (w.heap.push o)[w.heap.size]? = some o; simp
theorem insert (B vb i : Nat) (w0 w : World) (v : Value) (l : List Bur.Sp) (x y : Int) (hz : l.length ≤ 60) (hi : i ≤ l.length) (hown : w.ownsRow B 24 2 v l.length (spV l))
    (hv : w.heap[vb]? = some (.cells #[.int .i64 x, .int .i64 y] 24 (0, 0))) (hne : v.ownBlock ≠ some vb) (hb : Below B w0 w) (hB : B ≤ w.heap.size) :
    Calls Tryd.prog 29 #[v, .int .i64 i, .slice (some ⟨vb, 0, none⟩) 1 1] w fun e w' => ∃ (p' : Option Addr) (cap' : Nat), e = .returned (.slice p' (l.length + 1) cap') ∧ SpAt w' p' (l.take i ++ (x, y) :: l.drop i) ∧ Below B w0 w' := by
  have hc0 : w.cell? ⟨vb, 0, none⟩ = some (.int .i64 x) := by simp [World.cell?, hv]
  have hc1 : w.cell? ⟨vb, 1, none⟩ = some (.int .i64 y) := by simp [World.cell?, hv]
  by_cases he : i = l.length
  · subst he
    rw [List.take_length, List.drop_length]
    exact ins_end B vb w0 w v l x y hz hown hb hB hc0 hc1
  · have hlt : i < l.length := by omega
    have hown2 := hown
    rcases hown.2 with ⟨_, h0⟩ | ⟨g, cp, cur, rfl, hg0, hg, hgn, hgm, hgs, hgx⟩
    · omega
    · have hcs : ∀ j u, (spV l)[j]? = some u → w.cell? ⟨g, j, none⟩ = some u := fun j u hj => by
        have hl : j < (spV l).length := (List.getElem?_eq_some_iff.1 hj).1
        rw [spV_len] at hl
        rw [hown2.cellAt j (by omega)]
        exact hj
      by_cases hr : l.length + 1 ≤ cp
      · exact ins_shift B vb g cp i w0 w cur l x y hz hlt hr hgm hg0 hg hgs hcs hv (fun e => hne (by rw [e]; rfl)) hb
      · exact ins_grow B vb g cp i w0 w l x y hz hlt hgn (by omega) hB hcs hc0 hc1 hb

set_option maxRecDepth 100000 in
set_option maxHeartbeats 4000000 in
theorem put_any (q : Option Addr) (cap : Nat) (l : List Bur.Sp) (p : Bur.Sp) (w : World) (hl : l.length ≤ 9223372036854775807) (hs : SpAt w q l) :
    Calls Tryd.prog 9 #[.slice q l.length cap, pfx p.1 p.2] w fun e w' => ∃ (p' : Option Addr) (cap' : Nat), e = .returned (.tuple #[.slice p' (Bur.putS l p).length cap', ev (Bur.putF l p)]) ∧ SpAt w' p' (Bur.putS l p) ∧ Below w.heap.size w w' := by
  obtain ⟨x, y⟩ := p
  by_cases h : Bur.tpF l (x, y) = 0
  rotate_left
  · have F : Bur.putF l (x, y) = Bur.tpF l (x, y) := if_neg h
    have E0 : Hid (ev (Bur.tpF l (x, y)) = errN (Bur.tpF l (x, y))) := if_neg h
    rw [show Bur.putS l (x, y) = [] from if_neg (by rw [F]; exact h), F, E0.out]
    clear h F
    go_enter Tryd.func9, Tryd.ntmps9
    go_wp2_with fail
    refine (checkBoth q cap l (x, y) _ hl (hs.alloc _)).mono ?_
    rintro e w1 ⟨rfl, hb1⟩
    rw [E0.out]
    have hb2 := below_via (below_al (below_self w) _) hb1
    clear hb1
    go_wp2
    go_ret2
    exact ⟨none, 0, rfl, SpAt.nil _ _, hb2⟩
  have E0 : Hid (ev (Bur.tpF l (x, y)) = .nilIface) := by show _ = _; rw [h]; rfl
  obtain ⟨t1, t2⟩ := Bur.tpF_ok h
  obtain ⟨o1, o2⟩ := Bur.treF_ok t1
  have F : Bur.putF l (x, y) = if Bur.hasP (x, y) l = true then 6 else if 60 < l.length + 1 then 3 else 0 := if_pos h
  have HT : Hid _ := o2
  cases hh : Bur.hasP (x, y) l
  rotate_left
  · have F' : Bur.putF l (x, y) = 6 := by rw [F, hh]; rfl
    rw [show Bur.putS l (x, y) = [] from if_neg (by rw [F']; decide), F']
    clear h t1 t2 o2 F F'
    go_enter Tryd.func9, Tryd.ntmps9
    go_wp2_with fail
    refine (checkBoth q cap l (x, y) _ hl (hs.alloc _)).mono ?_
    rintro e w1 ⟨rfl, hb1⟩
    rw [E0.out]
    have hb2 := below_via (below_al (below_self w) _) hb1
    have hn := (PfAt.new w x y).step hb1
    obtain ⟨n0, n1, n2⟩ := hn
    have hs1 := (hs.alloc _).step hb1
    clear hb1 hs
    go_wp2_with fail
    refine (search q cap l (x, y) w1 o1 hs1 HT).mono ?_
    rintro e w2 ⟨i, hi, hA, rfl, hb3⟩
    rw [hh]
    have hb4 := below_via hb2 hb3
    clear hb3 hb2 hA hs1
    go_wp2
    go_ret2
    exact ⟨none, 0, rfl, SpAt.nil _ _, hb4⟩
  by_cases hf : l.length = 60
  · have F' : Bur.putF l (x, y) = 3 := by rw [F, hh]; simp [hf]
    rw [show Bur.putS l (x, y) = [] from if_neg (by rw [F']; decide), F']
    have hfi : ((l.length : Int) == 60) = true := by simp; omega
    clear h t1 t2 o2 F F' hf
    go_enter Tryd.func9, Tryd.ntmps9
    go_wp2_with fail
    refine (checkBoth q cap l (x, y) _ hl (hs.alloc _)).mono ?_
    rintro e w1 ⟨rfl, hb1⟩
    rw [E0.out]
    have hb2 := below_via (below_al (below_self w) _) hb1
    have hn := (PfAt.new w x y).step hb1
    obtain ⟨n0, n1, n2⟩ := hn
    have hs1 := (hs.alloc _).step hb1
    clear hb1 hs
    go_wp2_with fail
    refine (search q cap l (x, y) w1 o1 hs1 HT).mono ?_
    rintro e w2 ⟨i, hi, hA, rfl, hb3⟩
    rw [hh]
    have hb4 := below_via hb2 hb3
    clear hb3 hb2 hA hs1
    go_wp2
    go_ret2
    exact ⟨none, 0, rfl, SpAt.nil _ _, hb4⟩
  · have F' : Bur.putF l (x, y) = 0 := by rw [F, hh]; simp; omega
    have hno : (x, y) ∉ l := fun k => by rw [(Bur.hasP_iff (x, y) l).2 k] at hh; cases hh
    have PS : Hid (∀ i, i ≤ l.length → Bur.AtP l (x, y) i i → l.take i ++ (x, y) :: l.drop i = Bur.putS l (x, y)) := fun i hi hA => by
      rw [show Bur.putS l (x, y) = Bur.insT (x, y) l from if_pos F', hA.ins hi hno]
    have PL : Hid ((Bur.putS l (x, y)).length = l.length + 1) := by
      show _ = _
      rw [show Bur.putS l (x, y) = Bur.insT (x, y) l from if_pos F', Bur.insT_len]
    rw [F', ev_0, PL.out]
    have hfi : ((l.length : Int) == 60) = false := by simp; omega
    clear h t1 t2 o2 F F' hf hno
    go_enter Tryd.func9, Tryd.ntmps9
    go_wp2_with fail
    refine (checkBoth q cap l (x, y) _ hl (hs.alloc _)).mono ?_
    rintro e w1 ⟨rfl, hb1⟩
    rw [E0.out]
    have hb2 := below_via (below_al (below_self w) _) hb1
    have hn := (PfAt.new w x y).step hb1
    obtain ⟨n0, n1, n2⟩ := hn
    have hs1 := (hs.alloc _).step hb1
    clear hb1 hs
    go_wp2_with fail
    refine (search q cap l (x, y) w1 o1 hs1 HT).mono ?_
    rintro e w2 ⟨i, hi, hA, rfl, hb3⟩
    rw [hh]
    have PS' : Hid (l.take i ++ (x, y) :: l.drop i = Bur.putS l (x, y)) := PS.out i hi hA.out
    have hb4 := below_via hb2 hb3
    have m1 := (hb3.cell (p := ⟨w.heap.size, 0, none⟩) n0).trans n1
    have m2 := (hb3.cell (p := ⟨w.heap.size, 1, none⟩) n0).trans n2
    have hs2 := hs1.step hb3
    have m0 : w.heap.size < w2.heap.size := Nat.lt_of_lt_of_le n0 hb3.size
    clear hb3 hb2 hA hs1 PS n1 n2 n0
    obtain ⟨V, hV⟩ : ∃ V, V = w2 := ⟨_, rfl⟩
    subst hV
    go_wp2_with fail
    have hsd : SpAt V.drew q l := hs2.step (below_self _).drew
    have mA : (V.alloc (.cells #[.int .i64 x, .int .i64 y] 24)).drew.cell? ⟨w.heap.size, 0, none⟩ = some (.int .i64 x) := (World.cell?_alloc_lt V (.cells #[.int .i64 x, .int .i64 y] 24) ⟨w.heap.size, 0, none⟩ m0).trans m1
    have mB : (V.alloc (.cells #[.int .i64 x, .int .i64 y] 24)).drew.cell? ⟨w.heap.size, 1, none⟩ = some (.int .i64 y) := (World.cell?_alloc_lt V (.cells #[.int .i64 x, .int .i64 y] 24) ⟨w.heap.size, 1, none⟩ m0).trans m2
    have hzA : (V.alloc (.cells #[.int .i64 x, .int .i64 y] 24)).drew.heap.size = V.heap.size + 1 := by simp
    have mC : w.heap.size < (V.alloc (.cells #[.int .i64 x, .int .i64 y] 24)).drew.heap.size := by rw [hzA]; omega
    have hbA : Below V.heap.size V (V.alloc (.cells #[.int .i64 x, .int .i64 y] 24)).drew := (below_al (below_self V) _).drew
    have hsA : SpAt (V.alloc (.cells #[.int .i64 x, .int .i64 y] 24)).drew q l := hs2.step hbA
    have hvA : (V.alloc (.cells #[.int .i64 x, .int .i64 y] 24)).drew.heap[V.heap.size]? = some (.cells #[.int .i64 x, .int .i64 y] 24 (0, 0)) := alloc_at V _
    go_region_held3 (fun wy => wy.cell? ⟨w.heap.size, 0, none⟩ = some (.int .i64 x) ∧ wy.cell? ⟨w.heap.size, 1, none⟩ = some (.int .i64 y)) (first | exact ⟨m1, m2⟩ | exact ⟨mA, mB⟩ | exact ⟨k1, k2⟩ | exact ⟨j1, j2⟩ | exact ⟨r1, r2⟩)
      (first
        | (go_at_call 30; refine (clone q cap l V.drew o1 hsd).mono ?_; rintro e w3 ⟨v', rfl, ho, hb5⟩; have k1 := (hb5.cell (p := ⟨w.heap.size, 0, none⟩) m0).trans m1; have k2 := (hb5.cell (p := ⟨w.heap.size, 1, none⟩) m0).trans m2; have hb6 : Below V.heap.size V w3 := below_via (below_self V).drew hb5; have ho' : w3.ownsRow V.heap.size 24 2 v' l.length (spV l) := ho; have km : w.heap.size < w3.heap.size := Nat.lt_of_lt_of_le m0 hb6.size; have j1 := (World.cell?_alloc_lt w3 (.cells #[.int .i64 x, .int .i64 y] 24) ⟨w.heap.size, 0, none⟩ km).trans k1; have j2 := (World.cell?_alloc_lt w3 (.cells #[.int .i64 x, .int .i64 y] 24) ⟨w.heap.size, 1, none⟩ km).trans k2)
        | (go_at_call 30; refine (clone q cap l (V.alloc (.cells #[.int .i64 x, .int .i64 y] 24)).drew o1 hsA).mono ?_; rintro e w3 ⟨v', rfl, ho, hb5⟩; have k1 := (hb5.cell (p := ⟨w.heap.size, 0, none⟩) mC).trans mA; have k2 := (hb5.cell (p := ⟨w.heap.size, 1, none⟩) mC).trans mB; have hb6 : Below V.heap.size V w3 := below_via hbA hb5; have hvI : w3.heap[V.heap.size]? = some (.cells #[.int .i64 x, .int .i64 y] 24 (0, 0)) := (hb5.block V.heap.size (by rw [hzA]; omega)).trans hvA; have hoI : w3.ownsRow V.heap.size 24 2 v' l.length (spV l) := own_le ho (by rw [hzA]; omega); have hnI : v'.ownBlock ≠ some V.heap.size := fun h => by (have := (ho.lt _ h).1; rw [hzA] at this; omega))
        | (go_at_call 29; refine (insert V.heap.size V.heap.size i V w3 v' l x y o1 hi hoI hvI hnI hb6 hb6.size).mono ?_; rintro e w4 ⟨p4, c4, rfl, s4, hb7⟩; have r1 := (hb7.cell (p := ⟨w.heap.size, 0, none⟩) m0).trans m1; have r2 := (hb7.cell (p := ⟨w.heap.size, 1, none⟩) m0).trans m2)
        | (go_at_call 29; refine (insert V.heap.size w3.heap.size i V (w3.alloc (.cells #[.int .i64 x, .int .i64 y] 24)) v' l x y o1 hi (ho'.alloc _) (alloc_at _ _) (fun h => Nat.lt_irrefl _ (ho'.lt _ h).2) (below_al hb6 _) (Nat.le_trans hb6.size (by simp))).mono ?_; rintro e w4 ⟨p4, c4, rfl, s4, hb7⟩; have r1 := (hb7.cell (p := ⟨w.heap.size, 0, none⟩) m0).trans m1; have r2 := (hb7.cell (p := ⟨w.heap.size, 1, none⟩) m0).trans m2))
    all_goals
      go_wp2
      rw [PS'.out] at s4
      go_ret2
      exact ⟨p4, c4, rfl, s4, hb4.trans (hb7.mono (Nat.le_of_lt m0))⟩
end Go.Proofs.YtncimpicnhleeaaDoor
