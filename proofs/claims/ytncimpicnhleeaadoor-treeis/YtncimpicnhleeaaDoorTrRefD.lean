/- The contracts of the reference's PutIn, and of DropFrom in one form. -/
import Derived.Test.YtncimpicnhleeaaDoorTrRefC
namespace Go.Proofs.YtncimpicnhleeaaDoor
open Go.RowKit

theorem two_cells (w : World) (x y : Int) : ∀ (j : Nat) (u : Value), ([Value.int .i64 x, Value.int .i64 y] : List Value)[j]? = some u → (w.alloc (.cells #[.int .i64 x, .int .i64 y] 24)).cell? (Addr.add ⟨w.heap.size, 0, none⟩ j) = some u := by
  intro j u hj
  match j, hj with
  | 0, hj => simp at hj; subst hj; simp [Addr.add]
  | 1, hj => simp at hj; subst hj; simp [Addr.add]
theorem two_one (x y : Int) : ∀ u ∈ ([Value.int .i64 x, Value.int .i64 y] : List Value), u.oneCell' = true := by
  intro u hu
  simp at hu
  rcases hu with rfl | rfl <;> rfl

set_option maxHeartbeats 1000000 in
theorem dropFrom_no (q : Option Addr) (cap : Nat) (l : List Bur.Sp) (p : Bur.Sp) (w : World) (hl : l.length ≤ 9223372036854775807) (hs : SpAt w q l) (h : Bur.tpF l p ≠ 0) :
    Calls Tryd.prog 11 #[.slice q l.length cap, pfx p.1 p.2] w fun e w' => ∃ (p' : Option Addr) (cap' : Nat), e = .returned (.tuple #[.slice p' (Bur.drpS l p).length cap', .int .i64 (Bur.drpF l p)]) ∧ SpAt w' p' (Bur.drpS l p) ∧ Below w.heap.size w w' := by
  obtain ⟨x, y⟩ := p
  have F : Bur.drpF l (x, y) = Bur.tpF l (x, y) := if_neg h
  rw [show Bur.drpS l (x, y) = [] from if_neg (by rw [F]; exact h), F]
  have pb : PfAt (w.alloc (.cells #[.int .i64 x, .int .i64 y] 24)) w.heap.size (x, y) := PfAt.new w x y
  have hb0 : Below w.heap.size w (w.alloc (.cells #[.int .i64 x, .int .i64 y] 24)) := below_al (below_self _) _
  by_cases ht : Bur.treF l = 0
  · have e : Bur.tpF l (x, y) = Bur.fault x y := if_pos ht
    rw [e] at h ⊢
    have T1 : Hid (Bur.treF l = 0) := ht
    have hne : (Bur.fault x y != 0) = true := by simpa using h
    obtain ⟨E, hE⟩ : ∃ E, Bur.fault x y = E := ⟨_, rfl⟩
    rw [hE] at hne ⊢
    have HE : Hid _ := hE
    clear h F e ht hE
    go_enter Tryd.func11, Tryd.ntmps11
    go_wp2_with fail
    refine (treeFault q cap l _ hl (hs.step hb0)).mono ?_
    rintro e w1 ⟨rfl, hb1⟩
    rw [T1.out]
    obtain ⟨p0, p1, p2⟩ := pb.step hb1
    have hb2 := below_via hb0 hb1
    clear hb0 hb1 pb
    go_wp2_with fail
    refine (refFault x y w1).mono ?_
    rintro e w2 ⟨rfl, hb3⟩
    rw [HE.out]
    have hb4 := below_via hb2 hb3
    clear hb2 hb3 p0 p1 p2
    go_wp2_with fail
    go_ret2
    exact ⟨none, 0, rfl, SpAt.nil _ _, hb4⟩
  · have e : Bur.tpF l (x, y) = Bur.treF l := if_neg ht
    rw [e]
    have h1 : (Bur.treF l == 0) = false := by simpa using ht
    have h2 : (Bur.treF l != 0) = true := by simpa using ht
    obtain ⟨E, hE⟩ : ∃ E, Bur.treF l = E := ⟨_, rfl⟩
    rw [hE] at h1 h2 ⊢
    have HE : Hid _ := hE
    clear h F e ht hE
    go_enter Tryd.func11, Tryd.ntmps11
    go_wp2_with fail
    refine (treeFault q cap l _ hl (hs.step hb0)).mono ?_
    rintro e w1 ⟨rfl, hb1⟩
    rw [HE.out]
    have hb2 := below_via hb0 hb1
    clear hb0 hb1 pb
    go_wp2_with fail
    go_ret2
    exact ⟨none, 0, rfl, SpAt.nil _ _, hb2⟩
theorem dropFrom_any (q : Option Addr) (cap : Nat) (l : List Bur.Sp) (p : Bur.Sp) (w : World) (hl : l.length ≤ 9223372036854775807) (hs : SpAt w q l) :
    Calls Tryd.prog 11 #[.slice q l.length cap, pfx p.1 p.2] w fun e w' => ∃ (p' : Option Addr) (cap' : Nat), e = .returned (.tuple #[.slice p' (Bur.drpS l p).length cap', .int .i64 (Bur.drpF l p)]) ∧ SpAt w' p' (Bur.drpS l p) ∧ Below w.heap.size w w' := by
  by_cases h : Bur.tpF l p = 0
  · exact dropFrom_ok q cap l p w hl hs h
  · exact dropFrom_no q cap l p w hl hs h

set_option maxRecDepth 100000 in
set_option maxHeartbeats 8000000 in
theorem putIn_ok (q : Option Addr) (cap : Nat) (l : List Bur.Sp) (p : Bur.Sp) (w : World) (hl : l.length ≤ 9223372036854775807) (hs : SpAt w q l) (h : Bur.tpF l p = 0) :
    Calls Tryd.prog 8 #[.slice q l.length cap, pfx p.1 p.2] w fun e w' => ∃ (p' : Option Addr) (cap' : Nat), e = .returned (.tuple #[.slice p' (Bur.putS l p).length cap', .int .i64 (Bur.putF l p)]) ∧ SpAt w' p' (Bur.putS l p) ∧ Below w.heap.size w w' := by
  obtain ⟨x, y⟩ := p
  obtain ⟨i0, hi0, hz0, hz1, hz2⟩ := info_parts info_pfx
  obtain ⟨t1, t2⟩ := Bur.tpF_ok h
  have ll6 := (Bur.treF_ok t1).1
  have F : Bur.putF l (x, y) = if Bur.hasP (x, y) l = true then 6 else if 60 < l.length + 1 then 3 else 0 := if_pos h
  have T1 : Hid (Bur.treF l = 0) := t1
  have T2 : Hid (Bur.fault x y = 0) := t2
  have CLA : Hid (Bur.hasP (x, y) l = true → Bur.putS l (x, y) = [] ∧ Bur.putF l (x, y) = 6) := fun hh => by
    have F' : Bur.putF l (x, y) = 6 := by rw [F, hh]; rfl
    exact ⟨if_neg (by rw [F']; decide), F'⟩
  have FUL : Hid (Bur.hasP (x, y) l = false → 60 < l.length + 1 → Bur.putS l (x, y) = [] ∧ Bur.putF l (x, y) = 3) := fun hh h6 => by
    have F' : Bur.putF l (x, y) = 3 := by rw [F, hh, if_neg (by simp), if_pos h6]
    exact ⟨if_neg (by rw [F']; decide), F'⟩
  have FIN : Hid (Bur.hasP (x, y) l = false → ¬ 60 < l.length + 1 → Bur.putS l (x, y) = Bur.insT (x, y) l ∧ Bur.putF l (x, y) = 0) := fun hh h6 => by
    have F' : Bur.putF l (x, y) = 0 := by rw [F, hh, if_neg (by simp), if_neg h6]
    exact ⟨if_pos F', F'⟩
  clear h t1 t2 F
  have pb : PfAt (w.alloc (.cells #[.int .i64 x, .int .i64 y] 24)) w.heap.size (x, y) := PfAt.new w x y
  have hb0 : Below w.heap.size w (w.alloc (.cells #[.int .i64 x, .int .i64 y] 24)) := below_al (below_self _) _
  go_enter Tryd.func8, Tryd.ntmps8
  go_wp2_with fail
  refine (treeFault q cap l _ hl (hs.step hb0)).mono ?_
  rintro e w1 ⟨rfl, hb1⟩
  rw [T1.out]
  have pb1 := pb.step hb1
  obtain ⟨p0, p1, p2⟩ := pb1
  have hb2 := below_via hb0 hb1
  clear hb0 hb1 pb
  go_wp2_with fail
  refine (refFault x y w1).mono ?_
  rintro e w2 ⟨rfl, hb3⟩
  rw [T2.out]
  have pb2 : PfAt w2 w.heap.size (x, y) := PfAt.step ⟨p0, p1, p2⟩ hb3
  have hb4 := below_via hb2 hb3
  have hs2 : SpAt w2 q l := hs.step hb4
  clear hb2 hb3 p0 p1 p2 hs
  go_wp2_with fail
  go_loopw [7, 8, 9] (fun v dv i wr => ∃ (k : Nat) (dn : Bool) (acc : List Bur.Sp), k ≤ l.length ∧ i = .int .i64 k ∧ dv = .bool dn ∧ acc.length ≤ k + dn.toNat ∧ Hid (Bur.insT (x, y) l = acc ++ Bur.rst dn (x, y) (l.drop k)) ∧ Hid (Bur.hasP (x, y) l = Bur.hasP (x, y) (l.drop k)) ∧ wr.ownsRow w2.heap.size 24 2 v acc.length (spV acc) ∧ Below w2.heap.size w2 wr) (fun _ _ i _ => l.length - (intOf i).toNat)
  case atStart => exact ⟨0, false, [], by omega, rfl, rfl, by simp, rfl, rfl, World.ownsRow_nil _ _ _ _, below_self _⟩
  case round =>
    obtain ⟨k, dn, acc, hk, rfl, rfl, hrl, R, Q, hown, hb⟩ := hrel
    have hsz := hb.size
    by_cases hlt : k < l.length
    · have hlt' : (k : Int) < (l.length : Int) := by omega
      obtain ⟨b, off, rfl, hbl, hc⟩ := hs2 (by omega)
      have c0 : wr.cell? ⟨b, off + k * 2, none⟩ = some (.int .i64 (lo l k)) := (hb.cell (p := ⟨b, off + k * 2, none⟩) hbl).trans (hc k hlt).1
      have c1 : wr.cell? ⟨b, off + k * 2 + 1, none⟩ = some (.int .i64 (hi l k)) := (hb.cell (p := ⟨b, off + k * 2 + 1, none⟩) hbl).trans (hc k hlt).2
      have hd0 := drop_sp hlt
      obtain ⟨e0, e1⟩ := hc k hlt
      obtain ⟨u, hu⟩ : ∃ u, lo l k = u := ⟨_, rfl⟩
      obtain ⟨v2, hv⟩ : ∃ v, hi l k = v := ⟨_, rfl⟩
      rw [hu] at c0 hd0 e0
      rw [hv] at c1 hd0 e1
      have R1 := R.out
      have Q1 := Q.out
      rw [hd0] at R1 Q1
      have Q2 : Bur.hasP (x, y) l = (Bur.sm (u, v2) (x, y) || Bur.hasP (x, y) (l.drop (k + 1))) := Q1
      obtain ⟨p0, p1, p2⟩ := pb2.step hb
      have hbl2 : b < wr.heap.size := by omega
      have hO := refSame (u, v2) (x, y)
      have hP := refAhead (x, y) (u, v2)
      clear hc hs2 hd0 hu hv R Q Q1 pb2 FIN FUL
      cases hp : Bur.sm (u, v2) (x, y)
      rotate_left
      · have CL := CLA.out (by rw [Q2, hp]; rfl)
        have C1 : Hid _ := CL.1
        have C2 : Hid _ := CL.2
        rw [hp] at hO
        clear R1 hp CL CLA Q2 hP
        go_upto_region 11 with fail
        go_region_held3 (fun wy => wy.cell? ⟨b, off + k * 2, none⟩ = some (.int .i64 u) ∧ wy.cell? ⟨b, off + k * 2 + 1, none⟩ = some (.int .i64 v2) ∧ wy.cell? ⟨w.heap.size, 0, none⟩ = some (.int .i64 x) ∧ wy.cell? ⟨w.heap.size, 1, none⟩ = some (.int .i64 y)) (first | exact ⟨c0, c1, p1, p2⟩ | exact ⟨d0, d1, d2, d3⟩)
          (first | (go_at_call 26; refine (hO _).mono ?_; rintro e w3 ⟨rfl, hb5⟩; have d0 := (hb5.cell (p := ⟨b, off + k * 2, none⟩) hbl2).trans c0; have d1 := (hb5.cell (p := ⟨b, off + k * 2 + 1, none⟩) hbl2).trans c1; have d2 := (hb5.cell (p := ⟨w.heap.size, 0, none⟩) p0).trans p1; have d3 := (hb5.cell (p := ⟨w.heap.size, 1, none⟩) p0).trans p2))
        have hb6 := below_via hb.drew hb5
        have hown2 := own_below (own_below hown (below_self _).drew) hb5
        have hsz2 := hb6.size
        have r0 : w.heap.size < w3.heap.size := Nat.lt_of_lt_of_le p0 hb5.size
        have hbl3 : b < w3.heap.size := Nat.lt_of_lt_of_le hbl2 hb5.size
        clear hb5 c0 c1 p1 p2 hown hb
        have hb9 := below_via hb4 hb6
        clear hb6 hown2
        go_wp2_with fail
        go_ret2
        exact ⟨none, 0, by rw [C1.out, C2.out]; rfl, by rw [C1.out]; exact SpAt.nil _ _, hb9⟩
      · have Q3 : Hid (Bur.hasP (x, y) l = Bur.hasP (x, y) (l.drop (k + 1))) := by show _ = _; rw [Q2, hp]; rfl
        rw [hp] at hO
        clear hp CLA Q2
        cases dn
        · replace hrl : acc.length ≤ k := hrl
          cases ha : Bur.ahd (x, y) (u, v2)
          · have R2 : Hid (Bur.insT (x, y) l = (acc ++ [(u, v2)]) ++ Bur.rst false (x, y) (l.drop (k + 1))) := by
              show _ = _
              rw [R1]
              simp only [Bur.rst, Bool.false_eq_true, if_false]
              rw [Bur.insT, if_neg (by rw [ha]; simp)]
              simp
            rw [ha] at hP
            clear R1 ha
            go_upto_region 11 with fail
            go_region_held3 (fun wy => wy.cell? ⟨b, off + k * 2, none⟩ = some (.int .i64 u) ∧ wy.cell? ⟨b, off + k * 2 + 1, none⟩ = some (.int .i64 v2) ∧ wy.cell? ⟨w.heap.size, 0, none⟩ = some (.int .i64 x) ∧ wy.cell? ⟨w.heap.size, 1, none⟩ = some (.int .i64 y)) (first | exact ⟨c0, c1, p1, p2⟩ | exact ⟨d0, d1, d2, d3⟩)
              (first | (go_at_call 26; refine (hO _).mono ?_; rintro e w3 ⟨rfl, hb5⟩; have d0 := (hb5.cell (p := ⟨b, off + k * 2, none⟩) hbl2).trans c0; have d1 := (hb5.cell (p := ⟨b, off + k * 2 + 1, none⟩) hbl2).trans c1; have d2 := (hb5.cell (p := ⟨w.heap.size, 0, none⟩) p0).trans p1; have d3 := (hb5.cell (p := ⟨w.heap.size, 1, none⟩) p0).trans p2))
            have hb6 := below_via hb.drew hb5
            have hown2 := own_below (own_below hown (below_self _).drew) hb5
            have hsz2 := hb6.size
            have r0 : w.heap.size < w3.heap.size := Nat.lt_of_lt_of_le p0 hb5.size
            have hbl3 : b < w3.heap.size := Nat.lt_of_lt_of_le hbl2 hb5.size
            clear hb5 c0 c1 p1 p2 hown hb
            go_upto_region 13 with fail
            go_region_held3 (fun wy => wy.cell? ⟨b, off + k * 2, none⟩ = some (.int .i64 u) ∧ wy.cell? ⟨b, off + k * 2 + 1, none⟩ = some (.int .i64 v2) ∧ wy.cell? ⟨w.heap.size, 0, none⟩ = some (.int .i64 x) ∧ wy.cell? ⟨w.heap.size, 1, none⟩ = some (.int .i64 y)) (first | exact ⟨d0, d1, d2, d3⟩ | exact ⟨f0, f1, f2, f3⟩)
              (first | (go_at_call 22; refine (hP _).mono ?_; rintro e w4 ⟨rfl, hb7⟩; have f0 := (hb7.cell (p := ⟨b, off + k * 2, none⟩) hbl3).trans d0; have f1 := (hb7.cell (p := ⟨b, off + k * 2 + 1, none⟩) hbl3).trans d1; have f2 := (hb7.cell (p := ⟨w.heap.size, 0, none⟩) r0).trans d2; have f3 := (hb7.cell (p := ⟨w.heap.size, 1, none⟩) r0).trans d3))
            have hb8 := below_via hb6.drew hb7
            have hown3 := own_below (own_below hown2 (below_self _).drew) hb7
            have hsz3 := hb8.size
            have s0 : w.heap.size < w4.heap.size := Nat.lt_of_lt_of_le r0 hb7.size
            have hbl4 : b < w4.heap.size := Nat.lt_of_lt_of_le hbl3 hb7.size
            clear hb7 d0 d1 d2 d3 hown2 hb6
            go_wp2_with (at_builtin; refine wpList_append_own _ rfl _ _ 22 rfl w2.heap.size 24 i0 (.agg #[.int .i64 0, .int .i64 0]) 2 16 Tryd.underlying22 hi0 hz0 hz1 hz2 rfl (by decide) _ _ _ rfl (hown3.alloc _) ⟨w4.heap.size, 0, none⟩ 1 1 [.int .i64 u, .int .i64 v2] rfl rfl ?c1 ?c2 ?c3 ?c4 ?c5 ?_)
            case c1 =>
              intro j u hj
              match j, hj with
              | 0, hj => simp at hj; subst hj; simp [Addr.add]
              | 1, hj => simp at hj; subst hj; simp [Addr.add]
            case c2 => intro u hu; simp at hu; rcases hu with rfl | rfl <;> rfl
            case c3 => unfold maxLen; omega
            case c4 => omega
            case c5 => simp; omega
            intro v' w5 hown5 hgrow _
            have hb9 : Below w2.heap.size w2 w5 := (below_al hb8 _).grown hgrow (by simp; omega) (fun j hj => (hown3.lt j hj).1)
            clear hown3 hgrow hb8
            go_wp2
            exact ⟨⟨k + 1, false, acc ++ [(u, v2)], by omega, by go_num, rfl, by simp only [List.length_append, List.length_cons, List.length_nil]; exact Nat.succ_le_succ hrl, R2, Q3, by simpa [spV_app, spV] using hown5, hb9⟩, by simp [intOf]; omega⟩
          · have R2 : Hid (Bur.insT (x, y) l = (acc ++ [(x, y), (u, v2)]) ++ Bur.rst true (x, y) (l.drop (k + 1))) := by
              show _ = _
              rw [R1]
              simp only [Bur.rst, Bool.false_eq_true, if_false, if_true]
              rw [Bur.insT, if_pos ha]
              simp
            rw [ha] at hP
            clear R1 ha
            go_upto_region 11 with fail
            go_region_held3 (fun wy => wy.cell? ⟨b, off + k * 2, none⟩ = some (.int .i64 u) ∧ wy.cell? ⟨b, off + k * 2 + 1, none⟩ = some (.int .i64 v2) ∧ wy.cell? ⟨w.heap.size, 0, none⟩ = some (.int .i64 x) ∧ wy.cell? ⟨w.heap.size, 1, none⟩ = some (.int .i64 y)) (first | exact ⟨c0, c1, p1, p2⟩ | exact ⟨d0, d1, d2, d3⟩)
              (first | (go_at_call 26; refine (hO _).mono ?_; rintro e w3 ⟨rfl, hb5⟩; have d0 := (hb5.cell (p := ⟨b, off + k * 2, none⟩) hbl2).trans c0; have d1 := (hb5.cell (p := ⟨b, off + k * 2 + 1, none⟩) hbl2).trans c1; have d2 := (hb5.cell (p := ⟨w.heap.size, 0, none⟩) p0).trans p1; have d3 := (hb5.cell (p := ⟨w.heap.size, 1, none⟩) p0).trans p2))
            have hb6 := below_via hb.drew hb5
            have hown2 := own_below (own_below hown (below_self _).drew) hb5
            have hsz2 := hb6.size
            have r0 : w.heap.size < w3.heap.size := Nat.lt_of_lt_of_le p0 hb5.size
            have hbl3 : b < w3.heap.size := Nat.lt_of_lt_of_le hbl2 hb5.size
            clear hb5 c0 c1 p1 p2 hown hb
            go_upto_region 13 with fail
            go_region_held3 (fun wy => wy.cell? ⟨b, off + k * 2, none⟩ = some (.int .i64 u) ∧ wy.cell? ⟨b, off + k * 2 + 1, none⟩ = some (.int .i64 v2) ∧ wy.cell? ⟨w.heap.size, 0, none⟩ = some (.int .i64 x) ∧ wy.cell? ⟨w.heap.size, 1, none⟩ = some (.int .i64 y)) (first | exact ⟨d0, d1, d2, d3⟩ | exact ⟨f0, f1, f2, f3⟩)
              (first | (go_at_call 22; refine (hP _).mono ?_; rintro e w4 ⟨rfl, hb7⟩; have f0 := (hb7.cell (p := ⟨b, off + k * 2, none⟩) hbl3).trans d0; have f1 := (hb7.cell (p := ⟨b, off + k * 2 + 1, none⟩) hbl3).trans d1; have f2 := (hb7.cell (p := ⟨w.heap.size, 0, none⟩) r0).trans d2; have f3 := (hb7.cell (p := ⟨w.heap.size, 1, none⟩) r0).trans d3))
            have hb8 := below_via hb6.drew hb7
            have hown3 := own_below (own_below hown2 (below_self _).drew) hb7
            have hsz3 := hb8.size
            have s0 : w.heap.size < w4.heap.size := Nat.lt_of_lt_of_le r0 hb7.size
            have hbl4 : b < w4.heap.size := Nat.lt_of_lt_of_le hbl3 hb7.size
            clear hb7 d0 d1 d2 d3 hown2 hb6
            go_wp2_with (at_builtin; refine wpList_append_own _ rfl _ _ 22 rfl w2.heap.size 24 i0 (.agg #[.int .i64 0, .int .i64 0]) 2 16 Tryd.underlying22 hi0 hz0 hz1 hz2 rfl (by decide) _ _ _ rfl (hown3.alloc _) ⟨w4.heap.size, 0, none⟩ 1 1 [.int .i64 x, .int .i64 y] rfl rfl ?c1 ?c2 ?c3 ?c4 ?c5 ?_)
            case c1 =>
              intro j u hj
              match j, hj with
              | 0, hj => simp at hj; subst hj; simp [Addr.add]
              | 1, hj => simp at hj; subst hj; simp [Addr.add]
            case c2 => intro u hu; simp at hu; rcases hu with rfl | rfl <;> rfl
            case c3 => unfold maxLen; omega
            case c4 => omega
            case c5 => simp; omega
            intro v' w5 hown5 hgrow _
            have hb9 : Below w2.heap.size w2 w5 := (below_al hb8 _).grown hgrow (by simp; omega) (fun j hj => (hown3.lt j hj).1)
            have g0 : w5.cell? ⟨b, off + k * 2, none⟩ = some (.int .i64 u) := (hb9.cell (p := ⟨b, off + k * 2, none⟩) hbl).trans e0
            have g1 : w5.cell? ⟨b, off + k * 2 + 1, none⟩ = some (.int .i64 v2) := (hb9.cell (p := ⟨b, off + k * 2 + 1, none⟩) hbl).trans e1
            have hsz5 := hb9.size
            clear hown3 hgrow hb8 f0 f1 f2 f3
            go_wp2_with (at_builtin; refine wpList_append_own _ rfl _ _ 22 rfl w2.heap.size 24 i0 (.agg #[.int .i64 0, .int .i64 0]) 2 16 Tryd.underlying22 hi0 hz0 hz1 hz2 rfl (by decide) _ _ _ rfl (hown5.alloc _) ⟨w5.heap.size, 0, none⟩ 1 1 [.int .i64 u, .int .i64 v2] rfl rfl ?c1 ?c2 ?c3 ?c4 ?c5 ?_)
            case c1 =>
              intro j u hj
              match j, hj with
              | 0, hj => simp at hj; subst hj; simp [Addr.add]
              | 1, hj => simp at hj; subst hj; simp [Addr.add]
            case c2 => intro u hu; simp at hu; rcases hu with rfl | rfl <;> rfl
            case c3 => unfold maxLen; omega
            case c4 => omega
            case c5 => simp; omega
            intro v6 w6 hown6 hgrow _
            have hb10 : Below w2.heap.size w2 w6 := (below_al hb9 _).grown hgrow (by simp; omega) (fun j hj => (hown5.lt j hj).1)
            clear hown5 hgrow hb9
            go_wp2
            exact ⟨⟨k + 1, true, acc ++ [(x, y), (u, v2)], by omega, by go_num, rfl, by simp only [List.length_append, List.length_cons, List.length_nil]; exact Nat.succ_le_succ (Nat.succ_le_succ hrl), R2, Q3, by simpa [spV_app, spV] using hown6, hb10⟩, by simp [intOf]; omega⟩
        · replace hrl : acc.length ≤ k + 1 := hrl
          have R2 : Hid (Bur.insT (x, y) l = (acc ++ [(u, v2)]) ++ Bur.rst true (x, y) (l.drop (k + 1))) := by
            show _ = _
            rw [R1]
            simp [Bur.rst]
          clear R1 hP
          go_upto_region 11 with fail
          go_region_held3 (fun wy => wy.cell? ⟨b, off + k * 2, none⟩ = some (.int .i64 u) ∧ wy.cell? ⟨b, off + k * 2 + 1, none⟩ = some (.int .i64 v2) ∧ wy.cell? ⟨w.heap.size, 0, none⟩ = some (.int .i64 x) ∧ wy.cell? ⟨w.heap.size, 1, none⟩ = some (.int .i64 y)) (first | exact ⟨c0, c1, p1, p2⟩ | exact ⟨d0, d1, d2, d3⟩)
            (first | (go_at_call 26; refine (hO _).mono ?_; rintro e w3 ⟨rfl, hb5⟩; have d0 := (hb5.cell (p := ⟨b, off + k * 2, none⟩) hbl2).trans c0; have d1 := (hb5.cell (p := ⟨b, off + k * 2 + 1, none⟩) hbl2).trans c1; have d2 := (hb5.cell (p := ⟨w.heap.size, 0, none⟩) p0).trans p1; have d3 := (hb5.cell (p := ⟨w.heap.size, 1, none⟩) p0).trans p2))
          have hb6 := below_via hb.drew hb5
          have hown2 := own_below (own_below hown (below_self _).drew) hb5
          have hsz2 := hb6.size
          have r0 : w.heap.size < w3.heap.size := Nat.lt_of_lt_of_le p0 hb5.size
          have hbl3 : b < w3.heap.size := Nat.lt_of_lt_of_le hbl2 hb5.size
          clear hb5 c0 c1 p1 p2 hown hb
          go_upto_region 13 with fail
          go_quiet (fail)
          have hb8 := below_drewN hb6 nq
          have hown3 := own_below hown2 (below_drewN (below_self _) nq)
          have f0 : (w3.drewN nq).cell? ⟨b, off + k * 2, none⟩ = some (.int .i64 u) := d0
          have f1 : (w3.drewN nq).cell? ⟨b, off + k * 2 + 1, none⟩ = some (.int .i64 v2) := d1
          generalize w3.drewN nq = w4 at hb8 hown3 f0 f1 ⊢
          have hsz3 := hb8.size
          clear hown2 hb6 d0 d1 d2 d3
          go_wp2_with (at_builtin; refine wpList_append_own _ rfl _ _ 22 rfl w2.heap.size 24 i0 (.agg #[.int .i64 0, .int .i64 0]) 2 16 Tryd.underlying22 hi0 hz0 hz1 hz2 rfl (by decide) _ _ _ rfl (hown3.alloc _) ⟨w4.heap.size, 0, none⟩ 1 1 [.int .i64 u, .int .i64 v2] rfl rfl ?c1 ?c2 ?c3 ?c4 ?c5 ?_)
          case c1 =>
            intro j u hj
            match j, hj with
            | 0, hj => simp at hj; subst hj; simp [Addr.add]
            | 1, hj => simp at hj; subst hj; simp [Addr.add]
          case c2 => intro u hu; simp at hu; rcases hu with rfl | rfl <;> rfl
          case c3 => unfold maxLen; omega
          case c4 => omega
          case c5 => simp; omega
          intro v' w5 hown5 hgrow _
          have hb9 : Below w2.heap.size w2 w5 := (below_al hb8 _).grown hgrow (by simp; omega) (fun j hj => (hown3.lt j hj).1)
          clear hown3 hgrow hb8
          go_wp2
          exact ⟨⟨k + 1, true, acc ++ [(u, v2)], by omega, by go_num, rfl, by simp only [List.length_append, List.length_cons, List.length_nil]; exact Nat.succ_le_succ hrl, R2, Q3, by simpa [spV_app, spV] using hown5, hb9⟩, by simp [intOf]; omega⟩
    · have hd0 : l.drop k = [] := List.drop_eq_nil_of_le (by omega)
      have Q1 : Bur.hasP (x, y) l = false := by rw [Q.out, hd0]; rfl
      have R1 := R.out
      rw [hd0] at R1
      have hL : (Bur.insT (x, y) l).length = l.length + 1 := Bur.insT_len _ _
      have FU := FUL.out Q1
      have FI := FIN.out Q1
      have hb9 := below_via hb4 hb
      obtain ⟨p0, p1, p2⟩ := pb2.step hb
      clear hs2 pb2 hd0 CLA FUL FIN Q Q1 R
      cases dn
      · have R2 : Bur.insT (x, y) l = acc ++ [(x, y)] := R1
        have hal : acc.length = l.length := by rw [R2] at hL; simpa using hL
        by_cases h6 : 60 < l.length + 1
        · have F1 := FU h6
          have C1 : Hid _ := F1.1
          have C2 : Hid _ := F1.2
          have h6' : (60 : Int) < (acc.length : Int) + 1 := by omega
          have hal' : Hid _ := hal
          have k3 : acc.length + 1 ≤ maxLen := by unfold maxLen; omega
          have k4 : (acc.length + 1) * 16 ≤ 140737488355328 := by omega
          have k5 : w2.heap.size ≤ (wr.alloc (.cells #[.int .i64 x, .int .i64 y] 24)).heap.size := by simp; omega
          clear FU FI F1 R1 R2 hL hal h6
          go_wp2_with (at_builtin; refine wpList_append_own _ rfl _ _ 22 rfl w2.heap.size 24 i0 (.agg #[.int .i64 0, .int .i64 0]) 2 16 Tryd.underlying22 hi0 hz0 hz1 hz2 rfl (by decide) _ _ _ rfl (hown.alloc _) ⟨wr.heap.size, 0, none⟩ 1 1 [.int .i64 x, .int .i64 y] rfl rfl (two_cells _ x y) (two_one x y) k3 k4 k5 ?_)
          intro v' w5 hown5 hgrow _
          have hb10 : Below w2.heap.size w2 w5 := (below_al hb _).grown hgrow (by simp; omega) (fun j hj => (hown.lt j hj).1)
          have hb11 := below_via hb4 hb10
          obtain ⟨g2, cp, rfl, _, _⟩ := hown5.form (by omega)
          clear hown5 hgrow hb10 hown hb
          go_wp2
          go_ret2
          first | exact ⟨none, 0, by rw [C1.out, C2.out]; rfl, by rw [C1.out]; exact SpAt.nil _ _, hb11⟩ | exact ⟨none, ⟨0, by rw [C1.out, C2.out]; rfl⟩, by rw [C1.out]; exact SpAt.nil _ _, hb11⟩
        · have F1 := FI h6
          rw [R2] at F1
          have C1 : Hid _ := F1.1
          have C2 : Hid _ := F1.2
          have h6' : ¬ (60 : Int) < (acc.length : Int) + 1 := by omega
          have hal' : Hid _ := hal
          have k3 : acc.length + 1 ≤ maxLen := by unfold maxLen; omega
          have k4 : (acc.length + 1) * 16 ≤ 140737488355328 := by omega
          have k5 : w2.heap.size ≤ (wr.alloc (.cells #[.int .i64 x, .int .i64 y] 24)).heap.size := by simp; omega
          clear FU FI F1 R1 R2 hL hal h6
          go_wp2_with (at_builtin; refine wpList_append_own _ rfl _ _ 22 rfl w2.heap.size 24 i0 (.agg #[.int .i64 0, .int .i64 0]) 2 16 Tryd.underlying22 hi0 hz0 hz1 hz2 rfl (by decide) _ _ _ rfl (hown.alloc _) ⟨wr.heap.size, 0, none⟩ 1 1 [.int .i64 x, .int .i64 y] rfl rfl (two_cells _ x y) (two_one x y) k3 k4 k5 ?_)
          intro v' w5 hown5 hgrow _
          have hb10 : Below w2.heap.size w2 w5 := (below_al hb _).grown hgrow (by simp; omega) (fun j hj => (hown.lt j hj).1)
          have hb11 := below_via hb4 hb10
          have hown6 : w5.ownsRow w2.heap.size 24 2 v' (acc ++ [(x, y)]).length (spV (acc ++ [(x, y)])) := by simpa [spV_app, spV] using hown5
          obtain ⟨g2, cp, rfl, _, _⟩ := hown6.form (by simp)
          have hsp := (spAt_own hown6).2
          have hln : (acc ++ [(x, y)]).length = acc.length + 1 := by simp
          rw [hln]
          have HLN : Hid _ := hln
          clear hown5 hown6 hgrow hb10 hown hb hln
          go_wp2
          go_ret2
          exact ⟨_, cp, by rw [C1.out, C2.out, HLN.out]; rfl, by rw [C1.out]; exact hsp, hb11⟩
      · have R2 : Bur.insT (x, y) l = acc := by rw [R1]; simp [Bur.rst]
        have hal : acc.length = l.length + 1 := by rw [R2] at hL; exact hL
        obtain ⟨g2, cp, rfl, _, _⟩ := hown.form (by omega)
        have hsp := (spAt_own hown).2
        have hal' : Hid _ := hal
        by_cases h6 : 60 < l.length + 1
        · have F1 := FU h6
          have C1 : Hid _ := F1.1
          have C2 : Hid _ := F1.2
          have h6' : (60 : Int) < (acc.length : Int) := by omega
          clear FU FI F1 R1 R2 hL hown hal h6
          go_wp2
          go_ret2
          first | exact ⟨none, 0, by rw [C1.out, C2.out]; rfl, by rw [C1.out]; exact SpAt.nil _ _, hb9⟩ | exact ⟨none, ⟨0, by rw [C1.out, C2.out]; rfl⟩, by rw [C1.out]; exact SpAt.nil _ _, hb9⟩
        · have F1 := FI h6
          rw [R2] at F1
          have C1 : Hid _ := F1.1
          have C2 : Hid _ := F1.2
          have h6' : ¬ (60 : Int) < (acc.length : Int) := by omega
          clear FU FI F1 R1 R2 hL hown hal h6
          go_wp2
          go_ret2
          first | exact ⟨some ⟨g2, 0, none⟩, cp, by rw [C1.out, C2.out]; rfl, by rw [C1.out]; exact hsp, hb9⟩ | exact ⟨some ⟨g2, 0, none⟩, ⟨cp, by rw [C1.out, C2.out]; rfl⟩, by rw [C1.out]; exact hsp, hb9⟩
set_option maxHeartbeats 1000000 in
theorem putIn_no (q : Option Addr) (cap : Nat) (l : List Bur.Sp) (p : Bur.Sp) (w : World) (hl : l.length ≤ 9223372036854775807) (hs : SpAt w q l) (h : Bur.tpF l p ≠ 0) :
    Calls Tryd.prog 8 #[.slice q l.length cap, pfx p.1 p.2] w fun e w' => ∃ (p' : Option Addr) (cap' : Nat), e = .returned (.tuple #[.slice p' (Bur.putS l p).length cap', .int .i64 (Bur.putF l p)]) ∧ SpAt w' p' (Bur.putS l p) ∧ Below w.heap.size w w' := by
  obtain ⟨x, y⟩ := p
  have F : Bur.putF l (x, y) = Bur.tpF l (x, y) := if_neg h
  rw [show Bur.putS l (x, y) = [] from if_neg (by rw [F]; exact h), F]
  have pb : PfAt (w.alloc (.cells #[.int .i64 x, .int .i64 y] 24)) w.heap.size (x, y) := PfAt.new w x y
  have hb0 : Below w.heap.size w (w.alloc (.cells #[.int .i64 x, .int .i64 y] 24)) := below_al (below_self _) _
  by_cases ht : Bur.treF l = 0
  · have e : Bur.tpF l (x, y) = Bur.fault x y := if_pos ht
    rw [e] at h ⊢
    have T1 : Hid (Bur.treF l = 0) := ht
    have hne : (Bur.fault x y != 0) = true := by simpa using h
    obtain ⟨E, hE⟩ : ∃ E, Bur.fault x y = E := ⟨_, rfl⟩
    rw [hE] at hne ⊢
    have HE : Hid _ := hE
    clear h F e ht hE
    go_enter Tryd.func8, Tryd.ntmps8
    go_wp2_with fail
    refine (treeFault q cap l _ hl (hs.step hb0)).mono ?_
    rintro e w1 ⟨rfl, hb1⟩
    rw [T1.out]
    obtain ⟨p0, p1, p2⟩ := pb.step hb1
    have hb2 := below_via hb0 hb1
    clear hb0 hb1 pb
    go_wp2_with fail
    refine (refFault x y w1).mono ?_
    rintro e w2 ⟨rfl, hb3⟩
    rw [HE.out]
    have hb4 := below_via hb2 hb3
    clear hb2 hb3 p0 p1 p2
    go_wp2_with fail
    go_ret2
    exact ⟨none, 0, rfl, SpAt.nil _ _, hb4⟩
  · have e : Bur.tpF l (x, y) = Bur.treF l := if_neg ht
    rw [e]
    have h1 : (Bur.treF l == 0) = false := by simpa using ht
    have h2 : (Bur.treF l != 0) = true := by simpa using ht
    obtain ⟨E, hE⟩ : ∃ E, Bur.treF l = E := ⟨_, rfl⟩
    rw [hE] at h1 h2 ⊢
    have HE : Hid _ := hE
    clear h F e ht hE
    go_enter Tryd.func8, Tryd.ntmps8
    go_wp2_with fail
    refine (treeFault q cap l _ hl (hs.step hb0)).mono ?_
    rintro e w1 ⟨rfl, hb1⟩
    rw [HE.out]
    have hb2 := below_via hb0 hb1
    clear hb0 hb1 pb
    go_wp2_with fail
    go_ret2
    exact ⟨none, 0, rfl, SpAt.nil _ _, hb2⟩
theorem putIn_any (q : Option Addr) (cap : Nat) (l : List Bur.Sp) (p : Bur.Sp) (w : World) (hl : l.length ≤ 9223372036854775807) (hs : SpAt w q l) :
    Calls Tryd.prog 8 #[.slice q l.length cap, pfx p.1 p.2] w fun e w' => ∃ (p' : Option Addr) (cap' : Nat), e = .returned (.tuple #[.slice p' (Bur.putS l p).length cap', .int .i64 (Bur.putF l p)]) ∧ SpAt w' p' (Bur.putS l p) ∧ Below w.heap.size w w' := by
  by_cases h : Bur.tpF l p = 0
  · exact putIn_ok q cap l p w hl hs h
  · exact putIn_no q cap l p w hl hs h
end Go.Proofs.YtncimpicnhleeaaDoor
