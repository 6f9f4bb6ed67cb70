/- The contract of the reference's SpansOf. -/
import Derived.Test.YtfncclkmnkigoaaDoorCvSpans
import Derived.Test.YtfncclkmnkigoaaDoorSpRefD
namespace Go.Proofs.YtfncclkmnkigoaaDoor
open Go.RowKit

set_option maxRecDepth 100000 in
set_option maxHeartbeats 2000000 in
theorem refSpansOf (p : Option Addr) (cap : Nat) (l : List Bur.Sp) (w : World) (hl : l.length ≤ 9223372036854775807) (hs : SpAt w p l) :
    Calls Tryd.prog 24 #[.slice p l.length cap] w fun e w' => ∃ (q : Option Addr) (cq : Nat), e = .returned (.tuple #[.slice q (Bur.psS l).length cq, .int .i64 (Bur.psF l)]) ∧ SpAt w' q (Bur.psS l) ∧ Below w.heap.size w w' := by
  obtain ⟨i0, hin, hz0, hz1, hz2⟩ := info_parts info_span
  have hF : Hid _ := Bur.psF_E l
  by_cases h200 : 200 < l.length
  · have h200' : (200 : Int) < (l.length : Int) := by omega
    have F : Hid (Bur.psF l = 3) := by show _ = _; rw [hF.out, if_pos h200]
    have S : Hid (Bur.psS l = []) := by show _ = _; unfold Bur.psS; rw [if_neg (by rw [F.out]; decide)]
    clear hs
    go_enter Tryd.func24, Tryd.ntmps24
    go_wp2_with fail
    go_ret2
    exact ⟨none, 0, by rw [S.out, F.out]; rfl, by rw [S.out]; exact SpAt.nil _ _, below_self _⟩
  · have h200' : (l.length : Int) ≤ 200 := by omega
    have hF2 : Hid (Bur.psF l = if Bur.pnF l = 0 then (if 64 < (Bur.mk (Bur.pfS l)).length then 3 else 0) else Bur.pnF l) := by show _ = _; rw [hF.out, if_neg h200]
    clear hF
    go_enter Tryd.func24, Tryd.ntmps24
    go_wp2_with fail
    go_loopw [4, 5] (fun v i wr => ∃ k : Nat, k ≤ l.length ∧ i = .int .i64 k ∧ Hid (∀ q ∈ l.take k, Bur.OkP q) ∧ Hid (Bur.pnF l = Bur.pnF (l.drop k)) ∧ wr.ownsRow w.heap.size 26 2 v k (spV (Bur.pfS (l.take k))) ∧ Below w.heap.size w wr) (fun _ i _ => l.length - (intOf i).toNat)
    case atStart => exact ⟨0, by omega, rfl, (fun _ h => by simp at h), rfl, World.ownsRow_nil _ _ _ _, below_self _⟩
    case round =>
      obtain ⟨k, hk, rfl, hok, R, hown, hbw⟩ := hrel
      have hsz := hbw.size
      by_cases hlt : k < l.length
      · have hlt' : (k : Int) < (l.length : Int) := by omega
        obtain ⟨b, off, rfl, hbl, hc⟩ := hs (by omega)
        have hcb2 := bcell hbw
        have c0 : wr.cell? ⟨b, off + k * 2, none⟩ = some (.int .i64 (lo l k)) := (hcb2.1 _ _ hbl).trans (hc k hlt).1
        have c1 : wr.cell? ⟨b, off + k * 2 + 1, none⟩ = some (.int .i64 (hi l k)) := (hcb2.1 _ _ hbl).trans (hc k hlt).2
        have hd0 := drop_sp hlt
        have ht0 : l.take (k + 1) = l.take k ++ [(lo l k, hi l k)] := by
          have : l[k]? = some (lo l k, hi l k) := by
            have h := congrArg (fun t => t[0]?) hd0
            simpa using h
          rw [List.take_add_one, this]; rfl
        obtain ⟨a, ha⟩ : ∃ a, lo l k = a := ⟨_, rfl⟩
        obtain ⟨z, hz⟩ : ∃ z, hi l k = z := ⟨_, rfl⟩
        rw [ha] at c0 hd0 ht0
        rw [hz] at c1 hd0 ht0
        have ht : Hid _ := ht0
        have S : Hid _ := Bur.pnF_at hd0
        clear ha hz hc hcb2 hs hd0 ht0
        obtain ⟨W, hW⟩ : ∃ W, W = wr := ⟨_, rfl⟩
        subst hW
        go_wp2_with fail
        refine (refFault a z W).mono ?_
        rintro e w2 ⟨rfl, hb2⟩
        have own2 := own_below hown hb2
        have hbw2 := below_via hbw hb2
        have d0 : w2.cell? ⟨b, off + k * 2, none⟩ = some (.int .i64 a) := (hb2.cell (p := ⟨b, off + k * 2, none⟩) (by show b < W.heap.size; omega)).trans c0
        have d1 : w2.cell? ⟨b, off + k * 2 + 1, none⟩ = some (.int .i64 z) := (hb2.cell (p := ⟨b, off + k * 2 + 1, none⟩) (by show b < W.heap.size; omega)).trans c1
        have hsz2 := hbw2.size
        clear hb2 hown hbw c0 c1
        obtain ⟨G, hG⟩ : ∃ G, Hid (Bur.fault a z = G) := ⟨_, rfl⟩
        rw [hG.out]
        cases hf : (G != 0)
        · have hf0 : Bur.fault a z = 0 := by rw [hG.out]; simpa using hf
          have fo := Bur.fault_ok hf0
          have haz := Bur.isA_mk fo.2.2.1 fo.2.2.2.1
          have R2 : Hid (Bur.pnF l = Bur.pnF (l.drop (k + 1))) := by show _ = _; rw [R.out, S.out, if_pos hf0]
          have hok2 : Hid (∀ q ∈ l.take (k + 1), Bur.OkP q) := by
            show ∀ _, _
            intro q hq
            rw [ht.out] at hq
            rcases List.mem_append.1 hq with h | h
            · exact hok.out q h
            · rw [List.mem_singleton.1 h]; exact hf0
          have hrow : Hid (spV (Bur.pfS (l.take (k + 1))) = spV (Bur.pfS (l.take k)) ++ [.int .i64 a, .int .i64 (a + Bur.sz z - 1)]) := by
            show _ = _
            rw [ht.out, show Bur.pfS (l.take k ++ [(a, z)]) = Bur.pfS (l.take k) ++ [(a, a + (Bur.sz z - 1))] from by simp [Bur.pfS, Bur.pS], spV_app, show a + (Bur.sz z - 1) = a + Bur.sz z - 1 from by omega]; rfl
          have z0 := fo.1
          have z1 := fo.2.1
          have lo' : ∀ w, Calls Tryd.prog 41 #[pfx a z] w fun e w' => e = .returned (.int .i64 (a + Bur.sz z - 1)) ∧ ∃ n, w' = (w.alloc (pcs a z)).drewN n := fun w => lastOf a z w z0 z1 haz
          obtain ⟨y, hy⟩ : ∃ y, a + Bur.sz z - 1 = y := ⟨_, rfl⟩
          rw [hy] at hrow
          simp only [hy] at lo'
          clear R S ht hok hf0 fo hy haz
          obtain ⟨V, hV⟩ : ∃ V, V = w2 := ⟨_, rfl⟩
          subst hV
          have bV : b < V.heap.size := by omega
          go_upto_region 10 with fail
          go_region_held3 (fun wy => wy.cell? ⟨b, off + k * 2, none⟩ = some (.int .i64 a) ∧ wy.cell? ⟨b, off + k * 2 + 1, none⟩ = some (.int .i64 z))
            (first | exact ⟨hgrow.cell ((World.cell?_alloc_lt _ _ _ (by show b < w3.heap.size; omega)).trans e0) (fun e => by have := (own3.lt b e.symm).1; omega), hgrow.cell ((World.cell?_alloc_lt _ _ _ (by show b < w3.heap.size; omega)).trans e1) (fun e => by have := (own3.lt b e.symm).1; omega)⟩ | exact ⟨(World.cell?_alloc_lt _ _ _ (by show b < w3.heap.size; omega)).trans e0, (World.cell?_alloc_lt _ _ _ (by show b < w3.heap.size; omega)).trans e1⟩ | exact ⟨e0, e1⟩ | exact ⟨d0, d1⟩)
            (first
              | (go_at_call 41; refine (lo' _).mono ?_; clear lo'; rintro e w3 ⟨rfl, q, hw3⟩; have hb3 : Below V.drew.heap.size V.drew w3 := by rw [hw3]; exact below_box _ _ q
                 have e0 : w3.cell? ⟨b, off + k * 2, none⟩ = some (.int .i64 a) := (hb3.cell (p := ⟨b, off + k * 2, none⟩) (by show b < V.heap.size; omega)).trans d0
                 have e1 : w3.cell? ⟨b, off + k * 2 + 1, none⟩ = some (.int .i64 z) := (hb3.cell (p := ⟨b, off + k * 2 + 1, none⟩) (by show b < V.heap.size; omega)).trans d1
                 have own3 := own_below own2.drew hb3
                 have hbw3 := below_via hbw2.drew hb3
                 have hsz3 := hbw3.size
                 have hb3s : V.heap.size ≤ w3.heap.size := hb3.size
                 clear hw3)
              | (refine step_append_lies _ rfl _ _ 22 rfl w.heap.size 26 i0 (.agg #[.int .i64 0, .int .i64 0]) 2 16 Tryd.underlying22 hin hz0 hz1 hz2 rfl (by decide) _ _ _ rfl (own3.alloc _) ⟨w3.heap.size, 0, none⟩ 1 1 [.int .i64 a, .int .i64 y] rfl rfl (two_new rfl) two_one (by decide) (by unfold maxLen; omega) (by omega) (by simp; omega) w3.heap.size.succ (by simp) ?_; intro g cap' w4 own4 hgrow _ _))
          have hb5 : Below w.heap.size w w4 := (below_al hbw3 _).grown hgrow (by simp; omega) (fun j hj => (own3.lt j hj).1)
          clear hgrow own3 own2 d0 d1 e0 e1
          go_wp2_with fail
          exact ⟨⟨k + 1, by omega, by go_num, hok2, R2, by rw [hrow.out]; exact own4, hb5⟩, by simp [intOf]; omega⟩
        · have hf1 : ¬ Bur.fault a z = 0 := by rw [hG.out]; simpa using hf
          have hP : Bur.pnF l = G := by rw [R.out, S.out, if_neg hf1, hG.out]
          have F : Hid (Bur.psF l = G) := by show _ = _; rw [hF2.out, hP, if_neg (by rw [← hG.out]; exact hf1)]
          have Sn : Hid (Bur.psS l = []) := by show _ = _; unfold Bur.psS; rw [F.out, if_neg (by rw [← hG.out]; exact hf1)]
          clear hP own2 R S ht hok hf1 hF2 hG
          go_wp2_with fail
          go_ret2
          exact ⟨none, 0, by rw [Sn.out, F.out]; rfl, by rw [Sn.out]; exact SpAt.nil _ _, hbw2⟩
      · have hkl : k = l.length := by omega
        have htk : l.take k = l := List.take_of_length_le (by omega)
        rw [htk] at hok hown
        have hP : Bur.pnF l = 0 := Bur.pnF_mk hok.out
        have hA := Bur.pfS_inA hok.out
        have hlen : (Bur.pfS l).length = k := by rw [hkl]; simp [Bur.pfS]
        have hF3 : Hid (Bur.psF l = if 64 < (Bur.mk (Bur.pfS l)).length then 3 else 0) := by show _ = _; rw [hF2.out, if_pos hP]
        have hmk : Hid (Bur.two 1 (Bur.pfS l) [] = Bur.mk (Bur.pfS l)) := (Bur.mk_two _).symm
        rw [← hlen] at hown
        obtain ⟨pv, cv, rfl⟩ := own_form hown
        have hat := (spAt_own hown).2
        have hl2 : (Bur.pfS l).length ≤ 256 := by rw [hlen]; omega
        clear R hok htk hP hF2 hs hlen hkl
        obtain ⟨PL, hPL⟩ : ∃ PL, Hid (Bur.pfS l = PL) := ⟨_, rfl⟩
        rw [hPL.out] at hl2 hat hA hmk hF3 ⊢
        rw [hPL.out] at hown
        go_wp2_with fail
        refine (refTogether 1 pv cv PL none 0 [] wr (by omega) (by omega) hl2 (by simp) hA (fun _ h => by cases h) hat (SpAt.nil _ _)).mono ?_
        rintro e w2 ⟨q, cq, rfl, st, hb2⟩
        rw [hmk.out] at st ⊢
        have hbw2 := below_via hbw hb2
        clear hown hb2 hbw hA hat
        obtain ⟨n, hn⟩ : ∃ n, Hid ((Bur.mk PL).length = n) := ⟨_, rfl⟩
        rw [hn.out]
        by_cases h64 : 64 < n
        · have h64' : (64 : Int) < (n : Int) := by omega
          have F : Hid (Bur.psF l = 3) := by show _ = _; rw [hF3.out, hn.out, if_pos h64]
          have S : Hid (Bur.psS l = []) := by show _ = _; unfold Bur.psS; rw [if_neg (by rw [F.out]; decide)]
          clear st
          go_wp2_with fail
          go_ret2
          exact ⟨none, 0, by rw [S.out, F.out]; rfl, by rw [S.out]; exact SpAt.nil _ _, hbw2⟩
        · have h64' : (n : Int) ≤ 64 := by omega
          have F : Hid (Bur.psF l = 0) := by show _ = _; rw [hF3.out, hn.out, if_neg h64]
          have S : Hid (Bur.psS l = Bur.mk PL) := by show _ = _; unfold Bur.psS; rw [if_pos F.out, hPL.out]
          go_wp2_with fail
          go_ret2
          exact ⟨q, cq, by rw [S.out, F.out, hn.out]; rfl, by rw [S.out]; exact st, hbw2⟩
end Go.Proofs.YtfncclkmnkigoaaDoor
