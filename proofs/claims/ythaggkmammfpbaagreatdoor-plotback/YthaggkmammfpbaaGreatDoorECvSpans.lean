/- The contracts of cover.Spans, Fewest, Of. -/
import Derived.Test.YthaggkmammfpbaaGreatDoorECvJoinA
import Derived.Test.YthaggkmammfpbaaGreatDoorECvIter
import Derived.Maps.AppendAt
import Derived.Test.YthaggkmammfpbaaGreatDoorEAdBase
namespace Bur
theorem pnF_at {l : List Sp} {k : Nat} {a z : Int} (h : l.drop k = (a, z) :: l.drop (k + 1)) : pnF (l.drop k) = if fault a z = 0 then pnF (l.drop (k + 1)) else fault a z := by rw [h, pnF]
theorem psF_E (l : List Sp) : psF l = if 200 < l.length then 3 else if pnF l = 0 then (if 64 < (mk (pfS l)).length then 3 else 0) else pnF l := rfl
theorem psS_len (l : List Sp) : (psS l).length ≤ 64 := by
  unfold psS
  by_cases h : psF l = 0
  · rw [if_pos h]; exact (psF_ok h).2.2
  · rw [if_neg h]; simp
end Bur
namespace Go.Proofs.YthaggkmammfpbaaGreatDoor.Sa
open Go.RowKit

set_option maxRecDepth 100000 in
set_option maxHeartbeats 8000000 in
theorem coverSpans (p : Option Addr) (cap : Nat) (l : List Bur.Sp) (w : World) (hl : l.length ≤ 9223372036854775807) (hs : SpAt w p l) :
    Calls Tryz.prog 316 #[.slice p l.length cap] w fun e w' => ∃ (q : Option Addr) (cq : Nat), e = .returned (.tuple #[.slice q (Bur.psS l).length cq, ev (Bur.psF l)]) ∧ SpAt w' q (Bur.psS l) ∧ Below w.heap.size w w' := by
  obtain ⟨i0, hin, hz0, hz1, hz2⟩ := info_parts info_span
  have hF : Hid _ := Bur.psF_E l
  by_cases h200 : 200 < l.length
  · have h200' : (200 : Int) < (l.length : Int) := by omega
    have F : Hid (Bur.psF l = 3) := by show _ = _; rw [hF.out, if_pos h200]
    have S : Hid (Bur.psS l = []) := by show _ = _; unfold Bur.psS; rw [if_neg (by rw [F.out]; decide)]
    clear hs
    go_enter Tryz.func316, Tryz.ntmps316
    go_wp2_with fail
    go_ret2
    exact ⟨none, 0, by rw [S.out, F.out]; rfl, by rw [S.out]; exact SpAt.nil _ _, below_self _⟩
  · have h200' : (l.length : Int) ≤ 200 := by omega
    have hF2 : Hid (Bur.psF l = if Bur.pnF l = 0 then (if 64 < (Bur.mk (Bur.pfS l)).length then 3 else 0) else Bur.pnF l) := by show _ = _; rw [hF.out, if_neg h200]
    clear hF
    go_enter Tryz.func316, Tryz.ntmps316
    go_wp2_with fail
    go_loopw [4, 17] (fun v i wr => ∃ k : Nat, k ≤ l.length ∧ i = .int .i64 k ∧ Hid (∀ q ∈ l.take k, Bur.OkP q) ∧ Hid (Bur.pnF l = Bur.pnF (l.drop k)) ∧ wr.ownsRow w.heap.size 231 2 v k (spV (Bur.pfS (l.take k))) ∧ Below w.heap.size w wr) (fun _ i _ => l.length - (intOf i).toNat)
    case atStart => exact ⟨0, by omega, rfl, (fun _ h => by simp at h), rfl, World.ownsRow_nil _ _ _ _, below_self _⟩
    case round =>
      obtain ⟨k, hk, rfl, hok, R, hown, hbw⟩ := hrel
      have hsz := hbw.size
      by_cases hlt : k < l.length
      · have hlt' : (k : Int) < (l.length : Int) := by omega
        obtain ⟨b, off, rfl, hbl, hc⟩ := hs (by omega)
        have hcb2 := bcell hbw
        have c0 : wr.cell? ⟨b, off + k * 2, none⟩ = some (.int .i64 (lo l k)) := (hcb2.1 _ _ hbl).trans (hc k hlt).1
        have c1 : wr.cell? ⟨b, off + k * 2 + 1, none⟩ = some (.int .i64 (hi l k)) := (hcb2.1 _ _ hbl).trans (hc k hlt).2
        have hd0 := drop_sp hlt
        have ht0 : l.take (k + 1) = l.take k ++ [(lo l k, hi l k)] := by
          have : l[k]? = some (lo l k, hi l k) := by
            have h := congrArg (fun t => t[0]?) hd0
            simpa using h
          rw [List.take_add_one, this]; rfl
        obtain ⟨a, ha⟩ : ∃ a, lo l k = a := ⟨_, rfl⟩
        obtain ⟨z, hz⟩ : ∃ z, hi l k = z := ⟨_, rfl⟩
        rw [ha] at c0 hd0 ht0
        rw [hz] at c1 hd0 ht0
        have ht : Hid _ := ht0
        have S : Hid _ := Bur.pnF_at hd0
        clear ha hz hc hcb2 hs hd0 ht0
        obtain ⟨W, hW⟩ : ∃ W, W = wr := ⟨_, rfl⟩
        subst hW
        go_wp2_with fail
        have bA := below_al hbw (.cells #[.int .i64 a, .int .i64 z] 31)
        have ownA := hown.alloc (.cells #[.int .i64 a, .int .i64 z] 31)
        refine (ends_any a z _).mono ?_
        rintro e w2 ⟨rfl, hb2⟩
        have own2 := own_below ownA hb2
        have hbw2 := below_via bA hb2
        clear hb2 bA ownA hown hbw c0 c1
        by_cases hf : Bur.fault a z = 0
        · have e1 : Hid (ev (Bur.fault a z) = .nilIface) := by show _ = _; rw [hf]; rfl
          have e2 : Hid (Bur.endA a z = a) := if_pos hf
          have e3 : Hid (Bur.endB a z = a + (Bur.sz z - 1)) := if_pos hf
          rw [e1.out, e2.out, e3.out]
          have R2 : Hid (Bur.pnF l = Bur.pnF (l.drop (k + 1))) := by show _ = _; rw [R.out, S.out, if_pos hf]
          have hok2 : Hid (∀ q ∈ l.take (k + 1), Bur.OkP q) := by
            show ∀ _, _
            intro q hq
            rw [ht.out] at hq
            rcases List.mem_append.1 hq with h | h
            · exact hok.out q h
            · rw [List.mem_singleton.1 h]; exact hf
          have hrow : Hid (spV (Bur.pfS (l.take (k + 1))) = spV (Bur.pfS (l.take k)) ++ [.int .i64 a, .int .i64 (a + (Bur.sz z - 1))]) := by
            show _ = _
            rw [ht.out, show Bur.pfS (l.take k ++ [(a, z)]) = Bur.pfS (l.take k) ++ [(a, a + (Bur.sz z - 1))] from by simp [Bur.pfS, Bur.pS], spV_app]; rfl
          obtain ⟨y, hy⟩ : ∃ y, a + (Bur.sz z - 1) = y := ⟨_, rfl⟩
          rw [hy] at hrow ⊢
          have hsz2 := hbw2.size
          clear R S ht hok hf e1 e2 e3 hy
          go_wp2_with (at_builtin; refine wpList_append_own _ rfl _ _ 370 rfl w.heap.size 231 i0 (.agg #[.int .i64 0, .int .i64 0]) 2 16 Tryz.underlying370 hin hz0 hz1 hz2 rfl (by decide) _ _ _ rfl (own2.alloc _) ⟨w2.heap.size, 0, none⟩ 1 1 [.int .i64 a, .int .i64 y] rfl rfl (two_new rfl) two_one (by unfold maxLen; omega) (by omega) (by simp; omega) ?_; intro v' w3 hown3 hgrow _; have hb4 : Below w.heap.size w w3 := (below_al hbw2 _).grown hgrow (by simp; omega) (fun j hj => (own2.lt j hj).1); clear hgrow own2)
          exact ⟨⟨k + 1, by omega, by go_num, hok2, R2, by rw [hrow.out]; exact hown3, hb4⟩, by simp [intOf]; omega⟩
        · have e1 : Hid (ev (Bur.fault a z) = errN (Bur.fault a z)) := ev_ne hf
          have hP : Bur.pnF l = Bur.fault a z := by rw [R.out, S.out, if_neg hf]
          have F : Hid (Bur.psF l = Bur.fault a z) := by show _ = _; rw [hF2.out, hP, if_neg hf]
          have Sn : Hid (Bur.psS l = []) := by show _ = _; unfold Bur.psS; rw [F.out, if_neg hf]
          rw [e1.out]
          clear hP own2 R S ht hok hf hF2
          go_wp2_with fail
          go_ret2
          exact ⟨none, 0, by rw [Sn.out, F.out, e1.out]; rfl, by rw [Sn.out]; exact SpAt.nil _ _, hbw2⟩
      · have hkl : k = l.length := by omega
        have htk : l.take k = l := List.take_of_length_le (by omega)
        rw [htk] at hok hown
        have hP : Bur.pnF l = 0 := Bur.pnF_mk hok.out
        have hA := Bur.pfS_inA hok.out
        have hlen : (Bur.pfS l).length = k := by rw [hkl]; simp [Bur.pfS]
        have hF3 : Hid (Bur.psF l = if 64 < (Bur.mk (Bur.pfS l)).length then 3 else 0) := by show _ = _; rw [hF2.out, if_pos hP]
        rw [← hlen] at hown
        clear R hok htk hP hF2 hs
        go_wp2_with fail
        refine (join _ w.heap.size (Bur.pfS l) wr hown hsz (by rw [hlen]; omega) hA).mono ?_
        rintro e w2 ⟨q, cq, rfl, st, hb2⟩
        have hbw2 := hbw.trans hb2
        clear hown hb2 hbw hA
        obtain ⟨n, hn⟩ : ∃ n, Hid ((Bur.mk (Bur.pfS l)).length = n) := ⟨_, rfl⟩
        rw [hn.out]
        by_cases h64 : 64 < n
        · have h64' : (64 : Int) < (n : Int) := by omega
          have F : Hid (Bur.psF l = 3) := by show _ = _; rw [hF3.out, hn.out, if_pos h64]
          have S : Hid (Bur.psS l = []) := by show _ = _; unfold Bur.psS; rw [if_neg (by rw [F.out]; decide)]
          clear st
          go_wp2_with fail
          go_ret2
          exact ⟨none, 0, by rw [S.out, F.out]; rfl, by rw [S.out]; exact SpAt.nil _ _, hbw2⟩
        · have h64' : (n : Int) ≤ 64 := by omega
          have F : Hid (Bur.psF l = 0) := by show _ = _; rw [hF3.out, hn.out, if_neg h64]
          have S : Hid (Bur.psS l = Bur.mk (Bur.pfS l)) := by show _ = _; unfold Bur.psS; rw [if_pos F.out]
          go_wp2_with fail
          go_ret2
          exact ⟨q, cq, by rw [S.out, F.out, hn.out]; rfl, by rw [S.out]; exact st, hbw2⟩


theorem sp_one (w : World) (t : Nat) (a z : Int) : SpAt (w.alloc (.cells #[.int .i64 a, .int .i64 z] t)) (some ⟨w.heap.size, 0, none⟩) [(a, z)] := fun _ => ⟨w.heap.size, 0, rfl, by simp, fun i hi => by
  match i, hi with
  | 0, _ => exact ⟨by simp; rfl, by simp; rfl⟩⟩

end Go.Proofs.YthaggkmammfpbaaGreatDoor.Sa

