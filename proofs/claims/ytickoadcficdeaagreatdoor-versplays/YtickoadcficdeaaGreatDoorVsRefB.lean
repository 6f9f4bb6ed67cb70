/- The contracts of the reference's Get and Touched. -/
import Derived.Test.YtickoadcficdeaaGreatDoorVsRefA
import Derived.Laws.Cover1
namespace Vs
theorem any_drop {l : List Ver} {p : Ver → Bool} {k : Nat} {x : Ver} (hx : l[k]? = some x) : (l.drop k).any p = (p x || (l.drop (k + 1)).any p) := by
  obtain ⟨h, e⟩ := List.getElem?_eq_some_iff.1 hx
  rw [List.drop_eq_getElem_cons h, e, List.any_cons]
end Vs
namespace Go.Proofs.YtickoadcficdeaaGreatDoor
open Go.RowKit

set_option maxHeartbeats 2000000 in
theorem refGet {G : Nat → Prop} {B : Nat} {l : List Vs.Ver} {top : Int} (key : ByteArray) (a : Int) (w : World) (hT : Vs.OkT l top) (hR : RT w G B l top) (hl : l.length ≤ 1000000) :
    Calls Tryz.prog 11 #[.pointer (some ⟨B, 0, none⟩), .string key, .int .i64 a] w fun e w' => e = .returned (.tuple #[.string (Vs.gtS l key a), .int .i64 (Vs.gtF l key a)]) ∧ Below w.heap.size w w' := by
  by_cases h0 : a < 0 ∨ 1000000 < a
  · have hA : Vs.atF a ≠ 0 := by rw [Vs.atF, if_pos h0]; decide
    rw [show Vs.gtS l key a = ByteArray.empty from if_neg hA, show Vs.gtF l key a = 1 from if_neg hA]
    clear hA hR
    by_cases h1 : a < 0
    · go_enter Tryz.func11, Tryz.ntmps11
      go_wp2
      go_ret2
      exact ⟨rfl, below_self _⟩
    · have h2 : 1000000 < a := by omega
      clear h0
      go_enter Tryz.func11, Tryz.ntmps11
      go_wp2
      go_ret2
      exact ⟨rfl, below_self _⟩
  · have hA : Vs.atF a = 0 := if_neg h0
    have h1 : ¬ a < 0 := by omega
    have h2 : ¬ 1000000 < a := by omega
    rw [show Vs.gtS l key a = (Vs.vget l key a).getD ByteArray.empty from if_pos hA, show Vs.gtF l key a = if (Vs.vget l key a).isSome = true then 0 else 4 from if_pos hA]
    have K := refSeen key a w hT hR hl
    obtain ⟨p, cap, hp, hv⟩ := hR.row
    have hB := hR.lt
    clear hR h0 hA
    rcases Vs.sI_is l key a with ⟨e1, e2⟩ | ⟨j, x, e1, e2, e3⟩
    · rw [show Vs.vget l key a = none from by rw [Vs.vget, e2]]
      rw [e1] at K
      clear e1 e2
      go_enter Tryz.func11, Tryz.ntmps11
      go_wp2_with fail
      refine K.mono ?_
      rintro e w1 ⟨rfl, hb⟩
      clear K
      go_wp2
      go_ret2
      exact ⟨rfl, hb⟩
    · have hj := (List.getElem?_eq_some_iff.1 e2).1
      have hjl : (j : Int) < (l.length : Int) := by omega
      obtain ⟨bb, off, rfl, hbl, _, hc⟩ := hv (by omega)
      obtain ⟨d0, d1, d2, d3⟩ := hc j x e2
      rw [e1] at K
      have g1 : decide ((j : Int) < 0) = false := by simp
      cases hg : x.g
      · rw [show Vs.vget l key a = some x.v from by rw [Vs.vget, e3]; simp [hg]]
        rw [hg] at d3
        clear e1 e2 e3 hc hv
        go_enter Tryz.func11, Tryz.ntmps11
        go_wp2_with fail
        refine K.mono ?_
        rintro e w1 ⟨rfl, hb⟩
        have c0 := (hb.cell (p := ⟨B, 0, none⟩) hB).trans hp
        have c1 := (hb.cell (p := ⟨bb, off + j * 4 + 1, none⟩) hbl).trans d1
        have c3 := (hb.cell (p := ⟨bb, off + j * 4 + 3, none⟩) hbl).trans d3
        clear K
        go_wp2
        go_ret2
        exact ⟨rfl, hb⟩
      · rw [show Vs.vget l key a = none from by rw [Vs.vget, e3]; simp [hg]]
        rw [hg] at d3
        clear e1 e2 e3 hc hv
        go_enter Tryz.func11, Tryz.ntmps11
        go_wp2_with fail
        refine K.mono ?_
        rintro e w1 ⟨rfl, hb⟩
        have c0 := (hb.cell (p := ⟨B, 0, none⟩) hB).trans hp
        have c3 := (hb.cell (p := ⟨bb, off + j * 4 + 3, none⟩) hbl).trans d3
        clear K
        go_wp2
        go_ret2
        exact ⟨rfl, hb⟩

set_option maxHeartbeats 4000000 in
theorem refTouched {G : Nat → Prop} {B : Nat} {l : List Vs.Ver} {top : Int} (lo hi : ByteArray) (a : Int) (w : World) (hR : RT w G B l top) (hl : l.length ≤ 1000000) :
    Calls Tryz.prog 16 #[.pointer (some ⟨B, 0, none⟩), .string lo, .string hi, .int .i64 a] w fun e w' => e = .returned (.bool (Vs.vtch l lo hi a)) ∧ Below w.heap.size w w' := by
  obtain ⟨N, hN⟩ : ∃ N, N = Vs.vtch l lo hi a := ⟨_, rfl⟩
  rw [← hN]
  obtain ⟨p, cap, hp, hv⟩ := hR.row
  have hB := hR.lt
  replace hN : Hid (N = (l.drop 0).any (fun x => Vs.btw lo hi x.k && decide (a < x.n))) := hN
  clear hR
  go_enter Tryz.func16, Tryz.ntmps16
  go_wp2
  go_loopw [9] (fun i wr => ∃ (k : Nat), k ≤ l.length ∧ i = .int .i64 k ∧ Hid (N = (l.drop k).any (fun x => Vs.btw lo hi x.k && decide (a < x.n))) ∧ Below w.heap.size w wr) (fun i _ => l.length - (intOf i).toNat)
  case atStart => exact ⟨0, by omega, rfl, hN, below_self _⟩
  case round =>
    obtain ⟨k, hk, rfl, hM, hb⟩ := hrel
    have c0 : wr.cell? ⟨B, 0, none⟩ = some (.slice p l.length cap) := (hb.cell (p := ⟨B, 0, none⟩) hB).trans hp
    by_cases hlt : k < l.length
    · have hlt' : (k : Int) < (l.length : Int) := by omega
      obtain ⟨bb, off, rfl, hbl, _, hc⟩ := hv (by omega)
      obtain ⟨x, hx⟩ := Vs.getsome hlt
      obtain ⟨d0, d1, d2, d3⟩ := hc k x hx
      have e0 : wr.cell? ⟨bb, off + k * 4, none⟩ = some (.string x.k) := (hb.cell (p := ⟨bb, off + k * 4, none⟩) hbl).trans d0
      have e2 : wr.cell? ⟨bb, off + k * 4 + 2, none⟩ = some (.int .i64 x.n) := (hb.cell (p := ⟨bb, off + k * 4 + 2, none⟩) hbl).trans d2
      have hst : Hid _ := hM.out.trans (Vs.any_drop hx)
      have hno : Hid ((Vs.btw lo hi x.k && decide (a < x.n)) = false → N = (l.drop (k + 1)).any (fun x => Vs.btw lo hi x.k && decide (a < x.n))) := fun h => by rw [hst.out, h, Bool.false_or]
      have hyes : Hid ((Vs.btw lo hi x.k && decide (a < x.n)) = true → N = true) := fun h => by rw [hst.out, h, Bool.true_or]
      clear hM hN hst hx hc d0 d1 d2 d3 hv hp
      cases g1 : Op.bytesLess x.k.toList lo.toList
      · cases g2 : Op.bytesLess x.k.toList hi.toList
        · have R := hno.out (by simp [Vs.btw, Vs.bl, g2])
          replace R : Hid _ := R
          clear hno hyes
          go_wp2
          exact ⟨⟨k + 1, by omega, by go_num, R, hb⟩, by simp [intOf]; omega⟩
        · by_cases h3 : a < x.n
          · have g3 : decide (a < x.n) = true := by simpa using h3
            have R : Hid _ := hyes.out (by simp [Vs.btw, Vs.bl, g1, g2, h3])
            clear hno hyes
            go_wp2
            go_ret
            exact ⟨by rw [R.out]; rfl, hb⟩
          · have g3 : decide (a < x.n) = false := by simpa using h3
            have R : Hid _ := hno.out (by simp [h3])
            clear hno hyes
            go_wp2
            exact ⟨⟨k + 1, by omega, by go_num, R, hb⟩, by simp [intOf]; omega⟩
      · have R : Hid _ := hno.out (by simp [Vs.btw, Vs.bl, g1])
        clear hno hyes
        go_wp2
        exact ⟨⟨k + 1, by omega, by go_num, R, hb⟩, by simp [intOf]; omega⟩
    · have hE : Hid (N = false) := by
        show _ = _
        rw [hM.out, List.drop_eq_nil_of_le (by omega)]; rfl
      clear hM hN hv
      go_wp2
      go_ret
      exact ⟨by rw [hE.out]; rfl, hb⟩
end Go.Proofs.YtickoadcficdeaaGreatDoor
