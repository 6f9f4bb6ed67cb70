/- The contract of the reference's Range. -/
import Derived.Test.YtickoadcficdeaaGreatDoorVsRefC
namespace Vs
theorem fold_drop {l : List Ver} {p : Ver → Bool} {k : Nat} {x : Ver} (hx : l[k]? = some x) (r : List Pr) : ((l.drop k).filter p).foldl (fun r x => insP r (x.k, x.v)) r = ((l.drop (k + 1)).filter p).foldl (fun r x => insP r (x.k, x.v)) (if p x = true then insP r (x.k, x.v) else r) := by
  obtain ⟨h, e⟩ := List.getElem?_eq_some_iff.1 hx
  rw [List.drop_eq_getElem_cons h, e]
  by_cases c : p x = true
  · rw [if_pos c, List.filter_cons_of_pos c, List.foldl_cons]
  · rw [if_neg c, List.filter_cons_of_neg c]
end Vs
namespace Go.Proofs.YtickoadcficdeaaGreatDoor
open Go.RowKit

/-- A version in a box. -/
structure Vb (w : World) (B : Nat) (x : Vs.Ver) : Prop where
  c0 : w.cell? ⟨B, 0, none⟩ = some (.string x.k)
  c1 : w.cell? ⟨B, 1, none⟩ = some (.string x.v)
  c2 : w.cell? ⟨B, 2, none⟩ = some (.int .i64 x.n)
  c3 : w.cell? ⟨B, 3, none⟩ = some (.bool x.g)
theorem Vb.lt {w : World} {B : Nat} {x : Vs.Ver} (h : Vb w B x) : B < w.heap.size := World.block_lt_of_cell? _ _ h.c0
theorem Vb.step {w w' : World} {B : Nat} {x : Vs.Ver} (h : Vb w B x) (hb : Below w.heap.size w w') : Vb w' B x :=
  ⟨(hb.cell (p := ⟨B, 0, none⟩) h.lt).trans h.c0, (hb.cell (p := ⟨B, 1, none⟩) h.lt).trans h.c1, (hb.cell (p := ⟨B, 2, none⟩) h.lt).trans h.c2, (hb.cell (p := ⟨B, 3, none⟩) h.lt).trans h.c3⟩
theorem Vb.new (w : World) (t : Nat) (x : Vs.Ver) : Vb (w.alloc (.cells #[.string x.k, .string x.v, .int .i64 x.n, .bool x.g] t)) w.heap.size x := ⟨by simp, by simp, by simp, by simp⟩

set_option maxHeartbeats 4000000 in
theorem refRange {G : Nat → Prop} {B : Nat} {l : List Vs.Ver} {top : Int} (lo hi : ByteArray) (a : Int) (w : World) (hT : Vs.OkT l top) (hR : RT w G B l top) (hl : l.length ≤ 100000) :
    Calls Tryz.prog 15 #[.pointer (some ⟨B, 0, none⟩), .string lo, .string hi, .int .i64 a] w fun e w' => ∃ (q : Option Addr) (cq : Nat), e = .returned (.slice q (Vs.vrng l lo hi a).length cq) ∧ PrAt w' q (Vs.vrng l lo hi a) ∧ Below w.heap.size w w' := by
  obtain ⟨N, hN⟩ : ∃ N, N = Vs.vrng l lo hi a := ⟨_, rfl⟩
  rw [← hN]
  replace hN : Hid (N = ((l.drop 0).filter (Vs.told l lo hi a)).foldl (fun r x => Vs.insP r (x.k, x.v)) []) := hN
  go_enter Tryz.func15, Tryz.ntmps15
  go_wp2
  go_loopw [9, 10] (fun s i wr => ∃ (k : Nat) (r : List Vs.Pr) (q : Option Addr) (cq : Nat), k ≤ l.length ∧ i = .int .i64 k ∧ s = .slice q r.length cq ∧ r.length ≤ k ∧ PrAt wr q r ∧ Hid (N = ((l.drop k).filter (Vs.told l lo hi a)).foldl (fun r x => Vs.insP r (x.k, x.v)) r) ∧ Below w.heap.size w wr) (fun _ i _ => l.length - (intOf i).toNat)
  case atStart => exact ⟨0, [], none, 0, by omega, rfl, rfl, by simp, PrAt.nil _ _, hN, below_self _⟩
  case round =>
    obtain ⟨k, r, q, cq, hk, rfl, rfl, hrl, hq, hM, hb⟩ := hrel
    obtain ⟨p, cap, hp, hv⟩ := (hR.step hb).row
    by_cases hlt : k < l.length
    · have hlt' : (k : Int) < (l.length : Int) := by omega
      obtain ⟨bb, off, rfl, hbl, _, hc⟩ := hv (by omega)
      obtain ⟨x, hx⟩ := Vs.getsome hlt
      obtain ⟨d0, d1, d2, d3⟩ := hc k x hx
      have hst : Hid _ := hM.out.trans (Vs.fold_drop hx r)
      have hno : Hid (Vs.told l lo hi a x = false → N = ((l.drop (k + 1)).filter (Vs.told l lo hi a)).foldl (fun r x => Vs.insP r (x.k, x.v)) r) := fun h => by rw [hst.out, if_neg (by rw [h]; simp)]
      have hyes : Hid (Vs.told l lo hi a x = true → N = ((l.drop (k + 1)).filter (Vs.told l lo hi a)).foldl (fun r x => Vs.insP r (x.k, x.v)) (Vs.insP r (x.k, x.v))) := fun h => by rw [hst.out, if_pos h]
      have vb := Vb.new wr 34 x
      have hbA := below_al (below_self wr) (.cells #[.string x.k, .string x.v, .int .i64 x.n, .bool x.g] 34)
      have hbW := below_al hb (.cells #[.string x.k, .string x.v, .int .i64 x.n, .bool x.g] 34)
      have hqA := hq.step hbA
      have hsee := Vs.sI_at hT hx a
      clear hst hM hN hc hv hx
      cases g1 : Op.bytesLess x.k.toList lo.toList
      · cases g2 : Op.bytesLess x.k.toList hi.toList
        · have R : Hid _ := hno.out (by simp [Vs.told, Vs.btw, Vs.bl, g2])
          clear hno hyes hsee vb
          go_wp2
          exact ⟨⟨k + 1, r, q, cq, by omega, by go_num, rfl, by omega, hqA, R, hbW⟩, by simp [intOf]; omega⟩
        · cases g3 : x.g
          · have K := refSeen x.k a _ hT ((hR.step hb).step hbA) (by omega)
            cases g4 : (Vs.sI l x.k a == (k : Int))
            · have R : Hid _ := hno.out (by rw [g4] at hsee; simp [Vs.told, ← hsee])
              rw [g3] at d3 vb hbA hbW hqA K
              clear hno hyes hsee
              go_wp2_with (go_at_call 23; refine K.mono ?_; rintro e w2 ⟨rfl, hb2⟩)
              exact ⟨⟨k + 1, r, q, cq, by omega, by go_num, rfl, by omega, hqA.step hb2, R, below_via hbW hb2⟩, by simp [intOf]; omega⟩
            · have R : Hid _ := hyes.out (by rw [g4] at hsee; simp [Vs.told, ← hsee, g3, Vs.btw, Vs.bl, g1, g2])
              rw [g3] at d3 vb hbA hbW hqA K
              clear hno hyes hsee
              go_wp2_with (first
                | (go_at_call 23; refine K.mono ?_; rintro e w2 ⟨rfl, hb2⟩; have c4 := (hb2.cell (p := ⟨wr.heap.size, 0, none⟩) vb.lt).trans vb.c0; have c5 := (hb2.cell (p := ⟨wr.heap.size, 1, none⟩) vb.lt).trans vb.c1; have hq2 := hqA.step hb2; have hbX := below_via hbW hb2; clear hb2 K)
                | (go_at_call 30; refine (refInsert r x.k x.v q cq _ (by omega) hq2).mono ?_; rintro e w3 ⟨v3, rfl, hown3, hb3⟩))
              obtain ⟨q3, c3, rfl⟩ := own_form hown3
              exact ⟨⟨k + 1, Vs.insP r (x.k, x.v), q3, c3, by omega, by go_num, rfl, by rw [Vs.len_insP]; omega, (prAt_own hown3).2, R, below_via hbX hb3⟩, by simp [intOf]; omega⟩
          · have R : Hid _ := hno.out (by simp [Vs.told, g3])
            rw [g3] at d3 vb hbA hbW hqA
            clear hno hyes hsee
            go_wp2
            exact ⟨⟨k + 1, r, q, cq, by omega, by go_num, rfl, by omega, hqA, R, hbW⟩, by simp [intOf]; omega⟩
      · have R : Hid _ := hno.out (by simp [Vs.told, Vs.btw, Vs.bl, g1])
        clear hno hyes hsee vb
        go_wp2
        exact ⟨⟨k + 1, r, q, cq, by omega, by go_num, rfl, by omega, hqA, R, hbW⟩, by simp [intOf]; omega⟩
    · have hE : Hid (N = r) := by
        show _ = _
        rw [hM.out, List.drop_eq_nil_of_le (by omega)]; rfl
      clear hM hN hv
      go_wp2
      go_ret
      exact ⟨q, cq, by rw [hE.out]; rfl, by rw [hE.out]; exact hq, hb⟩
end Go.Proofs.YtickoadcficdeaaGreatDoor
