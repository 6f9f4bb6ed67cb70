/- The contracts of free's Gaps and Blocks, each in one form for whatever it is given. -/
import Derived.Test.YtfhidiedmenliaaGreatDoorSpWalkG
import Derived.Test.YtfhidiedmenliaaGreatDoorCvSpans
import Derived.Test.YtfhidiedmenliaaGreatDoorFrMath5
namespace Bur
theorem twF_gps {p : Sp} {l : List Sp} (h : frF p l = 0) : twF 3 [pS p] (psS l) = 0 ∧ twS 3 [pS p] (psS l) = gps p l := by
  obtain ⟨h1, h2, h3, h4, h5⟩ := gps_ps h
  have e : twF 3 [pS p] (psS l) = 0 := by
    unfold twF
    rw [if_pos h3, if_pos h4, h1, if_neg (by omega)]
  exact ⟨e, by unfold twS; rw [if_pos e, h1]⟩
end Bur
namespace Go.Proofs.YtfhidiedmenliaaGreatDoor
open Go.RowKit

set_option maxRecDepth 100000 in
set_option maxHeartbeats 8000000 in
theorem gaps (a z : Int) (p : Option Addr) (cap : Nat) (l : List Bur.Sp) (w : World) (hl : l.length ≤ 9223372036854775807) (hs : SpAt w p l) :
    Calls Tryz.prog 8 #[pfx a z, .slice p l.length cap] w fun e w' => ∃ (q : Option Addr) (cq : Nat), e = .returned (.tuple #[.slice q (Bur.gpS (a, z) l).length cq, ev (Bur.frF (a, z) l)]) ∧ SpAt w' q (Bur.gpS (a, z) l) ∧ Below w.heap.size w w' := by
  have hb0 : Below w.heap.size w (w.alloc (.cells #[.int .i64 a, .int .i64 z] 23)) := below_al (below_self _) _
  go_enter Tryz.func8, Tryz.ntmps8
  go_wp2_with fail
  refine (ends_any a z _).mono ?_
  rintro e w1 ⟨rfl, hb1⟩
  have hs1 := hs.step (below_via hb0 hb1)
  by_cases hf : Bur.fault a z = 0
  · have e1 : Hid (ev (Bur.fault a z) = .nilIface) := by show _ = _; rw [hf]; rfl
    have e2 : Hid (Bur.endA a z = a) := if_pos hf
    have e3 : Hid (Bur.endB a z = a + (Bur.sz z - 1)) := if_pos hf
    rw [e1.out, e2.out, e3.out]
    by_cases h60 : 60 < l.length
    · have h60' : (60 : Int) < (l.length : Int) := by omega
      have F : Hid (Bur.frF (a, z) l = 3) := Bur.frF_3 hf h60
      have S : Hid (Bur.gpS (a, z) l = []) := by show _ = _; unfold Bur.gpS; rw [F.out]; rfl
      clear hf
      go_wp2_with fail
      go_ret2
      exact ⟨none, 0, by rw [S.out, F.out]; rfl, by rw [S.out]; exact SpAt.nil _ _, below_via hb0 hb1⟩
    · have h60' : (l.length : Int) ≤ 60 := by omega
      have F : Hid (Bur.frF (a, z) l = Bur.psF l) := Bur.frF_l hf (by omega)
      have P : Hid (Bur.pS (a, z) = (a, a + (Bur.sz z - 1))) := rfl
      clear hf e1 e2 e3
      obtain ⟨y, hy⟩ : ∃ y, a + (Bur.sz z - 1) = y := ⟨_, rfl⟩
      rw [hy] at P ⊢
      clear hy
      go_wp2_with fail
      refine (coverSpans p cap l w1 hl hs1).mono ?_
      rintro e w2 ⟨q, cq, rfl, sq, hb2⟩
      have hb3 := below_via (below_via hb0 hb1) hb2
      clear hb0 hb1 hb2 hs1 hs
      by_cases hg : Bur.psF l = 0
      · have F2 : Bur.frF (a, z) l = 0 := F.out.trans hg
        obtain ⟨t1, t2⟩ := Bur.twF_gps F2
        rw [P.out] at t1 t2
        have S2 : Hid (Bur.gpS (a, z) l = Bur.gps (a, z) l) := by show _ = _; unfold Bur.gpS; rw [if_pos F2]
        have E1 : Hid (ev (Bur.psF l) = .nilIface) := by show _ = _; rw [hg]; rfl
        have F3 : Hid (Bur.frF (a, z) l = 0) := F2
        have hpl := Bur.psS_len l
        have c := fun w s => spanMinus (some ⟨w2.heap.size, 0, none⟩) 1 [(a, y)] q cq (Bur.psS l) w (by simp) (by omega) s
        rw [t1, t2] at c
        have s0 := sp_one w2 53 a y
        have sq2 := sq.alloc (.cells #[.int .i64 a, .int .i64 y] 53)
        have hb4 := below_al hb3 (.cells #[.int .i64 a, .int .i64 y] 53)
        have c2 := c _ s0 sq2
        rw [show ([(a, y)] : List Bur.Sp).length = 1 from rfl] at c2
        rw [E1.out]
        clear hg F F2 t1 t2 P c s0 sq sq2 hb3
        obtain ⟨G, hG⟩ : ∃ G, Bur.gps (a, z) l = G := ⟨_, rfl⟩
        rw [hG] at S2 c2
        clear hG
        go_wp2_with fail
        refine c2.mono ?_
        rintro e w3 ⟨r, cr, rfl, sr, hb5⟩
        have hb6 := below_via hb4 hb5
        clear hb4 hb5 c2
        go_wp2_with fail
        go_ret2
        exact ⟨r, cr, by rw [S2.out, F3.out]; rfl, by rw [S2.out]; exact sr, hb6⟩
      · have E1 : Hid (ev (Bur.psF l) = errN (Bur.psF l)) := ev_ne hg
        have S2 : Hid (Bur.gpS (a, z) l = []) := by show _ = _; unfold Bur.gpS; rw [F.out, if_neg hg]
        rw [E1.out]
        clear hg sq
        go_wp2_with fail
        go_ret2
        exact ⟨none, 0, by rw [S2.out, F.out, E1.out]; rfl, by rw [S2.out]; exact SpAt.nil _ _, hb3⟩
  · have e1 : Hid (ev (Bur.fault a z) = errN (Bur.fault a z)) := ev_ne hf
    have F : Hid (Bur.frF (a, z) l = Bur.fault a z) := Bur.frF_p (p := (a, z)) hf
    have S : Hid (Bur.gpS (a, z) l = []) := by show _ = _; unfold Bur.gpS; rw [F.out, if_neg hf]
    rw [e1.out]
    clear hf hs1
    go_wp2_with fail
    go_ret2
    exact ⟨none, 0, by rw [S.out, F.out, e1.out]; rfl, by rw [S.out]; exact SpAt.nil _ _, below_via hb0 hb1⟩

set_option maxRecDepth 100000 in
set_option maxHeartbeats 8000000 in
theorem freeBlocks (a z : Int) (p : Option Addr) (cap : Nat) (l : List Bur.Sp) (w : World) (hl : l.length ≤ 9223372036854775807) (hs : SpAt w p l) (hT : Tab w) :
    Calls Tryz.prog 11 #[pfx a z, .slice p l.length cap] w fun e w' => ∃ (q : Option Addr) (cq : Nat), e = .returned (.tuple #[.slice q (Bur.bkS (a, z) l).length cq, ev (Bur.bkF (a, z) l)]) ∧ SpAt w' q (Bur.bkS (a, z) l) ∧ Below w.heap.size w w' := by
  have hgl := Bur.gpS_len (a, z) l
  go_enter Tryz.func11, Tryz.ntmps11
  go_wp2_with fail
  refine (gaps a z p cap l _ hl (hs.step (below_al (below_self _) _))).mono ?_
  rintro e w1 ⟨q, cq, rfl, sq, hb1⟩
  replace hb1 := below_via (below_al (below_self w) _) hb1
  have hT1 := hT.step hb1 hT.lt
  clear hs hT
  by_cases hf : Bur.frF (a, z) l = 0
  · obtain ⟨c1, c2⟩ := Bur.bkF_cv hf
    have e1 : Hid (ev (Bur.frF (a, z) l) = .nilIface) := by show _ = _; rw [hf]; rfl
    have hg : Bur.gpS (a, z) l = Bur.gps (a, z) l := if_pos hf
    have F : Hid (Bur.bkF (a, z) l = Bur.cvF (Bur.gpS (a, z) l)) := by show _ = _; rw [hg, c1]
    have S : Hid (Bur.bkS (a, z) l = Bur.cvS (Bur.gpS (a, z) l)) := by show _ = _; unfold Bur.bkS Bur.cvS; rw [F.out, hg, c2]
    rw [e1.out]
    clear hf c1 c2 hg
    go_wp2_with fail
    refine (coverSet q cq (Bur.gpS (a, z) l) w1 (by omega) sq hT1).mono ?_
    rintro e w2 ⟨r, cr, rfl, sr, hb2⟩
    go_wp2_with fail
    go_ret2
    exact ⟨r, cr, by rw [S.out, F.out]; rfl, by rw [S.out]; exact sr, below_via hb1 hb2⟩
  · have e1 : Hid (ev (Bur.frF (a, z) l) = errN (Bur.frF (a, z) l)) := ev_ne hf
    have F : Hid (Bur.bkF (a, z) l = Bur.frF (a, z) l) := if_neg hf
    have S : Hid (Bur.bkS (a, z) l = []) := by show _ = _; unfold Bur.bkS; rw [F.out, if_neg hf]
    rw [e1.out]
    clear hf sq
    go_wp2_with fail
    go_ret2
    exact ⟨none, 0, by rw [S.out, F.out, e1.out]; rfl, by rw [S.out]; exact SpAt.nil _ _, hb1⟩
end Go.Proofs.YtfhidiedmenliaaGreatDoor
