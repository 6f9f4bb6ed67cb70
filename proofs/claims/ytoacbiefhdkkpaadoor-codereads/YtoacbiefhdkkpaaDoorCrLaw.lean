/- The walk of the law CodeReads. -/
import Derived.Test.YtoacbiefhdkkpaaDoorCdFace
import Derived.Test.YtoacbiefhdkkpaaDoorCdRefC
import Derived.Test.YtoacbiefhdkkpaaDoorAdErr2
namespace Go.Proofs.YtoacbiefhdkkpaaDoor
open Go.RowKit Go.Lib

theorem etStep {w w' : World} (h : ErrType w) (hb : Below w.heap.size w w') : ErrType w' := (hb.cell (World.block_lt_of_cell? _ _ h)).trans h

set_option maxRecDepth 100000 in
set_option maxHeartbeats 4000000 in
theorem codeReads (hF : CFace) (l : List Vs.Chg) (bs : List UInt8) (p q : Option Addr) (cp cq : Nat) (w : World) (hl : l.length ≤ 9223372036854775807) (hbl : bs.length ≤ 9223372036854775807) (hq : bs.length ≤ cq) (hp : ChAt w p l) (hbq : ByAt w q bs) (het : ErrType w) :
    Calls Tryd.prog 3 #[.slice p l.length cp, .slice q bs.length cq] w fun e w' => e = .returned (.bool true) ∧ Below w.heap.size w w' := by
  have K1 := changesFault l p cp w hl hp
  have K2 := fun W (hW : Below w.heap.size w W) => hF.check (w := W) l p cp hl (hp.step hW)
  have K5 := fun W (hW : Below w.heap.size w W) => hF.encode (w := W) l p cp hl (hp.step hW)
  by_cases hE : Vs.chF l = 0
  · have K4 := fun W (hW : Below w.heap.size w W) => bytesOf l p cp W hE (hp.step hW)
    rw [show Vs.enS l = Vs.encL l from if_pos hE] at K5
    rw [hE] at K1 K2 K5
    generalize Vs.encL l = en at K4 K5
    go_enter Tryd.func3, Tryd.ntmps3
    go_wp2_with fail
    refine K1.mono ?_
    rintro e w1 ⟨rfl, hb1⟩
    go_wp2_with fail
    refine (K2 _ hb1).mono ?_
    rintro e w2 ⟨rfl, hb2⟩
    replace hb2 := below_via hb1 hb2
    go_wp2_with fail
    refine (error_any 0 0 _ (etStep het hb2)).mono ?_
    rintro e w3 ⟨rfl, hb3⟩
    replace hb3 := below_via hb2 hb3
    go_wp2_with fail
    refine (K4 _ hb3).mono ?_
    rintro e w4 ⟨v4, rfl, hown4, hb4⟩
    obtain ⟨q4, c4, rfl⟩ := own_form hown4
    have cv4 := byStr c4 (byAt_own hown4).2
    clear hown4
    replace hb4 := below_via hb3 hb4
    go_wp2_with fail
    refine (K5 _ hb4).mono ?_
    rintro e w5 ⟨q5, c5, rfl, h5, _, hb5⟩
    replace hb5 := below_via hb4 hb5
    go_wp2_with fail
    refine (error_any 0 0 _ (etStep het hb5)).mono ?_
    rintro e w6 ⟨rfl, hb6⟩
    have cv6 := byStr c5 (h5.step hb6)
    replace hb6 := below_via hb5 hb6
    clear cv4 hb1 hb2 hb3 hb4 hb5 K1 K2 K4 K5 h5
    generalize Vs.mkB en = S at cv6 ⊢
    cases hd : Vs.dec bs with
    | none =>
      have D1 : Vs.deS bs = [] := by rw [Vs.deS, hd]; rfl
      have D2 : Vs.deF bs = 5 := by rw [Vs.deF, hd]; rfl
      go_wp2_with fail
      refine (changesOf bs q cq _ hbl hq (hbq.step (below_via hb6 (below_self _)))).mono ?_
      rintro e w7 ⟨hr1, _, hb7⟩
      rw [hr1 hd]
      clear hr1
      have B7 := below_via hb6 hb7
      have K8 := hF.decode (w := w7) bs q cq hbl hq (hbq.step B7)
      rw [D1, D2] at K8
      go_wp2_with fail
      refine K8.mono ?_
      rintro e w8 ⟨q8, c8, rfl, h8, hb8⟩
      have B8 := below_via B7 hb8
      go_wp2_with fail
      refine (error_any 5 5 _ (etStep het B8)).mono ?_
      rintro e w9 ⟨rfl, hb9⟩
      have B9 := below_via B8 hb9
      go_wp2_with fail
      refine (sameChanges [] [] q8 none c8 0 _ (by simp) (ChAt.nil _ _) (ChAt.nil _ _)).mono ?_
      rintro e w10 ⟨rfl, hb10⟩
      go_wp2
      go_ret
      exact ⟨by simp, below_via B9 hb10⟩
    | some m =>
      have D1 : Vs.deS bs = m := by rw [Vs.deS, hd]; rfl
      have D2 : Vs.deF bs = 0 := by rw [Vs.deF, hd]; rfl
      have hm := Vs.dec_len (b := bs)
      rw [D1] at hm
      go_wp2_with fail
      refine (changesOf bs q cq _ hbl hq (hbq.step (below_via hb6 (below_self _)))).mono ?_
      rintro e w7 ⟨_, hr2, hb7⟩
      obtain ⟨v7, rfl, hown7⟩ := hr2 m hd
      clear hr2
      obtain ⟨q7, c7, rfl⟩ := own_form hown7
      have h7 := (chAt_own hown7).2
      clear hown7
      have B7 := below_via hb6 hb7
      have K8 := hF.decode (w := w7) bs q cq hbl hq (hbq.step B7)
      rw [D1, D2] at K8
      go_wp2_with fail
      refine K8.mono ?_
      rintro e w8 ⟨q8, c8, rfl, h8, hb8⟩
      have B8 := below_via B7 hb8
      go_wp2_with fail
      refine (error_any 0 0 _ (etStep het B8)).mono ?_
      rintro e w9 ⟨rfl, hb9⟩
      have B9 := below_via B8 hb9
      go_wp2_with fail
      refine (sameChanges m m q8 q7 c8 c7 _ (by omega) (h8.step hb9) (h7.step (below_via hb8 hb9))).mono ?_
      rintro e w10 ⟨rfl, hb10⟩
      go_wp2
      go_ret
      exact ⟨by simp, below_via B9 hb10⟩
  · rw [show Vs.enS l = [] from if_neg hE] at K5
    have hE' : (Vs.chF l == 0) = false := by simpa using hE
    generalize Vs.chF l = E at K1 K2 K5 hE'
    clear hE
    go_enter Tryd.func3, Tryd.ntmps3
    go_wp2_with fail
    refine K1.mono ?_
    rintro e w1 ⟨rfl, hb1⟩
    go_wp2_with fail
    refine (K2 _ hb1).mono ?_
    rintro e w2 ⟨rfl, hb2⟩
    replace hb2 := below_via hb1 hb2
    go_wp2_with fail
    refine (error_any E E _ (etStep het hb2)).mono ?_
    rintro e w3 ⟨rfl, hb3⟩
    replace hb3 := below_via hb2 hb3
    go_wp2_with fail
    refine (K5 _ hb3).mono ?_
    rintro e w5 ⟨q5, c5, rfl, h5, _, hb5⟩
    replace hb5 := below_via hb3 hb5
    go_wp2_with fail
    refine (error_any E E _ (etStep het hb5)).mono ?_
    rintro e w6 ⟨rfl, hb6⟩
    have cv6 := byStr c5 (h5.step hb6)
    rw [show Vs.mkB [] = ⟨#[]⟩ from rfl, show ([] : List UInt8).length = 0 from rfl] at cv6
    replace hb6 := below_via hb5 hb6
    clear hb1 hb2 hb3 hb5 K1 K2 K5 h5
    cases hd : Vs.dec bs with
    | none =>
      have D1 : Vs.deS bs = [] := by rw [Vs.deS, hd]; rfl
      have D2 : Vs.deF bs = 5 := by rw [Vs.deF, hd]; rfl
      go_wp2_with fail
      refine (changesOf bs q cq _ hbl hq (hbq.step (below_via hb6 (below_self _)))).mono ?_
      rintro e w7 ⟨hr1, _, hb7⟩
      rw [hr1 hd]
      clear hr1
      have B7 := below_via hb6 hb7
      have K8 := hF.decode (w := w7) bs q cq hbl hq (hbq.step B7)
      rw [D1, D2] at K8
      go_wp2_with fail
      refine K8.mono ?_
      rintro e w8 ⟨q8, c8, rfl, h8, hb8⟩
      have B8 := below_via B7 hb8
      go_wp2_with fail
      refine (error_any 5 5 _ (etStep het B8)).mono ?_
      rintro e w9 ⟨rfl, hb9⟩
      have B9 := below_via B8 hb9
      go_wp2_with fail
      refine (sameChanges [] [] q8 none c8 0 _ (by simp) (ChAt.nil _ _) (ChAt.nil _ _)).mono ?_
      rintro e w10 ⟨rfl, hb10⟩
      go_wp2
      go_ret
      exact ⟨by simp, below_via B9 hb10⟩
    | some m =>
      have D1 : Vs.deS bs = m := by rw [Vs.deS, hd]; rfl
      have D2 : Vs.deF bs = 0 := by rw [Vs.deF, hd]; rfl
      have hm := Vs.dec_len (b := bs)
      rw [D1] at hm
      go_wp2_with fail
      refine (changesOf bs q cq _ hbl hq (hbq.step (below_via hb6 (below_self _)))).mono ?_
      rintro e w7 ⟨_, hr2, hb7⟩
      obtain ⟨v7, rfl, hown7⟩ := hr2 m hd
      clear hr2
      obtain ⟨q7, c7, rfl⟩ := own_form hown7
      have h7 := (chAt_own hown7).2
      clear hown7
      have B7 := below_via hb6 hb7
      have K8 := hF.decode (w := w7) bs q cq hbl hq (hbq.step B7)
      rw [D1, D2] at K8
      go_wp2_with fail
      refine K8.mono ?_
      rintro e w8 ⟨q8, c8, rfl, h8, hb8⟩
      have B8 := below_via B7 hb8
      go_wp2_with fail
      refine (error_any 0 0 _ (etStep het B8)).mono ?_
      rintro e w9 ⟨rfl, hb9⟩
      have B9 := below_via B8 hb9
      go_wp2_with fail
      refine (sameChanges m m q8 q7 c8 c7 _ (by omega) (h8.step hb9) (h7.step (below_via hb8 hb9))).mono ?_
      rintro e w10 ⟨rfl, hb10⟩
      go_wp2
      go_ret
      exact ⟨by simp, below_via B9 hb10⟩
end Go.Proofs.YtoacbiefhdkkpaaDoor
