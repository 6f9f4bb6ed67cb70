/- The contracts of tree's roots, Above and Below. -/
import Derived.Test.YtncimpicnhleeaaDoorTrWalkE
namespace Go.Proofs.YtncimpicnhleeaaDoor
open Go.RowKit

theorem roots1 (q : Bur.Sp) (c : Nat) (a : Option Addr) (l : List Bur.Sp) (cap : Nat) (w : World) (hz : l.length ≤ 1000000) (hq : Bur.OkP q) (hl : ∀ p ∈ l, Bur.OkP p) (h : LsAt w c a l cap) :
    Calls Tryd.prog 54 #[pfx q.1 q.2, .pointer (some ⟨c, 0, none⟩)] w fun e w' => e = .returned (.bool (!l.any fun r => Bur.und q r)) ∧ Below w.heap.size w w' := by
  obtain ⟨x, y⟩ := q
  obtain ⟨h0, h1, h2⟩ := h
  have hn : PfAt (w.alloc (.cells #[.int .i64 x, .int .i64 y] 24)) w.heap.size (x, y) := PfAt.new w x y
  have HC := containsFunc 56 #[.pointer (some ⟨w.heap.size, 0, none⟩)] (enters_of Tryd.func56 (by kernel_rfl) rfl) (fun r => Bur.und (x, y) r) a cap l _ hz (h2.alloc (.cells #[.int .i64 x, .int .i64 y] 24)) (fun i w1 hi hb => roots11 _ _ _ w1 hq (ok_at hl hi) (hn.step hb))
  generalize hA : (l.any fun r => Bur.und (x, y) r) = A at HC ⊢
  clear hA hn hl hq
  go_enter Tryd.func54, Tryd.ntmps54
  go_wp2_with fail
  refine HC.mono ?_
  rintro e w1 ⟨rfl, hb1⟩
  go_wp2
  go_ret
  exact ⟨rfl, below_via (below_al (below_self _) _) hb1⟩

theorem roots (a : Option Addr) (cap : Nat) (l : List Bur.Sp) (w : World) (hz : l.length ≤ 1000000) (hs : SpAt w a l) (hl : ∀ p ∈ l, Bur.OkP p) :
    Calls Tryd.prog 41 #[.slice a l.length cap] w fun e w' => ∃ (p' : Option Addr) (cap' : Nat), e = .returned (.slice p' (Bur.rts l).length cap') ∧ SpAt w' p' (Bur.rts l) ∧ Below w.heap.size w w' := by
  have hn : LsAt (w.alloc (.cells #[.slice a l.length cap] 22)) w.heap.size a l cap := ⟨by simp, by simp, hs.alloc _⟩
  have HK := keepL 54 #[.pointer (some ⟨w.heap.size, 0, none⟩)] (enters_of Tryd.func54 (by kernel_rfl) rfl) (fun q => !l.any fun r => Bur.und q r) a cap l _ hz (hs.alloc (.cells #[.slice a l.length cap] 22)) (fun i w1 hi hb => roots1 _ _ _ _ _ w1 hz (ok_at hl hi) hl (hn.step hb))
  change Calls _ _ _ _ (fun e w' => ∃ (p' : Option Addr) (cap' : Nat), e = .returned (.slice p' (Bur.rts l).length cap') ∧ SpAt w' p' (Bur.rts l) ∧ Below (w.alloc (.cells #[.slice a l.length cap] 22)).heap.size (w.alloc (.cells #[.slice a l.length cap] 22)) w') at HK
  generalize Bur.rts l = m at HK ⊢
  clear hn hl
  go_enter Tryd.func41, Tryd.ntmps41
  go_wp2_with fail
  refine HK.mono ?_
  rintro e w1 ⟨p', cap', rfl, hp', hb1⟩
  go_wp2
  go_ret
  exact ⟨p', cap', rfl, hp', below_via (below_al (below_self _) _) hb1⟩

set_option maxHeartbeats 1000000 in
theorem above_any (q : Option Addr) (cap : Nat) (l : List Bur.Sp) (p : Bur.Sp) (w : World) (hl : l.length ≤ 9223372036854775807) (hs : SpAt w q l) :
    Calls Tryd.prog 19 #[.slice q l.length cap, pfx p.1 p.2] w fun e w' => ∃ (p' : Option Addr) (cap' : Nat), e = .returned (.tuple #[.slice p' (Bur.abvS l p).length cap', ev (Bur.tpF l p)]) ∧ SpAt w' p' (Bur.abvS l p) ∧ Below w.heap.size w w' := by
  obtain ⟨x, y⟩ := p
  by_cases h : Bur.tpF l (x, y) = 0
  · have E0 : Hid (ev (Bur.tpF l (x, y)) = .nilIface) := by show _ = _; rw [h]; rfl
    obtain ⟨t1, t2⟩ := Bur.tpF_ok h
    obtain ⟨o1, o2⟩ := Bur.treF_ok t1
    rw [E0.out, show Bur.abvS l (x, y) = l.filter (fun q => Bur.und (x, y) q) from (if_pos h).trans (Bur.abv_keep o2 t2).symm]
    clear h t1
    obtain ⟨m, hm⟩ : ∃ m, Hid (l.filter (fun q => Bur.und (x, y) q) = m) := ⟨_, rfl⟩
    rw [hm.out]
    go_enter Tryd.func19, Tryd.ntmps19
    go_wp2_with fail
    refine (checkBoth q cap l (x, y) _ hl (hs.alloc _)).mono ?_
    rintro e w1 ⟨rfl, hb1⟩
    rw [E0.out]
    have hb2 := below_via (below_al (below_self w) _) hb1
    have hn := (PfAt.new w x y).step hb1
    have HK := keepL 40 #[.pointer (some ⟨w.heap.size, 0, none⟩)] (enters_of Tryd.func40 (by kernel_rfl) rfl) (fun q => Bur.und (x, y) q) q cap l w1 (by omega) ((hs.alloc _).step hb1) (fun i w1 hi hb => above1 _ _ _ w1 t2 (ok_at o2.2 hi) (hn.step hb))
    rw [hm.out] at HK
    clear hb1 hn t2 o2 hs
    go_wp2_with fail
    refine HK.mono ?_
    rintro e w2 ⟨p', cap', rfl, hp', hb3⟩
    go_wp2
    go_ret2
    exact ⟨p', cap', rfl, hp', below_via hb2 hb3⟩
  · have E0 : Hid (ev (Bur.tpF l (x, y)) = errN (Bur.tpF l (x, y))) := if_neg h
    rw [E0.out, show Bur.abvS l (x, y) = [] from if_neg h]
    clear h
    go_enter Tryd.func19, Tryd.ntmps19
    go_wp2_with fail
    refine (checkBoth q cap l (x, y) _ hl (hs.alloc _)).mono ?_
    rintro e w1 ⟨rfl, hb1⟩
    rw [E0.out]
    have hb2 := below_via (below_al (below_self w) _) hb1
    clear hb1
    go_wp2
    go_ret2
    exact ⟨none, 0, rfl, SpAt.nil _ _, hb2⟩

set_option maxHeartbeats 1000000 in
theorem below_any (q : Option Addr) (cap : Nat) (l : List Bur.Sp) (p : Bur.Sp) (w : World) (hl : l.length ≤ 9223372036854775807) (hs : SpAt w q l) :
    Calls Tryd.prog 20 #[.slice q l.length cap, pfx p.1 p.2] w fun e w' => ∃ (p' : Option Addr) (cap' : Nat), e = .returned (.tuple #[.slice p' (Bur.blwS l p).length cap', ev (Bur.tpF l p)]) ∧ SpAt w' p' (Bur.blwS l p) ∧ Below w.heap.size w w' := by
  obtain ⟨x, y⟩ := p
  by_cases h : Bur.tpF l (x, y) = 0
  · have E0 : Hid (ev (Bur.tpF l (x, y)) = .nilIface) := by show _ = _; rw [h]; rfl
    obtain ⟨t1, t2⟩ := Bur.tpF_ok h
    obtain ⟨o1, o2⟩ := Bur.treF_ok t1
    rw [E0.out, show Bur.blwS l (x, y) = Bur.rts (l.filter (fun q => Bur.und q (x, y))) from (if_pos h).trans (Bur.blw_keep l (x, y)).symm]
    clear h t1
    have hml : (l.filter (fun q => Bur.und q (x, y))).length ≤ 1000000 := Nat.le_trans (List.length_filter_le _ _) (by omega)
    have hmo : ∀ p ∈ l.filter (fun q => Bur.und q (x, y)), Bur.OkP p := fun p hp => o2.2 p (List.mem_filter.1 hp).1
    obtain ⟨m, hm⟩ : ∃ m, Hid (l.filter (fun q => Bur.und q (x, y)) = m) := ⟨_, rfl⟩
    rw [hm.out] at hml hmo ⊢
    obtain ⟨m2, hm2⟩ : ∃ m2, Hid (Bur.rts m = m2) := ⟨_, rfl⟩
    rw [hm2.out]
    go_enter Tryd.func20, Tryd.ntmps20
    go_wp2_with fail
    refine (checkBoth q cap l (x, y) _ hl (hs.alloc _)).mono ?_
    rintro e w1 ⟨rfl, hb1⟩
    rw [E0.out]
    have hb2 := below_via (below_al (below_self w) _) hb1
    have hn := (PfAt.new w x y).step hb1
    have HK := keepL 42 #[.pointer (some ⟨w.heap.size, 0, none⟩)] (enters_of Tryd.func42 (by kernel_rfl) rfl) (fun q => Bur.und q (x, y)) q cap l w1 (by omega) ((hs.alloc _).step hb1) (fun i w1 hi hb => below1 _ _ _ w1 t2 (ok_at o2.2 hi) (hn.step hb))
    rw [hm.out] at HK
    clear hb1 hn t2 o2 hs
    go_wp2_with fail
    refine HK.mono ?_
    rintro e w2 ⟨p', cap', rfl, hp', hb3⟩
    have HR := roots p' cap' m w2 hml hp' hmo
    rw [hm2.out] at HR
    go_wp2_with fail
    refine HR.mono ?_
    rintro e w3 ⟨p2, cap2, rfl, hp2, hb4⟩
    go_wp2
    go_ret2
    exact ⟨p2, cap2, rfl, hp2, below_via (below_via hb2 hb3) hb4⟩
  · have E0 : Hid (ev (Bur.tpF l (x, y)) = errN (Bur.tpF l (x, y))) := if_neg h
    rw [E0.out, show Bur.blwS l (x, y) = [] from if_neg h]
    clear h
    go_enter Tryd.func20, Tryd.ntmps20
    go_wp2_with fail
    refine (checkBoth q cap l (x, y) _ hl (hs.alloc _)).mono ?_
    rintro e w1 ⟨rfl, hb1⟩
    rw [E0.out]
    have hb2 := below_via (below_al (below_self w) _) hb1
    clear hb1
    go_wp2
    go_ret2
    exact ⟨none, 0, rfl, SpAt.nil _ _, hb2⟩
end Go.Proofs.YtncimpicnhleeaaDoor
