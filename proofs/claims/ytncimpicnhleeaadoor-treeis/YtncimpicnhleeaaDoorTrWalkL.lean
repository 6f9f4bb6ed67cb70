/- The contracts of slices.Index and Contains at prefixes, of tree's Drop and Roots. -/
import Derived.Test.YtncimpicnhleeaaDoorTrWalkF
import Derived.Deep.CutBlock
namespace Go.Proofs.YtncimpicnhleeaaDoor
open Go.RowKit

set_option maxHeartbeats 1000000 in
theorem indexP (p : Bur.Sp) (q : Option Addr) (cap : Nat) (l : List Bur.Sp) (w : World) (hz : l.length ≤ 1000000) (hq : SpAt w q l) :
    Calls Tryd.prog 50 #[.slice q l.length cap, pfx p.1 p.2] w fun e w' => e = .returned (.int .i64 (idx (fun s => Bur.sm p s) 0 l)) ∧ Below w.heap.size w w' := by
  obtain ⟨x, y⟩ := p
  have hm := eqGuard_pfx
  have pb : PfAt (w.alloc (.cells #[.int .i64 x, .int .i64 y] 24)) w.heap.size (x, y) := PfAt.new w x y
  have hb0 : Below w.heap.size w (w.alloc (.cells #[.int .i64 x, .int .i64 y] 24)) := below_al (below_self _) _
  go_enter Tryd.func50, Tryd.ntmps50
  go_wp2
  go_loopw [8] (fun i wr => ∃ k : Nat, k ≤ l.length ∧ i = .int .i64 k ∧ Hid (idx (fun s => Bur.sm (x, y) s) 0 l = idx (fun s => Bur.sm (x, y) s) k (l.drop k)) ∧ Below w.heap.size w wr ∧ PfAt wr w.heap.size (x, y)) (fun i _ => l.length - (intOf i).toNat)
  case atStart => exact ⟨0, by omega, rfl, rfl, hb0, pb⟩
  case round =>
    obtain ⟨k, hk, rfl, R, hb, pbw⟩ := hrel
    clear pb hb0
    have hsz := hb.size
    by_cases hlt : k < l.length
    · have hlt' : (k : Int) < (l.length : Int) := by omega
      obtain ⟨b, off, rfl, hbl, hc⟩ := hq (by omega)
      obtain ⟨p0, p1, p2⟩ := pbw
      have c0 : wr.cell? ⟨b, off + k * 2, none⟩ = some (.int .i64 (lo l k)) := (hb.cell (p := ⟨b, off + k * 2, none⟩) hbl).trans (hc k hlt).1
      have c1 : wr.cell? ⟨b, off + k * 2 + 1, none⟩ = some (.int .i64 (hi l k)) := (hb.cell (p := ⟨b, off + k * 2 + 1, none⟩) hbl).trans (hc k hlt).2
      have hd0 := drop_sp hlt
      obtain ⟨u, hu⟩ : ∃ u, lo l k = u := ⟨_, rfl⟩
      obtain ⟨v, hv⟩ : ∃ v, hi l k = v := ⟨_, rfl⟩
      rw [hu] at c0 hd0
      rw [hv] at c1 hd0
      have hd : Hid _ := hd0
      have E := fun w => eqPfx x y u v w
      clear hc hq hd0 hu hv
      obtain ⟨s, hs⟩ : ∃ s, Bur.sm (x, y) (u, v) = s := ⟨_, rfl⟩
      rw [hs] at E
      cases s
      · have R2 : Hid (idx (fun s => Bur.sm (x, y) s) 0 l = idx (fun s => Bur.sm (x, y) s) ((k + 1 : Nat) : Int) (l.drop (k + 1))) := by
          show _ = _
          rw [R.out, hd.out, idx, if_neg (by rw [hs]; simp)]
          rfl
        clear R hd hs
        go_wp2
        go_quiet (fail)
        go_wp2
        exact ⟨⟨k + 1, by omega, by go_num, R2, below_drewN hb _, ⟨p0, p1, p2⟩⟩, by simp [intOf]; omega⟩
      · have R2 : Hid (idx (fun s => Bur.sm (x, y) s) 0 l = (k : Int)) := by
          show _ = _
          rw [R.out, hd.out, idx, if_pos hs]
        clear R hd hs
        go_wp2
        go_quiet (fail)
        go_wp2
        go_ret
        exact ⟨by rw [R2.out]; rfl, below_drewN hb _⟩
    · have R2 : Hid (idx (fun s => Bur.sm (x, y) s) 0 l = -1) := by
        show _ = _
        rw [R.out, List.drop_eq_nil_of_le (by omega)]
        rfl
      clear R hq pbw
      go_wp2
      go_ret
      exact ⟨by rw [R2.out]; rfl, hb⟩

theorem containsP (p : Bur.Sp) (q : Option Addr) (cap : Nat) (l : List Bur.Sp) (w : World) (hz : l.length ≤ 1000000) (hq : SpAt w q l) :
    Calls Tryd.prog 31 #[.slice q l.length cap, pfx p.1 p.2] w fun e w' => e = .returned (.bool (Bur.hasP p l)) ∧ Below w.heap.size w w' := by
  obtain ⟨x, y⟩ := p
  have E : Hid (decide (0 ≤ idx (fun s => Bur.sm (x, y) s) 0 l) = Bur.hasP (x, y) l) := by
    show _ = _
    rw [idx_any _ l 0 (by omega)]
    unfold Bur.hasP
    congr 1
    funext s
    exact Bur.sm_comm _ _
  go_enter Tryd.func31, Tryd.ntmps31
  go_wp2_with fail
  refine (indexP (x, y) q cap l _ hz (hq.alloc _)).mono ?_
  rintro e w1 ⟨rfl, hb1⟩
  have hb2 := below_via (below_al (below_self w) _) hb1
  obtain ⟨n, hn⟩ : ∃ n, idx (fun s => Bur.sm (x, y) s) 0 l = n := ⟨_, rfl⟩
  rw [hn] at E ⊢
  clear hb1 hn
  go_wp2
  go_ret
  exact ⟨by rw [← E.out]; rfl, hb2⟩

theorem drop1 (q p : Bur.Sp) (b : Nat) (w : World) (h : PfAt w b p) : Calls Tryd.prog 33 #[pfx q.1 q.2, .pointer (some ⟨b, 0, none⟩)] w fun e w' => e = .returned (.bool (!Bur.sm q p)) ∧ Below w.heap.size w w' := by
  obtain ⟨x, y⟩ := q
  obtain ⟨x2, y2⟩ := p
  obtain ⟨h0, h1, h2⟩ := h
  have hm := eqGuard_pfx
  have E := fun w => eqPfx x y x2 y2 w
  generalize Bur.sm (x, y) (x2, y2) = s at E ⊢
  go_enter Tryd.func33, Tryd.ntmps33
  go_wp2
  go_ret
  exact ⟨rfl, below_al (below_self _) _⟩

set_option maxHeartbeats 1000000 in
theorem drop_any (q : Option Addr) (cap : Nat) (l : List Bur.Sp) (p : Bur.Sp) (w : World) (hl : l.length ≤ 9223372036854775807) (hs : SpAt w q l) :
    Calls Tryd.prog 12 #[.slice q l.length cap, pfx p.1 p.2] w fun e w' => ∃ (p' : Option Addr) (cap' : Nat), e = .returned (.tuple #[.slice p' (Bur.drpS l p).length cap', ev (Bur.drpF l p)]) ∧ SpAt w' p' (Bur.drpS l p) ∧ Below w.heap.size w w' := by
  obtain ⟨x, y⟩ := p
  by_cases h : Bur.tpF l (x, y) = 0
  rotate_left
  · have F : Bur.drpF l (x, y) = Bur.tpF l (x, y) := if_neg h
    have E0 : Hid (ev (Bur.tpF l (x, y)) = errN (Bur.tpF l (x, y))) := if_neg h
    rw [show Bur.drpS l (x, y) = [] from if_neg (by rw [F]; exact h), F, E0.out]
    clear h F
    go_enter Tryd.func12, Tryd.ntmps12
    go_wp2_with fail
    refine (checkBoth q cap l (x, y) _ hl (hs.alloc _)).mono ?_
    rintro e w1 ⟨rfl, hb1⟩
    rw [E0.out]
    have hb2 := below_via (below_al (below_self w) _) hb1
    clear hb1
    go_wp2
    go_ret2
    exact ⟨none, 0, rfl, SpAt.nil _ _, hb2⟩
  have E0 : Hid (ev (Bur.tpF l (x, y)) = .nilIface) := by show _ = _; rw [h]; rfl
  obtain ⟨t1, t2⟩ := Bur.tpF_ok h
  obtain ⟨o1, o2⟩ := Bur.treF_ok t1
  have F : Bur.drpF l (x, y) = if Bur.hasP (x, y) l = true then 0 else 4 := if_pos h
  cases hh : Bur.hasP (x, y) l
  · have F' : Bur.drpF l (x, y) = 4 := by rw [F, hh]; rfl
    rw [show Bur.drpS l (x, y) = [] from if_neg (by rw [F']; decide), F']
    clear h t1 t2 o2 F F'
    go_enter Tryd.func12, Tryd.ntmps12
    go_wp2_with fail
    refine (checkBoth q cap l (x, y) _ hl (hs.alloc _)).mono ?_
    rintro e w1 ⟨rfl, hb1⟩
    rw [E0.out]
    have hb2 := below_via (below_al (below_self w) _) hb1
    obtain ⟨n0, n1, n2⟩ := (PfAt.new w x y).step hb1
    have hs1 := (hs.alloc _).step hb1
    clear hb1 hs
    go_wp2_with fail
    refine (containsP (x, y) q cap l w1 (by omega) hs1).mono ?_
    rintro e w2 ⟨rfl, hb3⟩
    rw [hh]
    have hb4 := below_via hb2 hb3
    clear hb3 hb2 hs1
    go_wp2
    go_ret2
    exact ⟨none, 0, rfl, SpAt.nil _ _, hb4⟩
  · have F' : Bur.drpF l (x, y) = 0 := by rw [F, hh]; rfl
    rw [show Bur.drpS l (x, y) = l.filter (fun q => !Bur.sm q (x, y)) from (if_pos F').trans (Bur.drpT_eq _ _), F', ev_0]
    clear h t1 t2 o2 F F'
    obtain ⟨m, hm⟩ : ∃ m, Hid (l.filter (fun q => !Bur.sm q (x, y)) = m) := ⟨_, rfl⟩
    rw [hm.out]
    go_enter Tryd.func12, Tryd.ntmps12
    go_wp2_with fail
    refine (checkBoth q cap l (x, y) _ hl (hs.alloc _)).mono ?_
    rintro e w1 ⟨rfl, hb1⟩
    rw [E0.out]
    have hb2 := below_via (below_al (below_self w) _) hb1
    have hn := (PfAt.new w x y).step hb1
    have hn' := hn
    obtain ⟨n0, n1, n2⟩ := hn'
    have hs1 := (hs.alloc _).step hb1
    clear hb1 hs
    go_wp2_with fail
    refine (containsP (x, y) q cap l w1 (by omega) hs1).mono ?_
    rintro e w2 ⟨rfl, hb3⟩
    rw [hh]
    have hb4 := below_via hb2 hb3
    have hn2 := hn.step hb3
    have HK := keepL 33 #[.pointer (some ⟨w.heap.size, 0, none⟩)] (enters_of Tryd.func33 (by kernel_rfl) rfl) (fun q => !Bur.sm q (x, y)) q cap l w2 (by omega) (hs1.step hb3) (fun i w1 hi hb => drop1 _ _ _ w1 (hn2.step hb))
    rw [hm.out] at HK
    clear hb3 hb2 hs1 hn hn2
    go_wp2_with fail
    refine HK.mono ?_
    rintro e w3 ⟨p', cap', rfl, hp', hb5⟩
    go_wp2
    go_ret2
    exact ⟨p', cap', rfl, hp', below_via hb4 hb5⟩

theorem roots_any (q : Option Addr) (cap : Nat) (l : List Bur.Sp) (w : World) (hl : l.length ≤ 9223372036854775807) (hs : SpAt w q l) :
    Calls Tryd.prog 21 #[.slice q l.length cap] w fun e w' => ∃ (p' : Option Addr) (cap' : Nat), e = .returned (.tuple #[.slice p' (Bur.rtsS l).length cap', ev (Bur.treF l)]) ∧ SpAt w' p' (Bur.rtsS l) ∧ Below w.heap.size w w' := by
  by_cases h : Bur.treF l = 0
  · have E0 : Hid (ev (Bur.treF l) = .nilIface) := by show _ = _; rw [h]; rfl
    obtain ⟨o1, o2⟩ := Bur.treF_ok h
    rw [E0.out, show Bur.rtsS l = Bur.rts l from if_pos h]
    clear h
    obtain ⟨m, hm⟩ : ∃ m, Hid (Bur.rts l = m) := ⟨_, rfl⟩
    rw [hm.out]
    go_enter Tryd.func21, Tryd.ntmps21
    go_wp2_with fail
    refine (tcheck q cap l _ hl hs).mono ?_
    rintro e w1 ⟨rfl, hb1⟩
    rw [E0.out]
    have HR := roots q cap l w1 (by omega) (hs.step hb1) o2.2
    rw [hm.out] at HR
    clear o2 hs
    go_wp2_with fail
    refine HR.mono ?_
    rintro e w2 ⟨p', cap', rfl, hp', hb3⟩
    go_wp2
    go_ret2
    exact ⟨p', cap', rfl, hp', below_via hb1 hb3⟩
  · have E0 : Hid (ev (Bur.treF l) = errN (Bur.treF l)) := if_neg h
    rw [E0.out, show Bur.rtsS l = [] from if_neg h]
    clear h
    go_enter Tryd.func21, Tryd.ntmps21
    go_wp2_with fail
    refine (tcheck q cap l _ hl hs).mono ?_
    rintro e w1 ⟨rfl, hb1⟩
    rw [E0.out]
    go_wp2
    go_ret2
    exact ⟨none, 0, rfl, SpAt.nil _ _, hb1⟩
end Go.Proofs.YtncimpicnhleeaaDoor
