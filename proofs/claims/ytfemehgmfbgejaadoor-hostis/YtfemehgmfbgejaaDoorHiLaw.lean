/- The walk of the law HostIs. -/
import Derived.Test.YtfemehgmfbgejaaDoorHsB
import Derived.Test.YtfemehgmfbgejaaDoorHiRefB
import Derived.Test.YtfemehgmfbgejaaDoorAdErr2
import Derived.Deep.CutBlock
namespace Go.Proofs.YtfemehgmfbgejaaDoor
open Go.RowKit

theorem etStep {w w' : World} (h : ErrType w) (hb : Below w.heap.size w w') : ErrType w' := (hb.cell (World.block_lt_of_cell? _ _ h)).trans h

set_option maxRecDepth 100000 in
set_option maxHeartbeats 8000000 in
/-- The next one, as the reference has it and as the program has it. -/
theorem hi3 {u : List Int} {p : Option Addr} {cap Bp : Nat} {a l E : Int} {w wx : World} {c0 c3 c4 c6 c7 c8 c9 c10 c11 c12 c13 c14 c15 c16 c17 c18 c19 c20 c21 c22 c23 c24 c25 c26 c27 c28 c29 c30 c31 c32 c33 c34 c35 c36 c37 c38 c39 c40 c41 c42 c43 c44 c45 c46 c47 c48 c49 c50 c51 c52 c53 c54 c55 c56 c57 c58 c59 c60 c61 c62 c63 c64 c65 c66 c67 c68 c69 c70 c71 c72 c73 c74 c75 c76 c77 c78 c79 c80 c81 c82 c83 c84 c85 c86 c87 c88 c89 c90 c91 c92 c93 c94 c95 c96 c97 c98 c99 c100 c101 c102 c103 c104 c105 c106 : Value} (hE : Hid (E = Bur.usF (a, l) u)) (lu : u.length ≤ 9223372036854775807) (hu : InAt wx p u) (pb : Bx wx Bp a l) (het : ErrType wx) (hb : Below w.heap.size w wx) :
    Code.wp Tryd.prog (dropSeq 14 (Tryd.f3.body.getD .skip)) (bodyPost Tryd.prog Tryd.f3 fun e w' => e = .returned (.bool true) ∧ Below w.heap.size w w') ⟨#[c0, .slice p u.length cap, .pointer (some ⟨Bp, 0, none⟩), c3, c4, .int .i64 E, c6, c7, c8, c9, c10, c11, c12, c13, c14, c15, c16, c17, c18, c19, c20, c21, c22, c23, c24, c25, c26, c27, c28, c29, c30, c31, c32, c33, c34, c35, c36, c37, c38, c39, c40, c41, c42, c43, c44, c45, c46, c47, c48, c49, c50, c51, c52, c53, c54, c55, c56, c57, c58, c59, c60, c61, c62, c63, c64, c65, c66, c67, c68, c69, c70, c71, c72, c73, c74, c75, c76, c77, c78, c79, c80, c81, c82, c83, c84, c85, c86, c87, c88, c89, c90, c91, c92, c93, c94, c95, c96, c97, c98, c99, c100, c101, c102, c103, c104, c105, c106], []⟩ wx := by
  have hE' := hE.out
  subst hE'
  clear hE
  conv => arg 2; whnf
  have p0 := pb.c0
  have p1 := pb.c1
  by_cases hF : Bur.usF (a, l) u = 0
  · obtain ⟨ok, h200, hA⟩ := Bur.usF_ok hF
    have hf : Bur.fault a l = 0 := ok
    have N1 : Bur.nxF (a, l) u = if (Bur.nxt (a, l) u).isSome = true then 0 else 4 := if_pos hF
    have N2 : Bur.nxS (a, l) u = (Bur.nxt (a, l) u).getD 0 := if_pos hF
    rw [hF]
    have K1 := nextOf a l u p cap wx hf (by omega) hu
    have K2 := fun W (hW : InAt W p u) => next a l u p cap W lu hW
    rw [← N2] at K1
    obtain ⟨x, hx⟩ : ∃ x, x = Bur.nxS (a, l) u := ⟨_, rfl⟩
    rw [← hx] at K1 K2
    clear hx N2 hF ok hf hA
    cases hn : (Bur.nxt (a, l) u).isSome
    · rw [hn] at K1 N1
      rw [show Bur.nxF (a, l) u = 4 from N1] at K2
      clear hn N1
      go_wp2_with fail
      refine K1.mono ?_
      rintro e w1 ⟨rfl, hb1⟩
      have pb1 := pb.step hb1
      have p2 := pb1.c0
      have p3 := pb1.c1
      replace hu := hu.step hb1
      replace het := etStep het hb1
      replace hb := below_via hb hb1
      clear K1 hb1 p0 p1 pb pb1
      go_wp2_with fail
      refine (K2 _ hu).mono ?_
      rintro e w2 ⟨rfl, hb2⟩
      replace het := etStep het hb2
      replace hb := below_via hb hb2
      clear K2 hb2 p2 p3 hu
      go_wp2_with fail
      refine (error_any _ _ _ het).mono ?_
      rintro e w3 ⟨rfl, hb3⟩
      replace hb := below_via hb hb3
      clear hb3 het
      go_wp2_with fail
      go_ret
      exact ⟨rfl, hb⟩
    · rw [hn] at K1 N1
      rw [show Bur.nxF (a, l) u = 0 from N1] at K2
      clear hn N1
      go_wp2_with fail
      refine K1.mono ?_
      rintro e w1 ⟨rfl, hb1⟩
      have pb1 := pb.step hb1
      have p2 := pb1.c0
      have p3 := pb1.c1
      replace hu := hu.step hb1
      replace het := etStep het hb1
      replace hb := below_via hb hb1
      clear K1 hb1 p0 p1 pb pb1
      go_wp2_with fail
      refine (K2 _ hu).mono ?_
      rintro e w2 ⟨rfl, hb2⟩
      replace het := etStep het hb2
      replace hb := below_via hb hb2
      clear K2 hb2 p2 p3 hu
      go_wp2_with fail
      refine (error_any _ _ _ het).mono ?_
      rintro e w3 ⟨rfl, hb3⟩
      replace hb := below_via hb hb3
      clear hb3 het
      go_wp2_with fail
      go_ret
      exact ⟨rfl, hb⟩
  · have K2 := next a l u p cap wx lu hu
    rw [show Bur.nxF (a, l) u = Bur.usF (a, l) u from if_neg hF, show Bur.nxS (a, l) u = 0 from if_neg hF] at K2
    obtain ⟨E, hE⟩ : ∃ E, E = Bur.usF (a, l) u := ⟨_, rfl⟩
    rw [← hE] at K2 hF ⊢
    have hd : (E == 0) = false := by simpa using hF
    have hself : (E == E) = true := by simp
    clear hE
    go_wp2_with fail
    refine K2.mono ?_
    rintro e w2 ⟨rfl, hb2⟩
    replace het := etStep het hb2
    replace hb := below_via hb hb2
    clear K2 hb2 p0 p1 hu pb
    go_wp2_with fail
    refine (error_any _ _ _ het).mono ?_
    rintro e w3 ⟨rfl, hb3⟩
    replace hb := below_via hb hb3
    clear hb3 het
    go_wp2_with fail
    go_ret
    exact ⟨rfl, hb⟩

set_option maxRecDepth 100000 in
set_option maxHeartbeats 8000000 in
/-- How much is used, as the reference has it and as the program has it. -/
theorem hi2 {u : List Int} {p : Option Addr} {cap Bp : Nat} {a l : Int} {w wx : World} {c0 c3 c4 c5 c6 c7 c8 c9 c10 c11 c12 c13 c14 c15 c16 c17 c18 c19 c20 c21 c22 c23 c24 c25 c26 c27 c28 c29 c30 c31 c32 c33 c34 c35 c36 c37 c38 c39 c40 c41 c42 c43 c44 c45 c46 c47 c48 c49 c50 c51 c52 c53 c54 c55 c56 c57 c58 c59 c60 c61 c62 c63 c64 c65 c66 c67 c68 c69 c70 c71 c72 c73 c74 c75 c76 c77 c78 c79 c80 c81 c82 c83 c84 c85 c86 c87 c88 c89 c90 c91 c92 c93 c94 c95 c96 c97 c98 c99 c100 c101 c102 c103 c104 c105 c106 : Value} (lu : u.length ≤ 9223372036854775807) (hcap : u.length ≤ cap) (hu : InAt wx p u) (pb : Bx wx Bp a l) (het : ErrType wx) (hb : Below w.heap.size w wx) :
    Code.wp Tryd.prog (dropSeq 7 (Tryd.f3.body.getD .skip)) (bodyPost Tryd.prog Tryd.f3 fun e w' => e = .returned (.bool true) ∧ Below w.heap.size w w') ⟨#[c0, .slice p u.length cap, .pointer (some ⟨Bp, 0, none⟩), c3, c4, c5, c6, c7, c8, c9, c10, c11, c12, c13, c14, c15, c16, c17, c18, c19, c20, c21, c22, c23, c24, c25, c26, c27, c28, c29, c30, c31, c32, c33, c34, c35, c36, c37, c38, c39, c40, c41, c42, c43, c44, c45, c46, c47, c48, c49, c50, c51, c52, c53, c54, c55, c56, c57, c58, c59, c60, c61, c62, c63, c64, c65, c66, c67, c68, c69, c70, c71, c72, c73, c74, c75, c76, c77, c78, c79, c80, c81, c82, c83, c84, c85, c86, c87, c88, c89, c90, c91, c92, c93, c94, c95, c96, c97, c98, c99, c100, c101, c102, c103, c104, c105, c106], []⟩ wx := by
  conv => arg 2; whnf
  have p0 := pb.c0
  have p1 := pb.c1
  go_wp2_with fail
  refine (usedFault a l u p cap wx lu hu).mono ?_
  rintro e w1 ⟨rfl, hb1⟩
  replace pb := pb.step hb1
  have p2 := pb.c0
  have p3 := pb.c1
  replace hu := hu.step hb1
  replace het := etStep het hb1
  replace hb := below_via hb hb1
  clear hb1 p0 p1
  by_cases hF : Bur.usF (a, l) u = 0
  · obtain ⟨ok, h200, _⟩ := Bur.usF_ok hF
    have hf : Bur.fault a l = 0 := ok
    have K1 := shareOf a l u p cap w1 hf (by omega) hcap hu
    have K2 := fun W (hW : InAt W p u) => share a l u p cap W lu hW
    rw [← show Bur.shS (a, l) u = Bur.shp (a, l) u from if_pos hF, ← show Bur.shA (a, l) u = Bur.alp (a, l) from if_pos hF] at K1
    rw [show ev (Bur.usF (a, l) u) = .nilIface from by rw [hF]; rfl] at K2
    obtain ⟨x, hx⟩ : ∃ x, x = Bur.shS (a, l) u := ⟨_, rfl⟩
    obtain ⟨y, hy⟩ : ∃ y, y = Bur.shA (a, l) u := ⟨_, rfl⟩
    obtain ⟨E, hE⟩ : ∃ E, E = Bur.usF (a, l) u := ⟨_, rfl⟩
    rw [← hx, ← hy] at K1 K2
    rw [← hE] at hF ⊢
    have HE : Hid _ := hE
    subst hF
    have nx : (x != x) = false := by simp
    have ny : (y != y) = false := by simp
    clear hx hy ok hf hE
    go_wp2_with fail
    refine K1.mono ?_
    rintro e w2 ⟨rfl, hb2⟩
    replace pb := pb.step hb2
    have p4 := pb.c0
    have p5 := pb.c1
    replace hu := hu.step hb2
    replace het := etStep het hb2
    replace hb := below_via hb hb2
    clear K1 hb2 p2 p3
    go_wp2_with fail
    refine (K2 _ hu).mono ?_
    rintro e w3 ⟨rfl, hb3⟩
    replace pb := pb.step hb3
    replace hu := hu.step hb3
    replace het := etStep het hb3
    replace hb := below_via hb hb3
    clear K2 hb3 p4 p5
    go_wp2_with fail
    refine (error_nil _ _).mono ?_
    rintro e w4 ⟨rfl, hw4⟩
    have := hw4.symm; subst this
    go_upto_if 80 with fail
    go_cut [4] (fun _ wy => wy = w3)
    case first =>
      go_wp2_with fail
      go_meet
      case rel => exact rfl
    case rest =>
    subst hcut
    refine ‹∀ (a : Act) (w : World), Code.wp _ _ _ a w → _› _ _ ?_
    exact hi3 HE lu hu pb het hb
  · have K2 := share a l u p cap w1 lu hu
    rw [show Bur.shS (a, l) u = 0 from if_neg hF, show Bur.shA (a, l) u = 0 from if_neg hF] at K2
    obtain ⟨E, hE⟩ : ∃ E, E = Bur.usF (a, l) u := ⟨_, rfl⟩
    rw [← hE] at K2 hF ⊢
    have HE : Hid _ := hE
    have hd : (E == 0) = false := by simpa using hF
    have hself : (E == E) = true := by simp
    have nx : ((0 : Int) != 0) = false := by simp
    clear hE hF
    go_wp2_with fail
    refine K2.mono ?_
    rintro e w3 ⟨rfl, hb3⟩
    replace pb := pb.step hb3
    replace hu := hu.step hb3
    replace het := etStep het hb3
    replace hb := below_via hb hb3
    clear K2 hb3 p2 p3
    go_wp2_with fail
    refine (error_any _ _ _ het).mono ?_
    rintro e w4 ⟨rfl, hb4⟩
    replace pb := pb.step hb4
    replace hu := hu.step hb4
    replace het := etStep het hb4
    replace hb := below_via hb hb4
    clear hb4
    go_upto_if 80 with fail
    go_cut [4] (fun _ wy => wy = w4)
    case first =>
      go_wp2_with fail
      go_meet
      case rel => exact rfl
    case rest =>
    subst hcut
    refine ‹∀ (a : Act) (w : World), Code.wp _ _ _ a w → _› _ _ ?_
    exact hi3 HE lu hu pb het hb

set_option maxRecDepth 100000 in
set_option maxHeartbeats 8000000 in
theorem law_host (a l : Int) (u : List Int) (p : Option Addr) (cap : Nat) (w : World) (lu : u.length ≤ 9223372036854775807) (hcap : u.length ≤ cap) (hu : InAt w p u) (het : ErrType w) :
    Calls Tryd.prog 3 #[pfx a l, .slice p u.length cap] w fun e w' => e = .returned (.bool true) ∧ Below w.heap.size w w' := by
  have pb := Bx.new w 23 a l
  have hb : Below w.heap.size w (w.alloc (.cells #[.int .i64 a, .int .i64 l] 23)) := below_al (below_self _) _
  go_enter Tryd.func3, Tryd.ntmps3
  go_wp2_with fail
  refine (refFault a l _).mono ?_
  rintro e w1 ⟨rfl, hb1⟩
  replace pb := pb.step hb1
  replace hb := below_via hb hb1
  clear hb1
  have bw := Bx.new w1 28 0 0
  have hne : w.heap.size ≠ w1.heap.size := fun e => Nat.lt_irrefl _ (e ▸ pb.lt)
  have hle : w.heap.size ≤ w1.heap.size := hb.size
  have hbA := below_al (below_self w1) (.cells #[.int .i64 0, .int .i64 0] 28)
  replace pb := pb.step hbA
  replace hb := below_via hb hbA
  clear hbA
  have p0 := pb.c0
  have p1 := pb.c1
  by_cases hf : Bur.fault a l = 0
  · have E4 : Bur.usS (a, l) = Bur.usa (a, l) := if_pos hf
    have K1 := fun W => usableOf a l W hf
    have K2 := fun W => usable a l W
    rw [← E4] at K1
    rw [show ev (Bur.fault a l) = .nilIface from by rw [hf]; rfl] at K2
    obtain ⟨x, hx⟩ : ∃ x, x = (Bur.usS (a, l)).1 := ⟨_, rfl⟩
    obtain ⟨y, hy⟩ : ∃ y, y = (Bur.usS (a, l)).2 := ⟨_, rfl⟩
    rw [← hx, ← hy] at K1 K2
    rw [hf]
    clear hx hy E4 hf
    have nx : (x != x) = false := by simp
    have ny : (y != y) = false := by simp
    go_wp2_with fail
    refine (K1 _).mono ?_
    rintro e w2 ⟨rfl, hb2⟩
    replace pb := pb.step hb2
    replace bw := bw.step hb2
    replace hb := below_via hb hb2
    obtain ⟨bw2, pb2⟩ := bw.put2 pb hne x y
    obtain ⟨c0, c1, f0, f1⟩ := bw
    have hb3 : Below w.heap.size w ((w2.setCell ⟨w1.heap.size, 0, none⟩ (.int .i64 x)).setCell ⟨w1.heap.size, 1, none⟩ (.int .i64 y)) := (hb.setCell hle _).setCell hle _
    have q0 := pb2.c0
    have q1 := pb2.c1
    clear K1 hb2 p0 p1 pb hb
    go_wp2_with fail
    refine (K2 _).mono ?_
    rintro e w3 ⟨rfl, hb4⟩
    replace pb2 := pb2.step hb4
    replace bw2 := bw2.step hb4
    have hb5 := below_via hb3 hb4
    clear K2 hb4 hb3 q0 q1 c0 c1 f0 f1
    have bs := Bx.new w3 28 x y
    have hbB := below_al (below_self w3) (.cells #[.int .i64 x, .int .i64 y] 28)
    replace pb2 := pb2.step hbB
    replace bw2 := bw2.step hbB
    have hb6 := below_via hb5 hbB
    clear hb5 hbB
    go_wp2_with fail
    refine (error_nil _ _).mono ?_
    rintro e w4 ⟨rfl, hw4⟩
    rw [← hw4] at pb2 bw2 bs hb6
    clear hw4
    obtain ⟨s0, s1, _, _⟩ := bs
    obtain ⟨t0, t1, _, _⟩ := bw2
    go_upto_if 47 with fail
    go_cut [4] (fun _ wy => wy = w4)
    case first =>
      go_wp2_with fail
      go_meet
      case rel => exact rfl
    case rest =>
    subst hcut
    refine ‹∀ (a : Act) (w : World), Code.wp _ _ _ a w → _› _ _ ?_
    exact hi2 lu hcap (hu.step hb6) pb2 (etStep het hb6) hb6
  · have K2 := fun W => usable a l W
    rw [show Bur.usS (a, l) = (0, 0) from if_neg hf] at K2
    obtain ⟨E, hE⟩ : ∃ E, E = Bur.fault a l := ⟨_, rfl⟩
    rw [← hE] at K2 hf ⊢
    have hd : (E == 0) = false := by simpa using hf
    have hself : (E == E) = true := by simp
    have nx : ((0 : Int) != 0) = false := by simp
    clear hE hf
    go_wp2_with fail
    refine (K2 _).mono ?_
    rintro e w3 ⟨rfl, hb4⟩
    replace pb := pb.step hb4
    replace bw := bw.step hb4
    have hb5 := below_via hb hb4
    clear K2 hb4 hb p0 p1
    have bs := Bx.new w3 28 0 0
    have hbB := below_al (below_self w3) (.cells #[.int .i64 0, .int .i64 0] 28)
    replace pb := pb.step hbB
    replace bw := bw.step hbB
    have hb6 := below_via hb5 hbB
    clear hb5 hbB
    go_wp2_with fail
    refine (error_any _ _ _ (etStep het hb6)).mono ?_
    rintro e w4 ⟨rfl, hb7⟩
    replace pb := pb.step hb7
    replace bw := bw.step hb7
    replace bs := bs.step hb7
    have hb8 := below_via hb6 hb7
    clear hb6 hb7
    obtain ⟨s0, s1, _, _⟩ := bs
    obtain ⟨t0, t1, _, _⟩ := bw
    go_upto_if 47 with fail
    go_cut [4] (fun _ wy => wy = w4)
    case first =>
      go_wp2_with fail
      go_meet
      case rel => exact rfl
    case rest =>
    subst hcut
    refine ‹∀ (a : Act) (w : World), Code.wp _ _ _ a w → _› _ _ ?_
    exact hi2 lu hcap (hu.step hb8) pb (etStep het hb8) hb8
end Go.Proofs.YtfemehgmfbgejaaDoor
