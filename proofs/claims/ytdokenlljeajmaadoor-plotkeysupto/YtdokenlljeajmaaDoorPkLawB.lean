/- The walk of the law PlotKeys, from its beginning. -/
import Derived.Test.YtdokenlljeajmaaDoorPkLaw
namespace Go.Proofs.YtdokenlljeajmaaDoor
open Go.RowKit


set_option maxRecDepth 100000 in
set_option maxHeartbeats 8000000 in
theorem pk_read {N l : List UInt8} {pa pl a : Int} {w wx : World} {c1 c4 c6 c7 c8 c9 c11 c12 c13 c14 c15 c16 c17 c18 c19 c20 c21 c22 c23 c24 c25 c26 c27 c28 c29 c30 c31 c32 c33 c34 c35 c36 c37 c38 c39 c40 c41 c42 c43 c44 c45 c46 c47 c48 c49 c50 c51 c52 c53 c54 c55 c56 c57 c58 c59 c60 c61 c62 c63 c64 c65 c66 c67 c68 c69 c70 c71 c72 c73 c74 c75 c76 c77 c78 c79 c80 c81 c82 c83 c84 c85 c86 c87 c88 c89 c90 c91 c92 c93 c94 c95 c96 c97 c98 c99 c100 c101 c102 c103 c104 c105 c106 c107 c108 c109 c110 c111 c112 c113 c114 c115 c116 c117 c118 c119 c120 c121 c122 c123 c124 c125 c126 c127 c128 c129 c130 c131 c132 c133 : Value} (hk : Kk w wx pa pl) (hl : l.length < 4294967281) :
    Code.wp Tryd.prog (dropSeq 6 (Tryd.f3.body.getD .skip)) (bodyPost Tryd.prog Tryd.f3 fun e w' => e = .returned (.bool true) ∧ Below w.heap.size w w') ⟨#[.string ⟨N.toArray⟩, c1, .int .i64 a, .string ⟨l.toArray⟩, c4, .pointer (some ⟨w.heap.size, 0, none⟩), c6, c7, c8, c9, .bool (Bur.isN N), c11, c12, c13, c14, c15, c16, c17, c18, c19, c20, c21, c22, c23, c24, c25, c26, c27, c28, c29, c30, c31, c32, c33, c34, c35, c36, c37, c38, c39, c40, c41, c42, c43, c44, c45, c46, c47, c48, c49, c50, c51, c52, c53, c54, c55, c56, c57, c58, c59, c60, c61, c62, c63, c64, c65, c66, c67, c68, c69, c70, c71, c72, c73, c74, c75, c76, c77, c78, c79, c80, c81, c82, c83, c84, c85, c86, c87, c88, c89, c90, c91, c92, c93, c94, c95, c96, c97, c98, c99, c100, c101, c102, c103, c104, c105, c106, c107, c108, c109, c110, c111, c112, c113, c114, c115, c116, c117, c118, c119, c120, c121, c122, c123, c124, c125, c126, c127, c128, c129, c130, c131, c132, c133], []⟩ wx := by
  conv => arg 2; whnf
  have hlt := hk.p.lt
  have hKd : ∀ W : World, Calls Tryd.prog 7 #[.string ⟨l.toArray⟩] W fun e w' => e = .returned (kV (Bur.kd (Bur.spc 47 [] l))) ∧ Below W.heap.size W w' := fun W => refKind ⟨l.toArray⟩ W (by show l.toArray.size < _; simpa using hl)
  have hRP := fun W hM => plReadPrefix l W hl hM
  rcases Bur.kd_pk l with ⟨⟨x, z⟩, hp, hkd⟩ | ⟨hp, hkd⟩
  · rw [hp] at hRP
    rw [hkd] at hKd
    generalize Bur.pkN l = nn at *
    have hRP' : ∀ (W : World), MaxL W → Calls Tryd.prog 8 #[.string ⟨l.toArray⟩] W fun e w' => e = .returned (.tuple #[.string ⟨nn.toArray⟩, pfx x z, .nilIface]) ∧ Below W.heap.size W w' := hRP
    have hKd' : ∀ (W : World), Calls Tryd.prog 7 #[.string ⟨l.toArray⟩] W fun e w' => e = .returned (.tuple #[.int .i64 2, .string ⟨nn.toArray⟩, pfx x z, .int .i64 0]) ∧ Below W.heap.size W w' := hKd
    have s1 := eq_self nn
    clear hRP hKd hp hkd
    go_upto_if 68 with (first
      | (go_at_call 7; refine (hKd' _).mono ?_; rintro e w1 ⟨rfl, hb1⟩; have hk1 := hk.step hb1; have q1 := Pf2.new w1 x z 23; have hb1a := below_al (below_self w1) (.cells #[.int .i64 x, .int .i64 z] 23); have hk1a := hk1.step hb1a; have l1 := hk1.p.lt)
      | (go_at_call 8; refine (hRP' _ hk1a.mx).mono ?_; rintro e w3 ⟨rfl, hb3⟩; have hk3 := hk1a.step hb3; have q3 := q1.step hb3; have hb3a := below_al (below_self w3) (.cells #[.int .i64 x, .int .i64 z] 23); have y3 := Pf2.new w3 x z 23; have q3a := q3.step hb3a; have hk3a := hk3.step hb3a; have ⟨q30, q31, _, _⟩ := q3a; have ⟨y30, y31, _, _⟩ := y3; have l3 := hk3.p.lt)
      | (go_at_call 5; refine (error_nil _ _).mono ?_; rintro e w4 ⟨rfl, rfl⟩))
    go_cut [] (fun wy => Kk w wy pa pl ∧ Pf2 wy w3.heap.size x z)
    case first =>
      go_wp2_with fail
      go_meet
      case rel => exact ⟨hk3a, y3⟩
    case rest =>
      refine ‹∀ (a : Act) (w : World), Code.wp _ _ _ a w → _› _ _ ?_
      exact pk_rest hcut.1 hcut.2 l3
  · rw [hp] at hRP
    generalize Bur.kd (Bur.spc 47 [] l) = r at *
    obtain ⟨k, nn, ⟨x, z⟩, ad⟩ := r
    have hkd' : (k == 2) = false := beq_eq_false_iff_ne.2 hkd
    have hRP' : ∀ (W : World), MaxL W → Calls Tryd.prog 8 #[.string ⟨l.toArray⟩] W fun e w' => e = .returned (.tuple #[.string ⟨#[]⟩, pfx 0 0, errN 5]) ∧ Below W.heap.size W w' := hRP
    have hKd' : ∀ (W : World), Calls Tryd.prog 7 #[.string ⟨l.toArray⟩] W fun e w' => e = .returned (.tuple #[.int .i64 k, .string ⟨nn.toArray⟩, pfx x z, .int .i64 ad]) ∧ Below W.heap.size W w' := hKd
    clear hRP hKd hp hkd
    go_upto_if 68 with (first
      | (go_at_call 7; refine (hKd' _).mono ?_; rintro e w1 ⟨rfl, hb1⟩; have hk1 := hk.step hb1; have q1b := Pf2.new w1 0 0 23; have hk1b := hk1.step (below_al (below_self w1) (.cells #[.int .i64 0, .int .i64 0] 23)))
      | (go_at_call 8; refine (hRP' _ hk1b.mx).mono ?_; rintro e w3 ⟨rfl, hb3⟩; have hk3 := hk1b.step hb3; have q3 := q1b.step hb3; have hb3a := below_al (below_self w3) (.cells #[.int .i64 0, .int .i64 0] 23); have y3 := Pf2.new w3 0 0 23; have q3a := q3.step hb3a; have hk3a := hk3.step hb3a; have l3 := hk3.p.lt)
      | (go_at_call 5; refine (error_hit 5 5 _ hk3a.et).mono ?_; rintro e w4 ⟨rfl, hb4⟩; have hk4 := hk3a.step hb4; have y4 := y3.step hb4; have q4 := q3a.step hb4; have ⟨q40, q41, _, _⟩ := q4; have ⟨y40, y41, _, _⟩ := y4))
    go_cut [] (fun wy => Kk w wy pa pl ∧ Pf2 wy w3.heap.size 0 0)
    case first =>
      go_wp2_with fail
      go_meet
      case rel => exact ⟨hk4, y4⟩
    case rest =>
      refine ‹∀ (a : Act) (w : World), Code.wp _ _ _ a w → _› _ _ ?_
      exact pk_rest hcut.1 hcut.2 l3
set_option maxRecDepth 100000 in
set_option maxHeartbeats 8000000 in
theorem law_keys (N l : List UInt8) (pa pl a : Int) (w : World) (hN : N.length < 4294967281) (hl : l.length < 4294967281) (hT : Tab w) (hM : MaxL w) (het : ErrType w) :
    Calls Tryd.prog 3 #[.string ⟨N.toArray⟩, pfx pa pl, .int .i64 a, .string ⟨l.toArray⟩] w fun e w' => e = .returned (.bool true) ∧ Below w.heap.size w w' := by
  have hb0 := below_al (below_self w) (.cells #[.int .i64 pa, .int .i64 pl] 23)
  have hk : Kk w (w.alloc (.cells #[.int .i64 pa, .int .i64 pl] 23)) pa pl := ⟨hb0, Pf2.new _ _ _ _, hT.step hb0, hM.step hb0, etStep het hb0, hT.lt, by obtain ⟨m, h⟩ := hM; exact World.block_lt_of_cell? _ _ h, World.block_lt_of_cell? _ _ het⟩
  have hI : ∀ W : World, Calls Tryd.prog 4 #[.string ⟨N.toArray⟩] W fun e w' => e = .returned (.bool (Bur.isN N)) ∧ w' = W := fun W => refIsName ⟨N.toArray⟩ W (by show N.toArray.size < _; simpa using hN)
  have hNm : ∀ W : World, Calls Tryd.prog 6 #[.string ⟨N.toArray⟩] W fun e w' => e = .returned (ev (Bur.nmF N)) ∧ Below W.heap.size W w' := fun W => plName ⟨N.toArray⟩ W
  cases hn : Bur.isN N with
  | true =>
    rw [hn] at hI
    rw [show Bur.nmF N = 0 from if_pos hn, ev_0] at hNm
    go_enter Tryd.func3, Tryd.ntmps3
    go_upto_if 28 with (first
      | (go_at_call 4; refine (hI _).mono ?_; rintro e w1 ⟨rfl, rfl⟩)
      | (go_at_call 6; refine (hNm _).mono ?_; rintro e w2 ⟨rfl, hb2⟩; have hk2 := hk.step hb2)
      | (go_at_call 5; refine (error_nil _ _).mono ?_; rintro e w3 ⟨rfl, rfl⟩))
    go_cut [] (fun wy => Kk w wy pa pl)
    case first =>
      go_wp2_with fail
      go_meet
      case rel => exact hk2
    case rest =>
      refine ‹∀ (a : Act) (w : World), Code.wp _ _ _ a w → _› _ _ ?_
      have := @pk_read N l pa pl a w
      rw [hn] at this
      exact this hcut hl
  | false =>
    rw [hn] at hI
    rw [show Bur.nmF N = 5 from if_neg (by rw [hn]; decide), ev_ne (by decide)] at hNm
    go_enter Tryd.func3, Tryd.ntmps3
    go_upto_if 28 with (first
      | (go_at_call 4; refine (hI _).mono ?_; rintro e w1 ⟨rfl, rfl⟩)
      | (go_at_call 6; refine (hNm _).mono ?_; rintro e w2 ⟨rfl, hb2⟩; have hk2 := hk.step hb2)
      | (go_at_call 5; refine (error_hit 5 5 _ hk2.et).mono ?_; rintro e w3 ⟨rfl, hb3⟩; have hk3 := hk2.step hb3))
    go_cut [] (fun wy => Kk w wy pa pl)
    case first =>
      go_wp2_with fail
      go_meet
      case rel => exact hk3
    case rest =>
      refine ‹∀ (a : Act) (w : World), Code.wp _ _ _ a w → _› _ _ ?_
      have := @pk_read N l pa pl a w
      rw [hn] at this
      exact this hcut hl
end Go.Proofs.YtdokenlljeajmaaDoor
