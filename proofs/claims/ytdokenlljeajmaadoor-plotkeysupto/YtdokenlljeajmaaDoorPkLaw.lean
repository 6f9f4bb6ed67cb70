/- The walk of the law PlotKeys. -/
import Derived.Test.YtdokenlljeajmaaDoorPkD
import Derived.Test.YtdokenlljeajmaaDoorPkJ
import Derived.Test.YtdokenlljeajmaaDoorAdErr2
namespace Go.Proofs.YtdokenlljeajmaaDoor
open Go.RowKit

theorem etStep {w w' : World} (h : ErrType w) (hb : Below w.heap.size w w') : ErrType w' := (hb.cell (World.block_lt_of_cell? _ _ h)).trans h
/-- A prefix in a box. -/
structure Pf2 (w : World) (b : Nat) (x y : Int) : Prop where
  c0 : w.cell? ⟨b, 0, none⟩ = some (.int .i64 x)
  c1 : w.cell? ⟨b, 1, none⟩ = some (.int .i64 y)
  f0 : w.frozen? ⟨b, 0, none⟩ = false
  f1 : w.frozen? ⟨b, 1, none⟩ = false
theorem Pf2.lt {w : World} {b : Nat} {x y : Int} (h : Pf2 w b x y) : b < w.heap.size := World.block_lt_of_cell? _ _ h.c0
theorem Pf2.step {w w' : World} {b : Nat} {x y : Int} (h : Pf2 w b x y) (hb : Below w.heap.size w w') : Pf2 w' b x y :=
  ⟨(hb.cell (p := ⟨b, 0, none⟩) h.lt).trans h.c0, (hb.cell (p := ⟨b, 1, none⟩) h.lt).trans h.c1, (hb.frozen (p := ⟨b, 0, none⟩) h.lt).trans h.f0, (hb.frozen (p := ⟨b, 1, none⟩) h.lt).trans h.f1⟩
theorem Pf2.new (w : World) (x y : Int) (t : Nat) : Pf2 (w.alloc (.cells #[.int .i64 x, .int .i64 y] t)) w.heap.size x y := ⟨by simp, by simp, by simp, by simp⟩
/-- What the law keeps. -/
structure Kk (w wr : World) (pa pl : Int) : Prop where
  bw : Below w.heap.size w wr
  p : Pf2 wr w.heap.size pa pl
  tab : Tab wr
  mx : MaxL wr
  et : ErrType wr
  g1 : 4 < w.heap.size
  g2 : 1 < w.heap.size
  g3 : 0 < w.heap.size
theorem Kk.step {w wr w' : World} {pa pl : Int} (h : Kk w wr pa pl) (hb : Below wr.heap.size wr w') : Kk w w' pa pl := ⟨below_via h.bw hb, h.p.step hb, h.tab.step hb, h.mx.step hb, etStep h.et hb, h.g1, h.g2, h.g3⟩
/-- A block of the law's own was written. -/
theorem Kk.own {w wr w' : World} {pa pl : Int} {b : Nat} (h : Kk w wr pa pl) (hb : Below b wr w') (hw : w.heap.size < b) : Kk w w' pa pl := by
  refine ⟨h.bw.trans (hb.mono (by omega)), ⟨(hb.cell (p := ⟨w.heap.size, 0, none⟩) hw).trans h.p.c0, (hb.cell (p := ⟨w.heap.size, 1, none⟩) hw).trans h.p.c1, (hb.frozen (p := ⟨w.heap.size, 0, none⟩) hw).trans h.p.f0, (hb.frozen (p := ⟨w.heap.size, 1, none⟩) hw).trans h.p.f1⟩, fun j hj => (hb.cell (p := ⟨4, j, none⟩) (Nat.lt_trans h.g1 hw)).trans (h.tab j hj), ?_, (hb.cell (p := ⟨0, 0, none⟩) (Nat.lt_trans h.g3 hw)).trans h.et, h.g1, h.g2, h.g3⟩
  obtain ⟨m, hm⟩ := h.mx
  exact ⟨m, (hb.cell (p := ⟨1, 0, none⟩) (Nat.lt_trans h.g2 hw)).trans hm⟩
theorem eq_self (l : List UInt8) : ((ByteArray.mk l.toArray).toList == (ByteArray.mk l.toArray).toList) = true := by simp
set_option maxRecDepth 100000 in
set_option maxHeartbeats 8000000 in
theorem pk_rest {N : List UInt8} {pa pl a : Int} {By : Nat} {xa xl : Int} {w wx : World} {c1 c3 c4 c6 c7 c8 c9 c11 c12 c13 c14 c15 c16 c18 c19 c20 c21 c22 c23 c24 c25 c26 c27 c28 c29 c30 c31 c32 c33 c34 c35 c36 c37 c38 c39 c40 c41 c42 c43 c44 c45 c46 c47 c48 c49 c50 c51 c52 c53 c54 c55 c56 c57 c58 c59 c60 c61 c62 c63 c64 c65 c66 c67 c68 c69 c70 c71 c72 c73 c74 c75 c76 c77 c78 c79 c80 c81 c82 c83 c84 c85 c86 c87 c88 c89 c90 c91 c92 c93 c94 c95 c96 c97 c98 c99 c100 c101 c102 c103 c104 c105 c106 c107 c108 c109 c110 c111 c112 c113 c114 c115 c116 c117 c118 c119 c120 c121 c122 c123 c124 c125 c126 c127 c128 c129 c130 c131 c132 c133 : Value} (hk : Kk w wx pa pl) (hy : Pf2 wx By xa xl) (hBy : w.heap.size < By) :
    Code.wp Tryd.prog (dropSeq 12 (Tryd.f3.body.getD .skip)) (bodyPost Tryd.prog Tryd.f3 fun e w' => e = .returned (.bool true) ∧ Below w.heap.size w w') ⟨#[.string ⟨N.toArray⟩, c1, .int .i64 a, c3, c4, .pointer (some ⟨w.heap.size, 0, none⟩), c6, c7, c8, c9, .bool (Bur.isN N), c11, c12, c13, c14, c15, c16, .pointer (some ⟨By, 0, none⟩), c18, c19, c20, c21, c22, c23, c24, c25, c26, c27, c28, c29, c30, c31, c32, c33, c34, c35, c36, c37, c38, c39, c40, c41, c42, c43, c44, c45, c46, c47, c48, c49, c50, c51, c52, c53, c54, c55, c56, c57, c58, c59, c60, c61, c62, c63, c64, c65, c66, c67, c68, c69, c70, c71, c72, c73, c74, c75, c76, c77, c78, c79, c80, c81, c82, c83, c84, c85, c86, c87, c88, c89, c90, c91, c92, c93, c94, c95, c96, c97, c98, c99, c100, c101, c102, c103, c104, c105, c106, c107, c108, c109, c110, c111, c112, c113, c114, c115, c116, c117, c118, c119, c120, c121, c122, c123, c124, c125, c126, c127, c128, c129, c130, c131, c132, c133], []⟩ wx := by
  conv => arg 2; whnf
  have hA := fun W => refIsAddr a W
  cases hn : Bur.isN N with
  | false =>
    clear hn
    go_wp2_with (go_at_call 9; refine (hA _).mono ?_; rintro e w1 ⟨rfl, rfl⟩)
    go_ret
    exact ⟨rfl, hk.bw⟩
  | true =>
    obtain ⟨n0, n8, _⟩ := Bur.isN_ok hn
    have hF := fun W => refFault pa pl W
    have ⟨p0, p1, _, _⟩ := hk.p
    by_cases hf : Bur.fault pa pl = 0
    · cases ha : Bur.isA a with
      | false =>
        rw [hf] at hF
        rw [ha] at hA
        clear hn hf ha
        go_wp2_with (first
          | (go_at_call 9; refine (hA _).mono ?_; rintro e w1 ⟨rfl, rfl⟩)
          | (go_at_call 10; refine (hF _).mono ?_; rintro e w2 ⟨rfl, hb2⟩))
        go_ret
        exact ⟨rfl, below_via hk.bw hb2⟩
      | true =>
        obtain ⟨a0, a1⟩ := Bur.isA_true ha
        obtain ⟨l0, l1, b0, b1, _⟩ := Bur.fault_ok hf
        obtain ⟨hback, hname⟩ := Bur.pk_back hn hf
        rw [ha] at hA
        rw [hf] at hF
        have hs : (ByteArray.mk N.toArray).size ≤ 1000 := by show N.toArray.size ≤ 1000; simp; omega
        have hPK := fun W hT => plPrefixKey ⟨N.toArray⟩ pa pl W hT hs b0 b1 l0 (by omega)
        have hlen : (Bur.pfxK N pa pl).length < 4294967281 := by
          have h8 := Bur.hxK_len 8 pa.toNat
          simp [Bur.pfxK, Bur.d2]; omega
        have hRP := fun W hM => plReadPrefix (Bur.pfxK N pa pl) W hlen hM
        rw [hback, hname] at hRP
        have hRP' : ∀ (W : World), MaxL W → Calls Tryd.prog 8 #[.string ⟨(Bur.pfxK N pa pl).toArray⟩] W fun e w' => e = .returned (.tuple #[.string ⟨N.toArray⟩, pfx pa pl, .nilIface]) ∧ Below W.heap.size W w' := hRP
        clear hRP hback hname
        have hPK' : ∀ (W : World), Tab W → Calls Tryd.prog 11 #[.string ⟨N.toArray⟩, pfx pa pl] W fun e w' => e = .returned (.string ⟨(Bur.pfxK N pa pl).toArray⟩) ∧ Below W.heap.size W w' := hPK
        have hRK : ∀ (W : World), Calls Tryd.prog 13 #[.string ⟨N.toArray⟩, pfx pa pl] W fun e w' => e = .returned (.string ⟨(Bur.pfxK N pa pl).toArray⟩) ∧ Below W.heap.size W w' := fun W => refPrefixKey ⟨N.toArray⟩ pa pl W hs b0 b1 l0 (by omega)
        have hAK : ∀ (W : World), Tab W → Calls Tryd.prog 14 #[.string ⟨N.toArray⟩, .int .i64 a] W fun e w' => e = .returned (.string ⟨(Bur.adrK N a).toArray⟩) ∧ Below W.heap.size W w' := fun W hT => plAddrKey ⟨N.toArray⟩ a W hT hs a0 a1
        have hRA : ∀ (W : World), Calls Tryd.prog 15 #[.string ⟨N.toArray⟩, .int .i64 a] W fun e w' => e = .returned (.string ⟨(Bur.adrK N a).toArray⟩) ∧ w' = W := fun W => refAddrKey ⟨N.toArray⟩ a W hs a0 a1
        have hNK : ∀ (W : World), Calls Tryd.prog 12 #[.string ⟨N.toArray⟩] W fun e w' => e = .returned (.string ⟨(Bur.netK N).toArray⟩) ∧ w' = W := fun W => plNetKey ⟨N.toArray⟩ W hs
        have eN : ∀ w : World, (Op.stringOp .add ⟨#[110, 47]⟩ ⟨N.toArray⟩).run Tryd.prog w = .ok (.string ⟨(Bur.netK N).toArray⟩) w := cat (x := [110, 47]) (y := N) rfl (by simp) (by omega)
        have s1 := eq_self N
        have s2 := eq_self (Bur.netK N)
        have s3 := eq_self (Bur.pfxK N pa pl)
        have s4 := eq_self (Bur.adrK N a)
        clear hPK hn hf ha
        generalize Bur.pfxK N pa pl = kp at *
        generalize Bur.adrK N a = ka at *
        generalize Bur.netK N = kn at *
        go_wp2_with (first
          | (go_at_call 9; refine (hA _).mono ?_; rintro e w1 ⟨rfl, rfl⟩)
          | (go_at_call 10; refine (hF _).mono ?_; rintro e w2 ⟨rfl, hb2⟩; have hk2 := hk.step hb2; have hy2 := hy.step hb2; have ⟨p02, p12, _, _⟩ := hk2.p)
          | (go_at_call 11; refine (hPK' _ hk2.tab).mono ?_; rintro e w3 ⟨rfl, hb3⟩; have hk3 := hk2.step hb3; have hy3 := hy2.step hb3)
          | (go_at_call 8; refine (hRP' _ hk3.mx).mono ?_; rintro e w4 ⟨rfl, hb4⟩; have hk4 := hk3.step hb4; have hy4 := hy3.step hb4; have ⟨p04, p14, _, _⟩ := hk4.p; have ⟨y04, y14, g04, g14⟩ := hy4))
        have hbW : Below By w4 ((w4.setCell ⟨By, 0, none⟩ (.int .i64 pa)).setCell ⟨By, 1, none⟩ (.int .i64 pl)) := ((Below.refl By w4).setCell (Nat.le_refl _) _).setCell (Nat.le_refl _) _
        have hk5 := hk4.own hbW hBy
        have ⟨p05, p15, _, _⟩ := hk5.p
        clear hbW hy4 hk4 hk3 hk2 hy3 hy2 p04 p14 p02 p12 y04 y14 g04 g14
        generalize ((w4.setCell ⟨By, 0, none⟩ (.int .i64 pa)).setCell ⟨By, 1, none⟩ (.int .i64 pl)) = W5 at *
        go_region_held3 (fun wy => wy.cell? ⟨w.heap.size, 0, none⟩ = some (.int .i64 pa) ∧ wy.cell? ⟨w.heap.size, 1, none⟩ = some (.int .i64 pl)) (go_simp)
          (first
            | (go_at_call 12; refine (hNK _).mono ?_; rintro e w6 ⟨rfl, rfl⟩)
            | (go_at_call 11; refine (hPK' _ (by exact hk5.tab)).mono ?_; rintro e w7 ⟨rfl, hb7⟩; have hk7 : Kk w w7 pa pl := hk5.step (below_via (below_self W5).drew hb7); have ⟨p07, p17, _, _⟩ := hk7.p)
            | (go_at_call 13; refine (hRK _).mono ?_; rintro e w8 ⟨rfl, hb8⟩; have hk8 := hk7.step hb8; have ⟨p08, p18, _, _⟩ := hk8.p)
            | (go_at_call 14; refine (hAK _ hk8.tab).mono ?_; rintro e w9 ⟨rfl, hb9⟩; have hk9 := hk8.step hb9; have ⟨p09, p19, _, _⟩ := hk9.p)
            | (go_at_call 15; refine (hRA _).mono ?_; rintro e w10 ⟨rfl, rfl⟩))
        go_wp2
        go_ret
        exact ⟨rfl, hk9.bw⟩
    · have hf' : (Bur.fault pa pl == 0) = false := beq_eq_false_iff_ne.2 hf
      have hf2 : (Bur.fault pa pl != 0) = true := by simp [hf]
      generalize Bur.fault pa pl = ff at *
      clear hn
      go_wp2_with (first
        | (go_at_call 9; refine (hA _).mono ?_; rintro e w1 ⟨rfl, rfl⟩)
        | (go_at_call 10; refine (hF _).mono ?_; rintro e w2 ⟨rfl, hb2⟩))
      go_ret
      exact ⟨rfl, below_via hk.bw hb2⟩
end Go.Proofs.YtdokenlljeajmaaDoor
