/- The walk of the law CoverFew: its first pieces, and the whole. -/
import Derived.Test.YtfncclkmnkigoaaDoorCfLawA
import Derived.Deep.CutBlock
namespace Bur
theorem cvF_one {a z : Int} (h : cvF [(a, z)] = 0) : 0 ≤ a ∧ a ≤ z ∧ z ≤ 4294967295 ∧ cvS [(a, z)] = cov a z := by
  have hs : setF [(a, z)] = 0 := by
    unfold cvF at h
    split at h
    · assumption
    · contradiction
  have ok := (setF_ok hs).2.2 (a, z) (by simp)
  refine ⟨ok.1, ok.2.1, ok.2.2, ?_⟩
  unfold cvS
  rw [if_pos h]
  simp [cvs]
theorem cov_at {a z : Int} (h0 : 0 ≤ a) (h1 : a ≤ z) (h2 : z ≤ 4294967295) : Tile a (cov a z) z := cov_tile h2 _ _ (Nat.le_refl _) h0 (by omega)
theorem fact16 : cvF [(1, 6)] = 0 ∧ (cvS [(1, 6)]).length = 4 := by decide
end Bur
namespace Go.Proofs.YtfncclkmnkigoaaDoor
open Go.RowKit

set_option maxRecDepth 100000 in
set_option maxHeartbeats 8000000 in
theorem few1 {l : List Bur.Sp} {pp : Option Addr} {cp Bs : Nat} {a z : Int} {w wx : World} {c0 c3 c4 c5 c6 c7 c8 c9 c10 c11 c12 c13 c14 c15 c16 c17 c18 c19 c20 c21 c22 c23 c24 c25 c26 c27 c28 c29 c30 c31 c32 c33 c34 c35 c36 c37 c38 c39 c40 c41 c42 c43 c44 c45 c46 c47 c48 c49 c50 c51 c52 c53 c54 c55 c56 c57 c58 c59 c60 c61 c62 c63 c64 c65 c66 c67 c68 c69 c70 c71 c72 c73 c74 c75 c76 c77 c78 c79 c80 c81 c82 c83 c84 c85 c86 c87 c88 c89 c90 c91 c92 c93 c94 c95 c96 c97 c98 c99 c100 c101 c102 c103 c104 c105 c106 c107 c108 c109 c110 c111 c112 c113 c114 c115 c116 c117 c118 c119 c120 c121 c122 c123 c124 c125 c126 c127 c128 c129 c130 c131 c132 c133 c134 c135 c136 c137 c138 c139 c140 c141 c142 c143 c144 c145 c146 c147 c148 c149 c150 c151 c152 c153 c154 c155 c156 c157 c158 c159 c160 c161 c162 c163 c164 c165 c166 c167 c168 c169 c170 c171 c172 c173 : Value} (ll : l.length ≤ 9223372036854775807) (sl : SpAt wx pp l) (hT : Tab wx) (b0 : wx.cell? ⟨Bs, 0, none⟩ = some (.int .i64 a)) (b1 : wx.cell? ⟨Bs, 1, none⟩ = some (.int .i64 z)) (hb : Below w.heap.size w wx) :
    Code.wp Tryd.prog (dropSeq 3 (Tryd.f5.body.getD .skip)) (bodyPost Tryd.prog Tryd.f5 fun e w' => e = .returned (.bool true) ∧ Below w.heap.size w w') ⟨#[c0, .slice pp l.length cp, .pointer (some ⟨Bs, 0, none⟩), c3, c4, c5, c6, c7, c8, c9, c10, c11, c12, c13, c14, c15, c16, c17, c18, c19, c20, c21, c22, c23, c24, c25, c26, c27, c28, c29, c30, c31, c32, c33, c34, c35, c36, c37, c38, c39, c40, c41, c42, c43, c44, c45, c46, c47, c48, c49, c50, c51, c52, c53, c54, c55, c56, c57, c58, c59, c60, c61, c62, c63, c64, c65, c66, c67, c68, c69, c70, c71, c72, c73, c74, c75, c76, c77, c78, c79, c80, c81, c82, c83, c84, c85, c86, c87, c88, c89, c90, c91, c92, c93, c94, c95, c96, c97, c98, c99, c100, c101, c102, c103, c104, c105, c106, c107, c108, c109, c110, c111, c112, c113, c114, c115, c116, c117, c118, c119, c120, c121, c122, c123, c124, c125, c126, c127, c128, c129, c130, c131, c132, c133, c134, c135, c136, c137, c138, c139, c140, c141, c142, c143, c144, c145, c146, c147, c148, c149, c150, c151, c152, c153, c154, c155, c156, c157, c158, c159, c160, c161, c162, c163, c164, c165, c166, c167, c168, c169, c170, c171, c172, c173], []⟩ wx := by
  conv => arg 2; whnf
  go_wp2_with fail
  refine (coverOf a z wx hT).mono ?_
  rintro e w1 ⟨q, cq, rfl, sq, hb1⟩
  have hT1 := hT.step hb1 hT.lt
  replace sl := sl.step hb1
  have d0 : w1.cell? ⟨Bs, 0, none⟩ = some (.int .i64 a) := (hb1.cell (World.block_lt_of_cell? _ _ b0)).trans b0
  have d1 : w1.cell? ⟨Bs, 1, none⟩ = some (.int .i64 z) := (hb1.cell (World.block_lt_of_cell? _ _ b1)).trans b1
  replace hb := below_via hb hb1
  clear hb1 b0 b1 hT
  obtain ⟨F, hF⟩ : ∃ F, Hid (Bur.cvF [(a, z)] = F) := ⟨_, rfl⟩
  obtain ⟨C, hC⟩ : ∃ C, Hid (Bur.cvS [(a, z)] = C) := ⟨_, rfl⟩
  have hCl : C.length ≤ 200 := by rw [← hC.out]; exact Bur.cvS_len _
  rw [hF.out, hC.out]
  rw [hC.out] at sq
  by_cases hf : F = 0
  · obtain ⟨o0, o1, o2, o3⟩ := Bur.cvF_one (hF.out.trans hf)
    have T : Hid (Bur.Tile a C z) := by rw [← hC.out, o3]; exact Bur.cov_at o0 o1 o2
    have HV : Hid (∀ (i : Nat) (x y : Bur.Sp), C[i]? = some x → C[i + 1]? = some y → x.2 = y.2 → 0 < x.2 ∧ Bur.upA x.1 x.2 ≠ Bur.upA y.1 y.2) := by
      rw [← hC.out, o3]; exact Bur.cov_halves o2 _ _ (Nat.le_refl _) o0
    have OK : Hid (∀ x ∈ C, Bur.OkP x) := T.out.ok
    have E0 : Hid (ev F = .nilIface) := by show _ = _; rw [hf]; rfl
    rw [E0.out]
    clear hf o3 hF hC
    go_upto_if 45 with fail
    go_cut [4, 9, 10, 11, 12, 13, 14, 15, 16, 17] from 46 to 122 (fun _ _ _ _ _ _ _ _ _ _ wy => Below w1.heap.size w1 wy)
    case rest =>
      refine ‹∀ (a : Act) (w : World), Code.wp _ _ _ a w → _› _ _ ?_
      exact few2 ll (sl.step hcut) (hT1.step hcut hT1.lt) (below_via hb hcut)
    case first =>
    clear hT1 sl hb
    go_upto_block 0 with fail
    go_cut [9, 10, 4, 11, 12, 13, 14, 15, 16, 17] from 48 to 117 (fun v _ _ _ _ _ _ _ _ _ wy => v = .int .i64 (z + 1) ∧ Below w1.heap.size w1 wy)
    case rest =>
      obtain ⟨rfl, hb2⟩ := hcut
      have e1 : wc.cell? ⟨Bs, 1, none⟩ = some (.int .i64 z) := (hb2.cell (World.block_lt_of_cell? _ _ d1)).trans d1
      have hne : ((z + 1) != (z + 1)) = false := by simp
      go_wp2_with fail
      go_meet
      case rel => exact hb2
    case first =>
    go_wp2_with fail
    go_loopw [9, 10] (fun v i wr => ∃ (k : Nat) (t : Int), k ≤ C.length ∧ i = .int .i64 k ∧ v = .int .i64 t ∧ Hid (Bur.Tile t (C.drop k) z) ∧ Below w1.heap.size w1 wr) (fun _ i _ => C.length - (intOf i).toNat)
    case atStart => exact ⟨0, a, by omega, rfl, rfl, T, below_self _⟩
    case round =>
      obtain ⟨k, t, hk, rfl, rfl, R, hbw⟩ := hrel
      have hsz := hbw.size
      by_cases hlt : k < C.length
      · have hlt' : (k : Int) < (C.length : Int) := by omega
        obtain ⟨b, off, rfl, hbl, hc⟩ := sq (by omega)
        have hcb2 := bcell hbw
        have c0 : wr.cell? ⟨b, off + k * 2, none⟩ = some (.int .i64 (lo C k)) := (hcb2.1 _ _ hbl).trans (hc k hlt).1
        have c1 : wr.cell? ⟨b, off + k * 2 + 1, none⟩ = some (.int .i64 (hi C k)) := (hcb2.1 _ _ hbl).trans (hc k hlt).2
        have hd0 := drop_sp hlt
        have hCk : C[k]? = some (lo C k, hi C k) := by
          have h := congrArg (fun t => t[0]?) hd0
          simpa using h
        have R1 := R.out
        rw [hd0] at R1
        obtain ⟨r1, r2, r3⟩ := R1
        simp only at r1 r3
        have hf : Bur.fault (lo C k) (hi C k) = 0 := r2
        have pr := r2.parts
        simp only at pr
        have prev : 0 < k → ∃ xp yp, wr.cell? ⟨b, off + (k - 1) * 2, none⟩ = some (.int .i64 xp) ∧ wr.cell? ⟨b, off + (k - 1) * 2 + 1, none⟩ = some (.int .i64 yp) ∧ C[k - 1]? = some (xp, yp) := fun h => by
          have hlt2 : k - 1 < C.length := by omega
          have hd1 := drop_sp hlt2
          have hCp : C[k - 1]? = some (lo C (k - 1), hi C (k - 1)) := by
            have h := congrArg (fun t => t[0]?) hd1
            simpa using h
          exact ⟨_, _, (hcb2.1 _ _ hbl).trans (hc (k - 1) hlt2).1, (hcb2.1 _ _ hbl).trans (hc (k - 1) hlt2).2, hCp⟩
        obtain ⟨x, hx⟩ : ∃ x, lo C k = x := ⟨_, rfl⟩
        obtain ⟨y, hy⟩ : ∃ y, hi C k = y := ⟨_, rfl⟩
        rw [hx] at c0 hCk r1 hf pr
        rw [hy] at c1 hCk r3 hf pr
        subst r1
        obtain ⟨S, hS⟩ : ∃ S, Bur.sz y = S := ⟨_, rfl⟩
        have hSp : 0 < S := by rw [← hS]; exact Bur.sz_pos y
        rw [hS] at r3 pr
        have R2 : Hid (Bur.Tile (x + S) (C.drop (k + 1)) z) := r3
        have e1 : Hid (ev (Bur.fault x y) = .nilIface) := by show _ = _; rw [hf]; rfl
        have e2 : Hid (Bur.endA x y = x) := if_pos hf
        have e3 : Hid (Bur.endB x y = x + (S - 1)) := by show _ = _; rw [← hS]; exact if_pos hf
        have uf : ∀ {x y : Int}, Bur.fault x y = 0 → 0 < y → ev (Bur.upF x y) = .nilIface := fun h h2 => by
          rw [show Bur.upF _ _ = 0 from by unfold Bur.upF; rw [if_neg (by omega)]; exact h]; rfl
        have U1 : Hid _ := @uf
        have hCK : Hid _ := hCk
        have HF : Hid _ := hf
        have PV : Hid _ := prev
        clear R r2 r3 hd0 hc hcb2 hx hy hS hf hCk prev uf T sq
        have hxx : (x != x) = false := by simp
        have hxa : x + (S - 1) + 1 = x + S := by omega
        obtain ⟨W, hW⟩ : ∃ W, W = wr := ⟨_, rfl⟩
        subst hW
        go_wp2_with fail
        refine (ends_any x y W).mono ?_
        rintro e w2 ⟨rfl, hb2⟩
        rw [e1.out, e2.out, e3.out]
        have hbw2 := below_via hbw hb2
        have hbl2 : b < W.heap.size := by omega
        have c0' : w2.cell? ⟨b, off + k * 2, none⟩ = some (.int .i64 x) := (hb2.cell (p := ⟨b, off + k * 2, none⟩) hbl2).trans c0
        have c1' : w2.cell? ⟨b, off + k * 2 + 1, none⟩ = some (.int .i64 y) := (hb2.cell (p := ⟨b, off + k * 2 + 1, none⟩) hbl2).trans c1
        have hsz2 := hb2.size
        clear c0 c1 hbw
        by_cases hk0 : 0 < k
        · obtain ⟨xp, yp, p0, p1, hCp⟩ := PV.out hk0
          have p0' : w2.cell? ⟨b, off + (k - 1) * 2, none⟩ = some (.int .i64 xp) := (hb2.cell (p := ⟨b, off + (k - 1) * 2, none⟩) hbl2).trans p0
          have p1' : w2.cell? ⟨b, off + (k - 1) * 2 + 1, none⟩ = some (.int .i64 yp) := (hb2.cell (p := ⟨b, off + (k - 1) * 2 + 1, none⟩) hbl2).trans p1
          have hkk : ((k : Int) == 0) = false := by simp; omega
          have a1 : (0 : Int) ≤ (k : Int) - 1 := by omega
          have a2 : (k : Int) - 1 < (C.length : Int) := by omega
          have a3 : ((k : Int) - 1).toNat = k - 1 := by omega
          have a4 : IntKind.i64.wrap ((k : Int) - 1) = (k : Int) - 1 := Bur.wrap_i64_id _ (by omega) (by omega)
          have HVk : Hid (yp = y → 0 < yp ∧ Bur.upA xp yp ≠ Bur.upA x y) := fun h => HV.out (k - 1) (xp, yp) (x, y) hCp (by rw [show k - 1 + 1 = k from by omega]; exact hCK.out) h
          have OKp : Hid (Bur.fault xp yp = 0) := OK.out (xp, yp) (List.mem_of_getElem? hCp)
          clear hb2 p0 p1 hCp PV HV OK hCK
          obtain ⟨V, hV⟩ : ∃ V, V = w2 := ⟨_, rfl⟩
          subst hV
          cases hd : (yp != y)
          · have hyy : Hid (yp = y) := by show _ = _; simpa using hd
            have hv := HVk.out hyy.out
            have hy0 : 0 < y := by have := hv.1; rw [hyy.out] at this; exact this
            have hne : (Bur.upA xp yp == Bur.upA x y) = false := by simpa using hv.2
            have V1 : Hid (ev (Bur.upF xp yp) = .nilIface) := U1.out OKp.out hv.1
            have V2 : Hid (ev (Bur.upF x y) = .nilIface) := U1.out HF.out hy0
            clear hv HVk hyy OKp HF U1
            go_upto_region 14 with fail
            go_cut [87] from 72 to 86 (fun c wy => c = .bool false ∧ ∃ n, wy = V.drewN n)
            case first =>
              go_quiet (fail)
              go_wp2_with fail
              go_meet
              case rel => exact ⟨rfl, _, rfl⟩
            case rest =>
            obtain ⟨rfl, n, hw⟩ := hcut
            have hb3 := below_drewN hbw2 n
            have g0 : (V.drewN n).cell? ⟨b, off + k * 2, none⟩ = some (.int .i64 x) := c0'
            have g1 : (V.drewN n).cell? ⟨b, off + k * 2 + 1, none⟩ = some (.int .i64 y) := c1'
            have g2 : (V.drewN n).cell? ⟨b, off + (k - 1) * 2, none⟩ = some (.int .i64 xp) := p0'
            have g3 : (V.drewN n).cell? ⟨b, off + (k - 1) * 2 + 1, none⟩ = some (.int .i64 yp) := p1'
            have hbl3 : b < (V.drewN n).heap.size := by show b < V.heap.size; omega
            rw [← hw] at hb3 g0 g1 g2 g3 hbl3
            clear hw c0' c1' p0' p1' hbw2
            obtain ⟨U, hU⟩ : ∃ U, U = wc := ⟨_, rfl⟩
            subst hU
            go_wp2_with fail
            refine (up_any xp yp U).mono ?_
            rintro e w3 ⟨rfl, hb4⟩
            rw [V1.out]
            have g0' : (w3.alloc (.cells #[.int .i64 (Bur.upA xp yp), .int .i64 (Bur.upL xp yp)] 46)).cell? ⟨b, off + k * 2, none⟩ = some (.int .i64 x) := (World.cell?_alloc_lt _ _ _ (by show b < w3.heap.size; have := hb4.size; omega)).trans ((hb4.cell (p := ⟨b, off + k * 2, none⟩) hbl3).trans g0)
            have g1' : (w3.alloc (.cells #[.int .i64 (Bur.upA xp yp), .int .i64 (Bur.upL xp yp)] 46)).cell? ⟨b, off + k * 2 + 1, none⟩ = some (.int .i64 y) := (World.cell?_alloc_lt _ _ _ (by show b < w3.heap.size; have := hb4.size; omega)).trans ((hb4.cell (p := ⟨b, off + k * 2 + 1, none⟩) hbl3).trans g1)
            have bx : (w3.alloc (.cells #[.int .i64 (Bur.upA xp yp), .int .i64 (Bur.upL xp yp)] 46)).cell? ⟨w3.heap.size, 0, none⟩ = some (.int .i64 (Bur.upA xp yp)) := by simp
            have hb5 := below_al (below_via hb3 hb4) (.cells #[.int .i64 (Bur.upA xp yp), .int .i64 (Bur.upL xp yp)] 46)
            obtain ⟨A1, hA1⟩ : ∃ A1, Bur.upA xp yp = A1 := ⟨_, rfl⟩
            obtain ⟨L1, hL1⟩ : ∃ L1, Bur.upL xp yp = L1 := ⟨_, rfl⟩
            rw [hA1, hL1] at g0' g1' bx hb5 ⊢
            rw [hA1] at hne
            clear hb4 hb3 g0 g1 g2 g3 hA1 hL1
            go_wp2_with fail
            obtain ⟨Bx, hBx⟩ : ∃ Bx, w3.heap.size = Bx := ⟨_, rfl⟩
            rw [hBx] at bx ⊢
            have hblA : b < (w3.alloc (.cells #[.int .i64 A1, .int .i64 L1] 46)).heap.size := World.block_lt_of_cell? _ _ g0'
            obtain ⟨X, hX⟩ : ∃ X, w3.alloc (.cells #[.int .i64 A1, .int .i64 L1] 46) = X := ⟨_, rfl⟩
            rw [hX] at g0' g1' bx hb5 hblA ⊢
            clear hX hBx
            refine (up_any x y X).mono ?_
            rintro e w4 ⟨rfl, hb6⟩
            rw [V2.out]
            have bx2 : w4.cell? ⟨Bx, 0, none⟩ = some (.int .i64 A1) := (hb6.cell (World.block_lt_of_cell? _ _ bx)).trans bx
            have hBx4 : Bx < w4.heap.size := World.block_lt_of_cell? _ _ bx2
            have hb7 := below_via hb5 hb6
            obtain ⟨A2, hA2⟩ : ∃ A2, Bur.upA x y = A2 := ⟨_, rfl⟩
            rw [hA2] at hne ⊢
            clear hb6 hb5 hA2 g0' g1' bx
            go_wp2_with fail
            exact ⟨⟨k + 1, x + S, by omega, by go_num, by first | rfl | rw [hxa], R2, below_al hb7 _⟩, by simp [intOf]; omega⟩
          · clear HVk OKp HF U1 p0'
            go_upto_region 14 with fail
            go_cut [87] from 72 to 86 (fun c wy => c = .bool true ∧ ∃ n, wy = V.drewN n)
            case first =>
              go_quiet (fail)
              go_wp2_with fail
              go_meet
              case rel => exact ⟨rfl, _, rfl⟩
            case rest =>
            obtain ⟨rfl, n, hw⟩ := hcut
            have hb3 := below_drewN hbw2 n
            rw [← hw] at hb3
            clear hw hbw2
            go_wp2_with fail
            exact ⟨⟨k + 1, x + S, by omega, by go_num, by first | rfl | rw [hxa], R2, hb3⟩, by simp [intOf]; omega⟩
        · have hkk : ((k : Int) == 0) = true := by simp; omega
          clear HF U1 hb2 PV HV OK hCK
          obtain ⟨V, hV⟩ : ∃ V, V = w2 := ⟨_, rfl⟩
          subst hV
          have hk1 : Hid (k + 1 ≤ C.length) := hlt
          have hkM : Hid (C.length - (k + 1) < C.length - k) := by show _ < _; omega
          clear hk0
          go_upto_region 14 with fail
          go_cut [87] from 72 to 86 (fun c wy => c = .bool true ∧ ∃ n, wy = V.drewN n)
          case first =>
            go_quiet (fail)
            go_wp2_with fail
            go_meet
            case rel => exact ⟨rfl, _, rfl⟩
          case rest =>
          obtain ⟨rfl, n, hw⟩ := hcut
          have hb3 := below_drewN hbw2 n
          rw [← hw] at hb3
          clear hw hbw2
          go_wp2_with fail
          exact ⟨⟨k + 1, x + S, by omega, by go_num, by first | rfl | rw [hxa], R2, hb3⟩, by simp [intOf]; omega⟩
      · have hd0 : C.drop k = [] := List.drop_eq_nil_of_le (by omega)
        have hz : t = z + 1 := by have := R.out; rw [hd0] at this; exact this
        subst hz
        clear R T HV OK sq hd0
        go_wp2_with fail
        go_meet
        case rel => exact ⟨rfl, hbw⟩
  · have E0 : Hid (ev F = errN F) := ev_ne hf
    rw [E0.out]
    clear hf sq
    go_upto_if 45 with fail
    go_cut [4, 9, 10, 11, 12, 13, 14, 15, 16, 17] from 46 to 122 (fun _ _ _ _ _ _ _ _ _ _ wy => wy = w1)
    case rest =>
      subst hcut
      refine ‹∀ (a : Act) (w : World), Code.wp _ _ _ a w → _› _ _ ?_
      exact few2 ll sl hT1 hb
    case first =>
    clear hT1 sl hb
    go_wp2_with fail
    go_meet
    case rel => exact rfl

set_option maxRecDepth 100000 in
set_option maxHeartbeats 8000000 in
theorem law_few (a z : Int) (l : List Bur.Sp) (pp : Option Addr) (cp : Nat) (w : World) (ll : l.length ≤ 9223372036854775807) (sl : SpAt w pp l) (hT : Tab w) :
    Calls Tryd.prog 5 #[pfx a z, .slice pp l.length cp] w fun e w' => e = .returned (.bool true) ∧ Below w.heap.size w w' := by
  have hlt := hT.lt
  go_enter Tryd.func5, Tryd.ntmps5
  go_wp2_with fail
  have x0 : (w.alloc (.cells #[.int .i64 a, .int .i64 z] 26)).cell? ⟨w.heap.size, 0, none⟩ = some (.int .i64 a) := by simp
  have x1 : (w.alloc (.cells #[.int .i64 a, .int .i64 z] 26)).cell? ⟨w.heap.size, 1, none⟩ = some (.int .i64 z) := by simp
  have hb0 : Below w.heap.size w (w.alloc (.cells #[.int .i64 a, .int .i64 z] 26)) := below_al (below_self _) _
  refine (coverOf 1 6 _ (hT.step hb0 hlt)).mono ?_
  rintro e w1 ⟨q, cq, rfl, sq, hb1⟩
  have d0 := (hb1.cell (World.block_lt_of_cell? _ _ x0)).trans x0
  have d1 := (hb1.cell (World.block_lt_of_cell? _ _ x1)).trans x1
  have hb2 := below_via hb0 hb1
  rw [Bur.fact16.1, Bur.fact16.2, ev_0]
  clear x0 x1 hb0 hb1 sq
  go_upto_if 38 with fail
  go_cut [4] (fun _ wy => wy = w1)
  case first =>
    go_wp2_with fail
    go_meet
    case rel => exact rfl
  case rest =>
  subst hcut
  refine ‹∀ (a : Act) (w : World), Code.wp _ _ _ a w → _› _ _ ?_
  exact few1 ll (sl.step hb2) (hT.step hb2 hlt) d0 d1 hb2
end Go.Proofs.YtfncclkmnkigoaaDoor
