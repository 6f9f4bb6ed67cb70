/- The walk of the law TreeIs: what has an address. -/
import Derived.Test.YtncimpicnhleeaaDoorTiLawB
namespace Bur
open Go
/-- The fault ahead of the search. -/
def fF1 (l : List Sp) (a : Int) : Int := if treF l = 0 then (if isA a = true then 0 else 1) else treF l
theorem fF1_ok {l : List Sp} {a : Int} (h : fF1 l a = 0) : treF l = 0 ∧ isA a = true := by
  unfold fF1 at h
  split at h
  · rename_i h1
    split at h
    · rename_i h2; exact ⟨h1, h2⟩
    · omega
  · contradiction
theorem fnd_no {l : List Sp} {a : Int} (h : fF1 l a ≠ 0) : fndF l a = fF1 l a ∧ fndS l a = (0, 0) := by
  have e : fndF l a = fF1 l a := by
    unfold fF1 at h ⊢
    unfold fndF
    split
    · rename_i h1
      rw [if_pos h1] at h
      split
      · rename_i h2
        rw [if_pos h2] at h
        exact absurd rfl h
      · rfl
    · rfl
  exact ⟨e, if_neg (by rw [e]; exact h)⟩
theorem fnd_none {l : List Sp} {a : Int} (h : treF l = 0) (ha : isA a = true) (hn : fnd a none l = none) : fndF l a = 4 ∧ fndS l a = (0, 0) := by
  have e : fndF l a = 4 := by unfold fndF; rw [if_pos h, if_pos ha, hn]; rfl
  exact ⟨e, if_neg (by rw [e]; decide)⟩
theorem fnd_some {l : List Sp} {a : Int} {s : Sp} (h : treF l = 0) (ha : isA a = true) (hn : fnd a none l = some s) : fndF l a = 0 ∧ fndS l a = s := by
  have e : fndF l a = 0 := by unfold fndF; rw [if_pos h, if_pos ha, hn]; rfl
  refine ⟨e, ?_⟩
  unfold fndS
  rw [if_pos e, hn]
  rfl
end Bur
namespace Go.Proofs.YtncimpicnhleeaaDoor
open Go.RowKit

set_option maxRecDepth 100000 in
set_option maxHeartbeats 8000000 in
/-- From the answer of Find on. -/
theorem ti3b {l : List Bur.Sp} {q : Option Addr} {cap Bp Bf : Nat} {x y a : Int} {w wx : World} {c1 c3 c5 c6 c8 c9 c11 c12 c13 c15 c16 c17 c18 c19 c20 c21 c22 c23 c24 c25 c26 c27 c28 c29 c30 c31 c32 c33 c34 c35 c36 c37 c38 c39 c40 c41 c42 c43 c44 c45 c46 c47 c48 c49 c50 c51 c52 c53 c54 c55 c56 c57 c58 c59 c60 c61 c62 c63 c64 c65 c66 c67 c68 c69 c70 c71 c72 c73 c74 c75 c76 c77 c78 c79 c80 c81 c82 c83 c84 c85 c86 c87 c88 c89 c90 c91 c92 c93 c94 c95 c96 c97 c98 c99 c100 c101 c102 c103 c104 c105 c106 c107 c108 c109 c110 c111 c112 c113 c114 c115 c116 c117 c118 c119 c120 c121 c122 c123 c124 c125 c126 c127 c128 c129 c130 c131 c132 c133 c134 c135 c136 c137 c138 c139 c140 c141 c142 c143 c144 c145 c146 c147 c148 c149 c150 c151 c152 c153 c154 c155 c156 c157 c158 c159 c160 c161 c162 c163 c164 c165 c166 c167 c168 c169 c170 c171 c172 c173 c174 c175 c176 c177 c178 c179 c180 c181 c182 c183 c184 c185 c186 c187 c188 c189 c190 : Value} (ll : l.length ≤ 9223372036854775807) (sl : SpAt wx q l) (pb : PfAt wx Bp (x, y)) (pf : PfAt wx Bf (Bur.fndS l a)) (hT : ErrType wx) (hb : Below w.heap.size w wx) :
    Code.wp Tryd.prog (dropSeq 19 (Tryd.f3.body.getD .skip)) (bodyPost Tryd.prog Tryd.f3 fun e w' => e = .returned (.bool true) ∧ Below w.heap.size w w') ⟨#[.slice q l.length cap, c1, .int .i64 a, c3, .pointer (some ⟨Bp, 0, none⟩), c5, c6, .int .i64 (Bur.treF l), c8, c9, .int .i64 (Bur.fndF l a), c11, c12, c13, .pointer (some ⟨Bf, 0, none⟩), c15, c16, c17, c18, c19, c20, c21, c22, c23, c24, c25, c26, c27, c28, c29, c30, c31, c32, c33, c34, c35, c36, c37, c38, c39, c40, c41, c42, c43, c44, c45, c46, c47, c48, c49, c50, c51, c52, c53, c54, c55, c56, c57, c58, c59, c60, c61, c62, c63, c64, c65, c66, c67, c68, c69, c70, c71, c72, c73, c74, c75, c76, c77, c78, c79, c80, c81, c82, c83, c84, c85, c86, c87, c88, c89, c90, c91, c92, c93, c94, c95, c96, c97, c98, c99, c100, c101, c102, c103, c104, c105, c106, c107, c108, c109, c110, c111, c112, c113, c114, c115, c116, c117, c118, c119, c120, c121, c122, c123, c124, c125, c126, c127, c128, c129, c130, c131, c132, c133, c134, c135, c136, c137, c138, c139, c140, c141, c142, c143, c144, c145, c146, c147, c148, c149, c150, c151, c152, c153, c154, c155, c156, c157, c158, c159, c160, c161, c162, c163, c164, c165, c166, c167, c168, c169, c170, c171, c172, c173, c174, c175, c176, c177, c178, c179, c180, c181, c182, c183, c184, c185, c186, c187, c188, c189, c190], []⟩ wx := by
  conv => arg 2; whnf
  have HFI := find_any q cap l a wx ll sl
  obtain ⟨u, hu⟩ : ∃ u, (Bur.fndS l a).1 = u := ⟨_, rfl⟩
  obtain ⟨v, hv⟩ : ∃ v, (Bur.fndS l a).2 = v := ⟨_, rfl⟩
  obtain ⟨F, hF⟩ : ∃ F, Bur.fndF l a = F := ⟨_, rfl⟩
  obtain ⟨f0, f1, f2⟩ := pf
  rw [hu] at f1 HFI
  rw [hv] at f2 HFI
  rw [hF] at HFI ⊢
  clear hu hv hF
  have nF : (F == F) = true := by simp
  have nu : (u != u) = false := by simp
  have nv : (v != v) = false := by simp
  go_wp2_with fail
  refine HFI.mono ?_
  rintro e w1 ⟨rfl, hb1⟩
  have b2 : Below wx.heap.size wx (w1.alloc (.cells #[.int .i64 u, .int .i64 v] 24)) := below_al hb1 _
  have hT2 := et_step hT b2
  have sl2 := sl.step b2
  have pb2 := pb.step b2
  have pf2 : PfAt (w1.alloc (.cells #[.int .i64 u, .int .i64 v] 24)) Bf (u, v) := PfAt.step (p := (u, v)) ⟨f0, f1, f2⟩ b2
  have qv2 : PfAt (w1.alloc (.cells #[.int .i64 u, .int .i64 v] 24)) w1.heap.size (u, v) := PfAt.new w1 u v
  have hbA := below_via hb b2
  clear hT sl pb f0 f1 f2 hb hb1 b2 HFI
  go_wp2_with fail
  obtain ⟨Bq, hBq⟩ : ∃ Bq, w1.heap.size = Bq := ⟨_, rfl⟩
  obtain ⟨W2, hW2⟩ : ∃ W2, w1.alloc (.cells #[.int .i64 u, .int .i64 v] 24) = W2 := ⟨_, rfl⟩
  rw [hBq] at qv2 ⊢
  rw [hW2] at hT2 sl2 pb2 pf2 qv2 hbA ⊢
  clear hBq hW2
  refine (error_any F F W2 hT2).mono ?_
  rintro e w3 ⟨rfl, hb3⟩
  rw [nF]
  have hT3 := et_step hT2 hb3
  have sl3 := sl2.step hb3
  have pb3 := pb2.step hb3
  obtain ⟨f0, f1, f2⟩ := pf2.step hb3
  obtain ⟨q0, q1, q2⟩ := qv2.step hb3
  have hbB := below_via hbA hb3
  clear hT2 sl2 pb2 pf2 qv2 hbA hb3
  go_upto_if 121 with fail
  go_cut [6] (fun _ wy => wy = w3)
  case first =>
    go_wp2_with fail
    go_meet
    case rel => exact rfl
  case rest =>
  subst hcut
  refine ‹∀ (a : Act) (w : World), Code.wp _ _ _ a w → _› _ _ ?_
  exact ti4 ll sl3 pb3 hT3 hbB

set_option maxRecDepth 100000 in
set_option maxHeartbeats 8000000 in
theorem ti3 {l : List Bur.Sp} {q : Option Addr} {cap Bp : Nat} {x y a : Int} {w wx : World} {c1 c3 c5 c6 c8 c9 c10 c11 c12 c13 c14 c15 c16 c17 c18 c19 c20 c21 c22 c23 c24 c25 c26 c27 c28 c29 c30 c31 c32 c33 c34 c35 c36 c37 c38 c39 c40 c41 c42 c43 c44 c45 c46 c47 c48 c49 c50 c51 c52 c53 c54 c55 c56 c57 c58 c59 c60 c61 c62 c63 c64 c65 c66 c67 c68 c69 c70 c71 c72 c73 c74 c75 c76 c77 c78 c79 c80 c81 c82 c83 c84 c85 c86 c87 c88 c89 c90 c91 c92 c93 c94 c95 c96 c97 c98 c99 c100 c101 c102 c103 c104 c105 c106 c107 c108 c109 c110 c111 c112 c113 c114 c115 c116 c117 c118 c119 c120 c121 c122 c123 c124 c125 c126 c127 c128 c129 c130 c131 c132 c133 c134 c135 c136 c137 c138 c139 c140 c141 c142 c143 c144 c145 c146 c147 c148 c149 c150 c151 c152 c153 c154 c155 c156 c157 c158 c159 c160 c161 c162 c163 c164 c165 c166 c167 c168 c169 c170 c171 c172 c173 c174 c175 c176 c177 c178 c179 c180 c181 c182 c183 c184 c185 c186 c187 c188 c189 c190 : Value} (ll : l.length ≤ 9223372036854775807) (sl : SpAt wx q l) (pb : PfAt wx Bp (x, y)) (hT : ErrType wx) (hb : Below w.heap.size w wx) :
    Code.wp Tryd.prog (dropSeq 14 (Tryd.f3.body.getD .skip)) (bodyPost Tryd.prog Tryd.f3 fun e w' => e = .returned (.bool true) ∧ Below w.heap.size w w') ⟨#[.slice q l.length cap, c1, .int .i64 a, c3, .pointer (some ⟨Bp, 0, none⟩), c5, c6, .int .i64 (Bur.treF l), c8, c9, c10, c11, c12, c13, c14, c15, c16, c17, c18, c19, c20, c21, c22, c23, c24, c25, c26, c27, c28, c29, c30, c31, c32, c33, c34, c35, c36, c37, c38, c39, c40, c41, c42, c43, c44, c45, c46, c47, c48, c49, c50, c51, c52, c53, c54, c55, c56, c57, c58, c59, c60, c61, c62, c63, c64, c65, c66, c67, c68, c69, c70, c71, c72, c73, c74, c75, c76, c77, c78, c79, c80, c81, c82, c83, c84, c85, c86, c87, c88, c89, c90, c91, c92, c93, c94, c95, c96, c97, c98, c99, c100, c101, c102, c103, c104, c105, c106, c107, c108, c109, c110, c111, c112, c113, c114, c115, c116, c117, c118, c119, c120, c121, c122, c123, c124, c125, c126, c127, c128, c129, c130, c131, c132, c133, c134, c135, c136, c137, c138, c139, c140, c141, c142, c143, c144, c145, c146, c147, c148, c149, c150, c151, c152, c153, c154, c155, c156, c157, c158, c159, c160, c161, c162, c163, c164, c165, c166, c167, c168, c169, c170, c171, c172, c173, c174, c175, c176, c177, c178, c179, c180, c181, c182, c183, c184, c185, c186, c187, c188, c189, c190], []⟩ wx := by
  conv => arg 2; whnf
  go_wp2_with fail
  refine (refIsAddr a _).mono ?_
  rintro e w1 ⟨rfl, rfl⟩
  have b1 : Below wx.heap.size wx (wx.alloc (.cells #[.int .i64 0, .int .i64 0] 24)) := below_al (below_self _) _
  have pf : PfAt (wx.alloc (.cells #[.int .i64 0, .int .i64 0] 24)) wx.heap.size (0, 0) := PfAt.new wx 0 0
  have z0 : (wx.alloc (.cells #[.int .i64 0, .int .i64 0] 24)).frozen? ⟨wx.heap.size, 0, none⟩ = false := by go_simp
  have z1 : (wx.alloc (.cells #[.int .i64 0, .int .i64 0] 24)).frozen? ⟨wx.heap.size, 1, none⟩ = false := by go_simp
  obtain ⟨Bf, hBf⟩ : ∃ Bf, wx.heap.size = Bf := ⟨_, rfl⟩
  obtain ⟨W, hW⟩ : ∃ W, wx.alloc (.cells #[.int .i64 0, .int .i64 0] 24) = W := ⟨_, rfl⟩
  rw [hW] at b1 pf z0 z1 ⊢
  rw [hBf] at pf z0 z1 ⊢
  have HBf : Hid _ := hBf
  clear hW hBf
  obtain ⟨G, hG⟩ : ∃ G, Hid (((Bur.treF l == 0) && !Bur.isA a) = G) := ⟨_, rfl⟩
  go_upto_region 20 with fail
  go_cut [85] from 80 to 84 (fun c wy => c = .bool G ∧ wy = W)
  case first =>
    clear sl pb hT hb b1 pf z0 z1
    cases h0 : (Bur.treF l == 0)
    · have E : Hid (G = false) := by show _ = _; rw [← hG.out, h0]; rfl
      go_wp2_with fail
      go_meet
      case rel => exact ⟨by rw [E.out], rfl⟩
    · have E : Hid (G = !Bur.isA a) := by show _ = _; rw [← hG.out, h0]; rfl
      go_wp2_with fail
      go_meet
      case rel => exact ⟨by rw [E.out], rfl⟩
  case rest =>
  obtain ⟨rfl, hWW⟩ := hcut
  subst hWW
  go_upto_if 85 with fail
  go_cut [10] from 85 to 85 (fun fv wy => fv = .int .i64 (Bur.fF1 l a) ∧ wy = wc)
  case first =>
    clear sl pb hT hb b1 pf z0 z1
    have E : Hid (Bur.fF1 l a = if G = true then 1 else Bur.treF l) := by
      show _ = _
      rw [← hG.out]
      unfold Bur.fF1
      by_cases hF : Bur.treF l = 0
      · cases ha : Bur.isA a
        · simp [hF]
        · simp [hF]
      · simp [hF]
    clear hG
    cases G
    · go_wp2_with fail
      go_meet
      case rel => exact ⟨by rw [E.out]; rfl, rfl⟩
    · go_wp2_with fail
      go_meet
      case rel => exact ⟨by rw [E.out]; rfl, rfl⟩
  case rest =>
  obtain ⟨rfl, hWW⟩ := hcut
  subst hWW
  go_upto_if 87 with fail
  go_cut [10, 16] from 86 to 96 (fun fv _ wy => fv = .int .i64 (Bur.fndF l a) ∧ PfAt wy Bf (Bur.fndS l a) ∧ Below wx.heap.size wx wy)
  case first =>
    by_cases hF : Bur.fF1 l a = 0
    · obtain ⟨t1, t2⟩ := Bur.fF1_ok hF
      obtain ⟨o1, o2⟩ := Bur.treF_ok t1
      have h0 : (Bur.fF1 l a == 0) = true := by simpa using hF
      have slW := sl.step b1
      have HFI := findIn q cap l a wc o1 slW o2.2
      have T1 : Hid _ := t1
      have T2 : Hid _ := t2
      clear hF t1 t2 o2 hb hT pb
      go_wp2_with fail
      refine HFI.mono ?_
      rintro e w2 ⟨c, rfl, J, R, hb2⟩
      have slV := slW.step hb2
      have hb3 := below_via b1 hb2
      obtain ⟨f0, f1, f2⟩ := pf.step hb2
      have y0 : w2.frozen? ⟨Bf, 0, none⟩ = false := (hb2.frozen (p := ⟨Bf, 0, none⟩) pf.1).trans z0
      have y1 : w2.frozen? ⟨Bf, 1, none⟩ = false := (hb2.frozen (p := ⟨Bf, 1, none⟩) pf.1).trans z1
      clear HFI slW pf z0 z1 hb2 b1 sl
      cases c with
      | none =>
        have HS := Bur.fnd_none T1.out T2.out R.out
        have HS1 : Hid _ := HS.1
        have HS2 : Hid _ := HS.2
        have e0 : bst none = -1 := rfl
        rw [e0]
        clear HS e0 J R slV
        go_wp2_with fail
        go_meet
        case rel => exact ⟨by rw [HS1.out], by rw [HS2.out]; exact ⟨f0, f1, f2⟩, hb3⟩
      | some j =>
        have hj := J.out j rfl
        have HS := Bur.fnd_some T1.out T2.out R.out
        have HS1 : Hid _ := HS.1
        have HS2 : Hid _ := HS.2
        have h00 : Hid (Bur.fF1 l a = 0) := by show _ = _; simpa using h0
        have e0 : bst (some j) = (j : Int) := rfl
        rw [e0]
        obtain ⟨b, off, rfl, hbl, hc⟩ := slV (by omega)
        obtain ⟨k0, k1⟩ := hc j hj
        obtain ⟨u, hu⟩ : ∃ u, lo l j = u := ⟨_, rfl⟩
        obtain ⟨v, hv⟩ : ∃ v, hi l j = v := ⟨_, rfl⟩
        rw [hu] at k0
        rw [hv] at k1
        have HU : Hid _ := hu
        have HV : Hid _ := hv
        have hj2 : (0 : Int) ≤ (j : Int) := by omega
        have hj3 : (j : Int) < (l.length : Int) := by omega
        have hjn : ¬ ((j : Int) < 0) := by omega
        have hjd : decide ((j : Int) < 0) = false := by simp
        clear HS e0 J R slV hc hu hv
        go_wp2_with fail
        go_meet
        case rel =>
          refine ⟨by rw [HS1.out, h00.out], ?_, (hb3.setCell (by rw [HBf.out]; exact Nat.le_refl _) _).setCell (by rw [HBf.out]; exact Nat.le_refl _) _⟩
          rw [HS2.out, HU.out, HV.out]
          exact ⟨by simpa using f0, by go_simp, by go_simp⟩
    · have h0 : (Bur.fF1 l a == 0) = false := by simpa using hF
      have HS := Bur.fnd_no hF
      have HS1 : Hid _ := HS.1
      have HS2 : Hid _ := HS.2
      clear hF HS hb hT pb sl z0 z1
      go_wp2_with fail
      go_meet
      case rel => exact ⟨by rw [HS1.out], by rw [HS2.out]; exact pf, b1⟩
  case rest =>
  obtain ⟨rfl, pf2, hb2⟩ := hcut
  refine ‹∀ (a : Act) (w : World), Code.wp _ _ _ a w → _› _ _ ?_
  exact ti3b ll (sl.step hb2) (pb.step hb2) pf2 (et_step hT hb2) (below_via hb hb2)
end Go.Proofs.YtncimpicnhleeaaDoor
