/- The walk of the law HostNext. -/
import Derived.Test.YtfemehgmfbgejaaHsB
import Derived.Test.YtfemehgmfbgejaaAppInt
import Derived.Deep.CutBlock
namespace Bur
theorem factN : nxF (0, 30) [1] = 0 ∧ nxS (0, 30) [1] = 2 := by decide
/-- What is asked again, when the next one is used, too. -/
theorem more_is {p : Sp} {u : List Int} {x : Int} (h : usF p u = 0) (hx : nxt p u = some x) (hl : (u ++ [x]).length ≤ 200) :
    usF p (u ++ [x]) = 0 ∧ shS p (u ++ [x]) = shp p u + 1 ∧ shA p (u ++ [x]) = alp p ∧ ((nxF p (u ++ [x]) = 4 ∧ shp p u + 1 = alp p) ∨ (nxF p (u ++ [x]) = 0 ∧ x < nxS p (u ++ [x]))) := by
  obtain ⟨h1, h2, h3⟩ := usF_ok h
  have hin := usa_in h1
  obtain ⟨g1, g2, g3, g4, g5, g6⟩ := nxt_some h1 hx
  have e : usF p (u ++ [x]) = 0 := usF_mk h1 hl (fun y hy => by
    rcases List.mem_append.1 hy with hy | hy
    · exact h3 y hy
    · rw [List.mem_singleton.1 hy]; exact isA_mk (by omega) (by omega))
  refine ⟨e, by rw [shS, if_pos e, g5], by rw [shA, if_pos e], ?_⟩
  rw [nxF, if_pos e, nxS, if_pos e]
  cases hb : nxt p (u ++ [x]) with
  | none => exact .inl ⟨rfl, by rw [← g5]; exact shp_none h1 hb⟩
  | some b => exact .inr ⟨rfl, g6 b hb⟩
theorem shp_in {p : Sp} {u : List Int} (h : OkP p) : 0 ≤ shp p u ∧ shp p u ≤ 4294967296 := by
  have hin := usa_in h
  unfold shp
  rw [shr_all]
  have h1 := ct_le (fun x => decide (x ∈ u)) ((usa p).2 - (usa p).1 + 1).toNat (usa p).1
  have h2 : ∀ (q : Int → Bool) (n : Nat) (a : Int), 0 ≤ ct q a n := fun q n => by
    induction n with
    | zero => intro a; simp [ct]
    | succ n ih => intro a; have := ih (a + 1); rw [ct]; split <;> omega
  have := h2 (fun x => decide (x ∈ u)) ((usa p).2 - (usa p).1 + 1).toNat (usa p).1
  omega
end Bur
namespace Go.Proofs.Ytfemehgmfbgejaa
open Go.RowKit

/-- How a slice looks that owns a row. -/
theorem own_form {w : World} {B e size n : Nat} {v : Value} {xs : List Value} (h : w.ownsRow B e size v n xs) : ∃ p cp, v = .slice p n cp := by
  rcases h.2 with ⟨rfl, rfl⟩ | ⟨g, cp, _, rfl, _⟩
  · exact ⟨_, _, rfl⟩
  · exact ⟨_, _, rfl⟩
set_option maxRecDepth 100000 in
set_option maxHeartbeats 8000000 in
theorem hn3 {m : List Int} {q : Option Addr} {cap Bp n : Nat} {a l T A x : Int} {w wx : World} {c0 c1 c3 c4 c5 c6 c9 c11 c12 c13 c15 c16 c17 c18 c19 c20 c21 c22 c23 c24 c25 c26 c27 c28 c29 c30 c31 c32 c33 c34 c35 c36 c37 c38 c39 c40 c41 c42 c43 c44 c45 c46 c47 c48 c49 c50 c51 c52 c53 c54 c55 c56 c57 c58 c59 c60 c61 c62 c63 c64 c65 c66 c67 c68 c69 c70 c71 c72 c73 c74 c75 c76 c77 c78 c79 c80 c81 c82 c83 c84 c85 c86 c87 c88 c89 c90 c91 c92 c93 c94 c95 c96 c97 c98 c99 c100 c101 c102 c103 c104 c105 c106 c107 c108 c109 c110 c111 c112 c113 c114 c115 c116 c117 c118 c119 c120 c121 c122 c123 c124 c125 c126 c127 c128 c129 c130 c131 c132 c133 c134 c135 c136 c137 c138 c139 c140 : Value} (hn : n = m.length) (lm : m.length ≤ 1000000) (hq : InAt wx q m) (pb : Bx wx Bp a l) (T0 : 0 ≤ T) (T1 : T ≤ 4294967296)
    (hS : Hid (m.length ≤ 200 → Bur.usF (a, l) m = 0 ∧ Bur.shS (a, l) m = T + 1 ∧ Bur.shA (a, l) m = A ∧ ((Bur.nxF (a, l) m = 4 ∧ T + 1 = A) ∨ (Bur.nxF (a, l) m = 0 ∧ x < Bur.nxS (a, l) m)))) (hb : Below w.heap.size w wx) :
    Code.wp Try.prog (dropSeq 13 (Try.f3.body.getD .skip)) (bodyPost Try.prog Try.f3 fun e w' => e = .returned (.bool true) ∧ Below w.heap.size w w') ⟨#[c0, c1, .pointer (some ⟨Bp, 0, none⟩), c3, c4, c5, c6, .int .i64 T, .int .i64 A, c9, .int .i64 x, c11, c12, c13, .slice q n cap, c15, c16, c17, c18, c19, c20, c21, c22, c23, c24, c25, c26, c27, c28, c29, c30, c31, c32, c33, c34, c35, c36, c37, c38, c39, c40, c41, c42, c43, c44, c45, c46, c47, c48, c49, c50, c51, c52, c53, c54, c55, c56, c57, c58, c59, c60, c61, c62, c63, c64, c65, c66, c67, c68, c69, c70, c71, c72, c73, c74, c75, c76, c77, c78, c79, c80, c81, c82, c83, c84, c85, c86, c87, c88, c89, c90, c91, c92, c93, c94, c95, c96, c97, c98, c99, c100, c101, c102, c103, c104, c105, c106, c107, c108, c109, c110, c111, c112, c113, c114, c115, c116, c117, c118, c119, c120, c121, c122, c123, c124, c125, c126, c127, c128, c129, c130, c131, c132, c133, c134, c135, c136, c137, c138, c139, c140], []⟩ wx := by
  subst hn
  conv => arg 2; whnf
  have pb0 := pb
  obtain ⟨p0, p1, p2, p3⟩ := pb
  by_cases h200 : 200 < m.length
  · clear hS
    go_wp2_with fail
    go_ret
    exact ⟨rfl, hb⟩
  · obtain ⟨s1, s2, s3, s4⟩ := hS.out (by omega)
    have E1 : Hid (ev (Bur.usF (a, l) m) = .nilIface) := by show _ = _; rw [s1]; rfl
    have S2 : Hid _ := s2
    have S3 : Hid _ := s3
    clear hS s1 s2 s3
    go_wp2_with fail
    refine (share a l m q cap wx (by omega) hq).mono ?_
    rintro e w1 ⟨rfl, hb1⟩
    obtain ⟨p4, p5, p6, p7⟩ := pb0.step hb1
    replace hq := hq.step hb1
    replace hb := below_via hb hb1
    rw [E1.out, S2.out, S3.out]
    clear hb1 pb0 p0 p1 p2 p3 E1 S2 S3
    go_wp2_with fail
    refine (next a l m q cap w1 (by omega) hq).mono ?_
    rintro e w2 ⟨rfl, hb2⟩
    replace hb := below_via hb hb2
    rcases s4 with ⟨n1, n2⟩ | ⟨n1, n2⟩
    · have E2 : Hid (ev (Bur.nxF (a, l) m) = errN 4) := by show _ = _; rw [n1]; rfl
      rw [E2.out]
      subst n2
      clear n1 E2 hb2 hq p4 p5 p6 p7
      go_wp2_with fail
      go_ret
      exact ⟨rfl, hb⟩
    · have E2 : Hid (ev (Bur.nxF (a, l) m) = .nilIface) := by show _ = _; rw [n1]; rfl
      rw [E2.out]
      obtain ⟨y, hy⟩ : ∃ y, Bur.nxS (a, l) m = y := ⟨_, rfl⟩
      rw [hy] at n2 ⊢
      clear n1 E2 hb2 hq p4 p5 p6 p7 hy
      go_wp2_with fail
      go_ret
      exact ⟨rfl, hb⟩

set_option maxRecDepth 100000 in
set_option maxHeartbeats 8000000 in
theorem hn2 {u : List Int} {p : Option Addr} {cu Bp : Nat} {a l T A x : Int} {w wx : World} {c0 c3 c4 c5 c6 c9 c11 c12 c13 c14 c15 c16 c17 c18 c19 c20 c21 c22 c23 c24 c25 c26 c27 c28 c29 c30 c31 c32 c33 c34 c35 c36 c37 c38 c39 c40 c41 c42 c43 c44 c45 c46 c47 c48 c49 c50 c51 c52 c53 c54 c55 c56 c57 c58 c59 c60 c61 c62 c63 c64 c65 c66 c67 c68 c69 c70 c71 c72 c73 c74 c75 c76 c77 c78 c79 c80 c81 c82 c83 c84 c85 c86 c87 c88 c89 c90 c91 c92 c93 c94 c95 c96 c97 c98 c99 c100 c101 c102 c103 c104 c105 c106 c107 c108 c109 c110 c111 c112 c113 c114 c115 c116 c117 c118 c119 c120 c121 c122 c123 c124 c125 c126 c127 c128 c129 c130 c131 c132 c133 c134 c135 c136 c137 c138 c139 c140 : Value} (lu : u.length ≤ 200) (hu : InAt wx p u) (hx : x ∉ u) (pb : Bx wx Bp a l) (T0 : 0 ≤ T) (T1 : T ≤ 4294967296)
    (hS : Hid ((u ++ [x]).length ≤ 200 → Bur.usF (a, l) (u ++ [x]) = 0 ∧ Bur.shS (a, l) (u ++ [x]) = T + 1 ∧ Bur.shA (a, l) (u ++ [x]) = A ∧ ((Bur.nxF (a, l) (u ++ [x]) = 4 ∧ T + 1 = A) ∨ (Bur.nxF (a, l) (u ++ [x]) = 0 ∧ x < Bur.nxS (a, l) (u ++ [x]))))) (hb : Below w.heap.size w wx) :
    Code.wp Try.prog (dropSeq 9 (Try.f3.body.getD .skip)) (bodyPost Try.prog Try.f3 fun e w' => e = .returned (.bool true) ∧ Below w.heap.size w w') ⟨#[c0, .slice p u.length cu, .pointer (some ⟨Bp, 0, none⟩), c3, c4, c5, c6, .int .i64 T, .int .i64 A, c9, .int .i64 x, c11, c12, c13, c14, c15, c16, c17, c18, c19, c20, c21, c22, c23, c24, c25, c26, c27, c28, c29, c30, c31, c32, c33, c34, c35, c36, c37, c38, c39, c40, c41, c42, c43, c44, c45, c46, c47, c48, c49, c50, c51, c52, c53, c54, c55, c56, c57, c58, c59, c60, c61, c62, c63, c64, c65, c66, c67, c68, c69, c70, c71, c72, c73, c74, c75, c76, c77, c78, c79, c80, c81, c82, c83, c84, c85, c86, c87, c88, c89, c90, c91, c92, c93, c94, c95, c96, c97, c98, c99, c100, c101, c102, c103, c104, c105, c106, c107, c108, c109, c110, c111, c112, c113, c114, c115, c116, c117, c118, c119, c120, c121, c122, c123, c124, c125, c126, c127, c128, c129, c130, c131, c132, c133, c134, c135, c136, c137, c138, c139, c140], []⟩ wx := by
  conv => arg 2; whnf
  go_upto_block 0 with (first
    | (at_builtin; refine wpList_append_in rfl _ _ rfl wx.heap.size v1 (0 + u.length) ([] ++ inV u) rfl (hown1.alloc _) (by simp; omega) (some ⟨w1.heap.size, 0, none⟩) 1 [x] rfl (inAt_one _ _ _) (by simp; omega) ?_; intro v2 w2 hown2 hgrow2)
    | (at_builtin; refine wpList_append_in rfl _ _ rfl wx.heap.size (.slice none 0 0) 0 [] rfl (World.ownsRow_nil _ _ _ _) (Nat.le_refl _) p cu u rfl hu (by omega) ?_; intro v1 w1 hown1 hgrow1; have hs1 := hgrow1.size)
    | go_in)
  have hbA : Below wx.heap.size wx w1 := (below_self wx).grown hgrow1 (Nat.le_refl _) (fun j hj => by cases hj)
  have hbB : Below wx.heap.size wx w2 := (below_al hbA _).grown hgrow2 (by simp; omega) (fun j hj => (hown1.lt j hj).1)
  obtain ⟨q, cq, rfl⟩ := own_form hown2
  have hown3 : w2.ownsRow wx.heap.size 3 1 (.slice q (u ++ [x]).length cq) (u ++ [x]).length (inV (u ++ [x])) := by
    simpa [inV] using hown2
  have hq := (inAt_own hown3).2
  replace pb := pb.step hbB
  have hu2 := hu.step hbB
  replace hb := below_via hb hbB
  clear hown1 hown2 hown3 hgrow1 hgrow2 hbA hbB hu
  go_cut [15] from 82 to 93 (fun _ wy => wy = w2)
  case rest =>
    subst hcut
    refine ‹∀ (a : Act) (w : World), Code.wp _ _ _ a w → _› _ _ ?_
    exact hn3 (by simp) (by simp; omega) hq pb T0 T1 hS hb
  case first =>
  clear hS hq pb
  go_wp2_with fail
  go_loopw [15] (fun i wr => ∃ (k : Nat), k ≤ u.length ∧ i = .int .i64 k ∧ wr = w2) (fun i _ => u.length - (intOf i).toNat)
  case atStart => exact ⟨0, by omega, rfl, rfl⟩
  case round =>
    obtain ⟨k, hk, rfl, hw⟩ := hrel
    subst hw
    by_cases hlt : k < u.length
    · have hlt' : (k : Int) < (u.length : Int) := by omega
      obtain ⟨b, off, rfl, hbl, hc⟩ := hu2 (by omega)
      have c0 := hc k hlt
      have hne : u.getD k 0 ≠ x := fun g => hx (by rw [← g]; simp [List.getD, List.getElem?_eq_getElem hlt])
      obtain ⟨z, hz⟩ : ∃ z, z = u.getD k 0 := ⟨_, rfl⟩
      rw [← hz] at c0 hne
      have hd : (z == x) = false := by simpa using hne
      clear hz hc hu2 hx
      go_wp2_with fail
      exact ⟨⟨k + 1, by omega, by go_num, trivial⟩, by simp [intOf]; omega⟩
    · have hk2 : k = u.length := by omega
      clear hu2 hx
      go_wp2_with fail
      go_meet
      case rel => exact rfl

/-- The fact that the law begins with. -/
theorem fact_next (b : Nat) (w : World) (h : b < w.heap.size) (c0 : w.cell? ⟨b, 0, none⟩ = some (.int .i64 1)) :
    Calls Try.prog 4 #[pfx 0 30, .slice (some ⟨b, 0, none⟩) 1 1] w fun e w' => e = .returned (.tuple #[.int .i64 2, .nilIface]) ∧ Below w.heap.size w w' := by
  have hs : InAt w (some ⟨b, 0, none⟩) [1] := fun _ => ⟨b, 0, rfl, h, fun i hi => by
    match i, hi with
    | 0, _ => exact c0⟩
  refine (next 0 30 [1] (some ⟨b, 0, none⟩) 1 w (by decide) hs).mono ?_
  rintro e w' ⟨rfl, hb⟩
  rw [Bur.factN.1, Bur.factN.2, ev_0]
  exact ⟨rfl, hb⟩

set_option maxRecDepth 100000 in
set_option maxHeartbeats 8000000 in
theorem hn1 {u : List Int} {p : Option Addr} {cu Bp : Nat} {a l : Int} {w wx : World} {c0 c3 c4 c5 c6 c7 c8 c9 c10 c11 c12 c13 c14 c15 c16 c17 c18 c19 c20 c21 c22 c23 c24 c25 c26 c27 c28 c29 c30 c31 c32 c33 c34 c35 c36 c37 c38 c39 c40 c41 c42 c43 c44 c45 c46 c47 c48 c49 c50 c51 c52 c53 c54 c55 c56 c57 c58 c59 c60 c61 c62 c63 c64 c65 c66 c67 c68 c69 c70 c71 c72 c73 c74 c75 c76 c77 c78 c79 c80 c81 c82 c83 c84 c85 c86 c87 c88 c89 c90 c91 c92 c93 c94 c95 c96 c97 c98 c99 c100 c101 c102 c103 c104 c105 c106 c107 c108 c109 c110 c111 c112 c113 c114 c115 c116 c117 c118 c119 c120 c121 c122 c123 c124 c125 c126 c127 c128 c129 c130 c131 c132 c133 c134 c135 c136 c137 c138 c139 c140 : Value} (lu : u.length ≤ 9223372036854775807) (hu : InAt wx p u) (pb : Bx wx Bp a l) (hb : Below w.heap.size w wx) :
    Code.wp Try.prog (dropSeq 3 (Try.f3.body.getD .skip)) (bodyPost Try.prog Try.f3 fun e w' => e = .returned (.bool true) ∧ Below w.heap.size w w') ⟨#[c0, .slice p u.length cu, .pointer (some ⟨Bp, 0, none⟩), c3, c4, c5, c6, c7, c8, c9, c10, c11, c12, c13, c14, c15, c16, c17, c18, c19, c20, c21, c22, c23, c24, c25, c26, c27, c28, c29, c30, c31, c32, c33, c34, c35, c36, c37, c38, c39, c40, c41, c42, c43, c44, c45, c46, c47, c48, c49, c50, c51, c52, c53, c54, c55, c56, c57, c58, c59, c60, c61, c62, c63, c64, c65, c66, c67, c68, c69, c70, c71, c72, c73, c74, c75, c76, c77, c78, c79, c80, c81, c82, c83, c84, c85, c86, c87, c88, c89, c90, c91, c92, c93, c94, c95, c96, c97, c98, c99, c100, c101, c102, c103, c104, c105, c106, c107, c108, c109, c110, c111, c112, c113, c114, c115, c116, c117, c118, c119, c120, c121, c122, c123, c124, c125, c126, c127, c128, c129, c130, c131, c132, c133, c134, c135, c136, c137, c138, c139, c140], []⟩ wx := by
  conv => arg 2; whnf
  have pb0 := pb
  obtain ⟨p0, p1, p2, p3⟩ := pb
  go_wp2_with fail
  refine (share a l u p cu wx lu hu).mono ?_
  rintro e w1 ⟨rfl, hb1⟩
  replace pb0 := pb0.step hb1
  have p4 := pb0.c0
  have p5 := pb0.c1
  replace hu := hu.step hb1
  replace hb := below_via hb hb1
  clear hb1 p0 p1 p2 p3
  by_cases hF : Bur.usF (a, l) u = 0
  · have E1 : Hid (ev (Bur.usF (a, l) u) = .nilIface) := by show _ = _; rw [hF]; rfl
    have S2 : Hid (Bur.shS (a, l) u = Bur.shp (a, l) u) := if_pos hF
    have S3 : Hid (Bur.shA (a, l) u = Bur.alp (a, l)) := if_pos hF
    obtain ⟨ok, h200, hA⟩ := Bur.usF_ok hF
    rw [E1.out, S2.out, S3.out]
    have N1 : Bur.nxF (a, l) u = if (Bur.nxt (a, l) u).isSome = true then 0 else 4 := if_pos hF
    have N2 : Bur.nxS (a, l) u = (Bur.nxt (a, l) u).getD 0 := if_pos hF
    obtain ⟨T, hT⟩ : ∃ T, Bur.shp (a, l) u = T := ⟨_, rfl⟩
    obtain ⟨A, hA2⟩ : ∃ A, Bur.alp (a, l) = A := ⟨_, rfl⟩
    rw [hT, hA2]
    cases hn : Bur.nxt (a, l) u with
    | none =>
      have hTA : T = A := by rw [← hT, ← hA2]; exact Bur.shp_none ok hn
      have E2 : Hid (ev (Bur.nxF (a, l) u) = errN 4) := by show _ = _; rw [N1, hn]; rfl
      subst hTA
      clear N1 N2 hn hT hA2 S2 S3 E1 hA ok hF
      go_wp2_with fail
      refine (next a l u p cu w1 lu hu).mono ?_
      rintro e w2 ⟨rfl, hb2⟩
      rw [E2.out]
      replace hb := below_via hb hb2
      clear E2 hb2 hu
      go_wp2_with fail
      go_ret
      exact ⟨rfl, hb⟩
    | some x =>
      obtain ⟨g1, g2, g3, g4, _, _⟩ := Bur.nxt_some ok hn
      have gT := Bur.shp_in (u := u) ok
      have hin := Bur.usa_in ok
      have hS : Hid ((u ++ [x]).length ≤ 200 → Bur.usF (a, l) (u ++ [x]) = 0 ∧ Bur.shS (a, l) (u ++ [x]) = T + 1 ∧ Bur.shA (a, l) (u ++ [x]) = A ∧ ((Bur.nxF (a, l) (u ++ [x]) = 4 ∧ T + 1 = A) ∨ (Bur.nxF (a, l) (u ++ [x]) = 0 ∧ x < Bur.nxS (a, l) (u ++ [x])))) := by
        show _ → _
        rw [← hT, ← hA2]; exact Bur.more_is hF hn
      have E2 : Hid (ev (Bur.nxF (a, l) u) = .nilIface) := by show _ = _; rw [N1, hn]; rfl
      have E3 : Hid (Bur.nxS (a, l) u = x) := by show _ = _; rw [N2, hn]; rfl
      have E4 : Hid (Bur.usS (a, l) = Bur.usa (a, l)) := if_pos (show Bur.fault a l = 0 from ok)
      have E5 : Hid (ev (Bur.fault a l) = .nilIface) := by show _ = _; rw [show Bur.fault a l = 0 from ok]; rfl
      rw [hT] at g4 gT
      rw [hA2] at g4
      clear N1 N2 hn hT hA2 S2 S3 E1 hA ok hF
      go_wp2_with fail
      refine (next a l u p cu w1 lu hu).mono ?_
      rintro e w2 ⟨rfl, hb2⟩
      rw [E2.out, E3.out]
      replace pb0 := pb0.step hb2
      have q4 := pb0.c0
      have q5 := pb0.c1
      replace hu := hu.step hb2
      replace hb := below_via hb hb2
      clear E2 E3 hb2 p4 p5
      go_wp2_with fail
      refine (usable a l w2).mono ?_
      rintro e w3 ⟨rfl, hb3⟩
      rw [E4.out, E5.out]
      replace pb0 := pb0.step hb3
      replace hu := hu.step hb3
      replace hb := below_via hb hb3
      clear E4 E5 hb3 q4 q5
      obtain ⟨x1, hx1⟩ : ∃ x1, (Bur.usa (a, l)).1 = x1 := ⟨_, rfl⟩
      obtain ⟨x2, hx2⟩ : ∃ x2, (Bur.usa (a, l)).2 = x2 := ⟨_, rfl⟩
      rw [hx1, hx2] at hin ⊢
      rw [hx1] at g1
      rw [hx2] at g2
      clear hx1 hx2
      have hu4 := hu.step (below_al (below_self w3) (.cells #[.int .i64 x1, .int .i64 x2] 32))
      have hb4 := below_al hb (.cells #[.int .i64 x1, .int .i64 x2] 32)
      have pb4 := pb0.step (below_al (below_self w3) (.cells #[.int .i64 x1, .int .i64 x2] 32))
      have d1 : decide (x < x1) = false := by simp; omega
      have d2 : decide (x2 < x) = false := by simp; omega
      have d3 : decide (A ≤ T) = false := by simp; omega
      clear hu hb pb0
      go_upto_if 74 with fail
      go_cut [4] (fun _ wy => wy = w3.alloc (.cells #[.int .i64 x1, .int .i64 x2] 32))
      case first =>
        go_wp2_with fail
        go_meet
        case rel => exact rfl
      case rest =>
      subst hcut
      refine ‹∀ (a : Act) (w : World), Code.wp _ _ _ a w → _› _ _ ?_
      exact hn2 h200 hu4 g3 pb4 gT.1 gT.2 hS hb4
  · have E1 : Hid (ev (Bur.usF (a, l) u) = errN (Bur.usF (a, l) u)) := ev_ne hF
    rw [E1.out]
    clear hF E1 hu pb0 p4 p5
    go_wp2_with fail
    go_ret
    exact ⟨rfl, hb⟩

set_option maxRecDepth 100000 in
set_option maxHeartbeats 8000000 in
theorem law_next (a l : Int) (u : List Int) (p : Option Addr) (cu : Nat) (w : World) (lu : u.length ≤ 9223372036854775807) (hu : InAt w p u) :
    Calls Try.prog 3 #[pfx a l, .slice p u.length cu] w fun e w' => e = .returned (.bool true) ∧ Below w.heap.size w w' := by
  have pb := Bx.new w 23 a l
  have hb0 : Below w.heap.size w (w.alloc (.cells #[.int .i64 a, .int .i64 l] 23)) := below_al (below_self _) _
  go_enter Try.func3, Try.ntmps3
  go_wp2_with fail
  refine (fact_next (w.heap.size + 1) _ (by simp) (by go_simp)).mono ?_
  rintro e w1 ⟨rfl, hb1⟩
  replace pb := (pb.step (below_al (below_self _) _)).step hb1
  have hb2 := below_via (below_al hb0 _) hb1
  replace hu := hu.step hb2
  clear hb0 hb1
  obtain ⟨Bp, hBp⟩ : ∃ Bp, w.heap.size = Bp := ⟨_, rfl⟩
  rw [hBp] at pb ⊢
  have n1 : ((2 : Int) != 2) = false := by decide
  go_upto_if 30 with fail
  go_cut [4] (fun _ wy => wy = w1)
  case first =>
    go_wp2_with fail
    go_meet
    case rel => exact rfl
  case rest =>
  subst hcut
  refine ‹∀ (a : Act) (w : World), Code.wp _ _ _ a w → _› _ _ ?_
  exact hn1 lu hu pb hb2
end Go.Proofs.Ytfemehgmfbgejaa
