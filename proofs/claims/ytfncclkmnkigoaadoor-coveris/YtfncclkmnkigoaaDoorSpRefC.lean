/- The contract of the reference's edges: its first two loops. -/
import Derived.Test.YtfncclkmnkigoaaDoorSpRefB
namespace Go.Proofs.YtfncclkmnkigoaaDoor
open Go.RowKit

set_option maxRecDepth 100000 in
set_option maxHeartbeats 8000000 in
theorem refEdges2 {l m : List Bur.Sp} {p q : Option Addr} {ca cb : Nat} {w wx : World} {v : Value} {c2 c3 c4 c7 c8 c9 c10 c11 c12 c13 c14 c15 c16 c17 c18 c19 c20 c21 c22 c23 c24 c25 c26 c27 c28 c29 c30 c31 c32 c33 c34 c35 c36 c37 c38 c39 c40 c41 c42 c43 c44 c45 c46 c47 c48 c49 c50 c51 c52 c53 c54 c55 c56 c57 c58 c59 c60 c61 c62 c63 c64 c65 c66 c67 c68 c69 c70 c71 c72 c73 c74 c75 c76 c77 c78 c79 c80 c81 c82 c83 c84 c85 c86 c87 c88 c89 c90 c91 c92 c93 c94 c95 c96 c97 c98 c99 c100 c101 c102 c103 c104 c105 c106 c107 : Value} {E0 : List Int} (hl : m.length ≤ 256) (hA : Bur.InA m) (hs : SpAt w q m)  (hlen : E0.length ≤ 512) (hown : wx.ownsRow w.heap.size 3 1 v E0.length (inV E0)) (hb : Below w.heap.size w wx) :
    Code.wp Tryd.prog (dropSeq 4 (Tryd.f29.body.getD .skip)) (bodyPost Tryd.prog Tryd.f29 (EdP (E0 ++ Bur.edg m) w)) ⟨#[.slice p l.length ca, .slice q m.length cb, c2, c3, c4, .slice none 0 0, v, c7, c8, c9, c10, c11, c12, c13, c14, c15, c16, c17, c18, c19, c20, c21, c22, c23, c24, c25, c26, c27, c28, c29, c30, c31, c32, c33, c34, c35, c36, c37, c38, c39, c40, c41, c42, c43, c44, c45, c46, c47, c48, c49, c50, c51, c52, c53, c54, c55, c56, c57, c58, c59, c60, c61, c62, c63, c64, c65, c66, c67, c68, c69, c70, c71, c72, c73, c74, c75, c76, c77, c78, c79, c80, c81, c82, c83, c84, c85, c86, c87, c88, c89, c90, c91, c92, c93, c94, c95, c96, c97, c98, c99, c100, c101, c102, c103, c104, c105, c106, c107], []⟩ wx := by
  obtain ⟨i0, hin, hz0, hz1, hz2⟩ := info_parts info_int
  conv => arg 2; whnf
  go_upto_block 2 with fail
  go_cut [6, 8] from 31 to 50 (fun v _ wy => wy.ownsRow w.heap.size 3 1 v (E0 ++ Bur.edg m).length (inV (E0 ++ Bur.edg m)) ∧ Below w.heap.size w wy)
  case rest =>
    obtain ⟨hown2, hb2⟩ := hcut
    refine ‹∀ (a : Act) (w : World), Code.wp _ _ _ a w → _› _ _ ?_
    obtain ⟨pq, cq, rfl⟩ := own_form hown2
    have hlen2 : (E0 ++ Bur.edg m).length ≤ 1024 := by rw [List.length_append, Bur.edg_len]; omega
    exact refEdges3 hlen2 (inAt_own hown2).2 hb2
  case first =>
  go_wp2_with fail
  go_loopw [6, 8] (fun v i wr => ∃ k : Nat, k ≤ m.length ∧ i = .int .i64 k ∧ wr.ownsRow w.heap.size 3 1 v (E0.length + 2 * k) (inV (E0 ++ Bur.edg (m.take k))) ∧ Below w.heap.size w wr) (fun _ i _ => m.length - (intOf i).toNat)
  case atStart => exact ⟨0, by omega, rfl, by simpa [Bur.edg] using hown, hb⟩
  case round =>
    obtain ⟨k, hk, rfl, hown2, hb3⟩ := hrel
    have hsz3 := hb3.size
    clear hown hb
    by_cases hlt2 : k < m.length
    · have hlt2' : (k : Int) < (m.length : Int) := by omega
      obtain ⟨b, off, rfl, hbl, hc⟩ := hs (by omega)
      have hcb := bcell hb3
      have c1 : wr.cell? ⟨b, off + k * 2, none⟩ = some (.int .i64 (lo m k)) := (hcb.1 _ _ hbl).trans (hc k hlt2).1
      have c2 : wr.cell? ⟨b, off + k * 2 + 1, none⟩ = some (.int .i64 (hi m k)) := (hcb.1 _ _ hbl).trans (hc k hlt2).2
      have ok := hA (lo m k, hi m k) (by
        have : (lo m k, hi m k) ∈ m.drop k := by rw [drop_sp hlt2]; simp
        exact List.mem_of_mem_drop this)
      simp only at ok
      have x1 : IntKind.i64.wrap (hi m k + 1) = hi m k + 1 := Bur.wrap_i64_id _ (by omega) (by omega)
      have he : Hid _ := edg_take hlt2
      clear hc hcb hs hA
      go_wp2_with fail
      go_region_held3 (fun wy => wy.cell? ⟨b, off + k * 2, none⟩ = some (.int .i64 (lo m k)) ∧ wy.cell? ⟨b, off + k * 2 + 1, none⟩ = some (.int .i64 (hi m k))) (first | exact ⟨hgrow.cell ((World.cell?_alloc_lt _ _ _ (by show b < wr.heap.size; omega)).trans c1) (fun e => by have := (hown2.lt b e.symm).1; omega), hgrow.cell ((World.cell?_alloc_lt _ _ _ (by show b < wr.heap.size; omega)).trans c2) (fun e => by have := (hown2.lt b e.symm).1; omega)⟩ | exact ⟨(World.cell?_alloc_lt _ _ _ (by show b < wr.heap.size; omega)).trans c1, (World.cell?_alloc_lt _ _ _ (by show b < wr.heap.size; omega)).trans c2⟩ | exact ⟨c1, c2⟩)
        (first
          | (refine step_append_lies _ rfl _ _ 62 rfl w.heap.size 3 i0 (.int .i64 0) 1 8 Tryd.underlying62 hin hz0 hz1 hz2 rfl (by decide) _ _ _ rfl (hown2.drew.alloc _) ⟨wr.heap.size, 0, none⟩ 2 2 [.int .i64 (lo m k), .int .i64 (hi m k + 1)] rfl rfl (two_new rfl) two_one (by decide) (by unfold maxLen; omega) (by omega) (by simp; omega) wr.heap.size.succ (by simp) ?_; intro g cap' w2 hown3 hgrow _ _))
      have hb4 : Below w.heap.size w w2 := (below_al hb3.drew _).grown hgrow (by simp; omega) (fun j hj => (hown2.lt j hj).1)
      rw [show E0.length + 2 * k + 2 = E0.length + 2 * (k + 1) from by omega] at hown3
      have hown4 : w2.ownsRow w.heap.size 3 1 (.slice (some ⟨g, 0, none⟩) (E0.length + 2 * k + 2) cap') (E0.length + 2 * (k + 1)) (inV (E0 ++ Bur.edg (m.take (k + 1)))) := by
        rw [he.out, ← List.append_assoc, inV_app]; exact hown3
      clear hown3 hgrow hown2 he c1 c2
      go_wp2_with fail
      exact ⟨⟨k + 1, by omega, by go_num, hown4, hb4⟩, by simp [intOf]; omega⟩
    · have he : m.take k = m := List.take_of_length_le (by omega)
      have hkl : k = m.length := by omega
      have hl2 := Bur.edg_len m
      have hown3 := hown2
      rw [he, hkl, show E0.length + 2 * m.length = (E0 ++ Bur.edg m).length from by rw [List.length_append, hl2]] at hown3
      clear hown2 he hkl hl2 hs hA
      go_wp2_with fail
      go_meet
      case rel => exact ⟨hown3, hb3⟩

set_option maxRecDepth 100000 in
set_option maxHeartbeats 8000000 in
theorem refEdges1 {l m : List Bur.Sp} {p q : Option Addr} {ca cb : Nat} {w wx : World} {v : Value} {c2 c3 c4 c7 c8 c9 c10 c11 c12 c13 c14 c15 c16 c17 c18 c19 c20 c21 c22 c23 c24 c25 c26 c27 c28 c29 c30 c31 c32 c33 c34 c35 c36 c37 c38 c39 c40 c41 c42 c43 c44 c45 c46 c47 c48 c49 c50 c51 c52 c53 c54 c55 c56 c57 c58 c59 c60 c61 c62 c63 c64 c65 c66 c67 c68 c69 c70 c71 c72 c73 c74 c75 c76 c77 c78 c79 c80 c81 c82 c83 c84 c85 c86 c87 c88 c89 c90 c91 c92 c93 c94 c95 c96 c97 c98 c99 c100 c101 c102 c103 c104 c105 c106 c107 : Value} {E0 : List Int} (hl : l.length ≤ 256) (hA : Bur.InA l) (hs : SpAt w p l) (hm : m.length ≤ 256) (hAm : Bur.InA m) (hsm : SpAt w q m) (h0 : Hid (E0 = [])) (hlen : E0.length ≤ 512) (hown : wx.ownsRow w.heap.size 3 1 v E0.length (inV E0)) (hb : Below w.heap.size w wx) :
    Code.wp Tryd.prog (dropSeq 3 (Tryd.f29.body.getD .skip)) (bodyPost Tryd.prog Tryd.f29 (EdP ((E0 ++ Bur.edg l) ++ Bur.edg m) w)) ⟨#[.slice p l.length ca, .slice q m.length cb, c2, c3, c4, .slice none 0 0, v, c7, c8, c9, c10, c11, c12, c13, c14, c15, c16, c17, c18, c19, c20, c21, c22, c23, c24, c25, c26, c27, c28, c29, c30, c31, c32, c33, c34, c35, c36, c37, c38, c39, c40, c41, c42, c43, c44, c45, c46, c47, c48, c49, c50, c51, c52, c53, c54, c55, c56, c57, c58, c59, c60, c61, c62, c63, c64, c65, c66, c67, c68, c69, c70, c71, c72, c73, c74, c75, c76, c77, c78, c79, c80, c81, c82, c83, c84, c85, c86, c87, c88, c89, c90, c91, c92, c93, c94, c95, c96, c97, c98, c99, c100, c101, c102, c103, c104, c105, c106, c107], []⟩ wx := by
  obtain ⟨i0, hin, hz0, hz1, hz2⟩ := info_parts info_int
  conv => arg 2; whnf
  go_upto_block 0 with fail
  go_cut [6, 7] from 11 to 30 (fun v _ wy => wy.ownsRow w.heap.size 3 1 v (E0 ++ Bur.edg l).length (inV (E0 ++ Bur.edg l)) ∧ Below w.heap.size w wy)
  case rest =>
    obtain ⟨hown2, hb2⟩ := hcut
    refine ‹∀ (a : Act) (w : World), Code.wp _ _ _ a w → _› _ _ ?_
    have hlen2 : (E0 ++ Bur.edg l).length ≤ 512 := by rw [List.length_append, Bur.edg_len, h0.out, List.length_nil]; omega
    exact refEdges2 hm hAm hsm hlen2 hown2 hb2
  case first =>
  go_wp2_with fail
  go_loopw [6, 7] (fun v i wr => ∃ k : Nat, k ≤ l.length ∧ i = .int .i64 k ∧ wr.ownsRow w.heap.size 3 1 v (E0.length + 2 * k) (inV (E0 ++ Bur.edg (l.take k))) ∧ Below w.heap.size w wr) (fun _ i _ => l.length - (intOf i).toNat)
  case atStart => exact ⟨0, by omega, rfl, by simpa [Bur.edg] using hown, hb⟩
  case round =>
    obtain ⟨k, hk, rfl, hown2, hb3⟩ := hrel
    have hsz3 := hb3.size
    clear hown hb
    by_cases hlt2 : k < l.length
    · have hlt2' : (k : Int) < (l.length : Int) := by omega
      obtain ⟨b, off, rfl, hbl, hc⟩ := hs (by omega)
      have hcb := bcell hb3
      have c1 : wr.cell? ⟨b, off + k * 2, none⟩ = some (.int .i64 (lo l k)) := (hcb.1 _ _ hbl).trans (hc k hlt2).1
      have c2 : wr.cell? ⟨b, off + k * 2 + 1, none⟩ = some (.int .i64 (hi l k)) := (hcb.1 _ _ hbl).trans (hc k hlt2).2
      have ok := hA (lo l k, hi l k) (by
        have : (lo l k, hi l k) ∈ l.drop k := by rw [drop_sp hlt2]; simp
        exact List.mem_of_mem_drop this)
      simp only at ok
      have x1 : IntKind.i64.wrap (hi l k + 1) = hi l k + 1 := Bur.wrap_i64_id _ (by omega) (by omega)
      have he : Hid _ := edg_take hlt2
      clear hc hcb hs hA
      go_wp2_with fail
      go_region_held3 (fun wy => wy.cell? ⟨b, off + k * 2, none⟩ = some (.int .i64 (lo l k)) ∧ wy.cell? ⟨b, off + k * 2 + 1, none⟩ = some (.int .i64 (hi l k))) (first | exact ⟨hgrow.cell ((World.cell?_alloc_lt _ _ _ (by show b < wr.heap.size; omega)).trans c1) (fun e => by have := (hown2.lt b e.symm).1; omega), hgrow.cell ((World.cell?_alloc_lt _ _ _ (by show b < wr.heap.size; omega)).trans c2) (fun e => by have := (hown2.lt b e.symm).1; omega)⟩ | exact ⟨(World.cell?_alloc_lt _ _ _ (by show b < wr.heap.size; omega)).trans c1, (World.cell?_alloc_lt _ _ _ (by show b < wr.heap.size; omega)).trans c2⟩ | exact ⟨c1, c2⟩)
        (first
          | (refine step_append_lies _ rfl _ _ 62 rfl w.heap.size 3 i0 (.int .i64 0) 1 8 Tryd.underlying62 hin hz0 hz1 hz2 rfl (by decide) _ _ _ rfl (hown2.drew.alloc _) ⟨wr.heap.size, 0, none⟩ 2 2 [.int .i64 (lo l k), .int .i64 (hi l k + 1)] rfl rfl (two_new rfl) two_one (by decide) (by unfold maxLen; omega) (by omega) (by simp; omega) wr.heap.size.succ (by simp) ?_; intro g cap' w2 hown3 hgrow _ _))
      have hb4 : Below w.heap.size w w2 := (below_al hb3.drew _).grown hgrow (by simp; omega) (fun j hj => (hown2.lt j hj).1)
      rw [show E0.length + 2 * k + 2 = E0.length + 2 * (k + 1) from by omega] at hown3
      have hown4 : w2.ownsRow w.heap.size 3 1 (.slice (some ⟨g, 0, none⟩) (E0.length + 2 * k + 2) cap') (E0.length + 2 * (k + 1)) (inV (E0 ++ Bur.edg (l.take (k + 1)))) := by
        rw [he.out, ← List.append_assoc, inV_app]; exact hown3
      clear hown3 hgrow hown2 he c1 c2
      go_wp2_with fail
      exact ⟨⟨k + 1, by omega, by go_num, hown4, hb4⟩, by simp [intOf]; omega⟩
    · have he : l.take k = l := List.take_of_length_le (by omega)
      have hkl : k = l.length := by omega
      have hl2 := Bur.edg_len l
      have hown3 := hown2
      rw [he, hkl, show E0.length + 2 * l.length = (E0 ++ Bur.edg l).length from by rw [List.length_append, hl2]] at hown3
      clear hown2 he hkl hl2 hs hA
      go_wp2_with fail
      go_meet
      case rel => exact ⟨hown3, hb3⟩

set_option maxRecDepth 100000 in
set_option maxHeartbeats 8000000 in
theorem refEdges (p : Option Addr) (ca : Nat) (l : List Bur.Sp) (q : Option Addr) (cb : Nat) (m : List Bur.Sp) (w : World) (hl : l.length ≤ 256) (hm : m.length ≤ 256) (hA : Bur.InA l) (hAm : Bur.InA m) (hs : SpAt w p l) (hsm : SpAt w q m) :
    Calls Tryd.prog 29 #[.slice p l.length ca, .slice q m.length cb] w (EdP (Bur.edg l ++ Bur.edg m) w) := by
  go_enter Tryd.func29, Tryd.ntmps29
  go_upto_region 2 with fail
  go_cut [6] (fun v wy => v = .slice none 0 0 ∧ wy = w)
  case first =>
    go_wp2_with fail
    go_meet
    case rel => exact ⟨rfl, rfl⟩
  case rest =>
  obtain ⟨rfl, rfl⟩ := hcut
  refine ‹∀ (a : Act) (w : World), Code.wp _ _ _ a w → _› _ _ ?_
  exact refEdges1 (E0 := []) hl hA hs hm hAm hsm rfl (by simp) (World.ownsRow_nil _ _ _ _) (below_self _)
end Go.Proofs.YtfncclkmnkigoaaDoor
