/- The contract of slices.Insert at prefixes, ahead of the end. -/
import Derived.Test.YtncimpicnhleeaaDoorTrWalkH
import Derived.Deep.CutBlock
namespace Go.Proofs.YtncimpicnhleeaaDoor
open Go.RowKit

set_option maxHeartbeats 4000000 in
set_option maxRecDepth 100000 in
/-- There is room: those behind are shifted. -/
theorem ins_shift (B vb g cp i : Nat) (w0 w : World) (cur : Array Value) (l : List Bur.Sp) (x y : Int) (hz : l.length ≤ 60) (hi : i < l.length) (hroom : l.length + 1 ≤ cp) (hcm : cp ≤ maxLen) (hBg : B ≤ g) (hg : w.heap[g]? = some (.cells cur 24 (0, 0))) (hgs : cur.size = cp * 2)
    (hcs : ∀ j u, (spV l)[j]? = some u → w.cell? ⟨g, j, none⟩ = some u) (hv : w.heap[vb]? = some (.cells #[.int .i64 x, .int .i64 y] 24 (0, 0))) (hne : vb ≠ g) (hb : Below B w0 w) :
    Calls Tryd.prog 29 #[.slice (some ⟨g, 0, none⟩) l.length cp, .int .i64 i, .slice (some ⟨vb, 0, none⟩) 1 1] w fun e w' => ∃ (p' : Option Addr) (cap' : Nat), e = .returned (.slice p' (l.length + 1) cap') ∧ SpAt w' p' (l.take i ++ (x, y) :: l.drop i) ∧ Below B w0 w' := by
  have hz2 : ¬ ((i : Int) = (l.length : Int)) := by omega
  have hr2 : (l.length : Int) + 1 ≤ (cp : Int) := by omega
  unfold maxLen at hcm
  have hw1 : IntKind.i64.wrap ((i : Int) + 1) = (i : Int) + 1 := by rw [IntKind.wrap_i64]; omega
  have hb1 : (0 : Int) ≤ (i : Int) + 1 := by omega
  have hin : i ≤ l.length := by omega
  have htn : ((i : Int) + 1).toNat = i + 1 := by omega
  have hb2 : ¬ (cp = i + 1) := by omega
  have hb3 : (i : Int) ≤ (l.length : Int) + 1 := by omega
  have hb4 : ¬ (cp = i) := by omega
  have hsz : (Tryd.prog.info? 24).map (·.size) = some 2 := by
    obtain ⟨i0, hi0, h0, h1, h2⟩ := info_parts info_pfx
    rw [hi0]; simp [h1]
  have hgl : g < w.heap.size := (Array.getElem?_eq_some_iff.1 hg).1
  have hsp : ∀ j, j < cp * 2 → (w.cell? ⟨g, j, none⟩).isSome = true := fun j hj => by simp [World.cell?, hg, hgs, hj]
  have hfz : ∀ j, w.frozen? ⟨g, j, none⟩ = false := fun j => by simp [World.frozen?, hg]
  have hsa : w.shape? vb = some (24, 2) := by simp [World.shape?, hv]
  have hsb : w.shape? g = some (24, cp * 2) := by simp [World.shape?, hg, hgs]
  have hfa : w.frozen? ⟨vb, 0, none⟩ = false := by simp [World.frozen?, hv]
  have hfe : w.frozen? ⟨vb, 2, none⟩ = false := by simp [World.frozen?, hv]
  have hov : ∀ lb cb, (callFunc 48 #[.slice (some ⟨vb, 0, none⟩) 1 1, .slice (some ⟨g, (i + 1) * 2, none⟩) lb cb]).run Tryd.prog w = .ok (.value (.bool false)) w := fun lb cb => by
    rw [run_callFunc_extern Tryd.func48 (by kernel_rfl) (by kernel_rfl) (by kernel_rfl) (e := Extern.SlicesOverlaps.overlaps #[22, 22] #[4]) (by kernel_rfl),
      Lib.run_overlaps_apart w 22 4 24 Tryd.underlying22 2 Tryd.sizeOf24 ⟨vb, 0, none⟩ ⟨g, (i + 1) * 2, none⟩ 1 1 lb cb hne _ _ _ _ hsa hsb (by omega) hfa hfe]
    rfl
  have hdl : (spV (l.drop i)).length = (l.length - i) * 2 := by rw [spV_len, List.length_drop]
  have hc0 : w.cell? ⟨vb, 0, none⟩ = some (.int .i64 x) := by simp [World.cell?, hv]
  have hc1 : w.cell? ⟨vb, 1, none⟩ = some (.int .i64 y) := by simp [World.cell?, hv]
  have hcp1 : ∀ ty dc sc, (Builtin.copy_ #[22, 22] ty #[.slice (some ⟨g, (i + 1) * 2, none⟩) (l.length - i) dc, .slice (some ⟨g, i * 2, none⟩) (l.length + 1 - i) sc]).run Tryd.prog w.drew = .ok (goInt (Nat.min (l.length + 1 - i) (l.length - i))) (w.drew.setCells g ((i + 1) * 2) (spV (l.drop i))) := fun ty dc sc =>
    run_copy2 w.drew _ _ ty 24 g ((i + 1) * 2) (l.length - i) dc ⟨g, i * 2, none⟩ (l.length + 1 - i) sc (spV (l.drop i)) Tryd.underlying22 hsz (by rw [hdl]; simp only [Nat.min_def]; split <;> omega)
      (fun j v hj => by rw [Addr.add_lit]; exact hcs _ v (spV_drop_at hj))
      (fun j hj => hsp _ (by omega)) (fun j hj => hfz _) (spV_one _)
  obtain ⟨W1, hW1⟩ : ∃ W1, W1 = w.drew.setCells g ((i + 1) * 2) (spV (l.drop i)) := ⟨_, rfl⟩
  have hsp1 : ∀ k, k < cp * 2 → (W1.cell? ⟨g, k, none⟩).isSome = true := fun k hk => by
    rw [hW1]
    exact isSome_setCells g (spV (l.drop i)) ((i + 1) * 2) w.drew (fun j hj => hsp _ (by omega)) k (hsp k hk)
  have hcp2 : ∀ (W : World), (∀ x, W.cell? x = W1.cell? x) → (∀ x, W.frozen? x = W1.frozen? x) → ∀ ty dc, (Builtin.copy_ #[22, 22] ty #[.slice (some ⟨g, i * 2, none⟩) (l.length + 1 - i) dc, .slice (some ⟨vb, 0, none⟩) 1 1]).run Tryd.prog W = .ok (goInt (Nat.min 1 (l.length + 1 - i))) (W.setCells g (i * 2) [.int .i64 x, .int .i64 y]) := fun W hWc hWf ty dc =>
    run_copy2 W _ _ ty 24 g (i * 2) (l.length + 1 - i) dc ⟨vb, 0, none⟩ 1 1 [.int .i64 x, .int .i64 y] Tryd.underlying22 hsz (by simp only [Nat.min_def, List.length_cons, List.length_nil]; split <;> omega)
      (fun j v hj => by
        rw [Addr.add_lit, hWc, hW1, World.cell?_setCells_out g _ _ _ _ (fun h _ => absurd h hne)]
        match j, hj with
        | 0, hj => simp at hj; subst hj; exact hc0
        | 1, hj => simp at hj; subst hj; exact hc1)
      (fun j hj => by rw [hWc]; exact hsp1 _ (by simp at hj; omega)) (fun j hj => by rw [hWf, hW1, World.frozen?_setCells]; exact hfz _) (fun v hv => by simp at hv; rcases hv with rfl | rfl <;> rfl)
  have fin : Hid (∀ W : World, (∀ x, W.cell? x = W1.cell? x) → Below B w0 W → SpAt (W.setCells g (i * 2) [.int .i64 x, .int .i64 y]) (some ⟨g, 0, none⟩) (l.take i ++ (x, y) :: l.drop i) ∧ Below B w0 (W.setCells g (i * 2) [.int .i64 x, .int .i64 y])) := fun W hWc hWb => by
    have hwn := World.cell?_setCells_in g [Value.int .i64 x, Value.int .i64 y] (i * 2) W (fun j hj => by rw [hWc]; exact hsp1 _ (by simp at hj; omega))
    have hgW : g < W.heap.size := World.block_lt_of_cell? W ⟨g, 0, none⟩ (Option.eq_some_of_isSome (by rw [hWc]; exact hsp1 0 (by omega)))
    refine ⟨spAt_ins (by omega) (by rw [size_setCells]; exact hgW) (fun j v hj => ?_) (hwn 0 (by simp)) (hwn 1 (by simp)) (fun j v hj => ?_), below_setCells hBg _ _ hWb⟩
    · obtain ⟨k1, k2⟩ := spV_take_at hj
      rw [World.cell?_setCells_out g _ _ _ _ (fun _ _ => .inl k2), hWc, hW1, World.cell?_setCells_out g _ _ _ _ (fun _ _ => .inl (by show j < _; omega))]
      exact hcs j v k1
    · have hjl : j < (spV (l.drop i)).length := (List.getElem?_eq_some_iff.1 hj).1
      rw [World.cell?_setCells_out g _ _ _ _ (fun _ _ => .inr (by simp; omega)), hWc, hW1, World.cell?_setCells_in g (spV (l.drop i)) ((i + 1) * 2) w.drew (fun t ht => hsp _ (by omega)) j hjl, ← hj]
      exact (List.getElem?_eq_getElem _).symm
  have hbW : Hid (Below B w0 W1) := by rw [hW1]; exact below_setCells hBg _ _ hb.drew
  rw [← hW1] at hcp1
  have hcp3 := hcp2 W1 (fun _ => rfl) (fun _ => rfl)
  clear hg hgs hcs hv hsp hfz hsa hsb hfa hfe hdl hc0 hc1 hsp1 hcp2 hW1 hgl hsz
  have mixed : Tryd.prog.follows Departure.mixedOrders = true := by kernel_rfl
  go_enter Tryd.func29, Tryd.ntmps29
  go_wp2_with (simp only [hov])
  go_region_law_o (refine step_copy_runI rfl _ _ 22 22 rfl _ _ (by simp [Act.eval, Act.put]) (by simp [Act.eval, Act.put]) (hcp1 _ _ _) ?_)
  go_wp2
  go_ret
  obtain ⟨f1, f2⟩ := fin.out W1 (fun _ => rfl) hbW.out
  exact ⟨_, cp, rfl, f1, f2⟩
end Go.Proofs.YtncimpicnhleeaaDoor
