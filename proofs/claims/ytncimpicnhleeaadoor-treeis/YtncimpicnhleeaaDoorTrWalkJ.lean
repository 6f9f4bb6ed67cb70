/- The contract of slices.Insert at prefixes where there is no room; the whole of it. -/
import Derived.Test.YtncimpicnhleeaaDoorTrWalkI
namespace Go.Proofs.YtncimpicnhleeaaDoor
open Go.RowKit

set_option maxHeartbeats 4000000 in
set_option maxRecDepth 100000 in
/-- There is no room: a new row. -/
theorem ins_grow (B vb g cp i : Nat) (w0 w : World) (l : List Bur.Sp) (x y : Int) (hz : l.length ≤ 60) (hi : i < l.length) (hnc : l.length ≤ cp) (hroom : cp < l.length + 1) (hB : B ≤ w.heap.size)
    (hcs : ∀ j u, (spV l)[j]? = some u → w.cell? ⟨g, j, none⟩ = some u) (hc0 : w.cell? ⟨vb, 0, none⟩ = some (.int .i64 x)) (hc1 : w.cell? ⟨vb, 1, none⟩ = some (.int .i64 y)) (hb : Below B w0 w) :
    Calls Tryd.prog 29 #[.slice (some ⟨g, 0, none⟩) l.length cp, .int .i64 i, .slice (some ⟨vb, 0, none⟩) 1 1] w fun e w' => ∃ (p' : Option Addr) (cap' : Nat), e = .returned (.slice p' (l.length + 1) cap') ∧ SpAt w' p' (l.take i ++ (x, y) :: l.drop i) ∧ Below B w0 w' := by
  obtain ⟨i0, hi0, hz0, hzs, hzb⟩ := info_parts info_pfx
  obtain ⟨n, hn⟩ : ∃ n, l.length = n := ⟨_, rfl⟩
  have hsz : (Tryd.prog.info? 24).map (·.size) = some 2 := by rw [hi0]; simp [hzs]
  have hgw : g < w.heap.size := World.block_lt_of_cell? w ⟨g, 0, none⟩ (hcs 0 _ (spV_at l 0 (by omega)).1)
  have hvw : vb < w.heap.size := World.block_lt_of_cell? w ⟨vb, 0, none⟩ hc0
  have hdl : (spV (l.drop i)).length = (n - i) * 2 := by rw [spV_len, List.length_drop, hn]
  have htl : (spV (l.take i)).length = i * 2 := by rw [spV_len, List.length_take]; omega
  have hold : (Builtin.firstCells i0.size i (.slice (some ⟨g, 0, none⟩) i cp)).run Tryd.prog w.drew = .ok (spV (l.take i)).toArray w.drew := by
    rw [hzs]
    exact run_firstCells_some w.drew 2 i ⟨g, 0, none⟩ i cp (spV (l.take i)) htl (fun j v hj => by
      rw [Addr.add_lit, Nat.zero_add]
      exact hcs j v (spV_take_at hj).1)
  have hkk : (n : Int) + 1 - (i : Int) = ((n + 1 - i : Nat) : Int) := by omega
  have hik : i + (n + 1 - i) = n + 1 := by omega
  rw [hn] at hz hi hnc hroom ⊢
  obtain ⟨G, hG⟩ : ∃ G, G = grownCap w (n + 1) cp 24 := ⟨_, rfl⟩
  obtain ⟨ROW, hROW⟩ : ∃ ROW : Array Value, ROW = (spV (l.take i)).toArray ++ Builtin.zeroCells (Value.agg #[.int .i64 0, .int .i64 0]).cells (n + 1 - i) ++ Builtin.zeroCells (Value.agg #[.int .i64 0, .int .i64 0]).cells (G - (n + 1)) := ⟨_, rfl⟩
  obtain ⟨W1, hW1⟩ : ∃ W1, W1 = w.drew.alloc (.cells ROW 24) := ⟨_, rfl⟩
  have hrz : ∀ ty, (Builtin.append_ #[22, 3] ty #[.slice (some ⟨g, 0, none⟩) i cp, .int .i64 ((n : Int) + 1 - (i : Int))]).run Tryd.prog w = .ok (.slice (some ⟨w.heap.size, 0, none⟩) (n + 1) G) W1 := fun ty => by
    have h := Lib.run_append_grow_zeros w 22 3 ty 24 i0 _ .i64 .i64 Tryd.underlying22 Tryd.underlying3 hi0 hz0 (some ⟨g, 0, none⟩) i cp (spV (l.take i)) hold (n + 1 - i) (by omega) (by omega) (by omega) (by omega) (by rw [hzb]; omega) (by rw [hzb, hik]; exact growslice_fits hroom (by omega))
    rw [hik, ← hG, ← hROW, ← hW1] at h
    rw [hkk]
    exact h
  have hGn : n + 1 ≤ G := by rw [hG]; exact grownCap_ge w _ _ _
  have hG63 : G ≤ 9223372036854775807 := by
    have := grownCap_le_maxLen w (n + 1) cp 24 (by unfold maxLen; omega)
    rw [← hG] at this
    unfold maxLen at this
    omega
  have hRl : (n + 1) * 2 ≤ ROW.size := by
    rw [hROW]
    simp [Builtin.zeroCells, Value.cells, htl]
    omega
  have hN : ∀ j, j < (n + 1) * 2 → (W1.cell? ⟨w.heap.size, j, none⟩).isSome = true := fun j hj => by
    rw [hW1, World.cell?_alloc_at (w := w.drew) ROW _ w.heap.size j rfl, Array.getElem?_eq_getElem (by omega)]; rfl
  have hNf : ∀ j, W1.frozen? ⟨w.heap.size, j, none⟩ = false := fun j => by rw [hW1]; exact World.frozen?_alloc_at (w := w.drew) ROW _ w.heap.size j rfl
  have hT : ∀ j v, (spV (l.take i))[j]? = some v → W1.cell? ⟨w.heap.size, j, none⟩ = some v := fun j v hj => by
    have hlt : j < (spV (l.take i)).length := (List.getElem?_eq_some_iff.1 hj).1
    rw [hW1, World.cell?_alloc_at (w := w.drew) ROW _ w.heap.size j rfl, hROW, Array.append_assoc, Array.getElem?_append_left (by simpa using hlt)]
    simpa using hj
  have hOb : ∀ b j v, b < w.heap.size → w.cell? ⟨b, j, none⟩ = some v → W1.cell? ⟨b, j, none⟩ = some v := fun b j v hb h => by rw [hW1, World.cell?_alloc_past (w := w.drew) _ b j hb]; exact h
  have hb1 : Below B w0 W1 := by rw [hW1]; exact hb.drew.alloc hB _
  have hs1 : w.heap.size < W1.heap.size := by rw [hW1]; simp
  obtain ⟨N, hNN⟩ : ∃ N, w.heap.size = N := ⟨_, rfl⟩
  rw [hNN] at hrz hN hNf hT hgw hvw hB hs1
  have hOb' : ∀ b j v, b < N → w.cell? ⟨b, j, none⟩ = some v → W1.cell? ⟨b, j, none⟩ = some v := by rw [← hNN]; exact hOb
  obtain ⟨W2, hW2⟩ : ∃ W2, W2 = W1.setCells N (i * 2) [.int .i64 x, .int .i64 y] := ⟨_, rfl⟩
  have hcA : ∀ ty dc, (Builtin.copy_ #[22, 22] ty #[.slice (some ⟨N, i * 2, none⟩) (n + 1 - i) dc, .slice (some ⟨vb, 0, none⟩) 1 1]).run Tryd.prog W1 = .ok (goInt (Nat.min 1 (n + 1 - i))) W2 := fun ty dc => by
    rw [hW2]
    exact run_copy2 W1 _ _ ty 24 N (i * 2) (n + 1 - i) dc ⟨vb, 0, none⟩ 1 1 [.int .i64 x, .int .i64 y] Tryd.underlying22 hsz (by simp only [Nat.min_def, List.length_cons, List.length_nil]; split <;> omega)
      (fun j v hj => by
        rw [Addr.add_lit]
        match j, hj with
        | 0, hj => simp at hj; subst hj; exact hOb' _ _ _ hvw hc0
        | 1, hj => simp at hj; subst hj; exact hOb' _ _ _ hvw hc1)
      (fun j hj => hN _ (by simp at hj; omega)) (fun j hj => hNf _) (fun v hv => by simp at hv; rcases hv with rfl | rfl <;> rfl)
  have hN2 : ∀ j, j < (n + 1) * 2 → (W2.cell? ⟨N, j, none⟩).isSome = true := fun j hj => by
    rw [hW2]
    exact isSome_setCells N _ _ W1 (fun t ht => hN _ (by simp at ht; omega)) j (hN j hj)
  obtain ⟨W3, hW3⟩ : ∃ W3, W3 = W2.drew.setCells N ((i + 1) * 2) (spV (l.drop i)) := ⟨_, rfl⟩
  have hcB : ∀ ty dc sc, (Builtin.copy_ #[22, 22] ty #[.slice (some ⟨N, (i + 1) * 2, none⟩) (n - i) dc, .slice (some ⟨g, i * 2, none⟩) (n - i) sc]).run Tryd.prog W2.drew = .ok (goInt (Nat.min (n - i) (n - i))) W3 := fun ty dc sc => by
    rw [hW3]
    exact run_copy2 W2.drew _ _ ty 24 N ((i + 1) * 2) (n - i) dc ⟨g, i * 2, none⟩ (n - i) sc (spV (l.drop i)) Tryd.underlying22 hsz (by rw [hdl]; simp only [Nat.min_def]; split <;> omega)
      (fun j v hj => by
        rw [Addr.add_lit]
        show W2.cell? _ = _
        rw [hW2, World.cell?_setCells_out N _ _ _ _ (fun h _ => absurd h (by show g ≠ N; omega))]
        exact hOb' _ _ _ hgw (hcs _ v (spV_drop_at hj)))
      (fun j hj => hN2 _ (by omega)) (fun j hj => by show W2.frozen? _ = false; rw [hW2, World.frozen?_setCells]; exact hNf _) (spV_one _)
  have fin : Hid (SpAt W3 (some ⟨N, 0, none⟩) (l.take i ++ (x, y) :: l.drop i) ∧ Below B w0 W3) := by
    have hin := World.cell?_setCells_in N [Value.int .i64 x, Value.int .i64 y] (i * 2) W1 (fun t ht => hN _ (by simp at ht; omega))
    have hout : ∀ j, j < (i + 1) * 2 → W3.cell? ⟨N, j, none⟩ = W2.cell? ⟨N, j, none⟩ := fun j hj => by
      rw [hW3, World.cell?_setCells_out N _ _ _ _ (fun _ _ => .inl hj)]
      rfl
    refine ⟨spAt_ins (by omega) ?_ (fun j v hj => ?_) ?_ ?_ (fun j v hj => ?_), ?_⟩
    · rw [hW3, size_setCells]
      show N < W2.heap.size
      rw [hW2, size_setCells]
      exact hs1
    · have hk := (spV_take_at hj).2
      rw [hout j (by omega), hW2, World.cell?_setCells_out N _ _ _ _ (fun _ _ => .inl hk)]
      exact hT j v hj
    · rw [hout _ (by omega), hW2]; exact hin 0 (by simp)
    · rw [hout _ (by omega), hW2]; exact hin 1 (by simp)
    · have hjl : j < (spV (l.drop i)).length := (List.getElem?_eq_some_iff.1 hj).1
      rw [hW3, World.cell?_setCells_in N (spV (l.drop i)) ((i + 1) * 2) W2.drew (fun t ht => hN2 _ (by omega)) j hjl, ← hj]
      exact (List.getElem?_eq_getElem _).symm
    · rw [hW3, hW2]
      exact below_setCells hB _ _ (below_setCells hB _ _ hb1).drew
  have hz2 : ¬ ((i : Int) = (n : Int)) := by omega
  have hz3 : (cp : Int) < (n : Int) + 1 := by omega
  have hGi : ¬ (G = i) := by omega
  have hGim : ¬ (G = i + 1) := by omega
  have hci : ¬ (cp = i) := by omega
  have hw1 : IntKind.i64.wrap ((i : Int) + 1) = (i : Int) + 1 := by rw [IntKind.wrap_i64]; omega
  have hbb1 : (0 : Int) ≤ (i : Int) + 1 := by omega
  have hin : i ≤ n := by omega
  have htn : ((i : Int) + 1).toNat = i + 1 := by omega
  have hbb3 : (i : Int) ≤ (n : Int) := by omega
  have mixed : Tryd.prog.follows Departure.mixedOrders = true := by kernel_rfl
  clear hsz hgw hvw hdl htl hold hkk hik hG hROW hW1 hRl hN hNf hT hOb hOb' hb1 hs1 hNN hW2 hN2 hW3 hcs hc0 hc1 hb hB hi0 hz0 hzs hzb hn
  go_enter Tryd.func29, Tryd.ntmps29
  go_wp2_with (at_builtin; refine Lib.wpList_append_run _ rfl _ _ _ _ rfl _ _ rfl rfl _ _ (hrz _) ?_)
  go_region_law_o (refine step_copy_runI rfl _ _ 22 22 rfl _ _ (by simp [Act.eval, Act.put]) (by simp [Act.eval, Act.put]) (hcB _ _ _) ?_)
  go_wp2
  go_ret
  exact ⟨_, G, rfl, fin.out.1, fin.out.2⟩
end Go.Proofs.YtncimpicnhleeaaDoor
