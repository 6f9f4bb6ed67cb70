/- The contracts of package vers' checkVersion, add, Put, Drop, New and Get. -/
import Derived.Test.YtickoadcficdeaaGreatDoorVsWalkB
namespace Go.Proofs.YtickoadcficdeaaGreatDoor
open Go.RowKit Go.Maps Vs

theorem size_0 (k : ByteArray) : k.toList = [] ↔ k.size < 1 := by
  rw [Lib.toList_data, ← List.length_eq_zero_iff, Array.length_toList]
  show k.size = 0 ↔ _
  omega
set_option maxHeartbeats 1000000 in
set_option maxRecDepth 100000 in
theorem checkVersion (B : Nat) (x : Ver) (top : Int) (w : World) (hB : w.cell? ⟨B, 1, none⟩ = some (.int .i64 top)) :
    Calls Tryz.prog 37 #[.pointer (some ⟨B, 0, none⟩), .string x.k, vrV x] w fun e w' => e = .returned (ev (ptF x top)) ∧ Below w.heap.size w w' := by
  obtain ⟨k, v, n, g⟩ := x
  show Calls Tryz.prog 37 #[.pointer (some ⟨B, 0, none⟩), .string k, .agg #[.int .i64 n, .string v, .bool g]] w fun e w' => e = .returned (ev (if shF k v = 0 then (if n < 1 ∨ 1000000 < n then 1 else if n < top then 7 else 0) else 2)) ∧ Below w.heap.size w w'
  by_cases h1 : k.size < 1
  · rw [show shF k v = 2 from if_pos (.inl h1), if_neg (by decide)]
    have g0 := (size_0 k).2 h1
    have g1 : k.toList.isEmpty = true := by rw [g0]; rfl
    go_enter Tryz.func37, Tryz.ntmps37
    go_wp2
    go_ret
    exact ⟨rfl, below_al (below_self _) _⟩
  have g0 : ¬ k.toList = [] := fun e => h1 ((size_0 k).1 e)
  have g1 : k.toList.isEmpty = false := by simpa using g0
  by_cases h2 : 24 < k.size
  · rw [show shF k v = 2 from if_pos (.inr (.inl h2)), if_neg (by decide)]
    go_enter Tryz.func37, Tryz.ntmps37
    go_wp2
    go_ret
    exact ⟨rfl, below_al (below_self _) _⟩
  by_cases h3 : 12 < v.size
  · rw [show shF k v = 2 from if_pos (.inr (.inr h3)), if_neg (by decide)]
    go_enter Tryz.func37, Tryz.ntmps37
    go_wp2
    go_ret
    exact ⟨rfl, below_al (below_self _) _⟩
  rw [show shF k v = 0 from if_neg (by omega), if_pos rfl]
  by_cases h4 : n < 1
  · rw [if_pos (.inl h4)]
    go_enter Tryz.func37, Tryz.ntmps37
    go_wp2
    go_ret
    exact ⟨rfl, below_al (below_self _) _⟩
  by_cases h5 : 1000000 < n
  · rw [if_pos (.inr h5)]
    go_enter Tryz.func37, Tryz.ntmps37
    go_wp2
    go_ret
    exact ⟨rfl, below_al (below_self _) _⟩
  rw [if_neg (by omega)]
  have hB1 : (w.alloc (.cells #[.int .i64 n, .string v, .bool g] 64)).cell? ⟨B, 1, none⟩ = some (.int .i64 top) := (World.cell?_alloc_lt w _ ⟨B, 1, none⟩ (World.block_lt_of_cell? _ _ hB)).trans hB
  by_cases h6 : n < top
  · rw [if_pos h6]
    go_enter Tryz.func37, Tryz.ntmps37
    go_wp2
    go_quiet (fail)
    go_wp2
    go_ret
    exact ⟨rfl, below_drewN (below_al (below_self _) _) _⟩
  · rw [if_neg h6]
    go_enter Tryz.func37, Tryz.ntmps37
    go_wp2
    go_quiet (fail)
    go_wp2
    go_ret
    exact ⟨rfl, below_drewN (below_al (below_self _) _) _⟩
theorem new (w : World) : Calls Tryz.prog 4 #[] w fun e w' => ∃ B, e = .returned (.pointer (some ⟨B, 0, none⟩)) ∧ Tab w' (fun j => w.heap.size ≤ j ∧ j < w'.heap.size) B [] 0 ∧ Below w.heap.size w w' := by
  have hmm := @run_makeMap Tryz.prog
  go_enter Tryz.func4, Tryz.ntmps4
  go_wp2
  go_ret
  refine ⟨w.heap.size + 1, by simp, ⟨⟨by omega, by simp⟩, by simp, by simp, w.heap.size, .map [], by simp, ⟨⟨by omega, by simp; omega⟩, by omega, ⟨0, (World.ownsMap_made _ _ _ _).alloc _⟩, fun s => .inl ⟨rfl, look_empty _⟩, fun s t g n c n' c' e => by rw [look_empty] at e; cases e⟩⟩, below_al (below_al (below_self _) _) _⟩
end Go.Proofs.YtickoadcficdeaaGreatDoor
