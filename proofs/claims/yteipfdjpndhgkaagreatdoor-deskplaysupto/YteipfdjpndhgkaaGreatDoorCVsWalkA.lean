/- The contracts of package vers' small functions: checkSight, between, history's last, upTo, value. -/
import Derived.Test.YteipfdjpndhgkaaGreatDoorCMT
import Derived.Test.YteipfdjpndhgkaaGreatDoorCVsShelfB
import Derived.Shelf.SlSorted.Search
namespace Go.Proofs.YteipfdjpndhgkaaGreatDoor
open Go.RowKit Vs

theorem checkSight (a : Int) (w : World) : Calls Tryz.prog 78 #[.int .i64 a] w fun e w' => e = .returned (ev (atF a)) ∧ w' = w := by
  unfold Vs.atF
  by_cases h1 : a < 0
  · rw [if_pos (.inl h1)]
    go_enter Tryz.func78, Tryz.ntmps78
    go_wp2
    go_ret
    exact ⟨rfl, rfl⟩
  by_cases h2 : 1000000 < a
  · rw [if_pos (.inr h2)]
    go_enter Tryz.func78, Tryz.ntmps78
    go_wp2
    go_ret
    exact ⟨rfl, rfl⟩
  · rw [if_neg (by omega)]
    go_enter Tryz.func78, Tryz.ntmps78
    go_wp2
    go_ret
    exact ⟨rfl, rfl⟩
theorem between (k lo hi : ByteArray) (w : World) : Calls Tryz.prog 80 #[.string k, .string lo, .string hi] w fun e w' => e = .returned (.bool (btw lo hi k)) ∧ w' = w := by
  have g1 := leq_bl lo k
  unfold btw
  generalize bl k lo = c at g1 ⊢
  unfold bl
  cases c <;> cases h2 : Op.bytesLess k.toList hi.toList
  all_goals
    go_enter Tryz.func80, Tryz.ntmps80
    go_wp2
    all_goals go_ret
    all_goals exact ⟨rfl, rfl⟩
theorem last (p : Option Addr) (cap : Nat) (h : List Ver) (w : World) (hz : h.length ≤ 1000) (hp : HiAt w p h) :
    Calls Tryz.prog 126 #[.slice p h.length cap] w fun e w' => e = .returned (.int .i64 (lsN h)) ∧ w' = w := by
  by_cases h0 : h.length = 0
  · rw [List.eq_nil_of_length_eq_zero h0, lsN_nil]
    go_enter Tryz.func126, Tryz.ntmps126
    go_wp2
    go_ret
    exact ⟨rfl, rfl⟩
  · obtain ⟨x, hx, hn⟩ := lsN_at (h := h) (by omega)
    obtain ⟨b, rfl, hb, hc⟩ := hp (by omega)
    obtain ⟨m, hm⟩ : ∃ m, h.length = m + 1 := ⟨h.length - 1, by omega⟩
    have c0 := (hc _ x hx).1
    rw [show h.length - 1 = m from by omega, Nat.zero_add] at c0
    rw [hn, hm]
    rw [hm] at hz
    clear hx hn hc hp h0 hm
    go_enter Tryz.func126, Tryz.ntmps126
    go_wp2
    go_ret
    exact ⟨rfl, rfl⟩
set_option maxHeartbeats 2000000 in
set_option maxRecDepth 100000 in
theorem upTo1 (ba bx b cap : Nat) (h : List Ver) (a : Int) (i : Nat) (x : Ver) (W : World) (hx : h[i]? = some x) (ha : W.cell? ⟨ba, 0, none⟩ = some (sl b h.length cap)) (hb : W.cell? ⟨bx, 0, none⟩ = some (.int .i64 a)) (hc : W.cell? ⟨b, i * 3, none⟩ = some (.int .i64 x.n)) :
    Calls Tryz.prog 150 (#[.int .i64 i] ++ #[.pointer (some ⟨ba, 0, none⟩), .pointer (some ⟨bx, 0, none⟩)]) W fun e w' => e = .returned (.bool (decide (a < x.n))) ∧ ∃ q, w' = W.drewN q := by
  have hi : i < h.length := (List.getElem?_eq_some_iff.1 hx).1
  have hiz : (i : Int) < (h.length : Int) := by omega
  clear hx
  go_enter Tryz.func150, Tryz.ntmps150
  go_wp2
  go_quiet (fail)
  all_goals go_wp2
  all_goals go_ret
  all_goals exact ⟨by first | rfl | simp, _, rfl⟩
set_option maxHeartbeats 2000000 in
set_option maxRecDepth 100000 in
theorem upTo (p : Option Addr) (cap : Nat) (h : List Ver) (a : Int) (w : World) (hz : h.length ≤ 1000) (hu : Up h) (hp : HiAt w p h) :
    Calls Tryz.prog 121 #[.slice p h.length cap, .int .i64 a] w fun e w' => e = .returned (.int .i64 (upN h a)) ∧ Below w.heap.size w w' := by
  obtain ⟨W0, hW0⟩ : ∃ W0, W0 = (w.alloc (.cells #[.slice p h.length cap] 146)).alloc (.cells #[.int .i64 a] 3) := ⟨_, rfl⟩
  have hsize : W0.heap.size = w.heap.size + 1 + 1 := by rw [hW0]; simp
  have ca : W0.cell? ⟨w.heap.size, 0, none⟩ = some (.slice p h.length cap) := by rw [hW0]; exact cell_alloc_sl _ (cell_new_sl w _ _)
  have cx : W0.cell? ⟨w.heap.size + 1, 0, none⟩ = some (.int .i64 a) := by rw [hW0]; have := cell_new_sl (w.alloc (.cells #[.slice p h.length cap] 146)) (.int .i64 a) 3; rwa [World.size_alloc] at this
  have eg : ∀ args w, (callFunc 150 args).run Tryz.prog w = .ok (.enter 150 args) w := enters_of Tryz.func150 (by kernel_rfl) rfl
  have hB0 : Below w.heap.size w W0 := by rw [hW0]; exact ((Below.refl _ w).alloc (Nat.le_refl _) _).alloc (by simp) _
  have hp0 := hp.step hB0
  have hS := Any.sort_Search Tryz.laySearch 150 #[.pointer (some ⟨w.heap.size, 0, none⟩), .pointer (some ⟨w.heap.size + 1, 0, none⟩)] h.length (fun i => match h[i]? with | some x => decide (a < x.n) | none => true) W0 eg (by omega)
    (fun m os i hi => by
      obtain ⟨x, hx⟩ : ∃ x, h[i]? = some x := ⟨h[i], List.getElem?_eq_getElem hi⟩
      obtain ⟨b, rfl, hbl, hc⟩ := hp0 (by omega)
      have cc := (hc i x hx).1
      rw [Nat.zero_add] at cc
      rw [hx]
      exact (upTo1 w.heap.size (w.heap.size + 1) b cap h a i x _ hx (cell_grown (by simp [hsize]; omega) ca m os) (cell_grown (by simp [hsize]) cx m os) (cell_grown hbl cc m os)).mono fun _ _ ⟨he, q, hq⟩ => ⟨he, q, #[], by rw [hq, Sort.grow_empty]⟩)
    (fun i j hij hj hi => by
      obtain ⟨x, hx⟩ : ∃ x, h[i]? = some x := ⟨h[i], List.getElem?_eq_getElem (by omega)⟩
      obtain ⟨y, hy⟩ : ∃ y, h[j]? = some y := ⟨h[j], List.getElem?_eq_getElem hj⟩
      rw [hx] at hi
      rw [hy]
      have h1 := upN_at hu a hx
      have h2 := upN_at hu a hy
      simp only [decide_eq_true_eq] at hi ⊢
      omega)
  rw [upN_cnt h a _ (fun i x hx => by rw [hx])] at hS
  change Calls Tryz.prog 149 _ _ _ at hS
  clear ca cx hp hp0 hu
  generalize upN h a = r at hS ⊢
  go_enter Tryz.func121, Tryz.ntmps121
  go_wp2_with (go_at_call 149; rw [← hW0]; refine hS.mono ?_; rintro e w' ⟨rfl, q, os, rfl⟩)
  go_ret
  refine ⟨rfl, ?_⟩
  rw [← hW0]
  exact hB0.trans (below_grown_sl w.heap.size W0 q os (by omega))
/-- What is seen, by its place. -/
theorem vlH_0 {h : List Ver} {a : Int} (e : upN h a = 0) : vlH h a = none := by rw [vlH, seeH_0 e]
set_option maxHeartbeats 2000000 in
set_option maxRecDepth 100000 in
theorem value (p : Option Addr) (cap : Nat) (h : List Ver) (a : Int) (w : World) (hz : h.length ≤ 1000) (hu : Up h) (hp : HiAt w p h) :
    Calls Tryz.prog 79 #[.slice p h.length cap, .int .i64 a] w fun e w' => e = .returned (.tuple #[.string ((vlH h a).getD ByteArray.empty), .bool (vlH h a).isSome]) ∧ Below w.heap.size w w' := by
  have hS := upTo p cap h a w hz hu hp
  by_cases e0 : upN h a = 0
  · rw [vlH_0 e0]
    rw [e0] at hS
    clear e0 hp hu
    go_enter Tryz.func79, Tryz.ntmps79
    go_wp2_with (go_at_call 121; refine hS.mono ?_; rintro e w' ⟨rfl, hb⟩)
    go_ret2
    exact ⟨rfl, hb⟩
  · obtain ⟨x, hx, hx2⟩ := seeH_at (h := h) (a := a) (by omega)
    have hle := upN_le h a
    obtain ⟨m, hm⟩ : ∃ m, upN h a = m + 1 := ⟨upN h a - 1, by omega⟩
    obtain ⟨b, rfl, hbl, hc⟩ := hp (by omega)
    obtain ⟨_, c1, c2⟩ := hc _ x hx
    rw [show upN h a - 1 = m from by omega, Nat.zero_add] at c1 c2
    have hml : (m : Int) < (h.length : Int) := by omega
    have hV : vlH h a = if x.g = true then none else some x.v := by rw [vlH, hx2]
    rw [hV]
    rw [hm] at hS
    clear hV hx hx2 hle hm e0 hc hp hu
    cases hg : x.g
    · rw [hg] at c2
      rw [if_neg (by simp)]
      go_enter Tryz.func79, Tryz.ntmps79
      go_wp2_with (go_at_call 121; refine hS.mono ?_; rintro e w' ⟨rfl, hb⟩; have d1 := (hb.cell (p := ⟨b, m * 3 + 1, none⟩) hbl).trans c1; have d2 := (hb.cell (p := ⟨b, m * 3 + 2, none⟩) hbl).trans c2)
      go_ret2
      exact ⟨rfl, hb⟩
    · rw [hg] at c2
      rw [if_pos rfl]
      go_enter Tryz.func79, Tryz.ntmps79
      go_wp2_with (go_at_call 121; refine hS.mono ?_; rintro e w' ⟨rfl, hb⟩; have d2 := (hb.cell (p := ⟨b, m * 3 + 2, none⟩) hbl).trans c2)
      go_ret2
      exact ⟨rfl, hb⟩
end Go.Proofs.YteipfdjpndhgkaaGreatDoor
