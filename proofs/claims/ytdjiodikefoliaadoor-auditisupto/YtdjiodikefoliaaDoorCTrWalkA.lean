/- The contracts of cmp.Compare, cmp.Or at two numbers, and tree's order. -/
import Derived.Test.YtdjiodikefoliaaDoorCTrBase
namespace Go.Proofs.YtdjiodikefoliaaDoor.Ta
open Go.RowKit

theorem isNaN (a : Int) (w : World) : Calls Tryd.prog 68 #[.int .i64 a] w fun e w' => e = .returned (.bool false) ∧ w' = w := by
  have h : (a != a) = false := by simp
  go_enter Tryd.func68, Tryd.ntmps68
  go_wp2
  go_ret
  exact ⟨rfl, rfl⟩
theorem compare (a b : Int) (w : World) : Calls Tryd.prog 56 #[.int .i64 a, .int .i64 b] w fun e w' => e = .returned (.int .i64 (Bur.cmI a b)) ∧ w' = w := by
  by_cases h1 : a < b
  · rw [show Bur.cmI a b = -1 from if_pos h1]
    go_enter Tryd.func56, Tryd.ntmps56
    go_wp2_with (go_at_call 68; refine (isNaN _ _).mono ?_; rintro e w1 ⟨rfl, rfl⟩)
    go_ret
    exact ⟨rfl, rfl⟩
  · by_cases h2 : b < a
    · rw [show Bur.cmI a b = 1 from (if_neg h1).trans (if_pos h2)]
      go_enter Tryd.func56, Tryd.ntmps56
      go_wp2_with (go_at_call 68; refine (isNaN _ _).mono ?_; rintro e w1 ⟨rfl, rfl⟩)
      go_ret
      exact ⟨rfl, rfl⟩
    · rw [show Bur.cmI a b = 0 from (if_neg h1).trans (if_neg h2)]
      go_enter Tryd.func56, Tryd.ntmps56
      go_wp2_with (go_at_call 68; refine (isNaN _ _).mono ?_; rintro e w1 ⟨rfl, rfl⟩)
      go_ret
      exact ⟨rfl, rfl⟩

set_option maxHeartbeats 1000000 in
theorem or2 (b : Nat) (x y : Int) (w : World) (c0 : w.cell? ⟨b, 0, none⟩ = some (.int .i64 x)) (c1 : w.cell? ⟨b, 1, none⟩ = some (.int .i64 y)) : Calls Tryd.prog 55 #[.slice (some ⟨b, 0, none⟩) 2 2] w fun e w' => e = .returned (.int .i64 (Bur.orI x y)) ∧ w' = w := by
  go_enter Tryd.func55, Tryd.ntmps55
  go_wp2
  go_loopw [8] (fun i wr => ∃ k : Nat, k ≤ 2 ∧ i = .int .i64 k ∧ wr = w ∧ Hid (0 < k → x = 0) ∧ Hid (1 < k → y = 0)) (fun i _ => 2 - (intOf i).toNat)
  case atStart => exact ⟨0, by omega, rfl, rfl, fun h => by omega, fun h => by omega⟩
  case round =>
    obtain ⟨k, hk, rfl, rfl, h0, h1⟩ := hrel
    match k, hk, h0, h1 with
    | 0, _, _, _ =>
      cases hx : (x != 0)
      · go_wp2
        exact ⟨⟨1, by omega, (by first | rfl | trivial | go_num), (by first | rfl | trivial), fun _ => by simpa using hx, fun h => by omega⟩, by simp [intOf]⟩
      · go_wp2
        go_ret
        exact ⟨by rw [Bur.orI_ne (by simpa using hx)]; rfl, rfl⟩
    | 1, _, h0, _ =>
      have hx : x = 0 := h0.out (by omega)
      cases hy : (y != 0)
      · go_wp2
        exact ⟨⟨2, by omega, (by first | rfl | trivial | go_num), (by first | rfl | trivial), fun _ => hx, fun _ => by simpa using hy⟩, by simp [intOf]⟩
      · go_wp2
        go_ret
        exact ⟨by rw [hx, Bur.orI_0]; rfl, rfl⟩
    | 2, _, h0, h1 =>
      have hx : x = 0 := h0.out (by omega)
      have hy : y = 0 := h1.out (by omega)
      subst hx hy
      go_wp2
      go_ret
      exact ⟨rfl, rfl⟩

set_option maxRecDepth 100000 in
set_option maxHeartbeats 4000000 in
theorem order (p q : Bur.Sp) (w : World) : Calls Tryd.prog 38 #[pfx p.1 p.2, pfx q.1 q.2] w fun e w' => e = .returned (.int .i64 (Bur.ordP p q)) ∧ Below w.heap.size w w' := by
  obtain ⟨a, l⟩ := p
  obtain ⟨a2, l2⟩ := q
  go_enter Tryd.func38, Tryd.ntmps38
  go_wp2
  go_region_held3 (fun wy => wy.cell? ⟨w.heap.size, 0, none⟩ = some (.int .i64 a) ∧ wy.cell? ⟨w.heap.size, 1, none⟩ = some (.int .i64 l) ∧ wy.cell? ⟨w.heap.size + 1, 0, none⟩ = some (.int .i64 a2) ∧ wy.cell? ⟨w.heap.size + 1, 1, none⟩ = some (.int .i64 l2)) (go_simp)
    (first
      | (go_at_call 56; refine (compare _ _ _).mono ?_; rintro e w1 ⟨rfl, rfl⟩)
      | (go_at_call 55; refine (or2 _ (Bur.cmI a a2) (Bur.cmI l l2) _ (by go_simp) (by go_simp)).mono ?_; rintro e w1 ⟨rfl, rfl⟩))
  go_wp2
  go_ret
  exact ⟨rfl, (below_al (below_al (below_al (below_self _) _) _) _).drew⟩
end Go.Proofs.YtdjiodikefoliaaDoor.Ta
