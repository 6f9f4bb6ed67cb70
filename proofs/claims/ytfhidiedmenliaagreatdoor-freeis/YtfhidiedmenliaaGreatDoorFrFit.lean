/- The contracts of free's checkLen, fit and tightest. -/
import Derived.Test.YtfhidiedmenliaaGreatDoorSpWalkD
import Derived.Test.YtfhidiedmenliaaGreatDoorFrMath5
namespace Go.Proofs.YtfhidiedmenliaaGreatDoor
open Go.RowKit

theorem checkLen (a z n : Int) (w : World) : Calls Tryz.prog 32 #[pfx a z, .int .i64 n] w fun e w' => e = .returned (ev (Bur.lnF (a, z) n)) ∧ Below w.heap.size w w' := by
  by_cases h : n < z
  · have E : Hid (Bur.lnF (a, z) n = 1) := if_pos (.inl h)
    go_enter Tryz.func32, Tryz.ntmps32
    go_wp2
    go_ret
    exact ⟨by rw [E.out]; rfl, below_al (below_self _) _⟩
  · by_cases h2 : 32 < n
    · have E : Hid (Bur.lnF (a, z) n = 1) := if_pos (.inr h2)
      go_enter Tryz.func32, Tryz.ntmps32
      go_wp2
      go_ret
      exact ⟨by rw [E.out]; rfl, below_al (below_self _) _⟩
    · have E : Hid (Bur.lnF (a, z) n = 0) := if_neg (by show ¬ (n < z ∨ 32 < n); omega)
      go_enter Tryz.func32, Tryz.ntmps32
      go_wp2
      go_ret
      exact ⟨by rw [E.out]; rfl, below_al (below_self _) _⟩

set_option maxHeartbeats 2000000 in
theorem fit (lo hi n : Int) (w : World) (h0 : 0 ≤ lo) (h1 : lo ≤ hi) (h2 : hi ≤ 4294967295) (n0 : 0 ≤ n) (n1 : n ≤ 32) :
    Calls Tryz.prog 31 #[pfx lo hi, .int .i64 n] w fun e w' => e = .returned (.tuple #[.int .i64 (Bur.upn (Bur.sz n) lo), .int .i64 (Bur.plc (Bur.sz n) (lo, hi))]) ∧ Below w.heap.size w w' := by
  have hz := Bur.sz_pos n
  have hz2 := Bur.sz_le32 n0
  have e0 : wrap64 (2 ^ (32 - n).toNat) = Bur.sz n := by
    unfold Bur.sz at *
    exact IntWalk.wrap64_in _ (by omega)
  have F1 : wrap64 (wrap64 (lo + Bur.sz n) - 1) = lo + Bur.sz n - 1 := by rw [IntWalk.wrap64_in (lo + Bur.sz n) (by omega), IntWalk.wrap64_in _ (by omega)]
  have q1 : 0 ≤ (lo + Bur.sz n - 1) / Bur.sz n := Int.ediv_nonneg (by omega) (by omega)
  have q2 : (lo + Bur.sz n - 1) / Bur.sz n ≤ lo + Bur.sz n - 1 := Int.ediv_le_self _ (by omega)
  have q3 : 0 ≤ (hi + 1) / Bur.sz n := Int.ediv_nonneg (by omega) (by omega)
  have q4 : (hi + 1) / Bur.sz n ≤ hi + 1 := Int.ediv_le_self _ (by omega)
  obtain ⟨u1, u2, u3⟩ := Bur.upn_spec hz lo
  have F2 : wrap64 ((lo + Bur.sz n - 1).tdiv (Bur.sz n)) = (lo + Bur.sz n - 1) / Bur.sz n := by rw [Int.tdiv_eq_ediv_of_nonneg (by omega), IntWalk.wrap64_in _ (by omega)]
  have F3 : wrap64 ((hi + 1).tdiv (Bur.sz n)) = (hi + 1) / Bur.sz n := by rw [Int.tdiv_eq_ediv_of_nonneg (by omega), IntWalk.wrap64_in _ (by omega)]
  have F4 : wrap64 ((lo + Bur.sz n - 1) / Bur.sz n * Bur.sz n) = Bur.upn (Bur.sz n) lo := IntWalk.wrap64_in (Bur.upn (Bur.sz n) lo) (by omega)
  have F5 : wrap64 ((hi + 1) / Bur.sz n - (lo + Bur.sz n - 1) / Bur.sz n) = (hi + 1) / Bur.sz n - (lo + Bur.sz n - 1) / Bur.sz n := IntWalk.wrap64_in _ (by omega)
  have P : Hid ((Bur.plc (Bur.sz n) (lo, hi) : Int) = max 0 ((hi + 1) / Bur.sz n - (lo + Bur.sz n - 1) / Bur.sz n)) := Bur.plc_eq hz (lo, hi)
  go_enter Tryz.func31, Tryz.ntmps31
  go_wp2
  all_goals simp only [e0, F1, F2, F3, F4, F5] at *
  all_goals
    go_ret2
    refine ⟨?_, below_al (below_self _) _⟩
    rw [P.out]
    first | rw [Int.max_eq_right (by omega)] | rw [Int.max_eq_left (by omega)]
    rfl

set_option maxHeartbeats 4000000 in
theorem tightest (p : Option Addr) (cap : Nat) (l : List Bur.Sp) (n : Int) (w : World) (hl : l.length ≤ 200) (hs : SpAt w p l) :
    Calls Tryz.prog 33 #[.slice p l.length cap, .int .i64 n] w fun e w' => e = .returned (.tuple #[pfx ((Bur.bst n none l).getD (0, 0)).1 ((Bur.bst n none l).getD (0, 0)).2, .bool (Bur.bst n none l).isSome]) ∧ Below w.heap.size w w' := by
  go_enter Tryz.func33, Tryz.ntmps33
  go_wp2_with fail
  go_loopw [5, 10] (fun o i wr => ∃ (k : Nat) (c : Option Bur.Sp), k ≤ l.length ∧ i = .int .i64 k ∧ o = .bool c.isSome ∧ Hid (Bur.bst n none l = Bur.bst n c (l.drop k)) ∧ wr.cell? ⟨w.heap.size, 0, none⟩ = some (.int .i64 (c.getD (0, 0)).1) ∧ wr.cell? ⟨w.heap.size, 1, none⟩ = some (.int .i64 (c.getD (0, 0)).2) ∧ wr.frozen? ⟨w.heap.size, 0, none⟩ = false ∧ wr.frozen? ⟨w.heap.size, 1, none⟩ = false ∧ Below w.heap.size w wr) (fun _ i _ => l.length - (intOf i).toNat)
  case atStart => exact ⟨0, none, by omega, rfl, rfl, rfl, by simp, by simp, by simp, by simp, below_al (below_self _) _⟩
  case round =>
    obtain ⟨k, c, hk, rfl, rfl, R, x0, x1, f0, f1, hbw⟩ := hrel
    by_cases hlt : k < l.length
    · have hlt' : (k : Int) < (l.length : Int) := by omega
      obtain ⟨b, off, rfl, hbl, hc⟩ := hs (by omega)
      have hcb2 := bcell hbw
      have c0 : wr.cell? ⟨b, off + k * 2, none⟩ = some (.int .i64 (lo l k)) := (hcb2.1 _ _ hbl).trans (hc k hlt).1
      have c1 : wr.cell? ⟨b, off + k * 2 + 1, none⟩ = some (.int .i64 (hi l k)) := (hcb2.1 _ _ hbl).trans (hc k hlt).2
      have hd0 := drop_sp hlt
      obtain ⟨x, hx⟩ : ∃ x, lo l k = x := ⟨_, rfl⟩
      obtain ⟨y, hy⟩ : ∃ y, hi l k = y := ⟨_, rfl⟩
      rw [hx] at c0 hd0
      rw [hy] at c1 hd0
      have R2 : Hid (Bur.bst n none l = Bur.bst n c ((x, y) :: l.drop (k + 1))) := by show _ = _; rw [R.out, hd0]
      have hsz : w.heap.size < wr.heap.size := World.block_lt_of_cell? _ _ x0
      clear hc hcb2 hd0 hx hy R hs
      by_cases hy : y ≤ n
      · cases c with
        | none =>
          have R3 : Hid (Bur.bst n none l = Bur.bst n (some (x, y)) (l.drop (k + 1))) := by show _ = _; rw [R2.out, Bur.bst_yes hy (fun _ h => by cases h)]
          simp only [Option.isSome_none]
          clear R2
          go_wp2_with fail
          exact ⟨⟨k + 1, some (x, y), by omega, by go_num, rfl, R3, by go_simp, by go_simp, by go_simp, by go_simp, below_al ((hbw.setCell (by simp) _).setCell (by simp) _) _⟩, by simp [intOf]; omega⟩
        | some s =>
          simp only [Option.isSome_some, Option.getD_some] at x0 x1 ⊢
          obtain ⟨s0, s1⟩ := s
          by_cases hg : s1 < y
          · have R3 : Hid (Bur.bst n none l = Bur.bst n (some (x, y)) (l.drop (k + 1))) := by show _ = _; rw [R2.out, Bur.bst_yes hy (fun _ h => by cases h; exact hg)]
            clear R2
            go_wp2_with fail
            exact ⟨⟨k + 1, some (x, y), by omega, by go_num, rfl, R3, by go_simp, by go_simp, by go_simp, by go_simp, below_al ((hbw.setCell (by simp) _).setCell (by simp) _) _⟩, by simp [intOf]; omega⟩
          · have R3 : Hid (Bur.bst n none l = Bur.bst n (some (s0, s1)) (l.drop (k + 1))) := by show _ = _; rw [R2.out, Bur.bst_old hg]
            clear R2
            go_wp2_with fail
            exact ⟨⟨k + 1, some (s0, s1), by omega, by go_num, rfl, R3, by go_simp, by go_simp, by go_simp, by go_simp, below_al hbw _⟩, by simp [intOf]; omega⟩
      · have R3 : Hid (Bur.bst n none l = Bur.bst n c (l.drop (k + 1))) := by show _ = _; rw [R2.out, Bur.bst_big hy]
        clear R2
        go_wp2_with fail
        exact ⟨⟨k + 1, c, by omega, by go_num, rfl, R3, by go_simp, by go_simp, by go_simp, by go_simp, below_al hbw _⟩, by simp [intOf]; omega⟩
    · have R2 : Hid (Bur.bst n none l = c) := by show _ = _; rw [R.out, List.drop_eq_nil_of_le (by omega)]; rfl
      clear R hs
      go_wp2_with fail
      have y0 : (wr.setCell ⟨w.heap.size, 0, none⟩ (.int .i64 (c.getD (0, 0)).1)).cell? ⟨w.heap.size, 0, none⟩ = some (.int .i64 (c.getD (0, 0)).1) := by go_simp
      have y1 : ((wr.setCell ⟨w.heap.size, 0, none⟩ (.int .i64 (c.getD (0, 0)).1)).setCell ⟨w.heap.size, 1, none⟩ (.int .i64 (c.getD (0, 0)).2)).cell? ⟨w.heap.size, 1, none⟩ = some (.int .i64 (c.getD (0, 0)).2) := by go_simp
      exact bodyPost_ret (v := .tuple #[pfx (c.getD (0, 0)).1 (c.getD (0, 0)).2, .bool c.isSome]) (by simp [results, Tryz.results33, go_sem, y0, y1]) rfl ⟨by rw [R2.out], (hbw.setCell (by simp) _).setCell (by simp) _⟩
end Go.Proofs.YtfhidiedmenliaaGreatDoor
