/- The contracts of Both and of Prefixes at two lists of two that are the same. -/
import Derived.Test.YtnnjegohoejlbaaDoorAdWalkC
import Derived.Test.YtnnjegohoejlbaaDoorShelf
namespace Go.Proofs.YtnnjegohoejlbaaDoor
open Go.RowKit

theorem both_no (a b : Int) (w : World) (h : (Bur.isA a && Bur.isA b) = false) :
    Calls Tryd.prog 27 #[.int .i64 a, .int .i64 b] w fun e w' => e = .returned (.tuple #[pfx 0 0, errN 1]) ∧ Below w.heap.size w w' := by
  cases ha : Bur.isA a
  · go_enter Tryd.func27, Tryd.ntmps27
    go_wp2_with (go_at_call 33; refine (isAddress _ _).mono ?_; rintro e w' ⟨rfl, rfl⟩)
    exact bodyPost_ret (v := .tuple #[pfx 0 0, errN 1]) (by simp [results, Tryd.results27, go_sem]) rfl ⟨rfl, below_al (below_self _) _⟩
  · have hb : Bur.isA b = false := by simpa [ha] using h
    clear h
    go_enter Tryd.func27, Tryd.ntmps27
    go_wp2_with (go_at_call 33; refine (isAddress _ _).mono ?_; rintro e w' ⟨rfl, rfl⟩)
    exact bodyPost_ret (v := .tuple #[pfx 0 0, errN 1]) (by simp [results, Tryd.results27, go_sem]) rfl ⟨rfl, below_al (below_self _) _⟩

theorem both_ok (a b : Int) (w : World) (ha : Bur.isA a = true) (hb : Bur.isA b = true) :
    Calls Tryd.prog 27 #[.int .i64 a, .int .i64 b] w fun e w' => e = .returned (.tuple #[pfx (a - a % Bur.sz (32 - Bur.bl a b)) (32 - Bur.bl a b), .nilIface]) ∧ Below w.heap.size w w' := by
  obtain ⟨a0, a1⟩ := Bur.isA_true ha
  obtain ⟨b0, b1⟩ := Bur.isA_true hb
  obtain ⟨l0, l1⟩ := Bur.bl_bd a b ha hb
  have hx : bits .xor .i64 a b = ((a.toNat ^^^ b.toNat : Nat) : Int) := by
    obtain ⟨A, rfl⟩ := Int.eq_ofNat_of_zero_le a0
    obtain ⟨B, rfl⟩ := Int.eq_ofNat_of_zero_le b0
    exact Bur.i64_xor_nat A B (by omega) (by omega)
  have hlt : a.toNat ^^^ b.toNat < 4294967296 := Bur.xor_lt a b ha hb
  unfold Bur.bl at *
  generalize hX : (a.toNat ^^^ b.toNat) = X at *
  go_enter Tryd.func27, Tryd.ntmps27
  go_wp2_with (first | (go_at_call 33; refine (isAddress _ _).mono ?_; rintro e w' ⟨rfl, rfl⟩) | (go_at_call 40; refine (Tryd.bits_Len _ _ (by omega) (by omega)).mono ?_; rintro e w' ⟨rfl, rfl⟩) | (go_at_call 39; refine (cut _ _ _ ha (by omega) (by omega)).mono ?_; rintro e w' ⟨rfl, rfl⟩))
  exact bodyPost_ret (v := .tuple #[pfx (a - a % Bur.sz (32 - (Lib.bitLen X : Int))) (32 - (Lib.bitLen X : Int)), .nilIface]) (by simp [results, Tryd.results27, go_sem]) rfl ⟨rfl, below_al (below_al (below_self _) _) _⟩
theorem prefixes_same (A B n ca cb : Nat) (x : Nat → Int) (w : World) (hn : n < 1000000)
    (a0 : ∀ k, k < 2 * n → w.cell? ⟨A, k, none⟩ = some (.int .i64 (x k))) (b0 : ∀ k, k < 2 * n → w.cell? ⟨B, k, none⟩ = some (.int .i64 (x k))) :
    Calls Tryd.prog 22 #[.slice (some ⟨A, 0, none⟩) n ca, .slice (some ⟨B, 0, none⟩) n cb] w fun e w' => e = .returned (.bool true) ∧ ∃ n, w' = w.drewN n := by
  have hne : ((n : Int) != (n : Int)) = false := by simp
  go_enter Tryd.func22, Tryd.ntmps22
  go_wp2
  go_loopw [5] (fun i wr => ∃ (k m : Nat), k ≤ n ∧ i = .int .i64 k ∧ wr = w.drewN m) (fun i _ => (n - intOf i).toNat)
  case atStart => exact ⟨0, 0, by omega, rfl, rfl⟩
  case round =>
    obtain ⟨k, m, hk, rfl, rfl⟩ := hrel
    by_cases hlt : k < n
    · have hlt' : (k : Int) < (n : Int) := by omega
      have c0 : (w.drewN m).cell? ⟨A, k * 2, none⟩ = some (.int .i64 (x (k * 2))) := a0 _ (by omega)
      have c1 : (w.drewN m).cell? ⟨A, k * 2 + 1, none⟩ = some (.int .i64 (x (k * 2 + 1))) := a0 _ (by omega)
      have c2 : (w.drewN m).cell? ⟨B, k * 2, none⟩ = some (.int .i64 (x (k * 2))) := b0 _ (by omega)
      have c3 : (w.drewN m).cell? ⟨B, k * 2 + 1, none⟩ = some (.int .i64 (x (k * 2 + 1))) := b0 _ (by omega)
      generalize hW : w.drewN m = W at c0 c1 c2 c3 ⊢
      have HW : Hid (w.drewN m = W) := hW
      clear hW a0 b0
      go_wp2
      go_quiet (fail)
      go_wp2
      exact ⟨⟨k + 1, m + nq, by omega, by go_num, by rw [← HW.out]; simp⟩, by simp [intOf]; omega⟩
    · clear a0 b0
      go_wp2
      go_ret
      exact ⟨rfl, _, rfl⟩

theorem prefixes2 (A B : Nat) (x0 x1 x2 x3 : Int) (w : World)
    (a0 : w.cell? ⟨A, 0, none⟩ = some (.int .i64 x0)) (a1 : w.cell? ⟨A, 1, none⟩ = some (.int .i64 x1)) (a2 : w.cell? ⟨A, 2, none⟩ = some (.int .i64 x2)) (a3 : w.cell? ⟨A, 3, none⟩ = some (.int .i64 x3))
    (b0 : w.cell? ⟨B, 0, none⟩ = some (.int .i64 x0)) (b1 : w.cell? ⟨B, 1, none⟩ = some (.int .i64 x1)) (b2 : w.cell? ⟨B, 2, none⟩ = some (.int .i64 x2)) (b3 : w.cell? ⟨B, 3, none⟩ = some (.int .i64 x3)) :
    Calls Tryd.prog 22 #[.slice (some ⟨A, 0, none⟩) 2 2, .slice (some ⟨B, 0, none⟩) 2 2] w fun e w' => e = .returned (.bool true) ∧ Below w.heap.size w w' := by
  have hx : ∀ C, w.cell? ⟨C, 0, none⟩ = some (.int .i64 x0) → w.cell? ⟨C, 1, none⟩ = some (.int .i64 x1) → w.cell? ⟨C, 2, none⟩ = some (.int .i64 x2) → w.cell? ⟨C, 3, none⟩ = some (.int .i64 x3) →
      ∀ k, k < 2 * 2 → w.cell? ⟨C, k, none⟩ = some (.int .i64 (([x0, x1, x2, x3] : List Int).getD k 0)) := by
    intro C h0 h1 h2 h3 k hk
    match k, hk with
    | 0, _ => exact h0
    | 1, _ => exact h1
    | 2, _ => exact h2
    | 3, _ => exact h3
  refine (prefixes_same A B 2 2 2 (fun k => ([x0, x1, x2, x3] : List Int).getD k 0) w (by decide) (hx A a0 a1 a2 a3) (hx B b0 b1 b2 b3)).mono ?_
  rintro e w' ⟨rfl, n, rfl⟩
  exact ⟨rfl, below_drewN (below_self _) n⟩
end Go.Proofs.YtnnjegohoejlbaaDoor
