/- The contracts of BothOf and Prefixes. -/
import Derived.Test.YtnnjegohoejlbaaDoorAdWalkB
namespace Go.Proofs.YtnnjegohoejlbaaDoor
open Go.RowKit

theorem Box1.drewN {w wr : World} {o : Obj} (h : Box1 w o wr) (n : Nat) : Box1 w o (wr.drewN n) := ⟨h.1, h.2.1, h.2.2.1, below_drewN h.2.2.2 n⟩

set_option maxHeartbeats 1000000 in
theorem bothOf (a b : Int) (w : World) (ha : Bur.isA a = true) (hb : Bur.isA b = true) :
    Calls Tryd.prog 26 #[.int .i64 a, .int .i64 b] w fun e w' => e = .returned (pfx (a - a % Bur.sz (32 - Bur.bl a b)) (32 - Bur.bl a b)) ∧ Below w.heap.size w w' := by
  obtain ⟨a0, a1⟩ := Bur.isA_true ha
  obtain ⟨b0, b1⟩ := Bur.isA_true hb
  obtain ⟨l0, l1⟩ := Bur.bl_bd a b ha hb
  go_enter Tryd.func26, Tryd.ntmps26
  go_wp2
  go_loopw [5] (fun i wr => ∃ (k : Int), 32 - Bur.bl a b ≤ k ∧ k ≤ 32 ∧ i = .int .i64 k ∧ Box1 w (pcs 0 0) wr) (fun i _ => (intOf i).toNat)
  case atStart => exact ⟨32, by omega, by omega, rfl, box1 _ _ 0⟩
  case round =>
    obtain ⟨k, hk0, hk1, rfl, hc, hf, hs, hB⟩ := hrel
    have hd := Bur.div_sz a b k ha hb hk1
    have hp := Bur.sz_pos k
    have hq := Bur.sz_le k (by omega)
    by_cases hlt : 32 - Bur.bl a b < k
    · have hne : ((a / Bur.sz k) != (b / Bur.sz k)) = true := by
        rw [bne_iff_ne]; intro e; have := hd.1 e; omega
      clear hd
      go_wp2
      go_quiet ((go_at_call 20; exact Calls.quiet_of_same (size_eq _ (by omega) (by omega) _)))
      go_wp2
      exact ⟨⟨k - 1, by omega, by omega, rfl, Box1.drewN ⟨hc, hf, hs, hB⟩ _⟩, by simp [intOf]; omega⟩
    · have hk : k = 32 - Bur.bl a b := by omega
      have hne : ((a / Bur.sz k) != (b / Bur.sz k)) = false := by
        have := hd.2 (by omega); simp [this]
      have E : Hid (a / Bur.sz k * Bur.sz k = a - a % Bur.sz k) := Bur.mul_div_sz a k
      have d0 : 0 ≤ a / Bur.sz k * Bur.sz k := by
        exact Int.mul_nonneg (Int.ediv_nonneg a0 (Int.le_of_lt hp)) (Int.le_of_lt hp)
      have d1 : a / Bur.sz k * Bur.sz k ≤ 4294967295 := by
        rw [E.out]; have := Int.emod_nonneg a (Int.ne_of_gt hp); omega
      have hwr : IntKind.i64.wrap (a / Bur.sz k * Bur.sz k) = a - a % Bur.sz k := by rw [Bur.wrap_i64_id _ d0 (by omega)]; exact E.out
      have k0 : wr.cell? ⟨w.heap.size, 0, none⟩ = some (.int .i64 0) := by go_simp
      have k1 : wr.cell? ⟨w.heap.size, 1, none⟩ = some (.int .i64 0) := by go_simp
      have f0 : wr.frozen? ⟨w.heap.size, 0, none⟩ = false := by go_simp
      have f1 : wr.frozen? ⟨w.heap.size, 1, none⟩ = false := by go_simp
      have hB' := below_via (below_al (below_self w) _) hB
      rw [← hk]
      have HK : Hid (k = 32 - Bur.bl a b) := hk
      clear hd hk hc hf hs hB
      go_wp2
      go_quiet ((go_at_call 20; exact Calls.quiet_of_same (size_eq _ (by omega) (by omega) _)))
      go_wp2
      go_region_with (go_at_call 20; refine (size_eq _ (by omega) (by omega) _).mono ?_; rintro e w2 ⟨rfl, rfl⟩)
      all_goals
        go_wp2
        refine bodyPost_ret (v := pfx (a - a % Bur.sz k) k) (by simp [results, Tryd.results26, go_sem, k0, k1]) rfl ⟨by rw [HK.out], ?_⟩
        exact ((below_drewN hB' _).setCell (by simp) _).setCell (by simp) _
end Go.Proofs.YtnnjegohoejlbaaDoor
