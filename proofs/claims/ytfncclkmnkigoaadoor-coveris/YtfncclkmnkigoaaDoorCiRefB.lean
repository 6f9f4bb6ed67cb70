/- The contract of the reference's Covers: by halving. -/
import Derived.Test.YtfncclkmnkigoaaDoorCiRefA
namespace Bur
theorem hv_split {k : Nat} {a lo hi : Int} (h1 : ¬ (hi < a ∨ a + 2 ^ (k + 1) - 1 < lo)) (h2 : ¬ (lo ≤ a ∧ a + 2 ^ (k + 1) - 1 ≤ hi)) : hv (k + 1) a lo hi = hv k a lo hi ++ hv k (a + 2 ^ k) lo hi := by
  rw [hv, if_neg h1, if_neg h2]
theorem cov_len {hi : Int} (h2 : hi ≤ 4294967295) {lo : Int} (h0 : 0 ≤ lo) (h1 : lo ≤ hi + 1) : ((cov lo hi).length : Int) ≤ hi - lo + 1 := by
  have key : ∀ (l : List Sp) (lo : Int), Tile lo l hi → (l.length : Int) ≤ hi - lo + 1 := by
    intro l
    induction l with
    | nil => intro lo h; have h : lo = hi + 1 := h; simp; omega
    | cons p r ih =>
      intro lo h
      have := ih _ h.2.2
      have := sz_pos p.2
      simp only [List.length_cons]
      omega
  exact key _ _ (cov_tile h2 _ _ (Nat.le_refl _) h0 h1)
end Bur
namespace Go.Proofs.YtfncclkmnkigoaaDoor
open Go.RowKit
theorem spV_one (l : List Bur.Sp) : ∀ y ∈ spV l, y.oneCell' = true := by
  intro y hy
  simp only [spV, List.mem_flatMap] at hy
  obtain ⟨s, _, hs⟩ := hy
  simp at hs
  rcases hs with rfl | rfl <;> rfl

theorem own_mono {w : World} {B B' e size n : Nat} {v : Value} {xs : List Value} (hB : B' ≤ B) (h : w.ownsRow B e size v n xs) : w.ownsRow B' e size v n xs := by
  refine ⟨h.1, ?_⟩
  rcases h.2 with hn | ⟨g, cap, cur, rfl, h1, rest⟩
  · exact .inl hn
  · exact .inr ⟨g, cap, cur, rfl, Nat.le_trans hB h1, rest⟩
/-- What lies in the boxes of the two halves and of the span. -/
structure Cx (w : World) (B6 B3 B7 : Nat) (a n lo hi b : Int) : Prop where
  c0 : w.cell? ⟨B6, 0, none⟩ = some (.int .i64 a)
  c1 : w.cell? ⟨B6, 1, none⟩ = some (.int .i64 n)
  c2 : w.cell? ⟨B3, 0, none⟩ = some (.int .i64 lo)
  c3 : w.cell? ⟨B3, 1, none⟩ = some (.int .i64 hi)
  c4 : w.cell? ⟨B7, 0, none⟩ = some (.int .i64 b)
  c5 : w.cell? ⟨B7, 1, none⟩ = some (.int .i64 n)
theorem Cx.all {w : World} {B6 B3 B7 : Nat} {a n lo hi b : Int} (h : Cx w B6 B3 B7 a n lo hi b) : w.cell? ⟨B6, 0, none⟩ = some (.int .i64 a) ∧ w.cell? ⟨B6, 1, none⟩ = some (.int .i64 n) ∧ w.cell? ⟨B3, 0, none⟩ = some (.int .i64 lo) ∧ w.cell? ⟨B3, 1, none⟩ = some (.int .i64 hi) ∧ w.cell? ⟨B7, 0, none⟩ = some (.int .i64 b) ∧ w.cell? ⟨B7, 1, none⟩ = some (.int .i64 n) := ⟨h.c0, h.c1, h.c2, h.c3, h.c4, h.c5⟩
theorem Cx.lts {w : World} {B6 B3 B7 : Nat} {a n lo hi b : Int} (h : Cx w B6 B3 B7 a n lo hi b) : B6 < w.heap.size ∧ B3 < w.heap.size ∧ B7 < w.heap.size := ⟨World.block_lt_of_cell? _ _ h.c0, World.block_lt_of_cell? _ _ h.c2, World.block_lt_of_cell? _ _ h.c4⟩
theorem Cx.step {w w' : World} {B6 B3 B7 : Nat} {a n lo hi b : Int} (h : Cx w B6 B3 B7 a n lo hi b) (hb : Below w.heap.size w w') : Cx w' B6 B3 B7 a n lo hi b :=
  ⟨(hb.cell (World.block_lt_of_cell? _ _ h.c0)).trans h.c0, (hb.cell (World.block_lt_of_cell? _ _ h.c1)).trans h.c1, (hb.cell (World.block_lt_of_cell? _ _ h.c2)).trans h.c2, (hb.cell (World.block_lt_of_cell? _ _ h.c3)).trans h.c3, (hb.cell (World.block_lt_of_cell? _ _ h.c4)).trans h.c4, (hb.cell (World.block_lt_of_cell? _ _ h.c5)).trans h.c5⟩
theorem Cx.grow {w w' : World} {row : Option Nat} {N B6 B3 B7 : Nat} {a n lo hi b : Int} (h : Cx w B6 B3 B7 a n lo hi b) (hg : w.grownBy w' row) (hr : ∀ j, row = some j → N ≤ j) (hl : B6 < N ∧ B3 < N ∧ B7 < N) : Cx w' B6 B3 B7 a n lo hi b :=
  ⟨hg.cell h.c0 (fun e => by have := hr _ e.symm; simp at this; omega), hg.cell h.c1 (fun e => by have := hr _ e.symm; simp at this; omega), hg.cell h.c2 (fun e => by have := hr _ e.symm; simp at this; omega), hg.cell h.c3 (fun e => by have := hr _ e.symm; simp at this; omega), hg.cell h.c4 (fun e => by have := hr _ e.symm; simp at this; omega), hg.cell h.c5 (fun e => by have := hr _ e.symm; simp at this; omega)⟩

set_option maxRecDepth 100000 in
set_option maxHeartbeats 8000000 in
theorem covers_split (k : Nat) (a lo hi : Int) (w : World) (hk : k + 1 ≤ 32) (a0 : 0 ≤ a) (ha : Bur.isA a = true) (hm : a + 2 ^ (k + 1) - 1 ≤ 4294967295) (h1 : ¬ (hi < a ∨ a + 2 ^ (k + 1) - 1 < lo)) (h2 : ¬ (lo ≤ a ∧ a + 2 ^ (k + 1) - 1 ≤ hi)) (hne : 0 < (Bur.hv (k + 1) a lo hi).length) (hlen : (Bur.hv (k + 1) a lo hi).length ≤ 4294967296)
    (ih : ∀ (b : Int) (w : World), b = a ∨ b = a + 2 ^ k → Calls Tryd.prog 19 #[pfx b (32 - (k : Int)), pfx lo hi] w (CvP k b lo hi w)) :
    Calls Tryd.prog 19 #[pfx a (32 - ((k + 1 : Nat) : Int)), pfx lo hi] w (CvP (k + 1) a lo hi w) := by
  obtain ⟨i0, hin, hz0, hz1, hz2⟩ := info_parts info_pfx
  have hL : Hid (Bur.hv (k + 1) a lo hi = Bur.hv k a lo hi ++ Bur.hv k (a + 2 ^ k) lo hi) := Bur.hv_split h1 h2
  have hsz : Hid (a + Bur.sz (32 - ((k + 1 : Nat) : Int)) - 1 = a + 2 ^ (k + 1) - 1) := by show _ = _; rw [Bur.sz_pw hk]
  have hszk : Hid (Bur.sz (32 - (k : Int)) = 2 ^ k) := Bur.sz_pw (by omega)
  have hp := Bur.pw_pos k
  have hps := Bur.pw_succ k
  have d1 : decide (hi < a) = false := by simp; omega
  have d2 : decide (a + 2 ^ (k + 1) - 1 < lo) = false := by simp; omega
  have dd : (decide (lo ≤ a) && decide (a + 2 ^ (k + 1) - 1 ≤ hi)) = false := by
    rw [Bool.eq_false_iff]; intro h; simp at h; exact h2 h
  obtain ⟨m, hmm⟩ : ∃ m, a + 2 ^ (k + 1) - 1 = m := ⟨_, rfl⟩
  rw [hmm] at hm hsz d2 dd
  obtain ⟨h, hh⟩ : ∃ h, (2 : Int) ^ k = h := ⟨_, rfl⟩
  rw [hh] at hszk hL ih hp hps
  obtain ⟨n, hn⟩ : ∃ n, 32 - ((k + 1 : Nat) : Int) = n := ⟨_, rfl⟩
  have hn' : 32 - (k : Int) = n + 1 := by omega
  rw [hn'] at hszk ih
  rw [hn] at hsz ⊢
  have hn0 : 0 ≤ n := by omega
  have hn1 : n + 1 ≤ 32 := by omega
  have ih1 := fun w => ih a w (.inl rfl)
  have ih2 := fun w => ih (a + h) w (.inr rfl)
  have hah : a + h ≤ 4294967295 := by omega
  obtain ⟨L, hLL⟩ : ∃ L, Bur.hv (k + 1) a lo hi = L := ⟨_, rfl⟩
  unfold CvP
  unfold CvP at ih1 ih2
  rw [hLL] at hL hne hlen ⊢
  obtain ⟨L1, hL1⟩ : ∃ L1, Bur.hv k a lo hi = L1 := ⟨_, rfl⟩
  obtain ⟨L2, hL2⟩ : ∃ L2, Bur.hv k (a + h) lo hi = L2 := ⟨_, rfl⟩
  simp only [hL1] at hL ih1
  simp only [hL2] at hL ih2
  have hl12 : L1.length + L2.length ≤ 4294967296 := by rw [hL.out, List.length_append] at hlen; exact hlen
  clear hmm hh hn hn' ih hLL hL1 hL2 h1 h2 hlen
  go_enter Tryd.func19, Tryd.ntmps19
  go_wp2_with fail
  refine (lastOf a n _ hn0 (by omega) ha).mono ?_
  rintro e w1 ⟨rfl, q, hw⟩
  rw [hsz.out]
  have hb1 : Below ((w.alloc (.cells #[.int .i64 a, .int .i64 n] 46)).alloc (.cells #[.int .i64 lo, .int .i64 hi] 26)).heap.size ((w.alloc (.cells #[.int .i64 a, .int .i64 n] 46)).alloc (.cells #[.int .i64 lo, .int .i64 hi] 26)) w1 := by rw [hw]; exact below_box _ _ q
  have hb0 := below_via (below_al (below_al (below_self w) (.cells #[.int .i64 a, .int .i64 n] 46)) (.cells #[.int .i64 lo, .int .i64 hi] 26)) hb1
  have s0 : w1.cell? ⟨w.heap.size, 0, none⟩ = some (.int .i64 a) := (hb1.cell (p := ⟨w.heap.size, 0, none⟩) (by simp; omega)).trans (by simp)
  have s1 : w1.cell? ⟨w.heap.size, 1, none⟩ = some (.int .i64 n) := (hb1.cell (p := ⟨w.heap.size, 1, none⟩) (by simp; omega)).trans (by simp)
  have s2 : w1.cell? ⟨w.heap.size + 1, 0, none⟩ = some (.int .i64 lo) := (hb1.cell (p := ⟨w.heap.size + 1, 0, none⟩) (by simp)).trans (by simp)
  have s3 : w1.cell? ⟨w.heap.size + 1, 1, none⟩ = some (.int .i64 hi) := (hb1.cell (p := ⟨w.heap.size + 1, 1, none⟩) (by simp)).trans (by simp)
  have hsw : w.heap.size + 2 ≤ w1.heap.size := by have := hb1.size; simpa using this
  clear hw hb1
  go_upto_if 20 with fail
  go_cut [4] (fun _ wy => wy = w1)
  case first =>
    go_wp2_with fail
    go_meet
    case rel => exact rfl
  case rest =>
  subst hcut
  obtain ⟨U, hU⟩ : ∃ U, U = wc := ⟨_, rfl⟩
  subst hU
  go_upto_region 4 with fail
  go_cut [31] from 21 to 30 (fun v wy => v = .bool false ∧ wy = U)
  case first =>
    cases d3 : decide (lo ≤ a)
    · go_wp2_with fail
      go_meet
      case rel => exact ⟨rfl, rfl⟩
    · have d4 : decide (m ≤ hi) = false := by rw [d3] at dd; simpa using dd
      go_wp2_with fail
      go_meet
      case rel => exact ⟨rfl, rfl⟩
  case rest =>
  obtain ⟨rfl, hw⟩ := hcut
  subst hw
  clear dd d1 d2
  go_upto_region 7 with fail
  have t0 : (wc.alloc (.cells #[.int .i64 a, .int .i64 (n + 1)] 46)).cell? ⟨w.heap.size, 0, none⟩ = some (.int .i64 a) := (World.cell?_alloc_lt _ _ _ (by show w.heap.size < wc.heap.size; omega)).trans s0
  have t1 : (wc.alloc (.cells #[.int .i64 a, .int .i64 (n + 1)] 46)).cell? ⟨w.heap.size, 1, none⟩ = some (.int .i64 n) := (World.cell?_alloc_lt _ _ _ (by show w.heap.size < wc.heap.size; omega)).trans s1
  have t2 : (wc.alloc (.cells #[.int .i64 a, .int .i64 (n + 1)] 46)).cell? ⟨w.heap.size + 1, 0, none⟩ = some (.int .i64 lo) := (World.cell?_alloc_lt _ _ _ (by show w.heap.size + 1 < wc.heap.size; omega)).trans s2
  have t3 : (wc.alloc (.cells #[.int .i64 a, .int .i64 (n + 1)] 46)).cell? ⟨w.heap.size + 1, 1, none⟩ = some (.int .i64 hi) := (World.cell?_alloc_lt _ _ _ (by show w.heap.size + 1 < wc.heap.size; omega)).trans s3
  have t4 : (wc.alloc (.cells #[.int .i64 a, .int .i64 (n + 1)] 46)).cell? ⟨wc.heap.size, 0, none⟩ = some (.int .i64 a) := by simp
  have t5 : (wc.alloc (.cells #[.int .i64 a, .int .i64 (n + 1)] 46)).cell? ⟨wc.heap.size, 1, none⟩ = some (.int .i64 (n + 1)) := by simp
  have hbV := below_al hb0 (.cells #[.int .i64 a, .int .i64 (n + 1)] 46)
  obtain ⟨B6, hB6⟩ : ∃ B6, wc.heap.size = B6 := ⟨_, rfl⟩
  rw [hB6] at t4 t5 hsw ⊢
  obtain ⟨V, hV⟩ : ∃ V, wc.alloc (.cells #[.int .i64 a, .int .i64 (n + 1)] 46) = V := ⟨_, rfl⟩
  have hVs : V.heap.size = B6 + 1 := by rw [← hV, ← hB6]; simp
  rw [hV] at t0 t1 t2 t3 t4 t5 hbV ⊢
  clear hV hB6 s0 s1 s2 s3 hb0
  have w1' : IntKind.i64.wrap (n + 1) = n + 1 := Bur.wrap_i64_id _ (by omega) (by omega)
  have w2' : IntKind.i64.wrap (a + h) = a + h := Bur.wrap_i64_id _ (by omega) (by omega)
  go_cut [7] from 40 to 50 (fun v wy => ∃ B7, v = .pointer (some ⟨B7, 0, none⟩) ∧ wy.cell? ⟨B7, 0, none⟩ = some (.int .i64 (a + h)) ∧ wy.cell? ⟨B7, 1, none⟩ = some (.int .i64 (n + 1)) ∧ Below V.heap.size V wy)
  case first =>
    have n0 := World.new_ne V ⟨w.heap.size, 0, none⟩ t0
    have n1 := World.new_ne V ⟨w.heap.size, 1, none⟩ t1
    go_region_held3 (fun wy => wy.cell? ⟨w.heap.size, 0, none⟩ = some (.int .i64 a) ∧ wy.cell? ⟨w.heap.size, 1, none⟩ = some (.int .i64 n)) (first | exact ⟨t0, t1⟩ | exact ⟨(World.cell?_alloc_lt _ _ _ (by show w.heap.size < V.heap.size; omega)).trans t0, (World.cell?_alloc_lt _ _ _ (by show w.heap.size < V.heap.size; omega)).trans t1⟩ | go_keep)
      (first | (go_at_call 42; refine (size_eq (n + 1) (by omega) (by omega) _).mono ?_; rintro e w2 ⟨rfl, hw2⟩; have hw3 := hw2.symm; subst hw3; rw [hszk.out]))
    all_goals go_wp2_with fail
    all_goals go_meet
    all_goals exact ⟨B6 + 1, rfl, by rw [← hVs]; simp, by rw [← hVs]; simp, (below_al (below_self V) _).drew⟩
  case rest =>
  obtain ⟨B7, rfl, r4, r5, hb7⟩ := hcut
  have hX : Cx wc B6 (w.heap.size + 1) B7 a (n + 1) lo hi (a + h) := ⟨(hb7.cell (World.block_lt_of_cell? _ _ t4)).trans t4, (hb7.cell (World.block_lt_of_cell? _ _ t5)).trans t5, (hb7.cell (World.block_lt_of_cell? _ _ t2)).trans t2, (hb7.cell (World.block_lt_of_cell? _ _ t3)).trans t3, r4, r5⟩
  have hbX := below_via hbV hb7
  have hszX := hbX.size
  clear hb7 hbV t0 t1 t2 t3 t4 t5 r4 r5 hVs
  obtain ⟨X, hXX⟩ : ∃ X, X = wc := ⟨_, rfl⟩
  subst hXX
  obtain ⟨x0, x1, x2, x3, x4, x5⟩ := hX.all
  go_upto_region 8 with fail
  go_region_held3 (fun wy => wy.cell? ⟨B6, 0, none⟩ = some (.int .i64 a) ∧ wy.cell? ⟨B6, 1, none⟩ = some (.int .i64 (n + 1)) ∧ wy.cell? ⟨w.heap.size + 1, 0, none⟩ = some (.int .i64 lo) ∧ wy.cell? ⟨w.heap.size + 1, 1, none⟩ = some (.int .i64 hi) ∧ wy.cell? ⟨B7, 0, none⟩ = some (.int .i64 (a + h)) ∧ wy.cell? ⟨B7, 1, none⟩ = some (.int .i64 (n + 1)))
    (first | exact hC.all | exact hB.all | exact hA.all | exact hX.all)
    (first
      | (go_at_call 19; refine (ih1 _).mono ?_; clear ih1; rintro e wA ⟨v1, rfl, own1, z1, hbA⟩; have hA : Cx wA B6 (w.heap.size + 1) B7 a (n + 1) lo hi (a + h) := (hX.step (below_self _).drew).step hbA)
      | (go_at_call 19; refine (ih2 _).mono ?_; clear ih2; rintro e wB ⟨v2, rfl, own2, z2, hbB⟩; have hB : Cx wB B6 (w.heap.size + 1) B7 a (n + 1) lo hi (a + h) := hA.step hbB; have hszA := hbA.size; have hszB := hbB.size; have own1w := own_mono (B' := w.heap.size) (by simpa using hszX) (own_below own1 hbB))
      | (refine step_append_any rfl _ _ 43 rfl w.heap.size _ 46 i0 (.agg #[.int .i64 0, .int .i64 0]) 2 16 Tryd.underlying43 hin hz0 hz1 hz2 rfl (by decide) _ _ _ rfl own1w _ _ _ rfl own2 z2 (spV_one _) (by unfold maxLen; omega) (by omega) (by simp at hszA; omega) ?_; intro v' w5 own5 hgrow; have hC : Cx w5 B6 (w.heap.size + 1) B7 a (n + 1) lo hi (a + h) := hB.grow hgrow (fun j hj => by have := (own1.lt j hj).1; exact this) hX.lts))
  have hb8 : Below w.heap.size w wB := below_via (below_via hbX.drew hbA) hbB
  have hb9 : Below w.heap.size w w5 := hb8.grown hgrow hb8.size (fun j hj => (own1w.lt j hj).1)
  have own6 : w5.ownsRow w.heap.size 46 2 v' L.length (spV L) := by rw [hL.out, List.length_append, spV_app]; exact own5
  clear hgrow own5 own1w own1 own2 hX hA hB hC hb8 hbX hbA hbB x0 x1 x2 x3 x4 x5 z1 z2
  go_wp2_with fail
  go_ret
  exact ⟨v', rfl, own6, (fun h => by omega), hb9⟩

/-- Covers, within any prefix: the prefixes by halving. -/
theorem covers : ∀ (k : Nat) (a lo hi : Int) (w : World), k ≤ 32 → 0 ≤ a → (2 : Int) ^ k ∣ a → a + 2 ^ k - 1 ≤ 4294967295 → lo ≤ hi →
    Calls Tryd.prog 19 #[pfx a (32 - (k : Int)), pfx lo hi] w (CvP k a lo hi w) := by
  intro k
  induction k with
  | zero =>
    intro a lo hi w hk a0 hd hm hl
    have ha : Bur.isA a = true := Bur.isA_mk a0 (by simp at hm; omega)
    by_cases h : hi < a ∨ a + 2 ^ 0 - 1 < lo
    · exact covers_out 0 a lo hi w hk ha h
    · exact covers_in 0 a lo hi w hk ha (by simp at h; omega) (by simp at h ⊢; omega)
  | succ k ih =>
    intro a lo hi w hk a0 hd hm hl
    have hp := Bur.pw_pos k
    have hps := Bur.pw_succ k
    have hp1 := Bur.pw_pos (k + 1)
    have ha : Bur.isA a = true := Bur.isA_mk a0 (by omega)
    by_cases h : hi < a ∨ a + 2 ^ (k + 1) - 1 < lo
    · exact covers_out (k + 1) a lo hi w hk ha h
    · by_cases h2 : lo ≤ a ∧ a + 2 ^ (k + 1) - 1 ≤ hi
      · exact covers_in (k + 1) a lo hi w hk ha h2.1 h2.2
      · have hd0 : (2 : Int) ^ k ∣ a := Int.dvd_trans (Bur.pw_dvd (Nat.le_succ k)) hd
        have hc := Bur.hv_cov (k + 1) a lo hi a0 hd hm hl
        have hlen := Bur.cov_len (hi := min hi (a + 2 ^ (k + 1) - 1)) (by omega) (lo := max lo a) (by omega) (by omega)
        refine covers_split k a lo hi w hk a0 ha hm h h2 ?_ ?_ ?_
        · rw [hc, Bur.cov_yes (by omega)]; simp
        · rw [hc]; omega
        · rintro b w' (rfl | rfl)
          · exact ih b lo hi w' (by omega) a0 hd0 (by omega) hl
          · exact ih (a + 2 ^ k) lo hi w' (by omega) (by omega) (Int.dvd_add hd0 (Int.dvd_refl _)) (by omega) hl
/-- Covers of a span that may be. -/
theorem coversAll (lo hi : Int) (w : World) (h0 : 0 ≤ lo) (h1 : lo ≤ hi) (h2 : hi ≤ 4294967295) :
    Calls Tryd.prog 19 #[pfx 0 0, pfx lo hi] w fun e w' => ∃ v, e = .returned v ∧ w'.ownsRow w.heap.size 46 2 v (Bur.cov lo hi).length (spV (Bur.cov lo hi)) ∧ ((Bur.cov lo hi).length = 0 → v = .slice none 0 0) ∧ Below w.heap.size w w' := by
  have := covers 32 0 lo hi w (by omega) (by omega) ⟨0, by simp⟩ (by rw [Bur.pw_32]; omega) h1
  unfold CvP at this
  rw [show (32 : Int) - ((32 : Nat) : Int) = 0 from by decide] at this
  simpa only [Bur.hv_all h0 h1 h2] using this
end Go.Proofs.YtfncclkmnkigoaaDoor
