/- The contract of the reference's ManyOf. -/
import Derived.Test.YtfhidiedmenliaaGreatDoorFrRefC
namespace Go.Proofs.YtfhidiedmenliaaGreatDoor
open Go.RowKit

def MnP (l : List Bur.Sp) (j k : Nat) (a : Int) (w : World) (e : Ending) (w' : World) : Prop :=
  e = .returned (.int .i64 (Bur.mny l j k a)) ∧ Below w.heap.size w w'

set_option maxHeartbeats 4000000 in
theorem many_0 (j k : Nat) (a n : Int) (p : Option Addr) (cap : Nat) (l : List Bur.Sp) (w : World) (ok : Bur.OkK k a) (hl : l.length ≤ 60) (hO : Hid (∀ q ∈ l, Bur.OkP q)) (hs : SpAt w p l) (hn : 0 ≤ n) (hn2 : n ≤ 32) (hj : j = (32 - n).toNat) (hjk : j ≤ k) (h : Bur.stt l k a = 0) :
    Calls Tryz.prog 14 #[pfx a (32 - (k : Int)), .slice p l.length cap, .int .i64 n] w (MnP l j k a w) := by
  have hL : Hid (Bur.mny l j k a = 2 ^ (k - j)) := Bur.mny_0 h hjk
  have st := fun w hs => refState k a p cap l w ok hl hO hs
  simp only [h] at st
  have ok1 := ok.1
  have e1 : Bur.sz (32 - (k : Int)) = 2 ^ k := Bur.sz_pw ok1
  have e2 : Bur.sz n = 2 ^ j := by rw [hj]; rfl
  have hq : Hid (IntKind.i64.wrap ((Bur.sz (32 - (k : Int))).tdiv (Bur.sz n)) = 2 ^ (k - j)) := by
    show _ = _
    have h1 := Bur.pw_pos (k - j)
    have h2 := Bur.pw_le (show k - j ≤ 32 by omega)
    have h3 := Bur.pw_32
    rw [e1, e2, Int.tdiv_eq_ediv_of_nonneg (by have := Bur.pw_pos k; omega), Bur.pw_div hjk, Bur.wrap_i64_id _ (by omega) (by omega)]
  obtain ⟨m, hm⟩ : ∃ m, 32 - (k : Int) = m := ⟨_, rfl⟩
  have hm0 : 0 ≤ m := by omega
  have hm1 : m ≤ 32 := by omega
  rw [hm] at st hq ⊢
  have hzn : (Bur.sz n == 0) = false := by have := Bur.sz_pos n; simp; omega
  have hzn2 := Bur.sz_pos n
  clear hm e1 e2
  go_enter Tryz.func14, Tryz.ntmps14
  go_wp2_with fail
  have hb0 : Below w.heap.size w (w.alloc (.cells #[.int .i64 a, .int .i64 m] 23)) := below_al (below_self _) _
  refine (st _ (hs.step hb0)).mono ?_
  rintro e w1 ⟨rfl, hb1⟩
  have s1 : w1.cell? ⟨w.heap.size, 1, none⟩ = some (.int .i64 m) := (hb1.cell (p := ⟨w.heap.size, 1, none⟩) (by simp)).trans (by simp)
  have hb2 := below_via hb0 hb1
  clear hb0 hb1 st h hO hs ok
  have c1 := fun w => size_eq m hm0 hm1 w
  have c2 := fun w => size_eq n hn hn2 w
  obtain ⟨S1, hS1⟩ : ∃ S1, Bur.sz m = S1 := ⟨_, rfl⟩
  obtain ⟨S2, hS2⟩ : ∃ S2, Bur.sz n = S2 := ⟨_, rfl⟩
  rw [hS1, hS2] at hq
  simp only [hS1] at c1
  simp only [hS2] at c2
  rw [hS2] at hzn hzn2
  clear hS1 hS2
  obtain ⟨Q, hQ⟩ : ∃ Q, (2 : Int) ^ (k - j) = Q := ⟨_, rfl⟩
  rw [hQ] at hL hq
  clear hQ
  have hq' := hq.out
  go_wp2_with fail
  refine (c1 _).mono ?_
  rintro e w3 ⟨rfl, hw3⟩
  have hw4 := hw3.symm
  subst hw4
  go_wp2_with fail
  refine (c2 _).mono ?_
  rintro e w5 ⟨rfl, hw5⟩
  have hw6 := hw5.symm
  subst hw6
  go_wp2_with fail
  go_ret
  exact ⟨by rw [hL.out]; rfl, hb2⟩

set_option maxHeartbeats 4000000 in
theorem many_1 (j k : Nat) (a n : Int) (p : Option Addr) (cap : Nat) (l : List Bur.Sp) (w : World) (ok : Bur.OkK k a) (hl : l.length ≤ 60) (hO : Hid (∀ q ∈ l, Bur.OkP q)) (hs : SpAt w p l) (hn : 0 ≤ n) (hn2 : n ≤ 32) (hj : j = (32 - n).toNat) (h : Bur.stt l k a = 1 ∨ (Bur.stt l k a = 2 ∧ k ≤ j)) :
    Calls Tryz.prog 14 #[pfx a (32 - (k : Int)), .slice p l.length cap, .int .i64 n] w (MnP l j k a w) := by
  have hL : Hid (Bur.mny l j k a = 0) := Bur.mny_1 h
  have st := fun w hs => refState k a p cap l w ok hl hO hs
  obtain ⟨m, hm⟩ : ∃ m, 32 - (k : Int) = m := ⟨_, rfl⟩
  have hge : Hid (Bur.stt l k a ≠ 1 → Bur.stt l k a = 2 ∧ n ≤ m) := fun g => by omega
  rw [hm] at st ⊢
  clear hm h
  obtain ⟨s, hs'⟩ : ∃ s, Bur.stt l k a = s := ⟨_, rfl⟩
  rw [hs'] at hge
  simp only [hs'] at st
  clear hs'
  go_enter Tryz.func14, Tryz.ntmps14
  go_wp2_with fail
  have hb0 : Below w.heap.size w (w.alloc (.cells #[.int .i64 a, .int .i64 m] 23)) := below_al (below_self _) _
  refine (st _ (hs.step hb0)).mono ?_
  rintro e w1 ⟨rfl, hb1⟩
  have s1 : w1.cell? ⟨w.heap.size, 1, none⟩ = some (.int .i64 m) := (hb1.cell (p := ⟨w.heap.size, 1, none⟩) (by simp)).trans (by simp)
  have hb2 := below_via hb0 hb1
  clear hb0 hb1 st hO hs ok
  by_cases z1 : s = 1
  · subst z1
    go_wp2_with fail
    go_ret
    exact ⟨by rw [hL.out]; rfl, hb2⟩
  · obtain ⟨rfl, hnm⟩ := hge.out z1
    clear z1 hge
    go_wp2_with fail
    go_ret
    exact ⟨by rw [hL.out]; rfl, hb2⟩
set_option maxHeartbeats 4000000 in
theorem many_2 (j k : Nat) (a n : Int) (p : Option Addr) (cap : Nat) (l : List Bur.Sp) (w : World) (ok : Bur.OkK (k + 1) a) (hl : l.length ≤ 60) (hO : Hid (∀ q ∈ l, Bur.OkP q)) (hs : SpAt w p l) (hn : 0 ≤ n) (hn2 : n ≤ 32) (hj : j = (32 - n).toNat) (h : Bur.stt l (k + 1) a = 2) (hkj : ¬ k + 1 ≤ j)
    (ih : ∀ (b : Int) (w : World), b = a ∨ b = a + 2 ^ k → SpAt w p l → Calls Tryz.prog 14 #[pfx b (32 - (k : Int)), .slice p l.length cap, .int .i64 n] w (MnP l j k b w)) :
    Calls Tryz.prog 14 #[pfx a (32 - ((k + 1 : Nat) : Int)), .slice p l.length cap, .int .i64 n] w (MnP l j (k + 1) a w) := by
  have hL : Hid (Bur.mny l j (k + 1) a = Bur.mny l j k a + Bur.mny l j k (a + 2 ^ k)) := Bur.mny_2 h hkj
  have st := fun w hs => refState (k + 1) a p cap l w ok hl hO hs
  simp only [h] at st
  obtain ⟨ok1, ok2, ok3, ok4⟩ := ok
  have hszk : Hid (Bur.sz (32 - (k : Int)) = 2 ^ k) := Bur.sz_pw (by omega)
  have hp := Bur.pw_pos k
  have hps := Bur.pw_succ k
  obtain ⟨h2, hh⟩ : ∃ h, (2 : Int) ^ k = h := ⟨_, rfl⟩
  rw [hh] at hszk hL ih hp hps
  obtain ⟨m, hm⟩ : ∃ m, 32 - ((k + 1 : Nat) : Int) = m := ⟨_, rfl⟩
  have hm' : 32 - (k : Int) = m + 1 := by omega
  have hlt : m < n := by omega
  rw [hm'] at hszk ih
  rw [hm] at st ⊢
  have hm0 : 0 ≤ m := by omega
  have hm1 : m + 1 ≤ 32 := by omega
  have ih1 := fun w => ih a w (.inl rfl)
  have ih2 := fun w => ih (a + h2) w (.inr rfl)
  have hah : a + h2 ≤ 4294967295 := by omega
  have hb1 := Bur.mny_le l j k a
  have hb2 := Bur.mny_le l j k (a + h2)
  rw [hh] at hb1 hb2
  obtain ⟨L, hLL⟩ : ∃ L, Bur.mny l j (k + 1) a = L := ⟨_, rfl⟩
  unfold MnP
  unfold MnP at ih1 ih2
  rw [hLL] at hL ⊢
  obtain ⟨L1, hL1⟩ : ∃ L1, Bur.mny l j k a = L1 := ⟨_, rfl⟩
  obtain ⟨L2, hL2⟩ : ∃ L2, Bur.mny l j k (a + h2) = L2 := ⟨_, rfl⟩
  simp only [hL1] at hL ih1 hb1
  simp only [hL2] at hL ih2 hb2
  have g1 := hb1.1
  have g2 := hb1.2
  have g3 := hb2.1
  have g4 := hb2.2
  clear hh hm hm' ih hLL hL1 hL2 h hO ok4 hj hkj hb1 hb2
  go_enter Tryz.func14, Tryz.ntmps14
  go_wp2_with fail
  have hb0 : Below w.heap.size w (w.alloc (.cells #[.int .i64 a, .int .i64 m] 23)) := below_al (below_self _) _
  refine (st _ (hs.step hb0)).mono ?_
  rintro e w1 ⟨rfl, hb1⟩
  have s0 : w1.cell? ⟨w.heap.size, 0, none⟩ = some (.int .i64 a) := (hb1.cell (p := ⟨w.heap.size, 0, none⟩) (by simp)).trans (by simp)
  have s1 : w1.cell? ⟨w.heap.size, 1, none⟩ = some (.int .i64 m) := (hb1.cell (p := ⟨w.heap.size, 1, none⟩) (by simp)).trans (by simp)
  have hb2 := below_via hb0 hb1
  have hs1 := hs.step hb2
  clear hb0 hb1 st hs
  go_wp2_with fail
  refine (ih1 _ hs1).mono ?_
  rintro e w2 ⟨rfl, hb3⟩
  have r0 : w2.cell? ⟨w.heap.size, 0, none⟩ = some (.int .i64 a) := (hb3.cell (World.block_lt_of_cell? _ _ s0)).trans s0
  have r1 : w2.cell? ⟨w.heap.size, 1, none⟩ = some (.int .i64 m) := (hb3.cell (World.block_lt_of_cell? _ _ s1)).trans s1
  have hs2 := hs1.step hb3
  have hb4 := below_via hb2 hb3
  clear hb2 hb3 s0 s1 hs1 ih1
  have w1' : IntKind.i64.wrap (m + 1) = m + 1 := Bur.wrap_i64_id _ (by omega) (by omega)
  have w2' : IntKind.i64.wrap (a + h2) = a + h2 := Bur.wrap_i64_id _ (by omega) (by omega)
  have w3' : IntKind.i64.wrap (L1 + L2) = L1 + L2 := Bur.wrap_i64_id _ (by omega) (by omega)
  have hlt2 := World.block_lt_of_cell? _ _ r0
  go_wp2_with fail
  go_region_held3 (fun wy => wy.cell? ⟨w.heap.size, 0, none⟩ = some (.int .i64 a) ∧ wy.cell? ⟨w.heap.size, 1, none⟩ = some (.int .i64 m)) (first | exact ⟨r0, r1⟩ | exact ⟨d0, d1⟩)
    (first
      | (go_at_call 25; refine (size_eq (m + 1) (by omega) (by omega) _).mono ?_; rintro e w3 ⟨rfl, hw3⟩; have hw4 := hw3.symm; subst hw4; rw [hszk.out])
      | (go_at_call 14; refine (ih2 _ (hs2.step (below_self _).drew)).mono ?_; clear ih2; rintro e wA ⟨rfl, hbA⟩; have d0 := (hbA.cell (p := ⟨w.heap.size, 0, none⟩) hlt2).trans r0; have d1 := (hbA.cell (p := ⟨w.heap.size, 1, none⟩) hlt2).trans r1))
  have hb5 := below_via hb4.drew hbA
  clear hbA d0 d1 r0 r1 hs2 hb4
  go_wp2_with fail
  go_ret
  exact ⟨by rw [hL.out]; rfl, hb5⟩

theorem refMany (j : Nat) (n : Int) (p : Option Addr) (cap : Nat) (l : List Bur.Sp) (hl : l.length ≤ 60) (hO : Hid (∀ q ∈ l, Bur.OkP q)) (hn : 0 ≤ n) (hn2 : n ≤ 32) (hj : j = (32 - n).toNat) : ∀ (k : Nat) (a : Int) (w : World), j ≤ k → Bur.OkK k a → SpAt w p l →
    Calls Tryz.prog 14 #[pfx a (32 - (k : Int)), .slice p l.length cap, .int .i64 n] w (MnP l j k a w) := by
  intro k
  induction k with
  | zero =>
    intro a w hjk ok hs
    rcases Bur.stt_or l 0 a with h | h | h
    · exact many_0 j 0 a n p cap l w ok hl hO hs hn hn2 hj hjk h
    · exact many_1 j 0 a n p cap l w ok hl hO hs hn hn2 hj (.inl h)
    · have := (Bur.stt_2 ok h).2
      omega
  | succ k ih =>
    intro a w hjk ok hs
    rcases Bur.stt_or l (k + 1) a with h | h | h
    · exact many_0 j (k + 1) a n p cap l w ok hl hO hs hn hn2 hj hjk h
    · exact many_1 j (k + 1) a n p cap l w ok hl hO hs hn hn2 hj (.inl h)
    · by_cases hkj : k + 1 ≤ j
      · exact many_1 j (k + 1) a n p cap l w ok hl hO hs hn hn2 hj (.inr ⟨h, hkj⟩)
      · refine many_2 j k a n p cap l w ok hl hO hs hn hn2 hj h hkj ?_
        rintro b w' (rfl | rfl) hs'
        · exact ih b w' (by omega) ok.low hs'
        · exact ih (a + 2 ^ k) w' (by omega) ok.high hs'
end Go.Proofs.YtfhidiedmenliaaGreatDoor
