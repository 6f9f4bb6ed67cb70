/- The contracts of the reference's FirstOf and ManyOf. -/
import Derived.Test.YtfhidiedmenliaaGreatDoorFrRefB
namespace Bur
theorem fst_0 {l : List Sp} {j k : Nat} {a : Int} (h : stt l k a = 0) : fst1 l j k a = some a := by
  cases k with
  | zero => rw [fst1, if_pos h]
  | succ k => rw [fst1, if_pos h]
theorem fst_1 {l : List Sp} {j k : Nat} {a : Int} (h : stt l k a = 1 ∨ (stt l k a = 2 ∧ k ≤ j)) : fst1 l j k a = none := by
  cases k with
  | zero => rw [fst1, if_neg (by omega)]
  | succ k => rw [fst1, if_neg (by omega), if_pos (by omega)]
theorem fst_2 {l : List Sp} {j k : Nat} {a : Int} (h : stt l (k + 1) a = 2) (hj : ¬ k + 1 ≤ j) : fst1 l j (k + 1) a = (fst1 l j k a).or (fst1 l j k (a + 2 ^ k)) := by
  rw [fst1, if_neg (by omega), if_neg (by omega)]
theorem mny_0 {l : List Sp} {j k : Nat} {a : Int} (h : stt l k a = 0) (hj : j ≤ k) : mny l j k a = 2 ^ (k - j) := by
  cases k with
  | zero => rw [mny, if_pos h, show 0 - j = 0 by omega]; rfl
  | succ k => rw [mny, if_neg (by omega), if_pos h]
theorem mny_1 {l : List Sp} {j k : Nat} {a : Int} (h : stt l k a = 1 ∨ (stt l k a = 2 ∧ k ≤ j)) : mny l j k a = 0 := by
  cases k with
  | zero => rw [mny, if_neg (by omega)]
  | succ k => rw [mny, if_pos (by omega)]
theorem mny_2 {l : List Sp} {j k : Nat} {a : Int} (h : stt l (k + 1) a = 2) (hj : ¬ k + 1 ≤ j) : mny l j (k + 1) a = mny l j k a + mny l j k (a + 2 ^ k) := by
  rw [mny, if_neg (by omega), if_neg (by omega)]
theorem mny_le (l : List Sp) (j : Nat) : ∀ (k : Nat) (a : Int), 0 ≤ mny l j k a ∧ mny l j k a ≤ 2 ^ k
  | 0, a => by rw [mny]; split <;> simp
  | k + 1, a => by
    have h1 := mny_le l j k a
    have h2 := mny_le l j k (a + 2 ^ k)
    have h3 := pw_succ k
    have h4 := pw_pos k
    rw [mny]
    split
    · omega
    · split
      · have := pw_le (show k + 1 - j ≤ k + 1 by omega)
        have := pw_pos (k + 1 - j)
        omega
      · omega
end Bur
namespace Go.Proofs.YtfhidiedmenliaaGreatDoor
open Go.RowKit

def FsP (l : List Bur.Sp) (j k : Nat) (a : Int) (w : World) (e : Ending) (w' : World) : Prop :=
  e = .returned (.tuple #[.int .i64 ((Bur.fst1 l j k a).getD 0), .bool (Bur.fst1 l j k a).isSome]) ∧ Below w.heap.size w w'

set_option maxHeartbeats 4000000 in
theorem first_0 (j k : Nat) (a n : Int) (p : Option Addr) (cap : Nat) (l : List Bur.Sp) (w : World) (ok : Bur.OkK k a) (hl : l.length ≤ 60) (hO : Hid (∀ q ∈ l, Bur.OkP q)) (hs : SpAt w p l) (h : Bur.stt l k a = 0) :
    Calls Tryz.prog 13 #[pfx a (32 - (k : Int)), .slice p l.length cap, .int .i64 n] w (FsP l j k a w) := by
  have hL : Hid (Bur.fst1 l j k a = some a) := Bur.fst_0 h
  have st := fun w hs => refState k a p cap l w ok hl hO hs
  simp only [h] at st
  obtain ⟨m, hm⟩ : ∃ m, 32 - (k : Int) = m := ⟨_, rfl⟩
  rw [hm] at st ⊢
  clear hm
  go_enter Tryz.func13, Tryz.ntmps13
  go_wp2_with fail
  have hb0 : Below w.heap.size w (w.alloc (.cells #[.int .i64 a, .int .i64 m] 23)) := below_al (below_self _) _
  refine (st _ (hs.step hb0)).mono ?_
  rintro e w1 ⟨rfl, hb1⟩
  have s0 : w1.cell? ⟨w.heap.size, 0, none⟩ = some (.int .i64 a) := (hb1.cell (p := ⟨w.heap.size, 0, none⟩) (by simp)).trans (by simp)
  have hb2 := below_via hb0 hb1
  clear hb0 hb1 st h hO hs ok
  go_wp2_with fail
  go_ret2
  exact ⟨by rw [hL.out]; rfl, hb2⟩

set_option maxHeartbeats 4000000 in
theorem first_1 (j k : Nat) (a n : Int) (p : Option Addr) (cap : Nat) (l : List Bur.Sp) (w : World) (ok : Bur.OkK k a) (hl : l.length ≤ 60) (hO : Hid (∀ q ∈ l, Bur.OkP q)) (hs : SpAt w p l) (hn : 0 ≤ n) (hn2 : n ≤ 32) (hj : j = (32 - n).toNat) (h : Bur.stt l k a = 1 ∨ (Bur.stt l k a = 2 ∧ k ≤ j)) :
    Calls Tryz.prog 13 #[pfx a (32 - (k : Int)), .slice p l.length cap, .int .i64 n] w (FsP l j k a w) := by
  have hL : Hid (Bur.fst1 l j k a = none) := Bur.fst_1 h
  have st := fun w hs => refState k a p cap l w ok hl hO hs
  obtain ⟨m, hm⟩ : ∃ m, 32 - (k : Int) = m := ⟨_, rfl⟩
  have hge : Hid (Bur.stt l k a ≠ 1 → n ≤ m) := fun g => by omega
  have hst : Hid (Bur.stt l k a ≠ 0) := by show ¬ _; omega
  rw [hm] at st ⊢
  clear hm h
  obtain ⟨s, hs'⟩ : ∃ s, Bur.stt l k a = s := ⟨_, rfl⟩
  rw [hs'] at hge hst
  simp only [hs'] at st
  clear hs'
  go_enter Tryz.func13, Tryz.ntmps13
  go_wp2_with fail
  have hb0 : Below w.heap.size w (w.alloc (.cells #[.int .i64 a, .int .i64 m] 23)) := below_al (below_self _) _
  refine (st _ (hs.step hb0)).mono ?_
  rintro e w1 ⟨rfl, hb1⟩
  have s1 : w1.cell? ⟨w.heap.size, 1, none⟩ = some (.int .i64 m) := (hb1.cell (p := ⟨w.heap.size, 1, none⟩) (by simp)).trans (by simp)
  have hb2 := below_via hb0 hb1
  have z0 : (s == 0) = false := by simpa using hst.out
  clear hb0 hb1 st hO hs ok
  cases z1 : (s == 1)
  · have hnm := hge.out (by simpa using z1)
    go_wp2_with fail
    go_ret2
    exact ⟨by rw [hL.out]; rfl, hb2⟩
  · go_wp2_with fail
    go_ret2
    exact ⟨by rw [hL.out]; rfl, hb2⟩
set_option maxHeartbeats 4000000 in
theorem first_2 (j k : Nat) (a n : Int) (p : Option Addr) (cap : Nat) (l : List Bur.Sp) (w : World) (ok : Bur.OkK (k + 1) a) (hl : l.length ≤ 60) (hO : Hid (∀ q ∈ l, Bur.OkP q)) (hs : SpAt w p l) (hn : 0 ≤ n) (hn2 : n ≤ 32) (hj : j = (32 - n).toNat) (h : Bur.stt l (k + 1) a = 2) (hkj : ¬ k + 1 ≤ j)
    (ih : ∀ (b : Int) (w : World), b = a ∨ b = a + 2 ^ k → SpAt w p l → Calls Tryz.prog 13 #[pfx b (32 - (k : Int)), .slice p l.length cap, .int .i64 n] w (FsP l j k b w)) :
    Calls Tryz.prog 13 #[pfx a (32 - ((k + 1 : Nat) : Int)), .slice p l.length cap, .int .i64 n] w (FsP l j (k + 1) a w) := by
  have hL : Hid (Bur.fst1 l j (k + 1) a = (Bur.fst1 l j k a).or (Bur.fst1 l j k (a + 2 ^ k))) := Bur.fst_2 h hkj
  have st := fun w hs => refState (k + 1) a p cap l w ok hl hO hs
  simp only [h] at st
  obtain ⟨ok1, ok2, ok3, ok4⟩ := ok
  have hszk : Hid (Bur.sz (32 - (k : Int)) = 2 ^ k) := Bur.sz_pw (by omega)
  have hp := Bur.pw_pos k
  have hps := Bur.pw_succ k
  obtain ⟨h2, hh⟩ : ∃ h, (2 : Int) ^ k = h := ⟨_, rfl⟩
  rw [hh] at hszk hL ih hp hps
  obtain ⟨m, hm⟩ : ∃ m, 32 - ((k + 1 : Nat) : Int) = m := ⟨_, rfl⟩
  have hm' : 32 - (k : Int) = m + 1 := by omega
  have hlt : m < n := by omega
  rw [hm'] at hszk ih
  rw [hm] at st ⊢
  have hm0 : 0 ≤ m := by omega
  have hm1 : m + 1 ≤ 32 := by omega
  have ih1 := fun w => ih a w (.inl rfl)
  have ih2 := fun w => ih (a + h2) w (.inr rfl)
  have hah : a + h2 ≤ 4294967295 := by omega
  obtain ⟨L, hLL⟩ : ∃ L, Bur.fst1 l j (k + 1) a = L := ⟨_, rfl⟩
  unfold FsP
  unfold FsP at ih1 ih2
  rw [hLL] at hL ⊢
  obtain ⟨L1, hL1⟩ : ∃ L1, Bur.fst1 l j k a = L1 := ⟨_, rfl⟩
  obtain ⟨L2, hL2⟩ : ∃ L2, Bur.fst1 l j k (a + h2) = L2 := ⟨_, rfl⟩
  simp only [hL1] at hL ih1
  simp only [hL2] at hL ih2
  clear hh hm hm' ih hLL hL1 hL2 h hO ok4 hj hkj
  go_enter Tryz.func13, Tryz.ntmps13
  go_wp2_with fail
  have hb0 : Below w.heap.size w (w.alloc (.cells #[.int .i64 a, .int .i64 m] 23)) := below_al (below_self _) _
  refine (st _ (hs.step hb0)).mono ?_
  rintro e w1 ⟨rfl, hb1⟩
  have s0 : w1.cell? ⟨w.heap.size, 0, none⟩ = some (.int .i64 a) := (hb1.cell (p := ⟨w.heap.size, 0, none⟩) (by simp)).trans (by simp)
  have s1 : w1.cell? ⟨w.heap.size, 1, none⟩ = some (.int .i64 m) := (hb1.cell (p := ⟨w.heap.size, 1, none⟩) (by simp)).trans (by simp)
  have hb2 := below_via hb0 hb1
  have hs1 := hs.step hb2
  clear hb0 hb1 st hs
  go_wp2_with fail
  refine (ih1 _ hs1).mono ?_
  rintro e w2 ⟨rfl, hb3⟩
  have r0 : w2.cell? ⟨w.heap.size, 0, none⟩ = some (.int .i64 a) := (hb3.cell (World.block_lt_of_cell? _ _ s0)).trans s0
  have r1 : w2.cell? ⟨w.heap.size, 1, none⟩ = some (.int .i64 m) := (hb3.cell (World.block_lt_of_cell? _ _ s1)).trans s1
  have hs2 := hs1.step hb3
  have hb4 := below_via hb2 hb3
  clear hb2 hb3 s0 s1 hs1 ih1
  cases L1 with
  | some x =>
    simp only [Option.isSome_some, Option.getD_some]
    have hL2 : Hid (L = some x) := by show _ = _; rw [hL.out]; rfl
    clear hL hs2 ih2 r0 r1
    go_wp2_with fail
    go_ret2
    exact ⟨by rw [hL2.out]; rfl, hb4⟩
  | none =>
    simp only [Option.isSome_none, Option.getD_none]
    have hL2 : Hid (L = L2) := by show _ = _; rw [hL.out]; rfl
    have w1' : IntKind.i64.wrap (m + 1) = m + 1 := Bur.wrap_i64_id _ (by omega) (by omega)
    have w2' : IntKind.i64.wrap (a + h2) = a + h2 := Bur.wrap_i64_id _ (by omega) (by omega)
    have hlt2 := World.block_lt_of_cell? _ _ r0
    clear hL
    go_wp2_with fail
    go_region_held3 (fun wy => wy.cell? ⟨w.heap.size, 0, none⟩ = some (.int .i64 a) ∧ wy.cell? ⟨w.heap.size, 1, none⟩ = some (.int .i64 m)) (first | exact ⟨r0, r1⟩ | exact ⟨d0, d1⟩)
      (first
        | (go_at_call 25; refine (size_eq (m + 1) (by omega) (by omega) _).mono ?_; rintro e w3 ⟨rfl, hw3⟩; have hw4 := hw3.symm; subst hw4; rw [hszk.out])
        | (go_at_call 13; refine (ih2 _ (hs2.step (below_self _).drew)).mono ?_; clear ih2; rintro e wA ⟨rfl, hbA⟩; have d0 := (hbA.cell (p := ⟨w.heap.size, 0, none⟩) hlt2).trans r0; have d1 := (hbA.cell (p := ⟨w.heap.size, 1, none⟩) hlt2).trans r1))
    have hb5 := below_via hb4.drew hbA
    clear hbA d0 d1 r0 r1 hs2 hb4
    go_wp2_with fail
    go_ret2
    exact ⟨by rw [hL2.out]; rfl, hb5⟩

theorem refFirst (j : Nat) (n : Int) (p : Option Addr) (cap : Nat) (l : List Bur.Sp) (hl : l.length ≤ 60) (hO : Hid (∀ q ∈ l, Bur.OkP q)) (hn : 0 ≤ n) (hn2 : n ≤ 32) (hj : j = (32 - n).toNat) : ∀ (k : Nat) (a : Int) (w : World), Bur.OkK k a → SpAt w p l →
    Calls Tryz.prog 13 #[pfx a (32 - (k : Int)), .slice p l.length cap, .int .i64 n] w (FsP l j k a w) := by
  intro k
  induction k with
  | zero =>
    intro a w ok hs
    rcases Bur.stt_or l 0 a with h | h | h
    · exact first_0 j 0 a n p cap l w ok hl hO hs h
    · exact first_1 j 0 a n p cap l w ok hl hO hs hn hn2 hj (.inl h)
    · have := (Bur.stt_2 ok h).2
      omega
  | succ k ih =>
    intro a w ok hs
    rcases Bur.stt_or l (k + 1) a with h | h | h
    · exact first_0 j (k + 1) a n p cap l w ok hl hO hs h
    · exact first_1 j (k + 1) a n p cap l w ok hl hO hs hn hn2 hj (.inl h)
    · by_cases hkj : k + 1 ≤ j
      · exact first_1 j (k + 1) a n p cap l w ok hl hO hs hn hn2 hj (.inr ⟨h, hkj⟩)
      · refine first_2 j k a n p cap l w ok hl hO hs hn hn2 hj h hkj ?_
        rintro b w' (rfl | rfl) hs'
        · exact ih b w' ok.low hs'
        · exact ih (a + 2 ^ k) w' ok.high hs'
end Go.Proofs.YtfhidiedmenliaaGreatDoor
