/- What is free within a prefix: the first of a Len, how many, the best; by halving, by places, by blocks. No program stands here. -/
import Derived.Test.YtfhidiedmenliaaGreatDoorFrMath
namespace Bur
open Go

/-- The places of 2^j addresses in 2^(j+d) from a on. -/
def slt (j : Nat) : Nat → Int → List Sp
  | 0, a => [pk j a]
  | d + 1, a => slt j d a ++ slt j d (a + 2 ^ (j + d))
/-- Is it free of all? -/
def fre (l : List Sp) (s : Sp) : Bool := !l.any fun q => mts s q
theorem fre_iff (l : List Sp) (s : Sp) : fre l s = true ↔ ∀ q ∈ l, mts s q = false := by
  simp [fre]
theorem slt_len (j : Nat) : ∀ (d : Nat) (a : Int), (slt j d a).length = 2 ^ d
  | 0, _ => rfl
  | d + 1, a => by rw [slt, List.length_append, slt_len j d, slt_len j d, Nat.pow_succ]; omega
/-- What the places are. -/
theorem slt_mem (j : Nat) : ∀ (d : Nat) (a : Int), OkK (j + d) a → ∀ s ∈ slt j d a, ∃ b, s = pk j b ∧ OkK j b ∧ a ≤ b ∧ b + 2 ^ j ≤ a + 2 ^ (j + d)
  | 0, a, ok, s, hs => by
    rw [slt, List.mem_singleton] at hs
    exact ⟨a, hs, ok, Int.le_refl _, Int.le_refl _⟩
  | d + 1, a, ok, s, hs => by
    have e1 := pw_succ (j + d)
    have e2 := pw_pos (j + d)
    have ok' : OkK (j + d + 1) a := ok
    rw [slt, List.mem_append] at hs
    have e3 : (2 : Int) ^ (j + (d + 1)) = 2 ^ (j + d + 1) := rfl
    rcases hs with hs | hs
    · obtain ⟨b, h1, h2, h3, h4⟩ := slt_mem j d a ok'.low s hs
      exact ⟨b, h1, h2, h3, by rw [e3]; omega⟩
    · obtain ⟨b, h1, h2, h3, h4⟩ := slt_mem j d (a + 2 ^ (j + d)) ok'.high s hs
      exact ⟨b, h1, h2, by omega, by rw [e3]; omega⟩
/-- They rise. -/
theorem slt_rise (j : Nat) : ∀ (d : Nat) (a : Int), OkK (j + d) a → (slt j d a).Pairwise (fun x y => x.1 + 2 ^ j ≤ y.1)
  | 0, a, _ => by simp [slt]
  | d + 1, a, ok => by
    have ok' : OkK (j + d + 1) a := ok
    rw [slt, List.pairwise_append]
    refine ⟨slt_rise j d a ok'.low, slt_rise j d _ ok'.high, fun x hx y hy => ?_⟩
    obtain ⟨b, h1, h2, h3, h4⟩ := slt_mem j d a ok'.low x hx
    obtain ⟨c, g1, g2, g3, g4⟩ := slt_mem j d _ ok'.high y hy
    rw [h1, g1]
    simp only [pk]
    omega
/-- Each aligned place within is one of them. -/
theorem slt_has (j : Nat) : ∀ (d : Nat) (a b : Int), OkK (j + d) a → OkK j b → a ≤ b → b + 2 ^ j ≤ a + 2 ^ (j + d) → pk j b ∈ slt j d a
  | 0, a, b, _, _, h1, h2 => by
    have : b = a := by simp only [Nat.add_zero] at h2; omega
    subst this
    simp [slt]
  | d + 1, a, b, ok, okb, h1, h2 => by
    have ok' : OkK (j + d + 1) a := ok
    have e1 := pw_succ (j + d)
    have e2 := pw_pos (j + d)
    have e3 : (2 : Int) ^ (j + (d + 1)) = 2 ^ (j + d + 1) := rfl
    have hj := pw_pos j
    rw [slt, List.mem_append]
    by_cases h : b < a + 2 ^ (j + d)
    · left
      refine slt_has j d a b ok'.low okb h1 ?_
      exact apart hj okb.2.2.2 (Int.dvd_add (Int.dvd_trans (pw_dvd (by omega)) ok'.2.2.2) (pw_dvd (by omega))) h
    · right
      exact slt_has j d (a + 2 ^ (j + d)) b ok'.high okb (by omega) (by rw [e3] at h2; omega)
theorem fre_0 {l : List Sp} {k : Nat} {a : Int} (ok : OkK k a) (hs : stt l k a = 0) {b : Int} {j : Nat} (okb : OkK j b) (h1 : a ≤ b) (h2 : b + 2 ^ j ≤ a + 2 ^ k) : fre l (pk j b) = true := by
  rw [fre_iff]
  intro q hq
  cases e : mts (pk j b) q with
  | false => rfl
  | true =>
    rw [okb.mts_iff] at e
    rcases stt_cases l k a with ⟨g, _⟩ | ⟨g, _⟩ | ⟨_, _, g⟩
    · omega
    · omega
    · rw [List.any_eq_false] at g
      exact absurd ((ok.mts_iff q).2 ⟨by omega, by omega⟩) (g q hq)
theorem fre_1 {l : List Sp} {k : Nat} {a : Int} (ok : OkK k a) (hs : stt l k a = 1) {b : Int} {j : Nat} (okb : OkK j b) (h1 : a ≤ b) (h2 : b + 2 ^ j ≤ a + 2 ^ k) : fre l (pk j b) = false := by
  have hj := pw_pos j
  rcases stt_cases l k a with ⟨_, g⟩ | ⟨g, _⟩ | ⟨g, _⟩
  · obtain ⟨q, hq, hi⟩ := List.any_eq_true.1 g
    rw [ok.in_iff] at hi
    cases e : fre l (pk j b) with
    | false => rfl
    | true =>
      have := (fre_iff _ _).1 e q hq
      rw [(okb.mts_iff q).2 ⟨by omega, by omega⟩] at this
      cases this
  · omega
  · omega
theorem fre_2 {l : List Sp} {k : Nat} {a : Int} (hs : stt l k a = 2) : fre l (pk k a) = false := by
  rcases stt_cases l k a with ⟨g, _⟩ | ⟨_, _, g⟩ | ⟨g, _⟩
  · omega
  · simp only [fre, g]; rfl
  · omega

/-- The first of 2^j, by halving. -/
def fst1 (l : List Sp) (j : Nat) : Nat → Int → Option Int
  | 0, a => if stt l 0 a = 0 then some a else none
  | k + 1, a => if stt l (k + 1) a = 0 then some a else if stt l (k + 1) a = 1 ∨ k + 1 ≤ j then none else (fst1 l j k a).or (fst1 l j k (a + 2 ^ k))
/-- How many of 2^j, by halving. -/
def mny (l : List Sp) (j : Nat) : Nat → Int → Int
  | 0, a => if stt l 0 a = 0 then 1 else 0
  | k + 1, a => if stt l (k + 1) a = 1 ∨ (stt l (k + 1) a = 2 ∧ k + 1 ≤ j) then 0 else if stt l (k + 1) a = 0 then 2 ^ (k + 1 - j) else mny l j k a + mny l j k (a + 2 ^ k)
theorem slt_head (j : Nat) : ∀ (d : Nat) (a : Int), ∃ r, slt j d a = pk j a :: r
  | 0, a => ⟨[], rfl⟩
  | d + 1, a => by
    obtain ⟨r, hr⟩ := slt_head j d a
    exact ⟨r ++ slt j d (a + 2 ^ (j + d)), by rw [slt, hr]; rfl⟩
theorem pow_nat (n : Nat) : ((2 ^ n : Nat) : Int) = 2 ^ n := by simp
/-- Both are what the places say. -/
theorem fst_slt {l : List Sp} (j : Nat) : ∀ (d : Nat) (a : Int), OkK (j + d) a → fst1 l j (j + d) a = ((slt j d a).find? (fre l)).map (·.1) ∧ mny l j (j + d) a = ((slt j d a).filter (fre l)).length
  | 0, a, ok => by
    have ok0 : OkK j a := ok
    rw [slt]
    rcases stt_cases l j a with ⟨e, _⟩ | ⟨e, _⟩ | ⟨e, _⟩
    · have f := fre_1 ok0 e ok0 (Int.le_refl _) (Int.le_refl _)
      rw [List.find?_cons, List.filter_cons, f]
      cases j with
      | zero => exact ⟨by rw [Nat.add_zero, fst1, if_neg (by omega)]; rfl, by rw [Nat.add_zero, mny, if_neg (by omega)]; rfl⟩
      | succ j => exact ⟨by rw [Nat.add_zero, fst1, if_neg (by omega), if_pos (.inl e)]; rfl, by rw [Nat.add_zero, mny, if_pos (.inl e)]; rfl⟩
    · have f := fre_2 (l := l) (k := j) (a := a) e
      rw [List.find?_cons, List.filter_cons, f]
      cases j with
      | zero => exact ⟨by rw [Nat.add_zero, fst1, if_neg (by omega)]; rfl, by rw [Nat.add_zero, mny, if_neg (by omega)]; rfl⟩
      | succ j => exact ⟨by rw [Nat.add_zero, fst1, if_neg (by omega), if_pos (.inr (by omega))]; rfl, by rw [Nat.add_zero, mny, if_pos (.inr ⟨e, by omega⟩)]; rfl⟩
    · have f := fre_0 ok0 e ok0 (Int.le_refl _) (Int.le_refl _)
      rw [List.find?_cons, List.filter_cons, f]
      cases j with
      | zero => exact ⟨by rw [Nat.add_zero, fst1, if_pos e]; rfl, by rw [Nat.add_zero, mny, if_pos e]; rfl⟩
      | succ j => exact ⟨by rw [Nat.add_zero, fst1, if_pos e]; rfl, by rw [Nat.add_zero, mny, if_neg (by omega), if_pos e, Nat.sub_self]; rfl⟩
  | d + 1, a, ok => by
    have ok' : OkK (j + d + 1) a := ok
    obtain ⟨i1, i2⟩ := fst_slt (l := l) j d a ok'.low
    obtain ⟨i3, i4⟩ := fst_slt (l := l) j d (a + 2 ^ (j + d)) ok'.high
    rw [show j + (d + 1) = (j + d) + 1 from rfl, fst1, mny]
    rcases stt_cases l (j + d + 1) a with ⟨e, _⟩ | ⟨e, _⟩ | ⟨e, _⟩
    · have f : ∀ s ∈ slt j (d + 1) a, fre l s = false := fun s hs => by
        obtain ⟨b, rfl, h2, h3, h4⟩ := slt_mem j (d + 1) a ok s hs
        exact fre_1 ok' e h2 h3 h4
      rw [if_neg (by omega), if_pos (.inl e), if_pos (.inl e), List.find?_eq_none.2 (fun s hs => by rw [f s hs]; simp), List.filter_eq_nil_iff.2 (fun s hs => by rw [f s hs]; simp)]
      exact ⟨rfl, rfl⟩
    · rw [if_neg (by omega), if_neg (by omega), if_neg (by omega), if_neg (by omega), slt, List.find?_append, List.filter_append, List.length_append, i1, i2, i3, i4]
      refine ⟨?_, by omega⟩
      cases (slt j d a).find? (fre l) <;> rfl
    · have f : ∀ s ∈ slt j (d + 1) a, fre l s = true := fun s hs => by
        obtain ⟨b, rfl, h2, h3, h4⟩ := slt_mem j (d + 1) a ok s hs
        exact fre_0 ok' e h2 h3 h4
      rw [if_pos e, if_neg (by omega), if_pos e, List.filter_eq_self.2 f, slt_len, show j + d + 1 - j = d + 1 from by omega, pow_nat]
      refine ⟨?_, rfl⟩
      obtain ⟨r, hr⟩ := slt_head j (d + 1) a
      rw [hr, List.find?_cons, f _ (by rw [hr]; simp)]
      rfl
/-- By the blocks: the first that is great enough, and how many there are in these. -/
theorem blk_small {l : List Sp} : ∀ (k : Nat) (a : Int), OkK k a → ∀ b ∈ blk l k a, ∃ i c, b = pk i c ∧ i ≤ k ∧ OkK i c ∧ a ≤ c ∧ c + 2 ^ i ≤ a + 2 ^ k ∧ stt l i c = 0
  | 0, a, ok, b, hb => by
    rw [blk] at hb
    split at hb
    · rename_i e
      rw [List.mem_singleton] at hb
      exact ⟨0, a, hb, Nat.le_refl _, ok, Int.le_refl _, Int.le_refl _, e⟩
    · cases hb
  | k + 1, a, ok, b, hb => by
    have e1 := pw_succ k
    have e2 := pw_pos k
    rw [blk] at hb
    split at hb
    · rename_i e
      rw [List.mem_singleton] at hb
      exact ⟨k + 1, a, hb, Nat.le_refl _, ok, Int.le_refl _, Int.le_refl _, e⟩
    · split at hb
      · cases hb
      · rw [List.mem_append] at hb
        rcases hb with hb | hb
        · obtain ⟨i, c, h1, h2, h3, h4, h5, h6⟩ := blk_small k a ok.low b hb
          exact ⟨i, c, h1, by omega, h3, h4, by omega, h6⟩
        · obtain ⟨i, c, h1, h2, h3, h4, h5, h6⟩ := blk_small k _ ok.high b hb
          exact ⟨i, c, h1, by omega, h3, by omega, by omega, h6⟩
theorem fst_blk {l : List Sp} (j : Nat) : ∀ (k : Nat) (a : Int), OkK k a → j ≤ k → fst1 l j k a = ((blk l k a).find? fun b => decide (b.2 ≤ 32 - (j : Int))).map (·.1)
  | 0, a, ok, hj => by
    have hj0 : j = 0 := by omega
    subst hj0
    rw [fst1, blk]
    split
    · simp [pk]
    · rfl
  | k + 1, a, ok, hj => by
    rw [fst1, blk]
    by_cases h0 : stt l (k + 1) a = 0
    · rw [if_pos h0, if_pos h0, List.find?_cons]
      have : decide ((pk (k + 1) a).2 ≤ 32 - (j : Int)) = true := decide_eq_true (by simp only [pk]; omega)
      rw [this]
      rfl
    · rw [if_neg h0, if_neg h0]
      by_cases h1 : stt l (k + 1) a = 1
      · rw [if_pos (.inl h1), if_pos h1]
        rfl
      · rw [if_neg h1]
        by_cases hk : k + 1 ≤ j
        · rw [if_pos (.inr hk)]
          have hn : ∀ b ∈ blk l k a ++ blk l k (a + 2 ^ k), ¬ (decide (b.2 ≤ 32 - (j : Int)) = true) := fun b hb => by
            rw [List.mem_append] at hb
            rw [decide_eq_true_eq]
            rcases hb with hb | hb
            · obtain ⟨i, c, h1, h2, _⟩ := blk_small k a ok.low b hb
              rw [h1]; simp only [pk]; omega
            · obtain ⟨i, c, h1, h2, _⟩ := blk_small k _ ok.high b hb
              rw [h1]; simp only [pk]; omega
          rw [List.find?_eq_none.2 hn]
          rfl
        · rw [if_neg (by omega), fst_blk j k a ok.low (by omega), fst_blk j k _ ok.high (by omega), List.find?_append]
          cases (blk l k a).find? fun b => decide (b.2 ≤ 32 - (j : Int)) <;> rfl
/-- How many places of Len n a list of blocks has. -/
def cntB (n : Int) : List Sp → Int
  | [] => 0
  | b :: r => (if b.2 ≤ n then sz b.2 / sz n else 0) + cntB n r
theorem cntB_append (n : Int) : ∀ l m : List Sp, cntB n (l ++ m) = cntB n l + cntB n m
  | [], m => by simp [cntB]
  | b :: r, m => by rw [List.cons_append, cntB, cntB, cntB_append n r m]; omega
theorem pw_div {j k : Nat} (h : j ≤ k) : (2 : Int) ^ k / 2 ^ j = 2 ^ (k - j) := by
  have e : (2 : Int) ^ k = 2 ^ (k - j) * 2 ^ j := by rw [← Int.pow_add]; congr 1; omega
  rw [e, Int.mul_ediv_cancel _ (by have := pw_pos j; omega)]
theorem mny_blk {l : List Sp} (j : Nat) : ∀ (k : Nat) (a : Int), OkK k a → j ≤ k → mny l j k a = cntB (32 - (j : Int)) (blk l k a)
  | 0, a, ok, hj => by
    have hj0 : j = 0 := by omega
    subst hj0
    rw [mny, blk]
    split
    · rw [cntB, cntB, if_pos (by simp only [pk]; omega), ok.sz, sz_pw (show 0 ≤ 32 by omega)]
      decide
    · rfl
  | k + 1, a, ok, hj => by
    have hk32 := ok.1
    rw [mny, blk]
    by_cases h0 : stt l (k + 1) a = 0
    · rw [if_neg (by omega), if_pos h0, if_pos h0, cntB, cntB, if_pos (by simp only [pk]; omega), ok.sz, sz_pw (show j ≤ 32 by omega), pw_div hj]
      omega
    · by_cases h1 : stt l (k + 1) a = 1
      · rw [if_pos (.inl h1), if_neg h0, if_pos h1]
        rfl
      · have h2 : stt l (k + 1) a = 2 := by rcases stt_cases l (k + 1) a with ⟨e, _⟩ | ⟨e, _⟩ | ⟨e, _⟩ <;> omega
        by_cases hk : k + 1 ≤ j
        · rw [if_pos (.inr ⟨h2, hk⟩), if_neg h0, if_neg h1, cntB_append]
          have hz : ∀ (m : List Sp), (∀ b ∈ m, ¬ (b.2 ≤ 32 - (j : Int))) → cntB (32 - (j : Int)) m = 0 := fun m hm => by
            induction m with
            | nil => rfl
            | cons b r ih => rw [cntB, if_neg (hm b (by simp)), ih (fun c hc => hm c (by simp [hc]))]; rfl
          rw [hz _ (fun b hb => ?_), hz _ (fun b hb => ?_)]
          · rfl
          · obtain ⟨i, c, h1, h2, _⟩ := blk_small k _ ok.high b hb
            rw [h1]; simp only [pk]; omega
          · obtain ⟨i, c, h1, h2, _⟩ := blk_small k a ok.low b hb
            rw [h1]; simp only [pk]; omega
        · rw [if_neg (by omega), if_neg h0, if_neg h0, if_neg h1, cntB_append, mny_blk j k a ok.low (by omega), mny_blk j k _ ok.high (by omega)]
end Bur
