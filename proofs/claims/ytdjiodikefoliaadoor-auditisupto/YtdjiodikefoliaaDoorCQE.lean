/- A span as prefixes: the greatest one first, again and again; halving comes to the same; no fewer will do. No program stands here. -/
import Derived.Test.YtdjiodikefoliaaDoorCSpMath
import Derived.Lib.TrailingZeros
namespace Bur
open Go

theorem pw_pos (k : Nat) : (0 : Int) < 2 ^ k := Int.pow_pos (by decide)
theorem pw_succ (k : Nat) : (2 : Int) ^ (k + 1) = 2 * 2 ^ k := by rw [Int.pow_succ]; omega
theorem pw_dvd {j k : Nat} (h : j ≤ k) : (2 : Int) ^ j ∣ 2 ^ k := ⟨2 ^ (k - j), by rw [← Int.pow_add]; congr 1; omega⟩
theorem pw_le {j k : Nat} (h : j ≤ k) : (2 : Int) ^ j ≤ 2 ^ k := Int.le_of_dvd (pw_pos k) (pw_dvd h)
theorem pw_32 : (2 : Int) ^ 32 = 4294967296 := by decide
/-- Multiples of m that are apart are m apart. -/
theorem apart {m x y : Int} (hm : 0 < m) (hx : m ∣ x) (hy : m ∣ y) (h : x < y) : x + m ≤ y := by
  obtain ⟨p, rfl⟩ := hx
  obtain ⟨q, rfl⟩ := hy
  have hpq : p < q := Int.lt_of_mul_lt_mul_left h (Int.le_of_lt hm)
  have := Int.mul_le_mul_of_nonneg_left (show p + 1 ≤ q by omega) (Int.le_of_lt hm)
  rw [Int.mul_add] at this
  omega
/-- How many bits are free in the greatest prefix that begins at lo and ends at hi at last. -/
def fr (lo hi : Int) : Nat := min (Lib.ctz 64 lo.toNat) (Lib.bitLen (hi - lo + 1).toNat - 1)
theorem ctz_iff (x j : Nat) (h0 : 0 < x) (h1 : x < 2 ^ 64) : 2 ^ j ∣ x ↔ j ≤ Lib.ctz 64 x := by
  unfold Lib.ctz
  rw [if_neg (by omega)]
  obtain ⟨m, hm, hk⟩ := Lib.ctzFrom_spec 64 x h0 h1
  generalize Lib.ctzFrom 64 x = k at hm hk
  constructor
  · intro h
    apply Nat.le_of_not_lt
    intro hlt
    have h2 : 2 ^ (k + 1) ∣ x := Nat.dvd_trans (Nat.pow_dvd_pow 2 hlt) h
    rw [hm, Nat.pow_succ] at h2
    have := Nat.dvd_of_mul_dvd_mul_left (Nat.pow_pos (by decide)) h2
    omega
  · intro h
    rw [hm]
    exact Nat.dvd_trans (Nat.pow_dvd_pow 2 h) (Nat.dvd_mul_right _ _)
theorem fr_spec {lo hi : Int} (h0 : 0 ≤ lo) (h1 : lo ≤ hi) (h2 : hi ≤ 4294967295) :
    (2 : Int) ^ fr lo hi ∣ lo ∧ lo + 2 ^ fr lo hi ≤ hi + 1 ∧ (∀ j : Nat, (2 : Int) ^ j ∣ lo → lo + 2 ^ j ≤ hi + 1 → j ≤ fr lo hi) ∧ fr lo hi ≤ 32 := by
  obtain ⟨x, rfl⟩ := Int.eq_ofNat_of_zero_le h0
  obtain ⟨n, hn⟩ : ∃ n : Nat, (n : Int) = hi - x + 1 := ⟨(hi - x + 1).toNat, by omega⟩
  have hn1 : 0 < n := by omega
  have hn2 : n ≤ 4294967296 := by omega
  have e1 : (hi - (x : Int) + 1).toNat = n := by omega
  have fill : ∀ j : Nat, j ≤ Lib.bitLen n - 1 ↔ 2 ^ j ≤ n := by
    intro j
    have ha := bitLen_le_iff n j (by omega)
    have hb := bitLen_le_iff n 0 (by omega)
    constructor
    · intro h
      apply Nat.le_of_not_lt
      intro hlt
      have := ha.2 hlt
      have hz : ¬ Lib.bitLen n ≤ 0 := fun hh => by have := hb.1 hh; simp at this; omega
      omega
    · intro h
      have : ¬ Lib.bitLen n ≤ j := fun hh => by have := ha.1 hh; omega
      omega
  have dv : ∀ j : Nat, ((2 : Int) ^ j ∣ (x : Int)) ↔ 2 ^ j ∣ x := by
    intro j
    rw [← Int.natCast_dvd_natCast]; simp
  have pc : ∀ j : Nat, ((2 : Int) ^ j) = ((2 ^ j : Nat) : Int) := fun j => by simp
  have key : ∀ j : Nat, 2 ^ j ≤ n → (2 ^ j ∣ x ↔ j ≤ Lib.ctz 64 x) := by
    intro j hj
    by_cases hx : x = 0
    · subst hx
      have : j < 64 := by
        apply Nat.lt_of_not_le
        intro hh
        have := Nat.pow_le_pow_right (n := 2) (by decide) hh
        have h64 : (2 : Nat) ^ 64 = 18446744073709551616 := by decide
        omega
      simp [Lib.ctz]; omega
    · exact ctz_iff x j (by omega) (by omega)
  have hfr : fr (x : Int) hi = min (Lib.ctz 64 x) (Lib.bitLen n - 1) := by unfold fr; rw [e1]; simp
  have hf : 2 ^ fr (x : Int) hi ≤ n := (fill _).1 (by rw [hfr]; omega)
  refine ⟨(dv _).2 ((key _ hf).2 (by rw [hfr]; omega)), by rw [pc]; omega, fun j hd hj => ?_, ?_⟩
  · rw [pc] at hj
    have hj' : 2 ^ j ≤ n := by omega
    have a1 := (key j hj').1 ((dv j).1 hd)
    have a2 := (fill j).2 hj'
    rw [hfr]; omega
  · apply Nat.le_of_not_lt
    intro hh
    have := Nat.pow_le_pow_right (n := 2) (by decide) hh
    have h33 : (2 : Nat) ^ 33 = 8589934592 := by decide
    have e : Nat.succ 32 = 33 := rfl
    rw [e] at this
    omega
theorem fr_eq {lo hi : Int} {k : Nat} (h0 : 0 ≤ lo) (h1 : lo ≤ hi) (h2 : hi ≤ 4294967295) (hd : (2 : Int) ^ k ∣ lo) (hf : lo + 2 ^ k ≤ hi + 1) (hn : ¬ ((2 : Int) ^ (k + 1) ∣ lo ∧ lo + 2 ^ (k + 1) ≤ hi + 1)) : fr lo hi = k := by
  obtain ⟨a, b, c, d⟩ := fr_spec h0 h1 h2
  have h3 := c k hd hf
  apply Nat.le_antisymm _ h3
  apply Nat.le_of_not_lt
  intro hlt
  apply hn
  refine ⟨Int.dvd_trans (pw_dvd hlt) a, ?_⟩
  have := pw_le hlt
  have e : Nat.succ k = k + 1 := rfl
  rw [e] at this
  omega

/-- The prefixes of a span, the greatest first, again and again; n bounds how many. -/
def gr : Nat → Int → Int → List Sp
  | 0, _, _ => []
  | n + 1, lo, hi => if lo ≤ hi then (lo, 32 - (fr lo hi : Int)) :: gr n (lo + 2 ^ fr lo hi) hi else []
theorem gr_fuel : ∀ (n m : Nat) (lo hi : Int), hi - lo + 1 ≤ n → hi - lo + 1 ≤ m → gr n lo hi = gr m lo hi
  | 0, 0, _, _, _, _ => rfl
  | 0, m + 1, lo, hi, h, _ => by rw [gr, gr, if_neg (by omega)]
  | n + 1, 0, lo, hi, _, h => by rw [gr, gr, if_neg (by omega)]
  | n + 1, m + 1, lo, hi, h1, h2 => by
    have := pw_pos (fr lo hi)
    rw [gr, gr, gr_fuel n m _ _ (by omega) (by omega)]
def cov (lo hi : Int) : List Sp := gr (hi - lo + 1).toNat lo hi
theorem cov_no {lo hi : Int} (h : hi < lo) : cov lo hi = [] := by
  unfold cov
  rw [show (hi - lo + 1).toNat = 0 from by omega]; rfl
theorem cov_yes {lo hi : Int} (h : lo ≤ hi) : cov lo hi = (lo, 32 - (fr lo hi : Int)) :: cov (lo + 2 ^ fr lo hi) hi := by
  have hp := pw_pos (fr lo hi)
  unfold cov
  obtain ⟨n, hn⟩ : ∃ n, (hi - lo + 1).toNat = n + 1 := ⟨(hi - lo).toNat, by omega⟩
  rw [hn, gr, if_pos h, gr_fuel n (hi - (lo + 2 ^ fr lo hi) + 1).toNat _ _ (by omega) (by omega)]
/-- A multiple of a great power in the middle parts the prefixes, if no one has all. -/
theorem cov_part {a H : Int} {k : Nat} (ha : (2 : Int) ^ (k + 1) ∣ a) (hH0 : a + 2 ^ k ≤ H) (hH : H ≤ 4294967295) : ∀ (n : Nat) (L : Int), (a + 2 ^ k - L).toNat ≤ n → 0 ≤ L → a ≤ L → L < a + 2 ^ k → (L = a → H < a + 2 ^ (k + 1) - 1) → H ≤ a + 2 ^ (k + 1) - 1 → cov L H = cov L (a + 2 ^ k - 1) ++ cov (a + 2 ^ k) H
  | 0, L, hn, _, _, hlt, _, _ => by omega
  | n + 1, L, hn, h0, hle, hlt, hne, hH2 => by
    have hp := pw_pos k
    have hps := pw_succ k
    obtain ⟨s1, s2, s3, s4⟩ := fr_spec (lo := L) (hi := H) h0 (by omega) hH
    have hd0 : (2 : Int) ^ k ∣ a := Int.dvd_trans (pw_dvd (Nat.le_succ k)) ha
    have hdm : (2 : Int) ^ k ∣ a + 2 ^ k := Int.dvd_add hd0 (Int.dvd_refl _)
    have hj : fr L H ≤ k := by
      apply Nat.le_of_not_lt
      intro hk
      have h1 : (2 : Int) ^ (k + 1) ∣ L := Int.dvd_trans (pw_dvd hk) s1
      have hLa : L = a := by
        rcases Int.lt_or_eq_of_le hle with g | g
        · have := apart (pw_pos (k + 1)) ha h1 g; omega
        · exact g.symm
      have h2 := pw_le hk
      have e : Nat.succ k = k + 1 := rfl
      rw [e] at h2
      have := hne hLa
      omega
    have hfit : L + 2 ^ fr L H ≤ a + 2 ^ k := apart (pw_pos _) s1 (Int.dvd_trans (pw_dvd hj) hdm) hlt
    have hfp := pw_pos (fr L H)
    have e1 : fr L (a + 2 ^ k - 1) = fr L H := by
      refine fr_eq h0 (by omega) (by omega) s1 (by omega) ?_
      rintro ⟨g1, g2⟩
      have := s3 _ g1 (by omega)
      omega
    rw [cov_yes (show L ≤ H by omega), cov_yes (show L ≤ a + 2 ^ k - 1 by omega), e1, List.cons_append]
    congr 1
    by_cases hend : L + 2 ^ fr L H < a + 2 ^ k
    · exact cov_part ha hH0 hH n _ (by omega) (by omega) (by omega) hend (fun h => by omega) hH2
    · have : L + 2 ^ fr L H = a + 2 ^ k := by omega
      rw [this, cov_no (lo := a + 2 ^ k) (hi := a + 2 ^ k - 1) (by omega), List.nil_append]

/-- The prefixes of a span within the one at a with k free bits, by halving. -/
def hv : Nat → Int → Int → Int → List Sp
  | 0, a, lo, hi => if hi < a ∨ a < lo then [] else [(a, 32)]
  | k + 1, a, lo, hi => if hi < a ∨ a + 2 ^ (k + 1) - 1 < lo then [] else if lo ≤ a ∧ a + 2 ^ (k + 1) - 1 ≤ hi then [(a, 32 - ((k + 1 : Nat) : Int))] else hv k a lo hi ++ hv k (a + 2 ^ k) lo hi
theorem cov_whole {a : Int} {k : Nat} (h0 : 0 ≤ a) (ha : (2 : Int) ^ k ∣ a) (hb : a + 2 ^ k - 1 ≤ 4294967295) : cov a (a + 2 ^ k - 1) = [(a, 32 - (k : Int))] := by
  have hp := pw_pos k
  have hps := pw_succ k
  have e : fr a (a + 2 ^ k - 1) = k := fr_eq h0 (by omega) hb ha (by omega) (by rintro ⟨_, g⟩; omega)
  rw [cov_yes (by omega), e, cov_no (by omega)]
theorem hv_cov : ∀ (k : Nat) (a lo hi : Int), 0 ≤ a → (2 : Int) ^ k ∣ a → a + 2 ^ k - 1 ≤ 4294967295 → lo ≤ hi → hv k a lo hi = cov (max lo a) (min hi (a + 2 ^ k - 1))
  | 0, a, lo, hi, h0, hd, hb, hle => by
    rw [hv]
    simp only [Int.pow_zero] at *
    split
    · rw [cov_no (by omega)]
    · rw [show max lo a = a from by omega, show min hi (a + 1 - 1) = a + 2 ^ 0 - 1 from by simp; omega, cov_whole h0 (by simp) (by simp; omega)]; rfl
  | k + 1, a, lo, hi, h0, hd, hb, hle => by
    have hp := pw_pos k
    have hps := pw_succ k
    have hd0 : (2 : Int) ^ k ∣ a := Int.dvd_trans (pw_dvd (Nat.le_succ k)) hd
    rw [hv]
    split
    · rw [cov_no (by omega)]
    · split
      · rw [show max lo a = a from by omega, show min hi (a + 2 ^ (k + 1) - 1) = a + 2 ^ (k + 1) - 1 from by omega, cov_whole h0 hd hb]
      · rename_i h1 h2
        rw [hv_cov k a lo hi h0 hd0 (by omega) hle, hv_cov k (a + 2 ^ k) lo hi (by omega) (Int.dvd_add hd0 (Int.dvd_refl _)) (by omega) hle]
        by_cases g1 : hi < a + 2 ^ k
        · rw [show max lo (a + 2 ^ k) = max lo (a + 2 ^ k) from rfl, cov_no (lo := max lo (a + 2 ^ k)) (by omega), List.append_nil, show min hi (a + 2 ^ k - 1) = min hi (a + 2 ^ (k + 1) - 1) from by omega]
        · by_cases g2 : a + 2 ^ k ≤ lo
          · rw [cov_no (lo := max lo a) (hi := min hi (a + 2 ^ k - 1)) (by omega), List.nil_append, show max lo (a + 2 ^ k) = max lo a from by omega, show a + 2 ^ k + 2 ^ k - 1 = a + 2 ^ (k + 1) - 1 from by omega]
          · rw [show min hi (a + 2 ^ k - 1) = a + 2 ^ k - 1 from by omega, show max lo (a + 2 ^ k) = a + 2 ^ k from by omega, show a + 2 ^ k + 2 ^ k - 1 = a + 2 ^ (k + 1) - 1 from by omega]
            exact (cov_part hd (by omega) (by omega) _ _ (Nat.le_refl _) (by omega) (by omega) (by omega) (fun h => by omega) (by omega)).symm
/-- Halving the whole comes to the same. -/
theorem hv_all {lo hi : Int} (h0 : 0 ≤ lo) (h1 : lo ≤ hi) (h2 : hi ≤ 4294967295) : hv 32 0 lo hi = cov lo hi := by
  rw [hv_cov 32 0 lo hi (by omega) ⟨0, by simp⟩ (by rw [pw_32]; omega) h1, pw_32, show max lo 0 = lo from by omega, show min hi (0 + 4294967296 - 1) = hi from by omega]
end Bur

/- Prefixes as a set, a set as prefixes: as few as can be. No program stands here. -/
namespace Bur
open Go

theorem sz_pw {k : Nat} (h : k ≤ 32) : sz (32 - (k : Int)) = 2 ^ k := by
  unfold sz
  rw [show (32 - (32 - (k : Int))).toNat = k from by omega]
theorem pw_sz (l : Int) : sz l = 2 ^ (32 - l).toNat := rfl
/-- The first fault of prefixes. -/
def pnF : List Sp → Int
  | [] => 0
  | p :: r => if fault p.1 p.2 = 0 then pnF r else fault p.1 p.2
/-- What may be as a prefix. -/
def OkP (p : Sp) : Prop := fault p.1 p.2 = 0
theorem pnF_ok : ∀ {l : List Sp}, pnF l = 0 → ∀ p ∈ l, OkP p
  | [], _, _, h => by cases h
  | p :: r, e, q, hq => by
    unfold pnF at e
    split at e
    · rename_i h1
      rcases List.mem_cons.1 hq with rfl | hq
      · exact h1
      · exact pnF_ok e q hq
    · contradiction
theorem pnF_mk : ∀ {l : List Sp}, (∀ p ∈ l, OkP p) → pnF l = 0
  | [], _ => rfl
  | p :: r, h => by
    unfold pnF
    rw [if_pos (show fault p.1 p.2 = 0 from h p (by simp))]
    exact pnF_mk (fun q hq => h q (by simp [hq]))
/-- Prefixes as spans. -/
def pS (p : Sp) : Sp := (p.1, p.1 + (sz p.2 - 1))
def pfS (l : List Sp) : List Sp := l.map pS
theorem OkP.parts {p : Sp} (h : OkP p) : 0 ≤ p.2 ∧ p.2 ≤ 32 ∧ 0 ≤ p.1 ∧ p.1 + (sz p.2 - 1) ≤ 4294967295 ∧ sz p.2 ∣ p.1 := by
  obtain ⟨a, b, c, d, e⟩ := fault_ok h
  exact ⟨a, b, c, last_le a b c d e, Int.dvd_of_emod_eq_zero e⟩
theorem okP_mk {a : Int} {k : Nat} (hk : k ≤ 32) (h0 : 0 ≤ a) (h1 : a ≤ 4294967295) (hd : (2 : Int) ^ k ∣ a) : OkP (a, 32 - (k : Int)) := by
  refine fault_mk (by show (0 : Int) ≤ 32 - k; omega) (by show (32 : Int) - k ≤ 32; omega) (isA_mk h0 h1) ?_
  show a % sz (32 - (k : Int)) = 0
  rw [sz_pw hk]
  exact Int.emod_eq_zero_of_dvd hd
theorem pfS_inA {l : List Sp} (h : ∀ p ∈ l, OkP p) : InA (pfS l) := by
  intro s hs
  obtain ⟨p, hp, rfl⟩ := List.mem_map.1 hs
  obtain ⟨a, b, c, d, e⟩ := (h p hp).parts
  have := sz_pos p.2
  exact ⟨c, by show p.1 ≤ p.1 + (sz p.2 - 1); omega, d⟩
/-- One behind the other, from lo up to hi. -/
def Tile : Int → List Sp → Int → Prop
  | lo, [], hi => lo = hi + 1
  | lo, p :: r, hi => p.1 = lo ∧ OkP p ∧ Tile (lo + sz p.2) r hi
/-- The greatest, one behind the other: none may be greater, or begin earlier. -/
theorem cov_tile {hi : Int} (h2 : hi ≤ 4294967295) : ∀ (n : Nat) (lo : Int), (hi - lo + 1).toNat ≤ n → 0 ≤ lo → lo ≤ hi + 1 → Tile lo (cov lo hi) hi
  | n, lo, hn, h0, h1 => by
    by_cases hle : lo ≤ hi
    · obtain ⟨a, b, c, d⟩ := fr_spec h0 hle h2
      have hp := pw_pos (fr lo hi)
      rw [cov_yes hle]
      refine ⟨rfl, okP_mk d h0 (by omega) a, ?_⟩
      show Tile (lo + sz (32 - (fr lo hi : Int))) _ hi
      rw [sz_pw d]
      match n with
      | 0 => omega
      | n + 1 => exact cov_tile h2 n _ (by omega) (by omega) (by omega)
    · rw [cov_no (by omega)]
      show lo = hi + 1
      omega
theorem Tile.mem : ∀ {l : List Sp} {lo hi : Int}, Tile lo l hi → lo ≤ hi + 1 → ∀ x : Int, Bur.mem (pfS l) x = (decide (lo ≤ x) && decide (x ≤ hi))
  | [], lo, hi, h, _, x => by
    have h : lo = hi + 1 := h
    show false = _
    by_cases hx : lo ≤ x
    · rw [show decide (x ≤ hi) = false from by simp; omega]; simp
    · rw [show decide (lo ≤ x) = false from by simp; omega]; simp
  | p :: r, lo, hi, ⟨h1, h2, h3⟩, hle, x => by
    obtain ⟨a, b, c, d, e⟩ := h2.parts
    have hp := sz_pos p.2
    have hend : ∀ {l : List Sp} {lo hi : Int}, Tile lo l hi → lo ≤ hi + 1 := by
      intro l
      induction l with
      | nil => intro lo hi h; have h : lo = hi + 1 := h; omega
      | cons q s ih =>
        intro lo hi h
        have := ih h.2.2
        have := sz_pos q.2
        omega
    have ih := Tile.mem h3 (hend h3) x
    have := hend h3
    show Bur.mem (pS p :: pfS r) x = _
    rw [mem_cons, ih, Bool.eq_iff_iff]
    simp only [Bool.or_eq_true, Bool.and_eq_true, decide_eq_true_eq]
    show (p.1 ≤ x ∧ x ≤ p.1 + (sz p.2 - 1)) ∨ (lo + sz p.2 ≤ x ∧ x ≤ hi) ↔ lo ≤ x ∧ x ≤ hi
    constructor
    · rintro (⟨g1, g2⟩ | ⟨g1, g2⟩)
      · exact ⟨by omega, by omega⟩
      · exact ⟨by omega, g2⟩
    · rintro ⟨g1, g2⟩
      by_cases g : x ≤ p.1 + (sz p.2 - 1)
      · exact .inl ⟨by omega, g⟩
      · exact .inr ⟨by omega, g2⟩
theorem Tile.ok : ∀ {l : List Sp} {lo hi : Int}, Tile lo l hi → ∀ p ∈ l, OkP p
  | q :: r, lo, hi, ⟨_, h2, h3⟩, p, hp => by
    rcases List.mem_cons.1 hp with rfl | hp
    · exact h2
    · exact Tile.ok h3 p hp
theorem Tile.rise : ∀ {l : List Sp} {lo hi : Int}, Tile lo l hi → (l.map (·.1)).Pairwise (· < ·) ∧ ∀ x ∈ l.map (·.1), lo ≤ x
  | [], _, _, _ => by simp
  | p :: r, lo, hi, ⟨h1, h2, h3⟩ => by
    obtain ⟨g1, g2⟩ := Tile.rise h3
    have hp := sz_pos p.2
    refine ⟨?_, ?_⟩
    · rw [List.map_cons, List.pairwise_cons]
      exact ⟨fun x hx => by have := g2 x hx; omega, g1⟩
    · intro x hx
      rw [List.map_cons, List.mem_cons] at hx
      rcases hx with rfl | hx
      · omega
      · have := g2 x hx; omega
/-- No prefix within the span has the first address of one of them, unless it begins there. -/
theorem cov_first {hi : Int} (h2 : hi ≤ 4294967295) : ∀ (n : Nat) (lo : Int), (hi - lo + 1).toNat ≤ n → 0 ≤ lo → ∀ p ∈ cov lo hi, ∀ (y : Int) (j : Nat), (2 : Int) ^ j ∣ y → lo ≤ y → y + 2 ^ j ≤ hi + 1 → y ≤ p.1 → p.1 < y + 2 ^ j → y = p.1
  | n, lo, hn, h0, p, hp, y, j, hd, g1, g2, g3, g4 => by
    have hj := pw_pos j
    have hle : lo ≤ hi := by omega
    obtain ⟨a, b, c, d⟩ := fr_spec h0 hle h2
    have hpp := pw_pos (fr lo hi)
    rw [cov_yes hle] at hp
    rcases List.mem_cons.1 hp with rfl | hp
    · show y = lo
      have : y ≤ lo := g3
      omega
    · by_cases hy : lo + 2 ^ fr lo hi ≤ y
      · match n with
        | 0 => omega
        | n + 1 => exact cov_first h2 n _ (by omega) (by omega) p hp y j hd hy g2 g3 g4
      · exfalso
        have hle3 : lo + 2 ^ fr lo hi ≤ hi + 1 := b
        have hpx := (Tile.rise (cov_tile h2 _ _ (Nat.le_refl _) (by omega) hle3)).2 p.1 (List.mem_map_of_mem hp)
        rcases Nat.lt_or_ge (fr lo hi) j with hk | hk
        · have hdl : (2 : Int) ^ fr lo hi ∣ y := Int.dvd_trans (pw_dvd (Nat.le_of_lt hk)) hd
          have : y = lo := by
            rcases Int.lt_or_eq_of_le g1 with g | g
            · have := apart hpp a hdl g; omega
            · exact g.symm
          subst this
          have := c j hd g2
          omega
        · have hdl : (2 : Int) ^ j ∣ lo + 2 ^ fr lo hi := Int.dvd_add (Int.dvd_trans (pw_dvd hk) a) (pw_dvd hk)
          have := apart hj hd hdl (by omega)
          omega
/-- Two that are side by side and as long are not the halves of one. -/
theorem cov_halves {hi : Int} (h2 : hi ≤ 4294967295) : ∀ (n : Nat) (lo : Int), (hi - lo + 1).toNat ≤ n → 0 ≤ lo → ∀ (i : Nat) (p q : Sp), (cov lo hi)[i]? = some p → (cov lo hi)[i + 1]? = some q → p.2 = q.2 → 0 < p.2 ∧ upA p.1 p.2 ≠ upA q.1 q.2
  | n, lo, hn, h0, i, p, q, hp, hq, hl => by
    by_cases hle : lo ≤ hi
    · obtain ⟨a, b, c, d⟩ := fr_spec h0 hle h2
      have hpp := pw_pos (fr lo hi)
      rw [cov_yes hle] at hp hq
      cases i with
      | zero =>
        simp only [List.getElem?_cons_zero, Option.some.injEq, List.getElem?_cons_succ] at hp hq
        subst hp
        have hle2 : lo + 2 ^ fr lo hi ≤ hi := by
          apply Int.not_lt.1
          intro h
          rw [cov_no h] at hq
          simp at hq
        obtain ⟨a', b', c', d'⟩ := fr_spec (lo := lo + 2 ^ fr lo hi) (hi := hi) (by omega) hle2 h2
        rw [cov_yes hle2] at hq
        simp only [List.getElem?_cons_zero, Option.some.injEq] at hq
        subst hq
        simp only at hl
        have e : fr (lo + 2 ^ fr lo hi) hi = fr lo hi := by omega
        rw [e] at a' b'
        have hk : fr lo hi < 32 := by
          apply Nat.lt_of_not_le
          intro hh
          have : (2 : Int) ^ 32 ≤ 2 ^ fr lo hi := pw_le hh
          rw [pw_32] at this
          omega
        refine ⟨by show (0 : Int) < 32 - (fr lo hi : Int); omega, ?_⟩
        have ok1 : fault lo (32 - (fr lo hi : Int)) = 0 := okP_mk d h0 (by omega) a
        have ok2 : fault (lo + 2 ^ fr lo hi) (32 - (fr lo hi : Int)) = 0 := okP_mk d (by omega) (by omega) a'
        have u1 : upF lo (32 - (fr lo hi : Int)) = 0 := by unfold upF; rw [if_neg (by omega)]; exact ok1
        have u2 : upF (lo + 2 ^ fr lo hi) (32 - (fr lo hi : Int)) = 0 := by unfold upF; rw [if_neg (by omega)]; exact ok2
        show upA lo (32 - (fr lo hi : Int)) ≠ upA (lo + 2 ^ fr lo hi) (32 - (fr (lo + 2 ^ fr lo hi) hi : Int))
        rw [e]
        unfold upA
        rw [if_pos u1, if_pos u2]
        have es : sz (32 - (fr lo hi : Int) - 1) = 2 ^ (fr lo hi + 1) := by
          rw [show (32 : Int) - (fr lo hi : Int) - 1 = 32 - ((fr lo hi + 1 : Nat) : Int) from by omega, sz_pw (by omega)]
        rw [es]
        intro heq
        have hp2 := pw_pos (fr lo hi + 1)
        have hps := pw_succ (fr lo hi)
        -- the halves of one: then it would have been taken
        have m1 := Int.emod_nonneg lo (Int.ne_of_gt hp2)
        have m2 := Int.emod_lt_of_pos (lo + 2 ^ fr lo hi) hp2
        have d1 : (2 : Int) ^ (fr lo hi + 1) ∣ lo - lo % 2 ^ (fr lo hi + 1) := Int.dvd_self_sub_emod
        have hdk : (2 : Int) ^ fr lo hi ∣ lo % 2 ^ (fr lo hi + 1) := by
          have := Int.dvd_sub a (Int.dvd_trans (pw_dvd (Nat.le_succ _)) d1)
          rw [show lo - (lo - lo % 2 ^ (fr lo hi + 1)) = lo % 2 ^ (fr lo hi + 1) from by omega] at this
          exact this
        have hz : lo % 2 ^ (fr lo hi + 1) = 0 := by
          rcases Int.lt_or_eq_of_le m1 with g | g
          · have := apart hpp (Int.dvd_zero _) hdk g
            omega
          · exact g.symm
        have := c (fr lo hi + 1) (Int.dvd_of_emod_eq_zero hz) (by omega)
        omega
      | succ i =>
        simp only [List.getElem?_cons_succ] at hp hq
        match n with
        | 0 => omega
        | n + 1 => exact cov_halves h2 n _ (by omega) (by omega) i p q hp hq hl
    · rw [cov_no (by omega)] at hp
      simp at hp
/-- A set as prefixes. -/
def cvs (l : List Sp) : List Sp := l.flatMap fun s => cov s.1 s.2
theorem cvs_cons (s : Sp) (r : List Sp) : cvs (s :: r) = cov s.1 s.2 ++ cvs r := rfl
theorem cvs_ok {l : List Sp} (h : InA l) : ∀ p ∈ cvs l, OkP p := by
  intro p hp
  obtain ⟨s, hs, hp⟩ := List.mem_flatMap.1 hp
  have := h s hs
  exact (cov_tile this.2.2 _ _ (Nat.le_refl _) this.1 (by omega)).ok p hp
theorem cvs_mem : ∀ {l : List Sp}, InA l → ∀ x, mem (pfS (cvs l)) x = mem l x
  | [], _, _ => rfl
  | s :: r, h, x => by
    have hs := h s (by simp)
    rw [cvs_cons, show pfS (cov s.1 s.2 ++ cvs r) = pfS (cov s.1 s.2) ++ pfS (cvs r) from by simp [pfS], mem_append, cvs_mem (fun t ht => h t (by simp [ht])) x, (cov_tile hs.2.2 _ _ (Nat.le_refl _) hs.1 (by omega)).mem (by omega), mem_cons]
theorem cvs_rise : ∀ {l : List Sp} {h : Int}, IsS h l → InA l → ((cvs l).map (·.1)).Pairwise (· < ·) ∧ ∀ x ∈ (cvs l).map (·.1), h + 1 < x
  | [], _, _, _ => by simp [cvs]
  | s :: r, h, ⟨a, b, c⟩, hA => by
    have hs := hA s (by simp)
    obtain ⟨g1, g2⟩ := cvs_rise c (fun t ht => hA t (by simp [ht]))
    have t := cov_tile hs.2.2 _ _ (Nat.le_refl _) hs.1 (by omega)
    obtain ⟨r1, r2⟩ := t.rise
    have hi : ∀ x ∈ (cov s.1 s.2).map (·.1), x ≤ s.2 := by
      intro x hx
      obtain ⟨p, hp, rfl⟩ := List.mem_map.1 hx
      have hm : mem (pfS (cov s.1 s.2)) p.1 = true := (mem_iff _ _).2 ⟨pS p, List.mem_map_of_mem hp, by show p.1 ≤ p.1; omega, by show p.1 ≤ p.1 + (sz p.2 - 1); have := sz_pos p.2; omega⟩
      rw [t.mem (by omega)] at hm
      simp at hm
      exact hm.2
    rw [cvs_cons, List.map_append]
    refine ⟨List.pairwise_append.2 ⟨r1, g1, fun x hx y hy => by have := hi x hx; have := g2 y hy; omega⟩, fun x hx => ?_⟩
    rcases List.mem_append.1 hx with hx | hx
    · have := r2 x hx; omega
    · have := g2 x hx; omega
/-- What is contiguous in a set is in one of its spans. -/
theorem IsS.one {l : List Sp} {h : Int} (hs : IsS h l) {y z : Int} (hm : ∀ x, y ≤ x → x ≤ z → mem l x = true) {s : Sp} (h1 : s ∈ l) {x : Int} (hx1 : s.1 ≤ x) (hx2 : x ≤ s.2) (g1 : y ≤ x) (g2 : x ≤ z) : s.1 ≤ y ∧ z ≤ s.2 := by
  have behind : ∀ {l : List Sp} {h : Int}, IsS h l → ∀ s ∈ l, mem l (s.2 + 1) = false := by
    intro l
    induction l with
    | nil => intro h _ s hs; cases hs
    | cons t r ih =>
      rintro h ⟨a, b, c⟩ s hs
      rw [mem_cons]
      rcases List.mem_cons.1 hs with rfl | hs
      · rw [c.out (x := s.2 + 1) (by omega), show decide (s.2 + 1 ≤ s.2) = false from by simp; omega]; simp
      · have h1 := (IsS.lows c).2 s.1 (List.mem_map_of_mem hs)
        have h2 := c.le s hs
        rw [ih c s hs, show decide (s.2 + 1 ≤ t.2) = false from by simp; omega]; simp
  constructor
  · apply Int.not_lt.1
    intro hlt
    have := hm (s.1 - 1) (by omega) (by omega)
    rw [hs.ahead s h1] at this; cases this
  · apply Int.not_lt.1
    intro hlt
    have := hm (s.2 + 1) (by omega) (by omega)
    rw [behind hs s h1] at this; cases this
/-- As few as can be: whichever prefixes have just its addresses are no fewer. -/
theorem cvs_few {l m : List Sp} {h : Int} (hs : IsS h l) (hA : InA l) (hm : ∀ p ∈ m, OkP p) (e : ∀ x, mem (pfS m) x = mem l x) : (cvs l).length ≤ m.length := by
  have := len_le ((cvs l).map (·.1)) (m.map (·.1)) (cvs_rise hs hA).1 (fun x hx => by
    obtain ⟨p, hp, rfl⟩ := List.mem_map.1 hx
    obtain ⟨s, hs1, hp⟩ := List.mem_flatMap.1 hp
    have hb := hA s hs1
    have t := cov_tile hb.2.2 _ _ (Nat.le_refl _) hb.1 (by omega)
    have hin : s.1 ≤ p.1 ∧ p.1 ≤ s.2 := by
      have hm : mem (pfS (cov s.1 s.2)) p.1 = true := (mem_iff _ _).2 ⟨pS p, List.mem_map_of_mem hp, by show p.1 ≤ p.1; omega, by show p.1 ≤ p.1 + (sz p.2 - 1); have := sz_pos p.2; omega⟩
      rw [t.mem (by omega)] at hm
      simpa using hm
    have hml : mem l p.1 = true := (mem_iff _ _).2 ⟨s, hs1, hin⟩
    rw [← e] at hml
    obtain ⟨u, hu, g1, g2⟩ := (mem_iff _ _).1 hml
    obtain ⟨q, hq, rfl⟩ := List.mem_map.1 hu
    obtain ⟨q1, q2, q3, q4, q5⟩ := (hm q hq).parts
    have hq0 := sz_pos q.2
    have g1' : q.1 ≤ p.1 := g1
    have g2' : p.1 ≤ q.1 + (sz q.2 - 1) := g2
    have hone := hs.one (y := q.1) (z := q.1 + (sz q.2 - 1)) (fun x h1 h2 => by
      rw [← e]
      exact (mem_iff _ _).2 ⟨pS q, List.mem_map_of_mem hq, h1, h2⟩) hs1 hin.1 hin.2 g1' g2'
    have := cov_first hb.2.2 _ _ (Nat.le_refl _) hb.1 p hp q.1 (32 - q.2).toNat q5 hone.1 (by rw [← pw_sz q.2]; omega) g1' (by rw [← pw_sz q.2]; omega)
    rw [← this]
    exact List.mem_map_of_mem hq)
  simpa using this
/-- The fault of prefixes as a set; the set. -/
def psF (l : List Sp) : Int := if 200 < l.length then 3 else if pnF l = 0 then (if 64 < (mk (pfS l)).length then 3 else 0) else pnF l
def psS (l : List Sp) : List Sp := if psF l = 0 then mk (pfS l) else []
theorem psF_ok {l : List Sp} (h : psF l = 0) : l.length ≤ 200 ∧ (∀ p ∈ l, OkP p) ∧ (mk (pfS l)).length ≤ 64 := by
  unfold psF at h
  split at h
  · omega
  · split at h
    · rename_i h1
      split at h
      · omega
      · exact ⟨by omega, pnF_ok h1, by omega⟩
    · contradiction
theorem psF_mk {l : List Sp} (h : l.length ≤ 200) (h1 : ∀ p ∈ l, OkP p) (h2 : (mk (pfS l)).length ≤ 64) : psF l = 0 := by
  unfold psF
  rw [if_neg (by omega), if_pos (pnF_mk h1), if_neg (by omega)]
/-- The fault of a set as prefixes; the prefixes. -/
def cvF (l : List Sp) : Int := if setF l = 0 then (if 200 < (cvs l).length then 3 else 0) else setF l
def cvS (l : List Sp) : List Sp := if cvF l = 0 then cvs l else []
/-- The fewest: the fault, and they. -/
def fwF (l : List Sp) : Int := if psF l = 0 then cvF (psS l) else psF l
def fwS (l : List Sp) : List Sp := if psF l = 0 then cvS (psS l) else []
theorem ps_set {l : List Sp} (h : psF l = 0) : setF (psS l) = 0 ∧ ∀ x, mem (psS l) x = mem (pfS l) x := by
  obtain ⟨a, b, c⟩ := psF_ok h
  have e : psS l = mk (pfS l) := if_pos h
  obtain ⟨m1, m2, m3, m4⟩ := mk_set (pfS_inA b)
  rw [e]
  exact ⟨setF_mk c m1 m3, m2⟩
/-- The fewest have the same addresses, are the fewest of themselves, and are no more. -/
theorem few {l : List Sp} (h : fwF l = 0) : psF l = 0 ∧ psF (fwS l) = 0 ∧ psS (fwS l) = psS l ∧ fwF (fwS l) = 0 ∧ fwS (fwS l) = fwS l ∧ (fwS l).length ≤ l.length := by
  have h0 : psF l = 0 := by
    unfold fwF at h
    split at h
    · assumption
    · contradiction
  obtain ⟨s1, s2⟩ := ps_set h0
  obtain ⟨t1, t2, t3⟩ := setF_ok s1
  obtain ⟨a, b, c⟩ := psF_ok h0
  have hc : cvF (psS l) = 0 := by unfold fwF at h; rw [if_pos h0] at h; exact h
  have e1 : fwS l = cvs (psS l) := by unfold fwS cvS; rw [if_pos h0, if_pos hc]
  have hlen : (cvs (psS l)).length ≤ 200 := by
    unfold cvF at hc
    rw [if_pos s1] at hc
    split at hc
    · omega
    · omega
  have hok := cvs_ok t3
  have hset : mk (pfS (cvs (psS l))) = psS l := by
    obtain ⟨m1, m2, m3, m4⟩ := mk_set (pfS_inA hok)
    exact m1.uniq t2 (fun x => by rw [m2, cvs_mem t3])
  have p1 : psF (cvs (psS l)) = 0 := psF_mk hlen hok (by rw [hset]; exact t1)
  have p2 : psS (cvs (psS l)) = psS l := by
    show (if psF (cvs (psS l)) = 0 then mk (pfS (cvs (psS l))) else []) = _
    rw [if_pos p1, hset]
  have p3 : fwF (cvs (psS l)) = 0 := by unfold fwF; rw [if_pos p1, p2]; exact hc
  have p4 : fwS (cvs (psS l)) = cvs (psS l) := by
    show (if psF (cvs (psS l)) = 0 then cvS (psS (cvs (psS l))) else []) = _
    rw [if_pos p1, p2]; unfold cvS; rw [if_pos hc]
  rw [e1]
  exact ⟨h0, p1, p2, p3, p4, cvs_few t2 t3 b (fun x => (s2 x).symm)⟩
end Bur
