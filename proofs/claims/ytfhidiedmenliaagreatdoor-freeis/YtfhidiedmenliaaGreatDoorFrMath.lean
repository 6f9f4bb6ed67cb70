/- What is free within a prefix: its blocks by halving, and that these are the cover of its gaps. No program stands here. -/
import Derived.Test.YtfhidiedmenliaaGreatDoorTrMath3
namespace Bur
open Go

/-- Have two an address in common? -/
def mts (p q : Sp) : Bool := decide (p.1 ≤ q.1 + sz q.2 - 1) && decide (q.1 ≤ p.1 + sz p.2 - 1)
theorem mts_iff (p q : Sp) : mts p q = true ↔ p.1 ≤ q.1 + sz q.2 - 1 ∧ q.1 ≤ p.1 + sz p.2 - 1 := by simp [mts]
/-- The prefix of 2^k addresses at a. -/
def pk (k : Nat) (a : Int) : Sp := (a, 32 - (k : Int))
/-- It may be. -/
def OkK (k : Nat) (a : Int) : Prop := k ≤ 32 ∧ 0 ≤ a ∧ a + 2 ^ k ≤ 4294967296 ∧ (2 : Int) ^ k ∣ a
theorem OkK.ok {k : Nat} {a : Int} (h : OkK k a) : OkP (pk k a) := okP_mk h.1 h.2.1 (by have := pw_pos k; have := h.2.2.1; omega) h.2.2.2
theorem OkK.sz {k : Nat} {a : Int} (h : OkK k a) : sz (pk k a).2 = 2 ^ k := sz_pw h.1
theorem OkP.okK {p : Sp} (h : OkP p) : OkK (32 - p.2).toNat p.1 ∧ p = pk (32 - p.2).toNat p.1 := by
  obtain ⟨a, b, c, d, e⟩ := h.parts
  refine ⟨⟨by omega, c, ?_, ?_⟩, Prod.ext rfl (by simp only [pk]; omega)⟩
  · have : Bur.sz p.2 = 2 ^ (32 - p.2).toNat := rfl
    omega
  · exact e
theorem OkK.low {k : Nat} {a : Int} (h : OkK (k + 1) a) : OkK k a := by
  have := pw_succ k
  have := pw_pos k
  exact ⟨by have := h.1; omega, h.2.1, by have := h.2.2.1; omega, Int.dvd_trans (pw_dvd (by omega)) h.2.2.2⟩
theorem OkK.high {k : Nat} {a : Int} (h : OkK (k + 1) a) : OkK k (a + 2 ^ k) := by
  have := pw_succ k
  have := pw_pos k
  exact ⟨by have := h.1; omega, by have := h.2.1; omega, by have := h.2.2.1; omega, Int.dvd_add (Int.dvd_trans (pw_dvd (by omega)) h.2.2.2) (Int.dvd_refl _)⟩
theorem OkK.in_iff {k : Nat} {a : Int} (h : OkK k a) (q : Sp) : inP (pk k a) q = true ↔ q.1 ≤ a ∧ a + 2 ^ k ≤ q.1 + Bur.sz q.2 := by
  rw [inP_iff, h.sz]; rfl
theorem OkK.mts_iff {k : Nat} {a : Int} (h : OkK k a) (q : Sp) : mts (pk k a) q = true ↔ a ≤ q.1 + Bur.sz q.2 - 1 ∧ q.1 ≤ a + 2 ^ k - 1 := by
  rw [Bur.mts_iff, h.sz]; rfl

/-- The state of a prefix: 0: nothing of it is taken; 1: all, by one; 2: something. -/
def stt (l : List Sp) (k : Nat) (a : Int) : Int := if l.any (fun q => inP (pk k a) q) = true then 1 else if l.any (fun q => mts (pk k a) q) = true then 2 else 0
theorem stt_cases (l : List Sp) (k : Nat) (a : Int) : (stt l k a = 1 ∧ l.any (fun q => inP (pk k a) q) = true) ∨ (stt l k a = 2 ∧ l.any (fun q => inP (pk k a) q) = false ∧ l.any (fun q => mts (pk k a) q) = true) ∨ (stt l k a = 0 ∧ l.any (fun q => inP (pk k a) q) = false ∧ l.any (fun q => mts (pk k a) q) = false) := by
  unfold stt
  cases h1 : l.any (fun q => inP (pk k a) q) with
  | true => exact .inl ⟨rfl, rfl⟩
  | false =>
    cases h2 : l.any (fun q => mts (pk k a) q) with
    | true => exact .inr (.inl ⟨rfl, rfl, rfl⟩)
    | false => exact .inr (.inr ⟨rfl, rfl, rfl⟩)
/-- Is an address taken? -/
theorem tk_iff (l : List Sp) (x : Int) : mem (pfS l) x = true ↔ ∃ q ∈ l, q.1 ≤ x ∧ x ≤ q.1 + (sz q.2 - 1) := by
  rw [mem_iff]
  constructor
  · rintro ⟨s, hs, h⟩
    obtain ⟨q, hq, rfl⟩ := List.mem_map.1 hs
    exact ⟨q, hq, h⟩
  · rintro ⟨q, hq, h⟩
    exact ⟨pS q, List.mem_map.2 ⟨q, hq, rfl⟩, h⟩
theorem stt_1 {l : List Sp} {k : Nat} {a : Int} (h : OkK k a) (hs : stt l k a = 1) : ∀ x, a ≤ x → x < a + 2 ^ k → mem (pfS l) x = true := by
  rcases stt_cases l k a with ⟨_, h1⟩ | ⟨e, _⟩ | ⟨e, _⟩
  · intro x hx1 hx2
    obtain ⟨q, hq, hi⟩ := List.any_eq_true.1 h1
    rw [h.in_iff] at hi
    exact (tk_iff l x).2 ⟨q, hq, by omega, by omega⟩
  · omega
  · omega
theorem stt_0 {l : List Sp} {k : Nat} {a : Int} (h : OkK k a) (hs : stt l k a = 0) : ∀ x, a ≤ x → x < a + 2 ^ k → mem (pfS l) x = false := by
  rcases stt_cases l k a with ⟨e, _⟩ | ⟨e, _⟩ | ⟨_, _, h1⟩
  · omega
  · omega
  · intro x hx1 hx2
    cases e : mem (pfS l) x with
    | false => rfl
    | true =>
      obtain ⟨q, hq, g1, g2⟩ := (tk_iff l x).1 e
      rw [List.any_eq_false] at h1
      exact absurd ((h.mts_iff q).2 ⟨by omega, by omega⟩) (h1 q hq)
theorem stt_2 {l : List Sp} {k : Nat} {a : Int} (h : OkK k a) (hs : stt l k a = 2) : (∃ x, a ≤ x ∧ x < a + 2 ^ k ∧ mem (pfS l) x = true) ∧ 0 < k := by
  have hk := pw_pos k
  rcases stt_cases l k a with ⟨e, _⟩ | ⟨_, h0, h1⟩ | ⟨e, _⟩
  · omega
  · obtain ⟨q, hq, hm⟩ := List.any_eq_true.1 h1
    rw [h.mts_iff] at hm
    have hz := sz_pos q.2
    refine ⟨?_, ?_⟩
    · by_cases hc : a ≤ q.1
      · exact ⟨q.1, hc, by omega, (tk_iff l q.1).2 ⟨q, hq, by omega, by omega⟩⟩
      · exact ⟨a, by omega, by omega, (tk_iff l a).2 ⟨q, hq, by omega, by omega⟩⟩
    · apply Nat.pos_of_ne_zero
      intro hk0
      subst hk0
      rw [List.any_eq_false] at h0
      refine h0 q hq ((h.in_iff q).2 ?_)
      simp only [Int.pow_zero] at hm ⊢
      omega
  · omega
/-- The free blocks, halved as often as is needed. -/
def blk (l : List Sp) : Nat → Int → List Sp
  | 0, a => if stt l 0 a = 0 then [pk 0 a] else []
  | k + 1, a => if stt l (k + 1) a = 0 then [pk (k + 1) a] else if stt l (k + 1) a = 1 then [] else blk l k a ++ blk l k (a + 2 ^ k)

/-- A set's prefixes within one, by halving. -/
def hvS (S : List Sp) (k : Nat) (a : Int) : List Sp := S.flatMap fun s => hv k a s.1 s.2
theorem hv_out {k : Nat} {a lo hi : Int} (h : hi < a ∨ a + 2 ^ k - 1 < lo) : hv k a lo hi = [] := by
  cases k with
  | zero => rw [hv, if_pos (by simp only [Int.pow_zero] at h; omega)]
  | succ k => rw [hv, if_pos h]
theorem hv_in {k : Nat} {a lo hi : Int} (h1 : lo ≤ a) (h2 : a + 2 ^ k - 1 ≤ hi) : hv k a lo hi = [pk k a] := by
  have := pw_pos k
  cases k with
  | zero => rw [hv, if_neg (by simp only [Int.pow_zero] at h2; omega)]; rfl
  | succ k => rw [hv, if_neg (by omega), if_pos ⟨h1, h2⟩]; rfl
theorem hv_half {k : Nat} {a lo hi : Int} (h : ¬ (lo ≤ a ∧ a + 2 ^ (k + 1) - 1 ≤ hi)) : hv (k + 1) a lo hi = hv k a lo hi ++ hv k (a + 2 ^ k) lo hi := by
  have h1 := pw_succ k
  have h2 := pw_pos k
  rw [hv]
  split
  · rename_i g
    rw [hv_out (k := k) (a := a) (by omega), hv_out (k := k) (a := a + 2 ^ k) (by omega)]
    rfl
  · rfl
theorem hvS_out {S : List Sp} {k : Nat} {a : Int} (h : ∀ s ∈ S, s.2 < a ∨ a + 2 ^ k - 1 < s.1) : hvS S k a = [] := by
  unfold hvS
  rw [List.flatMap_eq_nil_iff]
  exact fun s hs => hv_out (h s hs)
theorem hvS_cons (s : Sp) (r : List Sp) (k : Nat) (a : Int) : hvS (s :: r) k a = hv k a s.1 s.2 ++ hvS r k a := rfl
theorem hvS_none {S : List Sp} {k : Nat} {a : Int} {h : Int} (hs : IsS h S) (hn : ∀ x, a ≤ x → x < a + 2 ^ k → mem S x = false) : hvS S k a = [] := by
  refine hvS_out (fun s hm => ?_)
  have hle := hs.le s hm
  have hk := pw_pos k
  by_cases h1 : s.2 < a
  · exact .inl h1
  · refine .inr (Int.not_le.1 (fun h2 => ?_))
    by_cases h3 : s.1 ≤ a
    · have := hn a (by omega) (by omega)
      rw [(mem_iff S a).2 ⟨s, hm, h3, by omega⟩] at this
      cases this
    · have := hn s.1 (by omega) (by omega)
      rw [(hs.mem_hi hm).1] at this
      cases this
theorem hvS_all : ∀ {S : List Sp} {h : Int}, IsS h S → ∀ {k : Nat} {a : Int}, (∀ x, a ≤ x → x < a + 2 ^ k → mem S x = true) → hvS S k a = [pk k a]
  | [], _, _, k, a, hn => by
    have hk := pw_pos k
    have := hn a (by omega) (by omega)
    cases this
  | s :: r, h, hs, k, a, hn => by
    have hk := pw_pos k
    have hs' := hs
    obtain ⟨h1, h2, h3⟩ := hs
    rw [hvS_cons]
    have ha := hn a (by omega) (by omega)
    rw [mem_cons, Bool.or_eq_true, Bool.and_eq_true, decide_eq_true_eq, decide_eq_true_eq] at ha
    by_cases hc : s.1 ≤ a ∧ a ≤ s.2
    · have hall : a + 2 ^ k - 1 ≤ s.2 := by
        apply Int.not_lt.1
        intro hlt
        have h4 := hn (s.2 + 1) (by omega) (by omega)
        rw [mem_cons, h3.out (by omega)] at h4
        simp at h4
        omega
      rw [hv_in hc.1 hall, hvS_out (fun t ht => ?_)]
      · rfl
      · have := h3.lo ((h3.mem_hi ht).1)
        exact .inr (by omega)
    · have ham : mem r a = true := by
        rcases ha with g | g
        · exact absurd g hc
        · exact g
      have hlo := h3.lo ham
      rw [hv_out (.inl (by omega)), List.nil_append]
      refine hvS_all h3 (fun x hx1 hx2 => ?_)
      have h5 := hn x hx1 hx2
      rw [mem_cons, Bool.or_eq_true, Bool.and_eq_true, decide_eq_true_eq, decide_eq_true_eq] at h5
      rcases h5 with g | g
      · omega
      · exact g
theorem hvS_half : ∀ {S : List Sp} {h : Int}, IsS h S → ∀ {k : Nat} {a : Int}, ¬ (∀ x, a ≤ x → x < a + 2 ^ (k + 1) → mem S x = true) → hvS S (k + 1) a = hvS S k a ++ hvS S k (a + 2 ^ k)
  | [], _, _, _, _, _ => rfl
  | s :: r, h, hs, k, a, hn => by
    have e1 := pw_succ k
    have e2 := pw_pos k
    obtain ⟨h1, h2, h3⟩ := hs
    have hn2 : ¬ (s.1 ≤ a ∧ a + 2 ^ (k + 1) - 1 ≤ s.2) := fun g => hn (fun x hx1 hx2 => by
      rw [mem_cons]
      simp
      exact .inl ⟨by omega, by omega⟩)
    have hn3 : ¬ (∀ x, a ≤ x → x < a + 2 ^ (k + 1) → mem r x = true) := fun g => hn (fun x hx1 hx2 => by
      rw [mem_cons, g x hx1 hx2]
      simp)
    rw [hvS_cons, hvS_cons, hvS_cons, hv_half hn2, hvS_half h3 hn3]
    by_cases hc : s.2 < a + 2 ^ k
    · rw [hv_out (k := k) (a := a + 2 ^ k) (.inl hc)]
      simp
    · rw [hvS_out (S := r) (k := k) (a := a) (fun t ht => .inr (by have := h3.lo ((h3.mem_hi ht).1); omega))]
      simp
/-- The blocks are the set's prefixes, by halving. -/
theorem blk_hv {l S : List Sp} (hl : ∀ q ∈ l, OkP q) {h : Int} (hS : IsS h S) : ∀ (k : Nat) (a : Int), OkK k a → (∀ x, a ≤ x → x < a + 2 ^ k → mem S x = !mem (pfS l) x) → blk l k a = hvS S k a
  | 0, a, ok, hm => by
    rw [blk]
    rcases stt_cases l 0 a with ⟨e, _⟩ | ⟨e, _⟩ | ⟨e, _⟩
    · rw [if_neg (by omega), hvS_none hS (fun x h1 h2 => by rw [hm x h1 h2, stt_1 ok e x h1 h2]; rfl)]
    · have := (stt_2 ok e).2
      omega
    · rw [if_pos e, hvS_all hS (fun x h1 h2 => by rw [hm x h1 h2, stt_0 ok e x h1 h2]; rfl)]
  | k + 1, a, ok, hm => by
    have e1 := pw_succ k
    have e2 := pw_pos k
    rw [blk]
    rcases stt_cases l (k + 1) a with ⟨e, _⟩ | ⟨e, _⟩ | ⟨e, _⟩
    · rw [if_neg (by omega), if_pos e, hvS_none hS (fun x h1 h2 => by rw [hm x h1 h2, stt_1 ok e x h1 h2]; rfl)]
    · rw [if_neg (by omega), if_neg (by omega), hvS_half hS]
      · rw [blk_hv hl hS k a ok.low (fun x h1 h2 => hm x h1 (by omega)), blk_hv hl hS k (a + 2 ^ k) ok.high (fun x h1 h2 => hm x (by omega) (by omega))]
      · intro g
        obtain ⟨x, h1, h2, h3⟩ := (stt_2 ok e).1
        have := g x h1 h2
        rw [hm x h1 h2, h3] at this
        cases this
    · rw [if_pos e, hvS_all hS (fun x h1 h2 => by rw [hm x h1 h2, stt_0 ok e x h1 h2]; rfl)]
/-- What is free in a prefix, as a set. -/
def gps (p : Sp) (l : List Sp) : List Sp := two 3 [pS p] (pfS l)
theorem gps_set {p : Sp} {l : List Sp} (hp : OkP p) (hl : ∀ q ∈ l, OkP q) : IsS (-2) (gps p l) ∧ InA (gps p l) ∧ ∀ x, mem (gps p l) x = (decide (p.1 ≤ x) && decide (x ≤ p.1 + (sz p.2 - 1)) && !mem (pfS l) x) := by
  have h1 : InA [pS p] := by
    intro s hs
    rw [List.mem_singleton] at hs
    subst hs
    obtain ⟨a, b, c, d, e⟩ := hp.parts
    have := sz_pos p.2
    exact ⟨c, by simp only [pS]; omega, d⟩
  have h2 := pfS_inA hl
  obtain ⟨g1, g2⟩ := two_set 3 h1 h2
  refine ⟨g1, two_inA 3 h1 h2, fun x => ?_⟩
  show mem (two 3 [pS p] (pfS l)) x = _
  have hk : ∀ x y : Bool, kp 3 x y = (x && !y) := by intro x y; cases x <;> cases y <;> rfl
  rw [g2, mem_cons, mem_nil, Bool.or_false, hk]
  rfl
theorem cvs_hv {S : List Sp} (hA : InA S) {k : Nat} {a : Int} (ok : OkK k a) (hin : ∀ s ∈ S, a ≤ s.1 ∧ s.2 ≤ a + 2 ^ k - 1) : cvs S = hvS S k a := by
  unfold cvs hvS
  induction S with
  | nil => rfl
  | cons s r ih =>
    rw [List.flatMap_cons, List.flatMap_cons, ih (fun t ht => hA t (by simp [ht])) (fun t ht => hin t (by simp [ht]))]
    congr 1
    have h1 := hA s (by simp)
    have h2 := hin s (by simp)
    rw [hv_cov k a s.1 s.2 ok.2.1 ok.2.2.2 (by have := ok.2.2.1; omega) h1.2.1]
    congr 1 <;> omega
/-- Blocks are the cover of the gaps. -/
theorem blk_cvs {p : Sp} {l : List Sp} (hp : OkP p) (hl : ∀ q ∈ l, OkP q) : blk l (32 - p.2).toNat p.1 = cvs (gps p l) := by
  obtain ⟨g1, g2, g3⟩ := gps_set hp hl
  obtain ⟨k1, k2⟩ := hp.okK
  have hz : sz p.2 = 2 ^ (32 - p.2).toNat := rfl
  have hin : ∀ s ∈ gps p l, p.1 ≤ s.1 ∧ s.2 ≤ p.1 + 2 ^ (32 - p.2).toNat - 1 := fun s hs => by
    have a1 := (g1.mem_hi hs).1
    have a2 := (g1.mem_hi hs).2
    rw [g3] at a1 a2
    simp only [Bool.and_eq_true, decide_eq_true_eq] at a1 a2
    omega
  rw [cvs_hv g2 k1 hin]
  refine blk_hv hl g1 _ _ k1 (fun x h1 h2 => ?_)
  rw [g3]
  have : decide (p.1 ≤ x) = true := by simpa using h1
  have h4 : decide (x ≤ p.1 + (sz p.2 - 1)) = true := by simp; omega
  rw [this, h4]
  rfl
end Bur
