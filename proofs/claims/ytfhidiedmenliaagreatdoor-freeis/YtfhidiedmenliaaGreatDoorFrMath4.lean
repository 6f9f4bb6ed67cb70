/- What is free within a prefix: the places of a Len, gap by gap. No program stands here. -/
import Derived.Test.YtfhidiedmenliaaGreatDoorFrMath3
namespace Bur
open Go

/-- The least multiple of m that is not below x. -/
def upn (m x : Int) : Int := (x + m - 1) / m * m
theorem upn_spec {m : Int} (hm : 0 < m) (x : Int) : m ∣ upn m x ∧ x ≤ upn m x ∧ upn m x < x + m := by
  have h1 := Int.mul_ediv_add_emod (x + m - 1) m
  have h2 := Int.emod_nonneg (x + m - 1) (show m ≠ 0 by omega)
  have h3 := Int.emod_lt_of_pos (x + m - 1) hm
  rw [Int.mul_comm] at h1
  exact ⟨Int.dvd_mul_left _ _, by unfold upn; omega, by unfold upn; omega⟩
theorem upn_le {m : Int} (hm : 0 < m) {x y : Int} (hd : m ∣ y) (h : x ≤ y) : upn m x ≤ y := by
  obtain ⟨h1, h2, h3⟩ := upn_spec hm x
  apply Int.not_lt.1
  intro hlt
  have := apart hm hd h1 hlt
  omega
/-- How many places of m a gap has. -/
def plc (m : Int) (g : Sp) : Nat := ((g.2 + 1 - upn m g.1) / m).toNat
def pls (n : Int) (g : Sp) : List Sp := (List.range (plc (sz n) g)).map fun (i : Nat) => (upn (sz n) g.1 + (i : Int) * sz n, n)
theorem pls_mem (n : Int) (g s : Sp) : s ∈ pls n g ↔ s.2 = n ∧ sz n ∣ s.1 ∧ g.1 ≤ s.1 ∧ s.1 + sz n ≤ g.2 + 1 := by
  have hz := sz_pos n
  obtain ⟨h1, h2, h3⟩ := upn_spec hz g.1
  unfold pls
  rw [List.mem_map]
  constructor
  · rintro ⟨i, hi, rfl⟩
    rw [List.mem_range] at hi
    refine ⟨rfl, Int.dvd_add h1 (Int.dvd_mul_left _ _), ?_, ?_⟩
    · show g.1 ≤ upn (sz n) g.1 + i * sz n
      have := Int.mul_nonneg (show (0 : Int) ≤ i by omega) (show 0 ≤ sz n by omega)
      omega
    · show upn (sz n) g.1 + i * sz n + sz n ≤ g.2 + 1
      have hp : ((i + 1 : Nat) : Int) ≤ (g.2 + 1 - upn (sz n) g.1) / sz n := by unfold plc at hi; omega
      have h4 := Int.mul_le_of_le_ediv hz hp
      have h5 : ((i + 1 : Nat) : Int) * sz n = i * sz n + sz n := by rw [Int.natCast_add, Int.add_mul]; simp
      omega
  · rintro ⟨e1, e2, e3, e4⟩
    have h4 := upn_le hz e2 e3
    obtain ⟨k, hk⟩ : sz n ∣ s.1 - upn (sz n) g.1 := Int.dvd_sub e2 h1
    have hk0 : 0 ≤ k := by
      apply Int.not_lt.1
      intro hlt
      have := Int.mul_neg_of_pos_of_neg hz hlt
      omega
    refine ⟨k.toNat, ?_, Prod.ext ?_ e1.symm⟩
    · rw [List.mem_range]
      unfold plc
      have : k + 1 ≤ (g.2 + 1 - upn (sz n) g.1) / sz n := by
        rw [Int.le_ediv_iff_mul_le hz, Int.add_mul, Int.mul_comm k]
        omega
      omega
    · show upn (sz n) g.1 + (k.toNat : Int) * sz n = s.1
      rw [Int.toNat_of_nonneg hk0, Int.mul_comm k]
      omega
theorem pls_rise (n : Int) (g : Sp) : (pls n g).Pairwise (fun x y => x.1 < y.1) := by
  have hz := sz_pos n
  unfold pls
  rw [List.pairwise_map]
  refine List.pairwise_lt_range.imp (fun {i j} hij => ?_)
  show upn (sz n) g.1 + i * sz n < upn (sz n) g.1 + j * sz n
  have := Int.mul_lt_mul_of_pos_right (show (i : Int) < j by omega) hz
  omega
theorem rise_one : ∀ {L M : List Sp}, L.Pairwise (fun x y => x.1 < y.1) → M.Pairwise (fun x y => x.1 < y.1) → (∀ s, s ∈ L ↔ s ∈ M) → L = M
  | [], [], _, _, _ => rfl
  | [], y :: M, _, _, h => by have := (h y).2 (by simp); cases this
  | x :: L, [], _, _, h => by have := (h x).1 (by simp); cases this
  | x :: L, y :: M, hL, hM, h => by
    obtain ⟨l1, l2⟩ := List.pairwise_cons.1 hL
    obtain ⟨m1, m2⟩ := List.pairwise_cons.1 hM
    have e : x = y := by
      rcases List.mem_cons.1 ((h x).1 (by simp)) with e | hx
      · exact e
      · rcases List.mem_cons.1 ((h y).2 (by simp)) with e | hy
        · exact e.symm
        · have := l1 y hy
          have := m1 x hx
          omega
    subst e
    congr 1
    refine rise_one l2 m2 (fun s => ⟨fun hs => ?_, fun hs => ?_⟩)
    · rcases List.mem_cons.1 ((h s).1 (by simp [hs])) with e | g
      · have := l1 s hs; rw [e] at this; omega
      · exact g
    · rcases List.mem_cons.1 ((h s).2 (by simp [hs])) with e | g
      · have := m1 s hs; rw [e] at this; omega
      · exact g
theorem flat_rise (n : Int) : ∀ {S : List Sp} {h : Int}, IsS h S → (S.flatMap (pls n)).Pairwise (fun x y => x.1 < y.1) ∧ ∀ s ∈ S.flatMap (pls n), h + 1 < s.1
  | [], _, _ => by simp
  | g :: r, h, ⟨a, b, c⟩ => by
    obtain ⟨i1, i2⟩ := flat_rise n c
    have hz := sz_pos n
    rw [List.flatMap_cons]
    refine ⟨List.pairwise_append.2 ⟨pls_rise n g, i1, fun x hx y hy => ?_⟩, fun s hs => ?_⟩
    · have h1 := (pls_mem n g x).1 hx
      have h2 := i2 y hy
      omega
    · rcases List.mem_append.1 hs with hs | hs
      · have h1 := (pls_mem n g s).1 hs
        omega
      · have := i2 s hs
        omega
/-- The free places, gap by gap. -/
theorem frs_gps {p : Sp} {l : List Sp} {n : Int} (hp : OkP p) (hl : ∀ q ∈ l, OkP q) (h1 : p.2 ≤ n) (h2 : n ≤ 32) : frs p l n = (gps p l).flatMap (pls n) := by
  obtain ⟨g1, g2, g3⟩ := gps_set hp hl
  have hz := sz_pos n
  obtain ⟨pa, pb, pc, pd, pe⟩ := hp.parts
  refine rise_one ((frs_rise hp h1 h2).imp (fun h => by omega)) (flat_rise n g1).1 (fun s => ?_)
  rw [frs_mem hp h1 h2, List.mem_flatMap]
  constructor
  · rintro ⟨a1, rfl, a3, a4⟩
    obtain ⟨b1, b2, b3, b4, b5⟩ := a1.parts
    rw [inP_iff] at a3
    rw [fre_iff] at a4
    have hm : ∀ x, s.1 ≤ x → x ≤ s.1 + (sz s.2 - 1) → mem (gps p l) x = true := fun x x1 x2 => by
      rw [g3, show decide (p.1 ≤ x) = true from decide_eq_true (by omega), show decide (x ≤ p.1 + (sz p.2 - 1)) = true from decide_eq_true (by omega)]
      cases e : mem (pfS l) x with
      | false => rfl
      | true =>
        obtain ⟨q, hq, c1, c2⟩ := (tk_iff l x).1 e
        have := a4 q hq
        rw [(mts_iff s q).2 ⟨by omega, by omega⟩] at this
        cases this
    obtain ⟨g, hg, d1, d2⟩ := (mem_iff _ _).1 (hm s.1 (Int.le_refl _) (by omega))
    obtain ⟨e1, e2⟩ := g1.one hm hg d1 d2 (Int.le_refl _) (by omega)
    exact ⟨g, hg, (pls_mem _ g s).2 ⟨rfl, b5, e1, by omega⟩⟩
  · rintro ⟨g, hg, hs⟩
    obtain ⟨a1, a2, a3, a4⟩ := (pls_mem n g s).1 hs
    subst a1
    have hm : ∀ x, s.1 ≤ x → x ≤ s.1 + (sz s.2 - 1) → mem (gps p l) x = true := fun x x1 x2 => (mem_iff _ _).2 ⟨g, hg, by omega, by omega⟩
    have m1 := hm s.1 (Int.le_refl _) (by omega)
    have m2 := hm (s.1 + (sz s.2 - 1)) (by omega) (Int.le_refl _)
    rw [g3] at m1 m2
    simp only [Bool.and_eq_true, decide_eq_true_eq] at m1 m2
    have hk : (32 - s.2).toNat ≤ 32 := by omega
    have hok : OkP s := by
      have := okP_mk (a := s.1) hk (by omega) (by omega) a2
      rw [show (s.1, 32 - ((32 - s.2).toNat : Int)) = s from Prod.ext rfl (by show 32 - ((32 - s.2).toNat : Int) = s.2; omega)] at this
      exact this
    refine ⟨hok, rfl, (inP_iff s p).2 ⟨by omega, by omega⟩, (fre_iff l s).2 (fun q hq => ?_)⟩
    cases e : mts s q with
    | false => rfl
    | true =>
      rw [mts_iff] at e
      have hq1 := sz_pos q.2
      have : ∃ x, s.1 ≤ x ∧ x ≤ s.1 + (sz s.2 - 1) ∧ q.1 ≤ x ∧ x ≤ q.1 + (sz q.2 - 1) := by
        by_cases c : s.1 ≤ q.1
        · exact ⟨q.1, by omega, by omega, by omega, by omega⟩
        · exact ⟨s.1, by omega, by omega, by omega, by omega⟩
      obtain ⟨x, x1, x2, x3, x4⟩ := this
      have h3 := hm x x1 x2
      rw [g3, (tk_iff l x).2 ⟨q, hq, x3, x4⟩] at h3
      simp at h3
/-- The first by gaps; how many by gaps. -/
def fsg (n : Int) : List Sp → Option Int
  | [] => none
  | g :: r => if 0 < plc (sz n) g then some (upn (sz n) g.1) else fsg n r
def mng (n : Int) : List Sp → Int
  | [] => 0
  | g :: r => (plc (sz n) g : Int) + mng n r
theorem flat_fsg (n : Int) : ∀ S : List Sp, (S.flatMap (pls n)).head?.map (·.1) = fsg n S ∧ ((S.flatMap (pls n)).length : Int) = mng n S
  | [] => ⟨rfl, rfl⟩
  | g :: r => by
    obtain ⟨i1, i2⟩ := flat_fsg n r
    have hl : (pls n g).length = plc (sz n) g := by unfold pls; simp
    rw [List.flatMap_cons, fsg, mng, List.length_append, hl]
    refine ⟨?_, by omega⟩
    by_cases h : 0 < plc (sz n) g
    · rw [if_pos h]
      obtain ⟨k, hk⟩ : ∃ k, plc (sz n) g = k + 1 := ⟨plc (sz n) g - 1, by omega⟩
      unfold pls
      rw [hk, List.range_succ_eq_map]
      simp
    · rw [if_neg h, ← i1]
      have : pls n g = [] := List.eq_nil_of_length_eq_zero (by omega)
      rw [this, List.nil_append]
theorem fsp_gaps {p : Sp} {l : List Sp} {n : Int} (hp : OkP p) (hl : ∀ q ∈ l, OkP q) (h1 : p.2 ≤ n) (h2 : n ≤ 32) : fsp p l n = fsg n (gps p l) ∧ mnp p l n = mng n (gps p l) := by
  obtain ⟨a, b⟩ := fsp_frs (l := l) hp h1 h2
  obtain ⟨c, d⟩ := flat_fsg n (gps p l)
  rw [a, b, frs_gps hp hl h1 h2, c, d]
  exact ⟨rfl, rfl⟩
end Bur
