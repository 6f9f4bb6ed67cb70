/- What package free answers, in one form for whatever it is given, and the ways it takes. No program stands here. -/
import Derived.Test.YtfhidiedmenliaaGreatDoorFrMath4
namespace Bur
open Go

def gpS (p : Sp) (l : List Sp) : List Sp := if frF p l = 0 then gps p l else []
def bkS (p : Sp) (l : List Sp) : List Sp := if bkF p l = 0 then bks p l else []
def lnF (p : Sp) (n : Int) : Int := if n < p.2 ∨ 32 < n then 1 else 0
def gfF (p : Sp) (l : List Sp) (n : Int) : Int := if frF p l = 0 then lnF p n else frF p l
def gfS (p : Sp) (l : List Sp) (n : Int) : List Sp := if gfF p l n = 0 then gps p l else []
def mnS (p : Sp) (l : List Sp) (n : Int) : Int := if gfF p l n = 0 then mnp p l n else 0
def nnF {α : Type} : Option α → Int
  | none => 4
  | some _ => 0
def fsF (p : Sp) (l : List Sp) (n : Int) : Int := if gfF p l n = 0 then nnF (fsp p l n) else gfF p l n
def fsS (p : Sp) (l : List Sp) (n : Int) : Sp := if fsF p l n = 0 then ((fsp p l n).getD 0, n) else (0, 0)
def bsF (p : Sp) (l : List Sp) (n : Int) : Int := if bkF p l = 0 then (if lnF p n = 0 then nnF (bst n none (bks p l)) else lnF p n) else bkF p l
def bsS (p : Sp) (l : List Sp) (n : Int) : Sp := if bsF p l n = 0 then (((bst n none (bks p l)).getD (0, 0)).1, n) else (0, 0)

theorem psF_60 {l : List Sp} (h : l.length ≤ 60) : psF l = pnF l := by
  by_cases e : pnF l = 0
  · rw [(tkn_ps h (pnF_ok e)).1, e]
  · unfold psF
    rw [if_neg (by omega), if_neg e]
theorem frF_p {p : Sp} {l : List Sp} (h : fault p.1 p.2 ≠ 0) : frF p l = fault p.1 p.2 := if_neg h
theorem frF_3 {p : Sp} {l : List Sp} (h : fault p.1 p.2 = 0) (h2 : 60 < l.length) : frF p l = 3 := by
  unfold frF
  rw [if_pos h, if_pos h2]
theorem frF_l {p : Sp} {l : List Sp} (h : fault p.1 p.2 = 0) (h2 : l.length ≤ 60) : frF p l = psF l := by
  unfold frF
  rw [if_pos h, if_neg (by omega), psF_60 h2]
theorem pS_set {p : Sp} (h : OkP p) : setF [pS p] = 0 ∧ InA [pS p] := by
  obtain ⟨a, b, c, d, e⟩ := h.parts
  have hz := sz_pos p.2
  have w1 : IsS (-2) [pS p] := ⟨by show _ < p.1; omega, by show p.1 ≤ p.1 + (sz p.2 - 1); omega, trivial⟩
  have w2 : InA [pS p] := fun s hs => by
    rw [List.mem_singleton] at hs
    subst hs
    exact ⟨c, by show p.1 ≤ p.1 + (sz p.2 - 1); omega, d⟩
  exact ⟨setF_mk (by simp) w1 w2, w2⟩
/-- By Gaps' own way. -/
theorem gps_ps {p : Sp} {l : List Sp} (h : frF p l = 0) : two 3 [pS p] (psS l) = gps p l ∧ (gps p l).length ≤ 61 ∧ setF [pS p] = 0 ∧ setF (psS l) = 0 ∧ InA (gps p l) := by
  obtain ⟨h1, h2, h3⟩ := frF_ok h
  obtain ⟨t1, t2⟩ := tkn_ps h2 h3
  obtain ⟨s1, s2⟩ := ps_set t1
  obtain ⟨_, s3, s4⟩ := setF_ok s1
  obtain ⟨w1, w2⟩ := pS_set h1
  obtain ⟨i1, i2⟩ := two_set 3 w2 s4
  obtain ⟨j1, j2⟩ := two_set 3 w2 (pfS_inA h3)
  have hl := gps_len h1 h3
  refine ⟨i1.uniq j1 (fun x => ?_), by omega, w1, s1, (gps_set h1 h3).2.1⟩
  rw [i2, s2]
  exact (j2 x).symm
theorem gps_one {p : Sp} {l : List Sp} (h : frF p l = 0) : ∀ s ∈ gps p l, 0 ≤ s.1 ∧ s.1 ≤ s.2 ∧ s.2 ≤ 4294967295 := (gps_ps h).2.2.2.2
theorem lnF_ok {p : Sp} {n : Int} (h : lnF p n = 0) : p.2 ≤ n ∧ n ≤ 32 := by
  unfold lnF at h
  split at h
  · cases h
  · omega
theorem lnF_mk {p : Sp} {n : Int} (h : p.2 ≤ n) (h2 : n ≤ 32) : lnF p n = 0 := if_neg (by omega)
theorem gfF_ok {p : Sp} {l : List Sp} {n : Int} (h : gfF p l n = 0) : frF p l = 0 ∧ p.2 ≤ n ∧ n ≤ 32 := by
  unfold gfF at h
  split at h
  · rename_i e
    exact ⟨e, lnF_ok h⟩
  · rename_i e; exact absurd h e
theorem sz_le32 {n : Int} (h : 0 ≤ n) : sz n ≤ 4294967296 := by
  have := pw_le (show (32 - n).toNat ≤ 32 by omega)
  show (2 : Int) ^ _ ≤ _
  omega
/-- How many places, by fit's own way. -/
theorem plc_eq {m : Int} (hm : 0 < m) (g : Sp) : (plc m g : Int) = max 0 ((g.2 + 1) / m - (g.1 + m - 1) / m) := by
  unfold plc upn
  have : (g.2 + 1 - (g.1 + m - 1) / m * m) / m = (g.2 + 1) / m - (g.1 + m - 1) / m := by
    rw [show g.2 + 1 - (g.1 + m - 1) / m * m = g.2 + 1 + (-((g.1 + m - 1) / m)) * m by rw [Int.neg_mul]; omega, Int.add_mul_ediv_right _ _ (by omega)]
    omega
  rw [this]
  omega
theorem plc_le {m : Int} (hm : 0 < m) {g : Sp} (h0 : 0 ≤ g.1) (h2 : g.2 ≤ 4294967295) : (plc m g : Int) ≤ 4294967296 := by
  rw [plc_eq hm]
  have h1 : 0 ≤ (g.1 + m - 1) / m := Int.ediv_nonneg (by omega) (by omega)
  by_cases hg : 0 ≤ g.2 + 1
  · have h3 : (g.2 + 1) / m ≤ g.2 + 1 := Int.ediv_le_self _ hg
    omega
  · have h3 : (g.2 + 1) / m < 0 := Int.ediv_neg_of_neg_of_pos (by omega) hm
    omega
theorem mng_append (n : Int) : ∀ S T : List Sp, mng n (S ++ T) = mng n S + mng n T
  | [], T => by simp [mng]
  | g :: r, T => by rw [List.cons_append, mng, mng, mng_append n r T]; omega
theorem mng_bound {n : Int} : ∀ {S : List Sp}, (∀ s ∈ S, 0 ≤ s.1 ∧ s.1 ≤ s.2 ∧ s.2 ≤ 4294967295) → 0 ≤ mng n S ∧ mng n S ≤ 4294967296 * S.length
  | [], _ => by simp [mng]
  | g :: r, h => by
    have i := mng_bound (n := n) (S := r) (fun s hs => h s (by simp [hs]))
    have hg := h g (by simp)
    have := plc_le (sz_pos n) hg.1 hg.2.2
    rw [mng, List.length_cons]
    omega
/-- What First and Many find. -/
theorem fs_fsg {p : Sp} {l : List Sp} {n : Int} (h : gfF p l n = 0) : fsp p l n = fsg n (gps p l) ∧ mnp p l n = mng n (gps p l) := by
  obtain ⟨h0, h1, h2⟩ := gfF_ok h
  obtain ⟨a, b, c⟩ := frF_ok h0
  exact fsp_gaps a c h1 h2
theorem bkS_len (p : Sp) (l : List Sp) : (bkS p l).length ≤ 200 := by
  unfold bkS
  by_cases h : bkF p l = 0
  · rw [if_pos h]; exact (bkF_ok h).2
  · rw [if_neg h]; simp
theorem gpS_len (p : Sp) (l : List Sp) : (gpS p l).length ≤ 61 := by
  unfold gpS
  by_cases h : frF p l = 0
  · rw [if_pos h]; exact (gps_ps h).2.1
  · rw [if_neg h]; simp
/-- One step of the best. -/
theorem bst_cons (n : Int) (c : Option Sp) (b : Sp) (r : List Sp) : bst n c (b :: r) = bst n (if b.2 ≤ n ∧ (c = none ∨ ∃ s, c = some s ∧ s.2 < b.2) then some b else c) r := rfl
theorem bst_yes {n : Int} {c : Option Sp} {b : Sp} {r : List Sp} (h : b.2 ≤ n) (h2 : ∀ s, c = some s → s.2 < b.2) : bst n c (b :: r) = bst n (some b) r := by
  have e : c = none ∨ ∃ s, c = some s ∧ s.2 < b.2 := by
    cases c with
    | none => exact .inl rfl
    | some s => exact .inr ⟨s, rfl, h2 s rfl⟩
  rw [bst_cons, if_pos ⟨h, e⟩]
theorem bst_big {n : Int} {c : Option Sp} {b : Sp} {r : List Sp} (h : ¬ b.2 ≤ n) : bst n c (b :: r) = bst n c r := by
  rw [bst_cons, if_neg (fun g => h g.1)]
theorem bst_old {n : Int} {s : Sp} {b : Sp} {r : List Sp} (h : ¬ s.2 < b.2) : bst n (some s) (b :: r) = bst n (some s) r := by
  rw [bst_cons, if_neg]
  rintro ⟨_, g | ⟨t, e, g⟩⟩
  · cases g
  · cases e; exact h g
end Bur
