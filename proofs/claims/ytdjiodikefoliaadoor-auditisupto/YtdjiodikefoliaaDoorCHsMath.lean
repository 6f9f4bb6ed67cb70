/- Single addresses of a prefix: which may be given away, the least that is not used, how many are. No program stands here. -/
import Derived.Test.YtdjiodikefoliaaDoorCQE
namespace Bur
open Go

/-- What may be given away. -/
def usa (p : Sp) : Sp := if 30 < p.2 then (p.1, p.1 + sz p.2 - 1) else (p.1 + 1, p.1 + sz p.2 - 2)
theorem usa_in {p : Sp} (h : OkP p) : 0 ≤ (usa p).1 ∧ (usa p).1 ≤ (usa p).2 ∧ (usa p).2 ≤ 4294967295 := by
  obtain ⟨a, b, c, d, e⟩ := h.parts
  have hz := sz_pos p.2
  unfold usa
  split
  · exact ⟨c, by show p.1 ≤ p.1 + sz p.2 - 1; omega, by show p.1 + sz p.2 - 1 ≤ _; omega⟩
  · rename_i hn
    have h4 : (4 : Int) ≤ sz p.2 := by
      have := pw_le (j := 2) (k := (32 - p.2).toNat) (by omega)
      rw [pw_sz]
      exact this
    exact ⟨by show 0 ≤ p.1 + 1; omega, by show p.1 + 1 ≤ p.1 + sz p.2 - 2; omega, by show p.1 + sz p.2 - 2 ≤ _; omega⟩
/-- What Usable answers. -/
def usS (p : Sp) : Sp := if fault p.1 p.2 = 0 then usa p else (0, 0)
/-- Are all addresses? -/
def adF : List Int → Int
  | [] => 0
  | a :: r => if isA a = true then adF r else 1
def usF (p : Sp) (u : List Int) : Int := if fault p.1 p.2 = 0 then (if 200 < u.length then 3 else adF u) else fault p.1 p.2
theorem adF_ok : ∀ {u : List Int}, adF u = 0 → ∀ a ∈ u, isA a = true
  | x :: r, h, a, ha => by
    rw [adF] at h
    split at h
    · rename_i e
      rcases List.mem_cons.1 ha with rfl | ha
      · exact e
      · exact adF_ok h a ha
    · cases h
theorem adF_mk : ∀ {u : List Int}, (∀ a ∈ u, isA a = true) → adF u = 0
  | [], _ => rfl
  | x :: r, h => by rw [adF, if_pos (h x (by simp)), adF_mk (fun a ha => h a (by simp [ha]))]
theorem usF_ok {p : Sp} {u : List Int} (h : usF p u = 0) : OkP p ∧ u.length ≤ 200 ∧ ∀ a ∈ u, isA a = true := by
  unfold usF at h
  split at h
  · rename_i e
    split at h
    · cases h
    · exact ⟨e, by omega, adF_ok h⟩
  · rename_i e; exact absurd h e
theorem usF_mk {p : Sp} {u : List Int} (h1 : OkP p) (h2 : u.length ≤ 200) (h3 : ∀ a ∈ u, isA a = true) : usF p u = 0 := by
  unfold usF
  rw [if_pos (show fault p.1 p.2 = 0 from h1), if_neg (by omega), adF_mk h3]
/-- The least that is not used. -/
def nxN (u : List Int) : Nat → Int → Option Int
  | 0, _ => none
  | k + 1, a => if a ∈ u then nxN u k (a + 1) else some a
def nxt (p : Sp) (u : List Int) : Option Int := nxN u ((usa p).2 - (usa p).1 + 1).toNat (usa p).1
theorem nxN_some (u : List Int) : ∀ (k : Nat) (a b : Int), nxN u k a = some b → a ≤ b ∧ b < a + k ∧ b ∉ u ∧ ∀ x, a ≤ x → x < b → x ∈ u
  | 0, _, _, h => by cases h
  | k + 1, a, b, h => by
    rw [nxN] at h
    split at h
    · rename_i e
      obtain ⟨h1, h2, h3, h4⟩ := nxN_some u k (a + 1) b h
      refine ⟨by omega, by omega, h3, fun x g1 g2 => ?_⟩
      by_cases c : x = a
      · rw [c]; exact e
      · exact h4 x (by omega) g2
    · rename_i e
      cases h
      exact ⟨Int.le_refl _, by omega, e, fun x g1 g2 => by omega⟩
theorem nxN_none (u : List Int) : ∀ (k : Nat) (a : Int), nxN u k a = none → ∀ x, a ≤ x → x < a + k → x ∈ u
  | 0, _, _, x, h1, h2 => by omega
  | k + 1, a, h, x, h1, h2 => by
    rw [nxN] at h
    split at h
    · rename_i e
      by_cases c : x = a
      · rw [c]; exact e
      · exact nxN_none u k (a + 1) h x (by omega) (by omega)
    · cases h
/-- How many of lo to hi there are in a list, each counted once; some were seen. -/
def shr (lo hi : Int) : List Int → List Int → Int
  | _, [] => 0
  | seen, x :: r => (if lo ≤ x ∧ x ≤ hi ∧ x ∉ seen then 1 else 0) + shr lo hi (seen ++ [x]) r
theorem ct_put {p q : Int → Bool} : ∀ (n : Nat) (a x : Int), a ≤ x → x < a + n → p x = false → q x = true → (∀ y, y ≠ x → p y = q y) → ct q a n = ct p a n + 1
  | 0, a, x, h1, h2, _, _, _ => by omega
  | n + 1, a, x, h1, h2, hp, hq, h => by
    rw [ct, ct]
    by_cases c : x = a
    · subst c
      rw [hp, hq, ct_congr (p := q) (q := p) n (x + 1) (fun y g1 _ => (h y (by omega)).symm)]
      simp
      omega
    · rw [h a (fun g => c g.symm), ct_put n (a + 1) x (by omega) (by omega) hp hq h]
      omega
theorem shr_ct (lo hi : Int) : ∀ (r seen : List Int), shr lo hi seen r + ct (fun x => decide (x ∈ seen)) lo (hi - lo + 1).toNat = ct (fun x => decide (x ∈ seen ++ r)) lo (hi - lo + 1).toNat
  | [], seen => by rw [shr, List.append_nil]; omega
  | x :: r, seen => by
    have ih := shr_ct lo hi r (seen ++ [x])
    rw [shr]
    rw [List.append_assoc, List.singleton_append] at ih
    rw [← ih]
    by_cases c : lo ≤ x ∧ x ≤ hi ∧ x ∉ seen
    · rw [if_pos c, ct_put (p := fun y => decide (y ∈ seen)) (q := fun y => decide (y ∈ seen ++ [x])) _ lo x c.1 (by omega) (by simp [c.2.2]) (by simp) (fun y hy => by simp [hy])]
      omega
    · rw [if_neg c, ct_congr (p := fun y => decide (y ∈ seen)) (q := fun y => decide (y ∈ seen ++ [x])) _ lo (fun y g1 g2 => ?_)]
      · omega
      · by_cases e : y = x
        · subst e
          have : y ∈ seen := Classical.byContradiction fun hn => c ⟨g1, by omega, hn⟩
          simp [this]
        · simp [e]
theorem shr_all (lo hi : Int) (u : List Int) : shr lo hi [] u = ct (fun x => decide (x ∈ u)) lo (hi - lo + 1).toNat := by
  have h := shr_ct lo hi u []
  rw [show (fun x : Int => decide (x ∈ ([] : List Int))) = fun _ => false from by funext x; simp, ct_no, List.nil_append] at h
  omega
/-- How many are used, of a prefix. -/
def shp (p : Sp) (u : List Int) : Int := shr (usa p).1 (usa p).2 [] u
def alp (p : Sp) : Int := (usa p).2 - (usa p).1 + 1
theorem shp_none {p : Sp} {u : List Int} (hp : OkP p) (h : nxt p u = none) : shp p u = alp p := by
  have hu := usa_in hp
  unfold shp alp
  rw [shr_all, ct_congr (q := fun _ => true) _ _ (fun x g1 g2 => decide_eq_true (nxN_none u _ _ h x g1 g2)), ct_all]
  omega
theorem ct_le (p : Int → Bool) : ∀ (n : Nat) (a : Int), ct p a n ≤ n
  | 0, _ => by simp [ct]
  | n + 1, a => by
    have := ct_le p n (a + 1)
    rw [ct]
    split <;> omega
/-- The next is usable and not used; used, too, one more is used, and the next is behind it. -/
theorem nxt_some {p : Sp} {u : List Int} {a : Int} (hp : OkP p) (h : nxt p u = some a) :
    (usa p).1 ≤ a ∧ a ≤ (usa p).2 ∧ a ∉ u ∧ shp p u < alp p ∧ shp p (u ++ [a]) = shp p u + 1 ∧ ∀ b, nxt p (u ++ [a]) = some b → a < b := by
  have hu := usa_in hp
  obtain ⟨h1, h2, h3, h4⟩ := nxN_some u _ _ a h
  have h5 : shp p (u ++ [a]) = shp p u + 1 := by
    unfold shp
    rw [shr_all, shr_all]
    exact ct_put _ _ a h1 (by omega) (by simp [h3]) (by simp) (fun y hy => by simp [hy])
  have h6 : shp p (u ++ [a]) ≤ alp p := by
    unfold shp alp
    rw [shr_all]
    have := ct_le (fun x => decide (x ∈ u ++ [a])) ((usa p).2 - (usa p).1 + 1).toNat (usa p).1
    omega
  refine ⟨h1, by omega, h3, by omega, h5, fun b hb => ?_⟩
  obtain ⟨g1, g2, g3, g4⟩ := nxN_some (u ++ [a]) _ _ b hb
  apply Int.not_le.1
  intro hle
  by_cases c : b = a
  · exact g3 (by simp [c])
  · exact g3 (by simp [h4 b g1 (by omega)])
/-- Enough places are looked at: what is not found among more than there are is not there. -/
theorem nxN_far (u : List Int) : ∀ (k : Nat) (a : Int), u.length < k → (nxN u k a).isSome = true := fun k a hk => by
  cases e : nxN u k a with
  | some b => rfl
  | none =>
    have h := nxN_none u k a e
    have hl := len_le ((List.range k).map fun (i : Nat) => a + (i : Int)) u (by
      rw [List.pairwise_map]
      exact List.pairwise_lt_range.imp (fun {i j} hij => by omega)) (fun x hx => by
      obtain ⟨i, hi, rfl⟩ := List.mem_map.1 hx
      rw [List.mem_range] at hi
      exact h _ (by omega) (by omega))
    simp at hl
    omega
/-- Those of a list that may be given away. -/
def tk (lo hi : Int) (u : List Int) : List Int := u.filter fun x => decide (lo ≤ x) && decide (x ≤ hi)
theorem mem_tk {lo hi x : Int} {u : List Int} : x ∈ tk lo hi u ↔ x ∈ u ∧ lo ≤ x ∧ x ≤ hi := by simp [tk]
theorem tk_snoc (lo hi x : Int) (u : List Int) : tk lo hi (u ++ [x]) = if lo ≤ x ∧ x ≤ hi then tk lo hi u ++ [x] else tk lo hi u := by
  unfold tk
  rw [List.filter_append]
  by_cases h : lo ≤ x ∧ x ≤ hi
  · rw [if_pos h]; simp [h.1, h.2]
  · rw [if_neg h]
    have : (decide (lo ≤ x) && decide (x ≤ hi)) = false := by
      rw [Bool.and_eq_false_iff, decide_eq_false_iff_not, decide_eq_false_iff_not]
      exact Decidable.not_and_iff_or_not.1 h
    simp [this]
/-- One more, if it is not there yet. -/
def addI (acc : List Int) (x : Int) : List Int := if x ∈ acc then acc else acc ++ [x]
theorem tk_len (lo hi : Int) : ∀ (u seen acc : List Int), (∀ x, lo ≤ x → x ≤ hi → (x ∈ seen ↔ x ∈ acc)) → (((tk lo hi u).foldl addI acc).length : Int) = acc.length + shr lo hi seen u
  | [], seen, acc, _ => by simp [tk, shr]
  | x :: r, seen, acc, h => by
    rw [shr]
    by_cases c : lo ≤ x ∧ x ≤ hi
    · have e : tk lo hi (x :: r) = x :: tk lo hi r := by simp [tk, c.1, c.2]
      rw [e, List.foldl_cons]
      by_cases m : x ∈ seen
      · have ih := tk_len lo hi r (seen ++ [x]) acc (fun y g1 g2 => by rw [List.mem_append, ← h y g1 g2, List.mem_singleton]; exact ⟨fun g => g.elim id (fun g => g ▸ m), Or.inl⟩)
        rw [if_neg (fun g => g.2.2 m), addI, if_pos ((h x c.1 c.2).1 m), ih]; omega
      · have m' : x ∉ acc := fun g => m ((h x c.1 c.2).2 g)
        have ih := tk_len lo hi r (seen ++ [x]) (acc ++ [x]) (fun y g1 g2 => by rw [List.mem_append, List.mem_append, h y g1 g2])
        rw [if_pos ⟨c.1, c.2, m⟩, addI, if_neg m', ih]
        simp; omega
    · have e : tk lo hi (x :: r) = tk lo hi r := by
        have : (decide (lo ≤ x) && decide (x ≤ hi)) = false := by
          rw [Bool.and_eq_false_iff, decide_eq_false_iff_not, decide_eq_false_iff_not]
          exact Decidable.not_and_iff_or_not.1 c
        simp [tk, this]
      have ih := tk_len lo hi r (seen ++ [x]) acc (fun y g1 g2 => by
        rw [← h y g1 g2, List.mem_append]
        constructor
        · rintro (g | g)
          · exact g
          · simp at g; subst g; exact absurd ⟨g1, g2⟩ c
        · exact Or.inl)
      rw [e, if_neg (fun g => c ⟨g.1, g.2.1⟩), ih]; omega
theorem tk_all (p : Sp) (u : List Int) : (((tk (usa p).1 (usa p).2 u).foldl addI []).length : Int) = shp p u := by
  rw [tk_len _ _ u [] [] (fun _ _ _ => Iff.rfl)]
  simp [shp]
/-- What the next one is, seen from any address on. -/
theorem nxN_tk {lo hi a : Int} {u : List Int} (h1 : lo ≤ a) (h2 : a ≤ hi) : nxN u (hi - a + 1).toNat a = if a ∈ tk lo hi u then nxN u (hi - (a + 1) + 1).toNat (a + 1) else some a := by
  rw [show (hi - a + 1).toNat = (hi - (a + 1) + 1).toNat + 1 from by omega, nxN]
  by_cases c : a ∈ u
  · rw [if_pos c, if_pos (mem_tk.2 ⟨c, h1, h2⟩)]
  · rw [if_neg c, if_neg (fun g => c (mem_tk.1 g).1)]
/-- What Next answers. -/
def nxF (p : Sp) (u : List Int) : Int := if usF p u = 0 then (if (nxt p u).isSome = true then 0 else 4) else usF p u
def nxS (p : Sp) (u : List Int) : Int := if usF p u = 0 then (nxt p u).getD 0 else 0
/-- What Share answers. -/
def shS (p : Sp) (u : List Int) : Int := if usF p u = 0 then shp p u else 0
def shA (p : Sp) (u : List Int) : Int := if usF p u = 0 then alp p else 0
end Bur
