/- What the program makes of trees: what is kept of a list, and a place found by halving. No program stands here. -/
import Derived.Test.YtfhidiedmenliaaGreatDoorTrMath2
namespace Bur
open Go

/-- Is p within q, and not q itself? -/
def und (p q : Sp) : Bool := inP p q && !sm p q
theorem und_iff (p q : Sp) : und p q = true ↔ inP p q = true ∧ p ≠ q := by
  unfold und
  rw [Bool.and_eq_true, Bool.not_eq_true']
  constructor
  · rintro ⟨h, k⟩
    exact ⟨h, fun e => by rw [(sm_iff p q).2 e] at k; cases k⟩
  · rintro ⟨h, k⟩
    refine ⟨h, ?_⟩
    cases e : sm p q with
    | false => rfl
    | true => exact absurd ((sm_iff p q).1 e) k
theorem und_len {p q : Sp} (hp : OkP p) (hq : OkP q) : und p q = true ↔ inP p q = true ∧ q.2 < p.2 := by
  rw [und_iff]
  constructor
  · rintro ⟨h, k⟩
    refine ⟨h, ?_⟩
    have := inP_len hp hq h
    by_cases e : p.2 = q.2
    · exact absurd (inP_anti h e) k
    · omega
  · rintro ⟨h, k⟩
    exact ⟨h, fun e => by rw [e] at k; omega⟩
theorem sm_comm (p q : Sp) : sm p q = sm q p := by
  rw [Bool.eq_iff_iff, sm_iff, sm_iff]
  exact ⟨Eq.symm, Eq.symm⟩
/-- Two lists that rise, with the same members, are one. -/
theorem rise_eq : ∀ (l m : List Sp), l.Pairwise (fun x y => x.2 < y.2) → m.Pairwise (fun x y => x.2 < y.2) → (∀ x, x ∈ l ↔ x ∈ m) → l = m
  | [], [], _, _, _ => rfl
  | [], q :: m, _, _, h => by have := (h q).2 (by simp); cases this
  | q :: l, [], _, _, h => by have := (h q).1 (by simp); cases this
  | p :: l, q :: m, h1, h2, h => by
    have a1 := List.pairwise_cons.1 h1
    have a2 := List.pairwise_cons.1 h2
    have e : p = q := by
      rcases List.mem_cons.1 ((h p).1 (by simp)) with e | g
      · exact e
      · rcases List.mem_cons.1 ((h q).2 (by simp)) with e | k
        · exact e.symm
        · have := a2.1 p g
          have := a1.1 q k
          omega
    subst e
    congr 1
    refine rise_eq l m a1.2 a2.2 (fun x => ?_)
    have hx := h x
    rw [List.mem_cons, List.mem_cons] at hx
    constructor
    · intro g
      rcases hx.1 (.inr g) with e | k
      · subst e; have := a1.1 x g; omega
      · exact k
    · intro g
      rcases hx.2 (.inr g) with e | k
      · subst e; have := a2.1 x g; omega
      · exact k
/-- Those of a tree that have one prefix within them rise by their lengths. -/
theorem keep_rise {l : List Sp} (hl : IsT l) {p : Sp} {f : Sp → Bool} (hf : ∀ q, f q = true → inP p q = true) : (l.filter f).Pairwise (fun x y => x.2 < y.2) := by
  have h1 := List.Pairwise.filter f hl.1
  refine List.Pairwise.imp_of_mem (R := fun x y => ahd x y = true) ?_ h1
  intro x y hx hy h
  rw [List.mem_filter] at hx hy
  apply Int.not_le.1
  intro hle
  have := inP_chain (hl.2 y hy.1) (hl.2 x hx.1) (hf y hy.2) (hf x hx.2) hle
  rw [inP_iff] at this
  rw [ahd_iff] at h
  omega
theorem abv_keep {l : List Sp} {p : Sp} (hl : IsT l) (hp : OkP p) : l.filter (fun q => und p q) = abv l p := by
  refine rise_eq _ _ (keep_rise hl (p := p) (fun q h => ((und_iff p q).1 h).1)) (abN_rise hl _ _) (fun x => ?_)
  rw [List.mem_filter, abv_mem hl hp]
  constructor
  · rintro ⟨h1, h2⟩
    exact ⟨h1, (und_len hp (hl.2 x h1)).1 h2⟩
  · rintro ⟨h1, h2⟩
    exact ⟨h1, (und_len hp (hl.2 x h1)).2 h2⟩
/-- Those of a list that are within no other one of it. -/
def rts (m : List Sp) : List Sp := m.filter fun q => !m.any fun r => und q r
theorem blw_keep (l : List Sp) (p : Sp) : rts (l.filter fun q => und q p) = blw l p false := by
  unfold rts blw
  rw [List.filter_filter]
  apply List.filter_congr
  intro q _
  rw [List.any_filter]
  unfold hid und
  simp only [Bool.false_or]
  rw [Bool.and_comm]
  congr 1
  · rw [Bool.and_comm]
  · congr 1
    congr 1
    funext k
    rw [sm_comm q k, Bool.and_comm]
    congr 1
    · rw [Bool.and_comm]
    · rw [Bool.and_comm]
theorem rts_keep (l : List Sp) (p : Sp) : rts l = blw l p true := by
  unfold rts blw
  apply List.filter_congr
  intro q _
  unfold hid und
  simp only [Bool.true_or, Bool.and_true, Bool.true_and]
  congr 1
  congr 1
  funext k
  rw [sm_comm q k, Bool.and_comm]
/-- What has an address. -/
theorem has_keep (a : Int) (q : Sp) : (sm q (a, 32) || und (a, 32) q) = hs q a := by
  rw [hs_in, Bool.eq_iff_iff, Bool.or_eq_true, sm_iff, und_iff]
  constructor
  · rintro (rfl | h)
    · exact inP_refl _
    · exact h.1
  · intro h
    by_cases e : q = (a, 32)
    · exact .inl e
    · exact .inr ⟨h, fun k => e k.symm⟩
theorem fnd_keep {l : List Sp} (hl : IsT l) (a : Int) : fnd a none l = (l.filter fun q => hs q a).getLast? := by
  obtain ⟨s1, s2⟩ := fnd_spec a l none (fun b hb => by cases hb)
  cases hf : fnd a none l with
  | none =>
    have h := (s2 hf).2
    rw [show l.filter (fun q => hs q a) = [] from List.filter_eq_nil_iff.2 (fun y hy => by rw [h y hy]; simp)]
    rfl
  | some x =>
    obtain ⟨h1, h2, h3, _⟩ := s1 x hf
    have h2' : x ∈ l := by
      rcases h2 with h | h
      · exact h
      · cases h
    have hr := keep_rise hl (p := (a, 32)) (f := fun q => hs q a) (fun q h => by rw [← hs_in]; exact h)
    have hm : x ∈ l.filter fun q => hs q a := List.mem_filter.2 ⟨h2', h1⟩
    cases hL : (l.filter fun q => hs q a).getLast? with
    | none => rw [List.getLast?_eq_none_iff] at hL; rw [hL] at hm; cases hm
    | some y =>
      have hym := List.mem_of_getLast? hL
      rw [List.mem_filter] at hym
      have hle := h3 y hym.1 hym.2
      obtain ⟨ys, hys⟩ := List.getLast?_eq_some_iff.1 hL
      rw [hys] at hm hr
      rcases List.mem_append.1 hm with g | g
      · have := (List.pairwise_append.1 hr).2.2 x g y (by simp)
        omega
      · rw [List.mem_singleton] at g
        rw [g]

/-- How two prefixes stand. -/
def cmI (a b : Int) : Int := if a < b then -1 else if b < a then 1 else 0
def ordP (p q : Sp) : Int := if cmI p.1 q.1 = 0 then cmI p.2 q.2 else cmI p.1 q.1
theorem cmI_0 (a b : Int) : cmI a b = 0 ↔ a = b := by unfold cmI; (repeat' split) <;> omega
theorem cmI_lt (a b : Int) : cmI a b < 0 ↔ a < b := by unfold cmI; (repeat' split) <;> omega
theorem cmI_bd (a b : Int) : -1 ≤ cmI a b ∧ cmI a b ≤ 1 := by unfold cmI; (repeat' split) <;> omega
theorem ordP_bd (p q : Sp) : -1 ≤ ordP p q ∧ ordP p q ≤ 1 := by unfold ordP; split <;> exact cmI_bd _ _
theorem ordP_0 (p q : Sp) : ordP p q = 0 ↔ p = q := by
  unfold ordP
  split
  · rename_i h
    rw [cmI_0] at h ⊢
    exact ⟨fun k => Prod.ext h k, fun k => by rw [k]⟩
  · rename_i h
    constructor
    · intro k; exact absurd k h
    · rintro rfl; exact absurd ((cmI_0 _ _).2 rfl) h
theorem ordP_lt (p q : Sp) : ordP p q < 0 ↔ ahd p q = true := by
  rw [ahd_iff]
  unfold ordP
  split
  · rename_i h
    rw [cmI_0] at h
    rw [cmI_lt]
    omega
  · rename_i h
    rw [cmI_0] at h
    rw [cmI_lt]
    omega
theorem ordP_ge (p q : Sp) : 0 ≤ ordP p q ↔ ahd p q = false := by
  have := ordP_lt p q
  cases h : ahd p q with
  | true => rw [h] at this; simp at this ⊢; omega
  | false => rw [h] at this; simp at this ⊢; omega

/-- The first of two that is not 0. -/
def orI (x y : Int) : Int := if x = 0 then y else x
theorem orI_0 (y : Int) : orI 0 y = y := rfl
theorem orI_ne {x : Int} (h : x ≠ 0) (y : Int) : orI x y = x := if_neg h
theorem ordP_or (p q : Sp) : orI (cmI p.1 q.1) (cmI p.2 q.2) = ordP p q := rfl
/-- A place: all ahead of it stand ahead of p, none behind it does. -/
def AtP (l : List Sp) (p : Sp) (i j : Nat) : Prop := (∀ t, t < i → ahd (l.getD t (0, 0)) p = true) ∧ ∀ t, j ≤ t → t < l.length → ahd (l.getD t (0, 0)) p = false
theorem isT_get {l : List Sp} (hl : IsT l) {s t : Nat} (h : s < t) (ht : t < l.length) : ahd (l.getD s (0, 0)) (l.getD t (0, 0)) = true := by
  have := List.pairwise_iff_getElem.1 hl.1 s t (by omega) ht h
  simpa [List.getD, List.getElem?_eq_getElem ht, List.getElem?_eq_getElem (show s < l.length by omega)] using this
theorem AtP.up {l : List Sp} (hl : IsT l) {p : Sp} {i j h : Nat} (g : AtP l p i j) (hh : h < l.length) (ha : ahd (l.getD h (0, 0)) p = true) : AtP l p (h + 1) j := by
  refine ⟨fun t ht => ?_, g.2⟩
  by_cases e : t = h
  · rw [e]; exact ha
  · exact ahd_trans (isT_get hl (show t < h by omega) hh) ha
theorem AtP.down {l : List Sp} (hl : IsT l) {p : Sp} {i j h : Nat} (g : AtP l p i j) (ha : ahd (l.getD h (0, 0)) p = false) : AtP l p i h := by
  refine ⟨g.1, fun t ht ht2 => ?_⟩
  by_cases e : t = h
  · rw [e]; exact ha
  · cases k : ahd (l.getD t (0, 0)) p with
    | false => rfl
    | true => rw [ahd_trans (isT_get hl (show h < t by omega) ht2) k] at ha; cases ha
/-- Is p there, it is at its place. -/
theorem AtP.has {l : List Sp} (hl : IsT l) {p : Sp} {i : Nat} (g : AtP l p i i) : hasP p l = (decide (i < l.length) && decide (l.getD i (0, 0) = p)) := by
  rw [Bool.eq_iff_iff, hasP_iff, Bool.and_eq_true, decide_eq_true_eq, decide_eq_true_eq]
  constructor
  · intro h
    obtain ⟨t, ht, e⟩ := List.mem_iff_getElem.1 h
    have e' : l.getD t (0, 0) = p := by simpa [List.getD, List.getElem?_eq_getElem ht] using e
    have h1 : ¬ t < i := fun k => by
      have := g.1 t k
      rw [e'] at this
      exact ahd_ne this rfl
    have h2 : ¬ i < t := fun k => by
      have a := isT_get hl k ht
      rw [e', g.2 i (Nat.le_refl _) (by omega)] at a
      cases a
    have : t = i := by omega
    subst this
    exact ⟨ht, e'⟩
  · rintro ⟨h1, h2⟩
    rw [← h2]
    simp [List.getD, List.getElem?_eq_getElem h1]
theorem AtP.ins : ∀ {l : List Sp} {p : Sp} {i : Nat}, AtP l p i i → i ≤ l.length → p ∉ l → insT p l = l.take i ++ p :: l.drop i
  | [], p, i, _, h, _ => by
    have : i = 0 := by simpa using h
    subst this
    rfl
  | q :: r, p, 0, g, _, hn => by
    have h : ahd q p = false := g.2 0 (Nat.le_refl _) (by simp)
    rw [insT, if_pos (ahd_or (fun e => hn (by rw [← e]; simp)) h)]
    rfl
  | q :: r, p, i + 1, g, h, hn => by
    have h0 : ahd q p = true := g.1 0 (by omega)
    have hnot : ¬ ahd p q = true := fun k => ahd_ne (ahd_trans h0 k) rfl
    rw [insT, if_neg hnot]
    have := AtP.ins (l := r) (p := p) (i := i) ⟨fun t ht => g.1 (t + 1) (by omega), fun t ht ht2 => g.2 (t + 1) (by omega) (by simpa using ht2)⟩ (by simpa using h) (fun k => hn (by simp [k]))
    rw [this]
    rfl
/-- What the questions answer, faults too. -/
def abvS (l : List Sp) (p : Sp) : List Sp := if tpF l p = 0 then abv l p else []
def blwS (l : List Sp) (p : Sp) : List Sp := if tpF l p = 0 then blw l p false else []
def rtsS (l : List Sp) : List Sp := if treF l = 0 then rts l else []
end Bur
