/- Trees: put and dropped, found and above, each below just one or a root, chains. No program stands here. -/
import Derived.Test.YtfhidiedmenliaaGreatDoorTrMath
namespace Bur
open Go

theorem hs_self {p : Sp} : hs p p.1 = true := by
  have := sz_pos p.2
  rw [hs_iff]; omega
/-- Put, it can be dropped, is found, and can't be put again. -/
theorem put_back {l : List Sp} {p : Sp} (h : putF l p = 0) : putS l p = insT p l ∧ drpF (insT p l) p = 0 ∧ drpS (insT p l) p = l ∧ fndF (insT p l) p.1 = 0 ∧ p.2 ≤ (fndS (insT p l) p.1).2 ∧ putF (insT p l) p = 6 := by
  have hS : putS l p = insT p l := if_pos h
  unfold putF at h
  split at h
  · rename_i h1
    obtain ⟨t1, t2⟩ := tpF_ok h1
    obtain ⟨o1, o2⟩ := treF_ok t1
    split at h
    · omega
    · rename_i h2
      split at h
      · omega
      · rename_i h3
        have hn : p ∉ l := fun hx => h2 ((hasP_iff p l).2 hx)
        have hT : treF (insT p l) = 0 := treF_mk (by rw [insT_len]; omega) (insT_isT t2 o2 hn)
        have hm : hasP p (insT p l) = true := (hasP_iff p _).2 ((insT_mem p p l).2 (.inl rfl))
        have htp : tpF (insT p l) p = 0 := tpF_mk hT t2
        have hdF : drpF (insT p l) p = 0 := by unfold drpF; rw [if_pos htp, if_pos hm]
        have hA : isA p.1 = true := by
          obtain ⟨_, _, a0, a1, _⟩ := fault_ok t2
          exact isA_mk a0 a1
        obtain ⟨s1, s2⟩ := fnd_spec p.1 (insT p l) none (fun _ h => by cases h)
        have hmem : p ∈ insT p l := (insT_mem p p l).2 (.inl rfl)
        cases e : fnd p.1 none (insT p l) with
        | none =>
          have := (s2 e).2 p hmem
          rw [hs_self] at this; cases this
        | some x =>
          have hF : fndF (insT p l) p.1 = 0 := by unfold fndF; rw [if_pos hT, if_pos hA, e]; rfl
          have hx := (s1 x e).2.2.1 p hmem hs_self
          refine ⟨hS, hdF, ?_, hF, ?_, ?_⟩
          · unfold drpS; rw [if_pos hdF]; exact drp_ins hn
          · unfold fndS; rw [if_pos hF, e]; exact hx
          · unfold putF; rw [if_pos htp, if_pos hm]
  · contradiction
theorem fnd_ok {l : List Sp} {a : Int} (h : fndF l a = 0) : treF l = 0 ∧ isA a = true ∧ ∃ q, fnd a none l = some q ∧ fndS l a = q := by
  have hS : fndS l a = (fnd a none l).getD (0, 0) := if_pos h
  unfold fndF at h
  split at h
  · rename_i h1
    split at h
    · rename_i h2
      split at h
      · rename_i h3
        obtain ⟨q, hq⟩ := Option.isSome_iff_exists.1 h3
        exact ⟨h1, h2, q, hq, by rw [hS, hq]; rfl⟩
      · omega
    · omega
  · contradiction
theorem ok32 {a : Int} (h : isA a = true) : OkP (a, 32) := by
  show fault a 32 = 0
  exact fault_mk (by omega) (by omega) h (by rw [sz_32]; omega)
/-- The one that has an address is the last of those above it. -/
theorem fnd_last {l : List Sp} {a : Int} (h : fndF l a = 0) : tpF l (a, 32) = 0 ∧ ((fndS l a).2 < 32 → (abv l (a, 32)).getLast? = some (fndS l a)) := by
  obtain ⟨h1, h2, q, hq, hS⟩ := fnd_ok h
  obtain ⟨o1, o2⟩ := treF_ok h1
  have hk := ok32 h2
  refine ⟨tpF_mk h1 hk, fun hlt => ?_⟩
  rw [hS] at hlt ⊢
  obtain ⟨s1, s2, s3, _⟩ := (fnd_spec a l none (fun _ h => by cases h)).1 q hq
  have hql : q ∈ l := by
    rcases s2 with g | g
    · exact g
    · cases g
  have hmem : q ∈ abv l (a, 32) := (abv_mem o2 hk q).2 ⟨hql, by rw [← hs_in]; exact s1, hlt⟩
  have hr : (abv l (a, 32)).Pairwise (fun x y => x.2 < y.2) := abN_rise o2 _ _
  cases e : (abv l (a, 32)).getLast? with
  | none =>
    rw [List.getLast?_eq_none_iff] at e
    rw [e] at hmem; cases hmem
  | some x =>
    have hx : x ∈ abv l (a, 32) := List.mem_of_getLast? e
    obtain ⟨x1, x2, x3⟩ := (abv_mem o2 hk x).1 hx
    have hle : x.2 ≤ q.2 := s3 x x1 (by rw [hs_in]; exact x2)
    have hge : q.2 ≤ x.2 := by
      obtain ⟨ys, hys⟩ := List.getLast?_eq_some_iff.1 e
      rw [hys] at hmem hr
      rcases List.mem_append.1 hmem with g | g
      · have := (List.pairwise_append.1 hr).2.2 q g x (by simp)
        omega
      · rw [List.mem_singleton.1 g]; exact Int.le_refl _
    have := inP_eq (o2.2 x x1) (o2.2 q hql) x2 (by rw [← hs_in]; exact s1) (by omega)
    rw [this]

/-! Counting. -/
def tot (g : Sp → Nat) : List Sp → Nat
  | [] => 0
  | p :: r => g p + tot g r
theorem tot_add (g h : Sp → Nat) : ∀ l, tot (fun p => g p + h p) l = tot g l + tot h l
  | [] => rfl
  | p :: r => by simp only [tot, tot_add g h r]; omega
theorem tot_congr {g h : Sp → Nat} : ∀ {l : List Sp}, (∀ p ∈ l, g p = h p) → tot g l = tot h l
  | [], _ => rfl
  | p :: r, e => by simp only [tot]; rw [e p (by simp), tot_congr (fun q hq => e q (by simp [hq]))]
theorem tot_zero : ∀ l, tot (fun _ => 0) l = 0
  | [] => rfl
  | _ :: r => by simp [tot, tot_zero r]
theorem tot_one : ∀ l, tot (fun _ => 1) l = l.length
  | [] => rfl
  | _ :: r => by simp [tot, tot_one r]; omega
theorem tot_ind (f : Sp → Bool) : ∀ l, tot (fun q => if f q = true then 1 else 0) l = (l.filter f).length
  | [] => rfl
  | q :: r => by
    simp only [tot, tot_ind f r, List.filter_cons]
    split
    · simp; omega
    · simp
theorem tot_swap (R : Sp → Sp → Bool) (m : List Sp) : ∀ l, tot (fun p => (m.filter (R p)).length) l = tot (fun q => (l.filter (fun p => R p q)).length) m
  | [] => by simp only [tot, List.filter_nil, List.length_nil]; rw [tot_zero]
  | p :: r => by
    have e : ∀ q, ((p :: r).filter (fun p => R p q)).length = (if R p q = true then 1 else 0) + (r.filter (fun p => R p q)).length := fun q => by
      rw [List.filter_cons]
      split
      · simp; omega
      · simp
    simp only [tot, tot_swap R m r]
    rw [tot_congr (fun q _ => e q), tot_add, tot_ind]
theorem max_len (P : Sp → Bool) : ∀ {l : List Sp}, (∃ x ∈ l, P x = true) → ∃ x ∈ l, P x = true ∧ ∀ y ∈ l, P y = true → y.2 ≤ x.2
  | [], ⟨_, h, _⟩ => by cases h
  | q :: r, h => by
    by_cases hr : ∃ x ∈ r, P x = true
    · obtain ⟨x, hx, hp, hm⟩ := max_len P hr
      by_cases hq : P q = true ∧ x.2 < q.2
      · refine ⟨q, by simp, hq.1, fun y hy hp2 => ?_⟩
        rcases List.mem_cons.1 hy with rfl | hy
        · exact Int.le_refl _
        · have := hm y hy hp2; omega
      · refine ⟨x, by simp [hx], hp, fun y hy hp2 => ?_⟩
        rcases List.mem_cons.1 hy with rfl | hy
        · apply Int.not_lt.1; intro g; exact hq ⟨hp2, g⟩
        · exact hm y hy hp2
    · obtain ⟨x, hx, hp⟩ := h
      rcases List.mem_cons.1 hx with rfl | hx
      · refine ⟨x, by simp, hp, fun y hy hp2 => ?_⟩
        rcases List.mem_cons.1 hy with rfl | hy
        · exact Int.le_refl _
        · exact absurd ⟨y, hy, hp2⟩ hr
      · exact absurd ⟨x, hx, hp⟩ hr
theorem one_of {l : List Sp} (hn : l.Pairwise (fun x y => x ≠ y)) {f : Sp → Bool} {x : Sp} (hx : x ∈ l) (hf : ∀ y ∈ l, f y = true ↔ y = x) : (l.filter f).length = 1 := by
  induction l with
  | nil => cases hx
  | cons q r ih =>
    have hn' := List.pairwise_cons.1 hn
    rw [List.filter_cons]
    rcases List.mem_cons.1 hx with rfl | hx'
    · rw [if_pos ((hf x (by simp)).2 rfl)]
      have : r.filter f = [] := by
        rw [List.filter_eq_nil_iff]
        intro y hy hfy
        exact hn'.1 y hy ((hf y (by simp [hy])).1 hfy).symm
      rw [this]; rfl
    · have hq : ¬ f q = true := fun h => hn'.1 x hx' ((hf q (by simp)).1 h)
      rw [if_neg hq]
      exact ih hn'.2 hx' (fun y hy => hf y (by simp [hy]))
/-- Each is a root, or below just one. -/
theorem below_sum {l : List Sp} (h : treF l = 0) (p0 : Sp) : (blw l p0 true).length + tot (fun p => (blw l p false).length) l = l.length := by
  obtain ⟨o1, o2⟩ := treF_ok h
  have hnd : l.Pairwise (fun x y => x ≠ y) := o2.1.imp (fun h => ahd_ne h)
  have e1 : tot (fun p => (blw l p false).length) l = tot (fun q => (l.filter (fun p => (!sm q p && inP q p) && !hid l p false q)).length) l := by
    have := tot_swap (fun p q => (!sm q p && inP q p) && !hid l p false q) l l
    rw [← this]
    apply tot_congr
    intro p _
    simp [blw]
  have e2 : (blw l p0 true).length = tot (fun q => if (!hid l p0 true q) = true then 1 else 0) l := by
    rw [tot_ind]; simp [blw]
  rw [e1, e2, ← tot_add, ← tot_one l]
  apply tot_congr
  intro q hq
  by_cases hr : ∃ k ∈ l, (!sm k q && inP q k) = true
  · have hh : hid l p0 true q = true := by
      obtain ⟨k, hk, hk2⟩ := hr
      exact List.any_eq_true.2 ⟨k, hk, by simp [hk2]⟩
    rw [hh, if_neg (by simp)]
    obtain ⟨x, hx, hx2, hmax⟩ := max_len (fun k => !sm k q && inP q k) hr
    rw [Bool.and_eq_true] at hx2
    have hxq : x ≠ q := fun e => by rw [e, sm_self] at hx2; simp at hx2
    rw [one_of hnd hx]
    intro p hp
    constructor
    · intro hR
      rw [Bool.and_eq_true, Bool.and_eq_true] at hR
      obtain ⟨⟨r1, r2⟩, r3⟩ := hR
      have hpq : p ≠ q := fun e => by rw [e, sm_self] at r1; simp at r1
      have hpq' : sm p q = false := by
        cases e : sm p q with
        | false => rfl
        | true => exact absurd ((sm_iff p q).1 e) hpq
      have hle := hmax p hp (by simp [hpq', r2])
      have hin := inP_chain (o2.2 p hp) (o2.2 x hx) r2 hx2.2 hle
      apply Classical.byContradiction
      intro hne
      have hxp : sm x p = false := by
        cases e : sm x p with
        | false => rfl
        | true => exact absurd ((sm_iff x p).1 e).symm hne
      have : hid l p false q = true := List.any_eq_true.2 ⟨x, hx, by simp [hxp, hin, hx2.2]; simpa using hx2.1⟩
      rw [this] at r3; cases r3
    · rintro rfl
      have hqp : sm q p = false := by
        cases e : sm q p with
        | false => rfl
        | true => exact absurd ((sm_iff q p).1 e).symm hxq
      have hh2 : hid l p false q = false := by
        cases e : hid l p false q with
        | false => rfl
        | true =>
          exfalso
          obtain ⟨k, hk, hk2⟩ := List.any_eq_true.1 e
          simp only [Bool.false_or, Bool.and_eq_true] at hk2
          obtain ⟨⟨k1, k2⟩, k3, k4⟩ := hk2
          have g1 := hmax k hk (by simp [k1, k2])
          have g2 := inP_len (o2.2 k hk) (o2.2 p hx) k4
          have := inP_anti k4 (by omega)
          rw [this, sm_self] at k3; cases k3
      simp [hqp, hx2.2, hh2]
  · have hh : hid l p0 true q = false := by
      cases e : hid l p0 true q with
      | false => rfl
      | true =>
        exfalso
        obtain ⟨k, hk, hk2⟩ := List.any_eq_true.1 e
        simp only [Bool.true_or, Bool.and_true] at hk2
        exact hr ⟨k, hk, hk2⟩
    rw [hh, if_pos (by simp)]
    have : l.filter (fun p => (!sm q p && inP q p) && !hid l p false q) = [] := by
      rw [List.filter_eq_nil_iff]
      intro p hp hR
      rw [Bool.and_eq_true, Bool.and_eq_true] at hR
      have hpq : sm p q = false := by
        cases e : sm p q with
        | false => rfl
        | true =>
          have := hR.1.1
          rw [(sm_iff p q).1 e, sm_self] at this; cases this
      exact hr ⟨p, hp, by simp [hpq, hR.1.2]⟩
    rw [this]; rfl
/-- Those above are within one another. -/
theorem abv_chain {l : List Sp} {p : Sp} (h : tpF l p = 0) : (∀ x ∈ abv l p, OkP x ∧ inP p x = true) ∧ ∀ (i : Nat) (x y : Sp), (abv l p)[i]? = some x → (abv l p)[i + 1]? = some y → inP y x = true ∧ x.2 < y.2 := by
  obtain ⟨t1, t2⟩ := tpF_ok h
  obtain ⟨o1, o2⟩ := treF_ok t1
  have hm := fun x => abv_mem o2 t2 x
  refine ⟨fun x hx => ⟨o2.2 x ((hm x).1 hx).1, ((hm x).1 hx).2.1⟩, fun i x y hx hy => ?_⟩
  have hx' := (hm x).1 (List.mem_of_getElem? hx)
  have hy' := (hm y).1 (List.mem_of_getElem? hy)
  have hr : (abv l p).Pairwise (fun x y => x.2 < y.2) := abN_rise o2 _ _
  have hlt : x.2 < y.2 := by
    obtain ⟨hi, ex⟩ := List.getElem?_eq_some_iff.1 hx
    obtain ⟨hj, ey⟩ := List.getElem?_eq_some_iff.1 hy
    have := List.pairwise_iff_getElem.1 hr i (i + 1) hi hj (by omega)
    rw [ex, ey] at this
    exact this
  exact ⟨inP_chain (o2.2 x hx'.1) (o2.2 y hy'.1) hx'.2.1 hy'.2.1 (by omega), hlt⟩
/-- Who is below one has nothing between. -/
theorem blw_chain {l : List Sp} {p : Sp} (h : tpF l p = 0) {d : Sp} (hd : d ∈ blw l p false) : OkP d ∧ inP d p = true ∧ tpF l d = 0 ∧ ∀ k ∈ abv l d, OkP k ∧ (inP k p = true → k = p) := by
  obtain ⟨t1, t2⟩ := tpF_ok h
  obtain ⟨o1, o2⟩ := treF_ok t1
  obtain ⟨hdl, hd2⟩ := List.mem_filter.1 hd
  simp only [Bool.false_or, Bool.and_eq_true] at hd2
  obtain ⟨⟨d1, d2⟩, d3⟩ := hd2
  have hok := o2.2 d hdl
  refine ⟨hok, d2, tpF_mk t1 hok, fun k hk => ?_⟩
  obtain ⟨k1, k2, k3⟩ := (abv_mem o2 hok k).1 hk
  refine ⟨o2.2 k k1, fun hin => ?_⟩
  apply Classical.byContradiction
  intro hne
  have hkd : sm k d = false := by
    cases e : sm k d with
    | false => rfl
    | true => rw [(sm_iff k d).1 e] at k3; omega
  have hkp : sm k p = false := by
    cases e : sm k p with
    | false => rfl
    | true => exact absurd ((sm_iff k p).1 e) hne
  have : hid l p false d = true := List.any_eq_true.2 ⟨k, k1, by simp [hkd, hkp, k2, hin]⟩
  rw [this] at d3; cases d3
end Bur
