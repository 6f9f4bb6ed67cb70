/- Trees of prefixes as lists: what is within what, faults, one more, one less, what has an address, above, below. No program stands here. -/
import Derived.Test.YtfhidiedmenliaaGreatDoorCvMath2
namespace Bur
open Go

/-- Is one prefix within the other? -/
def inP (p q : Sp) : Bool := inB p.1 p.2 q.1 q.2
theorem inP_iff (p q : Sp) : inP p q = true ↔ q.1 ≤ p.1 ∧ p.1 + sz p.2 ≤ q.1 + sz q.2 := by simp [inP, inB]
theorem inP_refl (p : Sp) : inP p p = true := (inP_iff _ _).2 ⟨Int.le_refl _, Int.le_refl _⟩
theorem inP_trans {p q r : Sp} (h : inP p q = true) (k : inP q r = true) : inP p r = true := by
  rw [inP_iff] at *; omega
theorem inP_len {p q : Sp} (hp : OkP p) (hq : OkP q) (h : inP p q = true) : q.2 ≤ p.2 := by
  obtain ⟨a1, a2, _, _, _⟩ := hp.parts
  obtain ⟨b1, b2, _, _, _⟩ := hq.parts
  rw [inP_iff] at h
  apply Int.not_lt.1
  intro hlt
  have := sz_lt b2 hlt
  omega
theorem sz_dvd {l l2 : Int} (h1 : l ≤ 32) (h : l2 ≤ l) : sz l ∣ sz l2 := ⟨_, sz_mul h1 h⟩
theorem sz_ge {l l2 : Int} (h1 : l ≤ 32) (h : l2 ≤ l) : sz l ≤ sz l2 := Int.le_of_dvd (sz_pos _) (sz_dvd h1 h)
/-- Who is within two, of these the one is within the other. -/
theorem inP_chain {p q r : Sp} (hq : OkP q) (hr : OkP r) (h1 : inP p q = true) (h2 : inP p r = true) (hl : q.2 ≤ r.2) : inP r q = true := by
  obtain ⟨q1, q2, q3, q4, q5⟩ := hq.parts
  obtain ⟨r1, r2, r3, r4, r5⟩ := hr.parts
  rw [inP_iff] at *
  have hp := sz_pos p.2
  have hsr := sz_pos r.2
  have hd : sz r.2 ∣ sz q.2 := sz_dvd r2 hl
  have hqd : sz r.2 ∣ q.1 := Int.dvd_trans hd q5
  constructor
  · apply Int.not_lt.1
    intro hlt
    have := apart hsr r5 hqd hlt
    omega
  · exact apart hsr r5 (Int.dvd_add hqd hd) (by omega)
theorem inP_anti {p q : Sp} (h : inP p q = true) (hl : p.2 = q.2) : p = q := by
  rw [inP_iff, hl] at h
  exact Prod.ext (by omega) hl
theorem inP_eq {p q r : Sp} (hq : OkP q) (hr : OkP r) (h1 : inP p q = true) (h2 : inP p r = true) (hl : q.2 = r.2) : q = r :=
  (inP_anti (inP_chain hq hr h1 h2 (by omega)) hl.symm).symm

/-- Which stands ahead? -/
def ahd (p q : Sp) : Bool := decide (p.1 < q.1) || (decide (p.1 = q.1) && decide (p.2 < q.2))
theorem ahd_iff (p q : Sp) : ahd p q = true ↔ p.1 < q.1 ∨ (p.1 = q.1 ∧ p.2 < q.2) := by simp [ahd]
theorem ahd_trans {p q r : Sp} (h : ahd p q = true) (k : ahd q r = true) : ahd p r = true := by
  rw [ahd_iff] at *; omega
theorem ahd_ne {p q : Sp} (h : ahd p q = true) : p ≠ q := by
  rintro rfl
  rw [ahd_iff] at h; omega
theorem ahd_or {p q : Sp} (h : p ≠ q) (k : ahd p q = false) : ahd q p = true := by
  rw [ahd_iff]
  have k' : ¬ (p.1 < q.1 ∨ (p.1 = q.1 ∧ p.2 < q.2)) := fun g => by rw [(ahd_iff p q).2 g] at k; cases k
  by_cases g : p.1 = q.1
  · by_cases g2 : p.2 = q.2
    · exact absurd (Prod.ext g g2) h
    · omega
  · omega
/-- May p stand behind one that may be there? -/
def okc : Option Sp → Sp → Bool
  | none, _ => true
  | some q, p => ahd q p
/-- The first fault of a tree, behind one that may be there. -/
def tF : Option Sp → List Sp → Int
  | _, [] => 0
  | c, p :: r => if fault p.1 p.2 = 0 then (if okc c p = true then tF (some p) r else 2) else fault p.1 p.2
theorem tF_cons (c : Option Sp) (p : Sp) (r : List Sp) : tF c (p :: r) = if fault p.1 p.2 = 0 then (if okc c p = true then tF (some p) r else 2) else fault p.1 p.2 := by cases c <;> rfl
def treF (l : List Sp) : Int := if 60 < l.length then 3 else tF none l
/-- Prefixes that rise. -/
def IsT (l : List Sp) : Prop := l.Pairwise (fun p q => ahd p q = true) ∧ ∀ p ∈ l, OkP p
theorem tF_ok : ∀ {l : List Sp} {c : Option Sp}, tF c l = 0 → IsT l ∧ ∀ q, c = some q → ∀ p ∈ l, ahd q p = true
  | [], _, _ => ⟨⟨List.Pairwise.nil, fun _ h => by cases h⟩, fun _ _ _ h => by cases h⟩
  | p :: r, c, h => by
    rw [tF_cons] at h
    split at h
    · rename_i h1
      split at h
      · rename_i h2
        obtain ⟨⟨i1, i2⟩, i3⟩ := tF_ok h
        have i3' := i3 p rfl
        refine ⟨⟨List.pairwise_cons.2 ⟨i3', i1⟩, fun x hx => ?_⟩, ?_⟩
        · rcases List.mem_cons.1 hx with rfl | hx
          · exact h1
          · exact i2 x hx
        · rintro q rfl x hx
          rcases List.mem_cons.1 hx with rfl | hx
          · exact h2
          · exact ahd_trans h2 (i3' x hx)
      · omega
    · contradiction
theorem tF_mk : ∀ {l : List Sp} {c : Option Sp}, IsT l → (∀ q, c = some q → ∀ p ∈ l, ahd q p = true) → tF c l = 0
  | [], _, _, _ => rfl
  | p :: r, c, ⟨h1, h2⟩, h3 => by
    have h1' := List.pairwise_cons.1 h1
    have e : okc c p = true := by
      cases c with
      | none => rfl
      | some q => exact h3 q rfl p (by simp)
    rw [tF_cons, if_pos (show fault p.1 p.2 = 0 from h2 p (by simp)), if_pos e]
    exact tF_mk ⟨h1'.2, fun x hx => h2 x (by simp [hx])⟩ (fun q hq x hx => by cases hq; exact h1'.1 x hx)
theorem treF_ok {l : List Sp} (h : treF l = 0) : l.length ≤ 60 ∧ IsT l := by
  unfold treF at h
  split at h
  · omega
  · exact ⟨by omega, (tF_ok h).1⟩
theorem treF_mk {l : List Sp} (h : l.length ≤ 60) (h1 : IsT l) : treF l = 0 := by
  unfold treF
  rw [if_neg (by omega)]
  exact tF_mk h1 (fun _ h => by cases h)
/-- A tree's fault, then a prefix'. -/
def tpF (l : List Sp) (p : Sp) : Int := if treF l = 0 then fault p.1 p.2 else treF l
theorem tpF_ok {l : List Sp} {p : Sp} (h : tpF l p = 0) : treF l = 0 ∧ OkP p := by
  unfold tpF at h
  split at h
  · rename_i h1; exact ⟨h1, h⟩
  · contradiction
theorem tpF_mk {l : List Sp} {p : Sp} (h : treF l = 0) (h1 : OkP p) : tpF l p = 0 := by
  unfold tpF; rw [if_pos h]; exact h1
/-- One more, at its place. -/
def insT (p : Sp) : List Sp → List Sp
  | [] => [p]
  | q :: r => if ahd p q = true then p :: q :: r else q :: insT p r
theorem insT_mem (p x : Sp) : ∀ l : List Sp, x ∈ insT p l ↔ x = p ∨ x ∈ l
  | [] => by simp [insT]
  | q :: r => by
    rw [insT]
    split
    · simp
    · rw [List.mem_cons, insT_mem p x r, List.mem_cons]
      constructor
      · rintro (h | h | h)
        · exact .inr (.inl h)
        · exact .inl h
        · exact .inr (.inr h)
      · rintro (h | h | h)
        · exact .inr (.inl h)
        · exact .inl h
        · exact .inr (.inr h)
theorem insT_len (p : Sp) : ∀ l : List Sp, (insT p l).length = l.length + 1
  | [] => rfl
  | q :: r => by
    rw [insT]
    split
    · simp
    · simp [insT_len p r]
theorem insT_isT {p : Sp} (hp : OkP p) : ∀ {l : List Sp}, IsT l → p ∉ l → IsT (insT p l)
  | [], _, _ => ⟨by simp [insT], fun x hx => by simp [insT] at hx; rw [hx]; exact hp⟩
  | q :: r, ⟨h1, h2⟩, hn => by
    have h1' := List.pairwise_cons.1 h1
    have hall : ∀ x ∈ insT p (q :: r), OkP x := fun x hx => by
      rcases (insT_mem p x _).1 hx with rfl | hx
      · exact hp
      · exact h2 x hx
    refine ⟨?_, hall⟩
    rw [insT]
    by_cases h : ahd p q = true
    · rw [if_pos h, List.pairwise_cons]
      refine ⟨fun x hx => ?_, h1⟩
      rcases List.mem_cons.1 hx with rfl | hx
      · exact h
      · exact ahd_trans h (h1'.1 x hx)
    · rw [if_neg h, List.pairwise_cons]
      obtain ⟨i1, _⟩ := insT_isT hp (l := r) ⟨h1'.2, fun x hx => h2 x (by simp [hx])⟩ (fun hx => hn (by simp [hx]))
      refine ⟨fun x hx => ?_, i1⟩
      rcases (insT_mem p x r).1 hx with rfl | hx
      · exact ahd_or (fun e => hn (by simp [e])) (by simpa using h)
      · exact h1'.1 x hx
/-- One less. -/
def drpT (p : Sp) (l : List Sp) : List Sp := l.filter fun q => !(q.1 == p.1 && q.2 == p.2)
def sm (p q : Sp) : Bool := p.1 == q.1 && p.2 == q.2
theorem sm_iff (p q : Sp) : sm p q = true ↔ p = q := by
  simp [sm, Prod.ext_iff]
theorem sm_self (p : Sp) : sm p p = true := (sm_iff p p).2 rfl
theorem drpT_eq (p : Sp) (l : List Sp) : drpT p l = l.filter fun q => !sm q p := rfl
theorem drp_no {p : Sp} : ∀ {l : List Sp}, p ∉ l → drpT p l = l := by
  intro l h
  rw [drpT_eq, List.filter_eq_self]
  intro q hq
  have : sm q p = false := by
    cases e : sm q p with
    | false => rfl
    | true => exact absurd ((sm_iff q p).1 e ▸ hq) h
  simp [this]
theorem drp_ins {p : Sp} : ∀ {l : List Sp}, p ∉ l → drpT p (insT p l) = l
  | [], _ => by rw [insT, drpT_eq]; simp [sm_self]
  | q :: r, h => by
    rw [insT]
    have hq : p ≠ q := fun e => h (by simp [e])
    have hr : p ∉ r := fun hx => h (by simp [hx])
    split
    · rw [drpT_eq, List.filter_cons, if_neg (by simp [sm_self])]
      have := drp_no h
      rwa [drpT_eq] at this
    · have e : sm q p = false := by
        cases e : sm q p with
        | false => rfl
        | true => exact absurd ((sm_iff q p).1 e).symm hq
      rw [drpT_eq, List.filter_cons, if_pos (by simp [e])]
      have := drp_ins (l := r) hr
      rw [drpT_eq] at this
      rw [this]
def hasP (p : Sp) (l : List Sp) : Bool := l.any fun q => sm q p
theorem hasP_iff (p : Sp) (l : List Sp) : hasP p l = true ↔ p ∈ l := by
  simp only [hasP, List.any_eq_true, sm_iff]
  constructor
  · rintro ⟨q, hq, rfl⟩; exact hq
  · intro h; exact ⟨p, h, rfl⟩
/-- With one more: the fault, the tree. -/
def putF (l : List Sp) (p : Sp) : Int := if tpF l p = 0 then (if hasP p l = true then 6 else if 60 < l.length + 1 then 3 else 0) else tpF l p
def putS (l : List Sp) (p : Sp) : List Sp := if putF l p = 0 then insT p l else []
/-- With one less: the fault, the tree. -/
def drpF (l : List Sp) (p : Sp) : Int := if tpF l p = 0 then (if hasP p l = true then 0 else 4) else tpF l p
def drpS (l : List Sp) (p : Sp) : List Sp := if drpF l p = 0 then drpT p l else []
/-- Has a prefix an address? -/
def hs (q : Sp) (a : Int) : Bool := decide (q.1 ≤ a) && decide (a ≤ q.1 + sz q.2 - 1)
theorem hs_iff (q : Sp) (a : Int) : hs q a = true ↔ q.1 ≤ a ∧ a ≤ q.1 + sz q.2 - 1 := by simp [hs]
theorem hs_in (q : Sp) (a : Int) : hs q a = inP (a, 32) q := by
  rw [Bool.eq_iff_iff, hs_iff, inP_iff, sz_32]
  simp only
  omega
/-- The longest that has an address, the first of them. -/
def bet : Option Sp → Sp → Bool
  | none, _ => true
  | some b, q => decide (b.2 < q.2)
def fnd (a : Int) : Option Sp → List Sp → Option Sp
  | c, [] => c
  | c, q :: r => if (hs q a && bet c q) = true then fnd a (some q) r else fnd a c r
theorem fnd_nil (a : Int) (c : Option Sp) : fnd a c [] = c := by cases c <;> rfl
theorem fnd_cons (a : Int) (c : Option Sp) (q : Sp) (r : List Sp) : fnd a c (q :: r) = if (hs q a && bet c q) = true then fnd a (some q) r else fnd a c r := by cases c <;> rfl
def fndF (l : List Sp) (a : Int) : Int := if treF l = 0 then (if isA a = true then (if (fnd a none l).isSome = true then 0 else 4) else 1) else treF l
def fndS (l : List Sp) (a : Int) : Sp := if fndF l a = 0 then (fnd a none l).getD (0, 0) else (0, 0)
theorem fnd_spec (a : Int) : ∀ (l : List Sp) (c : Option Sp), (∀ b, c = some b → hs b a = true) →
    (∀ x, fnd a c l = some x → hs x a = true ∧ (x ∈ l ∨ c = some x) ∧ (∀ y ∈ l, hs y a = true → y.2 ≤ x.2) ∧ ∀ b, c = some b → b.2 ≤ x.2) ∧ (fnd a c l = none → c = none ∧ ∀ y ∈ l, hs y a = false)
  | [], c, hc => by
    rw [fnd_nil]
    refine ⟨fun x hx => ⟨hc x hx, .inr hx, (fun _ h => by cases h), fun b hb => ?_⟩, fun h => ⟨h, fun _ h => by cases h⟩⟩
    rw [hb] at hx
    cases hx
    exact Int.le_refl _
  | q :: r, c, hc => by
    rw [fnd_cons]
    by_cases h : (hs q a && bet c q) = true
    · rw [if_pos h]
      rw [Bool.and_eq_true] at h
      obtain ⟨i1, i2⟩ := fnd_spec a r (some q) (fun b hb => by cases hb; exact h.1)
      refine ⟨fun x hx => ?_, fun hx => ?_⟩
      · obtain ⟨g1, g2, g3, g4⟩ := i1 x hx
        have g5 := g4 q rfl
        refine ⟨g1, ?_, fun y hy hy2 => ?_, fun b hb => ?_⟩
        · rcases g2 with g | g
          · exact .inl (by simp [g])
          · cases g; exact .inl (by simp)
        · rcases List.mem_cons.1 hy with rfl | hy
          · exact g5
          · exact g3 y hy hy2
        · subst hb
          have := h.2
          simp [bet] at this
          omega
      · have := (i2 hx).1
        cases this
    · rw [if_neg h]
      obtain ⟨i1, i2⟩ := fnd_spec a r c hc
      have hq : hs q a = true → ∃ b, c = some b ∧ q.2 ≤ b.2 := fun g => by
        cases c with
        | none => exact absurd (by simp [g, bet]) h
        | some b => refine ⟨b, rfl, ?_⟩; simp [g, bet] at h; omega
      refine ⟨fun x hx => ?_, fun hx => ?_⟩
      · obtain ⟨g1, g2, g3, g4⟩ := i1 x hx
        refine ⟨g1, ?_, fun y hy hy2 => ?_, g4⟩
        · rcases g2 with g | g
          · exact .inl (by simp [g])
          · exact .inr g
        · rcases List.mem_cons.1 hy with rfl | hy
          · obtain ⟨b, hb, hl⟩ := hq hy2
            have := g4 b hb
            omega
          · exact g3 y hy hy2
      · obtain ⟨g1, g2⟩ := i2 hx
        refine ⟨g1, fun y hy => ?_⟩
        rcases List.mem_cons.1 hy with rfl | hy
        · cases e : hs y a with
          | false => rfl
          | true => obtain ⟨b, hb, _⟩ := hq e; rw [g1] at hb; cases hb
        · exact g2 y hy
/-- Those above a prefix, the shortest first: n and longer, k lengths. -/
def abN (l : List Sp) (p : Sp) : Int → Nat → List Sp
  | _, 0 => []
  | n, k + 1 => (l.filter fun q => decide (q.2 = n) && inP p q) ++ abN l p (n + 1) k
def abv (l : List Sp) (p : Sp) : List Sp := abN l p 0 p.2.toNat
theorem abN_mem (l : List Sp) (p x : Sp) : ∀ (k : Nat) (n : Int), x ∈ abN l p n k ↔ x ∈ l ∧ inP p x = true ∧ n ≤ x.2 ∧ x.2 < n + k
  | 0, n => by
    simp only [abN, List.not_mem_nil, false_iff]
    rintro ⟨_, _, h3, h4⟩
    omega
  | k + 1, n => by
    rw [abN, List.mem_append, List.mem_filter, abN_mem l p x k (n + 1)]
    simp only [Bool.and_eq_true, decide_eq_true_eq]
    constructor
    · rintro (⟨h1, h2, h3⟩ | ⟨h1, h2, h3, h4⟩)
      · exact ⟨h1, h3, by omega, by omega⟩
      · exact ⟨h1, h2, by omega, by omega⟩
    · rintro ⟨h1, h2, h3, h4⟩
      by_cases h : x.2 = n
      · exact .inl ⟨h1, h, h2⟩
      · exact .inr ⟨h1, h2, by omega, by omega⟩
theorem abv_mem {l : List Sp} {p : Sp} (hl : IsT l) (hp : OkP p) (x : Sp) : x ∈ abv l p ↔ x ∈ l ∧ inP p x = true ∧ x.2 < p.2 := by
  have h0 := hp.parts.1
  unfold abv
  rw [abN_mem]
  constructor
  · rintro ⟨h1, h2, h3, h4⟩; exact ⟨h1, h2, by omega⟩
  · rintro ⟨h1, h2, h3⟩
    have := (hl.2 x h1).parts.1
    exact ⟨h1, h2, by omega, by omega⟩
/-- They rise by their lengths. -/
theorem abN_rise {l : List Sp} {p : Sp} (hl : IsT l) : ∀ (k : Nat) (n : Int), (abN l p n k).Pairwise (fun x y => x.2 < y.2)
  | 0, _ => List.Pairwise.nil
  | k + 1, n => by
    rw [abN, List.pairwise_append]
    refine ⟨?_, abN_rise hl k (n + 1), fun x hx y hy => ?_⟩
    · have hnd : l.Pairwise (fun x y => x ≠ y) := hl.1.imp (fun h => ahd_ne h)
      have hf := List.Pairwise.filter (fun q => decide (q.2 = n) && inP p q) hnd
      refine List.Pairwise.imp_of_mem (R := fun x y => x ≠ y) ?_ hf
      intro x y hx hy hne
      rw [List.mem_filter, Bool.and_eq_true, decide_eq_true_eq] at hx hy
      exact absurd (inP_eq (hl.2 x hx.1) (hl.2 y hy.1) hx.2.2 hy.2.2 (by omega)) hne
    · rw [List.mem_filter, Bool.and_eq_true, decide_eq_true_eq] at hx
      have := (abN_mem l p y k (n + 1)).1 hy
      omega
/-- Those below a prefix (all: none is above any), next to it. -/
def hid (l : List Sp) (p : Sp) (all : Bool) (q : Sp) : Bool := l.any fun k => !sm k q && inP q k && (all || (!sm k p && inP k p))
def blw (l : List Sp) (p : Sp) (all : Bool) : List Sp := l.filter fun q => (all || (!sm q p && inP q p)) && !hid l p all q
end Bur
