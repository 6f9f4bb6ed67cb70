/- Trees of prefixes as lists: what is within what, faults, one more, one less, what has an address, above, below. No program stands here. -/
import Derived.Test.YtdjiodikefoliaaDoorCQE
namespace Bur
open Go

/-- Is one prefix within the other? -/
def inP (p q : Sp) : Bool := inB p.1 p.2 q.1 q.2
theorem inP_iff (p q : Sp) : inP p q = true ↔ q.1 ≤ p.1 ∧ p.1 + sz p.2 ≤ q.1 + sz q.2 := by simp [inP, inB]
theorem inP_refl (p : Sp) : inP p p = true := (inP_iff _ _).2 ⟨Int.le_refl _, Int.le_refl _⟩
theorem inP_trans {p q r : Sp} (h : inP p q = true) (k : inP q r = true) : inP p r = true := by
  rw [inP_iff] at *; omega
theorem inP_len {p q : Sp} (hp : OkP p) (hq : OkP q) (h : inP p q = true) : q.2 ≤ p.2 := by
  obtain ⟨a1, a2, _, _, _⟩ := hp.parts
  obtain ⟨b1, b2, _, _, _⟩ := hq.parts
  rw [inP_iff] at h
  apply Int.not_lt.1
  intro hlt
  have := sz_lt b2 hlt
  omega
theorem sz_dvd {l l2 : Int} (h1 : l ≤ 32) (h : l2 ≤ l) : sz l ∣ sz l2 := ⟨_, sz_mul h1 h⟩
theorem sz_ge {l l2 : Int} (h1 : l ≤ 32) (h : l2 ≤ l) : sz l ≤ sz l2 := Int.le_of_dvd (sz_pos _) (sz_dvd h1 h)
/-- Who is within two, of these the one is within the other. -/
theorem inP_chain {p q r : Sp} (hq : OkP q) (hr : OkP r) (h1 : inP p q = true) (h2 : inP p r = true) (hl : q.2 ≤ r.2) : inP r q = true := by
  obtain ⟨q1, q2, q3, q4, q5⟩ := hq.parts
  obtain ⟨r1, r2, r3, r4, r5⟩ := hr.parts
  rw [inP_iff] at *
  have hp := sz_pos p.2
  have hsr := sz_pos r.2
  have hd : sz r.2 ∣ sz q.2 := sz_dvd r2 hl
  have hqd : sz r.2 ∣ q.1 := Int.dvd_trans hd q5
  constructor
  · apply Int.not_lt.1
    intro hlt
    have := apart hsr r5 hqd hlt
    omega
  · exact apart hsr r5 (Int.dvd_add hqd hd) (by omega)
theorem inP_anti {p q : Sp} (h : inP p q = true) (hl : p.2 = q.2) : p = q := by
  rw [inP_iff, hl] at h
  exact Prod.ext (by omega) hl
theorem inP_eq {p q r : Sp} (hq : OkP q) (hr : OkP r) (h1 : inP p q = true) (h2 : inP p r = true) (hl : q.2 = r.2) : q = r :=
  (inP_anti (inP_chain hq hr h1 h2 (by omega)) hl.symm).symm

/-- Which stands ahead? -/
def ahd (p q : Sp) : Bool := decide (p.1 < q.1) || (decide (p.1 = q.1) && decide (p.2 < q.2))
theorem ahd_iff (p q : Sp) : ahd p q = true ↔ p.1 < q.1 ∨ (p.1 = q.1 ∧ p.2 < q.2) := by simp [ahd]
theorem ahd_trans {p q r : Sp} (h : ahd p q = true) (k : ahd q r = true) : ahd p r = true := by
  rw [ahd_iff] at *; omega
theorem ahd_ne {p q : Sp} (h : ahd p q = true) : p ≠ q := by
  rintro rfl
  rw [ahd_iff] at h; omega
theorem ahd_or {p q : Sp} (h : p ≠ q) (k : ahd p q = false) : ahd q p = true := by
  rw [ahd_iff]
  have k' : ¬ (p.1 < q.1 ∨ (p.1 = q.1 ∧ p.2 < q.2)) := fun g => by rw [(ahd_iff p q).2 g] at k; cases k
  by_cases g : p.1 = q.1
  · by_cases g2 : p.2 = q.2
    · exact absurd (Prod.ext g g2) h
    · omega
  · omega
/-- May p stand behind one that may be there? -/
def okc : Option Sp → Sp → Bool
  | none, _ => true
  | some q, p => ahd q p
/-- The first fault of a tree, behind one that may be there. -/
def tF : Option Sp → List Sp → Int
  | _, [] => 0
  | c, p :: r => if fault p.1 p.2 = 0 then (if okc c p = true then tF (some p) r else 2) else fault p.1 p.2
theorem tF_cons (c : Option Sp) (p : Sp) (r : List Sp) : tF c (p :: r) = if fault p.1 p.2 = 0 then (if okc c p = true then tF (some p) r else 2) else fault p.1 p.2 := by cases c <;> rfl
def treF (l : List Sp) : Int := if 60 < l.length then 3 else tF none l
/-- Prefixes that rise. -/
def IsT (l : List Sp) : Prop := l.Pairwise (fun p q => ahd p q = true) ∧ ∀ p ∈ l, OkP p
theorem tF_ok : ∀ {l : List Sp} {c : Option Sp}, tF c l = 0 → IsT l ∧ ∀ q, c = some q → ∀ p ∈ l, ahd q p = true
  | [], _, _ => ⟨⟨List.Pairwise.nil, fun _ h => by cases h⟩, fun _ _ _ h => by cases h⟩
  | p :: r, c, h => by
    rw [tF_cons] at h
    split at h
    · rename_i h1
      split at h
      · rename_i h2
        obtain ⟨⟨i1, i2⟩, i3⟩ := tF_ok h
        have i3' := i3 p rfl
        refine ⟨⟨List.pairwise_cons.2 ⟨i3', i1⟩, fun x hx => ?_⟩, ?_⟩
        · rcases List.mem_cons.1 hx with rfl | hx
          · exact h1
          · exact i2 x hx
        · rintro q rfl x hx
          rcases List.mem_cons.1 hx with rfl | hx
          · exact h2
          · exact ahd_trans h2 (i3' x hx)
      · omega
    · contradiction
theorem tF_mk : ∀ {l : List Sp} {c : Option Sp}, IsT l → (∀ q, c = some q → ∀ p ∈ l, ahd q p = true) → tF c l = 0
  | [], _, _, _ => rfl
  | p :: r, c, ⟨h1, h2⟩, h3 => by
    have h1' := List.pairwise_cons.1 h1
    have e : okc c p = true := by
      cases c with
      | none => rfl
      | some q => exact h3 q rfl p (by simp)
    rw [tF_cons, if_pos (show fault p.1 p.2 = 0 from h2 p (by simp)), if_pos e]
    exact tF_mk ⟨h1'.2, fun x hx => h2 x (by simp [hx])⟩ (fun q hq x hx => by cases hq; exact h1'.1 x hx)
theorem treF_ok {l : List Sp} (h : treF l = 0) : l.length ≤ 60 ∧ IsT l := by
  unfold treF at h
  split at h
  · omega
  · exact ⟨by omega, (tF_ok h).1⟩
theorem treF_mk {l : List Sp} (h : l.length ≤ 60) (h1 : IsT l) : treF l = 0 := by
  unfold treF
  rw [if_neg (by omega)]
  exact tF_mk h1 (fun _ h => by cases h)
/-- A tree's fault, then a prefix'. -/
def tpF (l : List Sp) (p : Sp) : Int := if treF l = 0 then fault p.1 p.2 else treF l
theorem tpF_ok {l : List Sp} {p : Sp} (h : tpF l p = 0) : treF l = 0 ∧ OkP p := by
  unfold tpF at h
  split at h
  · rename_i h1; exact ⟨h1, h⟩
  · contradiction
theorem tpF_mk {l : List Sp} {p : Sp} (h : treF l = 0) (h1 : OkP p) : tpF l p = 0 := by
  unfold tpF; rw [if_pos h]; exact h1
/-- One more, at its place. -/
def insT (p : Sp) : List Sp → List Sp
  | [] => [p]
  | q :: r => if ahd p q = true then p :: q :: r else q :: insT p r
theorem insT_mem (p x : Sp) : ∀ l : List Sp, x ∈ insT p l ↔ x = p ∨ x ∈ l
  | [] => by simp [insT]
  | q :: r => by
    rw [insT]
    split
    · simp
    · rw [List.mem_cons, insT_mem p x r, List.mem_cons]
      constructor
      · rintro (h | h | h)
        · exact .inr (.inl h)
        · exact .inl h
        · exact .inr (.inr h)
      · rintro (h | h | h)
        · exact .inr (.inl h)
        · exact .inl h
        · exact .inr (.inr h)
theorem insT_len (p : Sp) : ∀ l : List Sp, (insT p l).length = l.length + 1
  | [] => rfl
  | q :: r => by
    rw [insT]
    split
    · simp
    · simp [insT_len p r]
theorem insT_isT {p : Sp} (hp : OkP p) : ∀ {l : List Sp}, IsT l → p ∉ l → IsT (insT p l)
  | [], _, _ => ⟨by simp [insT], fun x hx => by simp [insT] at hx; rw [hx]; exact hp⟩
  | q :: r, ⟨h1, h2⟩, hn => by
    have h1' := List.pairwise_cons.1 h1
    have hall : ∀ x ∈ insT p (q :: r), OkP x := fun x hx => by
      rcases (insT_mem p x _).1 hx with rfl | hx
      · exact hp
      · exact h2 x hx
    refine ⟨?_, hall⟩
    rw [insT]
    by_cases h : ahd p q = true
    · rw [if_pos h, List.pairwise_cons]
      refine ⟨fun x hx => ?_, h1⟩
      rcases List.mem_cons.1 hx with rfl | hx
      · exact h
      · exact ahd_trans h (h1'.1 x hx)
    · rw [if_neg h, List.pairwise_cons]
      obtain ⟨i1, _⟩ := insT_isT hp (l := r) ⟨h1'.2, fun x hx => h2 x (by simp [hx])⟩ (fun hx => hn (by simp [hx]))
      refine ⟨fun x hx => ?_, i1⟩
      rcases (insT_mem p x r).1 hx with rfl | hx
      · exact ahd_or (fun e => hn (by simp [e])) (by simpa using h)
      · exact h1'.1 x hx
/-- One less. -/
def drpT (p : Sp) (l : List Sp) : List Sp := l.filter fun q => !(q.1 == p.1 && q.2 == p.2)
def sm (p q : Sp) : Bool := p.1 == q.1 && p.2 == q.2
theorem sm_iff (p q : Sp) : sm p q = true ↔ p = q := by
  simp [sm, Prod.ext_iff]
theorem sm_self (p : Sp) : sm p p = true := (sm_iff p p).2 rfl
theorem drpT_eq (p : Sp) (l : List Sp) : drpT p l = l.filter fun q => !sm q p := rfl
theorem drp_no {p : Sp} : ∀ {l : List Sp}, p ∉ l → drpT p l = l := by
  intro l h
  rw [drpT_eq, List.filter_eq_self]
  intro q hq
  have : sm q p = false := by
    cases e : sm q p with
    | false => rfl
    | true => exact absurd ((sm_iff q p).1 e ▸ hq) h
  simp [this]
theorem drp_ins {p : Sp} : ∀ {l : List Sp}, p ∉ l → drpT p (insT p l) = l
  | [], _ => by rw [insT, drpT_eq]; simp [sm_self]
  | q :: r, h => by
    rw [insT]
    have hq : p ≠ q := fun e => h (by simp [e])
    have hr : p ∉ r := fun hx => h (by simp [hx])
    split
    · rw [drpT_eq, List.filter_cons, if_neg (by simp [sm_self])]
      have := drp_no h
      rwa [drpT_eq] at this
    · have e : sm q p = false := by
        cases e : sm q p with
        | false => rfl
        | true => exact absurd ((sm_iff q p).1 e).symm hq
      rw [drpT_eq, List.filter_cons, if_pos (by simp [e])]
      have := drp_ins (l := r) hr
      rw [drpT_eq] at this
      rw [this]
def hasP (p : Sp) (l : List Sp) : Bool := l.any fun q => sm q p
theorem hasP_iff (p : Sp) (l : List Sp) : hasP p l = true ↔ p ∈ l := by
  simp only [hasP, List.any_eq_true, sm_iff]
  constructor
  · rintro ⟨q, hq, rfl⟩; exact hq
  · intro h; exact ⟨p, h, rfl⟩
/-- With one more: the fault, the tree. -/
def putF (l : List Sp) (p : Sp) : Int := if tpF l p = 0 then (if hasP p l = true then 6 else if 60 < l.length + 1 then 3 else 0) else tpF l p
def putS (l : List Sp) (p : Sp) : List Sp := if putF l p = 0 then insT p l else []
/-- With one less: the fault, the tree. -/
def drpF (l : List Sp) (p : Sp) : Int := if tpF l p = 0 then (if hasP p l = true then 0 else 4) else tpF l p
def drpS (l : List Sp) (p : Sp) : List Sp := if drpF l p = 0 then drpT p l else []
/-- Has a prefix an address? -/
def hs (q : Sp) (a : Int) : Bool := decide (q.1 ≤ a) && decide (a ≤ q.1 + sz q.2 - 1)
theorem hs_iff (q : Sp) (a : Int) : hs q a = true ↔ q.1 ≤ a ∧ a ≤ q.1 + sz q.2 - 1 := by simp [hs]
theorem hs_in (q : Sp) (a : Int) : hs q a = inP (a, 32) q := by
  rw [Bool.eq_iff_iff, hs_iff, inP_iff, sz_32]
  simp only
  omega
/-- The longest that has an address, the first of them. -/
def bet : Option Sp → Sp → Bool
  | none, _ => true
  | some b, q => decide (b.2 < q.2)
def fnd (a : Int) : Option Sp → List Sp → Option Sp
  | c, [] => c
  | c, q :: r => if (hs q a && bet c q) = true then fnd a (some q) r else fnd a c r
theorem fnd_nil (a : Int) (c : Option Sp) : fnd a c [] = c := by cases c <;> rfl
theorem fnd_cons (a : Int) (c : Option Sp) (q : Sp) (r : List Sp) : fnd a c (q :: r) = if (hs q a && bet c q) = true then fnd a (some q) r else fnd a c r := by cases c <;> rfl
def fndF (l : List Sp) (a : Int) : Int := if treF l = 0 then (if isA a = true then (if (fnd a none l).isSome = true then 0 else 4) else 1) else treF l
def fndS (l : List Sp) (a : Int) : Sp := if fndF l a = 0 then (fnd a none l).getD (0, 0) else (0, 0)
theorem fnd_spec (a : Int) : ∀ (l : List Sp) (c : Option Sp), (∀ b, c = some b → hs b a = true) →
    (∀ x, fnd a c l = some x → hs x a = true ∧ (x ∈ l ∨ c = some x) ∧ (∀ y ∈ l, hs y a = true → y.2 ≤ x.2) ∧ ∀ b, c = some b → b.2 ≤ x.2) ∧ (fnd a c l = none → c = none ∧ ∀ y ∈ l, hs y a = false)
  | [], c, hc => by
    rw [fnd_nil]
    refine ⟨fun x hx => ⟨hc x hx, .inr hx, (fun _ h => by cases h), fun b hb => ?_⟩, fun h => ⟨h, fun _ h => by cases h⟩⟩
    rw [hb] at hx
    cases hx
    exact Int.le_refl _
  | q :: r, c, hc => by
    rw [fnd_cons]
    by_cases h : (hs q a && bet c q) = true
    · rw [if_pos h]
      rw [Bool.and_eq_true] at h
      obtain ⟨i1, i2⟩ := fnd_spec a r (some q) (fun b hb => by cases hb; exact h.1)
      refine ⟨fun x hx => ?_, fun hx => ?_⟩
      · obtain ⟨g1, g2, g3, g4⟩ := i1 x hx
        have g5 := g4 q rfl
        refine ⟨g1, ?_, fun y hy hy2 => ?_, fun b hb => ?_⟩
        · rcases g2 with g | g
          · exact .inl (by simp [g])
          · cases g; exact .inl (by simp)
        · rcases List.mem_cons.1 hy with rfl | hy
          · exact g5
          · exact g3 y hy hy2
        · subst hb
          have := h.2
          simp [bet] at this
          omega
      · have := (i2 hx).1
        cases this
    · rw [if_neg h]
      obtain ⟨i1, i2⟩ := fnd_spec a r c hc
      have hq : hs q a = true → ∃ b, c = some b ∧ q.2 ≤ b.2 := fun g => by
        cases c with
        | none => exact absurd (by simp [g, bet]) h
        | some b => refine ⟨b, rfl, ?_⟩; simp [g, bet] at h; omega
      refine ⟨fun x hx => ?_, fun hx => ?_⟩
      · obtain ⟨g1, g2, g3, g4⟩ := i1 x hx
        refine ⟨g1, ?_, fun y hy hy2 => ?_, g4⟩
        · rcases g2 with g | g
          · exact .inl (by simp [g])
          · exact .inr g
        · rcases List.mem_cons.1 hy with rfl | hy
          · obtain ⟨b, hb, hl⟩ := hq hy2
            have := g4 b hb
            omega
          · exact g3 y hy hy2
      · obtain ⟨g1, g2⟩ := i2 hx
        refine ⟨g1, fun y hy => ?_⟩
        rcases List.mem_cons.1 hy with rfl | hy
        · cases e : hs y a with
          | false => rfl
          | true => obtain ⟨b, hb, _⟩ := hq e; rw [g1] at hb; cases hb
        · exact g2 y hy
/-- Those above a prefix, the shortest first: n and longer, k lengths. -/
def abN (l : List Sp) (p : Sp) : Int → Nat → List Sp
  | _, 0 => []
  | n, k + 1 => (l.filter fun q => decide (q.2 = n) && inP p q) ++ abN l p (n + 1) k
def abv (l : List Sp) (p : Sp) : List Sp := abN l p 0 p.2.toNat
theorem abN_mem (l : List Sp) (p x : Sp) : ∀ (k : Nat) (n : Int), x ∈ abN l p n k ↔ x ∈ l ∧ inP p x = true ∧ n ≤ x.2 ∧ x.2 < n + k
  | 0, n => by
    simp only [abN, List.not_mem_nil, false_iff]
    rintro ⟨_, _, h3, h4⟩
    omega
  | k + 1, n => by
    rw [abN, List.mem_append, List.mem_filter, abN_mem l p x k (n + 1)]
    simp only [Bool.and_eq_true, decide_eq_true_eq]
    constructor
    · rintro (⟨h1, h2, h3⟩ | ⟨h1, h2, h3, h4⟩)
      · exact ⟨h1, h3, by omega, by omega⟩
      · exact ⟨h1, h2, by omega, by omega⟩
    · rintro ⟨h1, h2, h3, h4⟩
      by_cases h : x.2 = n
      · exact .inl ⟨h1, h, h2⟩
      · exact .inr ⟨h1, h2, by omega, by omega⟩
theorem abv_mem {l : List Sp} {p : Sp} (hl : IsT l) (hp : OkP p) (x : Sp) : x ∈ abv l p ↔ x ∈ l ∧ inP p x = true ∧ x.2 < p.2 := by
  have h0 := hp.parts.1
  unfold abv
  rw [abN_mem]
  constructor
  · rintro ⟨h1, h2, h3, h4⟩; exact ⟨h1, h2, by omega⟩
  · rintro ⟨h1, h2, h3⟩
    have := (hl.2 x h1).parts.1
    exact ⟨h1, h2, by omega, by omega⟩
/-- They rise by their lengths. -/
theorem abN_rise {l : List Sp} {p : Sp} (hl : IsT l) : ∀ (k : Nat) (n : Int), (abN l p n k).Pairwise (fun x y => x.2 < y.2)
  | 0, _ => List.Pairwise.nil
  | k + 1, n => by
    rw [abN, List.pairwise_append]
    refine ⟨?_, abN_rise hl k (n + 1), fun x hx y hy => ?_⟩
    · have hnd : l.Pairwise (fun x y => x ≠ y) := hl.1.imp (fun h => ahd_ne h)
      have hf := List.Pairwise.filter (fun q => decide (q.2 = n) && inP p q) hnd
      refine List.Pairwise.imp_of_mem (R := fun x y => x ≠ y) ?_ hf
      intro x y hx hy hne
      rw [List.mem_filter, Bool.and_eq_true, decide_eq_true_eq] at hx hy
      exact absurd (inP_eq (hl.2 x hx.1) (hl.2 y hy.1) hx.2.2 hy.2.2 (by omega)) hne
    · rw [List.mem_filter, Bool.and_eq_true, decide_eq_true_eq] at hx
      have := (abN_mem l p y k (n + 1)).1 hy
      omega
/-- Those below a prefix (all: none is above any), next to it. -/
def hid (l : List Sp) (p : Sp) (all : Bool) (q : Sp) : Bool := l.any fun k => !sm k q && inP q k && (all || (!sm k p && inP k p))
def blw (l : List Sp) (p : Sp) (all : Bool) : List Sp := l.filter fun q => (all || (!sm q p && inP q p)) && !hid l p all q
end Bur

/- Trees: put and dropped, found and above, each below just one or a root, chains. No program stands here. -/
namespace Bur
open Go

theorem hs_self {p : Sp} : hs p p.1 = true := by
  have := sz_pos p.2
  rw [hs_iff]; omega
/-- Put, it can be dropped, is found, and can't be put again. -/
theorem put_back {l : List Sp} {p : Sp} (h : putF l p = 0) : putS l p = insT p l ∧ drpF (insT p l) p = 0 ∧ drpS (insT p l) p = l ∧ fndF (insT p l) p.1 = 0 ∧ p.2 ≤ (fndS (insT p l) p.1).2 ∧ putF (insT p l) p = 6 := by
  have hS : putS l p = insT p l := if_pos h
  unfold putF at h
  split at h
  · rename_i h1
    obtain ⟨t1, t2⟩ := tpF_ok h1
    obtain ⟨o1, o2⟩ := treF_ok t1
    split at h
    · omega
    · rename_i h2
      split at h
      · omega
      · rename_i h3
        have hn : p ∉ l := fun hx => h2 ((hasP_iff p l).2 hx)
        have hT : treF (insT p l) = 0 := treF_mk (by rw [insT_len]; omega) (insT_isT t2 o2 hn)
        have hm : hasP p (insT p l) = true := (hasP_iff p _).2 ((insT_mem p p l).2 (.inl rfl))
        have htp : tpF (insT p l) p = 0 := tpF_mk hT t2
        have hdF : drpF (insT p l) p = 0 := by unfold drpF; rw [if_pos htp, if_pos hm]
        have hA : isA p.1 = true := by
          obtain ⟨_, _, a0, a1, _⟩ := fault_ok t2
          exact isA_mk a0 a1
        obtain ⟨s1, s2⟩ := fnd_spec p.1 (insT p l) none (fun _ h => by cases h)
        have hmem : p ∈ insT p l := (insT_mem p p l).2 (.inl rfl)
        cases e : fnd p.1 none (insT p l) with
        | none =>
          have := (s2 e).2 p hmem
          rw [hs_self] at this; cases this
        | some x =>
          have hF : fndF (insT p l) p.1 = 0 := by unfold fndF; rw [if_pos hT, if_pos hA, e]; rfl
          have hx := (s1 x e).2.2.1 p hmem hs_self
          refine ⟨hS, hdF, ?_, hF, ?_, ?_⟩
          · unfold drpS; rw [if_pos hdF]; exact drp_ins hn
          · unfold fndS; rw [if_pos hF, e]; exact hx
          · unfold putF; rw [if_pos htp, if_pos hm]
  · contradiction
theorem fnd_ok {l : List Sp} {a : Int} (h : fndF l a = 0) : treF l = 0 ∧ isA a = true ∧ ∃ q, fnd a none l = some q ∧ fndS l a = q := by
  have hS : fndS l a = (fnd a none l).getD (0, 0) := if_pos h
  unfold fndF at h
  split at h
  · rename_i h1
    split at h
    · rename_i h2
      split at h
      · rename_i h3
        obtain ⟨q, hq⟩ := Option.isSome_iff_exists.1 h3
        exact ⟨h1, h2, q, hq, by rw [hS, hq]; rfl⟩
      · omega
    · omega
  · contradiction
theorem ok32 {a : Int} (h : isA a = true) : OkP (a, 32) := by
  show fault a 32 = 0
  exact fault_mk (by omega) (by omega) h (by rw [sz_32]; omega)
/-- The one that has an address is the last of those above it. -/
theorem fnd_last {l : List Sp} {a : Int} (h : fndF l a = 0) : tpF l (a, 32) = 0 ∧ ((fndS l a).2 < 32 → (abv l (a, 32)).getLast? = some (fndS l a)) := by
  obtain ⟨h1, h2, q, hq, hS⟩ := fnd_ok h
  obtain ⟨o1, o2⟩ := treF_ok h1
  have hk := ok32 h2
  refine ⟨tpF_mk h1 hk, fun hlt => ?_⟩
  rw [hS] at hlt ⊢
  obtain ⟨s1, s2, s3, _⟩ := (fnd_spec a l none (fun _ h => by cases h)).1 q hq
  have hql : q ∈ l := by
    rcases s2 with g | g
    · exact g
    · cases g
  have hmem : q ∈ abv l (a, 32) := (abv_mem o2 hk q).2 ⟨hql, by rw [← hs_in]; exact s1, hlt⟩
  have hr : (abv l (a, 32)).Pairwise (fun x y => x.2 < y.2) := abN_rise o2 _ _
  cases e : (abv l (a, 32)).getLast? with
  | none =>
    rw [List.getLast?_eq_none_iff] at e
    rw [e] at hmem; cases hmem
  | some x =>
    have hx : x ∈ abv l (a, 32) := List.mem_of_getLast? e
    obtain ⟨x1, x2, x3⟩ := (abv_mem o2 hk x).1 hx
    have hle : x.2 ≤ q.2 := s3 x x1 (by rw [hs_in]; exact x2)
    have hge : q.2 ≤ x.2 := by
      obtain ⟨ys, hys⟩ := List.getLast?_eq_some_iff.1 e
      rw [hys] at hmem hr
      rcases List.mem_append.1 hmem with g | g
      · have := (List.pairwise_append.1 hr).2.2 q g x (by simp)
        omega
      · rw [List.mem_singleton.1 g]; exact Int.le_refl _
    have := inP_eq (o2.2 x x1) (o2.2 q hql) x2 (by rw [← hs_in]; exact s1) (by omega)
    rw [this]

/-! Counting. -/
def tot (g : Sp → Nat) : List Sp → Nat
  | [] => 0
  | p :: r => g p + tot g r
theorem tot_add (g h : Sp → Nat) : ∀ l, tot (fun p => g p + h p) l = tot g l + tot h l
  | [] => rfl
  | p :: r => by simp only [tot, tot_add g h r]; omega
theorem tot_congr {g h : Sp → Nat} : ∀ {l : List Sp}, (∀ p ∈ l, g p = h p) → tot g l = tot h l
  | [], _ => rfl
  | p :: r, e => by simp only [tot]; rw [e p (by simp), tot_congr (fun q hq => e q (by simp [hq]))]
theorem tot_zero : ∀ l, tot (fun _ => 0) l = 0
  | [] => rfl
  | _ :: r => by simp [tot, tot_zero r]
theorem tot_one : ∀ l, tot (fun _ => 1) l = l.length
  | [] => rfl
  | _ :: r => by simp [tot, tot_one r]; omega
theorem tot_ind (f : Sp → Bool) : ∀ l, tot (fun q => if f q = true then 1 else 0) l = (l.filter f).length
  | [] => rfl
  | q :: r => by
    simp only [tot, tot_ind f r, List.filter_cons]
    split
    · simp; omega
    · simp
theorem tot_swap (R : Sp → Sp → Bool) (m : List Sp) : ∀ l, tot (fun p => (m.filter (R p)).length) l = tot (fun q => (l.filter (fun p => R p q)).length) m
  | [] => by simp only [tot, List.filter_nil, List.length_nil]; rw [tot_zero]
  | p :: r => by
    have e : ∀ q, ((p :: r).filter (fun p => R p q)).length = (if R p q = true then 1 else 0) + (r.filter (fun p => R p q)).length := fun q => by
      rw [List.filter_cons]
      split
      · simp; omega
      · simp
    simp only [tot, tot_swap R m r]
    rw [tot_congr (fun q _ => e q), tot_add, tot_ind]
theorem max_len (P : Sp → Bool) : ∀ {l : List Sp}, (∃ x ∈ l, P x = true) → ∃ x ∈ l, P x = true ∧ ∀ y ∈ l, P y = true → y.2 ≤ x.2
  | [], ⟨_, h, _⟩ => by cases h
  | q :: r, h => by
    by_cases hr : ∃ x ∈ r, P x = true
    · obtain ⟨x, hx, hp, hm⟩ := max_len P hr
      by_cases hq : P q = true ∧ x.2 < q.2
      · refine ⟨q, by simp, hq.1, fun y hy hp2 => ?_⟩
        rcases List.mem_cons.1 hy with rfl | hy
        · exact Int.le_refl _
        · have := hm y hy hp2; omega
      · refine ⟨x, by simp [hx], hp, fun y hy hp2 => ?_⟩
        rcases List.mem_cons.1 hy with rfl | hy
        · apply Int.not_lt.1; intro g; exact hq ⟨hp2, g⟩
        · exact hm y hy hp2
    · obtain ⟨x, hx, hp⟩ := h
      rcases List.mem_cons.1 hx with rfl | hx
      · refine ⟨x, by simp, hp, fun y hy hp2 => ?_⟩
        rcases List.mem_cons.1 hy with rfl | hy
        · exact Int.le_refl _
        · exact absurd ⟨y, hy, hp2⟩ hr
      · exact absurd ⟨x, hx, hp⟩ hr
theorem one_of {l : List Sp} (hn : l.Pairwise (fun x y => x ≠ y)) {f : Sp → Bool} {x : Sp} (hx : x ∈ l) (hf : ∀ y ∈ l, f y = true ↔ y = x) : (l.filter f).length = 1 := by
  induction l with
  | nil => cases hx
  | cons q r ih =>
    have hn' := List.pairwise_cons.1 hn
    rw [List.filter_cons]
    rcases List.mem_cons.1 hx with rfl | hx'
    · rw [if_pos ((hf x (by simp)).2 rfl)]
      have : r.filter f = [] := by
        rw [List.filter_eq_nil_iff]
        intro y hy hfy
        exact hn'.1 y hy ((hf y (by simp [hy])).1 hfy).symm
      rw [this]; rfl
    · have hq : ¬ f q = true := fun h => hn'.1 x hx' ((hf q (by simp)).1 h)
      rw [if_neg hq]
      exact ih hn'.2 hx' (fun y hy => hf y (by simp [hy]))
/-- Each is a root, or below just one. -/
theorem below_sum {l : List Sp} (h : treF l = 0) (p0 : Sp) : (blw l p0 true).length + tot (fun p => (blw l p false).length) l = l.length := by
  obtain ⟨o1, o2⟩ := treF_ok h
  have hnd : l.Pairwise (fun x y => x ≠ y) := o2.1.imp (fun h => ahd_ne h)
  have e1 : tot (fun p => (blw l p false).length) l = tot (fun q => (l.filter (fun p => (!sm q p && inP q p) && !hid l p false q)).length) l := by
    have := tot_swap (fun p q => (!sm q p && inP q p) && !hid l p false q) l l
    rw [← this]
    apply tot_congr
    intro p _
    simp [blw]
  have e2 : (blw l p0 true).length = tot (fun q => if (!hid l p0 true q) = true then 1 else 0) l := by
    rw [tot_ind]; simp [blw]
  rw [e1, e2, ← tot_add, ← tot_one l]
  apply tot_congr
  intro q hq
  by_cases hr : ∃ k ∈ l, (!sm k q && inP q k) = true
  · have hh : hid l p0 true q = true := by
      obtain ⟨k, hk, hk2⟩ := hr
      exact List.any_eq_true.2 ⟨k, hk, by simp [hk2]⟩
    rw [hh, if_neg (by simp)]
    obtain ⟨x, hx, hx2, hmax⟩ := max_len (fun k => !sm k q && inP q k) hr
    rw [Bool.and_eq_true] at hx2
    have hxq : x ≠ q := fun e => by rw [e, sm_self] at hx2; simp at hx2
    rw [one_of hnd hx]
    intro p hp
    constructor
    · intro hR
      rw [Bool.and_eq_true, Bool.and_eq_true] at hR
      obtain ⟨⟨r1, r2⟩, r3⟩ := hR
      have hpq : p ≠ q := fun e => by rw [e, sm_self] at r1; simp at r1
      have hpq' : sm p q = false := by
        cases e : sm p q with
        | false => rfl
        | true => exact absurd ((sm_iff p q).1 e) hpq
      have hle := hmax p hp (by simp [hpq', r2])
      have hin := inP_chain (o2.2 p hp) (o2.2 x hx) r2 hx2.2 hle
      apply Classical.byContradiction
      intro hne
      have hxp : sm x p = false := by
        cases e : sm x p with
        | false => rfl
        | true => exact absurd ((sm_iff x p).1 e).symm hne
      have : hid l p false q = true := List.any_eq_true.2 ⟨x, hx, by simp [hxp, hin, hx2.2]; simpa using hx2.1⟩
      rw [this] at r3; cases r3
    · rintro rfl
      have hqp : sm q p = false := by
        cases e : sm q p with
        | false => rfl
        | true => exact absurd ((sm_iff q p).1 e).symm hxq
      have hh2 : hid l p false q = false := by
        cases e : hid l p false q with
        | false => rfl
        | true =>
          exfalso
          obtain ⟨k, hk, hk2⟩ := List.any_eq_true.1 e
          simp only [Bool.false_or, Bool.and_eq_true] at hk2
          obtain ⟨⟨k1, k2⟩, k3, k4⟩ := hk2
          have g1 := hmax k hk (by simp [k1, k2])
          have g2 := inP_len (o2.2 k hk) (o2.2 p hx) k4
          have := inP_anti k4 (by omega)
          rw [this, sm_self] at k3; cases k3
      simp [hqp, hx2.2, hh2]
  · have hh : hid l p0 true q = false := by
      cases e : hid l p0 true q with
      | false => rfl
      | true =>
        exfalso
        obtain ⟨k, hk, hk2⟩ := List.any_eq_true.1 e
        simp only [Bool.true_or, Bool.and_true] at hk2
        exact hr ⟨k, hk, hk2⟩
    rw [hh, if_pos (by simp)]
    have : l.filter (fun p => (!sm q p && inP q p) && !hid l p false q) = [] := by
      rw [List.filter_eq_nil_iff]
      intro p hp hR
      rw [Bool.and_eq_true, Bool.and_eq_true] at hR
      have hpq : sm p q = false := by
        cases e : sm p q with
        | false => rfl
        | true =>
          have := hR.1.1
          rw [(sm_iff p q).1 e, sm_self] at this; cases this
      exact hr ⟨p, hp, by simp [hpq, hR.1.2]⟩
    rw [this]; rfl
/-- Those above are within one another. -/
theorem abv_chain {l : List Sp} {p : Sp} (h : tpF l p = 0) : (∀ x ∈ abv l p, OkP x ∧ inP p x = true) ∧ ∀ (i : Nat) (x y : Sp), (abv l p)[i]? = some x → (abv l p)[i + 1]? = some y → inP y x = true ∧ x.2 < y.2 := by
  obtain ⟨t1, t2⟩ := tpF_ok h
  obtain ⟨o1, o2⟩ := treF_ok t1
  have hm := fun x => abv_mem o2 t2 x
  refine ⟨fun x hx => ⟨o2.2 x ((hm x).1 hx).1, ((hm x).1 hx).2.1⟩, fun i x y hx hy => ?_⟩
  have hx' := (hm x).1 (List.mem_of_getElem? hx)
  have hy' := (hm y).1 (List.mem_of_getElem? hy)
  have hr : (abv l p).Pairwise (fun x y => x.2 < y.2) := abN_rise o2 _ _
  have hlt : x.2 < y.2 := by
    obtain ⟨hi, ex⟩ := List.getElem?_eq_some_iff.1 hx
    obtain ⟨hj, ey⟩ := List.getElem?_eq_some_iff.1 hy
    have := List.pairwise_iff_getElem.1 hr i (i + 1) hi hj (by omega)
    rw [ex, ey] at this
    exact this
  exact ⟨inP_chain (o2.2 x hx'.1) (o2.2 y hy'.1) hx'.2.1 hy'.2.1 (by omega), hlt⟩
/-- Who is below one has nothing between. -/
theorem blw_chain {l : List Sp} {p : Sp} (h : tpF l p = 0) {d : Sp} (hd : d ∈ blw l p false) : OkP d ∧ inP d p = true ∧ tpF l d = 0 ∧ ∀ k ∈ abv l d, OkP k ∧ (inP k p = true → k = p) := by
  obtain ⟨t1, t2⟩ := tpF_ok h
  obtain ⟨o1, o2⟩ := treF_ok t1
  obtain ⟨hdl, hd2⟩ := List.mem_filter.1 hd
  simp only [Bool.false_or, Bool.and_eq_true] at hd2
  obtain ⟨⟨d1, d2⟩, d3⟩ := hd2
  have hok := o2.2 d hdl
  refine ⟨hok, d2, tpF_mk t1 hok, fun k hk => ?_⟩
  obtain ⟨k1, k2, k3⟩ := (abv_mem o2 hok k).1 hk
  refine ⟨o2.2 k k1, fun hin => ?_⟩
  apply Classical.byContradiction
  intro hne
  have hkd : sm k d = false := by
    cases e : sm k d with
    | false => rfl
    | true => rw [(sm_iff k d).1 e] at k3; omega
  have hkp : sm k p = false := by
    cases e : sm k p with
    | false => rfl
    | true => exact absurd ((sm_iff k p).1 e) hne
  have : hid l p false d = true := List.any_eq_true.2 ⟨k, k1, by simp [hkd, hkp, k2, hin]⟩
  rw [this] at d3; cases d3
end Bur

/- What the program makes of trees: what is kept of a list, and a place found by halving. No program stands here. -/
namespace Bur
open Go

/-- Is p within q, and not q itself? -/
def und (p q : Sp) : Bool := inP p q && !sm p q
theorem und_iff (p q : Sp) : und p q = true ↔ inP p q = true ∧ p ≠ q := by
  unfold und
  rw [Bool.and_eq_true, Bool.not_eq_true']
  constructor
  · rintro ⟨h, k⟩
    exact ⟨h, fun e => by rw [(sm_iff p q).2 e] at k; cases k⟩
  · rintro ⟨h, k⟩
    refine ⟨h, ?_⟩
    cases e : sm p q with
    | false => rfl
    | true => exact absurd ((sm_iff p q).1 e) k
theorem und_len {p q : Sp} (hp : OkP p) (hq : OkP q) : und p q = true ↔ inP p q = true ∧ q.2 < p.2 := by
  rw [und_iff]
  constructor
  · rintro ⟨h, k⟩
    refine ⟨h, ?_⟩
    have := inP_len hp hq h
    by_cases e : p.2 = q.2
    · exact absurd (inP_anti h e) k
    · omega
  · rintro ⟨h, k⟩
    exact ⟨h, fun e => by rw [e] at k; omega⟩
theorem sm_comm (p q : Sp) : sm p q = sm q p := by
  rw [Bool.eq_iff_iff, sm_iff, sm_iff]
  exact ⟨Eq.symm, Eq.symm⟩
/-- Two lists that rise, with the same members, are one. -/
theorem rise_eq : ∀ (l m : List Sp), l.Pairwise (fun x y => x.2 < y.2) → m.Pairwise (fun x y => x.2 < y.2) → (∀ x, x ∈ l ↔ x ∈ m) → l = m
  | [], [], _, _, _ => rfl
  | [], q :: m, _, _, h => by have := (h q).2 (by simp); cases this
  | q :: l, [], _, _, h => by have := (h q).1 (by simp); cases this
  | p :: l, q :: m, h1, h2, h => by
    have a1 := List.pairwise_cons.1 h1
    have a2 := List.pairwise_cons.1 h2
    have e : p = q := by
      rcases List.mem_cons.1 ((h p).1 (by simp)) with e | g
      · exact e
      · rcases List.mem_cons.1 ((h q).2 (by simp)) with e | k
        · exact e.symm
        · have := a2.1 p g
          have := a1.1 q k
          omega
    subst e
    congr 1
    refine rise_eq l m a1.2 a2.2 (fun x => ?_)
    have hx := h x
    rw [List.mem_cons, List.mem_cons] at hx
    constructor
    · intro g
      rcases hx.1 (.inr g) with e | k
      · subst e; have := a1.1 x g; omega
      · exact k
    · intro g
      rcases hx.2 (.inr g) with e | k
      · subst e; have := a2.1 x g; omega
      · exact k
/-- Those of a tree that have one prefix within them rise by their lengths. -/
theorem keep_rise {l : List Sp} (hl : IsT l) {p : Sp} {f : Sp → Bool} (hf : ∀ q, f q = true → inP p q = true) : (l.filter f).Pairwise (fun x y => x.2 < y.2) := by
  have h1 := List.Pairwise.filter f hl.1
  refine List.Pairwise.imp_of_mem (R := fun x y => ahd x y = true) ?_ h1
  intro x y hx hy h
  rw [List.mem_filter] at hx hy
  apply Int.not_le.1
  intro hle
  have := inP_chain (hl.2 y hy.1) (hl.2 x hx.1) (hf y hy.2) (hf x hx.2) hle
  rw [inP_iff] at this
  rw [ahd_iff] at h
  omega
theorem abv_keep {l : List Sp} {p : Sp} (hl : IsT l) (hp : OkP p) : l.filter (fun q => und p q) = abv l p := by
  refine rise_eq _ _ (keep_rise hl (p := p) (fun q h => ((und_iff p q).1 h).1)) (abN_rise hl _ _) (fun x => ?_)
  rw [List.mem_filter, abv_mem hl hp]
  constructor
  · rintro ⟨h1, h2⟩
    exact ⟨h1, (und_len hp (hl.2 x h1)).1 h2⟩
  · rintro ⟨h1, h2⟩
    exact ⟨h1, (und_len hp (hl.2 x h1)).2 h2⟩
/-- Those of a list that are within no other one of it. -/
def rts (m : List Sp) : List Sp := m.filter fun q => !m.any fun r => und q r
theorem blw_keep (l : List Sp) (p : Sp) : rts (l.filter fun q => und q p) = blw l p false := by
  unfold rts blw
  rw [List.filter_filter]
  apply List.filter_congr
  intro q _
  rw [List.any_filter]
  unfold hid und
  simp only [Bool.false_or]
  rw [Bool.and_comm]
  congr 1
  · rw [Bool.and_comm]
  · congr 1
    congr 1
    funext k
    rw [sm_comm q k, Bool.and_comm]
    congr 1
    · rw [Bool.and_comm]
    · rw [Bool.and_comm]
theorem rts_keep (l : List Sp) (p : Sp) : rts l = blw l p true := by
  unfold rts blw
  apply List.filter_congr
  intro q _
  unfold hid und
  simp only [Bool.true_or, Bool.and_true, Bool.true_and]
  congr 1
  congr 1
  funext k
  rw [sm_comm q k, Bool.and_comm]
/-- What has an address. -/
theorem has_keep (a : Int) (q : Sp) : (sm q (a, 32) || und (a, 32) q) = hs q a := by
  rw [hs_in, Bool.eq_iff_iff, Bool.or_eq_true, sm_iff, und_iff]
  constructor
  · rintro (rfl | h)
    · exact inP_refl _
    · exact h.1
  · intro h
    by_cases e : q = (a, 32)
    · exact .inl e
    · exact .inr ⟨h, fun k => e k.symm⟩
theorem fnd_keep {l : List Sp} (hl : IsT l) (a : Int) : fnd a none l = (l.filter fun q => hs q a).getLast? := by
  obtain ⟨s1, s2⟩ := fnd_spec a l none (fun b hb => by cases hb)
  cases hf : fnd a none l with
  | none =>
    have h := (s2 hf).2
    rw [show l.filter (fun q => hs q a) = [] from List.filter_eq_nil_iff.2 (fun y hy => by rw [h y hy]; simp)]
    rfl
  | some x =>
    obtain ⟨h1, h2, h3, _⟩ := s1 x hf
    have h2' : x ∈ l := by
      rcases h2 with h | h
      · exact h
      · cases h
    have hr := keep_rise hl (p := (a, 32)) (f := fun q => hs q a) (fun q h => by rw [← hs_in]; exact h)
    have hm : x ∈ l.filter fun q => hs q a := List.mem_filter.2 ⟨h2', h1⟩
    cases hL : (l.filter fun q => hs q a).getLast? with
    | none => rw [List.getLast?_eq_none_iff] at hL; rw [hL] at hm; cases hm
    | some y =>
      have hym := List.mem_of_getLast? hL
      rw [List.mem_filter] at hym
      have hle := h3 y hym.1 hym.2
      obtain ⟨ys, hys⟩ := List.getLast?_eq_some_iff.1 hL
      rw [hys] at hm hr
      rcases List.mem_append.1 hm with g | g
      · have := (List.pairwise_append.1 hr).2.2 x g y (by simp)
        omega
      · rw [List.mem_singleton] at g
        rw [g]

/-- How two prefixes stand. -/
def cmI (a b : Int) : Int := if a < b then -1 else if b < a then 1 else 0
def ordP (p q : Sp) : Int := if cmI p.1 q.1 = 0 then cmI p.2 q.2 else cmI p.1 q.1
theorem cmI_0 (a b : Int) : cmI a b = 0 ↔ a = b := by unfold cmI; (repeat' split) <;> omega
theorem cmI_lt (a b : Int) : cmI a b < 0 ↔ a < b := by unfold cmI; (repeat' split) <;> omega
theorem cmI_bd (a b : Int) : -1 ≤ cmI a b ∧ cmI a b ≤ 1 := by unfold cmI; (repeat' split) <;> omega
theorem ordP_bd (p q : Sp) : -1 ≤ ordP p q ∧ ordP p q ≤ 1 := by unfold ordP; split <;> exact cmI_bd _ _
theorem ordP_0 (p q : Sp) : ordP p q = 0 ↔ p = q := by
  unfold ordP
  split
  · rename_i h
    rw [cmI_0] at h ⊢
    exact ⟨fun k => Prod.ext h k, fun k => by rw [k]⟩
  · rename_i h
    constructor
    · intro k; exact absurd k h
    · rintro rfl; exact absurd ((cmI_0 _ _).2 rfl) h
theorem ordP_lt (p q : Sp) : ordP p q < 0 ↔ ahd p q = true := by
  rw [ahd_iff]
  unfold ordP
  split
  · rename_i h
    rw [cmI_0] at h
    rw [cmI_lt]
    omega
  · rename_i h
    rw [cmI_0] at h
    rw [cmI_lt]
    omega
theorem ordP_ge (p q : Sp) : 0 ≤ ordP p q ↔ ahd p q = false := by
  have := ordP_lt p q
  cases h : ahd p q with
  | true => rw [h] at this; simp at this ⊢; omega
  | false => rw [h] at this; simp at this ⊢; omega

/-- The first of two that is not 0. -/
def orI (x y : Int) : Int := if x = 0 then y else x
theorem orI_0 (y : Int) : orI 0 y = y := rfl
theorem orI_ne {x : Int} (h : x ≠ 0) (y : Int) : orI x y = x := if_neg h
theorem ordP_or (p q : Sp) : orI (cmI p.1 q.1) (cmI p.2 q.2) = ordP p q := rfl
/-- A place: all ahead of it stand ahead of p, none behind it does. -/
def AtP (l : List Sp) (p : Sp) (i j : Nat) : Prop := (∀ t, t < i → ahd (l.getD t (0, 0)) p = true) ∧ ∀ t, j ≤ t → t < l.length → ahd (l.getD t (0, 0)) p = false
theorem isT_get {l : List Sp} (hl : IsT l) {s t : Nat} (h : s < t) (ht : t < l.length) : ahd (l.getD s (0, 0)) (l.getD t (0, 0)) = true := by
  have := List.pairwise_iff_getElem.1 hl.1 s t (by omega) ht h
  simpa [List.getD, List.getElem?_eq_getElem ht, List.getElem?_eq_getElem (show s < l.length by omega)] using this
theorem AtP.up {l : List Sp} (hl : IsT l) {p : Sp} {i j h : Nat} (g : AtP l p i j) (hh : h < l.length) (ha : ahd (l.getD h (0, 0)) p = true) : AtP l p (h + 1) j := by
  refine ⟨fun t ht => ?_, g.2⟩
  by_cases e : t = h
  · rw [e]; exact ha
  · exact ahd_trans (isT_get hl (show t < h by omega) hh) ha
theorem AtP.down {l : List Sp} (hl : IsT l) {p : Sp} {i j h : Nat} (g : AtP l p i j) (ha : ahd (l.getD h (0, 0)) p = false) : AtP l p i h := by
  refine ⟨g.1, fun t ht ht2 => ?_⟩
  by_cases e : t = h
  · rw [e]; exact ha
  · cases k : ahd (l.getD t (0, 0)) p with
    | false => rfl
    | true => rw [ahd_trans (isT_get hl (show h < t by omega) ht2) k] at ha; cases ha
/-- Is p there, it is at its place. -/
theorem AtP.has {l : List Sp} (hl : IsT l) {p : Sp} {i : Nat} (g : AtP l p i i) : hasP p l = (decide (i < l.length) && decide (l.getD i (0, 0) = p)) := by
  rw [Bool.eq_iff_iff, hasP_iff, Bool.and_eq_true, decide_eq_true_eq, decide_eq_true_eq]
  constructor
  · intro h
    obtain ⟨t, ht, e⟩ := List.mem_iff_getElem.1 h
    have e' : l.getD t (0, 0) = p := by simpa [List.getD, List.getElem?_eq_getElem ht] using e
    have h1 : ¬ t < i := fun k => by
      have := g.1 t k
      rw [e'] at this
      exact ahd_ne this rfl
    have h2 : ¬ i < t := fun k => by
      have a := isT_get hl k ht
      rw [e', g.2 i (Nat.le_refl _) (by omega)] at a
      cases a
    have : t = i := by omega
    subst this
    exact ⟨ht, e'⟩
  · rintro ⟨h1, h2⟩
    rw [← h2]
    simp [List.getD, List.getElem?_eq_getElem h1]
theorem AtP.ins : ∀ {l : List Sp} {p : Sp} {i : Nat}, AtP l p i i → i ≤ l.length → p ∉ l → insT p l = l.take i ++ p :: l.drop i
  | [], p, i, _, h, _ => by
    have : i = 0 := by simpa using h
    subst this
    rfl
  | q :: r, p, 0, g, _, hn => by
    have h : ahd q p = false := g.2 0 (Nat.le_refl _) (by simp)
    rw [insT, if_pos (ahd_or (fun e => hn (by rw [← e]; simp)) h)]
    rfl
  | q :: r, p, i + 1, g, h, hn => by
    have h0 : ahd q p = true := g.1 0 (by omega)
    have hnot : ¬ ahd p q = true := fun k => ahd_ne (ahd_trans h0 k) rfl
    rw [insT, if_neg hnot]
    have := AtP.ins (l := r) (p := p) (i := i) ⟨fun t ht => g.1 (t + 1) (by omega), fun t ht ht2 => g.2 (t + 1) (by omega) (by simpa using ht2)⟩ (by simpa using h) (fun k => hn (by simp [k]))
    rw [this]
    rfl
/-- What the questions answer, faults too. -/
def abvS (l : List Sp) (p : Sp) : List Sp := if tpF l p = 0 then abv l p else []
def blwS (l : List Sp) (p : Sp) : List Sp := if tpF l p = 0 then blw l p false else []
def rtsS (l : List Sp) : List Sp := if treF l = 0 then rts l else []
end Bur
