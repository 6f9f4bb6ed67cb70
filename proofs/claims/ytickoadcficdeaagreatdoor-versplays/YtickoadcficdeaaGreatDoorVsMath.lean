/- Versions of keys, in the order in which they were put: what is seen at a number, what is told of keys between two, what is forgotten. No program stands here. -/
import Derived.Lib.Strings
namespace Vs
open Go

/-- A version of a key: its value, its number, whether it is gone. -/
structure Ver where
  k : ByteArray
  v : ByteArray
  n : Int
  g : Bool
deriving DecidableEq

/-- By bytes. -/
def bl (a b : ByteArray) : Bool := Op.bytesLess a.toList b.toList
theorem toL {a b : ByteArray} : a.toList = b.toList ↔ a = b := by
  constructor
  · intro h
    rw [Lib.toList_data, Lib.toList_data] at h
    cases a; cases b
    simpa using congrArg List.toArray h
  · rintro rfl; rfl
theorem beq_str (a b : ByteArray) : (a.toList == b.toList) = decide (a = b) := by
  by_cases h : a = b
  · subst h; simp
  · rw [decide_eq_false h]
    have : a.toList ≠ b.toList := fun g => h (toL.1 g)
    simpa using this
theorem bls_irr : ∀ x : List UInt8, Op.bytesLess x x = false
  | [] => rfl
  | a :: x => by simp [Op.bytesLess, bls_irr x, UInt8.lt_irrefl]
theorem bls_trans : ∀ x y z : List UInt8, Op.bytesLess x y = true → Op.bytesLess y z = true → Op.bytesLess x z = true
  | [], [], _, h, _ => by simp [Op.bytesLess] at h
  | [], _ :: _, [], _, h => by simp [Op.bytesLess] at h
  | [], _ :: _, _ :: _, _, _ => by simp [Op.bytesLess]
  | _ :: _, [], _, h, _ => by simp [Op.bytesLess] at h
  | _ :: _, _ :: _, [], _, h => by simp [Op.bytesLess] at h
  | a :: x, b :: y, c :: z, h1, h2 => by
    simp only [Op.bytesLess, Bool.or_eq_true, Bool.and_eq_true, decide_eq_true_eq, beq_iff_eq] at h1 h2 ⊢
    rcases h1 with h1 | ⟨rfl, h1⟩
    · rcases h2 with h2 | ⟨rfl, h2⟩
      · exact .inl (UInt8.lt_trans h1 h2)
      · exact .inl h1
    · rcases h2 with h2 | ⟨rfl, h2⟩
      · exact .inl h2
      · exact .inr ⟨rfl, bls_trans x y z h1 h2⟩
theorem bls_tri : ∀ x y : List UInt8, Op.bytesLess x y = false → Op.bytesLess y x = false → x = y
  | [], [], _, _ => rfl
  | [], _ :: _, h, _ => by simp [Op.bytesLess] at h
  | _ :: _, [], _, h => by simp [Op.bytesLess] at h
  | a :: x, b :: y, h1, h2 => by
    simp only [Op.bytesLess, Bool.or_eq_false_iff, Bool.and_eq_false_iff, decide_eq_false_iff_not, beq_eq_false_iff_ne] at h1 h2
    have e : a = b := UInt8.le_antisymm (UInt8.not_lt.1 h2.1) (UInt8.not_lt.1 h1.1)
    subst e
    have h1' := h1.2.resolve_left (fun g => g rfl)
    have h2' := h2.2.resolve_left (fun g => g rfl)
    rw [bls_tri x y h1' h2']
theorem bl_irr (a : ByteArray) : bl a a = false := bls_irr _
theorem bl_trans {a b c : ByteArray} (h1 : bl a b = true) (h2 : bl b c = true) : bl a c = true := bls_trans _ _ _ h1 h2
theorem bl_tri {a b : ByteArray} (h1 : bl a b = false) (h2 : bl b a = false) : a = b := toL.1 (bls_tri _ _ h1 h2)
theorem bl_asym {a b : ByteArray} (h1 : bl a b = true) : bl b a = false := by
  cases h : bl b a
  · rfl
  · have := bl_trans h1 h; rw [bl_irr] at this; cases this
theorem bl_ne {a b : ByteArray} (h : bl a b = true) : a ≠ b := fun e => by rw [e, bl_irr] at h; cases h

theorem memF {α : Type} {p : α → Bool} {l : List α} {x : α} (h : x ∈ l.filter p) : x ∈ l := (List.mem_filter.1 h).1
/-- From low on, below high. -/
def btw (lo hi k : ByteArray) : Bool := !bl k lo && bl k hi

/-- A version that may be. -/
def OkV (x : Ver) : Prop := 1 ≤ x.k.size ∧ x.k.size ≤ 24 ∧ x.v.size ≤ 12 ∧ 1 ≤ x.n ∧ x.n ≤ 1000000
/-- Versions as they were put, and the greatest number ever put. -/
structure OkT (l : List Ver) (top : Int) : Prop where
  each : ∀ x ∈ l, OkV x ∧ x.n ≤ top
  rise : l.Pairwise (fun x y => x.n ≤ y.n)
  once : l.Pairwise (fun x y => ¬ (x.k = y.k ∧ x.n = y.n))
  t0 : 0 ≤ top
  t1 : top ≤ 1000000
theorem OkT.nil : OkT [] 0 := ⟨fun _ h => by simp at h, .nil, .nil, by decide, by decide⟩
/-- The fault of what is put. -/
def shF (k v : ByteArray) : Int := if k.size < 1 ∨ 24 < k.size ∨ 12 < v.size then 2 else 0
def ptF (x : Ver) (top : Int) : Int := if shF x.k x.v = 0 then (if x.n < 1 ∨ 1000000 < x.n then 1 else if x.n < top then 7 else 0) else 2
theorem ptF_ok {x : Ver} {top : Int} (h : ptF x top = 0) : OkV x ∧ top ≤ x.n := by
  unfold ptF shF at h
  by_cases h1 : x.k.size < 1 ∨ 24 < x.k.size ∨ 12 < x.v.size
  · rw [if_pos h1] at h; simp at h
  · rw [if_neg h1, if_pos rfl] at h
    by_cases h2 : x.n < 1 ∨ 1000000 < x.n
    · rw [if_pos h2] at h; cases h
    · rw [if_neg h2] at h
      by_cases h3 : x.n < top
      · rw [if_pos h3] at h; cases h
      · exact ⟨⟨by omega, by omega, by omega, by omega, by omega⟩, by omega⟩
/-- One more. -/
def same (x y : Ver) : Bool := decide (y.k = x.k) && decide (y.n = x.n)
def vput (l : List Ver) (x : Ver) : List Ver := l.filter (fun y => !same x y) ++ [x]
theorem OkT.put {l : List Ver} {top : Int} {x : Ver} (h : OkT l top) (hx : ptF x top = 0) : OkT (vput l x) x.n := by
  obtain ⟨hv, ht⟩ := ptF_ok hx
  have h0 := h.t0
  refine ⟨fun y hy => ?_, ?_, ?_, by omega, hv.2.2.2.2⟩
  · rcases List.mem_append.1 hy with hy | hy
    · obtain ⟨g1, g2⟩ := h.each y (memF hy)
      exact ⟨g1, by omega⟩
    · rw [List.mem_singleton.1 hy]; exact ⟨hv, Int.le_refl _⟩
  · refine List.pairwise_append.2 ⟨h.rise.filter _, List.pairwise_singleton _ _, fun y hy z hz => ?_⟩
    rw [List.mem_singleton.1 hz]
    have := (h.each y (memF hy)).2
    omega
  · refine List.pairwise_append.2 ⟨h.once.filter _, List.pairwise_singleton _ _, fun y hy z hz => ?_⟩
    rw [List.mem_singleton.1 hz]
    have := (List.mem_filter.1 hy).2
    rintro ⟨e1, e2⟩
    simp [same, e1, e2] at this
/-- What is seen of a key at a number. -/
def hit (k : ByteArray) (a : Int) (x : Ver) : Bool := decide (x.k = k) && decide (x.n ≤ a)
def see (l : List Ver) (k : ByteArray) (a : Int) : Option Ver := (l.filter (hit k a)).getLast?
theorem see_some {l : List Ver} {k : ByteArray} {a : Int} {x : Ver} (h : see l k a = some x) : x ∈ l ∧ x.k = k ∧ x.n ≤ a := by
  have := List.mem_of_getLast? h
  rw [List.mem_filter] at this
  simpa [hit] using this
/-- .. it has the greatest number. -/
theorem see_max {l : List Ver} {top : Int} (hT : OkT l top) {k : ByteArray} {a : Int} {x y : Ver} (h : see l k a = some x) (hy : y ∈ l) (h1 : y.k = k) (h2 : y.n ≤ a) : y.n ≤ x.n := by
  have hm : y ∈ l.filter (hit k a) := List.mem_filter.2 ⟨hy, by simp [hit, h1, h2]⟩
  have hp : (l.filter (hit k a)).Pairwise (fun x y => x.n ≤ y.n) := hT.rise.filter _
  unfold see at h
  obtain ⟨ys, e⟩ := List.getLast?_eq_some_iff.1 h
  rw [e] at hm hp
  rcases List.mem_append.1 hm with hm | hm
  · exact (List.pairwise_append.1 hp).2.2 y hm x (by simp)
  · rw [List.mem_singleton.1 hm]; exact Int.le_refl _
theorem once_eq {l : List Ver} {top : Int} (hT : OkT l top) {x y : Ver} (hx : x ∈ l) (hy : y ∈ l) (h1 : x.k = y.k) (h2 : x.n = y.n) : x = y := by
  apply Classical.byContradiction
  intro hne
  have key : ∀ (l : List Ver), l.Pairwise (fun x y => ¬ (x.k = y.k ∧ x.n = y.n)) → x ∈ l → y ∈ l → False := by
    intro l
    induction l with
    | nil => intro _ h; simp at h
    | cons z r ih =>
      intro hp a b
      rw [List.pairwise_cons] at hp
      rcases List.mem_cons.1 a with a' | a'
      · rcases List.mem_cons.1 b with b' | b'
        · exact hne (a'.trans b'.symm)
        · exact hp.1 y b' ⟨by rw [← a']; exact h1, by rw [← a']; exact h2⟩
      · rcases List.mem_cons.1 b with b' | b'
        · exact hp.1 x a' ⟨by rw [← b']; exact h1.symm, by rw [← b']; exact h2.symm⟩
        · exact ih hp.2 a' b'
  exact key l hT.once hx hy
/-- .. and is told by that. -/
theorem see_is {l : List Ver} {top : Int} (hT : OkT l top) {k : ByteArray} {a : Int} {x : Ver} (hx : x ∈ l) (h1 : x.k = k) (h2 : x.n ≤ a) (h3 : ∀ y ∈ l, y.k = k → y.n ≤ a → y.n ≤ x.n) : see l k a = some x := by
  cases e : see l k a with
  | none =>
    have : l.filter (hit k a) = [] := List.getLast?_eq_none_iff.1 e
    have hm : x ∈ l.filter (hit k a) := List.mem_filter.2 ⟨hx, by simp [hit, h1, h2]⟩
    rw [this] at hm; simp at hm
  | some y =>
    obtain ⟨g1, g2, g3⟩ := see_some e
    have e1 := h3 y g1 g2 g3
    have e2 := see_max hT e hx h1 h2
    rw [once_eq hT g1 hx (g2.trans h1.symm) (by omega)]
theorem see_none {l : List Ver} {k : ByteArray} {a : Int} : see l k a = none ↔ ∀ y ∈ l, y.k = k → ¬ y.n ≤ a := by
  unfold see
  rw [List.getLast?_eq_none_iff, List.filter_eq_nil_iff]
  constructor
  · intro h y hy h1 h2
    exact h y hy (by simp [hit, h1, h2])
  · intro h y hy g
    simp [hit] at g
    exact h y hy g.1 g.2
/-- What Get tells. -/
def vget (l : List Ver) (k : ByteArray) (a : Int) : Option ByteArray := match see l k a with
  | some x => if x.g = true then none else some x.v
  | none => none
theorem vget_some {l : List Ver} {k : ByteArray} {a : Int} {v : ByteArray} : vget l k a = some v ↔ ∃ x, see l k a = some x ∧ x.g = false ∧ x.v = v := by
  unfold vget
  cases e : see l k a with
  | none => simp
  | some x =>
    by_cases h : x.g = true
    · simp [h]
    · simp [h]
/-- What Collect leaves. -/
def kept (l : List Ver) (a : Int) (x : Ver) : Bool := decide (a < x.n) || (decide (see l x.k a = some x) && !x.g)
def vcol (l : List Ver) (a : Int) : List Ver := l.filter (kept l a)
theorem OkT.col {l : List Ver} {top : Int} (h : OkT l top) (a : Int) : OkT (vcol l a) top :=
  ⟨fun x hx => h.each x (memF hx), h.rise.filter _, h.once.filter _, h.t0, h.t1⟩
/-- Behind it a Get with that number, or a greater one, tells what it told. -/
theorem vget_col {l : List Ver} {top : Int} (hT : OkT l top) {a b : Int} (hab : a ≤ b) (k : ByteArray) : vget (vcol l a) k b = vget l k b := by
  have hC := hT.col a
  cases e : see l k b with
  | none =>
    have : see (vcol l a) k b = none := see_none.2 (fun y hy => see_none.1 e y (memF hy))
    rw [vget, this, vget, e]
  | some x =>
    obtain ⟨g1, g2, g3⟩ := see_some e
    by_cases hk : kept l a x = true
    · have : see (vcol l a) k b = some x := see_is hC (List.mem_filter.2 ⟨g1, hk⟩) g2 g3 (fun y hy h1 h2 => see_max hT e (memF hy) h1 h2)
      rw [vget, this, vget, e]
    · have hk' : kept l a x = false := by simpa using hk
      simp only [kept, Bool.or_eq_false_iff, decide_eq_false_iff_not, Bool.and_eq_false_iff, Bool.not_eq_false'] at hk'
      obtain ⟨h1, h2⟩ := hk'
      have hx : see l x.k a = some x := see_is hT g1 rfl (by omega) (fun y hy h3 h4 => see_max hT e hy (h3.trans g2) (by omega))
      have hg : x.g = true := h2.resolve_left (fun g => g hx)
      have : see (vcol l a) k b = none := see_none.2 (fun y hy h3 h4 => by
        obtain ⟨m1, m2⟩ := List.mem_filter.1 hy
        have h5 := see_max hT e m1 h3 h4
        simp only [kept, Bool.or_eq_true, decide_eq_true_eq, Bool.and_eq_true, Bool.not_eq_true'] at m2
        rcases m2 with m2 | ⟨m2, m3⟩
        · omega
        · rw [h3, ← g2, hx] at m2
          cases m2
          rw [hg] at m3; cases m3)
      rw [vget, this, vget, e]; simp [hg]
/-- Collected again nothing is forgotten. -/
theorem vcol_again {l : List Ver} {top : Int} (hT : OkT l top) (a : Int) : vcol (vcol l a) a = vcol l a := by
  apply List.filter_eq_self.2
  intro x hx
  have hk := (List.mem_filter.1 hx).2
  have hC := hT.col a
  simp only [kept, Bool.or_eq_true, decide_eq_true_eq, Bool.and_eq_true, Bool.not_eq_true'] at hk ⊢
  rcases hk with hk | ⟨h1, h2⟩
  · exact .inl hk
  · obtain ⟨g1, g2, g3⟩ := see_some h1
    exact .inr ⟨see_is hC hx rfl g3 (fun y hy h3 h4 => see_max hT h1 (memF hy) h3 h4), h2⟩
/-- What was told of a number does not change by what is put later. -/
theorem see_put {l : List Ver} {x : Ver} {k : ByteArray} {a : Int} (h : a < x.n) : see (vput l x) k a = see l k a := by
  unfold see vput
  rw [List.filter_append, show [x].filter (hit k a) = [] from by simp [hit]; intro; omega, List.append_nil, List.filter_filter]
  congr 1
  apply List.filter_congr
  intro y _
  by_cases hy : hit k a y = true
  · have : y.n ≠ x.n := fun e => by simp [hit] at hy; omega
    simp [hy, same, this]
  · simp [hy]
theorem vget_put {l : List Ver} {x : Ver} {k : ByteArray} {a : Int} (h : a < x.n) : vget (vput l x) k a = vget l k a := by
  unfold vget; rw [see_put h]
/-- Nothing is there ahead of the first number. -/
theorem vget_0 {l : List Ver} {top : Int} (hT : OkT l top) {a : Int} (ha : a < 1) (k : ByteArray) : vget l k a = none := by
  have : see l k a = none := see_none.2 (fun y hy _ h => by have := (hT.each y hy).1.2.2.2.1; omega)
  rw [vget, this]
end Vs
