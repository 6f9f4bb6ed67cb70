/- Versions of keys, in the order in which they were put: what is seen at a number, what is told of keys between two, what is forgotten. No program stands here. -/
import Derived.Lib.Strings
namespace Vs
open Go

/-- A version of a key: its value, its number, whether it is gone. -/
structure Ver where
  k : ByteArray
  v : ByteArray
  n : Int
  g : Bool
deriving DecidableEq

/-- By bytes. -/
def bl (a b : ByteArray) : Bool := Op.bytesLess a.toList b.toList
theorem toL {a b : ByteArray} : a.toList = b.toList ↔ a = b := by
  constructor
  · intro h
    rw [Lib.toList_data, Lib.toList_data] at h
    cases a; cases b
    simpa using congrArg List.toArray h
  · rintro rfl; rfl
theorem beq_str (a b : ByteArray) : (a.toList == b.toList) = decide (a = b) := by
  by_cases h : a = b
  · subst h; simp
  · rw [decide_eq_false h]
    have : a.toList ≠ b.toList := fun g => h (toL.1 g)
    simpa using this
theorem bls_irr : ∀ x : List UInt8, Op.bytesLess x x = false
  | [] => rfl
  | a :: x => by simp [Op.bytesLess, bls_irr x, UInt8.lt_irrefl]
theorem bls_trans : ∀ x y z : List UInt8, Op.bytesLess x y = true → Op.bytesLess y z = true → Op.bytesLess x z = true
  | [], [], _, h, _ => by simp [Op.bytesLess] at h
  | [], _ :: _, [], _, h => by simp [Op.bytesLess] at h
  | [], _ :: _, _ :: _, _, _ => by simp [Op.bytesLess]
  | _ :: _, [], _, h, _ => by simp [Op.bytesLess] at h
  | _ :: _, _ :: _, [], _, h => by simp [Op.bytesLess] at h
  | a :: x, b :: y, c :: z, h1, h2 => by
    simp only [Op.bytesLess, Bool.or_eq_true, Bool.and_eq_true, decide_eq_true_eq, beq_iff_eq] at h1 h2 ⊢
    rcases h1 with h1 | ⟨rfl, h1⟩
    · rcases h2 with h2 | ⟨rfl, h2⟩
      · exact .inl (UInt8.lt_trans h1 h2)
      · exact .inl h1
    · rcases h2 with h2 | ⟨rfl, h2⟩
      · exact .inl h2
      · exact .inr ⟨rfl, bls_trans x y z h1 h2⟩
theorem bls_tri : ∀ x y : List UInt8, Op.bytesLess x y = false → Op.bytesLess y x = false → x = y
  | [], [], _, _ => rfl
  | [], _ :: _, h, _ => by simp [Op.bytesLess] at h
  | _ :: _, [], _, h => by simp [Op.bytesLess] at h
  | a :: x, b :: y, h1, h2 => by
    simp only [Op.bytesLess, Bool.or_eq_false_iff, Bool.and_eq_false_iff, decide_eq_false_iff_not, beq_eq_false_iff_ne] at h1 h2
    have e : a = b := UInt8.le_antisymm (UInt8.not_lt.1 h2.1) (UInt8.not_lt.1 h1.1)
    subst e
    have h1' := h1.2.resolve_left (fun g => g rfl)
    have h2' := h2.2.resolve_left (fun g => g rfl)
    rw [bls_tri x y h1' h2']
theorem bl_irr (a : ByteArray) : bl a a = false := bls_irr _
theorem bl_trans {a b c : ByteArray} (h1 : bl a b = true) (h2 : bl b c = true) : bl a c = true := bls_trans _ _ _ h1 h2
theorem bl_tri {a b : ByteArray} (h1 : bl a b = false) (h2 : bl b a = false) : a = b := toL.1 (bls_tri _ _ h1 h2)
theorem bl_asym {a b : ByteArray} (h1 : bl a b = true) : bl b a = false := by
  cases h : bl b a
  · rfl
  · have := bl_trans h1 h; rw [bl_irr] at this; cases this
theorem bl_ne {a b : ByteArray} (h : bl a b = true) : a ≠ b := fun e => by rw [e, bl_irr] at h; cases h

theorem memF {α : Type} {p : α → Bool} {l : List α} {x : α} (h : x ∈ l.filter p) : x ∈ l := (List.mem_filter.1 h).1
/-- From low on, below high. -/
def btw (lo hi k : ByteArray) : Bool := !bl k lo && bl k hi

/-- A version that may be. -/
def OkV (x : Ver) : Prop := 1 ≤ x.k.size ∧ x.k.size ≤ 24 ∧ x.v.size ≤ 12 ∧ 1 ≤ x.n ∧ x.n ≤ 1000000
/-- Versions as they were put, and the greatest number ever put. -/
structure OkT (l : List Ver) (top : Int) : Prop where
  each : ∀ x ∈ l, OkV x ∧ x.n ≤ top
  rise : l.Pairwise (fun x y => x.n ≤ y.n)
  once : l.Pairwise (fun x y => ¬ (x.k = y.k ∧ x.n = y.n))
  t0 : 0 ≤ top
  t1 : top ≤ 1000000
theorem OkT.nil : OkT [] 0 := ⟨fun _ h => by simp at h, .nil, .nil, by decide, by decide⟩
/-- The fault of what is put. -/
def shF (k v : ByteArray) : Int := if k.size < 1 ∨ 24 < k.size ∨ 12 < v.size then 2 else 0
def ptF (x : Ver) (top : Int) : Int := if shF x.k x.v = 0 then (if x.n < 1 ∨ 1000000 < x.n then 1 else if x.n < top then 7 else 0) else 2
theorem ptF_ok {x : Ver} {top : Int} (h : ptF x top = 0) : OkV x ∧ top ≤ x.n := by
  unfold ptF shF at h
  by_cases h1 : x.k.size < 1 ∨ 24 < x.k.size ∨ 12 < x.v.size
  · rw [if_pos h1] at h; simp at h
  · rw [if_neg h1, if_pos rfl] at h
    by_cases h2 : x.n < 1 ∨ 1000000 < x.n
    · rw [if_pos h2] at h; cases h
    · rw [if_neg h2] at h
      by_cases h3 : x.n < top
      · rw [if_pos h3] at h; cases h
      · exact ⟨⟨by omega, by omega, by omega, by omega, by omega⟩, by omega⟩
/-- One more. -/
def same (x y : Ver) : Bool := decide (y.k = x.k) && decide (y.n = x.n)
def vput (l : List Ver) (x : Ver) : List Ver := l.filter (fun y => !same x y) ++ [x]
theorem OkT.put {l : List Ver} {top : Int} {x : Ver} (h : OkT l top) (hx : ptF x top = 0) : OkT (vput l x) x.n := by
  obtain ⟨hv, ht⟩ := ptF_ok hx
  have h0 := h.t0
  refine ⟨fun y hy => ?_, ?_, ?_, by omega, hv.2.2.2.2⟩
  · rcases List.mem_append.1 hy with hy | hy
    · obtain ⟨g1, g2⟩ := h.each y (memF hy)
      exact ⟨g1, by omega⟩
    · rw [List.mem_singleton.1 hy]; exact ⟨hv, Int.le_refl _⟩
  · refine List.pairwise_append.2 ⟨h.rise.filter _, List.pairwise_singleton _ _, fun y hy z hz => ?_⟩
    rw [List.mem_singleton.1 hz]
    have := (h.each y (memF hy)).2
    omega
  · refine List.pairwise_append.2 ⟨h.once.filter _, List.pairwise_singleton _ _, fun y hy z hz => ?_⟩
    rw [List.mem_singleton.1 hz]
    have := (List.mem_filter.1 hy).2
    rintro ⟨e1, e2⟩
    simp [same, e1, e2] at this
/-- What is seen of a key at a number. -/
def hit (k : ByteArray) (a : Int) (x : Ver) : Bool := decide (x.k = k) && decide (x.n ≤ a)
def see (l : List Ver) (k : ByteArray) (a : Int) : Option Ver := (l.filter (hit k a)).getLast?
theorem see_some {l : List Ver} {k : ByteArray} {a : Int} {x : Ver} (h : see l k a = some x) : x ∈ l ∧ x.k = k ∧ x.n ≤ a := by
  have := List.mem_of_getLast? h
  rw [List.mem_filter] at this
  simpa [hit] using this
/-- .. it has the greatest number. -/
theorem see_max {l : List Ver} {top : Int} (hT : OkT l top) {k : ByteArray} {a : Int} {x y : Ver} (h : see l k a = some x) (hy : y ∈ l) (h1 : y.k = k) (h2 : y.n ≤ a) : y.n ≤ x.n := by
  have hm : y ∈ l.filter (hit k a) := List.mem_filter.2 ⟨hy, by simp [hit, h1, h2]⟩
  have hp : (l.filter (hit k a)).Pairwise (fun x y => x.n ≤ y.n) := hT.rise.filter _
  unfold see at h
  obtain ⟨ys, e⟩ := List.getLast?_eq_some_iff.1 h
  rw [e] at hm hp
  rcases List.mem_append.1 hm with hm | hm
  · exact (List.pairwise_append.1 hp).2.2 y hm x (by simp)
  · rw [List.mem_singleton.1 hm]; exact Int.le_refl _
theorem once_eq {l : List Ver} {top : Int} (hT : OkT l top) {x y : Ver} (hx : x ∈ l) (hy : y ∈ l) (h1 : x.k = y.k) (h2 : x.n = y.n) : x = y := by
  apply Classical.byContradiction
  intro hne
  have key : ∀ (l : List Ver), l.Pairwise (fun x y => ¬ (x.k = y.k ∧ x.n = y.n)) → x ∈ l → y ∈ l → False := by
    intro l
    induction l with
    | nil => intro _ h; simp at h
    | cons z r ih =>
      intro hp a b
      rw [List.pairwise_cons] at hp
      rcases List.mem_cons.1 a with a' | a'
      · rcases List.mem_cons.1 b with b' | b'
        · exact hne (a'.trans b'.symm)
        · exact hp.1 y b' ⟨by rw [← a']; exact h1, by rw [← a']; exact h2⟩
      · rcases List.mem_cons.1 b with b' | b'
        · exact hp.1 x a' ⟨by rw [← b']; exact h1.symm, by rw [← b']; exact h2.symm⟩
        · exact ih hp.2 a' b'
  exact key l hT.once hx hy
/-- .. and is told by that. -/
theorem see_is {l : List Ver} {top : Int} (hT : OkT l top) {k : ByteArray} {a : Int} {x : Ver} (hx : x ∈ l) (h1 : x.k = k) (h2 : x.n ≤ a) (h3 : ∀ y ∈ l, y.k = k → y.n ≤ a → y.n ≤ x.n) : see l k a = some x := by
  cases e : see l k a with
  | none =>
    have : l.filter (hit k a) = [] := List.getLast?_eq_none_iff.1 e
    have hm : x ∈ l.filter (hit k a) := List.mem_filter.2 ⟨hx, by simp [hit, h1, h2]⟩
    rw [this] at hm; simp at hm
  | some y =>
    obtain ⟨g1, g2, g3⟩ := see_some e
    have e1 := h3 y g1 g2 g3
    have e2 := see_max hT e hx h1 h2
    rw [once_eq hT g1 hx (g2.trans h1.symm) (by omega)]
theorem see_none {l : List Ver} {k : ByteArray} {a : Int} : see l k a = none ↔ ∀ y ∈ l, y.k = k → ¬ y.n ≤ a := by
  unfold see
  rw [List.getLast?_eq_none_iff, List.filter_eq_nil_iff]
  constructor
  · intro h y hy h1 h2
    exact h y hy (by simp [hit, h1, h2])
  · intro h y hy g
    simp [hit] at g
    exact h y hy g.1 g.2
/-- What Get tells. -/
def vget (l : List Ver) (k : ByteArray) (a : Int) : Option ByteArray := match see l k a with
  | some x => if x.g = true then none else some x.v
  | none => none
theorem vget_some {l : List Ver} {k : ByteArray} {a : Int} {v : ByteArray} : vget l k a = some v ↔ ∃ x, see l k a = some x ∧ x.g = false ∧ x.v = v := by
  unfold vget
  cases e : see l k a with
  | none => simp
  | some x =>
    by_cases h : x.g = true
    · simp [h]
    · simp [h]
/-- What Collect leaves. -/
def kept (l : List Ver) (a : Int) (x : Ver) : Bool := decide (a < x.n) || (decide (see l x.k a = some x) && !x.g)
def vcol (l : List Ver) (a : Int) : List Ver := l.filter (kept l a)
theorem OkT.col {l : List Ver} {top : Int} (h : OkT l top) (a : Int) : OkT (vcol l a) top :=
  ⟨fun x hx => h.each x (memF hx), h.rise.filter _, h.once.filter _, h.t0, h.t1⟩
/-- Behind it a Get with that number, or a greater one, tells what it told. -/
theorem vget_col {l : List Ver} {top : Int} (hT : OkT l top) {a b : Int} (hab : a ≤ b) (k : ByteArray) : vget (vcol l a) k b = vget l k b := by
  have hC := hT.col a
  cases e : see l k b with
  | none =>
    have : see (vcol l a) k b = none := see_none.2 (fun y hy => see_none.1 e y (memF hy))
    rw [vget, this, vget, e]
  | some x =>
    obtain ⟨g1, g2, g3⟩ := see_some e
    by_cases hk : kept l a x = true
    · have : see (vcol l a) k b = some x := see_is hC (List.mem_filter.2 ⟨g1, hk⟩) g2 g3 (fun y hy h1 h2 => see_max hT e (memF hy) h1 h2)
      rw [vget, this, vget, e]
    · have hk' : kept l a x = false := by simpa using hk
      simp only [kept, Bool.or_eq_false_iff, decide_eq_false_iff_not, Bool.and_eq_false_iff, Bool.not_eq_false'] at hk'
      obtain ⟨h1, h2⟩ := hk'
      have hx : see l x.k a = some x := see_is hT g1 rfl (by omega) (fun y hy h3 h4 => see_max hT e hy (h3.trans g2) (by omega))
      have hg : x.g = true := h2.resolve_left (fun g => g hx)
      have : see (vcol l a) k b = none := see_none.2 (fun y hy h3 h4 => by
        obtain ⟨m1, m2⟩ := List.mem_filter.1 hy
        have h5 := see_max hT e m1 h3 h4
        simp only [kept, Bool.or_eq_true, decide_eq_true_eq, Bool.and_eq_true, Bool.not_eq_true'] at m2
        rcases m2 with m2 | ⟨m2, m3⟩
        · omega
        · rw [h3, ← g2, hx] at m2
          cases m2
          rw [hg] at m3; cases m3)
      rw [vget, this, vget, e]; simp [hg]
/-- Collected again nothing is forgotten. -/
theorem vcol_again {l : List Ver} {top : Int} (hT : OkT l top) (a : Int) : vcol (vcol l a) a = vcol l a := by
  apply List.filter_eq_self.2
  intro x hx
  have hk := (List.mem_filter.1 hx).2
  have hC := hT.col a
  simp only [kept, Bool.or_eq_true, decide_eq_true_eq, Bool.and_eq_true, Bool.not_eq_true'] at hk ⊢
  rcases hk with hk | ⟨h1, h2⟩
  · exact .inl hk
  · obtain ⟨g1, g2, g3⟩ := see_some h1
    exact .inr ⟨see_is hC hx rfl g3 (fun y hy h3 h4 => see_max hT h1 (memF hy) h3 h4), h2⟩
/-- What was told of a number does not change by what is put later. -/
theorem see_put {l : List Ver} {x : Ver} {k : ByteArray} {a : Int} (h : a < x.n) : see (vput l x) k a = see l k a := by
  unfold see vput
  rw [List.filter_append, show [x].filter (hit k a) = [] from by simp [hit]; intro; omega, List.append_nil, List.filter_filter]
  congr 1
  apply List.filter_congr
  intro y _
  by_cases hy : hit k a y = true
  · have : y.n ≠ x.n := fun e => by simp [hit] at hy; omega
    simp [hy, same, this]
  · simp [hy]
theorem vget_put {l : List Ver} {x : Ver} {k : ByteArray} {a : Int} (h : a < x.n) : vget (vput l x) k a = vget l k a := by
  unfold vget; rw [see_put h]
/-- Nothing is there ahead of the first number. -/
theorem vget_0 {l : List Ver} {top : Int} (hT : OkT l top) {a : Int} (ha : a < 1) (k : ByteArray) : vget l k a = none := by
  have : see l k a = none := see_none.2 (fun y hy _ h => by have := (hT.each y hy).1.2.2.2.1; omega)
  rw [vget, this]
end Vs

/- Versions of keys: what is told of keys between two, and what is touched; the places of what is seen. No program stands here. -/
namespace Vs
open Go

abbrev Pr := ByteArray × ByteArray
/-- In the order of their keys. -/
def rises (r : List Pr) : Prop := r.Pairwise (fun p q => bl p.1 q.1 = true)
theorem rises_uniq : ∀ {r s : List Pr}, rises r → rises s → (∀ p, p ∈ r ↔ p ∈ s) → r = s
  | [], [], _, _, _ => rfl
  | [], q :: s, _, _, h => by have := (h q).2 (by simp); simp at this
  | p :: r, [], _, _, h => by have := (h p).1 (by simp); simp at this
  | p :: r, q :: s, hr, hs, h => by
    obtain ⟨h1, h2⟩ := List.pairwise_cons.1 hr
    obtain ⟨g1, g2⟩ := List.pairwise_cons.1 hs
    have e : p = q := by
      rcases List.mem_cons.1 ((h p).1 (by simp)) with e | e
      · exact e
      · rcases List.mem_cons.1 ((h q).2 (by simp)) with e' | e'
        · exact e'.symm
        · have a1 := g1 p e
          have a2 := h1 q e'
          rw [bl_asym a1] at a2; cases a2
    subst e
    have : r = s := rises_uniq h2 g2 (fun x => by
      have hx := h x
      constructor
      · intro m
        rcases List.mem_cons.1 (hx.1 (by simp [m])) with e | e
        · subst e; have := h1 x m; rw [bl_irr] at this; cases this
        · exact e
      · intro m
        rcases List.mem_cons.1 (hx.2 (by simp [m])) with e | e
        · subst e; have := g1 x m; rw [bl_irr] at this; cases this
        · exact e)
    rw [this]
/-- One more, at its place. -/
def insP : List Pr → Pr → List Pr
  | [], p => [p]
  | q :: r, p => if bl p.1 q.1 = true then p :: q :: r else q :: insP r p
theorem mem_insP : ∀ {r : List Pr} {p x : Pr}, x ∈ insP r p ↔ x = p ∨ x ∈ r
  | [], p, x => by simp [insP]
  | q :: r, p, x => by
    rw [insP]
    split
    · simp
    · rw [List.mem_cons, mem_insP, List.mem_cons]
      constructor
      · rintro (h | h | h)
        · exact .inr (.inl h)
        · exact .inl h
        · exact .inr (.inr h)
      · rintro (h | h | h)
        · exact .inr (.inl h)
        · exact .inl h
        · exact .inr (.inr h)
theorem len_insP : ∀ (r : List Pr) (p : Pr), (insP r p).length = r.length + 1
  | [], _ => rfl
  | q :: r, p => by
    rw [insP]
    split
    · simp
    · simp [len_insP r p]
theorem rises_insP : ∀ {r : List Pr} {p : Pr}, rises r → (∀ q ∈ r, q.1 ≠ p.1) → rises (insP r p)
  | [], p, _, _ => List.pairwise_singleton _ _
  | q :: r, p, h, hn => by
    obtain ⟨h1, h2⟩ := List.pairwise_cons.1 h
    rw [insP]
    split
    · rename_i c
      refine List.pairwise_cons.2 ⟨fun x hx => ?_, h⟩
      rcases List.mem_cons.1 hx with rfl | hx
      · exact c
      · exact bl_trans c (h1 x hx)
    · rename_i c
      have c' : bl p.1 q.1 = false := by simpa using c
      refine List.pairwise_cons.2 ⟨fun x hx => ?_, rises_insP h2 (fun y hy => hn y (by simp [hy]))⟩
      rcases mem_insP.1 hx with rfl | hx
      · cases e : bl q.1 x.1
        · exact absurd (bl_tri e c') (hn q (by simp))
        · rfl
      · exact h1 x hx
/-- Is a version told of, at a number? -/
def told (l : List Ver) (lo hi : ByteArray) (a : Int) (x : Ver) : Bool := btw lo hi x.k && !x.g && decide (see l x.k a = some x)
/-- What Range tells. -/
def vrng (l : List Ver) (lo hi : ByteArray) (a : Int) : List Pr := (l.filter (told l lo hi a)).foldl (fun r x => insP r (x.k, x.v)) []
theorem fold_ins : ∀ (m : List Ver) (r : List Pr), rises r → (∀ x ∈ m, ∀ q ∈ r, q.1 ≠ x.k) → m.Pairwise (fun x y => x.k ≠ y.k) →
    rises (m.foldl (fun r x => insP r (x.k, x.v)) r) ∧ ∀ p, p ∈ m.foldl (fun r x => insP r (x.k, x.v)) r ↔ p ∈ r ∨ ∃ x ∈ m, p = (x.k, x.v)
  | [], r, h, _, _ => ⟨h, fun p => by simp⟩
  | x :: m, r, h, hn, hp => by
    obtain ⟨h1, h2⟩ := List.pairwise_cons.1 hp
    obtain ⟨i1, i2⟩ := fold_ins m (insP r (x.k, x.v)) (rises_insP h (hn x (by simp))) (fun y hy q hq => by
      rcases mem_insP.1 hq with rfl | hq
      · exact h1 y hy
      · exact hn y (by simp [hy]) q hq) h2
    refine ⟨i1, fun p => ?_⟩
    rw [List.foldl_cons, i2 p, mem_insP]
    constructor
    · rintro ((h | h) | ⟨y, hy, h⟩)
      · exact .inr ⟨x, by simp, h⟩
      · exact .inl h
      · exact .inr ⟨y, by simp [hy], h⟩
    · rintro (h | ⟨y, hy, h⟩)
      · exact .inl (.inr h)
      · rcases List.mem_cons.1 hy with rfl | hy
        · exact .inl (.inl h)
        · exact .inr ⟨y, hy, h⟩
/-- It is just what is got, in order. -/
theorem vrng_is {l : List Ver} {top : Int} (hT : OkT l top) (lo hi : ByteArray) (a : Int) : rises (vrng l lo hi a) ∧ ∀ p, p ∈ vrng l lo hi a ↔ btw lo hi p.1 = true ∧ vget l p.1 a = some p.2 := by
  have hk : (l.filter (told l lo hi a)).Pairwise (fun x y => x.k ≠ y.k) := by
    refine (hT.once.filter (told l lo hi a)).imp_of_mem (fun {x y} hx hy h => ?_)
    intro e
    have h1 := (List.mem_filter.1 hx).2
    have h2 := (List.mem_filter.1 hy).2
    simp only [told, Bool.and_eq_true, decide_eq_true_eq] at h1 h2
    rw [e, h2.2] at h1
    exact h ⟨e, by rw [Option.some.inj h1.2]⟩
  obtain ⟨h1, h2⟩ := fold_ins (l.filter (told l lo hi a)) [] .nil (fun _ _ q hq => by simp at hq) hk
  refine ⟨h1, fun p => ?_⟩
  rw [vrng, h2 p, vget_some]
  constructor
  · rintro (h | ⟨x, hx, rfl⟩)
    · simp at h
    · have h3 := (List.mem_filter.1 hx).2
      simp only [told, Bool.and_eq_true, decide_eq_true_eq, Bool.not_eq_true'] at h3
      exact ⟨h3.1.1, x, h3.2, h3.1.2, rfl⟩
  · rintro ⟨h3, x, h4, h5, h6⟩
    obtain ⟨g1, g2, g3⟩ := see_some h4
    refine .inr ⟨x, List.mem_filter.2 ⟨g1, ?_⟩, ?_⟩
    · simp only [told, Bool.and_eq_true, decide_eq_true_eq, Bool.not_eq_true']
      rw [g2]; exact ⟨⟨h3, h5⟩, h4⟩
    · rw [g2, h6]
theorem vrng_eq {l m : List Ver} {s t : Int} (hl : OkT l s) (hm : OkT m t) {a b : Int} (h : ∀ k, vget l k a = vget m k b) (lo hi : ByteArray) : vrng l lo hi a = vrng m lo hi b := by
  obtain ⟨h1, h2⟩ := vrng_is hl lo hi a
  obtain ⟨g1, g2⟩ := vrng_is hm lo hi b
  exact rises_uniq h1 g1 (fun p => by rw [h2, g2, h])
theorem vrng_col {l : List Ver} {top : Int} (hT : OkT l top) {a b : Int} (hab : a ≤ b) (lo hi : ByteArray) : vrng (vcol l a) lo hi b = vrng l lo hi b := vrng_eq (hT.col a) hT (fun k => vget_col hT hab k) lo hi
theorem vrng_put {l : List Ver} {top : Int} (hT : OkT l top) {x : Ver} (hx : ptF x top = 0) {a : Int} (h : a < x.n) (lo hi : ByteArray) : vrng (vput l x) lo hi a = vrng l lo hi a := vrng_eq (hT.put hx) hT (fun _ => vget_put h) lo hi
theorem vrng_0 {l : List Ver} {top : Int} (hT : OkT l top) {a : Int} (ha : a < 1) (lo hi : ByteArray) : vrng l lo hi a = [] := by
  apply List.eq_nil_iff_forall_not_mem.2
  intro p hp
  have := ((vrng_is hT lo hi a).2 p).1 hp
  rw [vget_0 hT ha] at this
  cases this.2
theorem fold_len : ∀ (m : List Ver) (r : List Pr), (m.foldl (fun r x => insP r (x.k, x.v)) r).length = r.length + m.length
  | [], r => by simp
  | x :: m, r => by rw [List.foldl_cons, fold_len m, len_insP, List.length_cons]; omega
theorem vrng_len (l : List Ver) (lo hi : ByteArray) (a : Int) : (vrng l lo hi a).length ≤ l.length := by
  rw [vrng, fold_len]
  simpa using List.length_filter_le _ _
/-- Is something touched above a number? -/
def vtch (l : List Ver) (lo hi : ByteArray) (a : Int) : Bool := l.any (fun x => btw lo hi x.k && decide (a < x.n))
/-- The place of what is seen. -/
def seeI (k : ByteArray) (a : Int) : Nat → Int → List Ver → Int
  | _, b, [] => b
  | i, b, x :: r => if hit k a x = true then seeI k a (i + 1) i r else seeI k a (i + 1) b r
theorem seeI_is (k : ByteArray) (a : Int) : ∀ (l : List Ver) (i : Nat) (b : Int), (seeI k a i b l = b ∧ l.filter (hit k a) = []) ∨ ∃ (j : Nat) (x : Ver), seeI k a i b l = i + j ∧ l[j]? = some x ∧ (l.filter (hit k a)).getLast? = some x
  | [], i, b => .inl ⟨rfl, rfl⟩
  | x :: r, i, b => by
    rw [seeI]
    by_cases h : hit k a x = true
    · rw [if_pos h]
      rcases seeI_is k a r (i + 1) i with ⟨h1, h2⟩ | ⟨j, y, h1, h2, h3⟩
      · exact .inr ⟨0, x, by rw [h1]; simp, rfl, by rw [List.filter_cons_of_pos h, h2]; rfl⟩
      · refine .inr ⟨j + 1, y, by rw [h1]; omega, by simpa using h2, ?_⟩
        rw [List.filter_cons_of_pos h, List.getLast?_cons, h3]; rfl
    · rw [if_neg h]
      rcases seeI_is k a r (i + 1) b with ⟨h1, h2⟩ | ⟨j, y, h1, h2, h3⟩
      · exact .inl ⟨h1, by rw [List.filter_cons_of_neg h, h2]⟩
      · exact .inr ⟨j + 1, y, by rw [h1]; omega, by simpa using h2, by rw [List.filter_cons_of_neg h]; exact h3⟩
def sI (l : List Ver) (k : ByteArray) (a : Int) : Int := seeI k a 0 (-1) l
theorem sI_is (l : List Ver) (k : ByteArray) (a : Int) : (sI l k a = -1 ∧ see l k a = none) ∨ ∃ (j : Nat) (x : Ver), sI l k a = j ∧ l[j]? = some x ∧ see l k a = some x := by
  rcases seeI_is k a l 0 (-1) with ⟨h1, h2⟩ | ⟨j, x, h1, h2, h3⟩
  · exact .inl ⟨h1, by rw [see, h2]; rfl⟩
  · exact .inr ⟨j, x, by rw [sI, h1]; simp, h2, h3⟩
theorem at_once {l : List Ver} {top : Int} (hT : OkT l top) {i j : Nat} {x : Ver} (hi : l[i]? = some x) (hj : l[j]? = some x) : i = j := by
  obtain ⟨i1, i2⟩ := List.getElem?_eq_some_iff.1 hi
  obtain ⟨j1, j2⟩ := List.getElem?_eq_some_iff.1 hj
  have hp := List.pairwise_iff_getElem.1 hT.once
  rcases Nat.lt_trichotomy i j with h | h | h
  · exact absurd ⟨by rw [i2, j2], by rw [i2, j2]⟩ (hp i j i1 j1 h)
  · exact h
  · exact absurd ⟨by rw [i2, j2], by rw [i2, j2]⟩ (hp j i j1 i1 h)
/-- A version is seen just if its place is. -/
theorem sI_at {l : List Ver} {top : Int} (hT : OkT l top) {i : Nat} {x : Ver} (hx : l[i]? = some x) (a : Int) : (sI l x.k a == (i : Int)) = decide (see l x.k a = some x) := by
  rcases sI_is l x.k a with ⟨h1, h2⟩ | ⟨j, y, h1, h2, h3⟩
  · rw [h1, h2]
    have e : ((-1 : Int) == (i : Int)) = false := by
      rw [beq_eq_false_iff_ne]; omega
    rw [e]; simp
  · rw [h1, h3]
    by_cases c : y = x
    · subst c
      rw [at_once hT h2 hx]; simp
    · have : j ≠ i := fun e => c (by rw [e, hx] at h2; exact (Option.some.inj h2).symm)
      have e : ((j : Int) == (i : Int)) = false := by
        rw [beq_eq_false_iff_ne]; omega
      rw [e]
      have : ¬ (some y = some x) := fun g => c (Option.some.inj g)
      simp [c]
/-- The number of a call. -/
def atF (a : Int) : Int := if a < 0 ∨ 1000000 < a then 1 else 0
def gtF (l : List Ver) (k : ByteArray) (a : Int) : Int := if atF a = 0 then (if (vget l k a).isSome = true then 0 else 4) else 1
def gtS (l : List Ver) (k : ByteArray) (a : Int) : ByteArray := if atF a = 0 then (vget l k a).getD ByteArray.empty else ByteArray.empty
def rgS (l : List Ver) (lo hi : ByteArray) (a : Int) : List Pr := if atF a = 0 then vrng l lo hi a else []
def tcS (l : List Ver) (lo hi : ByteArray) (a : Int) : Bool := if atF a = 0 then vtch l lo hi a else false
def clS (l : List Ver) (a : Int) : List Ver := if atF a = 0 then vcol l a else l
end Vs
