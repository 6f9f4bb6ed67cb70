/- Versions of keys: what is told of keys between two, and what is touched; the places of what is seen. No program stands here. -/
import Derived.Test.YtickoadcficdeaaGreatDoorVsMath
namespace Vs
open Go

abbrev Pr := ByteArray × ByteArray
/-- In the order of their keys. -/
def rises (r : List Pr) : Prop := r.Pairwise (fun p q => bl p.1 q.1 = true)
theorem rises_uniq : ∀ {r s : List Pr}, rises r → rises s → (∀ p, p ∈ r ↔ p ∈ s) → r = s
  | [], [], _, _, _ => rfl
  | [], q :: s, _, _, h => by have := (h q).2 (by simp); simp at this
  | p :: r, [], _, _, h => by have := (h p).1 (by simp); simp at this
  | p :: r, q :: s, hr, hs, h => by
    obtain ⟨h1, h2⟩ := List.pairwise_cons.1 hr
    obtain ⟨g1, g2⟩ := List.pairwise_cons.1 hs
    have e : p = q := by
      rcases List.mem_cons.1 ((h p).1 (by simp)) with e | e
      · exact e
      · rcases List.mem_cons.1 ((h q).2 (by simp)) with e' | e'
        · exact e'.symm
        · have a1 := g1 p e
          have a2 := h1 q e'
          rw [bl_asym a1] at a2; cases a2
    subst e
    have : r = s := rises_uniq h2 g2 (fun x => by
      have hx := h x
      constructor
      · intro m
        rcases List.mem_cons.1 (hx.1 (by simp [m])) with e | e
        · subst e; have := h1 x m; rw [bl_irr] at this; cases this
        · exact e
      · intro m
        rcases List.mem_cons.1 (hx.2 (by simp [m])) with e | e
        · subst e; have := g1 x m; rw [bl_irr] at this; cases this
        · exact e)
    rw [this]
/-- One more, at its place. -/
def insP : List Pr → Pr → List Pr
  | [], p => [p]
  | q :: r, p => if bl p.1 q.1 = true then p :: q :: r else q :: insP r p
theorem mem_insP : ∀ {r : List Pr} {p x : Pr}, x ∈ insP r p ↔ x = p ∨ x ∈ r
  | [], p, x => by simp [insP]
  | q :: r, p, x => by
    rw [insP]
    split
    · simp
    · rw [List.mem_cons, mem_insP, List.mem_cons]
      constructor
      · rintro (h | h | h)
        · exact .inr (.inl h)
        · exact .inl h
        · exact .inr (.inr h)
      · rintro (h | h | h)
        · exact .inr (.inl h)
        · exact .inl h
        · exact .inr (.inr h)
theorem len_insP : ∀ (r : List Pr) (p : Pr), (insP r p).length = r.length + 1
  | [], _ => rfl
  | q :: r, p => by
    rw [insP]
    split
    · simp
    · simp [len_insP r p]
theorem rises_insP : ∀ {r : List Pr} {p : Pr}, rises r → (∀ q ∈ r, q.1 ≠ p.1) → rises (insP r p)
  | [], p, _, _ => List.pairwise_singleton _ _
  | q :: r, p, h, hn => by
    obtain ⟨h1, h2⟩ := List.pairwise_cons.1 h
    rw [insP]
    split
    · rename_i c
      refine List.pairwise_cons.2 ⟨fun x hx => ?_, h⟩
      rcases List.mem_cons.1 hx with rfl | hx
      · exact c
      · exact bl_trans c (h1 x hx)
    · rename_i c
      have c' : bl p.1 q.1 = false := by simpa using c
      refine List.pairwise_cons.2 ⟨fun x hx => ?_, rises_insP h2 (fun y hy => hn y (by simp [hy]))⟩
      rcases mem_insP.1 hx with rfl | hx
      · cases e : bl q.1 x.1
        · exact absurd (bl_tri e c') (hn q (by simp))
        · rfl
      · exact h1 x hx
/-- Is a version told of, at a number? -/
def told (l : List Ver) (lo hi : ByteArray) (a : Int) (x : Ver) : Bool := btw lo hi x.k && !x.g && decide (see l x.k a = some x)
/-- What Range tells. -/
def vrng (l : List Ver) (lo hi : ByteArray) (a : Int) : List Pr := (l.filter (told l lo hi a)).foldl (fun r x => insP r (x.k, x.v)) []
theorem fold_ins : ∀ (m : List Ver) (r : List Pr), rises r → (∀ x ∈ m, ∀ q ∈ r, q.1 ≠ x.k) → m.Pairwise (fun x y => x.k ≠ y.k) →
    rises (m.foldl (fun r x => insP r (x.k, x.v)) r) ∧ ∀ p, p ∈ m.foldl (fun r x => insP r (x.k, x.v)) r ↔ p ∈ r ∨ ∃ x ∈ m, p = (x.k, x.v)
  | [], r, h, _, _ => ⟨h, fun p => by simp⟩
  | x :: m, r, h, hn, hp => by
    obtain ⟨h1, h2⟩ := List.pairwise_cons.1 hp
    obtain ⟨i1, i2⟩ := fold_ins m (insP r (x.k, x.v)) (rises_insP h (hn x (by simp))) (fun y hy q hq => by
      rcases mem_insP.1 hq with rfl | hq
      · exact h1 y hy
      · exact hn y (by simp [hy]) q hq) h2
    refine ⟨i1, fun p => ?_⟩
    rw [List.foldl_cons, i2 p, mem_insP]
    constructor
    · rintro ((h | h) | ⟨y, hy, h⟩)
      · exact .inr ⟨x, by simp, h⟩
      · exact .inl h
      · exact .inr ⟨y, by simp [hy], h⟩
    · rintro (h | ⟨y, hy, h⟩)
      · exact .inl (.inr h)
      · rcases List.mem_cons.1 hy with rfl | hy
        · exact .inl (.inl h)
        · exact .inr ⟨y, hy, h⟩
/-- It is just what is got, in order. -/
theorem vrng_is {l : List Ver} {top : Int} (hT : OkT l top) (lo hi : ByteArray) (a : Int) : rises (vrng l lo hi a) ∧ ∀ p, p ∈ vrng l lo hi a ↔ btw lo hi p.1 = true ∧ vget l p.1 a = some p.2 := by
  have hk : (l.filter (told l lo hi a)).Pairwise (fun x y => x.k ≠ y.k) := by
    refine (hT.once.filter (told l lo hi a)).imp_of_mem (fun {x y} hx hy h => ?_)
    intro e
    have h1 := (List.mem_filter.1 hx).2
    have h2 := (List.mem_filter.1 hy).2
    simp only [told, Bool.and_eq_true, decide_eq_true_eq] at h1 h2
    rw [e, h2.2] at h1
    exact h ⟨e, by rw [Option.some.inj h1.2]⟩
  obtain ⟨h1, h2⟩ := fold_ins (l.filter (told l lo hi a)) [] .nil (fun _ _ q hq => by simp at hq) hk
  refine ⟨h1, fun p => ?_⟩
  rw [vrng, h2 p, vget_some]
  constructor
  · rintro (h | ⟨x, hx, rfl⟩)
    · simp at h
    · have h3 := (List.mem_filter.1 hx).2
      simp only [told, Bool.and_eq_true, decide_eq_true_eq, Bool.not_eq_true'] at h3
      exact ⟨h3.1.1, x, h3.2, h3.1.2, rfl⟩
  · rintro ⟨h3, x, h4, h5, h6⟩
    obtain ⟨g1, g2, g3⟩ := see_some h4
    refine .inr ⟨x, List.mem_filter.2 ⟨g1, ?_⟩, ?_⟩
    · simp only [told, Bool.and_eq_true, decide_eq_true_eq, Bool.not_eq_true']
      rw [g2]; exact ⟨⟨h3, h5⟩, h4⟩
    · rw [g2, h6]
theorem vrng_eq {l m : List Ver} {s t : Int} (hl : OkT l s) (hm : OkT m t) {a b : Int} (h : ∀ k, vget l k a = vget m k b) (lo hi : ByteArray) : vrng l lo hi a = vrng m lo hi b := by
  obtain ⟨h1, h2⟩ := vrng_is hl lo hi a
  obtain ⟨g1, g2⟩ := vrng_is hm lo hi b
  exact rises_uniq h1 g1 (fun p => by rw [h2, g2, h])
theorem vrng_col {l : List Ver} {top : Int} (hT : OkT l top) {a b : Int} (hab : a ≤ b) (lo hi : ByteArray) : vrng (vcol l a) lo hi b = vrng l lo hi b := vrng_eq (hT.col a) hT (fun k => vget_col hT hab k) lo hi
theorem vrng_put {l : List Ver} {top : Int} (hT : OkT l top) {x : Ver} (hx : ptF x top = 0) {a : Int} (h : a < x.n) (lo hi : ByteArray) : vrng (vput l x) lo hi a = vrng l lo hi a := vrng_eq (hT.put hx) hT (fun _ => vget_put h) lo hi
theorem vrng_0 {l : List Ver} {top : Int} (hT : OkT l top) {a : Int} (ha : a < 1) (lo hi : ByteArray) : vrng l lo hi a = [] := by
  apply List.eq_nil_iff_forall_not_mem.2
  intro p hp
  have := ((vrng_is hT lo hi a).2 p).1 hp
  rw [vget_0 hT ha] at this
  cases this.2
theorem fold_len : ∀ (m : List Ver) (r : List Pr), (m.foldl (fun r x => insP r (x.k, x.v)) r).length = r.length + m.length
  | [], r => by simp
  | x :: m, r => by rw [List.foldl_cons, fold_len m, len_insP, List.length_cons]; omega
theorem vrng_len (l : List Ver) (lo hi : ByteArray) (a : Int) : (vrng l lo hi a).length ≤ l.length := by
  rw [vrng, fold_len]
  simpa using List.length_filter_le _ _
/-- Is something touched above a number? -/
def vtch (l : List Ver) (lo hi : ByteArray) (a : Int) : Bool := l.any (fun x => btw lo hi x.k && decide (a < x.n))
/-- The place of what is seen. -/
def seeI (k : ByteArray) (a : Int) : Nat → Int → List Ver → Int
  | _, b, [] => b
  | i, b, x :: r => if hit k a x = true then seeI k a (i + 1) i r else seeI k a (i + 1) b r
theorem seeI_is (k : ByteArray) (a : Int) : ∀ (l : List Ver) (i : Nat) (b : Int), (seeI k a i b l = b ∧ l.filter (hit k a) = []) ∨ ∃ (j : Nat) (x : Ver), seeI k a i b l = i + j ∧ l[j]? = some x ∧ (l.filter (hit k a)).getLast? = some x
  | [], i, b => .inl ⟨rfl, rfl⟩
  | x :: r, i, b => by
    rw [seeI]
    by_cases h : hit k a x = true
    · rw [if_pos h]
      rcases seeI_is k a r (i + 1) i with ⟨h1, h2⟩ | ⟨j, y, h1, h2, h3⟩
      · exact .inr ⟨0, x, by rw [h1]; simp, rfl, by rw [List.filter_cons_of_pos h, h2]; rfl⟩
      · refine .inr ⟨j + 1, y, by rw [h1]; omega, by simpa using h2, ?_⟩
        rw [List.filter_cons_of_pos h, List.getLast?_cons, h3]; rfl
    · rw [if_neg h]
      rcases seeI_is k a r (i + 1) b with ⟨h1, h2⟩ | ⟨j, y, h1, h2, h3⟩
      · exact .inl ⟨h1, by rw [List.filter_cons_of_neg h, h2]⟩
      · exact .inr ⟨j + 1, y, by rw [h1]; omega, by simpa using h2, by rw [List.filter_cons_of_neg h]; exact h3⟩
def sI (l : List Ver) (k : ByteArray) (a : Int) : Int := seeI k a 0 (-1) l
theorem sI_is (l : List Ver) (k : ByteArray) (a : Int) : (sI l k a = -1 ∧ see l k a = none) ∨ ∃ (j : Nat) (x : Ver), sI l k a = j ∧ l[j]? = some x ∧ see l k a = some x := by
  rcases seeI_is k a l 0 (-1) with ⟨h1, h2⟩ | ⟨j, x, h1, h2, h3⟩
  · exact .inl ⟨h1, by rw [see, h2]; rfl⟩
  · exact .inr ⟨j, x, by rw [sI, h1]; simp, h2, h3⟩
theorem at_once {l : List Ver} {top : Int} (hT : OkT l top) {i j : Nat} {x : Ver} (hi : l[i]? = some x) (hj : l[j]? = some x) : i = j := by
  obtain ⟨i1, i2⟩ := List.getElem?_eq_some_iff.1 hi
  obtain ⟨j1, j2⟩ := List.getElem?_eq_some_iff.1 hj
  have hp := List.pairwise_iff_getElem.1 hT.once
  rcases Nat.lt_trichotomy i j with h | h | h
  · exact absurd ⟨by rw [i2, j2], by rw [i2, j2]⟩ (hp i j i1 j1 h)
  · exact h
  · exact absurd ⟨by rw [i2, j2], by rw [i2, j2]⟩ (hp j i j1 i1 h)
/-- A version is seen just if its place is. -/
theorem sI_at {l : List Ver} {top : Int} (hT : OkT l top) {i : Nat} {x : Ver} (hx : l[i]? = some x) (a : Int) : (sI l x.k a == (i : Int)) = decide (see l x.k a = some x) := by
  rcases sI_is l x.k a with ⟨h1, h2⟩ | ⟨j, y, h1, h2, h3⟩
  · rw [h1, h2]
    have e : ((-1 : Int) == (i : Int)) = false := by
      rw [beq_eq_false_iff_ne]; omega
    rw [e]; simp
  · rw [h1, h3]
    by_cases c : y = x
    · subst c
      rw [at_once hT h2 hx]; simp
    · have : j ≠ i := fun e => c (by rw [e, hx] at h2; exact (Option.some.inj h2).symm)
      have e : ((j : Int) == (i : Int)) = false := by
        rw [beq_eq_false_iff_ne]; omega
      rw [e]
      have : ¬ (some y = some x) := fun g => c (Option.some.inj g)
      simp [c]
/-- The number of a call. -/
def atF (a : Int) : Int := if a < 0 ∨ 1000000 < a then 1 else 0
def gtF (l : List Ver) (k : ByteArray) (a : Int) : Int := if atF a = 0 then (if (vget l k a).isSome = true then 0 else 4) else 1
def gtS (l : List Ver) (k : ByteArray) (a : Int) : ByteArray := if atF a = 0 then (vget l k a).getD ByteArray.empty else ByteArray.empty
def rgS (l : List Ver) (lo hi : ByteArray) (a : Int) : List Pr := if atF a = 0 then vrng l lo hi a else []
def tcS (l : List Ver) (lo hi : ByteArray) (a : Int) : Bool := if atF a = 0 then vtch l lo hi a else false
def clS (l : List Ver) (a : Int) : List Ver := if atF a = 0 then vcol l a else l
end Vs
