/- Versions key by key: histories that rise by their numbers. No program stands here. -/
import Derived.Test.YtickoadcficdeaaGreatDoorVsMath2
namespace Vs
open Go

/-- The versions of one key. -/
def hs (l : List Ver) (s : ByteArray) : List Ver := l.filter (fun x => decide (x.k = s))
theorem mem_hs {l : List Ver} {s : ByteArray} {x : Ver} : x ∈ hs l s ↔ x ∈ l ∧ x.k = s := by simp [hs]
theorem len_hs (l : List Ver) (s : ByteArray) : (hs l s).length ≤ l.length := List.length_filter_le _ _
theorem hs_nil {l : List Ver} {s : ByteArray} : hs l s = [] ↔ ∀ x ∈ l, x.k ≠ s := by
  rw [hs, List.filter_eq_nil_iff]
  simp
/-- Their numbers rise. -/
abbrev Up (h : List Ver) : Prop := h.Pairwise (fun x y => x.n < y.n)
theorem hs_up {l : List Ver} {top : Int} (hT : OkT l top) (s : ByteArray) : Up (hs l s) := by
  refine ((hT.rise.and hT.once).filter _).imp_of_mem (fun {x y} hx hy h => ?_)
  have h1 : x.k = s := by simpa using (List.mem_filter.1 hx).2
  have h2 : y.k = s := by simpa using (List.mem_filter.1 hy).2
  have h3 : ¬ x.n = y.n := fun e => h.2 ⟨h1.trans h2.symm, e⟩
  have := h.1
  omega
/-- How many are not above a number. -/
def upN (h : List Ver) (a : Int) : Nat := h.countP (fun x => decide (x.n ≤ a))
theorem upN_le (h : List Ver) (a : Int) : upN h a ≤ h.length := List.countP_le_length
theorem upN_take : ∀ {h : List Ver} (_ : Up h) (a : Int), h.filter (fun x => decide (x.n ≤ a)) = h.take (upN h a)
  | [], _, _ => rfl
  | x :: r, hu, a => by
    obtain ⟨h1, h2⟩ := List.pairwise_cons.1 hu
    by_cases c : x.n ≤ a
    · rw [List.filter_cons_of_pos (by simpa using c), upN, List.countP_cons_of_pos (by simpa using c), List.take_succ_cons, upN_take h2 a, upN]
    · have e : r.filter (fun x => decide (x.n ≤ a)) = [] := List.filter_eq_nil_iff.2 (fun y hy => by have := h1 y hy; simp; omega)
      rw [List.filter_cons_of_neg (by simpa using c), e, upN, List.countP_cons_of_neg (by simpa using c), List.countP_eq_length_filter, e]
      rfl
theorem upN_drop : ∀ {h : List Ver} (_ : Up h) (a : Int), h.filter (fun x => decide (a < x.n)) = h.drop (upN h a)
  | [], _, _ => rfl
  | x :: r, hu, a => by
    obtain ⟨h1, h2⟩ := List.pairwise_cons.1 hu
    by_cases c : x.n ≤ a
    · rw [List.filter_cons_of_neg (by simp; omega), upN, List.countP_cons_of_pos (by simpa using c), List.drop_succ_cons, upN_drop h2 a, upN]
    · have e : r.filter (fun x => decide (x.n ≤ a)) = [] := List.filter_eq_nil_iff.2 (fun y hy => by have := h1 y hy; simp; omega)
      have e2 : (x :: r).filter (fun x => decide (a < x.n)) = x :: r := List.filter_eq_self.2 (fun y hy => by
        rcases List.mem_cons.1 hy with rfl | hy
        · simp; omega
        · have := h1 y hy; simp; omega)
      rw [e2, upN, List.countP_cons_of_neg (by simpa using c), List.countP_eq_length_filter, e]
      rfl
/-- By places. -/
theorem upN_at {h : List Ver} (hu : Up h) (a : Int) {i : Nat} {x : Ver} (hx : h[i]? = some x) : x.n ≤ a ↔ i < upN h a := by
  constructor
  · intro c
    apply Classical.byContradiction
    intro g
    have : x ∈ h.drop (upN h a) := by
      rw [List.mem_iff_getElem?]
      exact ⟨i - upN h a, by rw [List.getElem?_drop, show upN h a + (i - upN h a) = i from by omega]; exact hx⟩
    rw [← upN_drop hu, List.mem_filter] at this
    have := this.2
    simp at this
    omega
  · intro c
    have : x ∈ h.take (upN h a) := by
      rw [List.mem_iff_getElem?]
      exact ⟨i, by rw [List.getElem?_take, if_pos c]; exact hx⟩
    rw [← upN_take hu, List.mem_filter] at this
    simpa using this.2
/-- As sort.Search counts. -/
theorem upN_cnt (h : List Ver) (a : Int) (p : Nat → Bool) (hp : ∀ i x, h[i]? = some x → p i = decide (a < x.n)) : (List.range h.length).countP (fun i => !p i) = upN h a := by
  have key : ∀ (r : List Ver) (o : Nat), (∀ i x, r[i]? = some x → p (o + i) = decide (a < x.n)) → (List.range' o r.length).countP (fun i => !p i) = upN r a := by
    intro r
    induction r with
    | nil => intro o _; rfl
    | cons x r ih =>
      intro o hr
      have h0 := hr 0 x rfl
      rw [List.length_cons, List.range'_succ, List.countP_cons, ih (o + 1) (fun i y hy => by rw [show o + 1 + i = o + (i + 1) from by omega]; exact hr (i + 1) y (by simpa using hy)), upN, upN, List.countP_cons]
      congr 1
      rw [show o + 0 = o from rfl] at h0
      rw [h0]
      by_cases c : x.n ≤ a
      · have : ¬ a < x.n := by omega
        simp [c, this]
      · have : a < x.n := by omega
        simp [c, this]
  rw [List.range_eq_range']
  exact key h 0 (fun i x hx => by rw [Nat.zero_add]; exact hp i x hx)
/-- What a number sees. -/
def seeH (h : List Ver) (a : Int) : Option Ver := (h.take (upN h a)).getLast?
theorem see_hs {l : List Ver} {top : Int} (hT : OkT l top) (s : ByteArray) (a : Int) : see l s a = seeH (hs l s) a := by
  rw [seeH, ← upN_take (hs_up hT s), see, hs, List.filter_filter]
  congr 1
  apply List.filter_congr
  intro x _
  rw [hit, Bool.and_comm]
theorem seeH_0 {h : List Ver} {a : Int} (e : upN h a = 0) : seeH h a = none := by rw [seeH, e]; rfl
theorem seeH_at {h : List Ver} {a : Int} (e : 0 < upN h a) : ∃ x, h[upN h a - 1]? = some x ∧ seeH h a = some x := by
  have h1 := upN_le h a
  have hi : upN h a - 1 < h.length := by omega
  refine ⟨h[upN h a - 1], List.getElem?_eq_getElem hi, ?_⟩
  rw [seeH, List.getLast?_eq_getElem?, List.length_take, Nat.min_eq_left h1, List.getElem?_take, if_pos (by omega)]
  exact List.getElem?_eq_getElem hi
def vlH (h : List Ver) (a : Int) : Option ByteArray := match seeH h a with
  | some x => if x.g = true then none else some x.v
  | none => none
theorem vget_hs {l : List Ver} {top : Int} (hT : OkT l top) (s : ByteArray) (a : Int) : vget l s a = vlH (hs l s) a := by
  rw [vget, see_hs hT]; rfl
/-- How many, the first ones, are seen by nobody from a number on. -/
def unH (h : List Ver) (a : Int) : Nat := match seeH h a with
  | some x => if x.g = true then upN h a else upN h a - 1
  | none => upN h a
theorem unH_le (h : List Ver) (a : Int) : unH h a ≤ h.length := by
  have := upN_le h a
  unfold unH
  split
  · split <;> omega
  · omega
theorem hs_col {l : List Ver} {top : Int} (hT : OkT l top) (s : ByteArray) (a : Int) : (hs l s).filter (kept l a) = (hs l s).drop (unH (hs l s) a) := by
  have hu := hs_up hT s
  have hsee := see_hs hT s a
  have hk : ∀ x ∈ hs l s, x.k = s := fun x hx => (mem_hs.1 hx).2
  generalize hs l s = h at hu hsee hk
  have hd : (h.drop (upN h a)).filter (kept l a) = h.drop (upN h a) := List.filter_eq_self.2 (fun x hx => by
    rw [← upN_drop hu, List.mem_filter] at hx
    have := hx.2
    simp at this
    simp [kept, this])
  have hsplit : h = h.take (upN h a) ++ h.drop (upN h a) := (List.take_append_drop _ _).symm
  by_cases e : upN h a = 0
  · rw [unH, seeH_0 e, e]
    rw [e] at hd
    simpa using hd
  · obtain ⟨x, hx, hx2⟩ := seeH_at (h := h) (a := a) (by omega)
    have hle := upN_le h a
    have hlt : upN h a - 1 < h.length := by omega
    have hsucc : h.take (upN h a) = h.take (upN h a - 1) ++ [x] := by
      conv => lhs; rw [show upN h a = upN h a - 1 + 1 from by omega]
      rw [List.take_add_one, hx]; rfl
    have hini : (h.take (upN h a - 1)).filter (kept l a) = [] := List.filter_eq_nil_iff.2 (fun y hy => by
      have hyx : y.n < x.n := by
        have := hu
        rw [hsplit, hsucc] at this
        exact (List.pairwise_append.1 (List.pairwise_append.1 this).1).2.2 y hy x (by simp)
      have hxa : x.n ≤ a := (upN_at hu a hx).2 (by omega)
      have hyk := hk y (List.mem_of_mem_take hy)
      simp only [kept, Bool.or_eq_true, decide_eq_true_eq, Bool.and_eq_true, not_or, not_and]
      refine ⟨by omega, fun g => ?_⟩
      rw [hyk, hsee, hx2] at g
      rw [Option.some.inj g] at hyx
      omega)
    have hone : [x].filter (kept l a) = if x.g = true then [] else [x] := by
      have hxa : x.n ≤ a := (upN_at hu a hx).2 (by omega)
      have hxk := hk x (List.mem_of_getElem? hx)
      have : kept l a x = !x.g := by
        have h1 : ¬ a < x.n := by omega
        simp [kept, h1, hxk, hsee, hx2]
      by_cases g : x.g = true
      · simp [g, this]
      · simp [g, this]
    rw [unH, hx2]
    conv => lhs; rw [hsplit]
    rw [List.filter_append, hd, hsucc, List.filter_append, hini, hone, List.nil_append]
    by_cases g : x.g = true
    · simp [g]
    · rw [if_neg g]
      show _ = List.drop (if x.g = true then upN h a else upN h a - 1) h
      rw [if_neg g, List.drop_eq_getElem_cons hlt, show upN h a - 1 + 1 = upN h a from by omega]
      have := List.getElem?_eq_getElem hlt
      rw [hx] at this
      rw [← Option.some.inj this]
      rfl
/-- The greatest number. -/
def lsN (h : List Ver) : Int := match h.getLast? with
  | some x => x.n
  | none => 0
theorem lsN_nil : lsN [] = 0 := rfl
theorem lsN_at {h : List Ver} (e : 0 < h.length) : ∃ x, h[h.length - 1]? = some x ∧ lsN h = x.n := by
  have hi : h.length - 1 < h.length := by omega
  refine ⟨h[h.length - 1], List.getElem?_eq_getElem hi, ?_⟩
  rw [lsN, List.getLast?_eq_getElem?, List.getElem?_eq_getElem hi]
/-- One more: only the last one can give way. -/
def wiH (h : List Ver) (x : Ver) : List Ver := (if lsN h = x.n then h.dropLast else h) ++ [x]
theorem hs_put {l : List Ver} {top : Int} (hT : OkT l top) {x : Ver} (hx : ptF x top = 0) : hs (vput l x) x.k = wiH (hs l x.k) x := by
  obtain ⟨hv, ht⟩ := ptF_ok hx
  have hu := hs_up hT x.k
  have hb : ∀ y ∈ hs l x.k, y.n ≤ x.n ∧ y.k = x.k := fun y hy => by
    obtain ⟨h1, h2⟩ := mem_hs.1 hy
    have := (hT.each y h1).2
    exact ⟨by omega, h2⟩
  have e1 : hs (vput l x) x.k = (hs l x.k).filter (fun y => !same x y) ++ [x] := by
    rw [hs, vput, List.filter_append, hs, List.filter_filter, List.filter_filter]
    congr 1
    · apply List.filter_congr
      intro y _
      rw [Bool.and_comm]
    · simp
  rw [e1, wiH]
  congr 1
  generalize hs l x.k = h at hu hb
  rcases List.eq_nil_or_concat h with rfl | ⟨r, z, rfl⟩
  · have : ¬ lsN [] = x.n := by have := hv.2.2.2.1; rw [lsN_nil]; omega
    rw [if_neg this]; rfl
  · have hz := hb z (by simp)
    have hl : lsN (r ++ [z]) = z.n := by simp [lsN]
    have hr : r.filter (fun y => !same x y) = r := List.filter_eq_self.2 (fun y hy => by
      have h1 := (List.pairwise_append.1 (by simpa using hu)).2.2 y hy z (by simp)
      have : ¬ y.n = x.n := by have := hz.1; omega
      simp [same, this])
    simp only [List.concat_eq_append] at *
    rw [List.filter_append, hr, hl]
    by_cases c : z.n = x.n
    · rw [if_pos c]
      simp [same, c, hz.2]
    · rw [if_neg c]
      simp [same, c]
theorem hs_put_other {l : List Ver} {x : Ver} {s : ByteArray} (hne : s ≠ x.k) : hs (vput l x) s = hs l s := by
  rw [hs, vput, List.filter_append, hs, List.filter_filter]
  rw [show [x].filter (fun y => decide (y.k = s)) = [] from by simp; exact fun e => hne e.symm, List.append_nil]
  apply List.filter_congr
  intro y _
  by_cases c : y.k = s
  · simp [same, c, hne]
  · simp [c]
theorem wiH_ne (h : List Ver) (x : Ver) : wiH h x ≠ [] := by simp [wiH]
/-- What is touched. -/
theorem vtch_hs {l : List Ver} {top : Int} (hT : OkT l top) (lo hi : ByteArray) (a : Int) (ha : 0 ≤ a) : vtch l lo hi a = true ↔ ∃ s, btw lo hi s = true ∧ a < lsN (hs l s) := by
  rw [vtch, List.any_eq_true]
  constructor
  · rintro ⟨x, hx, h⟩
    simp only [Bool.and_eq_true, decide_eq_true_eq] at h
    refine ⟨x.k, h.1, ?_⟩
    have hm : x ∈ hs l x.k := mem_hs.2 ⟨hx, rfl⟩
    have hu := hs_up hT x.k
    generalize hs l x.k = g at hm hu
    rcases List.eq_nil_or_concat g with rfl | ⟨r, z, rfl⟩
    · simp at hm
    · simp only [List.concat_eq_append] at *
      have hl : lsN (r ++ [z]) = z.n := by simp [lsN]
      rw [hl]
      rcases List.mem_append.1 hm with m | m
      · have := (List.pairwise_append.1 hu).2.2 x m z (by simp)
        omega
      · rw [← List.mem_singleton.1 m]; exact h.2
  · rintro ⟨s, h1, h2⟩
    by_cases e : 0 < (hs l s).length
    · obtain ⟨x, hx, hn⟩ := lsN_at e
      obtain ⟨m1, m2⟩ := mem_hs.1 (List.mem_of_getElem? hx)
      exact ⟨x, m1, by rw [m2, h1]; rw [hn] at h2; simpa using h2⟩
    · have : hs l s = [] := List.eq_nil_of_length_eq_zero (by omega)
      rw [this, lsN_nil] at h2
      omega
/-- Some keys have been collected. -/
def mid (l : List Ver) (a : Int) (done : ByteArray → Bool) : List Ver := l.filter (fun x => !done x.k || kept l a x)
theorem mid_none (l : List Ver) (a : Int) {done : ByteArray → Bool} (h : ∀ x ∈ l, done x.k = false) : mid l a done = l := List.filter_eq_self.2 (fun x hx => by simp [h x hx])
theorem mid_all (l : List Ver) (a : Int) {done : ByteArray → Bool} (h : ∀ x ∈ l, done x.k = true) : mid l a done = vcol l a := List.filter_congr (fun x hx => by simp [h x hx])
theorem hs_mid_no {l : List Ver} {a : Int} {done : ByteArray → Bool} {s : ByteArray} (h : done s = false) : hs (mid l a done) s = hs l s := by
  rw [hs, mid, List.filter_filter, hs]
  apply List.filter_congr
  intro x _
  by_cases c : x.k = s
  · simp [c, h]
  · simp [c]
theorem hs_mid_yes {l : List Ver} {top : Int} (hT : OkT l top) {a : Int} {done : ByteArray → Bool} {s : ByteArray} (h : done s = true) : hs (mid l a done) s = (hs l s).drop (unH (hs l s) a) := by
  rw [← hs_col hT s a, hs, mid, List.filter_filter, hs, List.filter_filter]
  apply List.filter_congr
  intro x _
  by_cases c : x.k = s
  · simp [c, h]
  · simp [c]
theorem len_split (l : List Ver) (s : ByteArray) : l.length = (hs l s).length + (l.filter (fun x => !decide (x.k = s))).length := by
  induction l with
  | nil => rfl
  | cons x r ih =>
    by_cases c : x.k = s
    · simp [hs, c] at ih ⊢; omega
    · simp [hs, c] at ih ⊢; omega
theorem len_mid {l : List Ver} {top : Int} (hT : OkT l top) {a : Int} {done : ByteArray → Bool} {s : ByteArray} (h : done s = false) : (mid l a (fun t => done t || decide (t = s))).length + unH (hs l s) a = (mid l a done).length := by
  rw [len_split _ s, len_split (mid l a done) s, hs_mid_no h, hs_mid_yes hT (by simp)]
  have e : (mid l a (fun t => done t || decide (t = s))).filter (fun x => !decide (x.k = s)) = (mid l a done).filter (fun x => !decide (x.k = s)) := by
    rw [mid, mid, List.filter_filter, List.filter_filter]
    apply List.filter_congr
    intro x _
    by_cases c : x.k = s
    · simp [c]
    · simp [c]
  rw [e, List.length_drop]
  have := unH_le (hs l s) a
  omega
theorem len_mid_le (l : List Ver) (a : Int) (done : ByteArray → Bool) : (mid l a done).length ≤ l.length := List.length_filter_le _ _
/-- Some keys have been counted. -/
def cnS (l : List Ver) (left : ByteArray → Bool) : Nat := l.countP (fun x => !left x.k)
theorem cnS_0 {l : List Ver} {left : ByteArray → Bool} (h : ∀ x ∈ l, left x.k = true) : cnS l left = 0 := List.countP_eq_zero.2 (fun x hx => by simp [h x hx])
theorem cnS_all {l : List Ver} {left : ByteArray → Bool} (h : ∀ x ∈ l, left x.k = false) : cnS l left = l.length := List.countP_eq_length.2 (fun x hx => by simp [h x hx])
theorem cnS_step {l : List Ver} {left left' : ByteArray → Bool} {s : ByteArray} (hs1 : left s = true) (h : ∀ t, left' t = (left t && !decide (t = s))) : cnS l left' = cnS l left + (hs l s).length := by
  unfold cnS hs
  rw [← List.countP_eq_length_filter]
  induction l with
  | nil => rfl
  | cons x r ih =>
    rw [List.countP_cons, List.countP_cons, List.countP_cons, ih, h]
    by_cases c : x.k = s
    · simp [c, hs1]; omega
    · simp [c]; omega
theorem cnS_le (l : List Ver) (left : ByteArray → Bool) : cnS l left ≤ l.length := List.countP_le_length
/-- A list without repetition, each of which is in another one, is no longer. -/
theorem nodup_le {α : Type} [DecidableEq α] : ∀ {ks ms : List α}, ks.Nodup → (∀ x ∈ ks, x ∈ ms) → ks.length ≤ ms.length
  | [], _, _, _ => Nat.zero_le _
  | k :: r, ms, hn, hm => by
    obtain ⟨h1, h2⟩ := List.nodup_cons.1 hn
    have := nodup_le (ms := ms.erase k) h2 (fun x hx => (List.mem_erase_of_ne (fun e => h1 (by rw [← e]; exact hx))).2 (hm x (by simp [hx])))
    rw [List.length_erase_of_mem (hm k (by simp))] at this
    have h0 : 0 < ms.length := List.length_pos_of_mem (hm k (by simp))
    rw [List.length_cons]; omega
end Vs
