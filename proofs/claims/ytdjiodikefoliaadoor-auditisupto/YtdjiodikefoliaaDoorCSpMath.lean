/- Sets of addresses as lists of spans: faults, what is in one, that a set is told by what is in it, how a set comes of its edges, how many are in it. No program stands here. -/
import Derived.Test.YtdjiodikefoliaaDoorCAdMath
namespace Bur
open Go
abbrev Sp := Int × Int

/-- The fault of a span: 0 none, 1 range, 2 shape. -/
def spF (a b : Int) : Int := if (isA a && isA b) = false then 1 else if b < a then 2 else 0
theorem spF_ok {a b : Int} (h : spF a b = 0) : 0 ≤ a ∧ a ≤ b ∧ b ≤ 4294967295 := by
  unfold spF at h
  split at h
  · omega
  · split at h
    · omega
    · rename_i h1 h2
      have h3 : isA a = true ∧ isA b = true := by simpa using h1
      have := isA_true h3.1
      have := isA_true h3.2
      omega
theorem spF_mk {a b : Int} (h0 : 0 ≤ a) (h1 : a ≤ b) (h2 : b ≤ 4294967295) : spF a b = 0 := by
  have e1 := isA_mk (a := a) h0 (by omega)
  have e2 := isA_mk (a := b) (by omega) h2
  simp [spF, e1, e2]; omega
/-- The first fault of a set, its spans behind the address h. -/
def stF : Int → List Sp → Int
  | _, [] => 0
  | h, s :: r => if spF s.1 s.2 = 0 then (if s.1 ≤ h + 1 then 2 else stF s.2 r) else spF s.1 s.2
def setF (l : List Sp) : Int := if 64 < l.length then 3 else stF (-2) l
/-- The first fault of any spans. -/
def anF : List Sp → Int
  | [] => 0
  | s :: r => if spF s.1 s.2 = 0 then anF r else spF s.1 s.2
def mkF (l : List Sp) : Int := if 64 < l.length then 3 else anF l
/-- Is an address in some of spans? -/
def mem (l : List Sp) (x : Int) : Bool := l.any fun s => decide (s.1 ≤ x) && decide (x ≤ s.2)
theorem mem_nil (x : Int) : mem [] x = false := rfl
theorem mem_cons (s : Sp) (r : List Sp) (x : Int) : mem (s :: r) x = ((decide (s.1 ≤ x) && decide (x ≤ s.2)) || mem r x) := rfl
theorem mem_iff (l : List Sp) (x : Int) : mem l x = true ↔ ∃ s ∈ l, s.1 ≤ x ∧ x ≤ s.2 := by simp [mem]
theorem mem_append (l m : List Sp) (x : Int) : mem (l ++ m) x = (mem l x || mem m x) := by simp [mem]

/-- Spans rise, behind h, with one address between. -/
def IsS : Int → List Sp → Prop
  | _, [] => True
  | h, s :: r => h + 1 < s.1 ∧ s.1 ≤ s.2 ∧ IsS s.2 r
/-- All are addresses. -/
def InA (l : List Sp) : Prop := ∀ s ∈ l, 0 ≤ s.1 ∧ s.1 ≤ s.2 ∧ s.2 ≤ 4294967295
theorem IsS.mono {h k : Int} : ∀ {l : List Sp}, IsS h l → k ≤ h → IsS k l
  | [], _, _ => trivial
  | _ :: _, ⟨a, b, c⟩, hk => ⟨by omega, b, c⟩
theorem IsS.lo : ∀ {l : List Sp} {h x : Int}, IsS h l → mem l x = true → h + 1 < x
  | [], _, _, _, hm => by simp [mem] at hm
  | s :: r, h, x, ⟨a, b, c⟩, hm => by
    rw [mem_cons] at hm
    cases h1 : (decide (s.1 ≤ x) && decide (x ≤ s.2)) with
    | true => simp at h1; omega
    | false =>
      rw [h1] at hm
      have := IsS.lo c (x := x) (by simpa using hm)
      omega
theorem IsS.out {l : List Sp} {h x : Int} (hs : IsS h l) (hx : x ≤ h + 1) : mem l x = false := by
  cases e : mem l x with
  | false => rfl
  | true => have := hs.lo e; omega
theorem IsS.uniq : ∀ {l m : List Sp} {h : Int}, IsS h l → IsS h m → (∀ x, mem l x = mem m x) → l = m
  | [], [], _, _, _, _ => rfl
  | [], t :: q, _, _, ⟨_, b, _⟩, e => by
    have := e t.1
    rw [mem_cons] at this
    simp [mem_nil, b] at this
  | s :: r, [], _, ⟨_, b, _⟩, _, e => by
    have := e s.1
    rw [mem_cons] at this
    simp [mem_nil, b] at this
  | s :: r, t :: q, h, hs@⟨a, b, c⟩, ht@⟨a', b', c'⟩, e => by
    have first : ∀ (s : Sp) (r : List Sp), IsS s.2 r → ∀ x, mem (s :: r) x = true → s.1 ≤ s.2 → s.1 ≤ x := by
      intro s r c x hx hb
      rw [mem_cons] at hx
      cases h1 : (decide (s.1 ≤ x) && decide (x ≤ s.2)) with
      | true => simp at h1; omega
      | false =>
        rw [h1] at hx
        have := c.lo (x := x) (by simpa using hx)
        omega
    have m1 : mem (s :: r) s.1 = true := by rw [mem_cons]; simp [b]
    have m2 : mem (t :: q) t.1 = true := by rw [mem_cons]; simp [b']
    have e1 : s.1 = t.1 := by
      have g1 := first t q c' s.1 (by rw [← e]; exact m1) b'
      have g2 := first s r c t.1 (by rw [e]; exact m2) b
      omega
    have e2 : s.2 = t.2 := by
      rcases Int.lt_trichotomy s.2 t.2 with g | g | g
      · have m3 : mem (t :: q) (s.2 + 1) = true := by
          rw [mem_cons]
          have g1 : t.1 ≤ s.2 + 1 := by omega
          have g2 : s.2 + 1 ≤ t.2 := by omega
          simp only [g1, g2, decide_true, Bool.and_self, Bool.true_or]
        rw [← e, mem_cons, c.out (x := s.2 + 1) (by omega)] at m3
        simp at m3
        omega
      · exact g
      · have m3 : mem (s :: r) (t.2 + 1) = true := by
          rw [mem_cons]
          have g1 : s.1 ≤ t.2 + 1 := by omega
          have g2 : t.2 + 1 ≤ s.2 := by omega
          simp only [g1, g2, decide_true, Bool.and_self, Bool.true_or]
        rw [e, mem_cons, c'.out (x := t.2 + 1) (by omega)] at m3
        simp at m3
        omega
    have e3 : s = t := Prod.ext e1 e2
    subst e3
    have e4 : r = q := IsS.uniq c c' fun x => by
      by_cases hx : x ≤ s.2
      · rw [c.out (by omega), c'.out (by omega)]
      · have := e x
        rw [mem_cons, mem_cons] at this
        simpa [show decide (x ≤ s.2) = false from by simp; omega] using this
    rw [e4]

theorem stF_ok : ∀ {l : List Sp} {h : Int}, stF h l = 0 → IsS h l ∧ InA l
  | [], _, _ => ⟨trivial, fun _ h => by cases h⟩
  | s :: r, h, e => by
    unfold stF at e
    split at e
    · rename_i h1
      have h2 := spF_ok h1
      split at e
      · omega
      · have ih := stF_ok e
        refine ⟨⟨by omega, by omega, ih.1⟩, fun t ht => ?_⟩
        rcases List.mem_cons.1 ht with rfl | ht
        · omega
        · exact ih.2 t ht
    · contradiction
theorem stF_mk : ∀ {l : List Sp} {h : Int}, IsS h l → InA l → stF h l = 0
  | [], _, _, _ => rfl
  | s :: r, h, ⟨a, b, c⟩, hi => by
    have h1 := hi s (by simp)
    unfold stF
    rw [if_pos (spF_mk h1.1 h1.2.1 h1.2.2), if_neg (by omega)]
    exact stF_mk c (fun t ht => hi t (by simp [ht]))
theorem anF_ok : ∀ {l : List Sp}, anF l = 0 → InA l
  | [], _ => fun _ h => by cases h
  | s :: r, e => by
    unfold anF at e
    split at e
    · rename_i h1
      have h2 := spF_ok h1
      intro t ht
      rcases List.mem_cons.1 ht with rfl | ht
      · omega
      · exact anF_ok e t ht
    · contradiction
theorem anF_mk : ∀ {l : List Sp}, InA l → anF l = 0
  | [], _ => rfl
  | s :: r, hi => by
    have h1 := hi s (by simp)
    unfold anF
    rw [if_pos (spF_mk h1.1 h1.2.1 h1.2.2)]
    exact anF_mk (fun t ht => hi t (by simp [ht]))
theorem setF_ok {l : List Sp} (h : setF l = 0) : l.length ≤ 64 ∧ IsS (-2) l ∧ InA l := by
  unfold setF at h
  split at h
  · omega
  · exact ⟨by omega, stF_ok h⟩
theorem setF_mk {l : List Sp} (h : l.length ≤ 64) (h1 : IsS (-2) l) (h2 : InA l) : setF l = 0 := by
  unfold setF
  rw [if_neg (by omega)]
  exact stF_mk h1 h2
theorem mkF_ok {l : List Sp} (h : mkF l = 0) : l.length ≤ 64 ∧ InA l := by
  unfold mkF at h
  split at h
  · omega
  · exact ⟨by omega, anF_ok h⟩
theorem mkF_mk {l : List Sp} (h : l.length ≤ 64) (h1 : InA l) : mkF l = 0 := by
  unfold mkF
  rw [if_neg (by omega)]
  exact anF_mk h1
/-- In a set that has addresses alone, what is in it is an address. -/
theorem InA.range {l : List Sp} (h : InA l) {x : Int} (hx : mem l x = true) : 0 ≤ x ∧ x ≤ 4294967295 := by
  obtain ⟨s, hs, h1, h2⟩ := (mem_iff l x).1 hx
  have := h s hs
  omega

/-- Where spans begin, and where they are over. -/
def edg (l : List Sp) : List Int := l.flatMap fun s => [s.1, s.2 + 1]
theorem edg_nil : edg [] = [] := rfl
theorem edg_cons (s : Sp) (r : List Sp) : edg (s :: r) = s.1 :: (s.2 + 1) :: edg r := rfl
theorem edg_append (l m : List Sp) : edg (l ++ m) = edg l ++ edg m := by simp [edg]
theorem edg_len : ∀ l : List Sp, (edg l).length = 2 * l.length
  | [] => rfl
  | s :: r => by rw [edg_cons]; simp [edg_len r]; omega
theorem edg_pos {l : List Sp} (h : InA l) : ∀ e ∈ edg l, 0 ≤ e ∧ e ≤ 4294967296 := by
  intro e he
  simp only [edg, List.mem_flatMap] at he
  obtain ⟨s, hs, he⟩ := he
  have := h s hs
  simp at he
  omega
/-- It changes at the edges alone. -/
def Chg (p : Int → Bool) (E : List Int) : Prop := ∀ x y, x ≤ y → (∀ e ∈ E, ¬ (x < e ∧ e ≤ y)) → p x = p y
theorem chg_mem : ∀ {l : List Sp} {E : List Int}, (∀ e ∈ edg l, e ∈ E) → Chg (mem l) E
  | [], _, _, _, _, _, _ => rfl
  | s :: r, E, h, x, y, hxy, hn => by
    rw [mem_cons, mem_cons, chg_mem (l := r) (E := E) (fun e he => h e (by rw [edg_cons]; simp [he])) x y hxy hn]
    have h1 := hn s.1 (h _ (by rw [edg_cons]; simp))
    have h2 := hn (s.2 + 1) (h _ (by rw [edg_cons]; simp))
    have e1 : decide (s.1 ≤ x) = decide (s.1 ≤ y) := by
      apply decide_eq_decide.2; omega
    have e2 : decide (x ≤ s.2) = decide (y ≤ s.2) := by
      apply decide_eq_decide.2; omega
    rw [e1, e2]
theorem mem_end {l : List Sp} {x : Int} (h : ∀ e ∈ edg l, e ≤ x) : mem l x = false := by
  cases e : mem l x with
  | false => rfl
  | true =>
    obtain ⟨s, hs, h1, h2⟩ := (mem_iff l x).1 e
    have := h (s.2 + 1) (by simp only [edg, List.mem_flatMap]; exact ⟨s, hs, by simp⟩)
    omega

/-- The set of what p has, made along rising edges; the second: where an open span began. -/
def gt (p : Int → Bool) : Option Int → List Int → List Sp
  | none, [] => []
  | some lo, [] => [(lo, 0)]
  | none, e :: r => if p e = true then gt p (some e) r else gt p none r
  | some lo, e :: r => if p e = true then gt p (some lo) r else (lo, e - 1) :: gt p none r
theorem gt_spec (p : Int → Bool) : ∀ (E : List Int) (c : Int), E.Pairwise (· ≤ ·) → (∀ e ∈ E, c ≤ e) →
    (∀ x y, c ≤ x → x ≤ y → (∀ e ∈ E, ¬ (x < e ∧ e ≤ y)) → p x = p y) → (∀ x, c ≤ x → (∀ e ∈ E, e ≤ x) → p x = false) →
    (p c = false → IsS (c - 1) (gt p none E) ∧ ∀ x, c ≤ x → mem (gt p none E) x = p x) ∧
    (∀ lo, lo ≤ c → (∀ x, lo ≤ x → x ≤ c → p x = true) → (∀ h, h + 1 < lo → IsS h (gt p (some lo) E)) ∧ ∀ x, lo ≤ x → mem (gt p (some lo) E) x = p x)
  | [], c, _, _, _, hen => by
    refine ⟨fun _ => ⟨trivial, fun x hx => (hen x hx (fun _ h => by cases h)).symm⟩, fun lo hlo hp => ?_⟩
    have := hp c hlo (Int.le_refl _)
    rw [hen c (Int.le_refl _) (fun _ h => by cases h)] at this
    cases this
  | e :: r, c, hs, hc, hch, hen => by
    have hce := hc e (by simp)
    have hs' := List.pairwise_cons.1 hs
    obtain ⟨ih1, ih2⟩ := gt_spec p r e hs'.2 hs'.1
      (fun x y hx hxy hn => hch x y (by omega) hxy (fun f hf => by
        rcases List.mem_cons.1 hf with rfl | hf
        · omega
        · exact hn f hf))
      (fun x hx hn => hen x (by omega) (fun f hf => by
        rcases List.mem_cons.1 hf with rfl | hf
        · omega
        · exact hn f hf))
    have hgap : ∀ x, c ≤ x → x < e → p x = p c := fun x hx hxe => (hch c x (Int.le_refl _) hx (fun f hf => by
      rcases List.mem_cons.1 hf with rfl | hf
      · omega
      · have := hs'.1 f hf; omega)).symm
    refine ⟨fun hpc => ?_, fun lo hlo hp => ?_⟩
    · by_cases hpe : p e = true
      · have hne : c ≠ e := fun h => by rw [h, hpe] at hpc; cases hpc
        obtain ⟨g1, g2⟩ := ih2 e (Int.le_refl _) (fun x h1 h2 => by rw [show x = e from by omega]; exact hpe)
        rw [gt, if_pos hpe]
        refine ⟨g1 _ (by omega), fun x hx => ?_⟩
        by_cases hxe : e ≤ x
        · exact g2 x hxe
        · rw [hgap x hx (by omega), hpc]
          exact (g1 (e - 2) (by omega)).out (by omega)
      · have hpe' : p e = false := by simpa using hpe
        obtain ⟨g1, g2⟩ := ih1 hpe'
        rw [gt, if_neg hpe]
        refine ⟨g1.mono (by omega), fun x hx => ?_⟩
        by_cases hxe : e ≤ x
        · exact g2 x hxe
        · rw [hgap x hx (by omega), hpc]
          exact g1.out (by omega)
    · have hpc := hp c hlo (Int.le_refl _)
      by_cases hpe : p e = true
      · obtain ⟨g1, g2⟩ := ih2 lo (by omega) (fun x h1 h2 => by
          by_cases hxc : x ≤ c
          · exact hp x h1 hxc
          · by_cases hxe : x = e
            · rw [hxe]; exact hpe
            · rw [hgap x (by omega) (by omega)]; exact hpc)
        rw [gt, if_pos hpe]
        exact ⟨g1, g2⟩
      · have hpe' : p e = false := by simpa using hpe
        have hne : c ≠ e := fun h => by rw [h, hpe'] at hpc; cases hpc
        obtain ⟨g1, g2⟩ := ih1 hpe'
        rw [gt, if_neg hpe]
        refine ⟨fun h hh => ⟨hh, by show lo ≤ e - 1; omega, g1⟩, fun x hx => ?_⟩
        rw [mem_cons]
        by_cases hxe : e ≤ x
        · rw [g2 x hxe]
          simp only
          rw [show decide (x ≤ e - 1) = false from by simp; omega]
          simp
        · have : decide (lo ≤ x) = true := by simp; omega
          have h2 : decide (x ≤ e - 1) = true := by simp; omega
          simp only [this, h2, Bool.and_self, Bool.true_or]
          by_cases hxc : x ≤ c
          · exact (hp x hx hxc).symm
          · rw [hgap x (by omega) (by omega)]; exact hpc.symm
/-- Along all edges: a set, and just what p has is in it. -/
theorem gt_set {p : Int → Bool} {E : List Int} (hs : E.Pairwise (· ≤ ·)) (h0 : ∀ e ∈ E, 0 ≤ e) (hch : Chg p E) (hen : ∀ x, (∀ e ∈ E, e ≤ x) → p x = false) (hlo : ∀ x, x < 0 → p x = false) :
    IsS (-2) (gt p none E) ∧ ∀ x, mem (gt p none E) x = p x := by
  obtain ⟨g1, g2⟩ := (gt_spec p E (-1) hs (fun e he => by have := h0 e he; omega) (fun x y _ hxy hn => hch x y hxy hn) (fun x _ hn => hen x hn)).1 (hlo _ (by omega))
  refine ⟨g1.mono (by omega), fun x => ?_⟩
  by_cases hx : -1 ≤ x
  · exact g2 x hx
  · rw [hlo x (by omega)]; exact g1.out (by omega)

/-- The set of what p has, made along edges that rise strictly, span by span. -/
def tg (p : Int → Bool) : Option Sp → List Int → List Sp
  | cur, [] => cur.toList
  | cur, [_] => cur.toList
  | none, e :: e' :: r => if p e = true then tg p (some (e, e' - 1)) (e' :: r) else tg p none (e' :: r)
  | some s, e :: e' :: r => if p e = true then (if s.2 = e - 1 then tg p (some (s.1, e' - 1)) (e' :: r) else s :: tg p (some (e, e' - 1)) (e' :: r)) else tg p (some s) (e' :: r)
theorem tg_spec (p : Int → Bool) : ∀ (r : List Int) (e : Int), (e :: r).Pairwise (· < ·) →
    (∀ x y, e ≤ x → x ≤ y → (∀ f ∈ r, ¬ (x < f ∧ f ≤ y)) → p x = p y) → (∀ x, e ≤ x → (∀ f ∈ r, f ≤ x) → p x = false) →
    (IsS (e - 2) (tg p none (e :: r)) ∧ ∀ x, e ≤ x → mem (tg p none (e :: r)) x = p x) ∧
    (∀ s : Sp, s.1 ≤ s.2 → s.2 < e → (∀ x, s.1 ≤ x → x ≤ s.2 → p x = true) → (∀ x, s.2 < x → x < e → p x = false) →
      (∀ h, h + 1 < s.1 → IsS h (tg p (some s) (e :: r))) ∧ ∀ x, s.1 ≤ x → mem (tg p (some s) (e :: r)) x = p x)
  | [], e, _, _, hen => by
    refine ⟨⟨trivial, fun x hx => (hen x hx (fun _ h => by cases h)).symm⟩, fun s h1 h2 ht hf => ⟨fun h hh => ⟨hh, h1, trivial⟩, fun x hx => ?_⟩⟩
    show mem [s] x = p x
    rw [mem_cons, mem_nil, Bool.or_false]
    by_cases hxs : x ≤ s.2
    · rw [ht x hx hxs]; simp [hx, hxs]
    · rw [show decide (x ≤ s.2) = false from by simp; omega, Bool.and_false]
      by_cases hxe : x < e
      · exact (hf x (by omega) hxe).symm
      · exact (hen x (by omega) (fun _ h => by cases h)).symm
  | e' :: r, e, hs, hch, hen => by
    have hs' := List.pairwise_cons.1 hs
    have hee := hs'.1 e' (by simp)
    have hs2 := List.pairwise_cons.1 hs'.2
    obtain ⟨⟨i1, i2⟩, ih2⟩ := tg_spec p r e' hs'.2
      (fun x y hx hxy hn => hch x y (by omega) hxy (fun f hf => by
        rcases List.mem_cons.1 hf with rfl | hf
        · omega
        · exact hn f hf))
      (fun x hx hn => hen x (by omega) (fun f hf => by
        rcases List.mem_cons.1 hf with rfl | hf
        · omega
        · exact hn f hf))
    have hgap : ∀ x, e ≤ x → x < e' → p x = p e := fun x hx hxe => (hch e x (Int.le_refl _) hx (fun f hf => by
      rcases List.mem_cons.1 hf with rfl | hf
      · omega
      · have := hs2.1 f hf; omega)).symm
    by_cases hpe : p e = true
    · obtain ⟨j1, j2⟩ := ih2 (e, e' - 1) (by show e ≤ e' - 1; omega) (by show e' - 1 < e'; omega) (fun x h1 h2 => by
        have h1' : e ≤ x := h1
        have h2' : x ≤ e' - 1 := h2
        rw [hgap x h1' (by omega)]; exact hpe) (fun x h1 h2 => by have h1' : e' - 1 < x := h1; omega)
      refine ⟨?_, fun s h1 h2 ht hf => ?_⟩
      · rw [tg, if_pos hpe]
        exact ⟨j1 _ (by show e - 2 + 1 < e; omega), fun x hx => j2 x hx⟩
      · rw [tg, if_pos hpe]
        by_cases hse : s.2 = e - 1
        · rw [if_pos hse]
          exact ih2 (s.1, e' - 1) (by show s.1 ≤ e' - 1; omega) (by show e' - 1 < e'; omega) (fun x g1 g2 => by
            have g1' : s.1 ≤ x := g1
            have g2' : x ≤ e' - 1 := g2
            by_cases hx : x ≤ s.2
            · exact ht x g1' hx
            · rw [hgap x (by omega) (by omega)]; exact hpe) (fun x g1 g2 => by have g1' : e' - 1 < x := g1; omega)
        · rw [if_neg hse]
          refine ⟨fun h hh => ⟨hh, h1, j1 _ (by show s.2 + 1 < e; omega)⟩, fun x hx => ?_⟩
          rw [mem_cons]
          by_cases hxs : x ≤ s.2
          · rw [ht x hx hxs]; simp [hx, hxs]
          · rw [show decide (x ≤ s.2) = false from by simp; omega, Bool.and_false, Bool.false_or]
            by_cases hxe : e ≤ x
            · exact j2 x hxe
            · rw [hf x (by omega) (by omega)]
              exact (j1 (e - 2) (by show e - 2 + 1 < e; omega)).out (by omega)
    · have hpe' : p e = false := by simpa using hpe
      refine ⟨?_, fun s h1 h2 ht hf => ?_⟩
      · rw [tg, if_neg hpe]
        refine ⟨i1.mono (by omega), fun x hx => ?_⟩
        by_cases hxe : e' ≤ x
        · exact i2 x hxe
        · rw [hgap x hx (by omega), hpe']
          exact i1.out (by omega)
      · rw [tg, if_neg hpe]
        exact ih2 s h1 (by omega) ht (fun x g1 g2 => by
          by_cases hx : x < e
          · exact hf x g1 hx
          · rw [hgap x (by omega) g2]; exact hpe')
theorem tg_set {p : Int → Bool} {E : List Int} (hs : E.Pairwise (· < ·)) (h0 : ∀ e ∈ E, 0 ≤ e) (hch : Chg p E) (hen : ∀ x, (∀ e ∈ E, e ≤ x) → p x = false) (hlo : ∀ x, (∀ e ∈ E, x < e) → p x = false) :
    IsS (-2) (tg p none E) ∧ ∀ x, mem (tg p none E) x = p x := by
  match E, hs, h0, hch, hen, hlo with
  | [], _, _, _, hen, _ => exact ⟨trivial, fun x => (hen x (fun _ h => by cases h)).symm⟩
  | e :: r, hs, h0, hch, hen, hlo =>
    have h0e := h0 e (by simp)
    have hs' := List.pairwise_cons.1 hs
    obtain ⟨g1, g2⟩ := (tg_spec p r e hs (fun x y hx hxy hn => hch x y hxy (fun f hf => by
      rcases List.mem_cons.1 hf with rfl | hf
      · omega
      · exact hn f hf)) (fun x hx hn => hen x (fun f hf => by
      rcases List.mem_cons.1 hf with rfl | hf
      · omega
      · exact hn f hf))).1
    refine ⟨g1.mono (by omega), fun x => ?_⟩
    by_cases hx : e ≤ x
    · exact g2 x hx
    · rw [hlo x (fun f hf => by
        rcases List.mem_cons.1 hf with rfl | hf
        · omega
        · have := hs'.1 f hf; omega)]
      exact g1.out (by omega)

/-- How many addresses spans have. -/
def cnt : List Sp → Int
  | [] => 0
  | s :: r => s.2 - s.1 + 1 + cnt r
def ct (p : Int → Bool) : Int → Nat → Int
  | _, 0 => 0
  | a, n + 1 => (if p a = true then 1 else 0) + ct p (a + 1) n
theorem ct_add (p : Int → Bool) : ∀ (n m : Nat) (a : Int), ct p a (n + m) = ct p a n + ct p (a + n) m
  | 0, m, a => by simp [ct]
  | n + 1, m, a => by
    rw [show n + 1 + m = (n + m) + 1 from by omega, ct, ct, ct_add p n m (a + 1), show a + 1 + (n : Int) = a + ((n + 1 : Nat) : Int) from by omega]
    omega
theorem ct_congr {p q : Int → Bool} : ∀ (n : Nat) (a : Int), (∀ x, a ≤ x → x < a + n → p x = q x) → ct p a n = ct q a n
  | 0, _, _ => rfl
  | n + 1, a, h => by
    rw [ct, ct, h a (by omega) (by omega), ct_congr n (a + 1) (fun x h1 h2 => h x (by omega) (by omega))]
theorem ct_no : ∀ (n : Nat) (a : Int), ct (fun _ => false) a n = 0
  | 0, _ => rfl
  | n + 1, a => by rw [ct, ct_no n]; simp
theorem ct_all : ∀ (n : Nat) (a : Int), ct (fun _ => true) a n = n
  | 0, _ => rfl
  | n + 1, a => by rw [ct, ct_all n]; simp; omega
theorem ct_incl (p q : Int → Bool) : ∀ (n : Nat) (a : Int), ct (fun x => p x || q x) a n + ct (fun x => p x && q x) a n = ct p a n + ct q a n
  | 0, _ => rfl
  | n + 1, a => by
    have := ct_incl p q n (a + 1)
    simp only [ct]
    have e : (if (p a || q a) = true then (1 : Int) else 0) + (if (p a && q a) = true then (1 : Int) else 0) = (if p a = true then (1 : Int) else 0) + (if q a = true then (1 : Int) else 0) := by
      rcases Bool.eq_false_or_eq_true (p a) with h | h <;> rcases Bool.eq_false_or_eq_true (q a) with k | k <;> simp [h, k]
    omega
theorem cnt_ct : ∀ (l : List Sp) (h : Int), IsS h l → ∀ n : Nat, (∀ s ∈ l, s.2 < h + 1 + n) → cnt l = ct (mem l) (h + 1) n
  | [], h, _, n, _ => by
    rw [ct_congr (q := fun _ => false) n (h + 1) (fun x _ _ => mem_nil x), ct_no]; rfl
  | s :: r, h, ⟨a, b, c⟩, n, hn => by
    have h1 := hn s (by simp)
    obtain ⟨n1, e1⟩ : ∃ k : Nat, (k : Int) = s.1 - (h + 1) := ⟨(s.1 - (h + 1)).toNat, by omega⟩
    obtain ⟨n2, e2⟩ : ∃ k : Nat, (k : Int) = s.2 - s.1 + 1 := ⟨(s.2 - s.1 + 1).toNat, by omega⟩
    obtain ⟨n3, e3⟩ : ∃ k : Nat, n = n1 + (n2 + k) := ⟨n - n1 - n2, by omega⟩
    have e4 := cnt_ct r s.2 c n3 (fun t ht => by have := hn t (by simp [ht]); omega)
    subst e3
    rw [ct_add, ct_add, ct_congr (q := fun _ => false) n1 (h + 1) (fun x h1 h2 => by
        rw [mem_cons, c.out (x := x) (by omega), show decide (s.1 ≤ x) = false from by simp; omega]; rfl), ct_no,
      ct_congr (q := fun _ => true) n2 _ (fun x h1 h2 => by
        rw [mem_cons, show decide (s.1 ≤ x) = true from by simp; omega, show decide (x ≤ s.2) = true from by simp; omega]; rfl), ct_all,
      ct_congr (q := mem r) n3 _ (fun x h1 h2 => by
        rw [mem_cons, show decide (x ≤ s.2) = false from by simp; omega, Bool.and_false, Bool.false_or]),
      show h + 1 + (n1 : Int) + (n2 : Int) = s.2 + 1 from by omega, ← e4, cnt]
    omega
/-- Two sets together have as many as each, less what they have in common. -/
theorem cnt_incl {a b u m : List Sp} (ha : IsS (-2) a) (hb : IsS (-2) b) (hu : IsS (-2) u) (hm : IsS (-2) m) (ia : InA a) (ib : InA b) (iu : InA u) (im : InA m)
    (eu : ∀ x, mem u x = (mem a x || mem b x)) (em : ∀ x, mem m x = (mem a x && mem b x)) : cnt u + cnt m = cnt a + cnt b := by
  obtain ⟨n, hn⟩ : ∃ n : Nat, (n : Int) = 4294967298 := ⟨4294967298, by omega⟩
  have g : ∀ l, InA l → ∀ s ∈ l, s.2 < -2 + 1 + (n : Int) := fun l hl s hs => by have := hl s hs; omega
  rw [cnt_ct u _ hu n (g u iu), cnt_ct m _ hm n (g m im), cnt_ct a _ ha n (g a ia), cnt_ct b _ hb n (g b ib),
    ct_congr (p := mem u) n _ (fun x _ _ => eu x), ct_congr (p := mem m) n _ (fun x _ _ => em x)]
  exact ct_incl (mem a) (mem b) n _

/-- Strictly rising numbers that are all in a list are no more than it has. -/
theorem len_le : ∀ (L K : List Int), L.Pairwise (· < ·) → (∀ x ∈ L, x ∈ K) → L.length ≤ K.length
  | [], _, _, _ => by simp
  | x :: L, K, hp, h => by
    have hp' := List.pairwise_cons.1 hp
    have hx := h x (by simp)
    have := len_le L (K.erase x) hp'.2 (fun y hy => by
      have hlt := hp'.1 y hy
      exact (List.mem_erase_of_ne (by omega)).2 (h y (by simp [hy])))
    rw [List.length_erase_of_mem hx] at this
    have : 0 < K.length := List.length_pos_of_mem hx
    simp only [List.length_cons]
    omega
theorem IsS.lows : ∀ {l : List Sp} {h : Int}, IsS h l → (l.map (·.1)).Pairwise (· < ·) ∧ ∀ x ∈ l.map (·.1), h + 1 < x
  | [], _, _ => by simp
  | s :: r, h, ⟨a, b, c⟩ => by
    obtain ⟨h1, h2⟩ := IsS.lows c
    refine ⟨?_, ?_⟩
    · rw [List.map_cons, List.pairwise_cons]
      exact ⟨fun x hx => by have := h2 x hx; omega, h1⟩
    · intro x hx
      rw [List.map_cons, List.mem_cons] at hx
      rcases hx with rfl | hx
      · exact a
      · have := h2 x hx; omega
/-- The address ahead of a set's span is not in it. -/
theorem IsS.ahead : ∀ {l : List Sp} {h : Int}, IsS h l → ∀ s ∈ l, mem l (s.1 - 1) = false
  | s :: r, h, ⟨a, b, c⟩, t, ht => by
    rw [mem_cons]
    rcases List.mem_cons.1 ht with rfl | ht
    · rw [c.out (x := t.1 - 1) (by omega), show decide (t.1 ≤ t.1 - 1) = false from by simp; omega]; rfl
    · have h1 := (IsS.lows c).2 t.1 (List.mem_map_of_mem ht)
      rw [IsS.ahead c t ht, show decide (t.1 - 1 ≤ s.2) = false from by simp; omega]; simp
theorem IsS.le : ∀ {l : List Sp} {h : Int}, IsS h l → ∀ s ∈ l, s.1 ≤ s.2
  | s :: r, h, ⟨a, b, c⟩, t, ht => by
    rcases List.mem_cons.1 ht with rfl | ht
    · exact b
    · exact IsS.le c t ht
theorem IsS.mem_hi {l : List Sp} {h : Int} (hs : IsS h l) {s : Sp} (h1 : s ∈ l) : mem l s.1 = true ∧ mem l s.2 = true := by
  have h2 := hs.le s h1
  exact ⟨(mem_iff _ _).2 ⟨s, h1, by omega, h2⟩, (mem_iff _ _).2 ⟨s, h1, h2, by omega⟩⟩
/-- The set of spans has no more spans than they are. -/
theorem set_len {l m : List Sp} {h : Int} (hm : IsS h m) (e : ∀ x, mem m x = mem l x) : m.length ≤ l.length := by
  have := len_le (m.map (·.1)) (l.map (·.1)) hm.lows.1 (fun x hx => by
    obtain ⟨s, hs, rfl⟩ := List.mem_map.1 hx
    have h1 := (hm.mem_hi hs).1
    have h2 := hm.ahead s hs
    rw [e] at h1 h2
    obtain ⟨t, ht, g1, g2⟩ := (mem_iff l s.1).1 h1
    by_cases g : t.1 = s.1
    · rw [← g]; exact List.mem_map_of_mem ht
    · have h3 : mem l (s.1 - 1) = true := (mem_iff l _).2 ⟨t, ht, by omega, by omega⟩
      rw [h3] at h2; cases h2)
  simpa using this
/-- What is in a set has addresses alone, if its spans do. -/
theorem IsS.inA {m : List Sp} {h : Int} (hm : IsS h m) (e : ∀ x, mem m x = true → 0 ≤ x ∧ x ≤ 4294967295) : InA m := by
  intro s hs
  have h1 := hm.mem_hi hs
  exact ⟨(e _ h1.1).1, hm.le s hs, (e _ h1.2).2⟩

/-- The edges sorted. -/
def srt (zs : List Int) : List Int := zs.mergeSort fun x y => decide (x ≤ y)
theorem srt_pair (zs : List Int) : (srt zs).Pairwise (· ≤ ·) := by
  have := List.pairwise_mergeSort (le := fun x y : Int => decide (x ≤ y)) (by intro a b c h1 h2; simp at *; omega) (by intro a b; simp; omega) zs
  exact this.imp (by simp)
theorem mem_srt (zs : List Int) (x : Int) : x ∈ srt zs ↔ x ∈ zs := by simp [srt]
theorem srt_len (zs : List Int) : (srt zs).length = zs.length := by simp [srt]
/-- The set of what p has, by the edges of spans. -/
def gth (p : Int → Bool) (zs : List Int) : List Sp := gt p none (srt zs)
/-- What is chosen by two: 1 in one of them, 2 in both, 3 in the first alone. -/
def kp (how : Int) (x y : Bool) : Bool := (decide (how = 1) && (x || y)) || (decide (how = 2) && x && y) || (decide (how = 3) && x && !y)
theorem kp_no (how : Int) : kp how false false = false := by simp [kp]
def two (how : Int) (a b : List Sp) : List Sp := gth (fun x => kp how (mem a x) (mem b x)) (edg a ++ edg b)
def mk (l : List Sp) : List Sp := gth (mem l) (edg l)
theorem two_chg (how : Int) (a b : List Sp) {E : List Int} (h : ∀ e, e ∈ E ↔ e ∈ edg a ++ edg b) : Chg (fun x => kp how (mem a x) (mem b x)) E := fun x y hxy hn => by
  have h1 := chg_mem (l := a) (E := E) (fun e he => (h e).2 (by simp [he])) x y hxy hn
  have h2 := chg_mem (l := b) (E := E) (fun e he => (h e).2 (by simp [he])) x y hxy hn
  simp only [h1, h2]
theorem two_end (how : Int) (a b : List Sp) {E : List Int} (h : ∀ e, e ∈ E ↔ e ∈ edg a ++ edg b) (x : Int) (hx : ∀ e ∈ E, e ≤ x) : kp how (mem a x) (mem b x) = false := by
  rw [mem_end (l := a) (fun e he => hx e ((h e).2 (by simp [he]))), mem_end (l := b) (fun e he => hx e ((h e).2 (by simp [he]))), kp_no]
theorem mem_front {l : List Sp} {x : Int} (h : ∀ e ∈ edg l, x < e) : mem l x = false := by
  cases e : mem l x with
  | false => rfl
  | true =>
    obtain ⟨s, hs, h1, h2⟩ := (mem_iff l x).1 e
    have := h s.1 (by simp only [edg, List.mem_flatMap]; exact ⟨s, hs, by simp⟩)
    omega
theorem mem_neg {l : List Sp} {x : Int} (hi : InA l) (h : x < 0) : mem l x = false := by
  cases e : mem l x with
  | false => rfl
  | true => have := hi.range e; omega
theorem edg2_pos {a b : List Sp} (ha : InA a) (hb : InA b) {E : List Int} (h : ∀ e, e ∈ E ↔ e ∈ edg a ++ edg b) : ∀ e ∈ E, 0 ≤ e := fun e he => by
  rcases List.mem_append.1 ((h e).1 he) with g | g
  · exact (edg_pos ha e g).1
  · exact (edg_pos hb e g).1
theorem two_set (how : Int) {a b : List Sp} (ha : InA a) (hb : InA b) : IsS (-2) (two how a b) ∧ ∀ x, mem (two how a b) x = kp how (mem a x) (mem b x) := by
  have h : ∀ e, e ∈ srt (edg a ++ edg b) ↔ e ∈ edg a ++ edg b := mem_srt _
  exact gt_set (srt_pair _) (edg2_pos ha hb h) (two_chg how a b h) (two_end how a b h) (fun x hx => by rw [mem_neg ha hx, mem_neg hb hx, kp_no])
/-- The reference makes the same set. -/
theorem tg_two (how : Int) {a b : List Sp} (ha : InA a) (hb : InA b) {E : List Int} (hs : E.Pairwise (· < ·)) (h : ∀ e, e ∈ E ↔ e ∈ edg a ++ edg b) : tg (fun x => kp how (mem a x) (mem b x)) none E = two how a b := by
  obtain ⟨g1, g2⟩ := tg_set (p := fun x => kp how (mem a x) (mem b x)) hs (edg2_pos ha hb h) (two_chg how a b h) (two_end how a b h) (fun x hx => by
    rw [mem_front (fun e he => hx e ((h e).2 (by simp [he]))), mem_front (fun e he => hx e ((h e).2 (by simp [he]))), kp_no])
  obtain ⟨g3, g4⟩ := two_set how ha hb
  exact g1.uniq g3 (fun x => by rw [g2, g4])
theorem two_inA (how : Int) {a b : List Sp} (ha : InA a) (hb : InA b) : InA (two how a b) := by
  obtain ⟨g1, g2⟩ := two_set how ha hb
  refine g1.inA fun x hx => ?_
  rw [g2] at hx
  cases e1 : mem a x with
  | true => exact ha.range e1
  | false =>
    cases e2 : mem b x with
    | true => exact hb.range e2
    | false => rw [e1, e2, kp_no] at hx; cases hx
theorem mk_two (l : List Sp) : mk l = two 1 l [] := by
  unfold mk two
  rw [edg_nil, List.append_nil]
  congr 1
  funext x
  simp [kp, mem_nil]
theorem mk_set {l : List Sp} (h : InA l) : IsS (-2) (mk l) ∧ (∀ x, mem (mk l) x = mem l x) ∧ InA (mk l) ∧ (mk l).length ≤ l.length := by
  have hn : InA [] := fun _ h => by cases h
  obtain ⟨g1, g2⟩ := two_set 1 h hn
  rw [← mk_two] at g1 g2
  have g3 : ∀ x, mem (mk l) x = mem l x := fun x => by rw [g2]; simp [kp, mem_nil]
  exact ⟨g1, g3, by rw [mk_two]; exact two_inA 1 h hn, set_len g1 g3⟩
end Bur
