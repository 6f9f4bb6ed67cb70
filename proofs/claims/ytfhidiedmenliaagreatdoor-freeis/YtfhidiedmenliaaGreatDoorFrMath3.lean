/- What is free within a prefix: blocks joined into gaps; the best; what is given was free, and taken there is one less; blocks are what is free. No program stands here. -/
import Derived.Test.YtfhidiedmenliaaGreatDoorFrMath2
namespace Bur
open Go

/-- Blocks joined to spans, behind one that is open. -/
def gm : Sp → List Sp → List Sp
  | c, [] => [c]
  | c, b :: r => if c.2 = b.1 - 1 then gm (c.1, b.1 + sz b.2 - 1) r else c :: gm (b.1, b.1 + sz b.2 - 1) r
def gms : List Sp → List Sp
  | [] => []
  | b :: r => gm (b.1, b.1 + sz b.2 - 1) r
/-- They rise, from lo on. -/
def Rs : Int → List Sp → Prop
  | _, [] => True
  | lo, b :: r => lo ≤ b.1 ∧ Rs (b.1 + sz b.2) r
theorem Rs.mono {a b : Int} : ∀ {l : List Sp}, Rs b l → a ≤ b → Rs a l
  | [], _, _ => trivial
  | _ :: _, ⟨h, k⟩, hab => ⟨by omega, k⟩
theorem Rs.append {b : Int} : ∀ {l m : List Sp} {a : Int}, Rs a l → (∀ q ∈ l, q.1 + sz q.2 ≤ b) → a ≤ b → Rs b m → Rs a (l ++ m)
  | [], _, _, _, _, hab, hm => hm.mono hab
  | q :: r, m, a, ⟨h1, h2⟩, hb, _, hm => ⟨h1, Rs.append h2 (fun t ht => hb t (by simp [ht])) (hb q (by simp)) hm⟩
theorem gm_spec : ∀ (r : List Sp) (c : Sp) (h : Int), h + 1 < c.1 → c.1 ≤ c.2 → Rs (c.2 + 1) r → IsS h (gm c r) ∧ ∀ x, mem (gm c r) x = ((decide (c.1 ≤ x) && decide (x ≤ c.2)) || mem (pfS r) x)
  | [], c, h, h1, h2, _ => ⟨⟨h1, h2, trivial⟩, fun _ => rfl⟩
  | b :: r, c, h, h1, h2, ⟨h3, h4⟩ => by
    have hz := sz_pos b.2
    rw [gm]
    by_cases e : c.2 = b.1 - 1
    · rw [if_pos e]
      obtain ⟨g1, g2⟩ := gm_spec r (c.1, b.1 + sz b.2 - 1) h h1 (by show c.1 ≤ _; omega) (h4.mono (by show b.1 + sz b.2 - 1 + 1 ≤ _; omega))
      refine ⟨g1, fun x => ?_⟩
      rw [g2, show pfS (b :: r) = pS b :: pfS r from rfl, mem_cons, ← Bool.or_assoc]
      congr 1
      rw [Bool.eq_iff_iff]
      simp only [Bool.or_eq_true, Bool.and_eq_true, decide_eq_true_eq]
      simp only [pS]
      omega
    · rw [if_neg e]
      obtain ⟨g1, g2⟩ := gm_spec r (b.1, b.1 + sz b.2 - 1) c.2 (by show _ < b.1; omega) (by show b.1 ≤ b.1 + sz b.2 - 1; omega) (h4.mono (by show b.1 + sz b.2 - 1 + 1 ≤ _; omega))
      refine ⟨⟨h1, h2, g1⟩, fun x => ?_⟩
      rw [mem_cons, g2, show pfS (b :: r) = pS b :: pfS r from rfl, mem_cons]
      congr 2
      rw [Bool.eq_iff_iff]
      simp only [Bool.and_eq_true, decide_eq_true_eq]
      simp only [pS]
      omega
theorem gms_spec {l : List Sp} {h : Int} (hr : Rs (h + 2) l) : IsS h (gms l) ∧ ∀ x, mem (gms l) x = mem (pfS l) x := by
  cases l with
  | nil => exact ⟨trivial, fun _ => rfl⟩
  | cons b r =>
    obtain ⟨h1, h2⟩ := hr
    have hz := sz_pos b.2
    obtain ⟨g1, g2⟩ := gm_spec r (b.1, b.1 + sz b.2 - 1) h (by show _ < b.1; omega) (by show b.1 ≤ b.1 + sz b.2 - 1; omega) (h2.mono (by show b.1 + sz b.2 - 1 + 1 ≤ _; omega))
    refine ⟨g1, fun x => ?_⟩
    show mem (gm _ r) x = mem (pS b :: pfS r) x
    rw [g2, mem_cons]
    congr 1
    rw [Bool.eq_iff_iff]
    simp only [Bool.and_eq_true, decide_eq_true_eq]
    simp only [pS]
    omega
theorem blk_rs {l : List Sp} : ∀ (k : Nat) (a : Int), OkK k a → Rs a (blk l k a)
  | 0, a, _ => by
    rw [blk]
    split
    · exact ⟨Int.le_refl _, trivial⟩
    · trivial
  | k + 1, a, ok => by
    have e1 := pw_succ k
    have e2 := pw_pos k
    rw [blk]
    split
    · exact ⟨Int.le_refl _, trivial⟩
    · split
      · trivial
      · refine Rs.append (b := a + 2 ^ k) (blk_rs k a ok.low) (fun q hq => ?_) (by omega) (blk_rs k _ ok.high)
        obtain ⟨i, c, rfl, h2, h3, h4, h5, h6⟩ := blk_small k a ok.low q hq
        rw [h3.sz]
        exact h5
/-- Joined, the blocks are the gaps. -/
theorem gms_blk {p : Sp} {l : List Sp} (hp : OkP p) (hl : ∀ q ∈ l, OkP q) : gms (blk l (32 - p.2).toNat p.1) = gps p l := by
  obtain ⟨g1, g2, g3⟩ := gps_set hp hl
  obtain ⟨k1, k2⟩ := hp.okK
  obtain ⟨h1, h2⟩ := gms_spec (h := -2) ((blk_rs (l := l) _ _ k1).mono (by have := k1.2.1; omega))
  refine h1.uniq g1 (fun x => ?_)
  rw [h2, blk_cvs hp hl, cvs_mem g2]
/-- There are no more gaps than are taken, and one. -/
theorem gps_len {p : Sp} {l : List Sp} (hp : OkP p) (hl : ∀ q ∈ l, OkP q) : (gps p l).length ≤ l.length + 1 := by
  obtain ⟨g1, g2, g3⟩ := gps_set hp hl
  have := len_le ((gps p l).map (·.1)) (p.1 :: l.map fun q => q.1 + sz q.2) g1.lows.1 (fun x hx => by
    obtain ⟨s, hs, rfl⟩ := List.mem_map.1 hx
    have h1 := (g1.mem_hi hs).1
    have h2 := g1.ahead s hs
    rw [g3] at h1 h2
    simp only [Bool.and_eq_true, decide_eq_true_eq, Bool.not_eq_true'] at h1
    rw [List.mem_cons]
    by_cases e : s.1 = p.1
    · exact .inl e
    · have e1 : decide (p.1 ≤ s.1 - 1) = true := decide_eq_true (by omega)
      have e2 : decide (s.1 - 1 ≤ p.1 + (sz p.2 - 1)) = true := decide_eq_true (by omega)
      rw [e1, e2] at h2
      have h3 : mem (pfS l) (s.1 - 1) = true := by simpa using h2
      obtain ⟨q, hq, a1, a2⟩ := (tk_iff l _).1 h3
      refine .inr (List.mem_map.2 ⟨q, hq, ?_⟩)
      apply Classical.byContradiction
      intro hne
      have h4 := h1.2
      rw [(tk_iff l s.1).2 ⟨q, hq, by omega, by omega⟩] at h4
      cases h4)
  simpa using this

/-- Which faults: of the prefix, too many, of one that is taken. -/
def frF (p : Sp) (l : List Sp) : Int := if fault p.1 p.2 = 0 then (if 60 < l.length then 3 else pnF l) else fault p.1 p.2
theorem frF_ok {p : Sp} {l : List Sp} (h : frF p l = 0) : OkP p ∧ l.length ≤ 60 ∧ ∀ q ∈ l, OkP q := by
  unfold frF at h
  split at h
  · rename_i e
    split at h
    · cases h
    · exact ⟨e, by omega, pnF_ok h⟩
  · rename_i e; exact absurd h e
theorem frF_mk {p : Sp} {l : List Sp} (h1 : OkP p) (h2 : l.length ≤ 60) (h3 : ∀ q ∈ l, OkP q) : frF p l = 0 := by
  unfold frF
  rw [if_pos (show fault p.1 p.2 = 0 from h1), if_neg (by omega), pnF_mk h3]
/-- The blocks of a prefix. -/
def bks (p : Sp) (l : List Sp) : List Sp := blk l (32 - p.2).toNat p.1
def bkF (p : Sp) (l : List Sp) : Int := if frF p l = 0 then (if 200 < (bks p l).length then 3 else 0) else frF p l
theorem bkF_ok {p : Sp} {l : List Sp} (h : bkF p l = 0) : frF p l = 0 ∧ (bks p l).length ≤ 200 := by
  unfold bkF at h
  split at h
  · rename_i e
    split at h
    · cases h
    · exact ⟨e, by omega⟩
  · rename_i e; exact absurd h e
theorem gps_setF {p : Sp} {l : List Sp} (h : frF p l = 0) : setF (gps p l) = 0 := by
  obtain ⟨h1, h2, h3⟩ := frF_ok h
  obtain ⟨g1, g2, g3⟩ := gps_set h1 h3
  exact setF_mk (by have := gps_len h1 h3; omega) g1 g2
/-- By Blocks' own way: the cover of the gaps. -/
theorem bkF_cv {p : Sp} {l : List Sp} (h : frF p l = 0) : bkF p l = cvF (gps p l) ∧ cvs (gps p l) = bks p l := by
  obtain ⟨h1, h2, h3⟩ := frF_ok h
  have e : cvs (gps p l) = bks p l := (blk_cvs h1 h3).symm
  refine ⟨?_, e⟩
  unfold bkF cvF
  rw [if_pos h, if_pos (gps_setF h), e]

/-- What is taken, as a set. -/
theorem tkn_ps {l : List Sp} (h : l.length ≤ 60) (hl : ∀ q ∈ l, OkP q) : psF l = 0 ∧ (psS l).length ≤ 60 := by
  have h1 := (mk_set (pfS_inA hl)).2.2.2
  have h2 : (pfS l).length = l.length := by simp [pfS]
  have h3 : psF l = 0 := psF_mk (by omega) hl (by omega)
  exact ⟨h3, by unfold psS; rw [if_pos h3]; omega⟩
theorem mts_no {p q : Sp} (h : mts p q = false) : inP p q = false ∧ inP q p = false := by
  have hp := sz_pos p.2
  have hq := sz_pos q.2
  have hn : ¬ (p.1 ≤ q.1 + sz q.2 - 1 ∧ q.1 ≤ p.1 + sz p.2 - 1) := fun g => by rw [(mts_iff p q).2 g] at h; cases h
  constructor
  · cases e : inP p q with
    | false => rfl
    | true => rw [inP_iff] at e; omega
  · cases e : inP q p with
    | false => rfl
    | true => rw [inP_iff] at e; omega
/-- Each block is within, and meets nothing that is taken; they rise. -/
theorem bks_each {p : Sp} {l : List Sp} (h : frF p l = 0) : (∀ b ∈ bks p l, OkP b ∧ inP b p = true ∧ ∀ q ∈ l, inP b q = false ∧ inP q b = false) ∧ Rs p.1 (bks p l) := by
  obtain ⟨h1, h2, h3⟩ := frF_ok h
  obtain ⟨k1, k2⟩ := h1.okK
  have hz : sz p.2 = 2 ^ (32 - p.2).toNat := rfl
  refine ⟨fun b hb => ?_, blk_rs _ _ k1⟩
  obtain ⟨i, c, rfl, g2, g3, g4, g5, g6⟩ := blk_small _ _ k1 b hb
  refine ⟨g3.ok, (g3.in_iff p).2 ⟨g4, by omega⟩, fun q hq => ?_⟩
  have hm := (fre_iff _ _).1 (fre_0 g3 g6 g3 (Int.le_refl _) (Int.le_refl _)) q hq
  exact mts_no hm

/-- The best of the blocks: the greatest Len that is not above n, the first of these. -/
def bst (n : Int) : Option Sp → List Sp → Option Sp
  | c, [] => c
  | c, b :: r => bst n (if b.2 ≤ n ∧ (c = none ∨ ∃ s, c = some s ∧ s.2 < b.2) then some b else c) r
theorem bst_mem (n : Int) : ∀ (l : List Sp) (c : Option Sp), (∀ s, c = some s → s.2 ≤ n) → ∀ t, bst n c l = some t → t.2 ≤ n ∧ (t ∈ l ∨ c = some t)
  | [], c, hc, t, h => ⟨hc t h, .inr h⟩
  | b :: r, c, hc, t, h => by
    rw [bst] at h
    by_cases e : b.2 ≤ n ∧ (c = none ∨ ∃ s, c = some s ∧ s.2 < b.2)
    · rw [if_pos e] at h
      obtain ⟨h1, h2⟩ := bst_mem n r (some b) (fun s hs => by cases hs; exact e.1) t h
      refine ⟨h1, .inl ?_⟩
      rcases h2 with h2 | h2
      · simp [h2]
      · cases h2; simp
    · rw [if_neg e] at h
      obtain ⟨h1, h2⟩ := bst_mem n r c hc t h
      refine ⟨h1, ?_⟩
      rcases h2 with h2 | h2
      · exact .inl (by simp [h2])
      · exact .inr h2
theorem bst_some (n : Int) : ∀ (l : List Sp) (s : Sp), (bst n (some s) l).isSome = true
  | [], _ => rfl
  | b :: r, s => by
    rw [bst]
    split
    · exact bst_some n r b
    · exact bst_some n r s
theorem bst_none (n : Int) : ∀ (l : List Sp), bst n none l = none ↔ ∀ b ∈ l, ¬ b.2 ≤ n
  | [] => by simp [bst]
  | b :: r => by
    rw [bst]
    by_cases e : b.2 ≤ n
    · rw [if_pos ⟨e, .inl rfl⟩]
      constructor
      · intro h
        have := bst_some n r b
        rw [h] at this
        cases this
      · intro h
        exact absurd e (h b (by simp))
    · rw [if_neg (fun g => e g.1), bst_none n r]
      exact ⟨fun h c hc => (List.mem_cons.1 hc).elim (fun g => g ▸ e) (h c), fun h c hc => h c (by simp [hc])⟩

/-- The first of a Len, and how many, of a prefix. -/
def fsp (p : Sp) (l : List Sp) (n : Int) : Option Int := fst1 l (32 - n).toNat (32 - p.2).toNat p.1
def mnp (p : Sp) (l : List Sp) (n : Int) : Int := mny l (32 - n).toNat (32 - p.2).toNat p.1
/-- Which are free. -/
def frs (p : Sp) (l : List Sp) (n : Int) : List Sp := (slt (32 - n).toNat (n - p.2).toNat p.1).filter (fre l)
theorem fsp_frs {p : Sp} {l : List Sp} {n : Int} (hp : OkP p) (h1 : p.2 ≤ n) (h2 : n ≤ 32) : fsp p l n = ((frs p l n).head?).map (·.1) ∧ mnp p l n = (frs p l n).length := by
  obtain ⟨a, b, c, d, e⟩ := hp.parts
  have hk : (32 - p.2).toNat = (32 - n).toNat + (n - p.2).toNat := by omega
  have ok : OkK ((32 - n).toNat + (n - p.2).toNat) p.1 := hk ▸ hp.okK.1
  obtain ⟨g1, g2⟩ := fst_slt (l := l) (32 - n).toNat (n - p.2).toNat p.1 ok
  unfold fsp mnp frs
  rw [hk, g1, g2, List.head?_filter]
  exact ⟨rfl, rfl⟩
theorem frs_mem {p : Sp} {l : List Sp} {n : Int} (hp : OkP p) (h1 : p.2 ≤ n) (h2 : n ≤ 32) (s : Sp) : s ∈ frs p l n ↔ OkP s ∧ s.2 = n ∧ inP s p = true ∧ fre l s = true := by
  obtain ⟨a, b, c, d, e⟩ := hp.parts
  have hk : (32 - p.2).toNat = (32 - n).toNat + (n - p.2).toNat := by omega
  have ok : OkK ((32 - n).toNat + (n - p.2).toNat) p.1 := hk ▸ hp.okK.1
  have hz : sz p.2 = 2 ^ ((32 - n).toNat + (n - p.2).toNat) := by rw [← hk]; rfl
  unfold frs
  rw [List.mem_filter]
  constructor
  · rintro ⟨hs, hf⟩
    obtain ⟨b, rfl, g2, g3, g4⟩ := slt_mem _ _ _ ok s hs
    exact ⟨g2.ok, by simp only [pk]; omega, (g2.in_iff p).2 ⟨g3, by omega⟩, hf⟩
  · rintro ⟨g1, rfl, g3, g4⟩
    refine ⟨?_, g4⟩
    obtain ⟨k1, k2⟩ := g1.okK
    rw [k2, k1.in_iff] at g3
    have := slt_has (32 - s.2).toNat (s.2 - p.2).toNat p.1 s.1 ok k1 g3.1 (by omega)
    rw [← k2] at this
    exact this
theorem frs_rise {p : Sp} {l : List Sp} {n : Int} (hp : OkP p) (h1 : p.2 ≤ n) (h2 : n ≤ 32) : (frs p l n).Pairwise (fun x y => x.1 + sz n ≤ y.1) := by
  obtain ⟨a, b, c, d, e⟩ := hp.parts
  have hk : (32 - p.2).toNat = (32 - n).toNat + (n - p.2).toNat := by omega
  have ok : OkK ((32 - n).toNat + (n - p.2).toNat) p.1 := hk ▸ hp.okK.1
  exact (slt_rise _ _ _ ok).filter _
/-- The first is free, and the least. -/
theorem fsp_some {p : Sp} {l : List Sp} {n a : Int} (hp : OkP p) (h1 : p.2 ≤ n) (h2 : n ≤ 32) (h : fsp p l n = some a) : (a, n) ∈ frs p l n ∧ ∀ s ∈ frs p l n, a ≤ s.1 := by
  rw [(fsp_frs hp h1 h2).1] at h
  have hr := frs_rise (l := l) hp h1 h2
  cases e : frs p l n with
  | nil => rw [e] at h; cases h
  | cons s r =>
    rw [e] at h hr
    have hs : s.2 = n := ((frs_mem hp h1 h2 s).1 (by rw [e]; simp)).2.1
    cases h
    refine ⟨by rw [← hs]; simp, fun t ht => ?_⟩
    rcases List.mem_cons.1 ht with rfl | ht
    · exact Int.le_refl _
    · have := (List.pairwise_cons.1 hr).1 t ht
      have := sz_pos n
      show s.1 ≤ t.1
      omega
theorem fsp_none {p : Sp} {l : List Sp} {n : Int} (hp : OkP p) (h1 : p.2 ≤ n) (h2 : n ≤ 32) (h : fsp p l n = none) : mnp p l n = 0 := by
  obtain ⟨g1, g2⟩ := fsp_frs (l := l) hp h1 h2
  rw [g1] at h
  rw [g2]
  cases e : frs p l n with
  | nil => rfl
  | cons s r => rw [e] at h; cases h
/-- Of one block that is great enough the first place is free. -/
theorem frs_blk {p : Sp} {l : List Sp} {n : Int} (hp : OkP p) (h1 : p.2 ≤ n) (h2 : n ≤ 32) {b : Sp} (hb : b ∈ bks p l) (hn : b.2 ≤ n) : (b.1, n) ∈ frs p l n := by
  obtain ⟨k1, k2⟩ := hp.okK
  have hz : sz p.2 = 2 ^ (32 - p.2).toNat := rfl
  obtain ⟨i, c, rfl, g2, g3, g4, g5, g6⟩ := blk_small _ _ k1 b hb
  have hi : (32 - n).toNat ≤ i := by simp only [pk] at hn; omega
  have hpw := pw_le hi
  have ok : OkK (32 - n).toNat c := ⟨Nat.le_trans hi g3.1, g3.2.1, by have := g3.2.2.1; omega, Int.dvd_trans (pw_dvd hi) g3.2.2.2⟩
  have he : pk (32 - n).toNat c = (c, n) := Prod.ext rfl (by simp only [pk]; omega)
  show (c, n) ∈ _
  rw [frs_mem hp h1 h2, ← he]
  refine ⟨ok.ok, by simp only [pk]; omega, (ok.in_iff p).2 ⟨g4, by omega⟩, fre_0 g3 g6 ok (Int.le_refl _) (by omega)⟩
theorem filter_less {α : Type} (f g : α → Bool) (q : α) : ∀ (L : List α), L.Pairwise (fun x y => g x = true ∨ g y = true) → q ∈ L → f q = true → g q = false → ((L.filter f).filter g).length + 1 = (L.filter f).length
  | [], _, hq, _, _ => by cases hq
  | x :: r, hp, hq, hf, hg => by
    obtain ⟨p1, p2⟩ := List.pairwise_cons.1 hp
    rcases List.mem_cons.1 hq with rfl | hq'
    · have hall : (r.filter f).filter g = r.filter f := List.filter_eq_self.2 (fun y hy => by
        rcases p1 y (List.mem_filter.1 hy).1 with h | h
        · rw [hg] at h; cases h
        · exact h)
      rw [List.filter_cons, hf, if_pos rfl, List.filter_cons, hg, if_neg (by simp), hall, List.length_cons]
    · have hx : g x = true := by
        rcases p1 q hq' with h | h
        · exact h
        · rw [hg] at h; cases h
      have ih := filter_less f g q r p2 hq' hf hg
      rw [List.filter_cons]
      cases e : f x with
      | false => rw [if_neg (by simp)]; exact ih
      | true => rw [if_pos rfl, List.filter_cons, hx, if_pos rfl, List.length_cons, List.length_cons, ih]
/-- Taken itself, there is one less. -/
theorem mnp_less {p : Sp} {l : List Sp} {n : Int} (hp : OkP p) (h1 : p.2 ≤ n) (h2 : n ≤ 32) {q : Sp} (hq : q ∈ frs p l n) : mnp p (l ++ [q]) n = mnp p l n - 1 := by
  obtain ⟨a, b, c, d, e⟩ := hp.parts
  have hk : (32 - p.2).toNat = (32 - n).toNat + (n - p.2).toNat := by omega
  have ok : OkK ((32 - n).toNat + (n - p.2).toNat) p.1 := hk ▸ hp.okK.1
  rw [(fsp_frs hp h1 h2).2, (fsp_frs hp h1 h2).2]
  have hz := sz_pos n
  have e1 : frs p (l ++ [q]) n = (frs p l n).filter (fun s => !mts s q) := by
    unfold frs
    rw [List.filter_filter]
    refine List.filter_congr (fun s _ => ?_)
    simp only [fre, List.any_append, List.any_cons, List.any_nil, Bool.or_false, Bool.not_or]
    cases (l.any fun q => mts s q) <;> cases mts s q <;> rfl
  have hq2 := (frs_mem hp h1 h2 q).1 hq
  have hsl : ∀ s ∈ slt (32 - n).toNat (n - p.2).toNat p.1, s.2 = n := fun s hs => by
    obtain ⟨b, rfl, _⟩ := slt_mem _ _ _ ok s hs
    simp only [pk]; omega
  have := filter_less (fre l) (fun s => !mts s q) q (slt (32 - n).toNat (n - p.2).toNat p.1) ?_ (List.mem_filter.1 hq).1 hq2.2.2.2 ?_
  · rw [e1]
    unfold frs
    omega
  · have hr := slt_rise (32 - n).toNat (n - p.2).toNat p.1 ok
    have hsz : (2 : Int) ^ (32 - n).toNat = sz n := rfl
    refine (List.pairwise_iff_getElem.2 fun i j hi hj hij => ?_)
    have h3 := List.pairwise_iff_getElem.1 hr i j hi hj hij
    have e2 := hsl _ (List.getElem_mem hi)
    have e3 := hsl _ (List.getElem_mem hj)
    rw [hsz] at h3
    apply Classical.byContradiction
    intro hno
    have hm1 : mts (slt (32 - n).toNat (n - p.2).toNat p.1)[i] q = true := by
      cases hh : mts (slt (32 - n).toNat (n - p.2).toNat p.1)[i] q with
      | true => rfl
      | false => exact absurd (.inl (by rw [hh]; rfl)) hno
    have hm2 : mts (slt (32 - n).toNat (n - p.2).toNat p.1)[j] q = true := by
      cases hh : mts (slt (32 - n).toNat (n - p.2).toNat p.1)[j] q with
      | true => rfl
      | false => exact absurd (.inr (by rw [hh]; rfl)) hno
    rw [mts_iff] at hm1 hm2
    obtain ⟨b1, r1, ok1, _⟩ := slt_mem _ _ _ ok _ (List.getElem_mem hi)
    obtain ⟨b2, r2, ok2, _⟩ := slt_mem _ _ _ ok _ (List.getElem_mem hj)
    obtain ⟨b3, r3, ok3, _⟩ := slt_mem _ _ _ ok q (List.mem_filter.1 hq).1
    rw [e2, hq2.2.1] at hm1
    rw [e3, hq2.2.1] at hm2
    rw [r1, r3] at hm1
    rw [r2, r3] at hm2
    rw [r1, r2] at h3
    simp only [pk] at hm1 hm2 h3
    have d1 := ok1.2.2.2
    have d2 := ok2.2.2.2
    have d3 := ok3.2.2.2
    rw [hsz] at d1 d2 d3
    by_cases g1 : b1 < b3
    · have := apart hz d1 d3 g1; omega
    · by_cases g2 : b3 < b2
      · have := apart hz d3 d2 g2; omega
      · omega
  · have : mts q q = true := (mts_iff q q).2 (by have := sz_pos q.2; omega)
    rw [this]
    rfl
/-- What is free and what is taken is all. -/
theorem all_of {p : Sp} {l : List Sp} (h : frF p l = 0) : psF l = 0 ∧ psF [p] = 0 ∧ psS [p] = [pS p] ∧ setF (psS l) = 0 ∧ setF [pS p] = 0 ∧ setF (two 2 [pS p] (psS l)) = 0 ∧ two 1 (two 2 [pS p] (psS l)) (gps p l) = [pS p] ∧ two 2 (two 2 [pS p] (psS l)) (gps p l) = [] := by
  obtain ⟨h1, h2, h3⟩ := frF_ok h
  obtain ⟨g1, g2, g3⟩ := gps_set h1 h3
  obtain ⟨t1, t2⟩ := tkn_ps h2 h3
  obtain ⟨s1, s2⟩ := ps_set t1
  obtain ⟨_, s3, s4⟩ := setF_ok s1
  obtain ⟨a, b, c, d, e⟩ := h1.parts
  have hz := sz_pos p.2
  have w1 : IsS (-2) [pS p] := ⟨by show _ < p.1; omega, by show p.1 ≤ p.1 + (sz p.2 - 1); omega, trivial⟩
  have w2 : InA [pS p] := fun s hs => by
    rw [List.mem_singleton] at hs
    subst hs
    exact ⟨c, by show p.1 ≤ p.1 + (sz p.2 - 1); omega, d⟩
  have hw : ∀ q ∈ [p], OkP q := fun q hq => by rw [List.mem_singleton] at hq; subst hq; exact h1
  obtain ⟨u1, u2⟩ := tkn_ps (l := [p]) (by simp) hw
  obtain ⟨v1, v2⟩ := ps_set u1
  obtain ⟨_, v3, v4⟩ := setF_ok v1
  obtain ⟨i1, i2⟩ := two_set 2 w2 s4
  have i3 := two_inA 2 w2 s4
  have k2 : ∀ x y : Bool, kp 2 x y = (x && y) := by intro x y; cases x <;> cases y <;> rfl
  have k1 : ∀ x y : Bool, kp 1 x y = (x || y) := by intro x y; cases x <;> cases y <;> rfl
  have mw : ∀ x, mem [pS p] x = (decide (p.1 ≤ x) && decide (x ≤ p.1 + (sz p.2 - 1))) := fun x => by
    rw [mem_cons, mem_nil, Bool.or_false]; rfl
  obtain ⟨j1, j2⟩ := two_set 1 i3 g2
  obtain ⟨l1, l2⟩ := two_set 2 i3 g2
  refine ⟨t1, u1, v3.uniq w1 (fun x => v2 x), s1, setF_mk (by simp) w1 w2, setF_mk ?_ i1 i3, j1.uniq w1 (fun x => ?_), l1.uniq (m := []) trivial (fun x => ?_)⟩
  · have := len_le ((two 2 [pS p] (psS l)).map (·.1)) (p.1 :: (psS l).map (·.1)) i1.lows.1 (fun x hx => by
      obtain ⟨s, hs, rfl⟩ := List.mem_map.1 hx
      have m1 := (i1.mem_hi hs).1
      have m2 := i1.ahead s hs
      rw [i2, k2, mw] at m1 m2
      simp only [Bool.and_eq_true, decide_eq_true_eq] at m1
      rw [List.mem_cons]
      by_cases e : s.1 = p.1
      · exact .inl e
      · have e1 : decide (p.1 ≤ s.1 - 1) = true := decide_eq_true (by omega)
        have e2 : decide (s.1 - 1 ≤ p.1 + (sz p.2 - 1)) = true := decide_eq_true (by omega)
        rw [e1, e2] at m2
        have m3 : mem (psS l) (s.1 - 1) = false := by simpa using m2
        obtain ⟨t, ht, a1, a2⟩ := (mem_iff _ _).1 m1.2
        refine .inr (List.mem_map.2 ⟨t, ht, ?_⟩)
        apply Classical.byContradiction
        intro hne
        rw [(mem_iff (psS l) (s.1 - 1)).2 ⟨t, ht, by omega, by omega⟩] at m3
        cases m3)
    simp only [List.length_map, List.length_cons] at this
    omega
  · rw [j2, k1, i2, k2, g3, s2, mw]
    cases (decide (p.1 ≤ x) && decide (x ≤ p.1 + (sz p.2 - 1))) <;> cases mem (pfS l) x <;> rfl
  · rw [l2, k2, i2, k2, g3, s2, mw, mem_nil]
    cases (decide (p.1 ≤ x) && decide (x ≤ p.1 + (sz p.2 - 1))) <;> cases mem (pfS l) x <;> rfl
/-- Blocks, made a set, are the gaps. -/
theorem bks_ps {p : Sp} {l : List Sp} (h : bkF p l = 0) : psF (bks p l) = 0 ∧ psS (bks p l) = gps p l := by
  obtain ⟨h0, hlen⟩ := bkF_ok h
  obtain ⟨h1, h2, h3⟩ := frF_ok h0
  obtain ⟨g1, g2, g3⟩ := gps_set h1 h3
  have hok : ∀ b ∈ bks p l, OkP b := fun b hb => ((bks_each h0).1 b hb).1
  obtain ⟨m1, m2, m3, m4⟩ := mk_set (pfS_inA hok)
  have e : mk (pfS (bks p l)) = gps p l := m1.uniq g1 (fun x => by
    rw [m2, show bks p l = cvs (gps p l) from blk_cvs h1 h3, cvs_mem g2])
  have hp : psF (bks p l) = 0 := psF_mk hlen hok (by rw [e]; have := gps_len h1 h3; omega)
  exact ⟨hp, by unfold psS; rw [if_pos hp, e]⟩
end Bur
