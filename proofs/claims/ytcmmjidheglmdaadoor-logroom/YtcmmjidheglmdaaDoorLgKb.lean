/- A log of package log, a law's own list, and the step at hand, side by side. -/
import Derived.Test.YtcmmjidheglmdaaDoorLgOwn
import Derived.Test.YtcmmjidheglmdaaDoorCdSame
namespace Vs
theorem ap_ok {g : Lg} {l : List Chg} (h : apF g l = 0) : (apG g l).ls = g.ls ++ [l] ∧ (apG g l).safe = g.safe := by
  unfold apF at h
  unfold apG
  by_cases h1 : chF l = 0
  · rw [if_pos h1] at h ⊢
    by_cases h2 : g.room < g.by.length + 2 + (encL l).length
    · rw [if_pos h2] at h; cases h
    · rw [if_neg h2] at h ⊢
      by_cases h3 : g.down = true
      · rw [if_pos h3] at h; cases h
      · rw [if_neg h3] at h ⊢
        by_cases h4 : g.left = 0
        · rw [if_pos h4] at h; cases h
        · rw [if_neg h4]; exact ⟨rfl, rfl⟩
  · rw [if_neg h1] at h; exact absurd h h1
theorem ap_no {g : Lg} {l : List Chg} (h : ¬ apF g l = 0) : (apG g l).ls = g.ls ∧ (apG g l).safe = g.safe := by
  unfold apF at h
  unfold apG
  by_cases h1 : chF l = 0
  · rw [if_pos h1] at h ⊢
    by_cases h2 : g.room < g.by.length + 2 + (encL l).length
    · rw [if_pos h2]; exact ⟨rfl, rfl⟩
    · rw [if_neg h2] at h ⊢
      by_cases h3 : g.down = true
      · rw [if_pos h3]; exact ⟨rfl, rfl⟩
      · rw [if_neg h3] at h ⊢
        by_cases h4 : g.left = 0
        · rw [if_pos h4]; exact ⟨rfl, rfl⟩
        · rw [if_neg h4] at h; exact absurd rfl h
  · rw [if_neg h1]; exact ⟨rfl, rfl⟩
theorem sy_ok {g : Lg} (ok : OkL g) (h : syF g = 0) : (syG g).ls = g.ls ∧ (syG g).safe = (frs g.ls).length := by
  unfold syF at h
  unfold syG
  by_cases h3 : g.down = true
  · rw [if_pos h3] at h; cases h
  · rw [if_neg h3] at h ⊢
    by_cases h4 : g.left = 0
    · rw [if_pos h4] at h; cases h
    · rw [if_neg h4]
      exact ⟨rfl, by show g.by.length = _; rw [(ok.up (by simpa using h3)).2]⟩
theorem sy_no {g : Lg} (h : ¬ syF g = 0) : (syG g).ls = g.ls ∧ (syG g).safe = g.safe := by
  unfold syF at h
  unfold syG
  by_cases h3 : g.down = true
  · rw [if_pos h3]; exact ⟨rfl, rfl⟩
  · rw [if_neg h3] at h ⊢
    by_cases h4 : g.left = 0
    · rw [if_pos h4]; exact ⟨rfl, rfl⟩
    · rw [if_neg h4] at h; exact absurd rfl h
theorem cr_keeps {g : Lg} (ok : OkL g) {ns : Nat} (hns : ns ≤ g.ls.length) (hsn : (frs (g.ls.take ns)).length ≤ g.safe) (keep : Int) : ∃ k, k ≤ g.ls.length ∧ (crG g keep).ls = g.ls.take k ∧ k ≤ (crG g keep).ls.length ∧ (frs ((crG g keep).ls.take k)).length ≤ (crG g keep).safe ∧ ns ≤ k := by
  obtain ⟨k, h1, h2, h3⟩ := fitL_take (crN g keep) g.ls
  have hf := ok.few
  have hs := ok.safe
  have h4 := crN_safe g keep (by omega)
  have h5 := fitL_all (n := crN g keep) (ls := g.ls) hns (by omega)
  have hl : (g.ls.take k).length = k := by rw [List.length_take]; omega
  refine ⟨k, h1, h2, ?_, ?_, ?_⟩
  · show k ≤ (fitL (crN g keep) g.ls).length
    rw [h2, hl]; exact Nat.le_refl _
  · show (frs ((fitL (crN g keep) g.ls).take k)).length ≤ (frs (fitL (crN g keep) g.ls)).length
    rw [h2, List.take_take, Nat.min_self]; exact Nat.le_refl _
  · rw [h2, hl] at h5; exact h5
theorem room_ap (g : Lg) (l : List Chg) : (apG g l).room = g.room := by
  unfold apG
  split
  · split
    · rfl
    · split
      · rfl
      · split <;> rfl
  · rfl
theorem room_sy (g : Lg) : (syG g).room = g.room := by
  unfold syG
  split
  · rfl
  · split <;> rfl
/-- What is refused changes nothing. -/
theorem ap_same {g : Lg} {l : List Chg} (h : apF g l = 3 ∨ apF g l = 2) : apG g l = g := by
  unfold apF at h
  unfold apG
  by_cases h1 : chF l = 0
  · rw [if_pos h1] at h ⊢
    by_cases h2 : g.room < g.by.length + 2 + (encL l).length
    · rw [if_pos h2]
    · rw [if_neg h2] at h ⊢
      by_cases h3 : g.down = true
      · rw [if_pos h3]
      · rw [if_neg h3] at h ⊢
        by_cases h4 : g.left = 0
        · rw [if_pos h4] at h; rcases h with h | h <;> cases h
        · rw [if_neg h4] at h; rcases h with h | h <;> cases h
  · rw [if_neg h1]
end Vs
namespace Go.Proofs.YtcmmjidheglmdaaDoor
open Go.RowKit Vs

/-- The log, the law's own list of what was appended, the step at hand. -/
structure Kb (T : Tl) (w wr : World) (B Bs : Nat) (x : Stp) (v9 : Value) (g : Lg) (ls : List (List Chg)) : Prop where
  ex : ∃ F : Nat → Prop, T wr F B g ∧ (∀ j, F j → w.heap.size ≤ j ∧ j < wr.heap.size) ∧ (∀ j, v9.ownBlock = some j → ¬ F j) ∧ ¬ F Bs
  all : OwnL w.heap.size wr v9 ls
  sb : Sb wr Bs x
  nb : v9.ownBlock ≠ some Bs
  ok : OkL g
  bw : Below w.heap.size w wr
theorem Kb.step {T : Tl} (V : LFace T) {w wr w' : World} {B Bs : Nat} {x : Stp} {v9 : Value} {g : Lg} {ls : List (List Chg)} (h : Kb T w wr B Bs x v9 g ls) (hb : Below wr.heap.size wr w') : Kb T w w' B Bs x v9 g ls := by
  obtain ⟨F, h1, h2, h3, h4⟩ := h.ex
  exact ⟨⟨F, V.step h1 hb, fun j hj => ⟨(h2 j hj).1, Nat.lt_of_lt_of_le (h2 j hj).2 hb.size⟩, h3, h4⟩, h.all.step hb, h.sb.step hb, h.nb, h.ok, below_via h.bw hb⟩
theorem Kb.log {T : Tl} {w wr w' : World} {B Bs : Nat} {x : Stp} {v9 : Value} {g g' : Lg} {ls : List (List Chg)} {F : Nat → Prop} (h : Kb T w wr B Bs x v9 g ls) (h2 : ∀ j, F j → w.heap.size ≤ j ∧ j < wr.heap.size) (h3 : ∀ j, v9.ownBlock = some j → ¬ F j) (h4 : ¬ F Bs)
    (hT2 : T w' (Nw F wr w') B g') (hb : But F wr w') (ok : OkL g') : Kb T w w' B Bs x v9 g' ls := by
  have hs := hb.size
  have hw := h.bw.size
  refine ⟨⟨Nw F wr w', hT2, ?_, ?_, ?_⟩, h.all.but hb h3 (fun j hj hF => by have := (h2 j hF).1; omega), h.sb.but hb h4, h.nb, ok, But.under2 h.bw hb h.bw.size (fun i hi e => by have := (h2 i e).1; omega)⟩
  · rintro j (hj | hj)
    · have := h2 j hj; omega
    · omega
  · rintro j hj (g | g)
    · exact h3 j hj g
    · have := (h.all.lt hj).2; omega
  · rintro (g | g)
    · exact h4 g
    · have := h.sb.lt; omega
theorem Kb.row {T : Tl} (V : LFace T) {w wr w' : World} {B Bs : Nat} {x : Stp} {v9 v9' : Value} {g : Lg} {ls ls' : List (List Chg)} (h : Kb T w wr B Bs x v9 g ls) (hall : OwnL w.heap.size w' v9' ls') (hb : But (fun j => v9.ownBlock = some j) wr w')
    (hat : v9'.ownBlock = v9.ownBlock ∨ v9'.ownBlock = some wr.heap.size) : Kb T w w' B Bs x v9' g ls' := by
  obtain ⟨F, h1, h2, h3, h4⟩ := h.ex
  have hs := hb.size
  refine ⟨⟨F, V.but h1 hb (fun j _ hj e => h3 j e hj), fun j hj => ?_, fun j hj hF => ?_, h4⟩, hall, h.sb.but hb h.nb, fun e => ?_, h.ok, But.under2 h.bw hb h.bw.size (fun i hi e => by have := (h.all.lt e).1; omega)⟩
  · have := h2 j hj; omega
  · rcases hat with e | e
    · exact h3 j (e.symm.trans hj) hF
    · have : wr.heap.size = j := Option.some.inj (e.symm.trans hj)
      have := (h2 j hF).2; omega
  · rcases hat with a | a
    · exact h.nb (a.symm.trans e)
    · have : wr.heap.size = Bs := Option.some.inj (a.symm.trans e)
      have := h.sb.lt; omega
/-- Between two steps. -/
structure Kp (T : Tl) (w wr : World) (B : Nat) (v9 : Value) (g : Lg) : Prop where
  ex : ∃ F : Nat → Prop, T wr F B g ∧ (∀ j, F j → w.heap.size ≤ j ∧ j < wr.heap.size) ∧ (∀ j, v9.ownBlock = some j → ¬ F j)
  all : OwnL w.heap.size wr v9 g.ls
  ok : OkL g
  bw : Below w.heap.size w wr
theorem Kp.box {T : Tl} (V : LFace T) {w wr : World} {B : Nat} {v9 : Value} {g : Lg} (h : Kp T w wr B v9 g) (t : Nat) (x : Stp) : Kb T w (wr.alloc (.cells #[.int .i64 x.what, .int .i64 x.who, .string x.key, .string x.hi, .string x.val, .int .i64 x.n] t)) B wr.heap.size x v9 g g.ls := by
  obtain ⟨F, h1, h2, h3⟩ := h.ex
  have hb := below_al (below_self wr) (.cells #[.int .i64 x.what, .int .i64 x.who, .string x.key, .string x.hi, .string x.val, .int .i64 x.n] t)
  refine ⟨⟨F, V.step h1 hb, fun j hj => ⟨(h2 j hj).1, ?_⟩, h3, fun hj => ?_⟩, h.all.step hb, Sb.new wr t x, fun e => ?_, h.ok, below_via h.bw hb⟩
  · have := (h2 j hj).2; simp; omega
  · have := (h2 _ hj).2; omega
  · have := (h.all.lt e).2; omega
theorem Kb.kp {T : Tl} {w wr : World} {B Bs : Nat} {x : Stp} {v9 : Value} {g : Lg} (h : Kb T w wr B Bs x v9 g g.ls) : Kp T w wr B v9 g := by
  obtain ⟨F, h1, h2, h3, _⟩ := h.ex
  exact ⟨⟨F, h1, h2, h3⟩, h.all, h.ok, h.bw⟩

theorem cell_new1 (W : World) (v : Value) (t : Nat) : ∀ (j : Nat) (u : Value), ([v] : List Value)[j]? = some u → (W.alloc (.cells #[v] t)).cell? ⟨W.heap.size, j, none⟩ = some u := by
  intro j u hj
  match j, hj with
  | 0, hj => simp at hj; subst hj; simp
theorem one_slice {q : Option Addr} {n c : Nat} : ∀ u ∈ ([.slice q n c] : List Value), u.oneCell' = true := by
  intro u hu
  rw [List.mem_singleton.1 hu]; rfl
theorem one_cells {w : World} {G : Nat → Prop} {ls : List (List Chg)} {vs : List Value} (hlen : vs.length = ls.length * 1) (r2 : ∀ (i : Nat) (l : List Chg), ls[i]? = some l → ∃ u, vs[i]? = some u ∧ LsE w G u l) : ∀ y ∈ vs, y.oneCell' = true := by
  intro y hy
  obtain ⟨i, hi⟩ := List.mem_iff_getElem?.1 hy
  have h1 := (List.getElem?_eq_some_iff.1 hi).1
  obtain ⟨l, hl⟩ := Vs.chsome (l := ls) (k := i) (by omega)
  obtain ⟨u, h2, q, c, rfl, _⟩ := r2 i l hl
  rw [hi] at h2
  rw [Option.some.inj h2]; rfl
theorem turned_row {V w' : World} {row : Option Nat} (hg : V.grownBy w' row) : But (fun j => row = some j) V w' := ⟨hg.os, hg.tape, hg.output, hg.size, fun k hk hF => hg.block k hk (fun e => hF e.symm)⟩
theorem nil_grown {V w' : World} (hg : V.grownBy w' none) : Below V.heap.size V w' := ⟨hg.os, hg.tape, hg.output, hg.size, fun k hk => hg.block k hk (by simp)⟩
/-- A log alone, between two steps, and with the step at hand. -/
theorem On1.box {T : Tl} (V : LFace T) {w wr : World} {B : Nat} {g : Lg} (h : On1 T w wr B g) (t : Nat) (x : Stp) : Kb T w (wr.alloc (.cells #[.int .i64 x.what, .int .i64 x.who, .string x.key, .string x.hi, .string x.val, .int .i64 x.n] t)) B wr.heap.size x (.slice none 0 0) g [] := by
  obtain ⟨F, h1, h2⟩ := h.ex
  have hb := below_al (below_self wr) (.cells #[.int .i64 x.what, .int .i64 x.who, .string x.key, .string x.hi, .string x.val, .int .i64 x.n] t)
  refine ⟨⟨F, V.step h1 hb, fun j hj => ⟨(h2 j hj).1, ?_⟩, (fun j hj => by cases hj), fun hj => ?_⟩, OwnL.nil _ _, Sb.new wr t x, (fun e => by cases e), h.ok, below_via h.bw hb⟩
  · have := (h2 j hj).2; simp; omega
  · have := (h2 _ hj).2; omega
theorem Kb.on1 {T : Tl} {w wr : World} {B Bs : Nat} {x : Stp} {v9 : Value} {g : Lg} {ls : List (List Chg)} (h : Kb T w wr B Bs x v9 g ls) : On1 T w wr B g := by
  obtain ⟨F, h1, h2, _, _⟩ := h.ex
  exact ⟨⟨F, h1, h2⟩, h.ok, h.bw⟩
end Go.Proofs.YtcmmjidheglmdaaDoor
