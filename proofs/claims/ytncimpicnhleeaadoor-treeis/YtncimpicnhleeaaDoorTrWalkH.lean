/- The contracts of slices.Clone and slices.Insert at prefixes. -/
import Derived.Test.YtncimpicnhleeaaDoorTrIns
import Derived.Test.YtncimpicnhleeaaDoorTrWalkE
namespace Go.Proofs.YtncimpicnhleeaaDoor
open Go.RowKit

theorem spAt_news {w : World} {a : Addr} {l : List Bur.Sp} (h : SpAt w (some a) l) : ∀ j u, (spV l)[j]? = some u → w.cell? (a.add j) = some u := by
  intro j u hj
  have hlt : j < (spV l).length := (List.getElem?_eq_some_iff.1 hj).1
  rw [spV_len] at hlt
  obtain ⟨b, off, e, _, hc⟩ := h (by omega)
  cases e
  rw [Addr.add_lit]
  have h2 := hc (j / 2) (by omega)
  have h3 := spV_at l (j / 2) (by omega)
  by_cases hp : j % 2 = 0
  · have e : j = j / 2 * 2 := by omega
    rw [e] at hj ⊢
    rw [h3.1] at hj
    cases hj
    exact h2.1
  · have e : j = j / 2 * 2 + 1 := by omega
    rw [e] at hj ⊢
    rw [h3.2] at hj
    cases hj
    exact h2.2

set_option maxHeartbeats 2000000 in
set_option maxRecDepth 100000 in
theorem clone (q : Option Addr) (cap : Nat) (l : List Bur.Sp) (w : World) (hz : l.length ≤ 60) (hs : SpAt w q l) :
    Calls Tryd.prog 30 #[.slice q l.length cap] w fun e w' => ∃ v', e = .returned v' ∧ w'.ownsRow w.heap.size 24 2 v' l.length (spV l) ∧ Below w.heap.size w w' := by
  have q22 : ∀ (w : World) (a : Option Addr) (n c n' c' : Nat), (binOp .eql 22 (.slice a n c) (.slice none n' c')).run Tryd.prog w = .ok (.bool a.isNone) w := fun w a n c n' c' => Lib.run_eql_slice_nil w _ _ a n c n' c' Tryd.underlying22
  obtain ⟨i0, hi0, hz0, hz1, hz2⟩ := info_parts info_pfx
  cases q with
  | none =>
    have hl : l = [] := by
      cases l with
      | nil => rfl
      | cons s r => obtain ⟨_, _, e, _⟩ := hs (by simp); cases e
    subst hl
    go_enter Tryd.func30, Tryd.ntmps30
    go_wp2
    go_ret
    exact ⟨_, rfl, World.ownsRow_nil _ _ _ _, below_self _⟩
  | some a =>
    have hc := spAt_news (hs.alloc (.cells #[] 24))
    have hone := spV_one l
    have hlen := spV_len l
    generalize spV l = news at hc hone hlen ⊢
    have h5 : w.heap.size ≤ (w.alloc (.cells #[] 24)).heap.size := by simp
    have hmx : 0 + l.length ≤ maxLen := by unfold maxLen; omega
    have hmy : (0 + l.length) * 16 ≤ 140737488355328 := by omega
    have Hc : Hid _ := hc
    have H1 : Hid _ := hone
    have Hl : Hid _ := hlen
    clear hc hone hlen hs
    go_enter Tryd.func30, Tryd.ntmps30
    go_wp2_with (at_builtin; refine wpList_append_own _ rfl _ _ 22 rfl w.heap.size 24 i0 (.agg #[.int .i64 0, .int .i64 0]) 2 16 Tryd.underlying22 hi0 hz0 hz1 hz2 rfl (by decide) _ _ _ rfl (World.ownsRow_made w #[] 0 (Nat.le_refl _) (Nat.zero_le _) (by simp)) a l.length cap news rfl Hl.out Hc.out H1.out hmx hmy h5 ?_)
    intro v' w1 hown hgrow hnil
    go_wp2
    go_ret
    refine ⟨v', rfl, by simpa using hown, ?_⟩
    exact ((Below.refl _ w).alloc (Nat.le_refl _) _).grown hgrow (by simp) (by intro k hk; simp [Value.ownBlock] at hk; omega)

set_option maxHeartbeats 2000000 in
set_option maxRecDepth 100000 in
/-- At the end: it is appended. -/
theorem ins_end (B vb : Nat) (w0 w : World) (v : Value) (l : List Bur.Sp) (x y : Int) (hz : l.length ≤ 60) (hown : w.ownsRow B 24 2 v l.length (spV l)) (hb : Below B w0 w) (hB : B ≤ w.heap.size)
    (c0 : w.cell? ⟨vb, 0, none⟩ = some (.int .i64 x)) (c1 : w.cell? ⟨vb, 1, none⟩ = some (.int .i64 y)) :
    Calls Tryd.prog 29 #[v, .int .i64 l.length, .slice (some ⟨vb, 0, none⟩) 1 1] w fun e w' => ∃ (p' : Option Addr) (cap' : Nat), e = .returned (.slice p' (l.length + 1) cap') ∧ SpAt w' p' (l ++ [(x, y)]) ∧ Below B w0 w' := by
  obtain ⟨i0, hi0, hz0, hz1, hz2⟩ := info_parts info_pfx
  have hmx : l.length + 1 ≤ maxLen := by unfold maxLen; omega
  have hmy : (l.length + 1) * 16 ≤ 140737488355328 := by omega
  have Hc : Hid (∀ j u, ([Value.int .i64 x, Value.int .i64 y] : List Value)[j]? = some u → w.cell? (Addr.add ⟨vb, 0, none⟩ j) = some u) := fun j u hj => by
    match j, hj with
    | 0, hj => simp at hj; subst hj; simpa [Addr.add] using c0
    | 1, hj => simp at hj; subst hj; simpa [Addr.add] using c1
  have H1 : Hid (∀ u ∈ ([Value.int .i64 x, Value.int .i64 y] : List Value), u.oneCell' = true) := fun u hu => by simp at hu; rcases hu with rfl | rfl <;> rfl
  have hown' := hown
  have fin : Hid (∀ (v' : Value) (w' : World), w'.ownsRow B 24 2 v' (l.length + 1) (spV l ++ [.int .i64 x, .int .i64 y]) → w.grownBy w' v.ownBlock → ∃ (p' : Option Addr) (cap' : Nat), v' = .slice p' (l.length + 1) cap' ∧ SpAt w' p' (l ++ [(x, y)]) ∧ Below B w0 w') := fun v' w' h1 h2 => by
    have h1' : w'.ownsRow B 24 2 v' (l ++ [(x, y)]).length (spV (l ++ [(x, y)])) := by simpa [spV_app, spV] using h1
    obtain ⟨g, cp, rfl, hg0, hg1⟩ := h1'.form (by simp)
    exact ⟨_, cp, by simp, (spAt_own h1').2, hb.grown h2 hB (fun j hj => (hown.lt j hj).1)⟩
  rcases hown.2 with ⟨rfl, h0⟩ | ⟨g, cp, cur, rfl, hg0, hg, hgn, hgm, hgs, hgx⟩
  · have hl : l = [] := List.eq_nil_of_length_eq_zero h0
    subst hl
    go_enter Tryd.func29, Tryd.ntmps29
    go_wp2_with (at_builtin; refine wpList_append_own _ rfl _ _ 22 rfl B 24 i0 (.agg #[.int .i64 0, .int .i64 0]) 2 16 Tryd.underlying22 hi0 hz0 hz1 hz2 rfl (by decide) _ _ _ rfl hown ⟨vb, 0, none⟩ 1 1 [.int .i64 x, .int .i64 y] rfl rfl Hc.out H1.out hmx hmy hB ?_)
    intro v' w1 h1 h2 _
    obtain ⟨p', cap', rfl, h3, h4⟩ := fin.out v' w1 h1 h2
    go_wp2
    go_ret
    exact ⟨p', cap', rfl, h3, h4⟩
  · have hgn' : (l.length : Int) ≤ (cp : Int) := by omega
    have hl0 : (0 : Int) ≤ (l.length : Int) := by omega
    clear hgs hgx hg
    go_enter Tryd.func29, Tryd.ntmps29
    go_wp2_with (at_builtin; refine wpList_append_own _ rfl _ _ 22 rfl B 24 i0 (.agg #[.int .i64 0, .int .i64 0]) 2 16 Tryd.underlying22 hi0 hz0 hz1 hz2 rfl (by decide) _ _ _ rfl hown' ⟨vb, 0, none⟩ 1 1 [.int .i64 x, .int .i64 y] rfl rfl Hc.out H1.out hmx hmy hB ?_)
    all_goals
      intro v' w1 h1 h2 _
      obtain ⟨p', cap', rfl, h3, h4⟩ := fin.out v' w1 h1 h2
      go_wp2
      go_ret
      exact ⟨p', cap', rfl, h3, h4⟩
end Go.Proofs.YtncimpicnhleeaaDoor
