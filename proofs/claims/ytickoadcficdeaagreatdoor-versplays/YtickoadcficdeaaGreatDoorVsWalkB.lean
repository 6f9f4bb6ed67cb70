/- The contract of history's with: one version more. -/
import Derived.Test.YtickoadcficdeaaGreatDoorVsWalkA
import Derived.Test.YtickoadcficdeaaGreatDoorAppOne
namespace Go.Proofs.YtickoadcficdeaaGreatDoor
open Go.RowKit Vs

theorem info_ver : (Tryz.prog.info? 64).map (fun i => (i.zero, i.size, i.bytes)) = some (some (.agg #[.int .i64 0, .string ByteArray.empty, .bool false]), 3, 32) := by kernel_rfl
/-- A version as a value. -/
abbrev vrV (x : Ver) : Value := .agg #[.int .i64 x.n, .string x.v, .bool x.g]
theorem three_new (V : World) (N : Nat) (a b c : Value) (t : TypeId) (hN : N = V.heap.size) : ∀ j u, [a, b, c][j]? = some u → (V.alloc (.cells #[a, b, c] t)).cell? ⟨N, j, none⟩ = some u := by
  subst hN
  intro j u hj
  match j, hj with
  | 0, hj => simp at hj; subst hj; simp
  | 1, hj => simp at hj; subst hj; simp
  | 2, hj => simp at hj; subst hj; simp
theorem three_one (x : Ver) : ∀ u ∈ hiV [x], u.oneCell' = true := hiV_one [x]
/-- What append leaves: a slice at the beginning of a block. -/
theorem grown_but {w V w1 : World} {row : Option Nat} (h : Below w.heap.size w V) (hg : V.grownBy w1 row) : But (fun j => row = some j) w w1 :=
  ⟨hg.os.trans h.os, hg.tape.trans h.tape, hg.output.trans h.output, Nat.le_trans h.size hg.size, fun k hk hF => (hg.block k (Nat.lt_of_lt_of_le hk h.size) (fun e => hF e.symm)).trans (h.block k hk)⟩
theorem appended {w V w1 : World} {v0 v1 : Value} {m e : Nat} {xs : List Value} (h : Below w.heap.size w V) (hown : w1.ownsRow 0 e 3 v1 (m + 1) xs) (hg : V.grownBy w1 v0.ownBlock) (hat : v1.ownBlock = v0.ownBlock ∨ v1.ownBlock = some V.heap.size) :
    ∃ g c, v1 = sl g (m + 1) c ∧ (v0.ownBlock = some g ∨ w.heap.size ≤ g) ∧ But (fun j => v0.ownBlock = some j) w w1 := by
  obtain ⟨g, c, rfl⟩ := own_block hown (by omega)
  refine ⟨g, c, rfl, ?_, grown_but h hg⟩
  rcases hat with e | e
  · exact .inl (e.symm.trans rfl)
  · have : g = V.heap.size := Option.some.inj e
    have := h.size
    exact .inr (by omega)
set_option maxHeartbeats 1000000 in
set_option maxRecDepth 100000 in
theorem with_ (v0 : Value) (h : List Ver) (x : Ver) (w : World) (hz : h.length ≤ 1000) (hn : 1 ≤ x.n) (hown : w.ownsRow 0 64 3 v0 h.length (hiV h)) :
    Calls Tryz.prog 38 #[v0, vrV x] w fun e w' => ∃ g c, e = .returned (sl g (wiH h x).length c) ∧ w'.ownsRow 0 64 3 (sl g (wiH h x).length c) (wiH h x).length (hiV (wiH h x)) ∧ (v0.ownBlock = some g ∨ w.heap.size ≤ g) ∧ But (fun j => v0.ownBlock = some j) w w' := by
  obtain ⟨p, cap, hv0, hp⟩ : ∃ p cap, v0 = .slice p h.length cap ∧ HiAt w p h := by
    rcases hown.2 with ⟨h0, h1⟩ | ⟨g, c, cur, h0, _⟩
    · rw [List.eq_nil_of_length_eq_zero h1]; exact ⟨none, 0, h0, .nil _ _⟩
    · subst h0; exact ⟨some ⟨g, 0, none⟩, c, rfl, fun _ => ⟨g, rfl, own_lt hown, hiC_own hown⟩⟩
  subst hv0
  have hp1 := hp.step (below_al (below_self w) (.cells #[.int .i64 x.n, .string x.v, .bool x.g] 64))
  have hL := fun n => last p cap h ((w.alloc (.cells #[.int .i64 x.n, .string x.v, .bool x.g] 64)).drewN n) hz (hp1.step (below_drewN (below_self _) n))
  have hB : ∀ n o, Below w.heap.size w (((w.alloc (.cells #[.int .i64 x.n, .string x.v, .bool x.g] 64)).drewN n).alloc o) := fun n o => below_al (below_drewN (below_al (below_self w) _) n) o
  by_cases e1 : lsN h = x.n
  · have hne : h ≠ [] := fun e => by rw [e, lsN_nil] at e1; omega
    obtain ⟨r, z, hrz⟩ : ∃ r z, h = r ++ [z] := by
      rcases List.eq_nil_or_concat h with e | ⟨r, z, e⟩
      · exact absurd e hne
      · exact ⟨r, z, by simpa using e⟩
    have g1 : (lsN h == x.n) = true := by simpa using e1
    rw [show wiH h x = r ++ [x] from by rw [wiH, if_pos e1, hrz]; simp]
    have hlen : h.length = r.length + 1 := by rw [hrz]; simp
    obtain ⟨g, c, hsl⟩ := own_block hown (by omega)
    rw [hlen] at hsl
    cases hsl
    obtain ⟨_, hc1, hc2⟩ := own_cap hown
    have hpop : w.ownsRow 0 64 3 (sl g r.length cap) r.length (hiV r) := ownsRow_pop (hiV_len r) (last := hiV [z]) (by rw [← hiV_app, ← hrz, ← hlen]; exact hown)
    rw [hlen] at hz hL hc1 ⊢
    clear e1 hp hp1 hne hrz hown hlen
    generalize lsN h = L at hL g1
    have hown1 := fun n o => own_below hpop (hB n o)
    have hrl : r.length + 1 - 1 = r.length := rfl
    go_enter Tryz.func38, Tryz.ntmps38
    go_wp2_with fail
    go_quiet ((go_at_call 35; exact Calls.quiet_of_same (hL _)))
    go_wp2_with (at_builtin; refine wpList_append_oneAt 73 64 3 32 _ Tryz.underlying73 info_ver rfl (by decide) (by decide) rfl _ _ rfl 0 _ r.length (hiV r) rfl (hown1 _ _) (Nat.zero_le _) (w.heap.size + 1) (hiV [x]) rfl rfl (three_new _ _ _ _ _ _ (by simp)) (three_one x) (by omega) ?_; intro v1 w1 hown2 hgrow hat)
    go_ret
    obtain ⟨g', c', rfl, h2, h3⟩ := appended (v0 := sl g r.length cap) (hB _ _) hown2 hgrow hat
    rw [← hiV_app] at hown2
    exact ⟨g', c', by simp, by simpa using hown2, h2, h3⟩
  · have g1 : (lsN h == x.n) = false := by simpa using e1
    rw [show wiH h x = h ++ [x] from by rw [wiH, if_neg e1]]
    have hown1 := fun n o => own_below hown (hB n o)
    clear e1 hp hp1 hown
    generalize lsN h = L at hL g1
    go_enter Tryz.func38, Tryz.ntmps38
    go_wp2_with fail
    go_quiet ((go_at_call 35; exact Calls.quiet_of_same (hL _)))
    go_wp2_with (at_builtin; refine wpList_append_oneAt 73 64 3 32 _ Tryz.underlying73 info_ver rfl (by decide) (by decide) rfl _ _ rfl 0 _ h.length (hiV h) rfl (hown1 _ _) (Nat.zero_le _) (w.heap.size + 1) (hiV [x]) rfl rfl (three_new _ _ _ _ _ _ (by simp)) (three_one x) (by omega) ?_; intro v1 w1 hown2 hgrow hat)
    go_ret
    obtain ⟨g, c, rfl, h2, h3⟩ := appended (hB _ _) hown2 hgrow hat
    rw [← hiV_app] at hown2
    exact ⟨g, c, by simp, by simpa using hown2, h2, h3⟩
end Go.Proofs.YtickoadcficdeaaGreatDoor
