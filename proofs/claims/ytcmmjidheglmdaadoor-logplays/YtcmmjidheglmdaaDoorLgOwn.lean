/- A law's own list of lists beside a log of package log. -/
import Derived.Test.YtcmmjidheglmdaaDoorLgBase
import Derived.Test.YtcmmjidheglmdaaDoorAppOne
import Derived.Laws.AppendOwnNone
namespace Go.Proofs.YtcmmjidheglmdaaDoor
open Go.RowKit Vs

theorem infoLs : (Tryd.prog.info? 35).map (fun i => (i.zero, i.size, i.bytes)) = some (some (.slice none 0 0), 1, 24) := by kernel_rfl
/-- 'append(s, x...)', both rows of the call's own, either of which may be nil. -/
theorem wpList_append_row {w : World} {ops : Array Oper} {rest : List Oper} {o : Oper} {a : Act} {Q : Exit → Act → World → Prop} (t e : TypeId) (size bytes : Nat) (z : Value) (ht : Tryd.prog.underlying t = some (.slice e))
    (hinf : (Tryd.prog.info? e).map (fun i => (i.zero, i.size, i.bytes)) = some (some z, size, bytes)) (hzs : z.cells.size = size) (hsz : 0 < size) (hby : bytes ≤ 1000) (hgd : o.guard = none) (s x : Operand)
    (ho : o.op = .call { callee := .builtin .append, args := #[s, x], argTypes := #[t, t] })
    (base : Nat) (v : Value) (n : Nat) (xs : List Value) (hs : a.eval s = v) (hown : w.ownsRow base e size v n xs) (hbase : base ≤ w.heap.size)
    (base2 : Nat) (u : Value) (m : Nat) (news : List Value) (hx : a.eval x = u) (hsrc : w.ownsRow base2 e size u m news) (h1 : ∀ y ∈ news, y.oneCell' = true) (h63 : n + m ≤ 1000000)
    (h : ∀ v' w', w'.ownsRow base e size v' (n + m) (xs ++ news) → w.grownBy w' v.ownBlock → (v'.ownBlock = v.ownBlock ∨ v'.ownBlock = some w.heap.size) → wpList Tryd.prog ops Q rest (a.put o.dst v') w') : wpList Tryd.prog ops Q (o :: rest) a w := by
  obtain ⟨i0, hin, hz0, hz1, hz2⟩ := info_parts hinf
  have hb2 : (n + m) * bytes ≤ 140737488355328 := by
    have := Nat.mul_le_mul h63 hby
    omega
  refine wpList_plain hgd fun K hK => ?_
  rcases hsrc.2 with ⟨hu, hm⟩ | ⟨g, cap, cur, hu, hb, hgb, hmc, _, hcs, htk⟩
  · subst hm
    have hn : news = [] := by have := hsrc.1; simpa using this
    subst hn
    have hrun := run_append_owned_none (P := Tryd.prog) (w := w) base t o.type e i0 size ht hin v n xs hown
    rw [hu] at hx
    unfold Oper.wp
    simp [execOp, ho, resolve, invoke, builtin, hs, hx, hrun, Result.andThen]
    exact hK _ _ (h v w (by simpa using hown) (World.grownBy.refl w _) (.inl rfl))
  · subst hu
    obtain ⟨v', w', hr, h2, h3, _, h5⟩ := run_append_own_at (P := Tryd.prog) w base t o.type e i0 z size bytes ht hin hz0 hz1 hz2 hzs hsz v n xs hown ⟨g, 0, none⟩ m cap news hsrc.1 (fun j y hj => by
      rw [show (⟨g, 0, none⟩ : Addr).add j = ⟨g, j, none⟩ from by unfold Addr.add; split <;> simp_all]
      rw [hsrc.cellAt j (by rw [← hsrc.1]; exact (List.getElem?_eq_some_iff.1 hj).1)]
      exact hj) h1 (by unfold maxLen; omega) hb2 hbase
    unfold Oper.wp execOp
    simp only [ho, resolve, invoke, builtin, Sem.run_bind, Sem.run_pure, Result.andThen_ok, List.map_toArray, List.map_cons, List.map_nil, hs, hx, hr]
    exact hK _ _ (h v' w' h2 h3 h5)
/-- A row that is cut off. -/
theorem own_trunc {w : World} {B e size n k cap : Nat} {p : Option Addr} {xs : List Value} (h : w.ownsRow B e size (.slice p n cap) n xs) (hk : k ≤ n) : w.ownsRow B e size (.slice p k cap) k (xs.take (k * size)) := by
  have hx := h.1
  refine ⟨?_, ?_⟩
  · rw [List.length_take, hx, Nat.min_eq_left (Nat.mul_le_mul_right _ hk)]
  · rcases h.2 with ⟨h0, h1⟩ | ⟨g, cap', cur, h0, hb, hg, hn, hc, hcs, htk⟩
    · cases h0
      have : k = 0 := by omega
      subst this
      exact .inl ⟨rfl, rfl⟩
    · cases h0
      refine .inr ⟨g, cap, cur, rfl, hb, hg, by omega, hc, hcs, ?_⟩
      rw [← htk, List.take_take, Nat.min_eq_left (Nat.mul_le_mul_right _ hk)]
theorem row_but {E : Nat → Prop} {w w' : World} {B e size n : Nat} {v : Value} {xs : List Value} (h : w.ownsRow B e size v n xs) (hb : But E w w') (hv : ∀ j, v.ownBlock = some j → ¬ E j) : w'.ownsRow B e size v n xs := by
  refine ⟨h.1, ?_⟩
  rcases h.2 with hn | ⟨g, cap, cur, rfl, h1, hh, rest⟩
  · exact .inl hn
  · exact .inr ⟨g, cap, cur, rfl, h1, (hb.block g (Array.getElem?_eq_some_iff.1 hh).1 (hv g rfl)).trans hh, rest⟩
/-- A row of lists, which lie below n0. -/
def OwnL (n0 : Nat) (w : World) (v : Value) (ls : List (List Chg)) : Prop := ∃ vs, w.ownsRow n0 35 1 v ls.length vs ∧ ∀ (i : Nat) (l : List Chg), ls[i]? = some l → ∃ u, vs[i]? = some u ∧ LsE w (fun j => j < n0) u l
theorem OwnL.nil (n0 : Nat) (w : World) : OwnL n0 w (.slice none 0 0) [] := ⟨[], World.ownsRow_nil _ _ _ _, fun i l h => by simp at h⟩
theorem OwnL.but {E : Nat → Prop} {n0 : Nat} {w w' : World} {v : Value} {ls : List (List Chg)} (h : OwnL n0 w v ls) (hb : But E w w') (hv : ∀ j, v.ownBlock = some j → ¬ E j) (hn : ∀ j, j < n0 → ¬ E j) : OwnL n0 w' v ls := by
  obtain ⟨vs, h1, h2⟩ := h
  refine ⟨vs, row_but h1 hb hv, fun i l hl => ?_⟩
  obtain ⟨u, h3, h4⟩ := h2 i l hl
  exact ⟨u, h3, h4.but hb (fun j _ hj => hn j hj)⟩
theorem OwnL.step {n0 : Nat} {w w' : World} {v : Value} {ls : List (List Chg)} (h : OwnL n0 w v ls) (hb : Below w.heap.size w w') : OwnL n0 w' v ls := h.but (E := fun _ => False) (.below hb) (fun _ _ => id) (fun _ _ => id)
theorem OwnL.form {n0 : Nat} {w : World} {v : Value} {ls : List (List Chg)} (h : OwnL n0 w v ls) : ∃ p c, v = .slice p ls.length c ∧ (ls.length ≤ c) ∧ c ≤ 9223372036854775807 := by
  obtain ⟨vs, h1, _⟩ := h
  rcases h1.2 with ⟨h2, h3⟩ | ⟨g, c, cur, h2, _, _, h3, h4, _⟩
  · exact ⟨none, 0, by rw [h2, h3], by omega, by decide⟩
  · exact ⟨_, c, h2, h3, h4⟩
theorem OwnL.at {n0 : Nat} {w : World} {p : Option Addr} {c : Nat} {ls : List (List Chg)} (h : OwnL n0 w (.slice p ls.length c) ls) : LsAt w (fun _ => True) p ls := by
  obtain ⟨vs, h1, h2⟩ := h
  intro hl
  rcases h1.2 with ⟨h3, h4⟩ | ⟨g, c', cur, h3, _, hg, _⟩
  · omega
  · cases h3
    refine ⟨g, 0, rfl, (Array.getElem?_eq_some_iff.1 hg).1, trivial, fun i l hx => ?_⟩
    obtain ⟨u, h5, h6⟩ := h2 i l hx
    have hi := (List.getElem?_eq_some_iff.1 hx).1
    exact ⟨u, by rw [Nat.zero_add, h1.cellAt i (by omega)]; exact h5, h6.mono (fun _ _ _ => trivial)⟩
theorem OwnL.lt {n0 : Nat} {w : World} {v : Value} {ls : List (List Chg)} (h : OwnL n0 w v ls) {j : Nat} (hj : v.ownBlock = some j) : n0 ≤ j ∧ j < w.heap.size := by
  obtain ⟨vs, h1, _⟩ := h
  have := h1.lt j hj
  rcases h1.2 with ⟨h2, _⟩ | ⟨g, c, cur, h2, hb, hg, _⟩
  · rw [h2] at hj; cases hj
  · rw [h2] at hj
    have : g = j := Option.some.inj hj
    subst this
    exact ⟨hb, (Array.getElem?_eq_some_iff.1 hg).1⟩
theorem OwnL.take {n0 : Nat} {w : World} {p : Option Addr} {c : Nat} {ls : List (List Chg)} (h : OwnL n0 w (.slice p ls.length c) ls) {k : Nat} (hk : k ≤ ls.length) : OwnL n0 w (.slice p k c) (ls.take k) := by
  obtain ⟨vs, h1, h2⟩ := h
  have e : (ls.take k).length = k := by rw [List.length_take]; omega
  refine ⟨vs.take (k * 1), by rw [e]; exact own_trunc h1 hk, fun i l hx => ?_⟩
  rw [List.getElem?_take] at hx
  split at hx
  · rename_i c
    obtain ⟨u, h3, h4⟩ := h2 i l hx
    exact ⟨u, by rw [List.getElem?_take, if_pos (by omega)]; exact h3, h4⟩
  · cases hx
/-- One more. -/
theorem OwnL.more {n0 : Nat} {w w' : World} {v v' u : Value} {ls : List (List Chg)} {vs : List Value} {l : List Chg} (h2 : ∀ (i : Nat) (l : List Chg), ls[i]? = some l → ∃ u, vs[i]? = some u ∧ LsE w (fun j => j < n0) u l) (hlen : vs.length = ls.length) (hu : LsE w (fun j => j < n0) u l)
    (hrow : w'.ownsRow n0 35 1 v' (ls.length + 1) (vs ++ [u])) (hb : But (fun j => v.ownBlock = some j) w w') (hv : ∀ j, v.ownBlock = some j → n0 ≤ j) : OwnL n0 w' v' (ls ++ [l]) := by
  refine ⟨vs ++ [u], by simpa using hrow, fun i m hm => ?_⟩
  have hE : ∀ j, j < w.heap.size → j < n0 → ¬ v.ownBlock = some j := fun j _ hj e => by have := hv j e; omega
  rw [List.getElem?_append] at hm
  split at hm
  · rename_i c
    obtain ⟨u', h3, h4⟩ := h2 i m hm
    exact ⟨u', by rw [List.getElem?_append, if_pos (by omega)]; exact h3, h4.but hb hE⟩
  · rename_i c
    have : i - ls.length = 0 := by
      have := (List.getElem?_eq_some_iff.1 hm).1
      simp at this; omega
    rw [this] at hm
    simp at hm
    subst hm
    exact ⟨u, by rw [List.getElem?_append, if_neg (by omega), hlen, this]; rfl, hu.but hb hE⟩
end Go.Proofs.YtcmmjidheglmdaaDoor
