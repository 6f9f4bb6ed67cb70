/- Appending one row of the call's own to another, either of which may be nil. -/
import Derived.Test.YtfhidiedmenliaaGreatDoorSpOwn
import Derived.Deep.AppendLies
import Derived.Laws.AppendOwnNone
import Derived.RangeFuncRecord
namespace Go.Proofs.YtfhidiedmenliaaGreatDoor
open Go.RowKit

/-- 'append(v, u...)', both of the call's own, u nil if it has none. -/
theorem stepAppend {P : Program} {w : World} {ops : Array Oper} {o : Oper} {a : Act} {K : Act → World → Prop} {Q : Exit → Act → World → Prop} {E : Prop} (hgd : o.guard = none) (s x : Operand) (t : TypeId)
    (ho : o.op = .call { callee := .builtin .append, args := #[s, x], argTypes := #[t, t] })
    (base base2 : Nat) (e : TypeId) (i : TypeInfo) (z : Value) (size bytes : Nat) (ht : P.underlying t = some (.slice e)) (hi : P.info? e = some i) (hz : i.zero = some z)
    (hsize : i.size = size) (hby : i.bytes = bytes) (hzs : z.cells.size = size) (hsz : 0 < size)
    (v : Value) (n : Nat) (xs : List Value) (hs : a.eval s = v) (hown : w.ownsRow base e size v n xs)
    (u : Value) (m : Nat) (news : List Value) (hx : a.eval x = u) (hsrc : w.ownsRow base2 e size u m news) (h0 : m = 0 → u = .slice none 0 0) (h1 : ∀ y ∈ news, y.oneCell' = true)
    (h63 : n + m ≤ maxLen) (hbytes : (n + m) * bytes ≤ 140737488355328) (hbase : base ≤ w.heap.size)
    (h : ∀ v' w', w'.ownsRow base e size v' (n + m) (xs ++ news) → w.grownBy w' v.ownBlock → (m = 0 → v' = v) → K (a.put o.dst v') w') :
    if Region.wanted o (yielded ops a.tmps) = true then Oper.wp P o a w K Q else E := by
  rcases hsrc.2 with ⟨hu, hm⟩ | ⟨g, cap, cur, hu, hb, hgb, hmc, _, hcs, htk⟩
  · subst hm
    have hn : news = [] := by have := hsrc.1; simpa using this
    subst hn
    have hw : Region.wanted o (yielded ops a.tmps) = true := by simp [Region.wanted, hgd]
    rw [if_pos hw]
    have hrun := run_append_owned_none (P := P) (w := w) base t o.type e i size ht hi v n xs hown
    rw [hu] at hx
    unfold Oper.wp
    simp [execOp, ho, resolve, invoke, builtin, hs, hx, hrun, Result.andThen]
    exact h v w (by simpa using hown) (World.grownBy.refl w _) (fun _ => rfl)
  · by_cases hm : 0 < m
    · rw [hu] at hx
      refine step_append_lies w hgd s x t ho base e i z size bytes ht hi hz hsize hby hzs hsz v n xs hs hown ⟨g, 0, none⟩ m cap news hx hsrc.1 (fun j y hj => ?_) h1 hm h63 hbytes hbase _ rfl (fun g' cap' w' h1' h2' _ _ => h _ w' h1' h2' (fun e => by omega))
      rw [show (⟨g, 0, none⟩ : Addr).add j = ⟨g, j, none⟩ from by unfold Addr.add; split <;> simp_all]
      rw [hu] at hsrc
      rw [hsrc.cellAt j (by rw [← hsrc.1]; exact (List.getElem?_eq_some_iff.1 hj).1)]
      exact hj
    · have := h0 (by omega)
      rw [this] at hu; cases hu
/-- A slice that was just built is the call's own. -/
theorem ownOne (w : World) (a l : Int) {B : Nat} (hB : B ≤ w.heap.size) : (w.alloc (.cells #[.int .i64 a, .int .i64 l] 23)).ownsRow B 23 2 (.slice (some ⟨w.heap.size, 0, none⟩) 1 1) 1 (spV [(a, l)]) :=
  ⟨rfl, .inr ⟨w.heap.size, 1, #[.int .i64 a, .int .i64 l], rfl, hB, World.alloc_heap_new w _, Nat.le_refl _, by decide, rfl, rfl⟩⟩
theorem spvOne (l : List Bur.Sp) : ∀ y ∈ spV l, y.oneCell' = true := by
  intro y hy
  simp only [spV, List.mem_flatMap] at hy
  obtain ⟨s, _, hs⟩ := hy
  simp at hs
  rcases hs with rfl | rfl <;> rfl
theorem ownMono {w : World} {B B' e size n : Nat} {v : Value} {xs : List Value} (hB : B' ≤ B) (h : w.ownsRow B e size v n xs) : w.ownsRow B' e size v n xs := by
  refine ⟨h.1, ?_⟩
  rcases h.2 with hn | ⟨g, cap, cur, rfl, h1, rest⟩
  · exact .inl hn
  · exact .inr ⟨g, cap, cur, rfl, Nat.le_trans hB h1, rest⟩
theorem infoPfx : (Tryz.prog.info? 23).map (fun i => (i.zero, i.size, i.bytes)) = some (some (.agg #[.int .i64 0, .int .i64 0]), 2, 16) := by kernel_rfl
theorem spAtOwnP {w : World} {B n cap : Nat} {p : Option Addr} {l : List Bur.Sp} (h : w.ownsRow B 23 2 (.slice p n cap) l.length (spV l)) : n = l.length ∧ SpAt w p l := by
  rcases h.2 with ⟨h0, h1⟩ | ⟨g, cap', cur, h0, _, hg, _, _, _, _⟩
  · cases h0; exact ⟨h1.symm, fun hp => by omega⟩
  · cases h0
    refine ⟨rfl, fun _ => ⟨g, 0, rfl, (Array.getElem?_eq_some_iff.1 hg).1, fun i hi => ?_⟩⟩
    have := spV_at l i hi
    rw [Nat.zero_add, h.cellAt (i * 2) (by omega), h.cellAt (i * 2 + 1) (by omega)]
    exact this
/-- Nothing is appended. -/
theorem run_append_zero {P : Program} {w : World} (base : Nat) (t ty e : TypeId) (i : TypeInfo) (size : Nat) (ht : P.underlying t = some (.slice e)) (hi : P.info? e = some i)
    (v : Value) (n : Nat) (xs : List Value) (hown : w.ownsRow base e size v n xs) (q : Option Addr) (c : Nat) :
    (Builtin.append_ #[t, t] ty #[v, .slice q 0 c]).run P w = .ok v w := by
  rcases hown.2 with ⟨rfl, rfl⟩ | ⟨g, cap, cur, rfl, _, _, hnc, _⟩
  · cases q <;> simp [Builtin.append_, run_underlying ht, sizeOf, typeInfo, hi, Builtin.lenOf, Builtin.firstCells, loadCells, loadCellsFrom]
  · cases q <;> simp [Builtin.append_, run_underlying ht, sizeOf, typeInfo, hi, Builtin.lenOf, Builtin.firstCells, hnc, storeCells, loadCells, loadCellsFrom]
/-- 'append(v, l...)', v of the call's own, l any prefixes in memory. -/
theorem wpList_append_sp {w : World} {ops : Array Oper} {rest : List Oper} {o : Oper} {a : Act} {Q : Exit → Act → World → Prop} (hgd : o.guard = none) (s x : Operand)
    (ho : o.op = .call { callee := .builtin .append, args := #[s, x], argTypes := #[24, 24] })
    (base : Nat) (v : Value) (n : Nat) (xs : List Value) (hs : a.eval s = v) (hown : w.ownsRow base 23 2 v n xs) (hbase : base ≤ w.heap.size)
    (q : Option Addr) (c : Nat) (l : List Bur.Sp) (hx : a.eval x = .slice q l.length c) (hl : SpAt w q l) (h63 : n + l.length ≤ 1000000)
    (h : ∀ v' w', w'.ownsRow base 23 2 v' (n + l.length) (xs ++ spV l) → w.grownBy w' v.ownBlock → wpList Tryz.prog ops Q rest (a.put o.dst v') w') : wpList Tryz.prog ops Q (o :: rest) a w := by
  obtain ⟨i0, hin, hz0, hz1, hz2⟩ := info_parts infoPfx
  have key : ∃ v' w', (Builtin.append_ #[24, 24] o.type #[v, .slice q l.length c]).run Tryz.prog w = .ok v' w' ∧ w'.ownsRow base 23 2 v' (n + l.length) (xs ++ spV l) ∧ w.grownBy w' v.ownBlock := by
    by_cases h0 : l.length = 0
    · have hl0 : l = [] := List.eq_nil_of_length_eq_zero h0
      subst hl0
      exact ⟨v, w, run_append_zero base _ _ 23 i0 2 Tryz.underlying24 hin v n xs hown q c, by simpa [spV] using hown, World.grownBy.refl w _⟩
    · obtain ⟨b, off, rfl, hbl, hc⟩ := hl (by omega)
      obtain ⟨v', w', hr, h2, h3, _⟩ := run_append_own_at (P := Tryz.prog) w base 24 o.type 23 i0 (.agg #[.int .i64 0, .int .i64 0]) 2 16 Tryz.underlying24 hin hz0 hz1 hz2 rfl (by decide) v n xs hown ⟨b, off, none⟩ l.length c (spV l) (spV_len l) (fun j u hj => by
        have hjl : j < l.length * 2 := by rw [← spV_len l]; exact (List.getElem?_eq_some_iff.1 hj).1
        have e1 := spV_at l (j / 2) (by omega)
        have e2 := hc (j / 2) (by omega)
        rw [show (⟨b, off, none⟩ : Addr).add j = ⟨b, off + j, none⟩ from by unfold Addr.add; split <;> simp_all]
        rcases Nat.mod_two_eq_zero_or_one j with g | g
        · rw [show j / 2 * 2 = j by omega] at e1 e2
          rw [e2.1, ← hj, e1.1]
        · rw [show off + j / 2 * 2 + 1 = off + j by omega] at e2
          rw [show j / 2 * 2 + 1 = j by omega] at e1
          rw [e2.2, ← hj, e1.2]) (spvOne l) (by unfold maxLen; omega) (by omega) hbase
      exact ⟨v', w', hr, h2, h3⟩
  obtain ⟨v', w', hr, h2, h3⟩ := key
  refine wpList_plain hgd fun K hK => ?_
  unfold Oper.wp execOp
  simp only [ho, resolve, invoke, builtin, Sem.run_bind, Sem.run_pure, Result.andThen_ok, List.map_toArray, List.map_cons, List.map_nil, hs, hx, hr]
  exact hK _ _ (h v' w' h2 h3)
end Go.Proofs.YtfhidiedmenliaaGreatDoor
