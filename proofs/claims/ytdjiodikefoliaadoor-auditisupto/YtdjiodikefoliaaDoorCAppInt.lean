/- Appending numbers to a row of the call's own. -/
import Derived.Test.YtdjiodikefoliaaDoorCHsA
import Derived.Maps.AppendAt
import Derived.OneCell
namespace Go.Proofs.YtdjiodikefoliaaDoor.Ha
open Go.RowKit

def inV (zs : List Int) : List Value := zs.map (Value.int .i64)
theorem infoInt : (Tryd.prog.info? 3).map (fun i => (i.zero, i.size, i.bytes)) = some (some (.int .i64 0), 1, 8) := by kernel_rfl
/-- What a row of the call's own holds can be read. -/
theorem inAt_own {w : World} {B n cap : Nat} {p : Option Addr} {zs : List Int} (h : w.ownsRow B 3 1 (.slice p n cap) zs.length (inV zs)) : n = zs.length ∧ InAt w p zs := by
  rcases h.2 with ⟨h0, h1⟩ | ⟨g, cap', cur, h0, _, hg, _, _, _, _⟩
  · cases h0; exact ⟨h1.symm, fun hp => by omega⟩
  · cases h0
    refine ⟨rfl, fun _ => ⟨g, 0, rfl, (Array.getElem?_eq_some_iff.1 hg).1, fun i hi => ?_⟩⟩
    rw [Nat.zero_add, h.cellAt i (by omega)]
    simp [inV, List.getD, List.getElem?_eq_getElem hi]
/-- Nothing is appended. -/
theorem run_append_zero {P : Program} {w : World} (base : Nat) (t ty e : TypeId) (i : TypeInfo) (size : Nat) (ht : P.underlying t = some (.slice e)) (hi : P.info? e = some i)
    (v : Value) (n : Nat) (xs : List Value) (hown : w.ownsRow base e size v n xs) (q : Option Addr) (c : Nat) :
    (Builtin.append_ #[t, t] ty #[v, .slice q 0 c]).run P w = .ok v w := by
  rcases hown.2 with ⟨rfl, rfl⟩ | ⟨g, cap, cur, rfl, _, _, hnc, _⟩
  · cases q <;> simp [Builtin.append_, run_underlying ht, sizeOf, typeInfo, hi, Builtin.lenOf, Builtin.firstCells, loadCells, loadCellsFrom]
  · cases q <;> simp [Builtin.append_, run_underlying ht, sizeOf, typeInfo, hi, Builtin.lenOf, Builtin.firstCells, hnc, storeCells, loadCells, loadCellsFrom]
/-- 'append(v, l...)', v of the call's own, l any numbers in memory. -/
theorem wpList_append_in {w : World} {ops : Array Oper} {rest : List Oper} {o : Oper} {a : Act} {Q : Exit → Act → World → Prop} (hgd : o.guard = none) (s x : Operand)
    (ho : o.op = .call { callee := .builtin .append, args := #[s, x], argTypes := #[39, 39] })
    (base : Nat) (v : Value) (n : Nat) (xs : List Value) (hs : a.eval s = v) (hown : w.ownsRow base 3 1 v n xs) (hbase : base ≤ w.heap.size)
    (q : Option Addr) (c : Nat) (l : List Int) (hx : a.eval x = .slice q l.length c) (hl : InAt w q l) (h63 : n + l.length ≤ 1000000)
    (h : ∀ v' w', w'.ownsRow base 3 1 v' (n + l.length) (xs ++ inV l) → w.grownBy w' v.ownBlock → wpList Tryd.prog ops Q rest (a.put o.dst v') w') : wpList Tryd.prog ops Q (o :: rest) a w := by
  obtain ⟨i0, hin, hz0, hz1, hz2⟩ := info_parts infoInt
  have key : ∃ v' w', (Builtin.append_ #[39, 39] o.type #[v, .slice q l.length c]).run Tryd.prog w = .ok v' w' ∧ w'.ownsRow base 3 1 v' (n + l.length) (xs ++ inV l) ∧ w.grownBy w' v.ownBlock := by
    by_cases h0 : l.length = 0
    · have hl0 : l = [] := List.eq_nil_of_length_eq_zero h0
      subst hl0
      exact ⟨v, w, run_append_zero base _ _ 3 i0 1 Tryd.underlying39 hin v n xs hown q c, by simpa [inV] using hown, World.grownBy.refl w _⟩
    · obtain ⟨b, off, rfl, hbl, hc⟩ := hl (by omega)
      obtain ⟨v', w', hr, h2, h3, _⟩ := run_append_own_at (P := Tryd.prog) w base 39 o.type 3 i0 (.int .i64 0) 1 8 Tryd.underlying39 hin hz0 hz1 hz2 rfl (by decide) v n xs hown ⟨b, off, none⟩ l.length c (inV l) (by simp [inV]) (fun j u hj => by
        have hjl : j < l.length := by have := (List.getElem?_eq_some_iff.1 hj).1; simpa [inV] using this
        have e2 := hc j hjl
        rw [show (⟨b, off, none⟩ : Addr).add j = ⟨b, off + j, none⟩ from by unfold Addr.add; split <;> simp_all]
        rw [e2, ← hj]
        simp [inV, List.getD, List.getElem?_eq_getElem hjl]) (fun y hy => by obtain ⟨z, _, rfl⟩ := List.mem_map.1 hy; rfl) (by unfold maxLen; omega) (by omega) hbase
      exact ⟨v', w', hr, h2, h3⟩
  obtain ⟨v', w', hr, h2, h3⟩ := key
  refine wpList_plain hgd fun K hK => ?_
  unfold Oper.wp execOp
  simp only [ho, resolve, invoke, builtin, Sem.run_bind, Sem.run_pure, Result.andThen_ok, List.map_toArray, List.map_cons, List.map_nil, hs, hx, hr]
  exact hK _ _ (h v' w' h2 h3)
theorem inAt_one (w : World) (t : Nat) (x : Int) : InAt (w.alloc (.cells #[.int .i64 x] t)) (some ⟨w.heap.size, 0, none⟩) [x] := fun _ => ⟨w.heap.size, 0, rfl, by simp, fun i hi => by
  match i, hi with
  | 0, _ => simp⟩
end Go.Proofs.YtdjiodikefoliaaDoor.Ha
