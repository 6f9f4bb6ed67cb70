/- Bytes in memory: as cells, as a text, appended. -/
import Derived.Test.YtcmmjidheglmdaaDoorCdBase
import Derived.Test.YtcmmjidheglmdaaDoorCdMath2
import Derived.Test.YtcmmjidheglmdaaDoorAppOne
import Derived.Lib.AppendStr
import Derived.Laws.BytesArg
namespace Go.Proofs.YtcmmjidheglmdaaDoor
open Go.RowKit Go.Lib

/-- Bytes as cells. -/
def byV (l : List UInt8) : List Value := l.map fun b => Value.int .u8 b.toNat
theorem byV_app (l m : List UInt8) : byV (l ++ m) = byV l ++ byV m := by simp [byV]
theorem byV_len (l : List UInt8) : (byV l).length = l.length := by simp [byV]
theorem byV_str (s : ByteArray) : strCells s = byV s.data.toList := rfl
theorem infoByte : (Tryd.prog.info? 5).map (fun i => (i.zero, i.size, i.bytes)) = some (some (.int .u8 0), 1, 1) := by kernel_rfl
theorem byte_new (W : World) (c : Int) (t : Nat) : ∀ (j : Nat) (u : Value), ([.int .u8 c] : List Value)[j]? = some u → (W.alloc (.cells #[.int .u8 c] t)).cell? ⟨W.heap.size, j, none⟩ = some u := by
  intro j u hj
  match j, hj with
  | 0, hj => simp at hj; subst hj; simp
theorem byte_one {c : Int} : ∀ u ∈ ([.int .u8 c] : List Value), u.oneCell' = true := by
  intro u hu; simp at hu; rcases hu with rfl; rfl
theorem own_byte {w : World} {B : Nat} {v : Value} {o : List UInt8} {c : UInt8} {n : Int} (hc : n = c.toNat) (h : w.ownsRow B 5 1 v (o.length + 1) (byV o ++ [.int .u8 n])) : w.ownsRow B 5 1 v (o ++ [c]).length (byV (o ++ [c])) := by
  subst hc
  rw [byV_app, List.length_append]; exact h
theorem own_str {w : World} {B : Nat} {v : Value} {o : List UInt8} {s : ByteArray} (h : w.ownsRow B 5 1 v (o.length + s.size) (byV o ++ strCells s)) : w.ownsRow B 5 1 v (o ++ s.data.toList).length (byV (o ++ s.data.toList)) := by
  rw [byV_app, List.length_append, ← byV_str]; exact h
theorem wpList_append_text {w : World} {ops : Array Oper} {rest : List Oper} {o : Oper} {a : Act} {Q : Exit → Act → World → Prop} (hgd : o.guard = none) (sl x : Operand)
    (ho : o.op = .call { callee := .builtin .append, args := #[sl, x], argTypes := #[42, 9] })
    (base : Nat) (v : Value) (l : List UInt8) (hs : a.eval sl = v) (hown : w.ownsRow base 5 1 v l.length (byV l)) (s : ByteArray) (hx : a.eval x = .string s)
    (h63 : l.length + s.size ≤ 1000000) (hbase : base ≤ w.heap.size)
    (h : ∀ v' w', w'.ownsRow base 5 1 v' (l ++ s.data.toList).length (byV (l ++ s.data.toList)) → w.grownBy w' v.ownBlock → wpList Tryd.prog ops Q rest (a.put o.dst v') w') : wpList Tryd.prog ops Q (o :: rest) a w := by
  obtain ⟨i0, hin, hz0, hz1, hz2⟩ := info_parts infoByte
  exact wpList_append_own_string w hgd sl x _ _ ho base _ i0 Tryd.underlying42 Tryd.underlying9 hin hz0 hz1 hz2 v _ _ hs hown s hx (by unfold maxLen; omega) (by omega) hbase (fun v' w' h1 h2 _ => h v' w' (own_str h1) h2)
/-- Bytes lie at the address of a slice, to be read. -/
def ByC (w : World) (b off : Nat) (l : List UInt8) : Prop := ∀ (i : Nat) (x : UInt8), l[i]? = some x → w.cell? ⟨b, off + i, none⟩ = some (.int .u8 x.toNat)
def ByAt (w : World) (p : Option Addr) (l : List UInt8) : Prop :=
  0 < l.length → ∃ b off, p = some ⟨b, off, none⟩ ∧ b < w.heap.size ∧ ByC w b off l
theorem ByC.step {B : Nat} {w w' : World} {b off : Nat} {l : List UInt8} (h : ByC w b off l) (hlt : b < B) (hb : Below B w w') : ByC w' b off l := fun i x hx => (hb.cell (p := ⟨b, off + i, none⟩) hlt).trans (h i x hx)
theorem ByAt.step {w w' : World} {p : Option Addr} {l : List UInt8} (h : ByAt w p l) (hb : Below w.heap.size w w') : ByAt w' p l := by
  intro hl
  obtain ⟨b, off, rfl, hlt, hc⟩ := h hl
  exact ⟨b, off, rfl, Nat.lt_of_lt_of_le hlt hb.size, hc.step hlt hb⟩
theorem byAt_own {w : World} {B n cap e : Nat} {p : Option Addr} {l : List UInt8} (h : w.ownsRow B e 1 (.slice p n cap) l.length (byV l)) : n = l.length ∧ ByAt w p l := by
  rcases h.2 with ⟨h0, h1⟩ | ⟨g, cap', cur, h0, _, hg, _, _, _, _⟩
  · cases h0; exact ⟨h1.symm, fun hp => by omega⟩
  · cases h0
    refine ⟨rfl, fun _ => ⟨g, 0, rfl, (Array.getElem?_eq_some_iff.1 hg).1, fun i x hx => ?_⟩⟩
    have hi := (List.getElem?_eq_some_iff.1 hx).1
    rw [Nat.zero_add, h.cellAt i (by omega)]
    simp [byV, hx]
/-- A piece of them is a text. -/
theorem byCv {w : World} {b off : Nat} {l : List UInt8} (h : ByC w b off l) (i n cap : Nat) (hn : i + n ≤ l.length) :
    (convert 42 9 (.slice (some ⟨b, off + i, none⟩) n cap)).run Tryd.prog w = .ok (.string (Vs.cutB l i n)) w := by
  have hlen : (((l.drop i).take n).map (fun x => (x.toNat : Int))).length = n := by simp; omega
  have := run_convert_bytes_arg (P := Tryd.prog) w 42 5 Tryd.underlying42 Tryd.underlying5 b (off + i) n cap (((l.drop i).take n).map (fun x => (x.toNat : Int))) hlen (fun j hj => by
    have hjl : i + j < l.length := by omega
    rw [Nat.add_assoc, h (i + j) l[i + j] (List.getElem?_eq_getElem hjl)]
    simp [List.getD, hj, List.getElem?_eq_getElem hjl]) 9 Tryd.underlying9
  have hid : ((fun n : Int => UInt8.ofNat n.toNat) ∘ fun x : UInt8 => (x.toNat : Int)) = id := by funext x; simp
  rw [this, Vs.cutB, Vs.mkB, strOfNums, List.map_map, hid, List.map_id]
/-- A slice of bytes as a text. -/
theorem byStr {w : World} {q : Option Addr} {l : List UInt8} (c : Nat) (h : ByAt w q l) : (convert 42 9 (.slice q l.length c)).run Tryd.prog w = .ok (.string (Vs.mkB l)) w := by
  by_cases h0 : 0 < l.length
  · obtain ⟨b, off, rfl, _, hc⟩ := h h0
    have := byCv hc 0 l.length c (by omega)
    rw [Nat.add_zero] at this
    rw [this, Vs.cutB]; simp
  · have hl : l = [] := List.eq_nil_of_length_eq_zero (by omega)
    subst hl
    rw [run_convert_bytes_string w _ _ 5 _ _ _ Tryd.underlying42 Tryd.underlying5 Tryd.underlying9]
    cases q <;> simp [Conv.bytesToString, loadCells, Vs.mkB] <;> rfl
end Go.Proofs.YtcmmjidheglmdaaDoor
