/- Rows of the call's own, of elements of some cells each: sorted, and written to in their places. -/
import Derived.Test.YteipfdjpndhgkaaGreatDoorCMB
import Derived.Shelf.SlSortCmp.NoneTotal
namespace Go.Proofs.YteipfdjpndhgkaaGreatDoor
open Go.RowKit

theorem flat_at {α : Type} {enc : α → List Value} {k : Nat} (hk : ∀ x, (enc x).length = k) : ∀ (l : List α) (j : Nat), j < l.length * k → (l.flatMap enc)[j]? = (l[j / k]?).bind (fun x => (enc x)[j % k]?)
  | [], j, h => by simp at h
  | x :: r, j, h => by
    rw [List.length_cons, Nat.add_mul, Nat.one_mul] at h
    have k0 : 0 < k := by
      rcases Nat.eq_zero_or_pos k with e | e
      · subst e; simp at h
      · exact e
    rw [List.flatMap_cons]
    by_cases c : j < k
    · rw [List.getElem?_append_left (by rw [hk]; exact c), Nat.div_eq_of_lt c, Nat.mod_eq_of_lt c]; rfl
    · rw [List.getElem?_append_right (by rw [hk]; omega), hk, flat_at hk r (j - k) (by omega)]
      have e1 : j / k = (j - k) / k + 1 := by
        rw [← Nat.add_div_right _ k0, Nat.sub_add_cancel (by omega)]
      have e2 : j % k = (j - k) % k := by
        rw [← Nat.add_mod_right (j - k) k, Nat.sub_add_cancel (by omega)]
      rw [e1, e2]; rfl
theorem flat_len {α : Type} {enc : α → List Value} {k : Nat} (hk : ∀ x, (enc x).length = k) : ∀ (l : List α), (l.flatMap enc).length = l.length * k
  | [] => by simp
  | x :: r => by rw [List.flatMap_cons, List.length_append, flat_len hk r, hk, List.length_cons, Nat.add_mul, Nat.one_mul, Nat.add_comm]
end Go.Proofs.YteipfdjpndhgkaaGreatDoor

/- Rows of the call's own, of elements of some cells each: sorted, and written to in their places. -/
namespace Go.Proofs.YteipfdjpndhgkaaGreatDoor
open Go.RowKit Go.Shelf Go.Lib Go.Sort

/-- Behind the sort the same slice has the sorted row. -/
theorem own_sortK {α : Type} [Inhabited α] {enc : α → List Value} {k : Nat} (hk : ∀ x, (enc x).length = k) {w : World} {B e g cap m : Nat} {xs : List α} (d : Array α) (os : Array Obj) (h : w.ownsRow B e k (.slice (some ⟨g, 0, none⟩) xs.length cap) xs.length (xs.flatMap enc)) (hl : d.size = xs.length) : (sortWorldK enc k w g 0 m d os).ownsRow B e k (.slice (some ⟨g, 0, none⟩) xs.length cap) xs.length (d.toList.flatMap enc) := by
  refine ⟨by rw [flat_len hk]; simp [hl], ?_⟩
  rcases h.2 with ⟨h3, _⟩ | ⟨g', cap', cur, h3, hb, hg, hn, hc, hs, ht⟩
  · cases h3
  · cases h3
    have hgl : g < w.heap.size := (Array.getElem?_eq_some_iff.1 hg).1
    refine .inr ⟨g, cap, putCells id 0 (flatK enc k d) cur, rfl, hb, ?_, hn, hc, by simp [putCells, hs], ?_⟩
    · unfold sortWorldK putRowK
      rw [heap_grow_old _ _ (by simpa [putRow, mapBlock, Sort.ahead] using hgl)]
      simp [putRow, mapBlock, Sort.ahead, Array.getElem?_modify, hg, onCells]
    · apply List.ext_getElem?
      intro j
      by_cases hj : j < xs.length * k
      · have hjc : j < cur.size := by
          have := Nat.mul_le_mul_right k hn
          omega
        have k0 : 0 < k := by
          rcases Nat.eq_zero_or_pos k with e | e
          · subst e; simp at hj
          · exact e
        have hjd : j / k < d.size := by rw [hl]; exact (Nat.div_lt_iff_lt_mul k0).2 hj
        have hjm : j % k < k := Nat.mod_lt _ k0
        rw [List.getElem?_take_of_lt hj, flat_at hk _ j (by simp [hl]; exact hj)]
        have e1 : (putCells id 0 (flatK enc k d) cur).toList[j]? = some (flatK enc k d)[j]! := by
          rw [Array.getElem?_toList]
          simp [putCells, hjc, hl, hj]
        rw [e1, get_flatK _ _ _ _ (by rw [hl]; exact hj)]
        have e2 : d.toList[j / k]? = some d[j / k]! := by
          rw [Array.getElem?_toList, getElem!_pos d _ hjd]
          exact Array.getElem?_eq_getElem hjd
        rw [e2]
        have hlen := hk d[j / k]!
        simp [hlen, hjm]
      · rw [List.getElem?_take_eq_none (by omega), List.getElem?_eq_none (by rw [flat_len hk]; simp [hl]; omega)]
/-- A row in a block of its own, all of its cells. -/
def RowIn (w : World) (e g : Nat) (cs : List Value) : Prop := w.heap[g]? = some (.cells cs.toArray e (0, 0))
theorem RowIn.lt {w : World} {e g : Nat} {cs : List Value} (h : RowIn w e g cs) : g < w.heap.size := (Array.getElem?_eq_some_iff.1 h).1
theorem RowIn.cell {w : World} {e g : Nat} {cs : List Value} (h : RowIn w e g cs) (j : Nat) : w.cell? ⟨g, j, none⟩ = cs[j]? := by
  have h : w.heap[g]? = some (.cells cs.toArray e (0, 0)) := h
  simp [World.cell?, h]
theorem RowIn.frozen {w : World} {e g : Nat} {cs : List Value} (h : RowIn w e g cs) (j : Nat) : w.frozen? ⟨g, j, none⟩ = false := by
  have h : w.heap[g]? = some (.cells cs.toArray e (0, 0)) := h
  simp [World.frozen?, h]
theorem RowIn.set {w : World} {e g : Nat} {cs : List Value} (h : RowIn w e g cs) (j : Nat) (u : Value) : RowIn (w.setCell ⟨g, j, none⟩ u) e g (cs.set j u) := by
  have h : w.heap[g]? = some (.cells cs.toArray e (0, 0)) := h
  show (w.setCell ⟨g, j, none⟩ u).heap[g]? = _
  rw [Sort.setCell_eq]
  simp [mapBlock, Array.getElem?_modify, h, onCells]
theorem RowIn.keep {w w' : World} {e g : Nat} {cs : List Value} (h : RowIn w e g cs) (hb : Below w.heap.size w w') : RowIn w' e g cs := (hb.block g h.lt).trans h
theorem rowIn_own {w : World} {B e size g n cap : Nat} {xs : List Value} (h : w.ownsRow B e size (.slice (some ⟨g, 0, none⟩) n cap) n xs) : ∃ rest, RowIn w e g (xs ++ rest) ∧ B ≤ g ∧ n ≤ cap ∧ cap ≤ maxLen ∧ (xs ++ rest).length = cap * size := by
  rcases h.2 with ⟨h3, _⟩ | ⟨g', cap', cur, h3, hb, hg, hn, hc, hs, ht⟩
  · cases h3
  · cases h3
    refine ⟨cur.toList.drop (n * size), ?_, hb, hn, hc, ?_⟩
    · show w.heap[g]? = _
      rw [← ht, List.take_append_drop, hg]
    · rw [← ht, List.take_append_drop]; simp [hs]
theorem own_rowIn {w : World} {B e size g n cap : Nat} {xs rest : List Value} (h : RowIn w e g (xs ++ rest)) (hx : xs.length = n * size) (hB : B ≤ g) (hn : n ≤ cap) (hc : cap ≤ maxLen) (hl : (xs ++ rest).length = cap * size) : w.ownsRow B e size (.slice (some ⟨g, 0, none⟩) n cap) n xs :=
  ⟨hx, .inr ⟨g, cap, (xs ++ rest).toArray, rfl, hB, h, hn, hc, by simpa using hl, by simp [← hx]⟩⟩
end Go.Proofs.YteipfdjpndhgkaaGreatDoor
