/- The contract of edges: where spans of some lists begin and are over, sorted. -/
import Derived.Test.YtfhidiedmenliaaGreatDoorSpWalkD
import Derived.Test.YtfhidiedmenliaaGreatDoorShelf
import Derived.Sort.OwnSortedInts
namespace Go.Proofs.YtfhidiedmenliaaGreatDoor
open Go.RowKit Go.Sort

/-- A list of spans as it is handed in: its address, its capacity, its spans. -/
abbrev Ls := Option Addr × Nat × List Bur.Sp
def cat (ls : List Ls) : List Bur.Sp := ls.flatMap (·.2.2)
def slV (x : Ls) : Value := .slice x.1 x.2.2.length x.2.1
/-- The lists lie in a block, one cell each, and their spans can be read. -/
def LsAt (w : World) (L : Nat) (ls : List Ls) : Prop := L < w.heap.size ∧ ∀ j x, ls[j]? = some x → w.cell? ⟨L, j, none⟩ = some (slV x) ∧ SpAt w x.1 x.2.2 ∧ x.2.2.length ≤ 64
theorem LsAt.step {w w' : World} {L : Nat} {ls : List Ls} (h : LsAt w L ls) (hb : Below w.heap.size w w') : LsAt w' L ls :=
  ⟨Nat.lt_of_lt_of_le h.1 hb.size, fun j x hx => ⟨(hb.cell (p := ⟨L, j, none⟩) h.1).trans (h.2 j x hx).1, (h.2 j x hx).2.1.step hb, (h.2 j x hx).2.2⟩⟩
def inV (zs : List Int) : List Value := zs.map (Value.int .i64)
theorem inV_app (a b : List Int) : inV (a ++ b) = inV a ++ inV b := by simp [inV]

/-- What a row of numbers of the call's own holds can be read. -/
theorem inAt_own {w : World} {B n cap : Nat} {p : Option Addr} {zs : List Int} (h : w.ownsRow B 3 1 (.slice p n cap) zs.length (inV zs)) : n = zs.length ∧ InAt w p zs := by
  rcases h.2 with ⟨h0, h1⟩ | ⟨g, cap', cur, h0, _, hg, _, _, _, _⟩
  · cases h0; exact ⟨h1.symm, fun hp => by omega⟩
  · cases h0
    refine ⟨rfl, fun _ => ⟨g, 0, rfl, (Array.getElem?_eq_some_iff.1 hg).1, fun i hi => ?_⟩⟩
    rw [Nat.zero_add, h.cellAt i (by omega)]
    simp [inV, List.getElem?_eq_getElem hi]

theorem edg_take {l : List Bur.Sp} {k : Nat} (h : k < l.length) : Bur.edg (l.take (k + 1)) = Bur.edg (l.take k) ++ [lo l k, hi l k + 1] := by
  rw [List.take_add_one, List.getElem?_eq_getElem h, Bur.edg_append]
  simp [Bur.edg, lo, hi, List.getD, List.getElem?_eq_getElem h]

set_option maxHeartbeats 8000000 in
theorem edges (L m : Nat) (ls : List Ls) (w : World) (hm : ls.length ≤ 4) (hL : LsAt w L ls) (hA : Bur.InA (cat ls)) :
    Calls Tryz.prog 54 #[.slice (some ⟨L, 0, none⟩) ls.length m] w fun e w' => ∃ (q : Option Addr) (cap : Nat), e = .returned (.slice q (Bur.srt (Bur.edg (cat ls))).length cap) ∧ InAt w' q (Bur.srt (Bur.edg (cat ls))) ∧ Below w.heap.size w w' := by
  obtain ⟨i0, hin, hz0, hz1, hz2⟩ := info_parts info_int
  go_enter Tryz.func54, Tryz.ntmps54
  go_wp2
  go_loopw [3, 10] (fun v i wr => ∃ (j : Nat), j ≤ ls.length ∧ i = .int .i64 j ∧ Hid ((Bur.edg (cat (ls.take j))).length ≤ j * 128) ∧ wr.ownsRow w.heap.size 3 1 v (Bur.edg (cat (ls.take j))).length (inV (Bur.edg (cat (ls.take j)))) ∧ Below w.heap.size w wr) (fun _ i _ => ls.length - (intOf i).toNat)
  case atStart => exact ⟨0, by omega, rfl, by show _ ≤ _; simp [cat, Bur.edg], World.ownsRow_nil _ _ _ _, below_self _⟩
  case round =>
    obtain ⟨j, hj, rfl, hlen, hown, hb⟩ := hrel
    have hsz := hb.size
    by_cases hlt : j < ls.length
    · have hlt' : (j : Int) < (ls.length : Int) := by omega
      obtain ⟨x, hx⟩ : ∃ x, ls[j]? = some x := ⟨_, List.getElem?_eq_getElem hlt⟩
      have hLw := hL.2 j x hx
      obtain ⟨p, cp, l⟩ := x
      have c0 : wr.cell? ⟨L, j, none⟩ = some (.slice p l.length cp) := (hb.cell (p := ⟨L, j, none⟩) hL.1).trans hLw.1
      have hs : SpAt w p l := hLw.2.1
      have hl : l.length ≤ 64 := hLw.2.2
      have hcat : Hid (cat (ls.take (j + 1)) = cat (ls.take j) ++ l) := by
        show _ = _
        rw [List.take_add_one, hx]
        simp [cat]
      have hAl : Bur.InA l := fun s hs => hA s (by
        have : (p, cp, l) ∈ ls := List.mem_of_getElem? hx
        simp only [cat, List.mem_flatMap]
        exact ⟨_, this, hs⟩)
      generalize hE : Bur.edg (cat (ls.take j)) = E0 at *
      have HE : Hid (Bur.edg (cat (ls.take j)) = E0) := hE
      have hlen' := hlen.out
      clear hE hLw hL hA hlen hx
      go_wp2
      go_loopw [3, 16] (fun v i wy => ∃ (k : Nat), k ≤ l.length ∧ i = .int .i64 k ∧ wy.ownsRow w.heap.size 3 1 v (E0.length + 2 * k) (inV (E0 ++ Bur.edg (l.take k))) ∧ Below w.heap.size w wy) (fun _ i _ => l.length - (intOf i).toNat)
      case atStart => exact ⟨0, by omega, rfl, by simpa [Bur.edg] using hown, hb⟩
      case round =>
        obtain ⟨k, hk, rfl, hown2, hb3⟩ := hrel
        have hsz3 := hb3.size
        by_cases hlt2 : k < l.length
        · have hlt2' : (k : Int) < (l.length : Int) := by omega
          obtain ⟨b, off, rfl, hbl, hc⟩ := hs (by omega)
          have hcb := bcell hb3
          have c1 : wr.cell? ⟨b, off + k * 2, none⟩ = some (.int .i64 (lo l k)) := (hcb.1 _ _ hbl).trans (hc k hlt2).1
          have c2 : wr.cell? ⟨b, off + k * 2 + 1, none⟩ = some (.int .i64 (hi l k)) := (hcb.1 _ _ hbl).trans (hc k hlt2).2
          have ok := hAl (lo l k, hi l k) (by
            have : (lo l k, hi l k) ∈ l.drop k := by rw [drop_sp hlt2]; simp
            exact List.mem_of_mem_drop this)
          simp only at ok
          have he : Hid _ := edg_take hlt2
          clear hc hcb hs hAl c0
          go_wp2_with (at_builtin; refine wpList_append_own _ rfl _ _ 85 rfl w.heap.size 3 i0 (.int .i64 0) 1 8 Tryz.underlying85 hin hz0 hz1 hz2 rfl (by decide) _ _ _ rfl ((hown2.alloc _).alloc _) ⟨wr.heap.size + 1, 0, none⟩ 2 2 [.int .i64 (lo l k), .int .i64 (hi l k + 1)] rfl rfl ?c1 ?c2 ?c3 ?c4 ?c5 ?_)
          case c1 =>
            intro j u hj
            match j, hj with
            | 0, hj => simp at hj; subst hj; simp [Addr.add]
            | 1, hj => simp at hj; subst hj; simp [Addr.add]
          case c2 => intro u hu; simp at hu; rcases hu with rfl | rfl <;> rfl
          case c3 => unfold maxLen; omega
          case c4 => omega
          case c5 => simp; omega
          intro v' w2 hown3 hgrow _
          have hb4 : Below w.heap.size w w2 := (below_al (below_al hb3 _) _).grown hgrow (by simp; omega) (fun j hj => (hown2.lt j hj).1)
          rw [show E0.length + 2 * k + 2 = E0.length + 2 * (k + 1) from by omega] at hown3
          have hown4 : w2.ownsRow w.heap.size 3 1 v' (E0.length + 2 * (k + 1)) (inV (E0 ++ Bur.edg (l.take (k + 1)))) := by
            rw [he.out, ← List.append_assoc, inV_app]; exact hown3
          clear hown3 hgrow hown2 he
          go_wp2
          exact ⟨⟨k + 1, by omega, by go_num, hown4, hb4⟩, by simp [intOf]; omega⟩
        · have he : l.take k = l := List.take_of_length_le (by omega)
          have hkl : k = l.length := by omega
          have HT : Hid (Bur.edg (cat (ls.take (j + 1))) = E0 ++ Bur.edg l) := by show _ = _; rw [hcat.out, Bur.edg_append, HE.out]
          have hl2 := Bur.edg_len l
          have hown3 := hown2
          rw [he, hkl, show E0.length + 2 * l.length = (Bur.edg (cat (ls.take (j + 1)))).length from by rw [HT.out, List.length_append, hl2], ← HT.out] at hown3
          have hlen2 : Hid ((Bur.edg (cat (ls.take (j + 1)))).length ≤ (j + 1) * 128) := by show _ ≤ _; rw [HT.out, List.length_append, hl2]; omega
          clear hown2 hown he hkl HT hl2 hs hAl c0 hcat HE
          go_wp2
          exact ⟨⟨j + 1, by omega, by go_num, hlen2, hown3, hb3⟩, by simp [intOf]; omega⟩
    · have hj' : ls.take j = ls := List.take_of_length_le (by omega)
      have hlen' := hlen.out
      rw [hj'] at hown hlen'
      clear hj' hlen hL hA
      have hsl := Bur.srt_len (Bur.edg (cat ls))
      generalize hE : Bur.edg (cat ls) = E at *
      have HE : Hid (Bur.edg (cat ls) = E) := hE
      clear hE
      rcases hown.2 with ⟨rfl, h0⟩ | ⟨g, cp, cur, rfl, hg0, hg, hnc, hcm, hcs, htk⟩
      · have hEn : E = [] := List.eq_nil_of_length_eq_zero h0
        subst hEn
        go_wp2_with (go_at_call 69; refine (Tryz.slices_Sort_int_none _ _ _).mono ?_; rintro e w1 ⟨rfl, h1⟩; replace h1 := h1.symm; subst h1)
        go_ret
        rw [HE.out]
        exact ⟨none, 0, by simp [Bur.srt], fun h => by simp [Bur.srt] at h, hb⟩
      · have hgl : g < wr.heap.size := (Array.getElem?_eq_some_iff.1 hg).1
        have hH := holds_of_blockI (ss := E) hg (by rw [Nat.mul_one] at htk; exact htk)
        go_wp2_with (go_at_call 69; refine (Tryz.slices_Sort_int g 0 cp E _ hH hgl (by omega)).mono ?_; rintro e w1 ⟨rfl, n1, os1, h1⟩; have hb1 : Below w.heap.size w w1 := hb.grown (row := some g) (by rw [h1]; exact grownBy_sortedI _) hsz (fun k hk => by cases hk; exact hg0); have ho : w1.ownsRow w.heap.size 3 1 (.slice (some ⟨g, 0, none⟩) E.length cp) E.length (inV (Bur.srt E)) := (by rw [h1]; exact ownsRow_sortedI (by simp) hg0 hg hnc hcm hcs); clear h1)
        go_ret
        have ho' := ho
        rw [← hsl] at ho'
        rw [HE.out]
        exact ⟨some ⟨g, 0, none⟩, cp, by rw [hsl]; rfl, (inAt_own ho').2, hb1⟩
end Go.Proofs.YtfhidiedmenliaaGreatDoor
