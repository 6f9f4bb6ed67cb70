/- Spans in memory; the contracts of checkSpan, Check and Count. -/
import Derived.Test.YtfhidiedmenliaaGreatDoorAdBase
import Derived.Test.YtfhidiedmenliaaGreatDoorSpMath
import Derived.Deep.AppendLies
import Derived.OneCell
namespace Go.Proofs.YtfhidiedmenliaaGreatDoor
open Go.RowKit

abbrev lo (l : List Bur.Sp) (i : Nat) : Int := (l.getD i (0, 0)).1
abbrev hi (l : List Bur.Sp) (i : Nat) : Int := (l.getD i (0, 0)).2
/-- A block's cells hold the spans, two cells each. -/
def SpC (w : World) (b off : Nat) (l : List Bur.Sp) : Prop :=
  ∀ i, i < l.length → w.cell? ⟨b, off + i * 2, none⟩ = some (.int .i64 (lo l i)) ∧ w.cell? ⟨b, off + i * 2 + 1, none⟩ = some (.int .i64 (hi l i))
/-- The spans lie at the address of a slice, to be read. -/
def SpAt (w : World) (p : Option Addr) (l : List Bur.Sp) : Prop :=
  0 < l.length → ∃ b off, p = some ⟨b, off, none⟩ ∧ b < w.heap.size ∧ SpC w b off l
theorem SpAt.step {w w' : World} {p : Option Addr} {l : List Bur.Sp} (h : SpAt w p l) (hb : Below w.heap.size w w') : SpAt w' p l := by
  intro hl
  obtain ⟨b, off, rfl, hlt, hc⟩ := h hl
  refine ⟨b, off, rfl, Nat.lt_of_lt_of_le hlt hb.size, fun i hi => ?_⟩
  rw [hb.cell (p := ⟨b, off + i * 2, none⟩) hlt, hb.cell (p := ⟨b, off + i * 2 + 1, none⟩) hlt]
  exact hc i hi
theorem SpAt.alloc {w : World} {p : Option Addr} {l : List Bur.Sp} (h : SpAt w p l) (o : Obj) : SpAt (w.alloc o) p l := h.step (below_al (below_self _) _)
theorem SpAt.nil (w : World) (p : Option Addr) : SpAt w p [] := fun h => by simp at h
theorem drop_sp {l : List Bur.Sp} {k : Nat} (h : k < l.length) : l.drop k = (lo l k, hi l k) :: l.drop (k + 1) := by
  rw [List.drop_eq_getElem_cons h]
  simp only [lo, hi, List.getD, List.getElem?_eq_getElem h, Option.getD_some]

/-- The cells of a span. -/
abbrev scs (a b : Int) : Obj := .cells #[.int .i64 a, .int .i64 b] 53

set_option maxHeartbeats 1000000 in
theorem checkSpan (a b : Int) (w : World) : Calls Tryz.prog 60 #[pfx a b] w fun e w' => e = .returned (ev (Bur.spF a b)) ∧ Below w.heap.size w w' := by
  have hb0 : Below w.heap.size w (w.alloc (scs a b)) := below_al (below_self _) _
  cases h1 : Bur.isA a
  · have E : Bur.spF a b = 1 := by simp [Bur.spF, h1]
    rw [E]
    go_enter Tryz.func60, Tryz.ntmps60
    go_wp2_with (go_at_call 48; refine (isAddress _ _).mono ?_; rintro e w' ⟨rfl, rfl⟩)
    go_ret
    exact ⟨rfl, hb0⟩
  · cases h2 : Bur.isA b
    · have E : Bur.spF a b = 1 := by simp [Bur.spF, h2]
      rw [E]
      go_enter Tryz.func60, Tryz.ntmps60
      go_wp2_with (go_at_call 48; refine (isAddress _ _).mono ?_; rintro e w' ⟨rfl, rfl⟩)
      go_ret
      exact ⟨rfl, hb0⟩
    · by_cases h3 : b < a
      · have E : Bur.spF a b = 2 := by simp [Bur.spF, h1, h2, h3]
        rw [E]
        go_enter Tryz.func60, Tryz.ntmps60
        go_wp2_with (go_at_call 48; refine (isAddress _ _).mono ?_; rintro e w' ⟨rfl, rfl⟩)
        go_ret
        exact ⟨rfl, hb0⟩
      · have E : Bur.spF a b = 0 := by simp [Bur.spF, h1, h2, h3]
        rw [E]
        go_enter Tryz.func60, Tryz.ntmps60
        go_wp2_with (go_at_call 48; refine (isAddress _ _).mono ?_; rintro e w' ⟨rfl, rfl⟩)
        go_ret
        exact ⟨rfl, hb0⟩

/-- What a set's fault is, met at its span k. -/
theorem stF_at {l : List Bur.Sp} {h : Int} {k : Nat} (hk : k < l.length) : Bur.stF h (l.drop k) = if Bur.spF (lo l k) (hi l k) = 0 then (if lo l k ≤ h + 1 then 2 else Bur.stF (hi l k) (l.drop (k + 1))) else Bur.spF (lo l k) (hi l k) := by
  rw [drop_sp hk]; rfl

/-- The address behind which span k must stand. -/
def prv (l : List Bur.Sp) (k : Nat) : Int := if k = 0 then -2 else hi l (k - 1)

set_option maxHeartbeats 4000000 in
theorem check (p : Option Addr) (cap : Nat) (l : List Bur.Sp) (w : World) (hl : l.length ≤ 9223372036854775807) (hs : SpAt w p l) : Calls Tryz.prog 46 #[.slice p l.length cap] w fun e w' => e = .returned (ev (Bur.setF l)) ∧ Below w.heap.size w w' := by
  by_cases h64 : 64 < l.length
  · have E : Bur.setF l = 3 := if_pos h64
    rw [E]
    go_enter Tryz.func46, Tryz.ntmps46
    go_wp2
    go_ret
    exact ⟨rfl, below_self _⟩
  have E : Bur.setF l = Bur.stF (-2) l := if_neg h64
  rw [E]
  clear E
  go_enter Tryz.func46, Tryz.ntmps46
  go_wp2
  go_loopw [12] (fun i wr => ∃ k : Nat, k ≤ l.length ∧ i = .int .i64 k ∧ Hid (Bur.stF (-2) l = Bur.stF (prv l k) (l.drop k)) ∧ Hid (0 < k → Bur.isA (hi l (k - 1)) = true) ∧ Below w.heap.size w wr) (fun i _ => l.length - (intOf i).toNat)
  case atStart => exact ⟨0, by omega, rfl, rfl, fun h => by omega, below_self _⟩
  case round =>
    obtain ⟨k, hk, rfl, R, hA, hb⟩ := hrel
    by_cases hlt : k < l.length
    · have hlt' : (k : Int) < (l.length : Int) := by omega
      obtain ⟨b, off, rfl, hbl, hc⟩ := hs (by omega)
      have hcb := bcell hb
      have c0 : wr.cell? ⟨b, off + k * 2, none⟩ = some (.int .i64 (lo l k)) := (hcb.1 _ _ hbl).trans (hc k hlt).1
      have c1 : wr.cell? ⟨b, off + k * 2 + 1, none⟩ = some (.int .i64 (hi l k)) := (hcb.1 _ _ hbl).trans (hc k hlt).2
      have S : Hid _ := stF_at (h := prv l k) hlt
      have hsz := hb.size
      by_cases hf : Bur.spF (lo l k) (hi l k) = 0
      · have ok := Bur.spF_ok hf
        have hev : Hid (ev (Bur.spF (lo l k) (hi l k)) = .nilIface) := by show _ = _; rw [hf]; rfl
        have A2 : Hid (0 < k + 1 → Bur.isA (hi l (k + 1 - 1)) = true) := fun _ => Bur.isA_mk (by simp only [Nat.add_sub_cancel]; omega) (by simp only [Nat.add_sub_cancel]; omega)
        by_cases hk0 : 0 < k
        · have cp : wr.cell? ⟨b, off + (k - 1) * 2 + 1, none⟩ = some (.int .i64 (hi l (k - 1))) := (hcb.1 _ _ hbl).trans (hc (k - 1) (by omega)).2
          have hp := Bur.isA_true (hA.out hk0)
          have hg : decide ((0 : Int) < (k : Int)) = true := by simp; omega
          have eP : prv l k = hi l (k - 1) := if_neg (by omega)
          cases hd : decide (lo l k ≤ hi l (k - 1) + 1)
          · have S2 : Hid (Bur.stF (-2) l = Bur.stF (prv l (k + 1)) (l.drop (k + 1))) := by
              show _ = _
              rw [R.out, S.out, if_pos hf, if_neg (by rw [eP]; simpa using hd)]
              rfl
            clear S hf hc hcb hs R hA eP
            go_wp2_with (go_at_call 60; refine (checkSpan _ _ _).mono ?_; rintro e w1 ⟨rfl, hb1⟩; rw [hev.out]; have hb2 : Below w.heap.size w w1 := below_via (below_al hb _) hb1; have d0 : w1.cell? ⟨wr.heap.size, 0, none⟩ = some (.int .i64 (lo l k)) := (hb1.cell (p := ⟨wr.heap.size, 0, none⟩) (by simp)).trans (by simp); have d1 : w1.cell? ⟨b, off + (k - 1) * 2 + 1, none⟩ = some (.int .i64 (hi l (k - 1))) := (hb1.cell (p := ⟨b, off + (k - 1) * 2 + 1, none⟩) (by simp; omega)).trans ((World.cell?_alloc_lt _ _ _ (by simp; omega)).trans cp); clear hb1)
            go_quiet (fail)
            go_wp2
            exact ⟨⟨k + 1, by omega, by go_num, S2, A2, below_drewN hb2 _⟩, by simp [intOf]; omega⟩
          · have S2 : Hid (Bur.stF (-2) l = 2) := by
              show _ = _
              rw [R.out, S.out, if_pos hf, if_pos (by rw [eP]; simpa using hd)]
            clear S hf hc hcb hs R hA eP
            go_wp2_with (go_at_call 60; refine (checkSpan _ _ _).mono ?_; rintro e w1 ⟨rfl, hb1⟩; rw [hev.out]; have hb2 : Below w.heap.size w w1 := below_via (below_al hb _) hb1; have d0 : w1.cell? ⟨wr.heap.size, 0, none⟩ = some (.int .i64 (lo l k)) := (hb1.cell (p := ⟨wr.heap.size, 0, none⟩) (by simp)).trans (by simp); have d1 : w1.cell? ⟨b, off + (k - 1) * 2 + 1, none⟩ = some (.int .i64 (hi l (k - 1))) := (hb1.cell (p := ⟨b, off + (k - 1) * 2 + 1, none⟩) (by simp; omega)).trans ((World.cell?_alloc_lt _ _ _ (by simp; omega)).trans cp); clear hb1)
            go_quiet (fail)
            go_wp2
            go_ret
            exact ⟨by rw [S2.out]; rfl, below_drewN hb2 _⟩
        · have S2 : Hid (Bur.stF (-2) l = Bur.stF (prv l (k + 1)) (l.drop (k + 1))) := by
            show _ = _
            rw [R.out, S.out, if_pos hf, if_neg (by simp only [prv]; rw [if_pos (by omega)]; omega)]
            rfl
          have hg : decide ((0 : Int) < (k : Int)) = false := by simp; omega
          clear S hf hc hcb hs R hA
          go_wp2_with (go_at_call 60; refine (checkSpan _ _ _).mono ?_; rintro e w1 ⟨rfl, hb1⟩; rw [hev.out]; have hb2 : Below w.heap.size w w1 := below_via (below_al hb _) hb1; clear hb1)
          go_quiet (fail)
          go_wp2
          exact ⟨⟨k + 1, by omega, by go_num, S2, A2, below_drewN hb2 _⟩, by simp [intOf]; omega⟩
      · have hev : Hid (ev (Bur.spF (lo l k) (hi l k)) = errN (Bur.spF (lo l k) (hi l k))) := if_neg hf
        have S2 : Hid (Bur.stF (-2) l = Bur.spF (lo l k) (hi l k)) := by
          show _ = _
          rw [R.out, S.out, if_neg hf]
        clear S hc hcb hs R hA
        go_wp2_with (go_at_call 60; refine (checkSpan _ _ _).mono ?_; rintro e w1 ⟨rfl, hb1⟩; rw [hev.out]; have hb2 : Below w.heap.size w w1 := below_via (below_al hb _) hb1; clear hb1)
        go_ret
        exact ⟨by rw [S2.out, hev.out]; rfl, hb2⟩
    · have S2 : Hid (Bur.stF (-2) l = 0) := by
        show _ = _
        rw [R.out, List.drop_eq_nil_of_le (by omega)]; rfl
      clear R hA hs
      go_wp2
      go_ret
      exact ⟨by rw [S2.out]; rfl, hb⟩
end Go.Proofs.YtfhidiedmenliaaGreatDoor
