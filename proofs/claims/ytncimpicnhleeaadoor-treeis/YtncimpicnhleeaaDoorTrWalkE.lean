/- The contracts of slices.IndexFunc and ContainsFunc at prefixes, of tree's questions, roots, Above and Below. -/
import Derived.Test.YtncimpicnhleeaaDoorTrWalkC
import Derived.Test.YtncimpicnhleeaaDoorTrWalkD
namespace Go.Proofs.YtncimpicnhleeaaDoor
open Go.RowKit

/-- The first place at which P holds, from k on; -1: none. -/
def idx (P : Bur.Sp → Bool) : Int → List Bur.Sp → Int
  | _, [] => -1
  | k, s :: r => if P s = true then k else idx P (k + 1) r
theorem idx_any (P : Bur.Sp → Bool) : ∀ (l : List Bur.Sp) (k : Int), 0 ≤ k → decide (0 ≤ idx P k l) = l.any P
  | [], k, _ => by simp [idx]
  | s :: r, k, hk => by
    rw [idx, List.any_cons]
    cases h : P s with
    | true => simp [hk]
    | false => simp only [Bool.false_eq_true, if_false, Bool.false_or]; exact idx_any P r (k + 1) (by omega)

set_option maxHeartbeats 1000000 in
theorem indexFunc (g : Nat) (lb : Array Value) (eg : ∀ args w, (callFunc g args).run Tryd.prog w = .ok (.enter g args) w) (P : Bur.Sp → Bool) (q : Option Addr) (cap : Nat) (l : List Bur.Sp) (w : World) (hz : l.length ≤ 1000000) (hq : SpAt w q l)
    (hF : ∀ (i : Nat) (w1 : World), i < l.length → Below w.heap.size w w1 → Calls Tryd.prog g (#[pfx (lo l i) (hi l i)] ++ lb) w1 fun e w' => e = .returned (.bool (P (lo l i, hi l i))) ∧ Below w1.heap.size w1 w') :
    Calls Tryd.prog 65 #[.slice q l.length cap, .func (.func g) #[] lb] w fun e w' => e = .returned (.int .i64 (idx P 0 l)) ∧ Below w.heap.size w w' := by
  go_enter Tryd.func65, Tryd.ntmps65
  go_wp2
  go_loopw [8] (fun i wr => ∃ k : Nat, k ≤ l.length ∧ i = .int .i64 k ∧ Hid (idx P 0 l = idx P k (l.drop k)) ∧ Below w.heap.size w wr) (fun i _ => l.length - (intOf i).toNat)
  case atStart => exact ⟨0, by omega, rfl, rfl, below_self _⟩
  case round =>
    obtain ⟨k, hk, rfl, R, hb⟩ := hrel
    have hsz := hb.size
    by_cases hlt : k < l.length
    · have hlt' : (k : Int) < (l.length : Int) := by omega
      obtain ⟨b, off, rfl, hbl, hc⟩ := hq (by omega)
      have HF := hF k wr hlt hb
      obtain ⟨x, hx⟩ : ∃ x, x = lo l k := ⟨_, rfl⟩
      obtain ⟨y, hy⟩ : ∃ y, y = hi l k := ⟨_, rfl⟩
      rw [← hx, ← hy] at HF
      have c0 : wr.cell? ⟨b, off + k * 2, none⟩ = some (.int .i64 x) := by rw [hx]; exact (hb.cell (p := ⟨b, off + k * 2, none⟩) hbl).trans (hc k hlt).1
      have c1 : wr.cell? ⟨b, off + k * 2 + 1, none⟩ = some (.int .i64 y) := by rw [hy]; exact (hb.cell (p := ⟨b, off + k * 2 + 1, none⟩) hbl).trans (hc k hlt).2
      have hd : Hid (l.drop k = (x, y) :: l.drop (k + 1)) := by show _ = _; rw [hx, hy]; exact drop_sp hlt
      clear hx hy hc hq hF
      cases hp : P (x, y)
      · have R2 : Hid (idx P 0 l = idx P ((k + 1 : Nat) : Int) (l.drop (k + 1))) := by
          show _ = _
          rw [R.out, hd.out, idx, if_neg (by simp [hp])]
          rfl
        rw [hp] at HF
        clear R hd hp
        go_wp2_with (go_at_fn g; refine HF.mono ?_; rintro e w1 ⟨rfl, hb1⟩; have hb2 := below_via hb hb1; clear hb1)
        exact ⟨⟨k + 1, by omega, by go_num, R2, hb2⟩, by simp [intOf]; omega⟩
      · have R2 : Hid (idx P 0 l = (k : Int)) := by
          show _ = _
          rw [R.out, hd.out, idx, if_pos hp]
        rw [hp] at HF
        clear R hd hp
        go_wp2_with (go_at_fn g; refine HF.mono ?_; rintro e w1 ⟨rfl, hb1⟩; have hb2 := below_via hb hb1; clear hb1)
        go_ret
        exact ⟨by rw [R2.out]; rfl, hb2⟩
    · have R2 : Hid (idx P 0 l = -1) := by
        show _ = _
        rw [R.out, List.drop_eq_nil_of_le (by omega)]
        rfl
      clear R hF hq
      go_wp2
      go_ret
      exact ⟨by rw [R2.out]; rfl, hb⟩

theorem containsFunc (g : Nat) (lb : Array Value) (eg : ∀ args w, (callFunc g args).run Tryd.prog w = .ok (.enter g args) w) (P : Bur.Sp → Bool) (q : Option Addr) (cap : Nat) (l : List Bur.Sp) (w : World) (hz : l.length ≤ 1000000) (hq : SpAt w q l)
    (hF : ∀ (i : Nat) (w1 : World), i < l.length → Below w.heap.size w w1 → Calls Tryd.prog g (#[pfx (lo l i) (hi l i)] ++ lb) w1 fun e w' => e = .returned (.bool (P (lo l i, hi l i))) ∧ Below w1.heap.size w1 w') :
    Calls Tryd.prog 55 #[.slice q l.length cap, .func (.func g) #[] lb] w fun e w' => e = .returned (.bool (l.any P)) ∧ Below w.heap.size w w' := by
  have E : Hid _ := idx_any P l 0 (by omega)
  have HF := indexFunc g lb eg P q cap l w hz hq hF
  clear hF
  go_enter Tryd.func55, Tryd.ntmps55
  go_wp2_with fail
  refine HF.mono ?_
  rintro e w1 ⟨rfl, hb1⟩
  go_wp2
  go_ret
  exact ⟨by rw [← E.out]; rfl, hb1⟩

/-- A prefix lies in the two cells at an address. -/
def PfAt (w : World) (b : Nat) (p : Bur.Sp) : Prop := b < w.heap.size ∧ w.cell? ⟨b, 0, none⟩ = some (.int .i64 p.1) ∧ w.cell? ⟨b, 1, none⟩ = some (.int .i64 p.2)
theorem PfAt.step {w w' : World} {b : Nat} {p : Bur.Sp} (h : PfAt w b p) (hb : Below w.heap.size w w') : PfAt w' b p :=
  ⟨Nat.lt_of_lt_of_le h.1 hb.size, (hb.cell (p := ⟨b, 0, none⟩) h.1).trans h.2.1, (hb.cell (p := ⟨b, 1, none⟩) h.1).trans h.2.2⟩
theorem PfAt.new (w : World) (a l : Int) : PfAt (w.alloc (.cells #[.int .i64 a, .int .i64 l] 24)) w.heap.size (a, l) := ⟨by simp, by simp, by simp⟩

theorem above1 (q p : Bur.Sp) (b : Nat) (w : World) (hp : Bur.OkP p) (hq : Bur.OkP q) (h : PfAt w b p) : Calls Tryd.prog 40 #[pfx q.1 q.2, .pointer (some ⟨b, 0, none⟩)] w fun e w' => e = .returned (.bool (Bur.und p q)) ∧ Below w.heap.size w w' := by
  obtain ⟨h0, h1, h2⟩ := h
  go_enter Tryd.func40, Tryd.ntmps40
  go_wp2_with fail
  refine (under p q _ hp hq).mono ?_
  rintro e w1 ⟨rfl, hb1⟩
  go_wp2
  go_ret
  exact ⟨rfl, below_via (below_al (below_self _) _) hb1⟩
theorem below1 (q p : Bur.Sp) (b : Nat) (w : World) (hp : Bur.OkP p) (hq : Bur.OkP q) (h : PfAt w b p) : Calls Tryd.prog 42 #[pfx q.1 q.2, .pointer (some ⟨b, 0, none⟩)] w fun e w' => e = .returned (.bool (Bur.und q p)) ∧ Below w.heap.size w w' := by
  obtain ⟨h0, h1, h2⟩ := h
  go_enter Tryd.func42, Tryd.ntmps42
  go_wp2_with fail
  refine (under q p _ hq hp).mono ?_
  rintro e w1 ⟨rfl, hb1⟩
  go_wp2
  go_ret
  exact ⟨rfl, below_via (below_al (below_self _) _) hb1⟩
theorem roots11 (r q : Bur.Sp) (b : Nat) (w : World) (hq : Bur.OkP q) (hr : Bur.OkP r) (h : PfAt w b q) : Calls Tryd.prog 56 #[pfx r.1 r.2, .pointer (some ⟨b, 0, none⟩)] w fun e w' => e = .returned (.bool (Bur.und q r)) ∧ Below w.heap.size w w' := by
  obtain ⟨h0, h1, h2⟩ := h
  go_enter Tryd.func56, Tryd.ntmps56
  go_wp2_with fail
  refine (under q r _ hq hr).mono ?_
  rintro e w1 ⟨rfl, hb1⟩
  go_wp2
  go_ret
  exact ⟨rfl, below_via (below_al (below_self _) _) hb1⟩
/-- The list that a question is closed over. -/
def LsAt (w : World) (c : Nat) (q : Option Addr) (l : List Bur.Sp) (cap : Nat) : Prop := c < w.heap.size ∧ w.cell? ⟨c, 0, none⟩ = some (.slice q l.length cap) ∧ SpAt w q l
theorem LsAt.step {w w' : World} {c : Nat} {q : Option Addr} {l : List Bur.Sp} {cap : Nat} (h : LsAt w c q l cap) (hb : Below w.heap.size w w') : LsAt w' c q l cap :=
  ⟨Nat.lt_of_lt_of_le h.1 hb.size, (hb.cell (p := ⟨c, 0, none⟩) h.1).trans h.2.1, h.2.2.step hb⟩
theorem ok_at {l : List Bur.Sp} (h : ∀ p ∈ l, Bur.OkP p) {i : Nat} (hlt : i < l.length) : Bur.OkP (lo l i, hi l i) := by
  have : (lo l i, hi l i) = l[i] := by simp [lo, hi, List.getD, List.getElem?_eq_getElem hlt]
  rw [this]
  exact h _ (List.getElem_mem hlt)
end Go.Proofs.YtncimpicnhleeaaDoor
