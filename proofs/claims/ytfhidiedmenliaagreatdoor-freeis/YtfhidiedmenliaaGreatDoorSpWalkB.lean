/- The contracts of Count and Spans, and of the questions whether an address is in spans. -/
import Derived.Test.YtfhidiedmenliaaGreatDoorSpWalkA
namespace Bur
def cnF (l : List Sp) : Int := if setF l = 0 then cnt l else 0
end Bur
namespace Go.Proofs.YtfhidiedmenliaaGreatDoor
open Go.RowKit


set_option maxHeartbeats 4000000 in
theorem spans_same (p q : Option Addr) (ca cb : Nat) (l : List Bur.Sp) (w : World) (hl : l.length ≤ 9223372036854775807) (hs : SpAt w p l) (ht : SpAt w q l) : Calls Tryz.prog 10 #[.slice p l.length ca, .slice q l.length cb] w fun e w' => e = .returned (.bool true) ∧ Below w.heap.size w w' := by
  have hne : ((l.length : Int) != (l.length : Int)) = false := by simp
  go_enter Tryz.func10, Tryz.ntmps10
  go_wp2
  go_loopw [5] (fun i wr => ∃ (k m : Nat), k ≤ l.length ∧ i = .int .i64 k ∧ wr = w.drewN m) (fun i _ => (l.length - intOf i).toNat)
  case atStart => exact ⟨0, 0, by omega, rfl, rfl⟩
  case round =>
    obtain ⟨k, m, hk, rfl, rfl⟩ := hrel
    by_cases hlt : k < l.length
    · have hlt' : (k : Int) < (l.length : Int) := by omega
      obtain ⟨A, oa, rfl, hbl, hc⟩ := hs (by omega)
      obtain ⟨B, ob, rfl, hbl2, hd⟩ := ht (by omega)
      have c0 : (w.drewN m).cell? ⟨A, oa + k * 2, none⟩ = some (.int .i64 (lo l k)) := (hc k hlt).1
      have c1 : (w.drewN m).cell? ⟨A, oa + k * 2 + 1, none⟩ = some (.int .i64 (hi l k)) := (hc k hlt).2
      have c2 : (w.drewN m).cell? ⟨B, ob + k * 2, none⟩ = some (.int .i64 (lo l k)) := (hd k hlt).1
      have c3 : (w.drewN m).cell? ⟨B, ob + k * 2 + 1, none⟩ = some (.int .i64 (hi l k)) := (hd k hlt).2
      generalize hW : w.drewN m = W at c0 c1 c2 c3 ⊢
      have HW : Hid (w.drewN m = W) := hW
      have b1 : (lo l k != lo l k) = false := by simp
      have b2 : (hi l k != hi l k) = false := by simp
      clear hW hc hd hs ht
      go_wp2
      go_quiet (fail)
      go_wp2
      exact ⟨⟨k + 1, m + nq, by omega, by go_num, by rw [← HW.out]; simp⟩, by simp [intOf]; omega⟩
    · clear hs ht
      go_wp2
      go_ret
      exact ⟨rfl, below_drewN (below_self _) m⟩

/-- The question of one span. -/
theorem inOne (a b x : Int) (q : Addr) (w : World) (hq : w.cell? q = some (.int .i64 x)) : Calls Tryz.prog 68 #[pfx a b, .pointer (some q)] w fun e w' => e = .returned (.bool (decide (a ≤ x) && decide (x ≤ b))) ∧ Below w.heap.size w w' := by
  have hlt := World.block_lt_of_cell? _ _ hq
  have hq2 : (w.alloc (scs a b)).cell? q = some (.int .i64 x) := (World.cell?_alloc_lt _ _ _ hlt).trans hq
  have hb0 : Below w.heap.size w (w.alloc (scs a b)) := below_al (below_self _) _
  cases h1 : decide (a ≤ x)
  · go_enter Tryz.func68, Tryz.ntmps68
    go_wp2
    go_ret
    exact ⟨rfl, hb0⟩
  · go_enter Tryz.func68, Tryz.ntmps68
    go_wp2
    go_ret
    exact ⟨rfl, hb0⟩

set_option maxHeartbeats 4000000 in
theorem indexFunc (p : Option Addr) (cap : Nat) (l : List Bur.Sp) (x : Int) (q : Addr) (w : World) (hl : l.length ≤ 9223372036854775807) (hs : SpAt w p l) (hq : w.cell? q = some (.int .i64 x)) :
    Calls Tryz.prog 84 #[.slice p l.length cap, .func (.func 68) #[] #[.pointer (some q)]] w fun e w' => ∃ r : Int, e = .returned (.int .i64 r) ∧ decide (0 ≤ r) = Bur.mem l x ∧ Below w.heap.size w w' := by
  have hqb := World.block_lt_of_cell? _ _ hq
  go_enter Tryz.func84, Tryz.ntmps84
  go_wp2
  go_loopw [8] (fun i wr => ∃ (k : Nat), k ≤ l.length ∧ i = .int .i64 k ∧ Hid (Bur.mem l x = Bur.mem (l.drop k) x) ∧ Below w.heap.size w wr) (fun i _ => l.length - (intOf i).toNat)
  case atStart => exact ⟨0, by omega, rfl, rfl, below_self _⟩
  case round =>
    obtain ⟨k, hk, rfl, R, hb⟩ := hrel
    by_cases hlt : k < l.length
    · have hlt' : (k : Int) < (l.length : Int) := by omega
      obtain ⟨b, off, rfl, hbl, hc⟩ := hs (by omega)
      have hcb := bcell hb
      have c0 : wr.cell? ⟨b, off + k * 2, none⟩ = some (.int .i64 (lo l k)) := (hcb.1 _ _ hbl).trans (hc k hlt).1
      have c1 : wr.cell? ⟨b, off + k * 2 + 1, none⟩ = some (.int .i64 (hi l k)) := (hcb.1 _ _ hbl).trans (hc k hlt).2
      have cq : wr.cell? q = some (.int .i64 x) := (hb.cell hqb).trans hq
      clear hc hcb hs hq
      cases h : (decide (lo l k ≤ x) && decide (x ≤ hi l k))
      · have R2 : Hid (Bur.mem l x = Bur.mem (l.drop (k + 1)) x) := by
          show _ = _
          rw [R.out, drop_sp hlt, Bur.mem_cons]; simp only; rw [h]; rfl
        have H : Hid _ := h
        clear R h
        go_wp2_with (go_at_call 68; refine (inOne _ _ x q _ cq).mono ?_; rintro e w1 ⟨rfl, hb1⟩; rw [H.out]; have hb2 : Below w.heap.size w w1 := below_via hb hb1)
        exact ⟨⟨k + 1, by omega, by go_num, R2, hb2⟩, by simp [intOf]; omega⟩
      · have R2 : Hid (Bur.mem l x = true) := by
          show _ = _
          rw [R.out, drop_sp hlt, Bur.mem_cons]; simp only; rw [h]; rfl
        have H : Hid _ := h
        clear R h
        go_wp2_with (go_at_call 68; refine (inOne _ _ x q _ cq).mono ?_; rintro e w1 ⟨rfl, hb1⟩; rw [H.out]; have hb2 : Below w.heap.size w w1 := below_via hb hb1)
        go_ret
        exact ⟨k, rfl, by rw [R2.out]; simp, hb2⟩
    · have R2 : Hid (Bur.mem l x = false) := by
        show _ = _
        rw [R.out, List.drop_eq_nil_of_le (by omega)]; rfl
      clear R hs
      go_wp2
      go_ret
      exact ⟨-1, rfl, by rw [R2.out]; rfl, hb⟩

theorem containsFunc (p : Option Addr) (cap : Nat) (l : List Bur.Sp) (x : Int) (q : Addr) (w : World) (hl : l.length ≤ 9223372036854775807) (hs : SpAt w p l) (hq : w.cell? q = some (.int .i64 x)) :
    Calls Tryz.prog 67 #[.slice p l.length cap, .func (.func 68) #[] #[.pointer (some q)]] w fun e w' => e = .returned (.bool (Bur.mem l x)) ∧ Below w.heap.size w w' := by
  go_enter Tryz.func67, Tryz.ntmps67
  go_wp2_with (go_at_call 84; refine (indexFunc p cap l x q _ hl hs hq).mono ?_; rintro e w1 ⟨r, rfl, hr, hb1⟩; have H : Hid _ := hr; clear hr)
  go_ret
  exact ⟨by rw [← H.out]; rfl, hb1⟩

/-- A question closed over spans: a block of one cell holds their slice. -/
def Ask (w : World) (c : Addr) (l : List Bur.Sp) : Prop := l.length ≤ 9223372036854775807 ∧ ∃ p cap, w.cell? c = some (.slice p l.length cap) ∧ SpAt w p l
theorem Ask.step {w w' : World} {c : Addr} {l : List Bur.Sp} (h : Ask w c l) (hb : Below w.heap.size w w') : Ask w' c l := by
  obtain ⟨h0, p, cap, h1, h2⟩ := h
  exact ⟨h0, p, cap, (hb.cell (World.block_lt_of_cell? _ _ h1)).trans h1, h2.step hb⟩

theorem askOne (l : List Bur.Sp) (x : Int) (c : Addr) (w : World) (ha : Ask w c l) : Calls Tryz.prog 66 #[.int .i64 x, .pointer (some c)] w fun e w' => e = .returned (.bool (Bur.mem l x)) ∧ Below w.heap.size w w' := by
  obtain ⟨hl, p, cap, h1, h2⟩ := ha
  have hb0 : Below w.heap.size w (w.alloc (.cells #[.int .i64 x] 3)) := below_al (below_self _) _
  have h1' : (w.alloc (.cells #[.int .i64 x] 3)).cell? c = some (.slice p l.length cap) := (hb0.cell (World.block_lt_of_cell? _ _ h1)).trans h1
  have hq : (w.alloc (.cells #[.int .i64 x] 3)).cell? ⟨w.heap.size, 0, none⟩ = some (.int .i64 x) := by simp
  go_enter Tryz.func66, Tryz.ntmps66
  go_wp2_with (go_at_call 67; refine (containsFunc p cap l x ⟨w.heap.size, 0, none⟩ _ hl (h2.step hb0) hq).mono ?_; rintro e w1 ⟨rfl, hb1⟩)
  go_ret
  exact ⟨rfl, below_via hb0 hb1⟩

/-- Makes a question. -/
theorem asker (p : Option Addr) (cap : Nat) (l : List Bur.Sp) (w : World) (hl : l.length ≤ 9223372036854775807) (hs : SpAt w p l) : Calls Tryz.prog 52 #[.slice p l.length cap] w fun e w' => ∃ c, e = .returned (.func (.func 66) #[] #[.pointer (some c)]) ∧ Ask w' c l ∧ Below w.heap.size w w' := by
  go_enter Tryz.func52, Tryz.ntmps52
  go_wp2
  go_ret
  exact ⟨⟨w.heap.size, 0, none⟩, rfl, ⟨hl, p, cap, by simp, hs.alloc _⟩, below_al (below_self _) _⟩
end Go.Proofs.YtfhidiedmenliaaGreatDoor
