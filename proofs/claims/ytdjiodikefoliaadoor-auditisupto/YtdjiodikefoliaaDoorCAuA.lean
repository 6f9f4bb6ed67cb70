/- Package audit: what a key says; the first error. -/
import Derived.Test.YtdjiodikefoliaaDoorCPkK
import Derived.Test.YtdjiodikefoliaaDoorCAdUp
import Derived.Test.YtdjiodikefoliaaDoorCMB
namespace Go.Proofs.YtdjiodikefoliaaDoor.Au
open Go.RowKit Pa

/-- What a key says, as it is told. -/
def enA : Option Bur.En → Value
  | some e => .agg #[.int .i64 e.1, .string ⟨e.2.1.toArray⟩, .int .i64 e.2.2.1, .int .i64 e.2.2.2]
  | none => .agg #[.int .i64 0, .string ⟨#[]⟩, .int .i64 0, .int .i64 0]
def enE : Option Bur.En → Value
  | some _ => .nilIface
  | none => errN 5
def enV (o : Option Bur.En) : Value := .tuple #[enA o, enE o]
theorem four_set {W : World} {b : Nat} {x0 x1 x2 x3 u0 u1 u2 u3 : Value} (h0 : W.cell? ⟨b, 0, none⟩ = some x0) (h1 : W.cell? ⟨b, 1, none⟩ = some x1) (h2 : W.cell? ⟨b, 2, none⟩ = some x2) (h3 : W.cell? ⟨b, 3, none⟩ = some x3) :
    ((((W.setCell ⟨b, 0, none⟩ u0).setCell ⟨b, 1, none⟩ u1).setCell ⟨b, 2, none⟩ u2).setCell ⟨b, 3, none⟩ u3).cell? ⟨b, 0, none⟩ = some u0 ∧
    ((((W.setCell ⟨b, 0, none⟩ u0).setCell ⟨b, 1, none⟩ u1).setCell ⟨b, 2, none⟩ u2).setCell ⟨b, 3, none⟩ u3).cell? ⟨b, 1, none⟩ = some u1 ∧
    ((((W.setCell ⟨b, 0, none⟩ u0).setCell ⟨b, 1, none⟩ u1).setCell ⟨b, 2, none⟩ u2).setCell ⟨b, 3, none⟩ u3).cell? ⟨b, 2, none⟩ = some u2 ∧
    ((((W.setCell ⟨b, 0, none⟩ u0).setCell ⟨b, 1, none⟩ u1).setCell ⟨b, 2, none⟩ u2).setCell ⟨b, 3, none⟩ u3).cell? ⟨b, 3, none⟩ = some u3 := by
  refine ⟨set_off (set_off (set_off (set_at h0) (by decide)) (by decide)) (by decide), set_off (set_off (set_at (set_off h1 (by decide))) (by decide)) (by decide), set_off (set_at (set_off (set_off h2 (by decide)) (by decide))) (by decide), set_at (set_off (set_off (set_off h3 (by decide)) (by decide)) (by decide))⟩
theorem four_al {W : World} {b : Nat} {x0 x1 x2 x3 u0 u1 u2 u3 : Value} (o : Obj) (h0 : W.cell? ⟨b, 0, none⟩ = some x0) (h1 : W.cell? ⟨b, 1, none⟩ = some x1) (h2 : W.cell? ⟨b, 2, none⟩ = some x2) (h3 : W.cell? ⟨b, 3, none⟩ = some x3) :
    (((((W.setCell ⟨b, 0, none⟩ u0).setCell ⟨b, 1, none⟩ u1).setCell ⟨b, 2, none⟩ u2).setCell ⟨b, 3, none⟩ u3).alloc o).cell? ⟨b, 0, none⟩ = some u0 ∧
    (((((W.setCell ⟨b, 0, none⟩ u0).setCell ⟨b, 1, none⟩ u1).setCell ⟨b, 2, none⟩ u2).setCell ⟨b, 3, none⟩ u3).alloc o).cell? ⟨b, 1, none⟩ = some u1 ∧
    (((((W.setCell ⟨b, 0, none⟩ u0).setCell ⟨b, 1, none⟩ u1).setCell ⟨b, 2, none⟩ u2).setCell ⟨b, 3, none⟩ u3).alloc o).cell? ⟨b, 2, none⟩ = some u2 ∧
    (((((W.setCell ⟨b, 0, none⟩ u0).setCell ⟨b, 1, none⟩ u1).setCell ⟨b, 2, none⟩ u2).setCell ⟨b, 3, none⟩ u3).alloc o).cell? ⟨b, 3, none⟩ = some u3 := by
  obtain ⟨g0, g1, g2, g3⟩ := four_set (u0 := u0) (u1 := u1) (u2 := u2) (u3 := u3) h0 h1 h2 h3
  exact ⟨(World.cell?_alloc_lt _ _ ⟨b, 0, none⟩ (World.block_lt_of_cell? _ _ g0)).trans g0, (World.cell?_alloc_lt _ _ ⟨b, 1, none⟩ (World.block_lt_of_cell? _ _ g1)).trans g1, (World.cell?_alloc_lt _ _ ⟨b, 2, none⟩ (World.block_lt_of_cell? _ _ g2)).trans g2, (World.cell?_alloc_lt _ _ ⟨b, 3, none⟩ (World.block_lt_of_cell? _ _ g3)).trans g3⟩
set_option maxHeartbeats 4000000 in
set_option maxRecDepth 100000 in
theorem auRead (l : List UInt8) (w : World) (hl : l.length < 4294967281) (hm : MaxL w) : Calls Tryd.prog 32 #[.string ⟨l.toArray⟩] w fun e w' => e = .returned (enV (Bur.enK l)) ∧ Below w.heap.size w w' := by
  have hb0 := below_al (below_self w) (.cells #[.int .i64 0, .string ⟨#[]⟩, .int .i64 0, .int .i64 0] 79)
  have KN := plReadNet l (w.alloc (.cells #[.int .i64 0, .string ⟨#[]⟩, .int .i64 0, .int .i64 0] 79))
  have KP : ∀ W, Below w.heap.size w W → _ := fun W hb => plReadPrefix l W hl (hm.step hb)
  have KA : ∀ W, Below w.heap.size w W → _ := fun W hb => plReadAddr l W hl (hm.step hb)
  have QF : ∀ W : World, Below (w.heap.size + 1) (w.alloc (.cells #[.int .i64 0, .string ⟨#[]⟩, .int .i64 0, .int .i64 0] 79)) W → W.cell? ⟨w.heap.size, 0, none⟩ = some (.int .i64 0) ∧ W.cell? ⟨w.heap.size, 1, none⟩ = some (.string ⟨#[]⟩) ∧ W.cell? ⟨w.heap.size, 2, none⟩ = some (.int .i64 0) ∧ W.cell? ⟨w.heap.size, 3, none⟩ = some (.int .i64 0) ∧ W.frozen? ⟨w.heap.size, 0, none⟩ = false ∧ W.frozen? ⟨w.heap.size, 1, none⟩ = false ∧ W.frozen? ⟨w.heap.size, 2, none⟩ = false ∧ W.frozen? ⟨w.heap.size, 3, none⟩ = false := fun W hb =>
    ⟨(hb.cell (p := ⟨w.heap.size, 0, none⟩) (by simp)).trans (by simp), (hb.cell (p := ⟨w.heap.size, 1, none⟩) (by simp)).trans (by simp), (hb.cell (p := ⟨w.heap.size, 2, none⟩) (by simp)).trans (by simp), (hb.cell (p := ⟨w.heap.size, 3, none⟩) (by simp)).trans (by simp),
     (hb.frozen (p := ⟨w.heap.size, 0, none⟩) (by simp)).trans (by simp), (hb.frozen (p := ⟨w.heap.size, 1, none⟩) (by simp)).trans (by simp), (hb.frozen (p := ⟨w.heap.size, 2, none⟩) (by simp)).trans (by simp), (hb.frozen (p := ⟨w.heap.size, 3, none⟩) (by simp)).trans (by simp)⟩
  have FH : Hid _ := QF
  have fin : ∀ {W : World} (a b c d : Value), Below w.heap.size w W → Below w.heap.size w ((((W.setCell ⟨w.heap.size, 0, none⟩ a).setCell ⟨w.heap.size, 1, none⟩ b).setCell ⟨w.heap.size, 2, none⟩ c).setCell ⟨w.heap.size, 3, none⟩ d) := fun a b c d h => (((h.setCell (Nat.le_refl _) _).setCell (Nat.le_refl _) _).setCell (Nat.le_refl _) _).setCell (Nat.le_refl _) _
  clear QF
  unfold Bur.enK
  cases hn : Bur.nkB l with
  | true =>
    rw [hn] at KN
    rw [if_pos rfl]
    have KN' : Calls Tryd.prog 42 #[.string ⟨l.toArray⟩] _ fun e w' => e = .returned (.tuple #[.string ⟨(l.drop 2).toArray⟩, .nilIface]) ∧ Below _ _ w' := KN
    generalize l.drop 2 = r at KN' ⊢
    clear KN hn
    go_enter Tryd.func32, Tryd.ntmps32
    go_wp2_with (go_at_call 42; refine KN'.mono ?_; rintro e w1 ⟨rfl, hb1⟩; obtain ⟨q0, q1, q2, q3, f0, f1, f2, f3⟩ := FH.out _ (by simpa using hb1); have hbw := below_via hb0 hb1; have glw : w.heap.size < w1.heap.size := by have := hb1.size; simp at this; omega)
    exact bodyPost_ret (v := enV (some (1, r, (0, 0)))) (by simp [results, Tryd.results32, go_sem, enV, enA, enE, four_set q0 q1 q2 q3]) rfl ⟨rfl, fin _ _ _ _ hbw⟩
  | false =>
    rw [hn] at KN
    rw [if_neg (by decide)]
    have KN' : Calls Tryd.prog 42 #[.string ⟨l.toArray⟩] _ fun e w' => e = .returned (.tuple #[.string ⟨#[]⟩, errN 5]) ∧ Below _ _ w' := KN
    clear KN hn
    cases hp : Bur.pkR l with
    | some p =>
      rw [hp] at KP
      have KP' : ∀ W, Below w.heap.size w W → Calls Tryd.prog 43 #[.string ⟨l.toArray⟩] W fun e w' => e = .returned (.tuple #[.string ⟨(Bur.pkN l).toArray⟩, pfx p.1 p.2, .nilIface]) ∧ Below W.heap.size W w' := KP
      generalize Bur.pkN l = n at KP' ⊢
      clear KP KA hp hm
      go_enter Tryd.func32, Tryd.ntmps32
      go_wp2_with (first
        | (go_at_call 42; refine KN'.mono ?_; rintro e w1 ⟨rfl, hb1⟩; have hbw := below_via hb0 hb1)
        | (go_at_call 43; refine (KP' _ hbw).mono ?_; rintro e w2 ⟨rfl, hb2⟩; obtain ⟨q0, q1, q2, q3, f0, f1, f2, f3⟩ := FH.out _ (by simpa using below_via hb1 hb2); have hbz := below_via hbw hb2; have glw : w.heap.size < w2.heap.size := by have := (below_via hb1 hb2).size; simp at this; omega))
      exact bodyPost_ret (v := enV (some (2, n, p))) (by simp [results, Tryd.results32, go_sem, enV, enA, enE, four_al _ q0 q1 q2 q3]) rfl ⟨rfl, below_al (fin _ _ _ _ hbz) _⟩
    | none =>
      rw [hp] at KP
      have KP' : ∀ W, Below w.heap.size w W → Calls Tryd.prog 43 #[.string ⟨l.toArray⟩] W fun e w' => e = .returned (.tuple #[.string ⟨#[]⟩, pfx 0 0, errN 5]) ∧ Below W.heap.size W w' := KP
      clear KP hp
      cases ha : Bur.raK l with
      | none =>
        rw [ha] at KA
        have KA' : ∀ W, Below w.heap.size w W → Calls Tryd.prog 44 #[.string ⟨l.toArray⟩] W fun e w' => e = .returned (.tuple #[.string ⟨#[]⟩, .int .i64 0, errN 5]) ∧ Below W.heap.size W w' := KA
        clear KA ha hm
        go_enter Tryd.func32, Tryd.ntmps32
        go_wp2_with (first
          | (go_at_call 42; refine KN'.mono ?_; rintro e w1 ⟨rfl, hb1⟩; have hbw := below_via hb0 hb1)
          | (go_at_call 43; refine (KP' _ hbw).mono ?_; rintro e w2 ⟨rfl, hb2⟩; have hb12 := below_al (below_via hb1 hb2) (.cells #[.int .i64 0, .int .i64 0] 24); have hbz := below_al (below_via hbw hb2) (.cells #[.int .i64 0, .int .i64 0] 24))
          | (go_at_call 44; refine (KA' _ hbz).mono ?_; rintro e w3 ⟨rfl, hb3⟩; obtain ⟨q0, q1, q2, q3, f0, f1, f2, f3⟩ := FH.out _ (by simpa using below_via hb12 hb3); have hby := below_via hbz hb3; have glw : w.heap.size < w3.heap.size := by have := (below_via hb12 hb3).size; simp at this; omega))
        exact bodyPost_ret (v := enV none) (by simp [results, Tryd.results32, go_sem, enV, enA, enE, four_set q0 q1 q2 q3]) rfl ⟨rfl, fin _ _ _ _ hby⟩
      | some a =>
        rw [ha] at KA
        have KA' : ∀ W, Below w.heap.size w W → Calls Tryd.prog 44 #[.string ⟨l.toArray⟩] W fun e w' => e = .returned (.tuple #[.string ⟨(Bur.pkN l).toArray⟩, .int .i64 a, .nilIface]) ∧ Below W.heap.size W w' := KA
        have KB := fun W => both_ok a W (Bur.raK_isA ha)
        generalize Bur.pkN l = n at KA' ⊢
        clear KA ha hm
        go_enter Tryd.func32, Tryd.ntmps32
        go_wp2_with (first
          | (go_at_call 42; refine KN'.mono ?_; rintro e w1 ⟨rfl, hb1⟩; have hbw := below_via hb0 hb1)
          | (go_at_call 43; refine (KP' _ hbw).mono ?_; rintro e w2 ⟨rfl, hb2⟩; have hb12 := below_al (below_via hb1 hb2) (.cells #[.int .i64 0, .int .i64 0] 24); have hbz := below_al (below_via hbw hb2) (.cells #[.int .i64 0, .int .i64 0] 24))
          | (go_at_call 44; refine (KA' _ hbz).mono ?_; rintro e w3 ⟨rfl, hb3⟩)
          | (go_at_call 45; refine (KB _).mono ?_; rintro e w4 ⟨rfl, hb4⟩; have hb14 := below_via (below_via hb12 hb3) hb4; obtain ⟨q0, q1, q2, q3, f0, f1, f2, f3⟩ := FH.out _ (by simpa using hb14); have hbx := below_via (below_via hbz hb3) hb4; have glw : w.heap.size < w4.heap.size := by have := hb14.size; simp at this; omega))
        exact bodyPost_ret (v := enV (some (3, n, (a, 32)))) (by simp [results, Tryd.results32, go_sem, enV, enA, enE, four_al _ q0 q1 q2 q3]) rfl ⟨rfl, below_al (fin _ _ _ _ hbx) _⟩
end Go.Proofs.YtdjiodikefoliaaDoor.Au
