/- The contracts of the reader of bytes in package code: text, number, end. -/
import Derived.Test.YteipfdjpndhgkaaGreatDoorCMC
import Derived.WalkLawsBesides
namespace Go.Proofs.YteipfdjpndhgkaaGreatDoor
open Go.RowKit Go.Lib

/-- What is thrown where bytes are none. -/
abbrev haltV : Value := .iface 217 (.agg #[])
abbrev haltC : List PanicEntry := [{ v := haltV, recovered := false }]
/-- A reader in block rb, and the bytes that it has still to read: they lie in an elder block. -/
structure Rd (w : World) (rb : Nat) (r : List UInt8) : Prop where
  lt : rb < w.heap.size
  fz : w.frozen? ⟨rb, 0, none⟩ = false
  at_ : ∃ (q : Option Addr) (c : Nat), w.cell? ⟨rb, 0, none⟩ = some (.slice q r.length c) ∧ r.length ≤ c ∧ (0 < r.length → ∃ b off, q = some ⟨b, off, none⟩ ∧ b < rb ∧ ByC w b off r)
theorem Rd.but {w w' : World} {rb : Nat} {r : List UInt8} {F : Nat → Prop} (h : Rd w rb r) (hb : But F w w') (hF : ∀ k, k ≤ rb → ¬ F k) : Rd w' rb r := by
  obtain ⟨q, c, h1, h2, h3⟩ := h.at_
  refine ⟨Nat.lt_of_lt_of_le h.lt hb.size, (hb.frozen (p := ⟨rb, 0, none⟩) h.lt (hF _ (Nat.le_refl _))).trans h.fz, q, c, (hb.cell (p := ⟨rb, 0, none⟩) h.lt (hF _ (Nat.le_refl _))).trans h1, h2, fun hl => ?_⟩
  obtain ⟨b, off, rfl, hlt, hc⟩ := h3 hl
  exact ⟨b, off, rfl, hlt, fun i x hx => (hb.cell (p := ⟨b, off + i, none⟩) (Nat.lt_trans hlt h.lt) (hF _ (Nat.le_of_lt hlt))).trans (hc i x hx)⟩
theorem Rd.step {w w' : World} {rb : Nat} {r : List UInt8} (h : Rd w rb r) (hb : Below w.heap.size w w') : Rd w' rb r := h.but (F := fun _ => False) (.below hb) (fun _ _ => id)
theorem rd_set {w : World} {rb : Nat} {r : List UInt8} {n c c' : Nat} {q q' : Option Addr} (hlt : rb < w.heap.size) (hfz : w.frozen? ⟨rb, 0, none⟩ = false) (h1 : w.cell? ⟨rb, 0, none⟩ = some (.slice q r.length c))
    (h3 : 0 < r.length → ∃ b off, q = some ⟨b, off, none⟩ ∧ b < rb ∧ ByC w b off r) (hc : r.length - n ≤ c') (hq : ∀ b off, q = some ⟨b, off, none⟩ → n < r.length → q' = some ⟨b, off + n, none⟩) :
    Rd (w.setCell ⟨rb, 0, none⟩ (.slice q' (r.length - n) c')) rb (r.drop n) := by
  refine ⟨by simpa [World.setCell] using hlt, by simpa using hfz, q', c', ?_, by simpa using hc, fun hl => ?_⟩
  · rw [World.cell?_setCell_same _ _ _ h1]; simp
  · have hlt : n < r.length := by simp at hl; omega
    obtain ⟨b, off, e, hb, hC⟩ := h3 (by omega)
    refine ⟨b, off + n, hq b off e hlt, hb, fun i x hx => ?_⟩
    rw [World.cell?_setCell_other _ _ _ _ (by intro e; have := congrArg Addr.block e; simp at this; omega), Nat.add_assoc]
    exact hC (n + i) x (by rw [← hx, List.getElem?_drop])

theorem text_no (n : Nat) (r : List UInt8) (rb : Nat) (w : World) (h : Rd w rb r) (hn : r.length < n) :
    Calls Tryz.prog 187 #[.pointer (some ⟨rb, 0, none⟩), .int .i64 n] w fun e w' => e = .panicked haltC ∧ w' = w := by
  obtain ⟨hlt, hfz, q, c, h1, h2, h3⟩ := h
  have hn' : decide ((r.length : Int) < (n : Int)) = true := by simp; omega
  go_enter Tryz.func187, Tryz.ntmps187
  go_wp2
  exact ⟨rfl, rfl, rfl⟩
set_option maxRecDepth 20000 in
theorem text_ok (n : Nat) (r : List UInt8) (rb : Nat) (w : World) (h : Rd w rb r) (hn : n ≤ r.length) :
    Calls Tryz.prog 187 #[.pointer (some ⟨rb, 0, none⟩), .int .i64 n] w fun e w' => e = .returned (.string (Vs.mkB (r.take n))) ∧ Rd w' rb (r.drop n) ∧ But (· = rb) w w' := by
  obtain ⟨hlt, hfz, q, c, h1, h2, h3⟩ := h
  have hn' : decide ((r.length : Int) < (n : Int)) = false := by simp; omega
  by_cases h0 : 0 < r.length
  · obtain ⟨b, off, rfl, hb, hC⟩ := h3 h0
    have cv := byCv hC 0 n c (by omega)
    rw [Nat.add_zero, Vs.cutB, List.drop_zero] at cv
    by_cases h7 : c ≤ n
    · go_enter Tryz.func187, Tryz.ntmps187
      go_wp2
      go_ret
      exact ⟨rfl, rd_set hlt hfz h1 h3 (by omega) (fun b' o' e hl => by first | (cases e; rfl) | omega), (But.refl (· = rb) w).setCell (p := ⟨rb, 0, none⟩) (.inl rfl) _⟩
    · go_enter Tryz.func187, Tryz.ntmps187
      go_wp2
      go_ret
      exact ⟨rfl, rd_set hlt hfz h1 h3 (by omega) (fun b' o' e hl => by first | (cases e; rfl) | omega), (But.refl (· = rb) w).setCell (p := ⟨rb, 0, none⟩) (.inl rfl) _⟩
  · have hr : r = [] := List.eq_nil_of_length_eq_zero (by omega)
    subst hr
    have hn0 : n = 0 := by simpa using hn
    subst hn0
    have cv := byStr (w := w) (q := q) (l := []) c (fun h => by simp at h)
    simp only [List.length_nil] at cv h1
    have hE : Rd (w.setCell ⟨rb, 0, none⟩ (.slice q 0 c)) rb [] := rd_set (n := 0) (r := []) hlt hfz h1 h3 (by simp) (fun b' o' e hl => by simp at hl)
    by_cases hc0 : c ≤ 0
    · have hc1 : c = 0 := by omega
      subst hc1
      cases q <;>
      · go_enter Tryz.func187, Tryz.ntmps187
        go_wp2
        go_ret
        exact ⟨rfl, hE, (But.refl (· = rb) w).setCell (p := ⟨rb, 0, none⟩) (.inl rfl) _⟩
    · cases q <;>
      · go_enter Tryz.func187, Tryz.ntmps187
        go_wp2
        go_ret
        exact ⟨rfl, hE, (But.refl (· = rb) w).setCell (p := ⟨rb, 0, none⟩) (.inl rfl) _⟩

theorem number_no (rb : Nat) (w : World) (h : Rd w rb []) :
    Calls Tryz.prog 168 #[.pointer (some ⟨rb, 0, none⟩)] w fun e w' => e = .panicked haltC ∧ w' = w := by
  have K := text_no 1 [] rb w h (by simp)
  go_enter Tryz.func168, Tryz.ntmps168
  go_wp2_with (go_at_call 187; refine K.mono ?_; rintro e w2 ⟨rfl, rfl⟩)
  exact ⟨rfl, rfl, rfl⟩
theorem number_ok (x : UInt8) (s : List UInt8) (rb : Nat) (w : World) (h : Rd w rb (x :: s)) :
    Calls Tryz.prog 168 #[.pointer (some ⟨rb, 0, none⟩)] w fun e w' => e = .returned (.int .i64 x.toNat) ∧ Rd w' rb s ∧ But (· = rb) w w' := by
  have K := text_ok 1 (x :: s) rb w h (by simp)
  have hx : x.toNat < 256 := x.toNat_lt
  have hM : Vs.mkB (List.take 1 (x :: s)) = ⟨#[x]⟩ := rfl
  rw [hM] at K
  go_enter Tryz.func168, Tryz.ntmps168
  go_wp2_with (go_at_call 187; refine K.mono ?_; rintro e w2 ⟨rfl, h2, hb2⟩)
  go_ret
  exact ⟨by show Ending.returned (.int .i64 (wrap64 (x.toNat : Int))) = _; rw [show wrap64 (x.toNat : Int) = x.toNat from by unfold wrap64; omega], h2, hb2⟩
theorem end_ok {rb c : Nat} {q : Option Addr} {w : World} (h1 : w.cell? ⟨rb, 0, none⟩ = some (.slice q 0 c)) :
    Calls Tryz.prog 137 #[.pointer (some ⟨rb, 0, none⟩)] w fun e w' => e = .returned (.tuple #[]) ∧ w' = w := by
  go_enter Tryz.func137, Tryz.ntmps137
  go_wp2
  go_end0
  exact ⟨rfl, rfl⟩
theorem end_no {rb c n : Nat} {q : Option Addr} {w : World} (h1 : w.cell? ⟨rb, 0, none⟩ = some (.slice q n c)) (hn : 0 < n) :
    Calls Tryz.prog 137 #[.pointer (some ⟨rb, 0, none⟩)] w fun e w' => e = .panicked haltC ∧ w' = w := by
  have hn' : decide ((0 : Int) < (n : Int)) = true := by simp; omega
  go_enter Tryz.func137, Tryz.ntmps137
  go_wp2
  exact ⟨rfl, rfl, rfl⟩
end Go.Proofs.YteipfdjpndhgkaaGreatDoor
