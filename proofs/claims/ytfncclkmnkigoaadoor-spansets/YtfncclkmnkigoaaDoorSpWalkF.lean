/- The contracts of Make, Has, combine, Union, Meet and Minus. -/
import Derived.Test.YtfncclkmnkigoaaDoorSpWalkC
import Derived.Test.YtfncclkmnkigoaaDoorSpWalkE
namespace Bur
def mkS (l : List Sp) : List Sp := if mkF l = 0 then mk l else []
def twF (how : Int) (a b : List Sp) : Int := if setF a = 0 then (if setF b = 0 then (if 64 < (two how a b).length then 3 else 0) else setF b) else setF a
def twS (how : Int) (a b : List Sp) : List Sp := if twF how a b = 0 then two how a b else []
def haF (l : List Sp) (x : Int) : Int := if setF l = 0 then (if isA x = true then 0 else 1) else setF l
def haB (l : List Sp) (x : Int) : Bool := decide (haF l x = 0) && mem l x
end Bur
namespace Go.Proofs.YtfncclkmnkigoaaDoor
open Go.RowKit

theorem anF_at {l : List Bur.Sp} {k : Nat} (hk : k < l.length) : Bur.anF (l.drop k) = if Bur.spF (lo l k) (hi l k) = 0 then Bur.anF (l.drop (k + 1)) else Bur.spF (lo l k) (hi l k) := by
  rw [drop_sp hk]; rfl
theorem cat1 (p : Option Addr) (c : Nat) (l : List Bur.Sp) : cat [(p, c, l)] = l := by simp [cat]
theorem cat2 (p : Option Addr) (c : Nat) (l : List Bur.Sp) (q : Option Addr) (d : Nat) (m : List Bur.Sp) : cat [(p, c, l), (q, d, m)] = l ++ m := by simp [cat]

set_option maxHeartbeats 8000000 in
theorem make (p : Option Addr) (cap : Nat) (l : List Bur.Sp) (w : World) (hl : l.length ≤ 9223372036854775807) (hs : SpAt w p l) : Calls Tryd.prog 8 #[.slice p l.length cap] w fun e w' => ∃ (q : Option Addr) (cp : Nat), e = .returned (.tuple #[.slice q (Bur.mkS l).length cp, ev (Bur.mkF l)]) ∧ SpAt w' q (Bur.mkS l) ∧ Below w.heap.size w w' := by
  by_cases h64 : 64 < l.length
  · have E : Bur.mkF l = 3 := if_pos h64
    have E2 : Bur.mkS l = [] := if_neg (by rw [E]; decide)
    rw [E, E2]
    go_enter Tryd.func8, Tryd.ntmps8
    go_wp2
    go_ret2
    exact ⟨none, 0, rfl, SpAt.nil _ _, below_self _⟩
  have E : Hid (Bur.mkF l = Bur.anF l) := if_neg h64
  go_enter Tryd.func8, Tryd.ntmps8
  go_wp2
  go_loopw [13] (fun i wr => ∃ k : Nat, k ≤ l.length ∧ i = .int .i64 k ∧ Hid (Bur.anF l = Bur.anF (l.drop k)) ∧ Below w.heap.size w wr) (fun i _ => l.length - (intOf i).toNat)
  case atStart => exact ⟨0, by omega, rfl, rfl, below_self _⟩
  case round =>
    obtain ⟨k, hk, rfl, R, hb⟩ := hrel
    by_cases hlt : k < l.length
    · have hlt' : (k : Int) < (l.length : Int) := by omega
      obtain ⟨b, off, rfl, hbl, hc⟩ := hs (by omega)
      have hcb := bcell hb
      have c0 : wr.cell? ⟨b, off + k * 2, none⟩ = some (.int .i64 (lo l k)) := (hcb.1 _ _ hbl).trans (hc k hlt).1
      have c1 : wr.cell? ⟨b, off + k * 2 + 1, none⟩ = some (.int .i64 (hi l k)) := (hcb.1 _ _ hbl).trans (hc k hlt).2
      have S : Hid _ := anF_at (l := l) hlt
      by_cases hf : Bur.spF (lo l k) (hi l k) = 0
      · have hev : Hid (ev (Bur.spF (lo l k) (hi l k)) = .nilIface) := by show _ = _; rw [hf]; rfl
        have S2 : Hid (Bur.anF l = Bur.anF (l.drop (k + 1))) := by
          show _ = _
          rw [R.out, S.out, if_pos hf]
        clear S hf hc hcb hs R
        go_wp2_with (go_at_call 31; refine (checkSpan _ _ _).mono ?_; rintro e w1 ⟨rfl, hb1⟩; rw [hev.out]; have hb2 : Below w.heap.size w w1 := below_via (below_al hb _) hb1; clear hb1)
        exact ⟨⟨k + 1, by omega, by go_num, S2, hb2⟩, by simp [intOf]; omega⟩
      · have hev : Hid (ev (Bur.spF (lo l k) (hi l k)) = errN (Bur.spF (lo l k) (hi l k))) := if_neg hf
        have S2 : Hid (Bur.anF l = Bur.spF (lo l k) (hi l k)) := by
          show _ = _
          rw [R.out, S.out, if_neg hf]
        have S3 : Hid (¬ Bur.anF l = 0) := by show ¬ _; rw [S2.out]; exact hf
        clear S hc hcb hs R hf
        go_wp2_with (go_at_call 31; refine (checkSpan _ _ _).mono ?_; rintro e w1 ⟨rfl, hb1⟩; rw [hev.out]; have hb2 : Below w.heap.size w w1 := below_via (below_al hb _) hb1; clear hb1)
        go_ret2
        rw [show Bur.mkS l = [] from if_neg (by rw [E.out]; exact S3.out)]
        exact ⟨none, 0, by rw [E.out, S2.out, hev.out]; rfl, SpAt.nil _ _, hb2⟩
    · have S2 : Hid (Bur.anF l = 0) := by
        show _ = _
        rw [R.out, List.drop_eq_nil_of_le (by omega)]; rfl
      have hA := Bur.anF_ok S2.out
      have hs1 := hs.step hb
      have hL : LsAt (wr.alloc (.cells #[.slice p l.length cap] 22)) wr.heap.size [(p, cap, l)] := ⟨by simp, fun j x hx => by
        match j, hx with
        | 0, hx => simp at hx; subst hx; exact ⟨by simp [slV], hs1.alloc _, by show l.length ≤ 64; omega⟩⟩
      have hb1 : Below w.heap.size w (wr.alloc (.cells #[.slice p l.length cap] 22)) := below_al hb _
      have hs2 := hs1.alloc (.cells #[.slice p l.length cap] 22)
      clear R hs hs1 hb
      go_wp2_with fail
      generalize wr.alloc (.cells #[.slice p l.length cap] 22) = W1 at *
      refine (edges wr.heap.size 1 [(p, cap, l)] W1 (by simp) hL (by rw [cat1]; exact hA)).mono ?_
      rintro e w2 ⟨q2, cap2, rfl, hq2, hb2⟩
      rw [cat1] at hq2
      rw [cat1]
      have hs3 := hs2.step hb2
      have hb3 := below_via hb1 hb2
      clear hL hb1 hb2 hs2
      go_wp2_with fail
      refine (asker p cap l w2 hl hs3).mono ?_
      rintro e w3 ⟨c, rfl, hask, hb4⟩
      have hq3 := hq2.step hb4
      have hb5 := below_via hb3 hb4
      clear hb3 hb4 hq2 hs3
      go_wp2_with fail
      refine (gather1 (Bur.mem l) q2 cap2 (Bur.srt (Bur.edg l)) c w3 (by rw [Bur.srt_len, Bur.edg_len]; omega) hq3 (fun z hz => Bur.edg_pos hA z ((Bur.mem_srt _ _).1 hz)) (fun x w1 h1 => askOne l x c w1 (hask.step h1))).mono ?_
      rintro e w4 ⟨q4, cap4, rfl, hq4, hb6⟩
      go_wp2_with fail
      go_ret2
      rw [show Bur.mkS l = Bur.mk l from if_pos (by rw [E.out]; exact S2.out)]
      exact ⟨q4, cap4, by rw [E.out, S2.out]; rfl, hq4, below_via hb5 hb6⟩

set_option maxHeartbeats 4000000 in
theorem has (p : Option Addr) (cap : Nat) (l : List Bur.Sp) (x : Int) (w : World) (hl : l.length ≤ 9223372036854775807) (hs : SpAt w p l) : Calls Tryd.prog 15 #[.slice p l.length cap, .int .i64 x] w fun e w' => e = .returned (.tuple #[.bool (Bur.haB l x), ev (Bur.haF l x)]) ∧ Below w.heap.size w w' := by
  by_cases h0 : Bur.setF l = 0
  · have hev : Hid (ev (Bur.setF l) = .nilIface) := by show _ = _; rw [h0]; rfl
    cases hx : Bur.isA x
    · have E : Bur.haF l x = 1 := by simp [Bur.haF, h0, hx]
      have E2 : Bur.haB l x = false := by simp [Bur.haB, E]
      rw [E, E2]
      clear h0 E E2
      go_enter Tryd.func15, Tryd.ntmps15
      go_wp2_with (first | (go_at_call 12; refine (check p cap l _ hl hs).mono ?_; rintro e w1 ⟨rfl, hb1⟩; rw [hev.out]) | (go_at_call 36; refine (isAddress _ _).mono ?_; rintro e w2 ⟨rfl, h2⟩; replace h2 := h2.symm; subst h2))
      go_ret2
      exact ⟨rfl, hb1⟩
    · have E : Bur.haF l x = 0 := by simp [Bur.haF, h0, hx]
      have E2 : Bur.haB l x = Bur.mem l x := by simp [Bur.haB, E]
      rw [E, E2]
      clear h0 E E2
      go_enter Tryd.func15, Tryd.ntmps15
      go_wp2_with (first | (go_at_call 12; refine (check p cap l _ hl hs).mono ?_; rintro e w1 ⟨rfl, hb1⟩; rw [hev.out]; have hs1 := hs.step hb1) | (go_at_call 36; refine (isAddress _ _).mono ?_; rintro e w2 ⟨rfl, h2⟩; replace h2 := h2.symm; subst h2) | (go_at_call 34; refine (asker p cap l _ hl hs1).mono ?_; rintro e w3 ⟨c, rfl, hask, hb3⟩) | (go_at_call 50; refine (askOne l x c _ hask).mono ?_; rintro e w4 ⟨rfl, hb4⟩))
      go_ret2
      exact ⟨rfl, below_via (below_via hb1 hb3) hb4⟩
  · have E : Bur.haF l x = Bur.setF l := if_neg h0
    have E2 : Bur.haB l x = false := by simp [Bur.haB, E, h0]
    have hev : Hid (ev (Bur.setF l) = errN (Bur.setF l)) := if_neg h0
    rw [E, E2]
    go_enter Tryd.func15, Tryd.ntmps15
    go_wp2_with (go_at_call 12; refine (check p cap l _ hl hs).mono ?_; rintro e w1 ⟨rfl, hb1⟩; rw [hev.out])
    go_ret2
    exact ⟨by rw [hev.out]; rfl, hb1⟩
end Go.Proofs.YtfncclkmnkigoaaDoor
