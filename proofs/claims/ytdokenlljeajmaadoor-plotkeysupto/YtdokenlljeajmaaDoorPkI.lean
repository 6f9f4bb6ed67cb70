/- The contracts of package plot's cut and ReadPrefix. -/
import Derived.Test.YtdokenlljeajmaaDoorPkH
namespace Bur
theorem hasP (c : UInt8) : ∀ l : List UInt8, Go.Lib.hasPrefix l [c, 47] = decide (l.take 2 = [c, 47])
  | [] => by simp [Go.Lib.hasPrefix]
  | [a] => by
    rw [Bool.eq_iff_iff]
    simp [Go.Lib.hasPrefix]
  | a :: b :: r => by
    rw [Bool.eq_iff_iff]
    simp only [Go.Lib.hasPrefix, List.isPrefixOf, Bool.and_true, Bool.and_eq_true, beq_iff_eq, decide_eq_true_eq, List.take_succ_cons, List.take_zero, List.cons.injEq, and_true]
    exact ⟨fun h => ⟨h.1.symm, h.2.symm⟩, fun h => ⟨h.1.symm, h.2.symm⟩⟩
end Bur
namespace Go.Proofs.YtdokenlljeajmaaDoor
open Go.RowKit

/-- What internal/bytealg.MaxLen holds: some number. -/
def MaxL (w : World) : Prop := ∃ m : Int, w.cell? ⟨1, 0, none⟩ = some (.int .i64 m)
theorem MaxL.step {w w' : World} (h : MaxL w) (hb : Below w.heap.size w w') : MaxL w' := by
  obtain ⟨m, h⟩ := h
  exact ⟨m, (hb.cell (p := ⟨1, 0, none⟩) (World.block_lt_of_cell? _ _ h)).trans h⟩
theorem cutAt (l : List UInt8) (c : UInt8) (w : World) (hl : l.length < 4294967281) (hm : MaxL w) :
    Calls Tryd.prog 32 #[.string ⟨l.toArray⟩, .string ⟨#[c]⟩] w fun e w' => e = .returned (.tuple #[.string ⟨(Bur.cutc c l).1.toArray⟩, .string ⟨(Bur.cutc c l).2.1.toArray⟩, .bool (Bur.cutc c l).2.2]) ∧ ∃ n, w' = w.drewN n := by
  obtain ⟨m, hm⟩ := hm
  have := Tryd.strings_Cut ⟨l.toArray⟩ ⟨#[c]⟩ m w (by simpa [ByteArray.size] using hl) hm
  have e : Lib.cut (ByteArray.mk l.toArray).data.toList (ByteArray.mk #[c]).data.toList = Bur.cutc c l := Bur.cut_eq c l
  rw [e] at this
  exact this
theorem cutPre (l : List UInt8) (c : UInt8) (w : World) : Calls Tryd.prog 31 #[.string ⟨l.toArray⟩, .string ⟨#[c, 47]⟩] w fun e w' => e = .returned (.tuple #[.string ⟨(if l.take 2 = [c, 47] then l.drop 2 else l).toArray⟩, .bool (decide (l.take 2 = [c, 47]))]) ∧ w' = w := by
  have := Tryd.strings_CutPrefix ⟨l.toArray⟩ ⟨#[c, 47]⟩ w
  have e1 : Lib.hasPrefix (ByteArray.mk l.toArray).data.toList (ByteArray.mk #[c, 47]).data.toList = decide (l.take 2 = [c, 47]) := Bur.hasP c l
  rw [Lib.trimPrefix, e1] at this
  simpa using this
set_option maxHeartbeats 2000000 in
set_option maxRecDepth 100000 in
theorem plCut (c : UInt8) (l : List UInt8) (w : World) (hl : l.length < 4294967281) (hm : MaxL w) : Calls Tryd.prog 21 #[.string ⟨#[c, 47]⟩, .string ⟨l.toArray⟩] w fun e w' => (∃ x y : List UInt8, e = .returned (.tuple #[.string ⟨x.toArray⟩, .string ⟨y.toArray⟩, .bool (Bur.kcB c l)]) ∧ (Bur.kcB c l = true → x = Bur.pkN l ∧ y = Bur.pkD l)) ∧ Below w.heap.size w w' := by
  have hP := fun W => cutPre l c W
  by_cases h2 : l.take 2 = [c, 47]
  · rw [decide_eq_true h2, if_pos h2] at hP
    have hC := fun W hm => cutAt (l.drop 2) 47 W (by rw [List.length_drop]; omega) hm
    have hlen := (Bur.cutc_len 47 (l.drop 2)).1
    have hN := fun W => plName ⟨(Bur.cutc 47 (l.drop 2)).1.toArray⟩ W
    have hkc : Bur.kcB c l = ((Bur.cutc 47 (l.drop 2)).2.2 && Bur.isN (Bur.cutc 47 (l.drop 2)).1) := by
      unfold Bur.kcB
      rw [decide_eq_true h2, Bool.true_and]; rfl
    have hN1 : Bur.pkN l = (Bur.cutc 47 (l.drop 2)).1 := rfl
    have hN2 : Bur.pkD l = (Bur.cutc 47 (l.drop 2)).2.1 := rfl
    rw [hkc, hN1, hN2]
    clear hkc hN1 hN2 hlen
    generalize l.drop 2 = r at *
    generalize Bur.cutc 47 r = q at *
    obtain ⟨n, d, ok⟩ := q
    simp only at hC hN ⊢
    cases ok with
    | false =>
      rw [Bool.false_and]
      go_enter Tryd.func21, Tryd.ntmps21
      go_wp2_with (first
        | (go_at_call 31; refine (hP _).mono ?_; rintro e w1 ⟨rfl, rfl⟩)
        | (go_at_call 32; refine (hC _ hm).mono ?_; rintro e w2 ⟨rfl, k, rfl⟩))
      go_quiet (fail)
      go_wp2
      go_ret3
      exact ⟨⟨n, d, rfl, fun h => by cases h⟩, below_drewN (below_drewN (below_self _) _) _⟩
    | true =>
      rw [Bool.true_and]
      have hN' : ∀ W : World, Calls Tryd.prog 6 #[.string ⟨n.toArray⟩] W fun e w' => e = .returned (ev (Bur.nmF n)) ∧ Below W.heap.size W w' := hN
      cases hn : Bur.isN n with
      | true =>
        rw [show Bur.nmF n = 0 from if_pos hn, ev_0] at hN'
        go_enter Tryd.func21, Tryd.ntmps21
        go_wp2_with (first
          | (go_at_call 31; refine (hP _).mono ?_; rintro e w1 ⟨rfl, rfl⟩)
          | (go_at_call 32; refine (hC _ hm).mono ?_; rintro e w2 ⟨rfl, k, rfl⟩))
        go_region_held3 (fun _ => True) (trivial) ((go_at_call 6; refine (hN' _).mono ?_; rintro e w3 ⟨rfl, hb3⟩))
        go_wp2
        go_ret3
        exact ⟨⟨n, d, rfl, fun _ => ⟨rfl, rfl⟩⟩, below_via (below_drewN (below_self _) _).drew hb3⟩
      | false =>
        rw [show Bur.nmF n = 5 from if_neg (by rw [hn]; decide), ev_ne (by decide)] at hN'
        go_enter Tryd.func21, Tryd.ntmps21
        go_wp2_with (first
          | (go_at_call 31; refine (hP _).mono ?_; rintro e w1 ⟨rfl, rfl⟩)
          | (go_at_call 32; refine (hC _ hm).mono ?_; rintro e w2 ⟨rfl, k, rfl⟩))
        go_region_held3 (fun _ => True) (trivial) ((go_at_call 6; refine (hN' _).mono ?_; rintro e w3 ⟨rfl, hb3⟩))
        go_wp2
        go_ret3
        exact ⟨⟨n, d, rfl, fun h => by cases h⟩, below_via (below_drewN (below_self _) _).drew hb3⟩
  · rw [decide_eq_false h2, if_neg h2] at hP
    have hkc : Bur.kcB c l = false := by unfold Bur.kcB; rw [decide_eq_false h2]; rfl
    rw [hkc]
    go_enter Tryd.func21, Tryd.ntmps21
    go_wp2_with (go_at_call 31; refine (hP _).mono ?_; rintro e w1 ⟨rfl, rfl⟩)
    go_ret3
    exact ⟨⟨[], [], rfl, fun h => by cases h⟩, below_self _⟩
end Go.Proofs.YtdokenlljeajmaaDoor
