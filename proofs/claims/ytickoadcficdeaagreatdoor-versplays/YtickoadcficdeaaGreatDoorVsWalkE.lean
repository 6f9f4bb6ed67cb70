/- The contracts of package vers' Get and Range. -/
import Derived.Test.YtickoadcficdeaaGreatDoorVsWalkD
namespace Go.Proofs.YtickoadcficdeaaGreatDoor
open Go.RowKit Go.Maps Vs

theorem atF_ne {a : Int} (h : ¬ atF a = 0) : atF a = 1 := by
  unfold atF at h ⊢
  by_cases c : a < 0 ∨ 1000000 < a
  · rw [if_pos c]
  · rw [if_neg c] at h; exact absurd rfl h
set_option maxHeartbeats 2000000 in
set_option maxRecDepth 100000 in
theorem get {F : Nat → Prop} {B : Nat} {l : List Ver} {top : Int} (k : ByteArray) (a : Int) (w : World) (hT : Tab w F B l top) (hO : OkT l top) (hl : l.length ≤ 1000) (hk : k.size ≤ maxLen) :
    Calls Tryz.prog 12 #[.pointer (some ⟨B, 0, none⟩), .string k, .int .i64 a] w fun e w' => e = .returned (.tuple #[.string (gtS l k a), ev (gtF l k a)]) ∧ Below w.heap.size w w' := by
  have hC := checkSight a
  by_cases h0 : atF a = 0
  · rw [show gtS l k a = (vget l k a).getD ByteArray.empty from if_pos h0, show gtF l k a = if (vget l k a).isSome = true then 0 else 4 from if_pos h0]
    rw [h0, ev_0] at hC
    obtain ⟨M, D, m0, hM⟩ := hT.mp
    obtain ⟨own2, _⟩ := hM.tight
    have hkey := keyStr hk
    obtain ⟨p, c, e1, _, _, hH⟩ := hM.got k
    have hlk := run_look 57 9 73 keyed Tryz.underlying57 (zeroHist w) M l.length D own2 (.string k) (kS k) hkey
    rw [e1] at hlk
    have hV := value p c (hs l k) a w (Nat.le_trans (len_hs l k) hl) (hs_up hO k) hH
    rw [← vget_hs hO] at hV
    clear own2 hkey e1 hH hM hT h0
    cases e : vget l k a with
    | none =>
      rw [e] at hV
      go_enter Tryz.func12, Tryz.ntmps12
      go_wp2_with (first
        | (go_at_call 24; refine (hC _).mono ?_; rintro e w2 ⟨rfl, rfl⟩)
        | (go_at_call 29; refine hV.mono ?_; rintro e w2 ⟨rfl, hb⟩))
      go_ret2
      exact ⟨rfl, hb⟩
    | some v =>
      rw [e] at hV
      go_enter Tryz.func12, Tryz.ntmps12
      go_wp2_with (first
        | (go_at_call 24; refine (hC _).mono ?_; rintro e w2 ⟨rfl, rfl⟩)
        | (go_at_call 29; refine hV.mono ?_; rintro e w2 ⟨rfl, hb⟩))
      go_ret2
      exact ⟨rfl, hb⟩
  · rw [show gtS l k a = ByteArray.empty from if_neg h0, show gtF l k a = 1 from if_neg h0]
    rw [atF_ne h0, ev_ne (by decide)] at hC
    clear h0
    go_enter Tryz.func12, Tryz.ntmps12
    go_wp2_with (go_at_call 24; refine (hC _).mono ?_; rintro e w2 ⟨rfl, rfl⟩)
    go_ret2
    exact ⟨rfl, below_self _⟩
end Go.Proofs.YtickoadcficdeaaGreatDoor
