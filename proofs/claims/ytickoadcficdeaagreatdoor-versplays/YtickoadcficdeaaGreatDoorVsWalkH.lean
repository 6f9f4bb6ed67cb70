/- The contracts of package vers' Collect and Touched. -/
import Derived.Test.YtickoadcficdeaaGreatDoorVsWalkG
import Derived.Test.YtickoadcficdeaaGreatDoorVsIter
import Derived.Test.YtickoadcficdeaaGreatDoorVsKz
namespace Go.Proofs.YtickoadcficdeaaGreatDoor
open Go.RowKit Go.Maps Vs

set_option maxHeartbeats 2000000 in
set_option maxRecDepth 100000 in
theorem touchedOne {F : Nat → Prop} {B : Nat} {l : List Ver} {top : Int} (lo : ByteArray) (a : Int) (w : World) (hT : Tab w F B l top) (hO : OkT l top) (hl : l.length ≤ 1000) (hk : lo.size < 9223372036854775807) (h0 : atF a = 0) :
    Calls Tryz.prog 19 #[.pointer (some ⟨B, 0, none⟩), .string lo, .string (kz lo), .int .i64 a] w fun e w' => e = .returned (.tuple #[.bool (vtch l lo (kz lo) a), .nilIface]) ∧ Below w.heap.size w w' := by
  have hC := checkSight a
  rw [h0, ev_0] at hC
  have ha : 0 ≤ a := by
    unfold atF at h0
    by_cases c : a < 0 ∨ 1000000 < a
    · rw [if_pos c] at h0; cases h0
    · omega
  have hV : vtch l lo (kz lo) a = decide (a < lsN (hs l lo)) := by
    have := vtch_hs hO lo (kz lo) a ha
    rw [Bool.eq_iff_iff, this, decide_eq_true_eq]
    constructor
    · rintro ⟨s, h1, h2⟩
      rw [(btw_kz lo s).1 h1] at h2; exact h2
    · intro h; exact ⟨lo, (btw_kz lo lo).2 rfl, h⟩
  rw [hV]
  obtain ⟨M, D, m0, hM⟩ := hT.mp
  obtain ⟨own2, _⟩ := hM.tight
  have hkey := keyStr (show lo.size ≤ maxLen by unfold maxLen; omega)
  obtain ⟨p, c, e1, _, _, hH⟩ := hM.got lo
  have hlk := run_look 57 9 73 keyed Tryz.underlying57 (zeroHist w) M l.length D own2 (.string lo) (kS lo) hkey
  rw [e1] at hlk
  have hL := last p c (hs l lo) w (Nat.le_trans (len_hs l lo) hl) hH
  generalize lsN (hs l lo) = N at hL ⊢
  rw [← kz_add]
  clear own2 hkey e1 hH hM hT h0 hV
  go_enter Tryz.func19, Tryz.ntmps19
  go_wp2_with (first
    | (go_at_call 24; refine (hC _).mono ?_; rintro e w2 ⟨rfl, rfl⟩)
    | (go_at_call 35; refine hL.mono ?_; rintro e w2 ⟨rfl, rfl⟩))
  go_ret2
  exact ⟨rfl, below_self _⟩
set_option maxHeartbeats 2000000 in
set_option maxRecDepth 100000 in
theorem touched {F : Nat → Prop} {B : Nat} {l : List Ver} {top : Int} (lo hi : ByteArray) (a : Int) (w : World) (hT : Tab w F B l top) (hO : OkT l top) (hl : l.length ≤ 1000) (hk : lo.size < 9223372036854775807) :
    Calls Tryz.prog 19 #[.pointer (some ⟨B, 0, none⟩), .string lo, .string hi, .int .i64 a] w fun e w' => e = .returned (.tuple #[.bool (tcS l lo hi a), ev (atF a)]) ∧ Below w.heap.size w w' := by
  have hC := checkSight a
  by_cases hz : hi = kz lo
  · subst hz
    by_cases h0 : atF a = 0
    · rw [show tcS l lo (kz lo) a = vtch l lo (kz lo) a from if_pos h0, h0, ev_0]
      exact touchedOne lo a w hT hO hl hk h0
    · rw [show tcS l lo (kz lo) a = false from if_neg h0, atF_ne h0, ev_ne (by decide)]
      rw [atF_ne h0, ev_ne (by decide)] at hC
      clear h0
      go_enter Tryz.func19, Tryz.ntmps19
      go_wp2_with (go_at_call 24; refine (hC _).mono ?_; rintro e w2 ⟨rfl, rfl⟩)
      go_ret2
      exact ⟨rfl, below_self _⟩
  have hzn : (hi.toList == (lo ++ ({ data := #[0] } : ByteArray)).toList) = false := by rw [kz_add, beq_str]; simpa using hz
  clear hz
  by_cases h0 : atF a = 0
  · have ha : 0 ≤ a := by
      unfold atF at h0
      by_cases c : a < 0 ∨ 1000000 < a
      · rw [if_pos c] at h0; cases h0
      · omega
    rw [show tcS l lo hi a = vtch l lo hi a from if_pos h0, h0, ev_0]
    rw [h0, ev_0] at hC
    obtain ⟨M, D, m0, hM⟩ := hT.mp
    obtain ⟨own2, _⟩ := hM.tight
    have hMs := hM.lt
    have hstart : Hid (∀ t, btw lo hi t = true → Maps.has D (kS t) = false → lsN (hs l t) ≤ a) := fun t _ h => by
      rw [hM.has] at h
      have : hs l t = [] := by simpa using h
      rw [this, lsN_nil]; omega
    have hvt : Hid _ := vtch_hs hO lo hi a ha
    generalize vtch l lo hi a = T at hvt ⊢
    clear hT h0
    go_enter Tryz.func19, Tryz.ntmps19
    go_wp2_with (first
      | (go_at_call 24; refine (hC _).mono ?_; rintro e w2 ⟨rfl, hw⟩; have := hw.symm; subst this)
      | (at_range; refine wpList_range_own _ rfl _ 57 rfl 9 73 keyed Tryz.underlying57 _ M l.length D rfl own2 ?_; intro w0 hrg0 hg0 hs0)
      | go_in)
    go_frame
    have hb0 : Below w.heap.size w w0 := ⟨hg0.os, hg0.tape, hg0.output, hg0.size, fun k hk => hg0.block k hk (by simp)⟩
    go_loopw [8] (fun _ wr => ∃ (left : Lit → Bool) (cnt : Nat), wr.ranges Tryz.prog 9 anyE M w.heap.size l.length D left cnt ∧ Hid (∀ t, btw lo hi t = true → left (kS t) = false → lsN (hs l t) ≤ a) ∧ Below w.heap.size w wr)
      (fun _ wr => wr.rangeLeft M w.heap.size)
    case atStart => exact ⟨_, _, hrg0, hstart, hb0⟩
    case round =>
      obtain ⟨left, cnt, hrg, hN, hb⟩ := hrel
      go_wp2_with (first
        | (at_next; refine wpList_next_str rfl _ rfl 9 Tryz.underlying9 M w.heap.size l.length D left cnt rfl hrg ?_ ?_)
        | go_in)
      · intro hc0 hl0
        have hE : Hid (T = false) := by
          show _ = _
          cases e : T
          · rfl
          · obtain ⟨t, h1, h2⟩ := hvt.out.1 e
            exact absurd h2 (Int.not_lt.2 (hN.out t h1 (hl0 _)))
        clear hN hstart hrg hrg0 hvt
        go_wp2
        go_ret2
        exact ⟨by rw [hE.out]; rfl, hb⟩
      · intro s v w1 cnt1 hsz hlk hlook hrg1 hlt hg1 hs1 hen
        have hb1 : Below w.heap.size w w1 := hb.grown hg1 hb.size (fun j hj => by cases hj; exact Nat.le_refl _)
        obtain ⟨hne, g, c, rfl, hc1, hc2, hgl, hHC⟩ := (hM.step hb1).found hlook
        have hBt := between s lo hi
        have hLs := last (some ⟨g, 0, none⟩) c (hs l s) w1 (Nat.le_trans (len_hs l s) hl) (fun _ => ⟨g, rfl, hgl, hHC⟩)
        have hN2 : ∀ (_ : btw lo hi s = false ∨ lsN (hs l s) ≤ a), ∀ t, btw lo hi t = true → (fun z => left z && !z.sameKey (kS s)) (kS t) = false → lsN (hs l t) ≤ a := fun hor t h1 h2 => by
          have h2 : (left (kS t) && !(kS t).sameKey (kS s)) = false := h2
          rw [sameS] at h2
          by_cases e : t = s
          · subst e
            rcases hor with g | g
            · rw [g] at h1; cases h1
            · exact g
          · exact hN.out t h1 (by simpa [e] using h2)
        cases hbt : btw lo hi s
        · rw [hbt] at hBt
          have hN3 : Hid _ := hN2 (.inl hbt)
          clear hN hN2 hHC hlook hbt hstart
          go_wp2_with (go_at_call 31; refine (hBt _).mono ?_; rintro e w3 ⟨rfl, hw⟩; have := hw.symm; subst this)
          exact ⟨⟨_, cnt1, hrg1, hN3, hb1⟩, by rw [hrg1.left_eq, hrg.left_eq]; exact hlt⟩
        · rw [hbt] at hBt
          by_cases hgt : a < lsN (hs l s)
          · have hE : Hid (T = true) := hvt.out.2 ⟨s, hbt, hgt⟩
            clear hN hN2 hHC hlook hbt hstart hvt
            generalize lsN (hs l s) = L at hLs hgt
            go_wp2_with (first
              | (go_at_call 31; refine (hBt _).mono ?_; rintro e w3 ⟨rfl, hw⟩; have := hw.symm; subst this)
              | (go_at_call 35; refine hLs.mono ?_; rintro e w3 ⟨rfl, hw⟩; have := hw.symm; subst this))
            go_ret2
            exact ⟨by rw [hE.out]; rfl, hb1⟩
          · have hN3 : Hid _ := hN2 (.inr (Int.not_lt.1 hgt))
            clear hN hN2 hHC hlook hbt hstart hvt
            generalize lsN (hs l s) = L at hLs hgt
            go_wp2_with (first
              | (go_at_call 31; refine (hBt _).mono ?_; rintro e w3 ⟨rfl, hw⟩; have := hw.symm; subst this)
              | (go_at_call 35; refine hLs.mono ?_; rintro e w3 ⟨rfl, hw⟩; have := hw.symm; subst this))
            exact ⟨⟨_, cnt1, hrg1, hN3, hb1⟩, by rw [hrg1.left_eq, hrg.left_eq]; exact hlt⟩
  · rw [show tcS l lo hi a = false from if_neg h0, atF_ne h0, ev_ne (by decide)]
    rw [atF_ne h0, ev_ne (by decide)] at hC
    clear h0
    go_enter Tryz.func19, Tryz.ntmps19
    go_wp2_with (go_at_call 24; refine (hC _).mono ?_; rintro e w2 ⟨rfl, rfl⟩)
    go_ret2
    exact ⟨rfl, below_self _⟩
end Go.Proofs.YtickoadcficdeaaGreatDoor
