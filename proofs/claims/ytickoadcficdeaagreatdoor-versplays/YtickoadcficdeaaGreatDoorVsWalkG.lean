/- The contracts of package vers' Top, Size, Touched, of history's unseen and of slices.Clone at histories. -/
import Derived.Test.YtickoadcficdeaaGreatDoorVsWalkF
namespace Go.Proofs.YtickoadcficdeaaGreatDoor
open Go.RowKit Go.Maps Vs

theorem top_ {F : Nat → Prop} {B : Nat} {l : List Ver} {top : Int} (w : World) (hT : Tab w F B l top) : Calls Tryz.prog 13 #[.pointer (some ⟨B, 0, none⟩)] w fun e w' => e = .returned (.int .i64 top) ∧ Below w.heap.size w w' := by
  have c1 := hT.c1
  clear hT
  go_enter Tryz.func13, Tryz.ntmps13
  go_wp2
  go_ret
  exact ⟨rfl, below_self _⟩
set_option maxHeartbeats 2000000 in
set_option maxRecDepth 100000 in
theorem size {F : Nat → Prop} {B : Nat} {l : List Ver} {top : Int} (w : World) (hT : Tab w F B l top) (_ : OkT l top) (hl : l.length ≤ 1000) : Calls Tryz.prog 14 #[.pointer (some ⟨B, 0, none⟩)] w fun e w' => e = .returned (.int .i64 l.length) ∧ Below w.heap.size w w' := by
  obtain ⟨M, D, m0, hM⟩ := hT.mp
  obtain ⟨own2, _⟩ := hM.tight
  have hMs := hM.lt
  have hstart : Hid ((0 : Int) = cnS l (fun t => Maps.has D (kS t))) := by
    show _ = _
    rw [cnS_0 (fun x hx => by
      rw [hM.has]
      have : ¬ hs l x.k = [] := fun e => hs_nil.1 e x hx rfl
      simp [this])]
    rfl
  clear hT
  go_enter Tryz.func14, Tryz.ntmps14
  go_wp2_with (first
    | (at_range; refine wpList_range_own _ rfl _ 57 rfl 9 73 keyed Tryz.underlying57 _ M l.length D rfl own2 ?_; intro w0 hrg0 hg0 hs0)
    | go_in)
  go_frame
  have hb0 : Below w.heap.size w w0 := ⟨hg0.os, hg0.tape, hg0.output, hg0.size, fun k hk => hg0.block k hk (by simp)⟩
  go_loopw [3] (fun v wr => ∃ (left : Lit → Bool) (cnt : Nat) (n : Int), wr.ranges Tryz.prog 9 anyE M w.heap.size l.length D left cnt ∧ v = .int .i64 n ∧ Hid (n = cnS l (fun t => left (kS t))) ∧ Below w.heap.size w wr)
    (fun _ wr => wr.rangeLeft M w.heap.size)
  case atStart => exact ⟨_, _, 0, hrg0, rfl, hstart, hb0⟩
  case round =>
    obtain ⟨left, cnt, n, hrg, rfl, hN, hb⟩ := hrel
    go_wp2_with (first
      | (at_next; refine wpList_next_str rfl _ rfl 9 Tryz.underlying9 M w.heap.size l.length D left cnt rfl hrg ?_ ?_)
      | go_in)
    · intro hc0 hl0
      have hE : Hid (n = l.length) := by show _ = _; rw [hN.out, cnS_all (fun x _ => hl0 _)]
      clear hN hstart hrg hrg0
      go_wp2
      go_ret
      exact ⟨by rw [hE.out]; rfl, hb⟩
    · intro s v w1 cnt1 hsz hlk hlook hrg1 hlt hg1 hs1 hen
      have hb1 : Below w.heap.size w w1 := hb.grown hg1 hb.size (fun j hj => by cases hj; exact Nat.le_refl _)
      obtain ⟨hne, g, c, rfl, hc1, hc2, hgl, hHC⟩ := (hM.step hb1).found hlook
      have hst := cnS_step (l := l) (left := fun t => left (kS t)) (left' := fun t => (fun z => left z && !z.sameKey (kS s)) (kS t)) hlk (fun t => by
        show (left (kS t) && !(kS t).sameKey (kS s)) = _
        rw [sameS])
      have h1 := cnS_le l (fun t => (fun z => left z && !z.sameKey (kS s)) (kS t))
      have hM2 : Hid (n + ((hs l s).length : Int) = cnS l (fun t => (fun z => left z && !z.sameKey (kS s)) (kS t))) := by show _ = _; rw [hN.out, hst]; simp
      have hn0 : 0 ≤ n := by rw [hN.out]; omega
      have hn1 : n + ((hs l s).length : Int) ≤ 1000 := by rw [hM2.out]; omega
      clear hst h1 hN hHC hlook hstart
      go_wp2
      exact ⟨⟨_, cnt1, _, hrg1, by go_num, hM2, hb1⟩, by rw [hrg1.left_eq, hrg.left_eq]; exact hlt⟩
set_option maxHeartbeats 2000000 in
set_option maxRecDepth 100000 in
theorem unseen (p : Option Addr) (cap : Nat) (h : List Ver) (a : Int) (w : World) (hz : h.length ≤ 1000) (hu : Up h) (hp : HiAt w p h) :
    Calls Tryz.prog 27 #[.slice p h.length cap, .int .i64 a] w fun e w' => e = .returned (.int .i64 (unH h a)) ∧ Below w.heap.size w w' := by
  have hS := upTo p cap h a w hz hu hp
  by_cases e0 : upN h a = 0
  · rw [show unH h a = 0 from by rw [unH, seeH_0 e0, e0]]
    rw [e0] at hS
    clear e0 hp hu
    go_enter Tryz.func27, Tryz.ntmps27
    go_wp2_with (go_at_call 42; refine hS.mono ?_; rintro e w' ⟨rfl, hb⟩)
    go_ret
    exact ⟨rfl, hb⟩
  · obtain ⟨x, hx, hx2⟩ := seeH_at (h := h) (a := a) (by omega)
    have hle := upN_le h a
    obtain ⟨m, hm⟩ : ∃ m, upN h a = m + 1 := ⟨upN h a - 1, by omega⟩
    obtain ⟨b, rfl, hbl, hc⟩ := hp (by omega)
    obtain ⟨_, _, c2⟩ := hc _ x hx
    rw [show upN h a - 1 = m from by omega, Nat.zero_add] at c2
    have hml : (m : Int) < (h.length : Int) := by omega
    have hV : unH h a = if x.g = true then m + 1 else m := by rw [unH, hx2, hm]; rfl
    rw [hV]
    rw [hm] at hS
    clear hV hx hx2 hle hm e0 hc hp hu
    cases hg : x.g
    · rw [hg] at c2
      rw [if_neg (by simp)]
      go_enter Tryz.func27, Tryz.ntmps27
      go_wp2_with (go_at_call 42; refine hS.mono ?_; rintro e w' ⟨rfl, hb⟩; have d2 := (hb.cell (p := ⟨b, m * 3 + 2, none⟩) hbl).trans c2)
      go_ret
      exact ⟨rfl, hb⟩
    · rw [hg] at c2
      rw [if_pos rfl]
      go_enter Tryz.func27, Tryz.ntmps27
      go_wp2_with (go_at_call 42; refine hS.mono ?_; rintro e w' ⟨rfl, hb⟩; have d2 := (hb.cell (p := ⟨b, m * 3 + 2, none⟩) hbl).trans c2)
      go_ret
      exact ⟨by first | rfl | simp, hb⟩
theorem hi_news {w : World} {b off : Nat} {l : List Ver} (h : HiC w b off l) : ∀ j u, (hiV l)[j]? = some u → w.cell? ((⟨b, off, none⟩ : Addr).add j) = some u := by
  intro j u hj
  have hlt : j < (hiV l).length := (List.getElem?_eq_some_iff.1 hj).1
  rw [hiV_len] at hlt
  have hi : j / 3 < l.length := by omega
  obtain ⟨x, hx⟩ : ∃ x, l[j / 3]? = some x := ⟨l[j / 3], List.getElem?_eq_getElem hi⟩
  rw [Addr.add_lit]
  obtain ⟨c0, c1, c2⟩ := h _ x hx
  obtain ⟨d0, d1, d2⟩ := hiV_at l _ x hx
  rcases (show j % 3 = 0 ∨ j % 3 = 1 ∨ j % 3 = 2 by omega) with e | e | e
  · have e : j = j / 3 * 3 := by omega
    rw [e] at hj ⊢
    rw [d0] at hj; cases hj; exact c0
  · have e : j = j / 3 * 3 + 1 := by omega
    rw [e] at hj ⊢
    rw [d1] at hj; cases hj; exact c1
  · have e : j = j / 3 * 3 + 2 := by omega
    rw [e] at hj ⊢
    rw [d2] at hj; cases hj; exact c2
set_option maxHeartbeats 2000000 in
set_option maxRecDepth 100000 in
theorem clone (b off cap : Nat) (l : List Ver) (w : World) (hz : l.length ≤ 1000) (hb : b < w.heap.size) (hs : HiC w b off l) :
    Calls Tryz.prog 28 #[.slice (some ⟨b, off, none⟩) l.length cap] w fun e w' => ∃ v', e = .returned v' ∧ w'.ownsRow w.heap.size 64 3 v' l.length (hiV l) ∧ Below w.heap.size w w' := by
  have q22 : ∀ (w : World) (a : Option Addr) (n c n' c' : Nat), (binOp .eql 73 (.slice a n c) (.slice none n' c')).run Tryz.prog w = .ok (.bool a.isNone) w := fun w a n c n' c' => Lib.run_eql_slice_nil w _ _ a n c n' c' Tryz.underlying73
  obtain ⟨i0, hi0, hz0, hz1, hz2⟩ := info_parts info_ver
  have hc := hi_news (hs.step (below_al (below_self w) (.cells #[] 64)) hb)
  have hone := hiV_one l
  have hlen := hiV_len l
  generalize hiV l = news at hc hone hlen ⊢
  have h5 : w.heap.size ≤ (w.alloc (.cells #[] 64)).heap.size := by simp
  have hmx : 0 + l.length ≤ maxLen := by unfold maxLen; omega
  have hmy : (0 + l.length) * 32 ≤ 140737488355328 := by omega
  have Hc : Hid _ := hc
  have H1 : Hid _ := hone
  have Hl : Hid _ := hlen
  clear hc hone hlen hs
  go_enter Tryz.func28, Tryz.ntmps28
  go_wp2_with (at_builtin; refine wpList_append_own _ rfl _ _ 73 rfl w.heap.size 64 i0 (.agg #[.int .i64 0, .string ByteArray.empty, .bool false]) 3 32 Tryz.underlying73 hi0 hz0 hz1 hz2 rfl (by decide) _ _ _ rfl (World.ownsRow_made w #[] 0 (Nat.le_refl _) (Nat.zero_le _) (by simp)) ⟨b, off, none⟩ l.length cap news rfl Hl.out Hc.out H1.out hmx hmy h5 ?_)
  intro v' w1 hown hgrow hnil
  go_wp2
  go_ret
  refine ⟨v', rfl, by simpa using hown, ?_⟩
  exact ((Below.refl _ w).alloc (Nat.le_refl _) _).grown hgrow (by simp) (by intro k hk; simp [Value.ownBlock] at hk; omega)
end Go.Proofs.YtickoadcficdeaaGreatDoor
