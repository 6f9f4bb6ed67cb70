/- The contracts of package vers' Top, Size, Touched, of history's unseen and of slices.Clone at histories. -/
import Derived.Test.YteipfdjpndhgkaaGreatDoorCVsWalkF
import Derived.Test.YteipfdjpndhgkaaGreatDoorCMT
import Derived.Test.YteipfdjpndhgkaaGreatDoorCVsShelfC
import Derived.Shelf.SlIter.Nil
import Derived.Shelf.SortM.Plain
import Derived.Shelf.SortM.SortNone
import Derived.Test.YteipfdjpndhgkaaGreatDoorCMM
namespace Go.Proofs.YteipfdjpndhgkaaGreatDoor
open Go.RowKit Go.Maps Vs

theorem top_ {F : Nat → Prop} {B : Nat} {l : List Ver} {top : Int} (w : World) (hT : Tab w F B l top) : Calls Tryz.prog 74 #[.pointer (some ⟨B, 0, none⟩)] w fun e w' => e = .returned (.int .i64 top) ∧ Below w.heap.size w w' := by
  have c1 := hT.c1
  clear hT
  go_enter Tryz.func74, Tryz.ntmps74
  go_wp2
  go_ret
  exact ⟨rfl, below_self _⟩
set_option maxHeartbeats 2000000 in
set_option maxRecDepth 100000 in
theorem size {F : Nat → Prop} {B : Nat} {l : List Ver} {top : Int} (w : World) (hT : Tab w F B l top) (_ : OkT l top) (hl : l.length ≤ 1000) : Calls Tryz.prog 75 #[.pointer (some ⟨B, 0, none⟩)] w fun e w' => e = .returned (.int .i64 l.length) ∧ Below w.heap.size w w' := by
  obtain ⟨M, D, m0, hM⟩ := hT.mp
  obtain ⟨own2, _⟩ := hM.tight
  have hMs := hM.lt
  have hstart : Hid ((0 : Int) = cnS l (fun t => Maps.has D (kS t))) := by
    show _ = _
    rw [cnS_0 (fun x hx => by
      rw [hM.has]
      have : ¬ hs l x.k = [] := fun e => hs_nil.1 e x hx rfl
      simp [this])]
    rfl
  clear hT
  go_enter Tryz.func75, Tryz.ntmps75
  go_wp2_with (first
    | (at_range; refine wpList_range_own _ rfl _ 137 rfl 9 146 keyed Tryz.underlying137 _ M l.length D rfl own2 ?_; intro w0 hrg0 hg0 hs0)
    | go_in)
  go_frame
  have hb0 : Below w.heap.size w w0 := ⟨hg0.os, hg0.tape, hg0.output, hg0.size, fun k hk => hg0.block k hk (by simp)⟩
  go_loopw [3] (fun v wr => ∃ (left : Lit → Bool) (cnt : Nat) (n : Int), wr.ranges Tryz.prog 9 anyE M w.heap.size l.length D left cnt ∧ v = .int .i64 n ∧ Hid (n = cnS l (fun t => left (kS t))) ∧ Below w.heap.size w wr)
    (fun _ wr => wr.rangeLeft M w.heap.size)
  case atStart => exact ⟨_, _, 0, hrg0, rfl, hstart, hb0⟩
  case round =>
    obtain ⟨left, cnt, n, hrg, rfl, hN, hb⟩ := hrel
    go_wp2_with (first
      | (at_next; refine wpList_next_str rfl _ rfl 9 Tryz.underlying9 M w.heap.size l.length D left cnt rfl hrg ?_ ?_)
      | go_in)
    · intro hc0 hl0
      have hE : Hid (n = l.length) := by show _ = _; rw [hN.out, cnS_all (fun x _ => hl0 _)]
      clear hN hstart hrg hrg0
      go_wp2
      go_ret
      exact ⟨by rw [hE.out]; rfl, hb⟩
    · intro s v w1 cnt1 hsz hlk hlook hrg1 hlt hg1 hs1 hen
      have hb1 : Below w.heap.size w w1 := hb.grown hg1 hb.size (fun j hj => by cases hj; exact Nat.le_refl _)
      obtain ⟨hne, g, c, rfl, hc1, hc2, hgl, hHC⟩ := (hM.step hb1).found hlook
      have hst := cnS_step (l := l) (left := fun t => left (kS t)) (left' := fun t => (fun z => left z && !z.sameKey (kS s)) (kS t)) hlk (fun t => by
        show (left (kS t) && !(kS t).sameKey (kS s)) = _
        rw [sameS])
      have h1 := cnS_le l (fun t => (fun z => left z && !z.sameKey (kS s)) (kS t))
      have hM2 : Hid (n + ((hs l s).length : Int) = cnS l (fun t => (fun z => left z && !z.sameKey (kS s)) (kS t))) := by show _ = _; rw [hN.out, hst]; simp
      have hn0 : 0 ≤ n := by rw [hN.out]; omega
      have hn1 : n + ((hs l s).length : Int) ≤ 1000 := by rw [hM2.out]; omega
      clear hst h1 hN hHC hlook hstart
      go_wp2
      exact ⟨⟨_, cnt1, _, hrg1, by go_num, hM2, hb1⟩, by rw [hrg1.left_eq, hrg.left_eq]; exact hlt⟩
set_option maxHeartbeats 2000000 in
set_option maxRecDepth 100000 in
theorem unseen (p : Option Addr) (cap : Nat) (h : List Ver) (a : Int) (w : World) (hz : h.length ≤ 1000) (hu : Up h) (hp : HiAt w p h) :
    Calls Tryz.prog 109 #[.slice p h.length cap, .int .i64 a] w fun e w' => e = .returned (.int .i64 (unH h a)) ∧ Below w.heap.size w w' := by
  have hS := upTo p cap h a w hz hu hp
  by_cases e0 : upN h a = 0
  · rw [show unH h a = 0 from by rw [unH, seeH_0 e0, e0]]
    rw [e0] at hS
    clear e0 hp hu
    go_enter Tryz.func109, Tryz.ntmps109
    go_wp2_with (go_at_call 121; refine hS.mono ?_; rintro e w' ⟨rfl, hb⟩)
    go_ret
    exact ⟨rfl, hb⟩
  · obtain ⟨x, hx, hx2⟩ := seeH_at (h := h) (a := a) (by omega)
    have hle := upN_le h a
    obtain ⟨m, hm⟩ : ∃ m, upN h a = m + 1 := ⟨upN h a - 1, by omega⟩
    obtain ⟨b, rfl, hbl, hc⟩ := hp (by omega)
    obtain ⟨_, _, c2⟩ := hc _ x hx
    rw [show upN h a - 1 = m from by omega, Nat.zero_add] at c2
    have hml : (m : Int) < (h.length : Int) := by omega
    have hV : unH h a = if x.g = true then m + 1 else m := by rw [unH, hx2, hm]; rfl
    rw [hV]
    rw [hm] at hS
    clear hV hx hx2 hle hm e0 hc hp hu
    cases hg : x.g
    · rw [hg] at c2
      rw [if_neg (by simp)]
      go_enter Tryz.func109, Tryz.ntmps109
      go_wp2_with (go_at_call 121; refine hS.mono ?_; rintro e w' ⟨rfl, hb⟩; have d2 := (hb.cell (p := ⟨b, m * 3 + 2, none⟩) hbl).trans c2)
      go_ret
      exact ⟨rfl, hb⟩
    · rw [hg] at c2
      rw [if_pos rfl]
      go_enter Tryz.func109, Tryz.ntmps109
      go_wp2_with (go_at_call 121; refine hS.mono ?_; rintro e w' ⟨rfl, hb⟩; have d2 := (hb.cell (p := ⟨b, m * 3 + 2, none⟩) hbl).trans c2)
      go_ret
      exact ⟨by first | rfl | simp, hb⟩
theorem hi_news {w : World} {b off : Nat} {l : List Ver} (h : HiC w b off l) : ∀ j u, (hiV l)[j]? = some u → w.cell? ((⟨b, off, none⟩ : Addr).add j) = some u := by
  intro j u hj
  have hlt : j < (hiV l).length := (List.getElem?_eq_some_iff.1 hj).1
  rw [hiV_len] at hlt
  have hi : j / 3 < l.length := by omega
  obtain ⟨x, hx⟩ : ∃ x, l[j / 3]? = some x := ⟨l[j / 3], List.getElem?_eq_getElem hi⟩
  rw [Addr.add_lit]
  obtain ⟨c0, c1, c2⟩ := h _ x hx
  obtain ⟨d0, d1, d2⟩ := hiV_at l _ x hx
  rcases (show j % 3 = 0 ∨ j % 3 = 1 ∨ j % 3 = 2 by omega) with e | e | e
  · have e : j = j / 3 * 3 := by omega
    rw [e] at hj ⊢
    rw [d0] at hj; cases hj; exact c0
  · have e : j = j / 3 * 3 + 1 := by omega
    rw [e] at hj ⊢
    rw [d1] at hj; cases hj; exact c1
  · have e : j = j / 3 * 3 + 2 := by omega
    rw [e] at hj ⊢
    rw [d2] at hj; cases hj; exact c2
set_option maxHeartbeats 2000000 in
set_option maxRecDepth 100000 in
theorem clone (b off cap : Nat) (l : List Ver) (w : World) (hz : l.length ≤ 1000) (hb : b < w.heap.size) (hs : HiC w b off l) :
    Calls Tryz.prog 110 #[.slice (some ⟨b, off, none⟩) l.length cap] w fun e w' => ∃ v', e = .returned v' ∧ w'.ownsRow w.heap.size 184 3 v' l.length (hiV l) ∧ Below w.heap.size w w' := by
  have q22 : ∀ (w : World) (a : Option Addr) (n c n' c' : Nat), (binOp .eql 146 (.slice a n c) (.slice none n' c')).run Tryz.prog w = .ok (.bool a.isNone) w := fun w a n c n' c' => Lib.run_eql_slice_nil w _ _ a n c n' c' Tryz.underlying146
  obtain ⟨i0, hi0, hz0, hz1, hz2⟩ := info_parts info_ver
  have hc := hi_news (hs.step (below_al (below_self w) (.cells #[] 184)) hb)
  have hone := hiV_one l
  have hlen := hiV_len l
  generalize hiV l = news at hc hone hlen ⊢
  have h5 : w.heap.size ≤ (w.alloc (.cells #[] 184)).heap.size := by simp
  have hmx : 0 + l.length ≤ maxLen := by unfold maxLen; omega
  have hmy : (0 + l.length) * 32 ≤ 140737488355328 := by omega
  have Hc : Hid _ := hc
  have H1 : Hid _ := hone
  have Hl : Hid _ := hlen
  clear hc hone hlen hs
  go_enter Tryz.func110, Tryz.ntmps110
  go_wp2_with (at_builtin; refine wpList_append_own _ rfl _ _ 146 rfl w.heap.size 184 i0 (.agg #[.int .i64 0, .string ByteArray.empty, .bool false]) 3 32 Tryz.underlying146 hi0 hz0 hz1 hz2 rfl (by decide) _ _ _ rfl (World.ownsRow_made w #[] 0 (Nat.le_refl _) (Nat.zero_le _) (by simp)) ⟨b, off, none⟩ l.length cap news rfl Hl.out Hc.out H1.out hmx hmy h5 ?_)
  intro v' w1 hown hgrow hnil
  go_wp2
  go_ret
  refine ⟨v', rfl, by simpa using hown, ?_⟩
  exact ((Below.refl _ w).alloc (Nat.le_refl _) _).grown hgrow (by simp) (by intro k hk; simp [Value.ownBlock] at hk; omega)
end Go.Proofs.YteipfdjpndhgkaaGreatDoor

/- The keys of a map of histories, sorted: maps.Keys and slices.Sorted by their contracts. -/
namespace Go.Proofs.YteipfdjpndhgkaaGreatDoor
open Go.RowKit Go.Maps Go.Sort Go.Shelf

theorem sortsText (m : Nat) : AnyZ.SortsIn Tryz.prog Tryz.laySorted_ren Fence.wide m :=
  ⟨fun blk off cap ss W hH hblk hsz => callsIn_wide.2 (AnyM.slices_Sort_string Tryz.layText blk off cap ss W hH hblk hsz),
   fun p cap W => callsIn_wide.2 (AnyM.slices_Sort_string_none Tryz.layText p cap W)⟩
theorem mapKeys (mb : Option Nat) (W : World) : Calls Tryz.prog 108 #[.map mb] W fun e w' => e = .returned (.func (.func 140) #[] #[.pointer (some ⟨W.heap.size, 0, none⟩)]) ∧ w' = W.alloc (.cells #[.map mb] 137) :=
  (callsIn_wide (n := 5)).1 (AnyZ.keys_in Tryz.layKeys Fence.wide 5 trivial rfl mb W)
set_option maxHeartbeats 1000000 in
/-- A new slice that holds the map's keys, sorted; nothing that lay before has changed. -/
theorem sortedKeys (b nn : Nat) (D0 : DataW Value) (w : World) (hown : w.ownsMap Tryz.prog 9 anyE b nn D0) (hmax : Maps.size D0 ≤ 1000) :
    Calls Tryz.prog 107 #[.func (.func 140) #[] #[.pointer (some ⟨w.heap.size, 0, none⟩)]] (w.alloc (.cells #[.map (some b)] 137)) fun e w' => ∃ (v : Value) (ss : List (List UInt8)), e = .returned v ∧ ss.Perm (strKeys D0) ∧
      w'.ownsRow (w.alloc (.cells #[.map (some b)] 137)).heap.size 9 1 v ss.length (ss.map encStr) ∧ Below (w.alloc (.cells #[.map (some b)] 137)).heap.size (w.alloc (.cells #[.map (some b)] 137)) w' := by
  have hbl := hown.lt
  have hseq : SeqGives Fence.wide 2 Tryz.prog 140 #[.pointer (some ⟨w.heap.size, 0, none⟩)] encStr (fun ss => ss.Perm (strKeys D0)) (Maps.size D0) (w.alloc (.cells #[.map (some b)] 137)) :=
    AnyZ.keys_gives (ρ := Tryz.layKeys_ren) { Tryz.layKeys with } Fence.wide _ trivial rfl (by omega) w.heap.size b nn D0 _ (by simp) (by simp) (by
      obtain ⟨es, clock, hb, Ft, hs, hD⟩ := hown
      exact ⟨es, clock, (Below.heap_alloc _ _ b hbl).trans hb, Ft, hs, hD⟩)
  have key := AnyZ.sorted_in Tryz.laySorted Fence.wide 5 trivial trivial trivial trivial rfl (by omega) (sortsText _) (enters_of Tryz.func139 (by kernel_rfl) rfl) 140 #[.pointer (some ⟨w.heap.size, 0, none⟩)] trivial (enters_of Tryz.func140 (by kernel_rfl) rfl) _ _ (by unfold maxLen; omega) (by omega) _ hseq
  have key2 := callsIn_wide.1 key
  change Calls Tryz.prog 107 _ _ _ at key2
  refine key2.mono ?_
  rintro e w' ⟨v, ss, rfl, hp, hrow, _, hb⟩
  refine ⟨v, ss.mergeSort (fun x y => decide (x ≤ y)), rfl, (List.mergeSort_perm ss _).trans hp, ?_, hb⟩
  rw [List.length_mergeSort]
  exact hrow
end Go.Proofs.YteipfdjpndhgkaaGreatDoor

/- The contracts of package vers' Collect and Touched. -/
namespace Go.Proofs.YteipfdjpndhgkaaGreatDoor
open Go.RowKit Go.Maps Vs

set_option maxHeartbeats 2000000 in
set_option maxRecDepth 100000 in
theorem touchedOne {F : Nat → Prop} {B : Nat} {l : List Ver} {top : Int} (lo : ByteArray) (a : Int) (w : World) (hT : Tab w F B l top) (hO : OkT l top) (hl : l.length ≤ 1000) (hk : lo.size < 9223372036854775807) (h0 : atF a = 0) :
    Calls Tryz.prog 93 #[.pointer (some ⟨B, 0, none⟩), .string lo, .string (kz lo), .int .i64 a] w fun e w' => e = .returned (.tuple #[.bool (vtch l lo (kz lo) a), .nilIface]) ∧ Below w.heap.size w w' := by
  have hC := checkSight a
  rw [h0, ev_0] at hC
  have ha : 0 ≤ a := by
    unfold atF at h0
    by_cases c : a < 0 ∨ 1000000 < a
    · rw [if_pos c] at h0; cases h0
    · omega
  have hV : vtch l lo (kz lo) a = decide (a < lsN (hs l lo)) := by
    have := vtch_hs hO lo (kz lo) a ha
    rw [Bool.eq_iff_iff, this, decide_eq_true_eq]
    constructor
    · rintro ⟨s, h1, h2⟩
      rw [(btw_kz lo s).1 h1] at h2; exact h2
    · intro h; exact ⟨lo, (btw_kz lo lo).2 rfl, h⟩
  rw [hV]
  obtain ⟨M, D, m0, hM⟩ := hT.mp
  obtain ⟨own2, _⟩ := hM.tight
  have hkey := keyStr (show lo.size ≤ maxLen by unfold maxLen; omega)
  obtain ⟨p, c, e1, _, _, hH⟩ := hM.got lo
  have hlk := run_look 137 9 146 keyed Tryz.underlying137 (zeroHist w) M l.length D own2 (.string lo) (kS lo) hkey
  rw [e1] at hlk
  have hL := last p c (hs l lo) w (Nat.le_trans (len_hs l lo) hl) hH
  generalize lsN (hs l lo) = N at hL ⊢
  rw [← kz_add]
  clear own2 hkey e1 hH hM hT h0 hV
  go_enter Tryz.func93, Tryz.ntmps93
  go_wp2_with (first
    | (go_at_call 78; refine (hC _).mono ?_; rintro e w2 ⟨rfl, rfl⟩)
    | (go_at_call 126; refine hL.mono ?_; rintro e w2 ⟨rfl, rfl⟩))
  go_ret2
  exact ⟨rfl, below_self _⟩
set_option maxHeartbeats 2000000 in
set_option maxRecDepth 100000 in
theorem touched {F : Nat → Prop} {B : Nat} {l : List Ver} {top : Int} (lo hi : ByteArray) (a : Int) (w : World) (hT : Tab w F B l top) (hO : OkT l top) (hl : l.length ≤ 1000) (hk : lo.size < 9223372036854775807) :
    Calls Tryz.prog 93 #[.pointer (some ⟨B, 0, none⟩), .string lo, .string hi, .int .i64 a] w fun e w' => e = .returned (.tuple #[.bool (tcS l lo hi a), ev (atF a)]) ∧ Below w.heap.size w w' := by
  have hC := checkSight a
  by_cases hz : hi = kz lo
  · subst hz
    by_cases h0 : atF a = 0
    · rw [show tcS l lo (kz lo) a = vtch l lo (kz lo) a from if_pos h0, h0, ev_0]
      exact touchedOne lo a w hT hO hl hk h0
    · rw [show tcS l lo (kz lo) a = false from if_neg h0, atF_ne h0, ev_ne (by decide)]
      rw [atF_ne h0, ev_ne (by decide)] at hC
      clear h0
      go_enter Tryz.func93, Tryz.ntmps93
      go_wp2_with (go_at_call 78; refine (hC _).mono ?_; rintro e w2 ⟨rfl, rfl⟩)
      go_ret2
      exact ⟨rfl, below_self _⟩
  have hzn : (hi.toList == (lo ++ ({ data := #[0] } : ByteArray)).toList) = false := by rw [kz_add, beq_str]; simpa using hz
  clear hz
  by_cases h0 : atF a = 0
  · have ha : 0 ≤ a := by
      unfold atF at h0
      by_cases c : a < 0 ∨ 1000000 < a
      · rw [if_pos c] at h0; cases h0
      · omega
    rw [show tcS l lo hi a = vtch l lo hi a from if_pos h0, h0, ev_0]
    rw [h0, ev_0] at hC
    obtain ⟨M, D, m0, hM⟩ := hT.mp
    obtain ⟨own2, _⟩ := hM.tight
    have hMs := hM.lt
    have hstart : Hid (∀ t, btw lo hi t = true → Maps.has D (kS t) = false → lsN (hs l t) ≤ a) := fun t _ h => by
      rw [hM.has] at h
      have : hs l t = [] := by simpa using h
      rw [this, lsN_nil]; omega
    have hvt : Hid _ := vtch_hs hO lo hi a ha
    generalize vtch l lo hi a = T at hvt ⊢
    clear hT h0
    go_enter Tryz.func93, Tryz.ntmps93
    go_wp2_with (first
      | (go_at_call 78; refine (hC _).mono ?_; rintro e w2 ⟨rfl, hw⟩; have := hw.symm; subst this)
      | (at_range; refine wpList_range_own _ rfl _ 137 rfl 9 146 keyed Tryz.underlying137 _ M l.length D rfl own2 ?_; intro w0 hrg0 hg0 hs0)
      | go_in)
    go_frame
    have hb0 : Below w.heap.size w w0 := ⟨hg0.os, hg0.tape, hg0.output, hg0.size, fun k hk => hg0.block k hk (by simp)⟩
    go_loopw [8] (fun _ wr => ∃ (left : Lit → Bool) (cnt : Nat), wr.ranges Tryz.prog 9 anyE M w.heap.size l.length D left cnt ∧ Hid (∀ t, btw lo hi t = true → left (kS t) = false → lsN (hs l t) ≤ a) ∧ Below w.heap.size w wr)
      (fun _ wr => wr.rangeLeft M w.heap.size)
    case atStart => exact ⟨_, _, hrg0, hstart, hb0⟩
    case round =>
      obtain ⟨left, cnt, hrg, hN, hb⟩ := hrel
      go_wp2_with (first
        | (at_next; refine wpList_next_str rfl _ rfl 9 Tryz.underlying9 M w.heap.size l.length D left cnt rfl hrg ?_ ?_)
        | go_in)
      · intro hc0 hl0
        have hE : Hid (T = false) := by
          show _ = _
          cases e : T
          · rfl
          · obtain ⟨t, h1, h2⟩ := hvt.out.1 e
            exact absurd h2 (Int.not_lt.2 (hN.out t h1 (hl0 _)))
        clear hN hstart hrg hrg0 hvt
        go_wp2
        go_ret2
        exact ⟨by rw [hE.out]; rfl, hb⟩
      · intro s v w1 cnt1 hsz hlk hlook hrg1 hlt hg1 hs1 hen
        have hb1 : Below w.heap.size w w1 := hb.grown hg1 hb.size (fun j hj => by cases hj; exact Nat.le_refl _)
        obtain ⟨hne, g, c, rfl, hc1, hc2, hgl, hHC⟩ := (hM.step hb1).found hlook
        have hBt := between s lo hi
        have hLs := last (some ⟨g, 0, none⟩) c (hs l s) w1 (Nat.le_trans (len_hs l s) hl) (fun _ => ⟨g, rfl, hgl, hHC⟩)
        have hN2 : ∀ (_ : btw lo hi s = false ∨ lsN (hs l s) ≤ a), ∀ t, btw lo hi t = true → (fun z => left z && !z.sameKey (kS s)) (kS t) = false → lsN (hs l t) ≤ a := fun hor t h1 h2 => by
          have h2 : (left (kS t) && !(kS t).sameKey (kS s)) = false := h2
          rw [sameS] at h2
          by_cases e : t = s
          · subst e
            rcases hor with g | g
            · rw [g] at h1; cases h1
            · exact g
          · exact hN.out t h1 (by simpa [e] using h2)
        cases hbt : btw lo hi s
        · rw [hbt] at hBt
          have hN3 : Hid _ := hN2 (.inl hbt)
          clear hN hN2 hHC hlook hbt hstart
          go_wp2_with (go_at_call 80; refine (hBt _).mono ?_; rintro e w3 ⟨rfl, hw⟩; have := hw.symm; subst this)
          exact ⟨⟨_, cnt1, hrg1, hN3, hb1⟩, by rw [hrg1.left_eq, hrg.left_eq]; exact hlt⟩
        · rw [hbt] at hBt
          by_cases hgt : a < lsN (hs l s)
          · have hE : Hid (T = true) := hvt.out.2 ⟨s, hbt, hgt⟩
            clear hN hN2 hHC hlook hbt hstart hvt
            generalize lsN (hs l s) = L at hLs hgt
            go_wp2_with (first
              | (go_at_call 80; refine (hBt _).mono ?_; rintro e w3 ⟨rfl, hw⟩; have := hw.symm; subst this)
              | (go_at_call 126; refine hLs.mono ?_; rintro e w3 ⟨rfl, hw⟩; have := hw.symm; subst this))
            go_ret2
            exact ⟨by rw [hE.out]; rfl, hb1⟩
          · have hN3 : Hid _ := hN2 (.inr (Int.not_lt.1 hgt))
            clear hN hN2 hHC hlook hbt hstart hvt
            generalize lsN (hs l s) = L at hLs hgt
            go_wp2_with (first
              | (go_at_call 80; refine (hBt _).mono ?_; rintro e w3 ⟨rfl, hw⟩; have := hw.symm; subst this)
              | (go_at_call 126; refine hLs.mono ?_; rintro e w3 ⟨rfl, hw⟩; have := hw.symm; subst this))
            exact ⟨⟨_, cnt1, hrg1, hN3, hb1⟩, by rw [hrg1.left_eq, hrg.left_eq]; exact hlt⟩
  · rw [show tcS l lo hi a = false from if_neg h0, atF_ne h0, ev_ne (by decide)]
    rw [atF_ne h0, ev_ne (by decide)] at hC
    clear h0
    go_enter Tryz.func93, Tryz.ntmps93
    go_wp2_with (go_at_call 78; refine (hC _).mono ?_; rintro e w2 ⟨rfl, rfl⟩)
    go_ret2
    exact ⟨rfl, below_self _⟩
end Go.Proofs.YteipfdjpndhgkaaGreatDoor

/- The contract of package vers' Collect. -/
namespace Vs
/-- The keys that have been gone through. -/
def dn (ss : List (List UInt8)) (k : Nat) (t : ByteArray) : Bool := (ss.take k).contains t.data.toList
theorem dn_0 (ss : List (List UInt8)) (t : ByteArray) : dn ss 0 t = false := by simp [dn]
theorem arr_eq {t : ByteArray} {x : List UInt8} : t.data.toList = x ↔ t = ⟨x.toArray⟩ := by
  cases t with | mk d =>
  constructor
  · intro h; subst h; simp
  · intro h; injection h with h; subst h; simp
theorem dn_succ {ss : List (List UInt8)} {k : Nat} {x : List UInt8} (hx : ss[k]? = some x) (t : ByteArray) : dn ss (k + 1) t = (dn ss k t || decide (t = ⟨x.toArray⟩)) := by
  rw [dn, dn, List.take_add_one, hx]
  by_cases e : t = ⟨x.toArray⟩
  · have := arr_eq.2 e
    simp [e]
  · have h2 : ¬ t.data.toList = x := fun g => e (arr_eq.1 g)
    simp [e, h2]
theorem dn_no {ss : List (List UInt8)} (hn : ss.Nodup) {k : Nat} {x : List UInt8} (hx : ss[k]? = some x) : dn ss k ⟨x.toArray⟩ = false := by
  rw [dn]
  have : x ∉ ss.take k := fun h => by
    obtain ⟨i, hi⟩ := List.mem_iff_getElem?.1 h
    rw [List.getElem?_take] at hi
    split at hi
    · rename_i c
      obtain ⟨h1, e1⟩ := List.getElem?_eq_some_iff.1 hi
      obtain ⟨h2, e2⟩ := List.getElem?_eq_some_iff.1 hx
      exact List.pairwise_iff_getElem.1 hn i k h1 h2 c (e1.trans e2.symm)
    · cases hi
  simpa using this
theorem dn_all {ss : List (List UInt8)} {t : ByteArray} (h : t.data.toList ∈ ss) : dn ss ss.length t = true := by
  rw [dn, List.take_length]
  simpa using h
theorem mid_step {l : List Ver} {top : Int} (hT : OkT l top) (a : Int) {ss : List (List UInt8)} (hn : ss.Nodup) {k : Nat} {x : List UInt8} (hx : ss[k]? = some x) :
    hs (mid l a (dn ss k)) ⟨x.toArray⟩ = hs l ⟨x.toArray⟩ ∧ hs (mid l a (dn ss (k + 1))) ⟨x.toArray⟩ = (hs l ⟨x.toArray⟩).drop (unH (hs l ⟨x.toArray⟩) a) ∧ (∀ t, t ≠ ⟨x.toArray⟩ → hs (mid l a (dn ss (k + 1))) t = hs (mid l a (dn ss k)) t) ∧ (mid l a (dn ss (k + 1))).length + unH (hs l ⟨x.toArray⟩) a = (mid l a (dn ss k)).length := by
  have h0 := dn_no hn hx
  have hf : dn ss (k + 1) = fun t => dn ss k t || decide (t = ⟨x.toArray⟩) := funext (dn_succ hx)
  refine ⟨hs_mid_no h0, hs_mid_yes hT (by rw [hf]; simp), fun t ht => ?_, by rw [hf]; exact len_mid hT h0⟩
  have e : dn ss (k + 1) t = dn ss k t := by rw [dn_succ hx]; simp [ht]
  cases c : dn ss k t
  · rw [hs_mid_no c, hs_mid_no (e.trans c)]
  · rw [hs_mid_yes hT c, hs_mid_yes hT (e.trans c)]
end Vs
namespace Go.Proofs.YteipfdjpndhgkaaGreatDoor
open Go.RowKit Go.Maps Go.Sort Vs

theorem Mp.wide {w w1 w2 w3 : World} {F : Nat → Prop} {B M : Nat} {D : DataW Value} {l : List Ver} (h : Mp w3 (Nw (Nw F w w1) w2 w3) B M D l) (h1 : w.heap.size ≤ w1.heap.size) (h2 : w1.heap.size ≤ w2.heap.size) : Mp w3 (Nw F w w3) B M D l :=
  h.mono (fun j _ hj => by
    rcases hj with (hj | hj) | hj
    · exact .inl hj
    · exact .inr ⟨hj.1, by omega⟩
    · exact .inr ⟨by omega, hj.2⟩)
theorem Mp.wider {w w1 w2 : World} {F : Nat → Prop} {B M : Nat} {D : DataW Value} {l : List Ver} (h : Mp w2 (Nw F w w1) B M D l) : Mp w2 (Nw F w w2) B M D l :=
  h.mono (fun j _ hj => hj.imp id (fun hj => ⟨hj.1, by omega⟩))
theorem turned_but {w w' : World} {M : Nat} (h : w.grownBy w' (some M)) : But (fun j => j = M) w w' :=
  ⟨h.os, h.tape, h.output, h.size, fun k hk hF => h.block k hk (fun e => hF (Option.some.inj e))⟩
theorem HiC.dropped {w : World} {b : Nat} {l : List Ver} (h : HiC w b 0 l) (u : Nat) : HiC w b (u * 3) (l.drop u) := fun i x hx => by
  rw [List.getElem?_drop] at hx
  have := h _ x hx
  rw [show u * 3 + i * 3 = 0 + (u + i) * 3 from by omega]
  exact this

set_option maxHeartbeats 4000000 in
set_option maxRecDepth 100000 in
theorem collect {F : Nat → Prop} {B : Nat} {l : List Ver} {top : Int} (a : Int) (w : World) (hT : Tab w F B l top) (hO : OkT l top) (hl : l.length ≤ 1000) (hF : ∀ j, F j → j < w.heap.size) :
    Calls Tryz.prog 70 #[.pointer (some ⟨B, 0, none⟩), .int .i64 a] w fun e w' => e = .returned (.tuple #[.int .i64 ((l.length : Int) - (clS l a).length), ev (atF a)]) ∧ Tab w' (Nw F w w') B (clS l a) top ∧ But F w w' := by
  have hC := checkSight a
  by_cases h0 : atF a = 0
  · rw [show clS l a = vcol l a from if_pos h0, h0, ev_0]
    rw [h0, ev_0] at hC
    obtain ⟨M, D, m0, hM⟩ := hT.mp
    obtain ⟨own0, sz0⟩ := hM.tight
    have hMs := hM.lt
    have hBs := hT.lt
    have hMB := hM.ne
    have c1 := hT.c1
    have f1 := hT.f1
    have gB := hT.gB
    have gM := hM.gM
    have hK := mapKeys (some M) w
    have hS := sortedKeys M l.length D w own0 (by omega)
    have hkeys : Hid ((strKeys D).Nodup ∧ ∀ x, x ∈ strKeys D ↔ hs l ⟨x.toArray⟩ ≠ []) := by
      obtain ⟨k1, k2, _⟩ := nodup_keys own0 keyed Tryz.underlying9
      exact ⟨k1, fun x => by rw [k2 x, ← kS_of, hM.has]; simp⟩
    have hsA : (w.alloc (.cells #[.map (some M)] 137)).heap.size = w.heap.size + 1 := by simp
    rw [hsA] at hS
    clear hT h0
    go_enter Tryz.func70, Tryz.ntmps70
    go_wp2_with (first
      | (go_at_call 78; refine (hC _).mono ?_; rintro e w2 ⟨rfl, hw⟩; have := hw.symm; subst this)
      | (go_at_call 108; refine hK.mono ?_; rintro e w2 ⟨rfl, rfl⟩)
      | (go_at_call 107; refine hS.mono ?_; rintro e w1 ⟨v, ss, rfl, hP, hrow, hb1⟩; obtain ⟨p, cp, rfl⟩ := own_form hrow))
    have hbw : Below w.heap.size w w1 := (below_al (below_self w) _).trans (hb1.mono (by omega))
    have hsl : ss.length ≤ 1000 := by
      rw [hP.length_eq, (nodup_keys own0 keyed Tryz.underlying9).2.2]; omega
    have hnd : Hid (ss.Nodup ∧ ∀ x, x ∈ ss ↔ hs l ⟨x.toArray⟩ ≠ []) := ⟨hP.nodup_iff.2 hkeys.out.1, fun x => by rw [hP.mem_iff]; exact hkeys.out.2 x⟩
    have hM1 : Mp w1 (Nw F w w1) B M D (mid l a (dn ss 0)) := by
      rw [mid_none l a (fun x _ => dn_0 ss x.k)]
      exact (hM.step hbw).mono (fun j _ hj => .inl hj)
    have hn0 : Hid ((0 : Int) = (l.length : Int) - (mid l a (dn ss 0)).length) := by
      show _ = _
      rw [mid_none l a (fun x _ => dn_0 ss x.k)]; omega
    clear hK hS hkeys hP own0 hb1
    go_loopw [7, 24] (fun v i wr => ∃ (k : Nat) (n : Int) (D' : DataW Value), k ≤ ss.length ∧ i = .int .i64 k ∧ v = .int .i64 n ∧ Hid (n = (l.length : Int) - (mid l a (dn ss k)).length) ∧ Mp wr (Nw F w wr) B M D' (mid l a (dn ss k)) ∧ But (fun j => j = M) w wr ∧ wr.ownsRow (w.heap.size + 1) 9 1 (.slice p ss.length cp) ss.length (ss.map encStr))
      (fun _ i _ => ss.length - (intOf i).toNat)
    case atStart => exact ⟨0, 0, D, by omega, rfl, rfl, hn0, hM1, .below hbw, hrow⟩
    case round =>
      obtain ⟨k, n, D', hk, rfl, rfl, hN, hMr, hbr, hown⟩ := hrel
      clear hM1 hn0 hrow
      by_cases hlt : k < ss.length
      · obtain ⟨x, hx⟩ : ∃ x, ss[k]? = some x := ⟨ss[k], List.getElem?_eq_getElem hlt⟩
        obtain ⟨g0, cp0, e0⟩ := own_block hown (by omega)
        cases e0
        have ck : wr.cell? ⟨g0, k, none⟩ = some (.string ⟨x.toArray⟩) := by
          rw [hown.cellAt k (by omega)]
          simp [hx]
        obtain ⟨q1, q2, q3, q4⟩ := mid_step hO a hnd.out.1 hx
        have hne : hs l ⟨x.toArray⟩ ≠ [] := (hnd.out.2 x).1 (List.mem_of_getElem? hx)
        obtain ⟨s, hse⟩ : ∃ s : ByteArray, s = ⟨x.toArray⟩ := ⟨_, rfl⟩
        rw [← hse] at q1 q2 q3 q4 ck hne
        have hks : s.size ≤ maxLen := by
          obtain ⟨y, hy⟩ := List.exists_mem_of_ne_nil _ hne
          obtain ⟨y1, y2⟩ := mem_hs.1 hy
          have := (hO.each y y1).1.2.1
          rw [y2] at this
          unfold maxLen; omega
        have hkey := keyStr hks
        clear hx hse hks
        have hr := hMr.rows s
        rw [q1] at hr
        obtain ⟨_, g, c, lk, gF, gB', gM', orow⟩ := hr.resolve_left (fun e => hne e.1)
        obtain ⟨_, hc1, hc2⟩ := own_cap orow
        have hHC := hiC_own orow
        have hgl := own_lt orow
        have c0 := (hbr.cell (p := ⟨B, 0, none⟩) hBs (fun e => hMB e.symm)).trans m0
        obtain ⟨ownr, _⟩ := hMr.tight
        have hlm := len_mid_le l a (dn ss k)
        have hlm2 := len_mid_le l a (dn ss (k + 1))
        have hlk := run_look 137 9 146 keyed Tryz.underlying137 (zeroHist wr) M _ D' ownr (.string s) (kS s) hkey
        rw [lk, Option.getD_some] at hlk
        have hhl : (hs l s).length ≤ 1000 := Nat.le_trans (len_hs l s) hl
        have hU := unseen (some ⟨g, 0, none⟩) c (hs l s) a wr hhl (hs_up hO s) (fun _ => ⟨g, rfl, hgl, hHC⟩)
        have hul := unH_le (hs l s) a
        generalize unH (hs l s) a = u at hU q2 q4 hul
        have hN2 : Hid (n + (u : Int) = (l.length : Int) - (mid l a (dn ss (k + 1))).length) := by
          show _ = _
          rw [hN.out]; omega
        have hn0 : 0 ≤ n := by rw [hN.out]; omega
        have hn1 : n + (u : Int) ≤ 1000 := by rw [hN2.out]; omega
        have hBr : B < wr.heap.size := Nat.lt_of_lt_of_le hBs hbr.size
        have hMr2 : M < wr.heap.size := Nat.lt_of_lt_of_le hMs hbr.size
        have hlt' : (k : Int) < (ss.length : Int) := by omega
        have hszr := hbr.size
        clear hr hN q4 hlm hlm2
        by_cases hu0 : u = 0
        · subst hu0
          have hsame : ∀ t, hs (mid l a (dn ss (k + 1))) t = hs (mid l a (dn ss k)) t := fun t => by
            by_cases e : t = s
            · rw [e, q2, q1]; rfl
            · exact q3 t e
          have hM2 := hMr.same hsame
          have hN3 : Hid (n = (l.length : Int) - (mid l a (dn ss (k + 1))).length) := by show _ = _; rw [← hN2.out]; simp
          have hn3 : n ≤ 1000 := by omega
          clear hsame q1 q2 q3 hMr hN2 hn1
          go_wp2_with (go_at_call 109; refine hU.mono ?_; rintro e w2 ⟨rfl, hb2⟩)
          exact ⟨⟨k + 1, n, D', by omega, by go_num, by go_num, hN3, (hM2.step hb2).wider, hbr.step hb2, own_below hown hb2⟩, by simp [intOf]; omega⟩
        by_cases hul2 : u = (hs l s).length
        · rw [hul2, List.drop_length] at q2
          have g1 : ((u : Int) == 0) = false := by simpa using hu0
          have g2 : ((u : Int) == ((hs l s).length : Int)) = true := by simp [hul2]
          clear hul2 hul
          go_wp2_with (first
            | (go_at_call 109; refine hU.mono ?_; rintro e w2 ⟨rfl, hb2⟩; have own2 := map_but (F := fun _ => False) ownr (.below hb2) id; have c2 := (hb2.cell (p := ⟨B, 0, none⟩) hBr).trans c0)
            | (at_delete; refine wpList_delete_own _ rfl _ _ 137 9 rfl 146 keyed Tryz.underlying137 anyE M _ D' rfl own2 _ (kS s) rfl hkey ?_; intro w3 own3 ht3))
          have b3 := turned_but ht3.grown
          exact ⟨⟨k + 1, _, _, by omega, by go_num, rfl, hN2, (Mp.del (hMr.step hb2) q2 q3 own3 b3).wider, (hbr.step hb2).then b3 (fun _ _ => id), own_grown (own_below hown hb2) ht3.grown (fun j hj => by cases hj; omega)⟩, by simp [intOf]; omega⟩
        · have g1 : ((u : Int) == 0) = false := by simpa using hu0
          have g2 : ((u : Int) == ((hs l s).length : Int)) = false := by simpa using (fun e : (u : Int) = ((hs l s).length : Int) => hul2 (by omega))
          have hu3 : u < c := by omega
          have hd0 : (hs l s).drop u ≠ [] := fun e => by
            have := congrArg List.length e
            rw [List.length_drop] at this
            simp at this
            omega
          go_wp2_with (go_at_call 109; refine hU.mono ?_; rintro e w2 ⟨rfl, hb2⟩; have own2 := map_but (F := fun _ => False) ownr (.below hb2) id; have c2 := (hb2.cell (p := ⟨B, 0, none⟩) hBr).trans c0)
          have hMd : Mp w2.drew (Nw F w wr) B M D' (mid l a (dn ss k)) := (hMr.step hb2).step (below_self w2).drew
          have own2d : w2.drew.ownsMap Tryz.prog 9 anyE M (mid l a (dn ss k)).length D' := own2
          have hgd : g < w2.drew.heap.size := Nat.lt_of_lt_of_le hgl hb2.size
          have hBd : B < w2.drew.heap.size := Nat.lt_of_lt_of_le hBr hb2.size
          have hMd2 : M < w2.drew.heap.size := Nat.lt_of_lt_of_le hMr2 hb2.size
          have hszd : wr.heap.size ≤ w2.drew.heap.size := hb2.size
          have hCd : HiC w2.drew g 0 (hs l s) := (hHC.step hb2 hgl).step (below_self w2).drew (Nat.lt_of_lt_of_le hgl hb2.size)
          have hCl := clone g (u * 3) (c - u) ((hs l s).drop u) w2.drew (by rw [List.length_drop]; omega) hgd (hCd.dropped u)
          have hLd : ((hs l s).drop u).length = (hs l s).length - u := List.length_drop
          have hLp : 0 < ((hs l s).drop u).length := by omega
          have hcu : ¬ c = u := by omega
          have hmax : (mid l a (dn ss k)).length < maxLen := by
            have := len_mid_le l a (dn ss k)
            unfold maxLen; omega
          generalize hDe : (hs l s).drop u = d at hCl hLd hLp q2 hd0
          rw [hLd] at hCl hLp
          clear hDe hHC hCd hlk hU orow
          go_region_held3 (fun wy => wy.cell? ⟨B, 0, none⟩ = some (.map (some M))) (first | exact c2 | exact c3 | exact c4)
            (first
              | (go_at_call 110; (try rw [if_neg hcu]); refine hCl.mono ?_; rintro e w3 ⟨v3, rfl, row3, hb3⟩; have c3 := (hb3.cell (p := ⟨B, 0, none⟩) hBd).trans c2; have own3 := map_but (F := fun _ => False) own2d (.below hb3) id; obtain ⟨w4, hput, own4, hg4⟩ := own3.update keyed Tryz.underlying137 hmax hkey (val := v3) (d := .held v3) (ps := []) rfl; have b4 := turned_but hg4; have hs3 := hb3.size; have c4 := (b4.cell (p := ⟨B, 0, none⟩) (by show B < w3.heap.size; omega) (fun e => hMB e.symm)).trans c3))
          obtain ⟨g3, cc3, e3⟩ := own_block row3 hLp
          subst e3
          have hg3 : w2.drew.heap.size ≤ g3 := (row3.lt g3 rfl).1
          have gM3 : ¬ g3 = M := by omega
          have b24 : But (fun j => j = M) w2.drew w4 := (But.below hb3).then b4 (fun _ _ => id)
          have row4 : w4.ownsRow 0 184 3 (sl g3 ((hs l s).length - u) cc3) ((hs l s).length - u) (hiV d) := own_but (ownMono (Nat.zero_le _) row3) b4 gM3
          rw [← hLd] at row4 own4
          have hMp := Mp.set hMd hBd q2 hd0 q3 (.inr hg3) row4 own4 b24 (fun j _ e => .inl e)
          have hbd : But (fun j => j = M) w w2.drew := (hbr.step hb2).drew
          have hownk := own_grown (own_below (own_below (own_below hown hb2) (below_self w2).drew) hb3) hg4 (fun j hj => by cases hj; omega)
          clear hMd hMr own4 row4 row3 hput hcu hu3 hCl
          go_wp2_with fail
          exact ⟨⟨k + 1, _, _, by omega, by go_num, rfl, hN2, hMp.wide hszr hszd, hbd.then b24 (fun _ _ => id), hownk⟩, by simp [intOf]; omega⟩
      · have hkl : k = ss.length := by omega
        have hE : Hid (mid l a (dn ss k) = vcol l a) := by
          show _ = _
          rw [hkl]
          exact mid_all l a (fun x hx => dn_all ((hnd.out.2 _).2 (fun e => hs_nil.1 e x hx (by simp))))
        rw [hE.out] at hN hMr
        go_wp2
        go_ret2
        exact ⟨by rw [hN.out]; rfl, ⟨.inl gB, (hbr.cell (p := ⟨B, 1, none⟩) hBs (fun e => hMB e.symm)).trans c1, (hbr.frozen (p := ⟨B, 1, none⟩) hBs (fun e => hMB e.symm)).trans f1, M, D', (hbr.cell (p := ⟨B, 0, none⟩) hBs (fun e => hMB e.symm)).trans m0, hMr⟩, hbr.mono (fun j _ e => by rw [e]; exact gM)⟩
  · rw [show clS l a = l from if_neg h0, atF_ne h0, ev_ne (by decide)]
    rw [atF_ne h0, ev_ne (by decide)] at hC
    clear h0
    go_enter Tryz.func70, Tryz.ntmps70
    go_wp2_with (go_at_call 78; refine (hC _).mono ?_; rintro e w2 ⟨rfl, rfl⟩)
    go_ret2
    exact ⟨by simp, hT.mono (fun j _ hj => .inl hj), .refl _ _⟩
end Go.Proofs.YteipfdjpndhgkaaGreatDoor

/- The table of package vers is what the laws ask for. -/
namespace Go.Proofs.YteipfdjpndhgkaaGreatDoor
open Go.RowKit Vs

theorem face : Face Tab where
  but := fun h hb hE => h.but hb hE
  new := new
  put := fun k v n hT hO hl hF hk _ => put k v n _ hT hO hl hF hk
  drop := fun k n hT hO hl hF hk => drop k n _ hT hO hl hF hk
  get := fun k a hT hO hl hk => get k a _ hT hO hl hk
  range := fun lo hi a hT hO hl => range lo hi a _ hT hO hl
  touched := fun lo hi a hT hO hl hk => touched lo hi a _ hT hO hl hk
  collect := fun a hT hO hl hF => collect a _ hT hO hl hF
  size := fun hT hO hl => size _ hT hO hl
  top := fun hT _ _ => top_ _ hT
end Go.Proofs.YteipfdjpndhgkaaGreatDoor
