/- The contract of a transaction's list: its changes, sorted by their keys (maps.Values, slices.SortedFunc). -/
import Derived.RangeFuncNested
import Derived.RangeFuncBound
import Derived.RangeFuncCalls
import Derived.RangeFuncLeaves
import Derived.RangeFuncMany
import Derived.Shelf.Abstract
import Derived.Shelf.AbstractIn
import Derived.Shelf.RegionOpen
import Derived.Sort.MapsRangeIn
import Derived.WalkKit
import Derived.OwnWalkIn
import Derived.TacticsInMore
import Derived.RegionIn
import Derived.LoopNIn
import Derived.LoopIn
import Derived.Maps.AppendAt
import Derived.Test.YteipfdjpndhgkaaGreatDoorCME
import Derived.Test.YteipfdjpndhgkaaGreatDoorCDcShelf
import Derived.Test.YteipfdjpndhgkaaGreatDoorCMC
namespace Vs
/-- What has come of changes. -/
structure Com (own : List Chg) (left : ByteArray → Bool) (xs : List Chg) : Prop where
  mem : ∀ c, c ∈ xs ↔ c ∈ own ∧ left c.k = false
  once : xs.Pairwise (fun a b => a.k ≠ b.k)
theorem Com.start {own : List Chg} {left : ByteArray → Bool} (h : ∀ c ∈ own, left c.k = true) : Com own left [] :=
  ⟨fun c => ⟨fun g => by simp at g, fun g => by rw [h c g.1] at g; cases g.2⟩, .nil⟩
theorem Com.len {own : List Chg} {left : ByteArray → Bool} {xs : List Chg} (h : Com own left xs) : xs.length ≤ own.length := by
  have := nodup_le (ks := xs.map (·.k)) (ms := own.map (·.k)) (List.pairwise_map.2 h.once) (fun x hx => by
    obtain ⟨c, hc, rfl⟩ := List.mem_map.1 hx
    exact List.mem_map.2 ⟨c, ((h.mem c).1 hc).1, rfl⟩)
  simpa using this
theorem Com.more {own : List Chg} (hr : risC own) {left left' : ByteArray → Bool} {xs : List Chg} (h : Com own left xs) {x : Chg} (hx : x ∈ own) (hs : left x.k = true) (hl : ∀ t, left' t = (left t && !decide (t = x.k))) : Com own left' (xs ++ [x]) := by
  have hno : ∀ c ∈ xs, c.k ≠ x.k := fun c hc e => by
    have := ((h.mem c).1 hc).2
    rw [e, hs] at this; cases this
  refine ⟨fun c => ?_, List.pairwise_append.2 ⟨h.once, List.pairwise_singleton _ _, fun a ha b hb => by rw [List.mem_singleton.1 hb]; exact hno a ha⟩⟩
  rw [List.mem_append, h.mem c, hl, List.mem_singleton]
  constructor
  · rintro (⟨g1, g2⟩ | rfl)
    · exact ⟨g1, by rw [g2]; rfl⟩
    · exact ⟨hx, by simp⟩
  · rintro ⟨g1, g2⟩
    by_cases e : c.k = x.k
    · exact .inr (ris_once hr g1 hx e)
    · exact .inl ⟨g1, by simpa [e] using g2⟩
theorem Com.lt {own : List Chg} (hr : risC own) {left : ByteArray → Bool} {xs : List Chg} (h : Com own left xs) {x : Chg} (hx : x ∈ own) (hs : left x.k = true) : xs.length < own.length := by
  have := (h.more hr (left' := fun t => left t && !decide (t = x.k)) hx hs (fun _ => rfl)).len
  rw [List.length_append] at this
  simp at this; omega
theorem ris_uniq : ∀ {r s : List Chg}, risC r → risC s → (∀ p, p ∈ r ↔ p ∈ s) → r = s
  | [], [], _, _, _ => rfl
  | [], y :: s, _, _, h => by have := (h y).2 (by simp); simp at this
  | x :: r, [], _, _, h => by have := (h x).1 (by simp); simp at this
  | x :: r, y :: s, h1, h2, h => by
    obtain ⟨a1, a2⟩ := List.pairwise_cons.1 h1
    obtain ⟨b1, b2⟩ := List.pairwise_cons.1 h2
    have hxy : x = y := by
      rcases List.mem_cons.1 ((h x).1 (by simp)) with e | e
      · exact e
      · rcases List.mem_cons.1 ((h y).2 (by simp)) with e2 | e2
        · exact e2.symm
        · have := bl_trans (b1 x e) (a1 y e2)
          rw [bl_irr] at this; cases this
    subst hxy
    congr 1
    refine ris_uniq a2 b2 (fun p => ?_)
    constructor
    · intro hp
      rcases List.mem_cons.1 ((h p).1 (by simp [hp])) with e | e
      · subst e; have := a1 p hp; rw [bl_irr] at this; cases this
      · exact e
    · intro hp
      rcases List.mem_cons.1 ((h p).2 (by simp [hp])) with e | e
      · subst e; have := b1 p hp; rw [bl_irr] at this; cases this
      · exact e
/-- Sorted, it is what the transaction changed. -/
theorem Com.all {own : List Chg} (hr : risC own) {left : ByteArray → Bool} {xs ys : List Chg} (h : Com own left xs) (hl : ∀ t, left t = false) (hp : ys.Perm xs) (hs : ys.Pairwise (fun p q => bl q.k p.k = false)) : ys = own := by
  have hk2 : ys.Pairwise (fun p q => p.k ≠ q.k) := (hp.pairwise_iff (fun {_ _} h => Ne.symm h)).2 h.once
  refine ris_uniq ((hs.and hk2).imp (fun {p q} h => ?_)) hr (fun c => by rw [hp.mem_iff, h.mem c, hl]; simp)
  cases e : bl p.k q.k
  · exact absurd (bl_tri e h.1) h.2
  · rfl
end Vs
namespace Go.Proofs.YteipfdjpndhgkaaGreatDoor
open Go.RowKit Go.Maps Go.Sort Go.Shelf Vs

attribute [local go_sem] Oper.semAt_some

set_option maxRecDepth 100000 in
set_option maxHeartbeats 2000000 in
theorem dkVals1 (n l Bm b : Nat) (hn : 1 ≤ n) (D : DataW Value) (own : List Chg) (hO : OwnR D own) (hr : risC own) (J Jx : List Chg → World → Prop)
    (hY : ∀ pre x W, J pre W → pre.length < own.length → YieldAt Fence.wide (n - 1) Tryz.prog l #[chM x] W fun e W' =>
      (e = .returned (.bool true) ∧ J (pre ++ [x]) W' ∧ KeepsWalks W W') ∨ (e = .returned (.bool false) ∧ Jx (pre ++ [x]) W'))
    (W : World) (hJ : AbidesFrom W.heap.size J) (hm : W.cell? ⟨Bm, 0, none⟩ = some (.map (some b))) (hown : W.ownsMap Tryz.prog 9 anyE b own.length D) (h0 : J [] W) :
    CallsIn Fence.wide n Tryz.prog 130 #[.func (.yield l) #[] #[], .pointer (some ⟨Bm, 0, none⟩)] W fun e W' => (∃ v, e = .returned v) ∧
      ((∃ xs, (∃ left, Com own left xs ∧ ∀ t, left t = false) ∧ J xs W') ∨ (∃ pre, True ∧ Jx pre W')) := by
  have hlk0 := fun k => (look_at hown (kS k) undef).2
  refine callsIn_of_wp Tryz.func130 rfl trivial ?_ rfl
  simp only [Tryz.ntmps130, List.size_toArray, List.length_cons, List.length_nil, Nat.reduceAdd, Nat.reduceSub, Array.replicate_succ, Array.replicate_zero, List.push_toArray, List.append_toArray, List.nil_append, List.cons_append]
  gi_wp2_with (first
    | (gi_at_range; refine wpListIn_range_own _ rfl _ 111 rfl 9 50 keyed Tryz.underlying111 anyE b own.length D rfl hown ?_; intro w0 hrg0 hg0 hs0)
    | gi_in)
  go_frame
  have hstart : Hid (Com own (fun k => Maps.has D (kS k)) []) := Com.start (fun c hc => by rw [hlk0, hO c.k, ownC_is hr hc]; rfl)
  gi_loopw [4] (fun _ wr => ∃ (left : Lit → Bool) (cnt : Nat) (xs : List Chg), wr.ranges Tryz.prog 9 anyE b W.heap.size own.length D left cnt ∧ Hid (Com own (fun k => left (kS k)) xs) ∧ J xs wr)
    (fun _ wr => wr.rangeLeft b W.heap.size)
  case atStart =>
    exact ⟨_, _, [], hrg0, hstart, hJ [] W w0 none h0 hg0 (fun r e => by cases e)⟩
  case round =>
    obtain ⟨left, cnt, xs, hrg, hC, hJs⟩ := hrel
    gi_wp2_with (first
      | (gi_at_next; refine wpListIn_next_ranges _ rfl _ rfl 9 keyed anyE Value.string id (fun key kl hk => by obtain ⟨x, _, _, hx⟩ := Maps.keyOf_str Tryz.underlying9 hk; exact ⟨_, by assumption⟩) (fun v y _ => ⟨v, rfl⟩) b W.heap.size own.length D left cnt rfl hrg ?_ ?_)
      | gi_in)
    · intro hc0 hl0
      clear hstart
      gi_wp2
      go_end0
      exact ⟨⟨_, rfl⟩, .inl ⟨xs, ⟨_, hC.out, fun t => hl0 _⟩, hJs⟩⟩
    · intro k v kl yd yp w2 cnt2 hkey hlk hv hat hrg2 hlt hg2 hs2 hen
      have e1 : kl = kS k := by
        simp [keyOf, Tryz.underlying9, mapKey] at hkey
        exact hkey.2.symm
      subst e1
      have hyv : yd = .held v := by
        have : anyE v = some (yd, yp) := hv
        simp [anyE] at this
        rw [← this.1]
      have hlook : look D (kS k) = some v := by
        have ha := hat (.held undef)
        have hh : Maps.has D (kS k) = true := Maps.has_true_of_atKey (y := yd) hat
        unfold look
        rw [if_pos hh, ha, hyv]
      obtain ⟨x, hx, rfl⟩ := hO.found hlook
      obtain ⟨xm, xk⟩ := ownC_some hx
      have hC2 : Hid (Com own (fun k' => (fun z => left z && !z.sameKey (kS k)) (kS k')) (xs ++ [x])) := hC.out.more hr xm (by rw [xk]; exact hlk) (fun t => by
        show (left (kS t) && !(kS t).sameKey (kS k)) = _
        rw [sameS, xk])
      have hlt2 := hC.out.lt hr xm (by rw [xk]; exact hlk)
      have hJ2 : J xs w2 := hJ _ wr w2 (some W.heap.size) hJs hg2 (fun r e => by cases e; exact ⟨Nat.le_refl _, hrg.iter_walk⟩)
      have hJ3 : J xs (w2.alloc (.cells #[.string x.k, .string x.v, .bool x.g] 50)) := hJ _ w2 _ none hJ2 (World.grownBy_alloc _ _ _) (fun r e => by cases e)
      obtain ⟨fn, tmps, assign, body, hy, hR⟩ := hY xs x _ hJ3 hlt2
      clear hs2 hC hstart hlook hx xk hkey hv hat hyv
      gi_wp2
      refine hR.mono ?_
      rintro e W3 (⟨rfl, hJ4, hk3⟩ | ⟨rfl, hJx3⟩)
      · gi_wp2
        have hrg3 := (hrg2.alloc (.cells #[.string x.k, .string x.v, .bool x.g] 50)).of_walks hk3
        go_roundw
        case rel => exact ⟨_, cnt2, xs ++ [x], hrg3, hC2, hJ4⟩
        case measure => rw [hrg3.left_eq, hrg.left_eq]; exact hlt
      · gi_wp2
        refine bodyPost_ret (results_none rfl _ _ _) rfl ?_
        exact ⟨⟨_, rfl⟩, .inr ⟨_, trivial, hJx3⟩⟩
theorem dkVals (mb : Option Nat) (w : World) : Calls Tryz.prog 96 #[.map mb] w fun e w' => e = .returned (.func (.func 130) #[] #[.pointer (some ⟨w.heap.size, 0, none⟩)]) ∧ w' = w.alloc (.cells #[.map mb] 111) := by
  go_enter Tryz.func96, Tryz.ntmps96
  go_wp2
  go_ret
  exact ⟨rfl, rfl⟩
theorem dkValsSeq (n : Nat) (hn : 1 ≤ n) (Bm b : Nat) (D : DataW Value) (own : List Chg) (hO : OwnR D own) (hr : risC own) (w : World) (hBm : Bm < w.heap.size) (hm : w.cell? ⟨Bm, 0, none⟩ = some (.map (some b))) (hown : w.ownsMap Tryz.prog 9 anyE b own.length D) :
    SeqStopsK Fence.wide n Tryz.prog 130 #[.pointer (some ⟨Bm, 0, none⟩)] (fun x : Chg => #[chM x]) KeepsWalks (fun xs => ∃ left, Com own left xs ∧ ∀ t, left t = false) (fun _ => True) own.length w := fun l J Jx W hW hJ _ hY h0 =>
  dkVals1 n l Bm b hn D own hO hr J Jx hY W hJ ((hW.cell (p := ⟨Bm, 0, none⟩) hBm).trans hm) (map_but (F := fun _ => False) hown (.below hW) id) h0
theorem keeps_walks {W W' : World} (h : KeepsOthers W W') : KeepsWalks W W' := ⟨h.size, fun k o hk hw => h.same k o hk (Obj.not_cells_of_walk hw)⟩
set_option maxRecDepth 100000 in
set_option maxHeartbeats 4000000 in
theorem dkAppendSeq (b Bm : Nat) (D : DataW Value) (own : List Chg) (hO : OwnR D own) (hr : risC own) (hl : own.length ≤ 20) (w : World) (hBm : Bm < w.heap.size) (hm : w.cell? ⟨Bm, 0, none⟩ = some (.map (some b))) (hown : w.ownsMap Tryz.prog 9 anyE b own.length D) :
    Calls Tryz.prog 162 #[.slice none 0 0, .func (.func 130) #[] #[.pointer (some ⟨Bm, 0, none⟩)]] w fun e w' => ∃ (v : Value) (xs : List Chg) (left : ByteArray → Bool), e = .returned v ∧ (Com own left xs ∧ ∀ t, left t = false) ∧ w'.ownsRow w.heap.size 50 3 v xs.length (chV xs) ∧ Below w.heap.size w w' := by
  obtain ⟨i0, hin, hz0, hz1, hz2⟩ := info_parts infoChg
  refine (callsIn_wide (n := 9)).1 ?_
  refine callsIn_of_wp_marks Tryz.func162 rfl trivial ?_ rfl
  simp only [Tryz.ntmps162, List.size_toArray, List.length_cons, List.length_nil, Nat.reduceAdd, Nat.reduceSub, Array.replicate_succ, Array.replicate_zero, List.push_toArray, List.append_toArray, List.nil_append, List.cons_append]
  gi_wp2
  have hs := Boxed.new w 88 (.slice none 0 0)
  have hB0 : Below w.heap.size w (w.alloc (.cells #[.slice none 0 0] 88)) := (Below.refl _ w).alloc (Nat.le_refl _) _
  refine wpIn_rangeFunc_ownH rfl (by decide) (gf := 130) (lb := #[.pointer (some ⟨Bm, 0, none⟩)]) rfl trivial (enters_of Tryz.func130 (by kernel_rfl) rfl)
    (dkValsSeq 8 (by decide) Bm b D own hO hr _ (by simp; omega) ((hB0.cell (p := ⟨Bm, 0, none⟩) hBm).trans hm) (hown.alloc _)) walksK_t (walksK_b (w := w.alloc (.cells #[.slice none 0 0] 88))) (Below.refl _ _) (fun _ => rfl)
    (fun pre W => (∃ v, Boxed W w.heap.size 88 v ∧ W.ownsRow w.heap.size 50 3 v pre.length (chV pre) ∧ True) ∧ Below w.heap.size w W)
    (fun _ _ _ => False)
    (OwnFrom.and (Own.from (holdsRow_own w.heap.size w.heap.size 88 50 3 (fun pre : List Chg => pre.length) (fun pre => chV pre) (fun _ _ => True)) _) (ownFrom_below (Nat.le_refl _) (by simp)))
    (fun _ _ _ _ _ hs _ _ => hs)
    ⟨⟨_, hs, World.ownsRow_nil _ _ _ _, trivial⟩, hB0⟩
    (fun x a' W => ∃ Bx, w.heap.size < Bx ∧ W.cell? ⟨Bx, 0, none⟩ = some (.string x.k) ∧ W.cell? ⟨Bx, 1, none⟩ = some (.string x.v) ∧ W.cell? ⟨Bx, 2, none⟩ = some (.bool x.g) ∧ a' = { tmps := #[.slice none 0 0, .func (.func 130) #[] #[.pointer (some ⟨Bm, 0, none⟩)], .pointer (some ⟨w.heap.size, 0, none⟩), undef, .slice none 0 0, .pointer (some ⟨Bx, 0, none⟩), .func (.func 130) #[] #[.pointer (some ⟨Bm, 0, none⟩)], chM x, undef, undef, undef, undef, undef], defers := [] })
    (fun x a' _ X Y row hs hg hr => by obtain ⟨Bx, h1, h2, h3, h4, h5⟩ := hs; exact ⟨Bx, h1, cell_kept h2 hg (fun r e => (hr r e).2), cell_kept h3 hg (fun r e => (hr r e).2), cell_kept h4 hg (fun r e => (hr r e).2), h5⟩)
    ?assign ?body ?done ?stop
  case assign =>
    rintro l pre x W K ⟨⟨v, hbx, hrow, -⟩, hB1⟩ hK
    gi_wp2
    exact hK _ _ ((KeepsOthers.alloc _ _).from _) (keeps_walks (KeepsOthers.alloc _ _)) ⟨⟨v, hbx.alloc _, hrow.alloc _, trivial⟩, hB1.alloc hB1.size _⟩ ⟨W.heap.size, hbx.lt, by simp, by simp, by simp, rfl⟩
  case body =>
    rintro l pre x a' W hl' ⟨r, hr'⟩ ⟨⟨v, hbx, hrow, -⟩, hB1⟩ ⟨Bx, hBx, b0, b1, b2, rfl⟩ hlt
    obtain ⟨pv, cv, rfl, -⟩ := lw_form hrow
    have hszw := hB1.size
    have hc := hbx.cell
    gi_wp2_with (gi_at_builtin; refine wpListIn_append_own _ rfl _ _ 88 rfl w.heap.size 50 i0 _ 3 40 Tryz.underlying88 hin hz0 hz1 hz2 rfl (by decide) _ _ _ rfl (hrow.alloc _) ⟨W.heap.size, 0, none⟩ 1 1 (chV [x]) rfl rfl (fun j u hj => by rw [show (⟨W.heap.size, 0, none⟩ : Addr).add j = ⟨W.heap.size, j, none⟩ from by unfold Addr.add; split <;> simp_all]; exact three_new _ _ _ _ _ _ rfl j u hj) (chV_one _) (by unfold maxLen; omega) (by omega) (by simp; omega) ?_; intro v' w1' hown' hgrow _; obtain ⟨g', cap', rfl⟩ := ownsRow_succ hown'; obtain ⟨hv1, hv2, hr2, hk2, hb3⟩ := hbx.appended (by decide) hrow hszw (Nat.le_refl _) hown' hgrow; have hc1 := hv1.cell; have hf1 := hv1.frozen)
    refine ⟨hk2.from _, keeps_walks hk2, ⟨_, hv2, ?_, trivial⟩, hB1.trans hb3⟩
    rw [chV_app, List.length_append]
    exact hr2
  case done =>
    rintro Dd ys W hD ⟨left, hys, hall⟩ ⟨⟨v, hbx, hrow, -⟩, hB⟩ hK
    obtain ⟨pv, cv, rfl, -⟩ := lw_form hrow
    have hc := hbx.cell
    gi_wp2
    refine ⟨by simp, .inl ⟨_, _, rfl, run_takeDeferred hK, ?_⟩⟩
    exact ⟨_, results_tmp rfl _ _ _, _, ys, left, rfl, ⟨hys, hall⟩, ownsRow_putObj hrow _ hK rfl, hB.trans (belowK_b (w := w) (Nat.le_refl _) W Dd _ _ (by simp at hD; omega) hK rfl rfl)⟩
  case stop =>
    rintro Dd c pre W _ _ h _
    exact h.elim
theorem dkCollect (b Bm : Nat) (D : DataW Value) (own : List Chg) (hO : OwnR D own) (hr : risC own) (hl : own.length ≤ 20) (w : World) (hBm : Bm < w.heap.size) (hm : w.cell? ⟨Bm, 0, none⟩ = some (.map (some b))) (hown : w.ownsMap Tryz.prog 9 anyE b own.length D) :
    Calls Tryz.prog 128 #[.func (.func 130) #[] #[.pointer (some ⟨Bm, 0, none⟩)]] w fun e w' => ∃ (v : Value) (xs : List Chg) (left : ByteArray → Bool), e = .returned v ∧ (Com own left xs ∧ ∀ t, left t = false) ∧ w'.ownsRow w.heap.size 50 3 v xs.length (chV xs) ∧ Below w.heap.size w w' := by
  have K := dkAppendSeq b Bm D own hO hr hl w hBm hm hown
  go_enter Tryz.func128, Tryz.ntmps128
  go_wp2_with (go_at_call 162; refine K.mono ?_; rintro e w2 ⟨v, xs, left, rfl, hC, hrow, hb⟩)
  go_ret
  exact ⟨v, xs, left, rfl, hC, hrow, hb⟩
def encCh (x : Chg) : List Value := [.string x.k, .string x.v, .bool x.g]
abbrev cfC (x y : Chg) : Int := cmS x.k y.k
theorem ltC (x y : Chg) : ltOf cfC x y = bl x.k y.k := by
  unfold ltOf cfC cmS
  cases h1 : bl x.k y.k
  · cases h2 : bl y.k x.k <;> simp
  · simp
theorem swoC : SWO (ltOf cfC) where
  irrefl x := by rw [ltC]; exact bl_irr _
  trans x y z h1 h2 := by rw [ltC] at *; exact bl_trans h1 h2
  ntrans x y z h1 h2 := by
    rw [ltC] at *
    cases h : bl x.k z.k
    · rfl
    · cases h3 : bl y.k x.k
      · rw [bl_tri h1 h3] at h; rw [h] at h2; cases h2
      · have := bl_trans h3 h; rw [this] at h2; cases h2
set_option maxHeartbeats 1000000 in
theorem closureC (x y : Chg) (W : World) : Calls Tryz.prog 97 #[.agg #[.string x.k, .string x.v, .bool x.g], .agg #[.string y.k, .string y.v, .bool y.g]] W fun e w' => e = .returned (.int .i64 (cmS x.k y.k)) ∧ ∃ q os', w' = grow (W.drewN q) os' := by
  have hcon := fun W' => compareS x.k y.k W'
  generalize cmS x.k y.k = r at hcon ⊢
  go_enter Tryz.func97, Tryz.ntmps97
  go_wp2_with (go_at_call 83; refine (hcon _).mono ?_; rintro e w' ⟨rfl, rfl⟩)
  go_ret
  exact ⟨rfl, 0, _, by rw [alloc_eq_grow, alloc_eq_grow, grow_grow]; rfl⟩
theorem holds_chV {w : World} {B g cap e : Nat} {xs : List Chg} [Inhabited Chg] (h : w.ownsRow B e 3 (.slice (some ⟨g, 0, none⟩) xs.length cap) xs.length (chV xs)) : HoldsK encCh 3 w g 0 xs.toArray := by
  intro j hj
  rw [size_flatK] at hj
  have hj' : j < xs.length * 3 := by simpa using hj
  rw [get_flatK _ _ _ _ hj]
  have hi : j / 3 < xs.length := by omega
  have hx : xs.toArray[j / 3]! = xs[j / 3] := by simp [hi]
  have hv := chV_at xs (j / 3) xs[j / 3] (List.getElem?_eq_getElem hi)
  rw [hx, Nat.zero_add, h.cellAt j (by omega)]
  refine ⟨?_, h.frozenAt _⟩
  rcases (show j % 3 = 0 ∨ j % 3 = 1 ∨ j % 3 = 2 by omega) with e | e | e
  · have ej : j = j / 3 * 3 := by omega
    rw [e]
    conv => lhs; rw [ej]
    rw [hv.1]; rfl
  · have ej : j = j / 3 * 3 + 1 := by omega
    rw [e]
    conv => lhs; rw [ej]
    rw [hv.2.1]; rfl
  · have ej : j = j / 3 * 3 + 2 := by omega
    rw [e]
    conv => lhs; rw [ej]
    rw [hv.2.2]; rfl
theorem grownBy_sortedC [Inhabited Chg] {w : World} {g n : Nat} {os : Array Obj} (d : Array Chg) : w.grownBy (sortWorldK encCh 3 w g 0 n d os) (some g) := by
  refine ⟨rfl, rfl, rfl, by have := size_sortWorldK_c encCh 3 w g 0 n d os; exact this, fun k hk hne => ?_⟩
  unfold sortWorldK
  rw [heap_grow_old _ _ (by rw [size_putRowK]; simpa using hk)]
  have : g ≠ k := fun e => hne (by rw [e])
  simp [putRowK, putRow, mapBlock, Sort.ahead, Array.getElem?_modify, this]
theorem sortChanges (B g cap : Nat) (xs : List Chg) (w : World) (hown : w.ownsRow B 50 3 (.slice (some ⟨g, 0, none⟩) xs.length cap) xs.length (chV xs)) (hg : g < w.heap.size) (hl : xs.length ≤ 2000) :
    Calls Tryz.prog 129 #[.slice (some ⟨g, 0, none⟩) xs.length cap, .func (.func 97) #[] #[]] w fun e w' => e = .returned (.tuple #[]) ∧ ∃ ys : List Chg, ys.Perm xs ∧ ys.Pairwise (fun p q => bl q.k p.k = false) ∧ w'.ownsRow B 50 3 (.slice (some ⟨g, 0, none⟩) xs.length cap) xs.length (chV ys) ∧ w.grownBy w' (some g) := by
  have : Inhabited Chg := ⟨⟨ByteArray.empty, ByteArray.empty, false⟩⟩
  have eg : ∀ args w, (callFunc 97 args).run Tryz.prog w = .ok (.enter 97 args) w := enters_of Tryz.func97 (by kernel_rfl) rfl
  have hH := holds_chV hown
  have hcon := AnyQ.slices_SortFunc Tryz.laySortC 3 Tryz.isAgg50 Tryz.sizeOf50 encCh (fun _ => rfl) (fun x v hv => by simp [encCh] at hv; rcases hv with rfl | rfl | rfl <;> rfl) cfC swoC 97 #[] g 0 cap xs.toArray w eg (fun _ _ _ _ x y => closureC x y _) hH hg (by simp; omega)
  change Calls Tryz.prog 129 _ _ _ at hcon
  rw [show xs.toArray.size = xs.length from by simp] at hcon
  refine hcon.mono ?_
  rintro e w' ⟨rfl, d', n, os, hp, hs, rfl⟩
  have hsz : d'.size = xs.length := by simpa using hp.1
  refine ⟨rfl, d'.toList, ?_, ?_, own_sortK (enc := encCh) (fun _ => rfl) d' os hown hsz, grownBy_sortedC d'⟩
  · have := hp.2.2
    rw [show d'.extract 0 xs.length = d' from by rw [← hsz]; simp, show xs.toArray.extract 0 xs.length = xs.toArray from by simp] at this
    simpa using this
  · rw [List.pairwise_iff_getElem]
    intro i j hi hj hij
    have := hs i j (by omega) hij (by simp at hj ⊢; omega)
    rw [ltC] at this
    simp at hi hj
    simp [hi, hj] at this
    simpa using this
theorem sortNoneC (p : Option Addr) (cap : Nat) (fv : Value) (w : World) : Calls Tryz.prog 129 #[.slice p 0 cap, fv] w fun e w' => e = .returned (.tuple #[]) ∧ w' = w :=
  AnyF.slices_SortFunc_none Tryz.laySortC p cap fv w
set_option maxHeartbeats 1000000 in
theorem dkSorted (b Bm : Nat) (D : DataW Value) (own : List Chg) (hO : OwnR D own) (hr : risC own) (hl : own.length ≤ 20) (w : World) (hBm : Bm < w.heap.size) (hm : w.cell? ⟨Bm, 0, none⟩ = some (.map (some b))) (hown : w.ownsMap Tryz.prog 9 anyE b own.length D) :
    Calls Tryz.prog 95 #[.func (.func 130) #[] #[.pointer (some ⟨Bm, 0, none⟩)], .func (.func 97) #[] #[]] w fun e w' => ∃ (v : Value), e = .returned v ∧ w'.ownsRow w.heap.size 50 3 v own.length (chV own) ∧ Below w.heap.size w w' := by
  have K := dkCollect b Bm D own hO hr hl w hBm hm hown
  go_enter Tryz.func95, Tryz.ntmps95
  go_wp2_with (go_at_call 128; refine K.mono ?_; clear K; rintro e w2 ⟨v, xs, left, rfl, ⟨hC, hall⟩, hrow, hb⟩)
  by_cases hn : xs.length = 0
  · have hx0 : xs = [] := List.eq_nil_of_length_eq_zero hn
    have hE : Hid ([] = own) := Com.all hr hC hall (by rw [hx0]) .nil
    obtain ⟨p, c, rfl, -⟩ := lw_form hrow
    subst hx0
    refine (sortNoneC p c _ _).mono ?_
    rintro e w3 ⟨rfl, hw⟩
    have := hw.symm
    subst this
    go_wp2
    go_ret
    exact ⟨_, rfl, by rw [← hE.out]; exact hrow, hb⟩
  · obtain ⟨g, c, rfl⟩ := own_block hrow (by omega)
    have hlen := hC.len
    refine (sortChanges w.heap.size g c xs w2 hrow (own_lt hrow) (by omega)).mono ?_
    rintro e w3 ⟨rfl, ys, hp, hs, hat, hg3⟩
    have hE : Hid (ys = own) := Com.all hr hC hall hp hs
    have hge : w.heap.size ≤ g := (hrow.lt g rfl).1
    have hlen2 : Hid (xs.length = own.length) := by show _ = _; rw [← hE.out, hp.length_eq]
    go_wp2
    go_ret
    refine ⟨_, rfl, ?_, hb.grown hg3 hb.size (fun j hj => by cases hj; exact hge)⟩
    rw [hE.out] at hat
    rw [← hlen2.out]; exact hat
theorem dkList {w : World} {G : Nat → Prop} {b : Nat} {sees : Int} {v : Value} {qs : List Pr} {M : Nat} {D : DataW Value} {own : List Chg} (h : TX w G b sees v qs M D) (hO : OwnR D own) (hr : risC own) (hl : own.length ≤ 20) :
    Calls Tryz.prog 61 #[.pointer (some ⟨b, 0, none⟩)] w fun e w' => ∃ (v : Value), e = .returned v ∧ w'.ownsRow w.heap.size 50 3 v own.length (chV own) ∧ Below w.heap.size w w' := by
  obtain ⟨n, ho⟩ := h.own
  have hot := own_tight ho
  rw [hO.size ho hr] at hot
  have c2 := h.c2
  have K1 := dkVals (some M) w
  have hb1 := below_al (below_self w) (.cells #[.map (some M)] 111)
  have K2 := dkSorted M w.heap.size D own hO hr hl (w.alloc (.cells #[.map (some M)] 111)) (by simp) (by simp) (hot.alloc _)
  go_enter Tryz.func61, Tryz.ntmps61
  go_wp2_with (first
    | (go_at_call 96; refine K1.mono ?_; clear K1; rintro e w2 ⟨rfl, rfl⟩)
    | (go_at_call 95; refine K2.mono ?_; clear K2; rintro e w3 ⟨u, rfl, hrow, hb⟩))
  go_ret
  exact ⟨u, rfl, ownMono (by simp) hrow, below_via hb1 hb⟩
end Go.Proofs.YteipfdjpndhgkaaGreatDoor
