/- The contracts of blockBits, and of the iterator that blocks hands out. -/
import Derived.RangeFuncNested
import Derived.RangeFuncBound
import Derived.RangeFuncCalls
import Derived.RangeFuncLeaves
import Derived.Shelf.Abstract
import Derived.Shelf.RegionOpen
import Derived.WalkKit
import Derived.OwnWalkIn
import Derived.TacticsInMore
import Derived.LoopNIn
import Derived.LoopIn
import Derived.Test.YtfhidiedmenliaaGreatDoorCvShelf
import Derived.Test.YtfhidiedmenliaaGreatDoorShelf
import Derived.Test.YtfhidiedmenliaaGreatDoorCvMath2
import Derived.Test.YtfhidiedmenliaaGreatDoorSpWalkD
namespace Go.Proofs.YtfhidiedmenliaaGreatDoor
open Go.RowKit Go.Shelf

attribute [local go_sem] Oper.semAt_some

/-- The table of math/bits in its variable. -/
abbrev Tab (w : World) : Prop := TabAt 2 Lib.deBruijn64tab w
theorem Tab.step {w w' : World} {n : Nat} (h : Tab w) (hb : Below n w w') (hn : 2 < n) : Tab w' := fun j hj => (hb.cell (p := ⟨2, j, none⟩) hn).trans (h j hj)
theorem Tab.lt {w : World} (h : Tab w) : 2 < w.heap.size := by
  have := World.block_lt_of_cell? _ _ (h 0 (by decide))
  exact this
theorem tz (x : Nat) (hx : x < 18446744073709551616) (w : World) (hT : Tab w) : Calls Tryz.prog 73 #[.int .u64 x] w fun e w' => e = .returned (.int .i64 (Lib.ctz 64 x)) ∧ w' = w :=
  Any7.bits_TrailingZeros Tryz.layTz x hx w (fun _ => hT)

set_option maxRecDepth 100000 in
set_option maxHeartbeats 4000000 in
theorem blockBits (lo hi : Int) (w : World) (h0 : 0 ≤ lo) (h1 : lo ≤ hi) (h2 : hi ≤ 4294967295) (hT : Tab w) : Calls Tryz.prog 62 #[.int .i64 lo, .int .i64 hi] w fun e w' => e = .returned (.int .i64 (Bur.fr lo hi)) ∧ w' = w := by
  obtain ⟨x, rfl⟩ := Int.eq_ofNat_of_zero_le h0
  obtain ⟨n, hn⟩ : ∃ n : Nat, hi - (x : Int) + 1 = (n : Int) := ⟨(hi - x + 1).toNat, by omega⟩
  have hx : x < 18446744073709551616 := by omega
  have hn1 : 0 < n := by omega
  have hn2 : n ≤ 4294967296 := by omega
  have u1 : IntKind.u64.wrap (x : Int) = (x : Int) := by rw [IntKind.wrap_u64]; omega
  have u2 : IntKind.u64.wrap (n : Int) = (n : Int) := by rw [IntKind.wrap_u64]; omega
  have bl1 : 1 ≤ Lib.bitLen n := by
    have := Bur.bitLen_le_iff n 0 (by omega)
    apply Nat.lt_of_not_le
    intro h
    have := this.1 h
    simp at this; omega
  have p33 : (2 : Nat) ^ 33 = 8589934592 := by decide
  have bl2 : Lib.bitLen n ≤ 33 := (Bur.bitLen_le_iff n 33 (by omega)).2 (by omega)
  clear p33
  have E : Hid (Bur.fr (x : Int) hi = min (Lib.ctz 64 x) (Lib.bitLen n - 1)) := by show _ = _; unfold Bur.fr; rw [hn]; simp
  have ct := tz x hx w hT
  have cl : Calls Tryz.prog 64 #[.int .u64 (n : Int)] w fun e w' => e = .returned (.int .i64 (Lib.bitLen n)) ∧ w' = w := by
    have := Tryz.bits_Len (n : Int) w (by omega) (by omega)
    rwa [Int.toNat_natCast] at this
  have hc : Lib.ctz 64 x ≤ 64 := by
    unfold Lib.ctz
    split
    · exact Nat.le_refl _
    · have := (Lib.ctzFrom_spec 64 x (by omega) (by omega)).choose_spec.2
      omega
  generalize Lib.ctz 64 x = c at E ct hc
  generalize Lib.bitLen n = b at E cl bl1 bl2
  clear hT
  rw [E.out]
  go_enter Tryz.func62, Tryz.ntmps62
  go_wp2_with (first | (go_at_call 73; refine ct.mono ?_; rintro e w1 ⟨rfl, rfl⟩) | (go_at_call 64; refine cl.mono ?_; rintro e w2 ⟨rfl, rfl⟩))
  all_goals (go_ret; refine ⟨ret_int ?_, rfl⟩; omega)

/-- Block B is two numbers of type t. -/
def Pair (W : World) (B t : Nat) (x y : Int) : Prop := W.heap[B]? = some (.cells #[.int .i64 x, .int .i64 y] t (0, 0))
theorem Pair.lt {W : World} {B t : Nat} {x y : Int} (h : Pair W B t x y) : B < W.heap.size := (Array.getElem?_eq_some_iff.1 h).1
theorem Pair.c0 {W : World} {B t : Nat} {x y : Int} (h : Pair W B t x y) : W.cell? ⟨B, 0, none⟩ = some (.int .i64 x) := by simp [World.cell?, show W.heap[B]? = _ from h]
theorem Pair.c1 {W : World} {B t : Nat} {x y : Int} (h : Pair W B t x y) : W.cell? ⟨B, 1, none⟩ = some (.int .i64 y) := by simp [World.cell?, show W.heap[B]? = _ from h]
theorem Pair.kept {W W' : World} {row : Option Nat} {B t : Nat} {x y : Int} (h : Pair W B t x y) (hg : W.grownBy W' row) (hne : some B ≠ row) : Pair W' B t x y := (hg.block B h.lt hne).trans h
theorem Pair.alloc {W : World} {B t : Nat} {x y : Int} (h : Pair W B t x y) (o : Obj) : Pair (W.alloc o) B t x y := h.kept (World.grownBy_alloc W o none) (by simp)
theorem Pair.new (W : World) (t : Nat) (x y : Int) : Pair (W.alloc (.cells #[.int .i64 x, .int .i64 y] t)) W.heap.size t x y := World.alloc_heap_new W _
theorem Pair.step {W W' : World} {n B t : Nat} {x y : Int} (h : Pair W B t x y) (hb : Below n W W') (hn : B < n) : Pair W' B t x y := (hb.block B hn).trans h
theorem Pair.put {W : World} {B t : Nat} {x y : Int} (h : Pair W B t x y) {l : Nat} {o : Obj} (o' : Obj) (hl : W.heap[l]? = some o) (ho : o.isCells = false) : Pair (W.putObj l o') B t x y :=
  h.kept (grownBy_putObj' W l o') (fun e => by cases e; rw [show W.heap[B]? = _ from h] at hl; cases hl; cases ho)
theorem Pair.not_row {W : World} {B t e : Nat} {x y : Int} (h : Pair W B t x y) (hte : t ≠ e) {base size k : Nat} {v : Value} {xs : List Value} (hr : W.ownsRow base e size v k xs) : some B ≠ v.ownBlock := by
  rcases hr.2 with ⟨rfl, _⟩ | ⟨g, cap, cur, rfl, _, hgb, _⟩
  · simp [Value.ownBlock]
  · intro e'
    obtain rfl : B = g := by simpa [Value.ownBlock] using e'
    have := (show W.heap[B]? = _ from h).symm.trans hgb
    simp at this
    exact hte this.2
theorem pair_own {β : Type} (B t : Nat) (x y : Int) : Own (fun (_ : β) W => Pair W B t x y) := fun _ X _ _ hs hg hrow =>
  hs.kept hg (fun e' => by obtain ⟨o, ho, hc⟩ := hrow B e'.symm; rw [show X.heap[B]? = _ from hs] at ho; cases ho; cases hc)

/-- What a round that goes on keeps: the span that the iterator reads, and what lay below n. -/
def Kp (n B : Nat) (lo hi : Int) (W W' : World) : Prop := (Pair W B 53 lo hi → Pair W' B 53 lo hi) ∧ Below n W W'
theorem Kp.t {n B : Nat} {lo hi : Int} {X Y Z : World} (h : Kp n B lo hi X Y) (k : Kp n B lo hi Y Z) : Kp n B lo hi X Z := ⟨fun p => k.1 (h.1 p), h.2.trans k.2⟩
theorem Kp.b {n B : Nat} {lo hi : Int} {w : World} (hn : n ≤ w.heap.size) (W : World) (l : Nat) (o o' : Obj) (hl : w.heap.size ≤ l) (h : W.heap[l]? = some o) (hc : o.isCells = false) (hw : o.isWalk = false) : Kp n B lo hi W (W.putObj l o') :=
  ⟨fun p => p.put o' h hc, belowK_b hn W l o o' hl h hc hw⟩
def encP (x : Bur.Sp) : Array Value := #[.agg #[.int .i64 x.1, .int .i64 x.2]]

set_option maxRecDepth 100000 in
set_option maxHeartbeats 4000000 in
/-- The iterator: the prefixes of the span, rising; or the first of them, where a round has said that it wants no more. -/
theorem blocks1 (n l B n₀ : Nat) (hn₀ : 2 < n₀) (lo hi : Int) (h0 : 0 ≤ lo) (h1 : lo ≤ hi) (h2 : hi ≤ 4294967295) (J Jx : List Bur.Sp → World → Prop)
    (hY : ∀ pre x W, J pre W → pre.length < (Bur.cov lo hi).length → YieldAt Fence.wide (n - 1) Tryz.prog l (encP x) W fun e W' =>
      (e = .returned (.bool true) ∧ J (pre ++ [x]) W' ∧ Kp n₀ B lo hi W W') ∨ (e = .returned (.bool false) ∧ Jx (pre ++ [x]) W'))
    (W : World) (hB : Pair W B 53 lo hi) (hT : Tab W) (hJ0 : J [] W) :
    CallsIn Fence.wide n Tryz.prog 61 #[.func (.yield l) #[] #[], .pointer (some ⟨B, 0, none⟩)] W fun e W' => (∃ v, e = .returned v) ∧
      ((∃ ys, ys = Bur.cov lo hi ∧ J ys W') ∨ (∃ pre, pre <+: Bur.cov lo hi ∧ Jx pre W')) := by
  have hc0 := hB.c0
  refine callsIn_of_wp Tryz.func61 rfl trivial ?_ rfl
  simp only [Tryz.ntmps61, List.size_toArray, List.length_cons, List.length_nil, Nat.reduceAdd, Nat.reduceSub, Array.replicate_succ, Array.replicate_zero, List.push_toArray, List.append_toArray, List.nil_append, List.cons_append]
  gi_wp2
  gi_loopw [3] (fun p wr => ∃ (pre : List Bur.Sp) (low : Int), p = .int .i64 low ∧ lo ≤ low ∧ low ≤ hi + 1 ∧ Hid (Bur.cov lo hi = pre ++ Bur.cov low hi) ∧ Pair wr B 53 lo hi ∧ Tab wr ∧ J pre wr)
    (fun p _ => (hi + 1 - intOf p).toNat)
  case atStart => exact ⟨[], lo, rfl, by omega, by omega, rfl, hB, hT, hJ0⟩
  case round =>
    obtain ⟨pre, low, rfl, g1, g2, R, hP, hTr, hJr⟩ := hrel
    have c1 := hP.c1
    by_cases hle : low ≤ hi
    · obtain ⟨s1, s2, s3, s4⟩ := Bur.fr_spec (lo := low) (hi := hi) (by omega) hle h2
      have cb := blockBits low hi wr (by omega) hle h2 hTr
      have hcy := Bur.cov_yes hle
      have hp := Bur.pw_pos (Bur.fr low hi)
      obtain ⟨k, hk⟩ : ∃ k, Hid (Bur.fr low hi = k) := ⟨_, rfl⟩
      rw [hk.out] at s2 s4 cb hcy hp
      have R2 : Hid (Bur.cov lo hi = (pre ++ [(low, 32 - (k : Int))]) ++ Bur.cov (low + 2 ^ k) hi) := by show _ = _; rw [R.out, hcy]; simp
      have hlen : pre.length < (Bur.cov lo hi).length := by rw [R2.out]; simp
      obtain ⟨fn, tmps, assign, body, hy, hR⟩ := hY pre (low, 32 - (k : Int)) wr hJr hlen
      simp only [encP] at hy hR
      have hlow : (0 : Int) ≤ low := by omega
      have hk32 : (k : Int) ≤ 32 := by omega
      have hpk : (2 : Int) ^ k ≤ 4294967296 := by
        have := Bur.pw_le s4
        rw [Bur.pw_32] at this
        exact this
      clear R s1 s3 hcy hlen hY
      gi_wp2
      refine ⟨trivial, fun h => by simp [Fence.wide] at h, (callsIn_wide.2 cb).mono ?_⟩
      rintro e w1 ⟨rfl, hw⟩
      have hw' := hw.symm
      subst hw'
      gi_wp2
      refine ⟨fun h => by simp [Fence.wide] at h, hR.mono ?_⟩
      rintro e W3 (⟨rfl, hJ3, hk3⟩ | ⟨rfl, hJx3⟩)
      · have hP3 := hk3.1 hP
        have hT3 := hTr.step hk3.2 hn₀
        clear hk3
        gi_wp2
        go_roundw
        case rel => exact ⟨pre ++ [(low, 32 - (k : Int))], low + 2 ^ k, by go_num, by omega, by omega, R2, hP3, hT3, hJ3⟩
        case measure => simp [intOf]; omega
      · gi_wp2
        refine bodyPost_ret (results_none rfl _ _ _) rfl ?_
        exact ⟨⟨_, rfl⟩, .inr ⟨pre ++ [(low, 32 - (k : Int))], ⟨_, R2.out.symm⟩, hJx3⟩⟩
    · have hcn := Bur.cov_no (show hi < low by omega)
      have R2 : Hid (Bur.cov lo hi = pre) := by show _ = _; rw [R.out, hcn]; simp
      clear R hcn hY
      gi_wp2
      go_end0
      exact ⟨⟨_, rfl⟩, .inl (by rw [R2.out]; exact hJr)⟩
end Go.Proofs.YtfhidiedmenliaaGreatDoor
