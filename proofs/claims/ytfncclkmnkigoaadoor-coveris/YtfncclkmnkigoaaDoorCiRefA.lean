/- The contract of the reference's Covers: a prefix that is outside, a prefix that is inside. -/
import Derived.Test.YtfncclkmnkigoaaDoorCvUni
import Derived.Test.YtfncclkmnkigoaaDoorCvMath2
import Derived.Test.YtfncclkmnkigoaaDoorSpRefD
import Derived.Test.YtfncclkmnkigoaaDoorCvSet
import Derived.Laws.AppendOwnNone
namespace Go.Proofs.YtfncclkmnkigoaaDoor
open Go.RowKit

/-- 'append(v, u...)', both of the call's own, u nil if it has none. -/
theorem step_append_any {P : Program} {w : World} {ops : Array Oper} {o : Oper} {a : Act} {K : Act → World → Prop} {Q : Exit → Act → World → Prop} {E : Prop} (hgd : o.guard = none) (s x : Operand) (t : TypeId)
    (ho : o.op = .call { callee := .builtin .append, args := #[s, x], argTypes := #[t, t] })
    (base base2 : Nat) (e : TypeId) (i : TypeInfo) (z : Value) (size bytes : Nat) (ht : P.underlying t = some (.slice e)) (hi : P.info? e = some i) (hz : i.zero = some z)
    (hsize : i.size = size) (hby : i.bytes = bytes) (hzs : z.cells.size = size) (hsz : 0 < size)
    (v : Value) (n : Nat) (xs : List Value) (hs : a.eval s = v) (hown : w.ownsRow base e size v n xs)
    (u : Value) (m : Nat) (news : List Value) (hx : a.eval x = u) (hsrc : w.ownsRow base2 e size u m news) (h0 : m = 0 → u = .slice none 0 0) (h1 : ∀ y ∈ news, y.oneCell' = true)
    (h63 : n + m ≤ maxLen) (hbytes : (n + m) * bytes ≤ 140737488355328) (hbase : base ≤ w.heap.size)
    (h : ∀ v' w', w'.ownsRow base e size v' (n + m) (xs ++ news) → w.grownBy w' v.ownBlock → K (a.put o.dst v') w') :
    if Region.wanted o (yielded ops a.tmps) = true then Oper.wp P o a w K Q else E := by
  rcases hsrc.2 with ⟨hu, hm⟩ | ⟨g, cap, cur, hu, hb, hgb, hmc, _, hcs, htk⟩
  · subst hm
    have hn : news = [] := by have := hsrc.1; simpa using this
    subst hn
    have hw : Region.wanted o (yielded ops a.tmps) = true := by simp [Region.wanted, hgd]
    rw [if_pos hw]
    have hrun := run_append_owned_none (P := P) (w := w) base t o.type e i size ht hi v n xs hown
    rw [hu] at hx
    unfold Oper.wp
    simp [execOp, ho, resolve, invoke, builtin, hs, hx, hrun, Result.andThen]
    exact h v w (by simpa using hown) (World.grownBy.refl w _)
  · by_cases hm : 0 < m
    · rw [hu] at hx
      refine step_append_lies w hgd s x t ho base e i z size bytes ht hi hz hsize hby hzs hsz v n xs hs hown ⟨g, 0, none⟩ m cap news hx hsrc.1 (fun j y hj => ?_) h1 hm h63 hbytes hbase _ rfl (fun g' cap' w' h1' h2' _ _ => h _ w' h1' h2')
      rw [show (⟨g, 0, none⟩ : Addr).add j = ⟨g, j, none⟩ from by unfold Addr.add; split <;> simp_all]
      rw [hu] at hsrc
      rw [hsrc.cellAt j (by rw [← hsrc.1]; exact (List.getElem?_eq_some_iff.1 hj).1)]
      exact hj
    · have := h0 (by omega)
      rw [this] at hu; cases hu

theorem hv_out {k : Nat} {a lo hi : Int} (h : hi < a ∨ a + 2 ^ k - 1 < lo) : Bur.hv k a lo hi = [] := by
  cases k with
  | zero => rw [Bur.hv, if_pos (by simpa using h)]
  | succ k => rw [Bur.hv, if_pos h]
theorem hv_in {k : Nat} {a lo hi : Int} (h1 : lo ≤ a) (h2 : a + 2 ^ k - 1 ≤ hi) : Bur.hv k a lo hi = [(a, 32 - (k : Int))] := by
  have hp := Bur.pw_pos k
  cases k with
  | zero =>
    simp only [Int.pow_zero] at h2
    rw [Bur.hv, if_neg (by omega)]; rfl
  | succ k => rw [Bur.hv, if_neg (by omega), if_pos ⟨h1, h2⟩]
/-- What Covers answers with. -/
def CvP (k : Nat) (a lo hi : Int) (w : World) (e : Ending) (w' : World) : Prop :=
  ∃ v, e = .returned v ∧ w'.ownsRow w.heap.size 46 2 v (Bur.hv k a lo hi).length (spV (Bur.hv k a lo hi)) ∧ ((Bur.hv k a lo hi).length = 0 → v = .slice none 0 0) ∧ Below w.heap.size w w'
/-- A slice that was just built is the call's own. -/
theorem own_one (w : World) (a l : Int) {B : Nat} (hB : B ≤ w.heap.size) : (w.alloc (.cells #[.int .i64 a, .int .i64 l] 46)).ownsRow B 46 2 (.slice (some ⟨w.heap.size, 0, none⟩) 1 1) 1 (spV [(a, l)]) :=
  ⟨rfl, .inr ⟨w.heap.size, 1, #[.int .i64 a, .int .i64 l], rfl, hB, World.alloc_heap_new w _, Nat.le_refl _, by decide, rfl, rfl⟩⟩

set_option maxRecDepth 100000 in
set_option maxHeartbeats 4000000 in
theorem covers_out (k : Nat) (a lo hi : Int) (w : World) (hk : k ≤ 32) (ha : Bur.isA a = true) (h : hi < a ∨ a + 2 ^ k - 1 < lo) :
    Calls Tryd.prog 19 #[pfx a (32 - (k : Int)), pfx lo hi] w (CvP k a lo hi w) := by
  have hL : Hid (Bur.hv k a lo hi = []) := hv_out h
  have hsz : Hid (a + Bur.sz (32 - (k : Int)) - 1 = a + 2 ^ k - 1) := by show _ = _; rw [Bur.sz_pw hk]
  obtain ⟨m, hmm⟩ : ∃ m, a + 2 ^ k - 1 = m := ⟨_, rfl⟩
  rw [hmm] at h hsz
  obtain ⟨n32, hn⟩ : ∃ n32, 32 - (k : Int) = n32 := ⟨_, rfl⟩
  rw [hn] at hsz ⊢
  have hn0 : 0 ≤ n32 := by omega
  have hn1 : n32 ≤ 32 := by omega
  go_enter Tryd.func19, Tryd.ntmps19
  go_wp2_with fail
  refine (lastOf a n32 _ hn0 hn1 ha).mono ?_
  rintro e w1 ⟨rfl, n, hw⟩
  rw [hsz.out]
  have hb1 : Below ((w.alloc (.cells #[.int .i64 a, .int .i64 n32] 46)).alloc (.cells #[.int .i64 lo, .int .i64 hi] 26)).heap.size ((w.alloc (.cells #[.int .i64 a, .int .i64 n32] 46)).alloc (.cells #[.int .i64 lo, .int .i64 hi] 26)) w1 := by rw [hw]; exact below_box _ _ n
  have hb0 := below_via (below_al (below_al (below_self w) (.cells #[.int .i64 a, .int .i64 n32] 46)) (.cells #[.int .i64 lo, .int .i64 hi] 26)) hb1
  have s0 : w1.cell? ⟨w.heap.size, 0, none⟩ = some (.int .i64 a) := (hb1.cell (p := ⟨w.heap.size, 0, none⟩) (by simp; omega)).trans (by simp)
  have s2 : w1.cell? ⟨w.heap.size + 1, 0, none⟩ = some (.int .i64 lo) := (hb1.cell (p := ⟨w.heap.size + 1, 0, none⟩) (by simp)).trans (by simp)
  have s3 : w1.cell? ⟨w.heap.size + 1, 1, none⟩ = some (.int .i64 hi) := (hb1.cell (p := ⟨w.heap.size + 1, 1, none⟩) (by simp)).trans (by simp)
  clear hw hb1
  cases h1 : decide (hi < a)
  · have h2 : decide (m < lo) = true := by simp at h1 ⊢; omega
    go_wp2_with fail
    go_ret
    exact ⟨_, rfl, by rw [hL.out]; exact World.ownsRow_nil _ _ _ _, fun _ => rfl, hb0⟩
  · go_wp2_with fail
    go_ret
    exact ⟨_, rfl, by rw [hL.out]; exact World.ownsRow_nil _ _ _ _, fun _ => rfl, hb0⟩

set_option maxRecDepth 100000 in
set_option maxHeartbeats 4000000 in
theorem covers_in (k : Nat) (a lo hi : Int) (w : World) (hk : k ≤ 32) (ha : Bur.isA a = true) (h1 : lo ≤ a) (h2 : a + 2 ^ k - 1 ≤ hi) :
    Calls Tryd.prog 19 #[pfx a (32 - (k : Int)), pfx lo hi] w (CvP k a lo hi w) := by
  have hL : Hid (Bur.hv k a lo hi = [(a, 32 - (k : Int))]) := hv_in h1 h2
  have hsz : Hid (a + Bur.sz (32 - (k : Int)) - 1 = a + 2 ^ k - 1) := by show _ = _; rw [Bur.sz_pw hk]
  have hp := Bur.pw_pos k
  have d1 : decide (hi < a) = false := by simp; omega
  have d2 : decide (a + 2 ^ k - 1 < lo) = false := by simp; omega
  have d3 : decide (lo ≤ a) = true := by simp; omega
  have d4 : decide (a + 2 ^ k - 1 ≤ hi) = true := by simp; omega
  obtain ⟨m, hmm⟩ : ∃ m, a + 2 ^ k - 1 = m := ⟨_, rfl⟩
  rw [hmm] at h2 hsz d2 d4
  obtain ⟨n32, hn⟩ : ∃ n32, 32 - (k : Int) = n32 := ⟨_, rfl⟩
  rw [hn] at hsz hL ⊢
  have hn0 : 0 ≤ n32 := by omega
  have hn1 : n32 ≤ 32 := by omega
  clear hmm hp
  go_enter Tryd.func19, Tryd.ntmps19
  go_wp2_with fail
  refine (lastOf a n32 _ hn0 hn1 ha).mono ?_
  rintro e w1 ⟨rfl, n, hw⟩
  rw [hsz.out]
  have hb1 : Below ((w.alloc (.cells #[.int .i64 a, .int .i64 n32] 46)).alloc (.cells #[.int .i64 lo, .int .i64 hi] 26)).heap.size ((w.alloc (.cells #[.int .i64 a, .int .i64 n32] 46)).alloc (.cells #[.int .i64 lo, .int .i64 hi] 26)) w1 := by rw [hw]; exact below_box _ _ n
  have hb0 := below_via (below_al (below_al (below_self w) (.cells #[.int .i64 a, .int .i64 n32] 46)) (.cells #[.int .i64 lo, .int .i64 hi] 26)) hb1
  have s0 : w1.cell? ⟨w.heap.size, 0, none⟩ = some (.int .i64 a) := (hb1.cell (p := ⟨w.heap.size, 0, none⟩) (by simp; omega)).trans (by simp)
  have s1 : w1.cell? ⟨w.heap.size, 1, none⟩ = some (.int .i64 n32) := (hb1.cell (p := ⟨w.heap.size, 1, none⟩) (by simp; omega)).trans (by simp)
  have s2 : w1.cell? ⟨w.heap.size + 1, 0, none⟩ = some (.int .i64 lo) := (hb1.cell (p := ⟨w.heap.size + 1, 0, none⟩) (by simp)).trans (by simp)
  have s3 : w1.cell? ⟨w.heap.size + 1, 1, none⟩ = some (.int .i64 hi) := (hb1.cell (p := ⟨w.heap.size + 1, 1, none⟩) (by simp)).trans (by simp)
  clear hw hb1
  go_wp2_with fail
  go_ret
  exact ⟨_, rfl, by rw [hL.out]; exact own_one w1 a n32 hb0.size, (fun h => by rw [hL.out] at h; cases h), below_al hb0 _⟩
end Go.Proofs.YtfncclkmnkigoaaDoor
