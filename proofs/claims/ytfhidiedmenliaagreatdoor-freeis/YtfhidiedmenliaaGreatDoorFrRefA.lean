/- The contracts of the reference's Meets, state and FreeFault. -/
import Derived.Test.YtfhidiedmenliaaGreatDoorTrRefA
import Derived.Test.YtfhidiedmenliaaGreatDoorSpWalkD
import Derived.Test.YtfhidiedmenliaaGreatDoorFrMath5
namespace Bur
/-- The state, prefix by prefix. -/
def sttk (k : Nat) (a : Int) : Int → List Sp → Int
  | o, [] => o
  | o, q :: r => if inP (pk k a) q = true then 1 else sttk k a (if mts (pk k a) q = true then 2 else o) r
theorem sttk_eq (k : Nat) (a : Int) : ∀ (l : List Sp) (o : Int), sttk k a o l = if l.any (fun q => inP (pk k a) q) = true then 1 else if l.any (fun q => mts (pk k a) q) = true then 2 else o
  | [], _ => rfl
  | q :: r, o => by
    rw [sttk, sttk_eq k a r, List.any_cons, List.any_cons]
    cases inP (pk k a) q <;> cases mts (pk k a) q <;> simp only [Bool.false_or, Bool.true_or, if_true, Bool.false_eq_true, if_false, ite_self]
theorem sttk_stt (l : List Sp) (k : Nat) (a : Int) : stt l k a = sttk k a 0 l := (sttk_eq k a l 0).symm
theorem inP_inB (p q : Sp) : inP p q = inB p.1 p.2 q.1 q.2 := rfl
end Bur
namespace Go.Proofs.YtfhidiedmenliaaGreatDoor
open Go.RowKit

set_option maxHeartbeats 2000000 in
theorem meets_yes (a l a2 l2 : Int) (w : World) (h0 : 0 ≤ l) (h1 : l ≤ 32) (ha : Bur.isA a = true) (h2 : 0 ≤ l2) (h3 : l2 ≤ 32) (ha2 : Bur.isA a2 = true) (hge : a ≤ a2 + Bur.sz l2 - 1) :
    Calls Tryz.prog 42 #[pfx a l, pfx a2 l2] w fun e w' => e = .returned (.bool (decide (a2 ≤ a + Bur.sz l - 1))) ∧ Below w.heap.size w w' := by
  have hd : decide (a ≤ a2 + Bur.sz l2 - 1) = true := by simp; omega
  go_enter Tryz.func42, Tryz.ntmps42
  go_wp2
  go_region_held3 (fun w2 => w2.cell? ⟨w.heap.size, 0, none⟩ = some (.int .i64 a) ∧ w2.cell? ⟨w.heap.size, 1, none⟩ = some (.int .i64 l) ∧ w2.cell? ⟨w.heap.size + 1, 0, none⟩ = some (.int .i64 a2) ∧ w2.cell? ⟨w.heap.size + 1, 1, none⟩ = some (.int .i64 l2)) (go_simp)
    (first
      | (go_at_call_of 23 (Value.int IntKind.i64 l); refine (lastOf _ _ _ h0 h1 ha).mono ?_; rintro e w2 ⟨rfl, n, rfl⟩)
      | (go_at_call 23; refine (lastOf _ _ _ h2 h3 ha2).mono ?_; rintro e w2 ⟨rfl, n, rfl⟩))
  go_wp2
  go_ret
  exact ⟨rfl, below_drewN (below_al (below_drewN (below_al (below_al (below_al (below_self _) _) _) _) _) _) _⟩
set_option maxHeartbeats 2000000 in
theorem meets_no (a l a2 l2 : Int) (w : World) (h2 : 0 ≤ l2) (h3 : l2 ≤ 32) (ha2 : Bur.isA a2 = true) (hge : a2 + Bur.sz l2 - 1 < a) :
    Calls Tryz.prog 42 #[pfx a l, pfx a2 l2] w fun e w' => e = .returned (.bool false) ∧ Below w.heap.size w w' := by
  have hd : decide (a ≤ a2 + Bur.sz l2 - 1) = false := by simp; omega
  go_enter Tryz.func42, Tryz.ntmps42
  go_wp2
  have hbW : Below w.heap.size w ((w.alloc (pcs a l)).alloc (pcs a2 l2)) := below_al (below_al (below_self _) _) _
  have c0 : ((w.alloc (pcs a l)).alloc (pcs a2 l2)).cell? ⟨w.heap.size, 0, none⟩ = some (.int .i64 a) := by go_simp
  have c1 : ((w.alloc (pcs a l)).alloc (pcs a2 l2)).cell? ⟨w.heap.size, 1, none⟩ = some (.int .i64 l) := by go_simp
  have c2 : ((w.alloc (pcs a l)).alloc (pcs a2 l2)).cell? ⟨w.heap.size + 1, 0, none⟩ = some (.int .i64 a2) := by go_simp
  have c3 : ((w.alloc (pcs a l)).alloc (pcs a2 l2)).cell? ⟨w.heap.size + 1, 1, none⟩ = some (.int .i64 l2) := by go_simp
  have hWs : w.heap.size + 2 = ((w.alloc (pcs a l)).alloc (pcs a2 l2)).heap.size := by simp
  obtain ⟨W, hW⟩ : ∃ W, (w.alloc (pcs a l)).alloc (pcs a2 l2) = W := ⟨_, rfl⟩
  rw [hW] at hbW c0 c1 c2 c3 hWs ⊢
  clear hW
  refine wp_region_held_drew (S := (fun wy => wy.cell? ⟨w.heap.size, 0, none⟩ = some (.int .i64 a) ∧ wy.cell? ⟨w.heap.size, 1, none⟩ = some (.int .i64 l) ∧ wy.cell? ⟨w.heap.size + 1, 0, none⟩ = some (.int .i64 a2) ∧ wy.cell? ⟨w.heap.size + 1, 1, none⟩ = some (.int .i64 l2))) (by kernel_rfl) ⟨c0, c1, c2, c3⟩ (fun hHeld0 => ?_)
  refine wpAnyH_take (i := 0) (oi := ⟨_, _, _, _, _, _⟩) (v := ?_) rfl (by kernel_rfl) (by kernel_rfl) (by kernel_rfl) (fun _ _ _ h => h) (Or.inl ⟨by rfl, ?_⟩) (by assumption) ?_
  rotate_left
  · (intro w hSw; (try dsimp only at hSw); go_simp; try with_reducible rfl)
  try simp only [Act.put, List.setIfInBounds_toArray, List.set_cons_zero, List.set_cons_succ]
  refine wpAnyH_take (i := 1) (oi := ⟨_, _, _, _, _, _⟩) (v := ?_) rfl (by kernel_rfl) (by kernel_rfl) (by kernel_rfl) (fun _ _ _ h => h) (Or.inl ⟨by rfl, ?_⟩) (by assumption) ?_
  rotate_left
  · (intro w hSw; (try dsimp only at hSw); go_simp; try with_reducible rfl)
  try simp only [Act.put, List.setIfInBounds_toArray, List.set_cons_zero, List.set_cons_succ]
  refine wpAnyH_take (i := 2) (oi := ⟨_, _, _, _, _, _⟩) (v := ?_) rfl (by kernel_rfl) (by kernel_rfl) (by kernel_rfl) (fun _ _ _ h => h) (Or.inl ⟨by rfl, ?_⟩) (by assumption) ?_
  rotate_left
  · (intro w hSw; (try dsimp only at hSw); go_simp; try with_reducible rfl)
  try simp only [Act.put, List.setIfInBounds_toArray, List.set_cons_zero, List.set_cons_succ]
  refine wpAnyH_ready (rs := [3]) (by kernel_rfl) (by simp) ?_
  refine AllReadyH.cons (o := ⟨_, _, _, _, _, _⟩) rfl (fun K hK => ?_) AllReadyH.nil
  go_simp
  refine (lastOf a2 l2 _ h2 h3 ha2).mono ?_
  rintro e w2 ⟨rfl, n, hw2⟩
  have hb5 : Below W.drew.heap.size W.drew w2 := by rw [hw2]; exact below_box _ _ n
  have d0 := (hb5.cell (p := ⟨w.heap.size, 0, none⟩) (by show w.heap.size < W.heap.size; omega)).trans c0
  have d1 := (hb5.cell (p := ⟨w.heap.size, 1, none⟩) (by show w.heap.size < W.heap.size; omega)).trans c1
  have d2 := (hb5.cell (p := ⟨w.heap.size + 1, 0, none⟩) (by show w.heap.size + 1 < W.heap.size; omega)).trans c2
  have d3 := (hb5.cell (p := ⟨w.heap.size + 1, 1, none⟩) (by show w.heap.size + 1 < W.heap.size; omega)).trans c3
  clear hw2

  refine hK.out _ _ ⟨d0, d1, d2, d3⟩ (fun hHeld1 => ?_)
  clear hK K
  try simp only [Act.put, List.setIfInBounds_toArray, List.set_cons_zero, List.set_cons_succ]
  refine wpAnyH_take (i := 4) (oi := ⟨_, _, _, _, _, _⟩) (v := ?_) rfl (by kernel_rfl) (by kernel_rfl) (by kernel_rfl) (fun _ _ _ h => h) (Or.inl ⟨by rfl, ?_⟩) (by assumption) ?_
  rotate_left
  · (intro w hSw; (try dsimp only at hSw); go_simp; try with_reducible rfl)
  try simp only [Act.put, List.setIfInBounds_toArray, List.set_cons_zero, List.set_cons_succ]
  refine wpAnyH_take (i := 5) (oi := ⟨_, _, _, _, _, _⟩) (v := ?_) rfl (by kernel_rfl) (by kernel_rfl) (by kernel_rfl) (fun _ _ _ h => h) (Or.inl ⟨by rfl, ?_⟩) (by assumption) ?_
  rotate_left
  · (intro w hSw; (try dsimp only at hSw); go_simp; try with_reducible rfl)
  try simp only [Act.put, List.setIfInBounds_toArray, List.set_cons_zero, List.set_cons_succ]
  refine wpAnyH_take (i := 6) (oi := ⟨_, _, _, _, _, _⟩) (v := undef) rfl (by kernel_rfl) (by kernel_rfl) (by kernel_rfl) (fun _ _ _ h => h) (Or.inr ⟨by rfl, rfl⟩) (by assumption) ?_
  try simp only [Act.put, List.setIfInBounds_toArray, List.set_cons_zero, List.set_cons_succ]
  refine wpAnyH_take (i := 7) (oi := ⟨_, _, _, _, _, _⟩) (v := undef) rfl (by kernel_rfl) (by kernel_rfl) (by kernel_rfl) (fun _ _ _ h => h) (Or.inr ⟨by rfl, rfl⟩) (by assumption) ?_
  try simp only [Act.put, List.setIfInBounds_toArray, List.set_cons_zero, List.set_cons_succ]
  refine wpAnyH_take (i := 8) (oi := ⟨_, _, _, _, _, _⟩) (v := undef) rfl (by kernel_rfl) (by kernel_rfl) (by kernel_rfl) (fun _ _ _ h => h) (Or.inr ⟨by rfl, rfl⟩) (by assumption) ?_
  try simp only [Act.put, List.setIfInBounds_toArray, List.set_cons_zero, List.set_cons_succ]
  refine wpAnyH_take (i := 9) (oi := ⟨_, _, _, _, _, _⟩) (v := undef) rfl (by kernel_rfl) (by kernel_rfl) (by kernel_rfl) (fun _ _ _ h => h) (Or.inr ⟨by rfl, rfl⟩) (by assumption) ?_
  try simp only [Act.put, List.setIfInBounds_toArray, List.set_cons_zero, List.set_cons_succ]
  refine wpAnyH_take (i := 10) (oi := ⟨_, _, _, _, _, _⟩) (v := undef) rfl (by kernel_rfl) (by kernel_rfl) (by kernel_rfl) (fun _ _ _ h => h) (Or.inr ⟨by rfl, rfl⟩) (by assumption) ?_
  try simp only [Act.put, List.setIfInBounds_toArray, List.set_cons_zero, List.set_cons_succ]
  refine wpAnyH_take (i := 11) (oi := ⟨_, _, _, _, _, _⟩) (v := ?_) rfl (by kernel_rfl) (by kernel_rfl) (by kernel_rfl) (fun _ _ _ h => h) (Or.inl ⟨by rfl, ?_⟩) (by assumption) ?_
  rotate_left
  · (intro w hSw; (try dsimp only at hSw); go_simp; try with_reducible rfl)
  try simp only [Act.put, List.setIfInBounds_toArray, List.set_cons_zero, List.set_cons_succ]
  refine wpAnyH_take (i := 12) (oi := ⟨_, _, _, _, _, _⟩) (v := ?_) rfl (by kernel_rfl) (by kernel_rfl) (by kernel_rfl) (fun _ _ _ h => h) (Or.inl ⟨by rfl, ?_⟩) (by assumption) ?_
  rotate_left
  · (intro w hSw; (try dsimp only at hSw); go_simp; try with_reducible rfl)
  try simp only [Act.put, List.setIfInBounds_toArray, List.set_cons_zero, List.set_cons_succ]
  refine wpAnyH_done (by kernel_rfl) ?_ _
  have hb6 := below_via hbW.drew hb5
  go_wp2
  go_ret
  exact ⟨rfl, hb6⟩
theorem refMeets (p q : Bur.Sp) (w : World) (hp : Bur.OkP p) (hq : Bur.OkP q) :
    Calls Tryz.prog 42 #[pfx p.1 p.2, pfx q.1 q.2] w fun e w' => e = .returned (.bool (Bur.mts p q)) ∧ Below w.heap.size w w' := by
  obtain ⟨a0, a1, a2, a3, _⟩ := hp.parts
  obtain ⟨b0, b1, b2, b3, _⟩ := hq.parts
  have hz := Bur.sz_pos p.2
  have hy := Bur.sz_pos q.2
  by_cases h : p.1 ≤ q.1 + Bur.sz q.2 - 1
  · refine (meets_yes p.1 p.2 q.1 q.2 w a0 a1 (Bur.isA_mk a2 (by omega)) b0 b1 (Bur.isA_mk b2 (by omega)) h).mono ?_
    rintro e w' ⟨rfl, hb⟩
    exact ⟨ret_bool (by simp [Bur.mts, h]), hb⟩
  · refine (meets_no p.1 p.2 q.1 q.2 w b0 b1 (Bur.isA_mk b2 (by omega)) (by omega)).mono ?_
    rintro e w' ⟨rfl, hb⟩
    exact ⟨ret_bool (by simp [Bur.mts, h]), hb⟩
theorem refInOk (p q : Bur.Sp) (w : World) (hp : Bur.OkP p) (hq : Bur.OkP q) :
    Calls Tryz.prog 41 #[pfx p.1 p.2, pfx q.1 q.2] w fun e w' => e = .returned (.bool (Bur.inP p q)) ∧ Below w.heap.size w w' := by
  obtain ⟨a0, a1, a2, a3, _⟩ := hp.parts
  obtain ⟨b0, b1, b2, b3, _⟩ := hq.parts
  have hz := Bur.sz_pos p.2
  have hy := Bur.sz_pos q.2
  exact refIn p.1 p.2 q.1 q.2 w a0 a1 (Bur.isA_mk a2 (by omega)) b0 b1 (Bur.isA_mk b2 (by omega))

theorem at_memR {l : List Bur.Sp} {i : Nat} (hlt : i < l.length) : (lo l i, hi l i) ∈ l := by
  have : (lo l i, hi l i) = l[i] := by simp [lo, hi, List.getD, List.getElem?_eq_getElem hlt]
  rw [this]
  exact List.getElem_mem hlt

set_option maxHeartbeats 4000000 in
theorem refState (k : Nat) (a : Int) (p : Option Addr) (cap : Nat) (l : List Bur.Sp) (w : World) (ok : Bur.OkK k a) (hl : l.length ≤ 60) (hO : Hid (∀ q ∈ l, Bur.OkP q)) (hs : SpAt w p l) :
    Calls Tryz.prog 24 #[pfx a (32 - (k : Int)), .slice p l.length cap] w fun e w' => e = .returned (.int .i64 (Bur.stt l k a)) ∧ Below w.heap.size w w' := by
  have hok : Hid (Bur.OkP (Bur.pk k a)) := ok.ok
  have E : Hid (Bur.stt l k a = Bur.sttk k a 0 l) := Bur.sttk_stt l k a
  obtain ⟨n, hn⟩ : ∃ n, 32 - (k : Int) = n := ⟨_, rfl⟩
  have hpk : Hid (Bur.pk k a = (a, n)) := by show _ = _; rw [← hn]; rfl
  rw [hn]
  clear hn ok
  go_enter Tryz.func24, Tryz.ntmps24
  go_wp2_with fail
  have hb0 : Below w.heap.size w (w.alloc (.cells #[.int .i64 a, .int .i64 n] 23)) := below_al (below_self _) _
  have p0 : (w.alloc (.cells #[.int .i64 a, .int .i64 n] 23)).cell? ⟨w.heap.size, 0, none⟩ = some (.int .i64 a) := by simp
  have p1 : (w.alloc (.cells #[.int .i64 a, .int .i64 n] 23)).cell? ⟨w.heap.size, 1, none⟩ = some (.int .i64 n) := by simp
  have hs0 := hs.step hb0
  have hBs : w.heap.size < (w.alloc (.cells #[.int .i64 a, .int .i64 n] 23)).heap.size := by simp
  obtain ⟨W, hW⟩ : ∃ W, w.alloc (.cells #[.int .i64 a, .int .i64 n] 23) = W := ⟨_, rfl⟩
  obtain ⟨B, hB⟩ : ∃ B, w.heap.size = B := ⟨_, rfl⟩
  rw [hW] at hb0 p0 p1 hs0 hBs ⊢
  rw [hB] at p0 p1 hBs ⊢
  clear hW hs
  have hpI : ∀ (x y : Int) (w : World), Bur.OkP (x, y) → Calls Tryz.prog 41 #[pfx a n, pfx x y] w fun e w' => e = .returned (.bool (Bur.inP (Bur.pk k a) (x, y))) ∧ Below w.heap.size w w' := fun x y w hq => by
    have := refInOk (Bur.pk k a) (x, y) w hok.out hq
    rw [show (Bur.pk k a).1 = a from rfl, show (Bur.pk k a).2 = n from by rw [hpk.out]] at this
    exact this
  have hpM : ∀ (x y : Int) (w : World), Bur.OkP (x, y) → Calls Tryz.prog 42 #[pfx a n, pfx x y] w fun e w' => e = .returned (.bool (Bur.mts (Bur.pk k a) (x, y))) ∧ Below w.heap.size w w' := fun x y w hq => by
    have := refMeets (Bur.pk k a) (x, y) w hok.out hq
    rw [show (Bur.pk k a).1 = a from rfl, show (Bur.pk k a).2 = n from by rw [hpk.out]] at this
    exact this
  clear hpk hok
  go_loopw [5, 6] (fun o i wr => ∃ (j : Nat) (ov : Int), j ≤ l.length ∧ i = .int .i64 j ∧ o = .int .i64 ov ∧ Hid (Bur.stt l k a = Bur.sttk k a ov (l.drop j)) ∧ Below W.heap.size W wr) (fun _ i _ => l.length - (intOf i).toNat)
  case atStart => exact ⟨0, 0, by omega, rfl, rfl, E, below_self _⟩
  case round =>
    obtain ⟨j, ov, hj, rfl, rfl, R, hbw⟩ := hrel
    by_cases hlt : j < l.length
    · have hlt' : (j : Int) < (l.length : Int) := by omega
      obtain ⟨b, off, rfl, hbl, hc⟩ := hs0 (by omega)
      have hcb2 := bcell hbw
      have c0 : wr.cell? ⟨b, off + j * 2, none⟩ = some (.int .i64 (lo l j)) := (hcb2.1 _ _ hbl).trans (hc j hlt).1
      have c1 : wr.cell? ⟨b, off + j * 2 + 1, none⟩ = some (.int .i64 (hi l j)) := (hcb2.1 _ _ hbl).trans (hc j hlt).2
      have q0 : wr.cell? ⟨B, 0, none⟩ = some (.int .i64 a) := (hcb2.1 _ _ hBs).trans p0
      have q1 : wr.cell? ⟨B, 1, none⟩ = some (.int .i64 n) := (hcb2.1 _ _ hBs).trans p1
      have hq := hO.out _ (at_memR hlt)
      have hd0 := drop_sp hlt
      obtain ⟨x, hx⟩ : ∃ x, lo l j = x := ⟨_, rfl⟩
      obtain ⟨y, hy⟩ : ∃ y, hi l j = y := ⟨_, rfl⟩
      rw [hx] at c0
      rw [hy] at c1
      rw [hx, hy] at hq hd0
      have cI := fun w => hpI x y w hq
      have cM := fun w => hpM x y w hq
      have R2 : Hid (Bur.stt l k a = if Bur.inP (Bur.pk k a) (x, y) = true then 1 else Bur.sttk k a (if Bur.mts (Bur.pk k a) (x, y) = true then 2 else ov) (l.drop (j + 1))) := by show _ = _; rw [R.out, hd0, Bur.sttk]
      obtain ⟨bi, hbi⟩ : ∃ bi, Bur.inP (Bur.pk k a) (x, y) = bi := ⟨_, rfl⟩
      obtain ⟨bm, hbm⟩ : ∃ bm, Bur.mts (Bur.pk k a) (x, y) = bm := ⟨_, rfl⟩
      rw [hbi] at R2
      rw [hbm] at R2
      simp only [hbi] at cI
      simp only [hbm] at cM
      have hbl2 : b < wr.heap.size := Nat.lt_of_lt_of_le hbl hbw.size
      have hB2 : B < wr.heap.size := Nat.lt_of_lt_of_le hBs hbw.size
      clear hc hcb2 hd0 hx hy R hs0 hq hbi hbm hpI hpM hO E
      obtain ⟨V, hV⟩ : ∃ V, V = wr := ⟨_, rfl⟩
      subst hV
      go_wp2_with fail
      go_region_held3 (fun wy => wy.cell? ⟨b, off + j * 2, none⟩ = some (.int .i64 x) ∧ wy.cell? ⟨b, off + j * 2 + 1, none⟩ = some (.int .i64 y) ∧ wy.cell? ⟨B, 0, none⟩ = some (.int .i64 a) ∧ wy.cell? ⟨B, 1, none⟩ = some (.int .i64 n)) (first | exact ⟨c0, c1, q0, q1⟩ | exact ⟨d0, d1, d2, d3⟩)
        (first | (go_at_call 41; refine (cI _).mono ?_; rintro e w1 ⟨rfl, hb1⟩; have d0 := (hb1.cell (p := ⟨b, off + j * 2, none⟩) hbl2).trans c0; have d1 := (hb1.cell (p := ⟨b, off + j * 2 + 1, none⟩) hbl2).trans c1; have d2 := (hb1.cell (p := ⟨B, 0, none⟩) hB2).trans q0; have d3 := (hb1.cell (p := ⟨B, 1, none⟩) hB2).trans q1))
      have hb2 := below_via hbw.drew hb1
      have hbl3 : b < w1.heap.size := Nat.lt_of_lt_of_le hbl2 hb1.size
      have hB3 : B < w1.heap.size := Nat.lt_of_lt_of_le hB2 hb1.size
      clear hb1 c0 c1 q0 q1 cI hbw
      cases bi
      · simp only [Bool.false_eq_true, if_false] at R2
        obtain ⟨U, hU⟩ : ∃ U, U = w1 := ⟨_, rfl⟩
        subst hU
        go_wp2_with fail
        go_region_held3 (fun wy => wy.cell? ⟨b, off + j * 2, none⟩ = some (.int .i64 x) ∧ wy.cell? ⟨b, off + j * 2 + 1, none⟩ = some (.int .i64 y) ∧ wy.cell? ⟨B, 0, none⟩ = some (.int .i64 a) ∧ wy.cell? ⟨B, 1, none⟩ = some (.int .i64 n)) (first | exact ⟨d0, d1, d2, d3⟩ | exact ⟨g0, g1, g2, g3⟩)
          (first | (go_at_call 42; refine (cM _).mono ?_; rintro e w3 ⟨rfl, hb3⟩; have g0 := (hb3.cell (p := ⟨b, off + j * 2, none⟩) hbl3).trans d0; have g1 := (hb3.cell (p := ⟨b, off + j * 2 + 1, none⟩) hbl3).trans d1; have g2 := (hb3.cell (p := ⟨B, 0, none⟩) hB3).trans d2; have g3 := (hb3.cell (p := ⟨B, 1, none⟩) hB3).trans d3))
        have hb4 := below_via hb2.drew hb3
        clear hb3 d0 d1 d2 d3 g0 g1 g2 g3 hb2 cM
        cases bm
        · simp only [Bool.false_eq_true, if_false] at R2
          go_wp2_with fail
          exact ⟨⟨j + 1, ov, by omega, by go_num, rfl, R2, hb4⟩, by simp [intOf]; omega⟩
        · simp only [if_true] at R2
          go_wp2_with fail
          exact ⟨⟨j + 1, 2, by omega, by go_num, rfl, R2, hb4⟩, by simp [intOf]; omega⟩
      · simp only [if_true] at R2
        clear d0 d1 d2 d3 cM
        go_wp2_with fail
        go_ret
        exact ⟨by rw [R2.out]; rfl, below_via hb0 hb2⟩
    · have R2 : Hid (Bur.stt l k a = ov) := by show _ = _; rw [R.out, List.drop_eq_nil_of_le (by omega)]; rfl
      clear R hs0 hpI hpM hO E
      go_wp2_with fail
      go_ret
      exact ⟨by rw [R2.out]; rfl, below_via hb0 hbw⟩

set_option maxHeartbeats 4000000 in
theorem refFreeFault (a z : Int) (p : Option Addr) (cap : Nat) (l : List Bur.Sp) (w : World) (hl : l.length ≤ 9223372036854775807) (hs : SpAt w p l) :
    Calls Tryz.prog 5 #[pfx a z, .slice p l.length cap] w fun e w' => e = .returned (.int .i64 (Bur.frF (a, z) l)) ∧ Below w.heap.size w w' := by
  go_enter Tryz.func5, Tryz.ntmps5
  go_wp2_with fail
  refine (refFault a z _).mono ?_
  rintro e w1 ⟨rfl, hb1⟩
  replace hb1 := below_via (below_al (below_self w) _) hb1
  have hs1 := hs.step hb1
  clear hs
  obtain ⟨G, hG⟩ : ∃ G, Hid (Bur.fault a z = G) := ⟨_, rfl⟩
  rw [hG.out]
  cases hf : (G != 0)
  · have hf0 : Bur.fault a z = 0 := by rw [hG.out]; simpa using hf
    by_cases h60 : 60 < l.length
    · have h60' : (60 : Int) < (l.length : Int) := by omega
      have F : Hid (Bur.frF (a, z) l = 3) := Bur.frF_3 hf0 h60
      clear hs1 hf0 hG
      go_wp2_with fail
      go_ret
      exact ⟨by rw [F.out]; rfl, hb1⟩
    · have h60' : (l.length : Int) ≤ 60 := by omega
      have F : Hid (Bur.frF (a, z) l = Bur.pnF l) := by show _ = _; unfold Bur.frF; rw [if_pos (show Bur.fault (a, z).1 (a, z).2 = 0 from hf0), if_neg h60]
      have hG0 : Hid (G = 0) := by show _ = _; rw [← hG.out]; exact hf0
      clear hf0 hG
      go_wp2_with fail
      go_loopw [5, 6] (fun v i wr => ∃ (k : Nat) (g : Int), k ≤ l.length ∧ i = .int .i64 k ∧ v = .int .i64 g ∧ Hid (Bur.pnF l = Bur.pnF (l.drop k)) ∧ Below w1.heap.size w1 wr) (fun _ i _ => l.length - (intOf i).toNat)
      case atStart => exact ⟨0, G, by omega, rfl, rfl, rfl, below_self _⟩
      case round =>
        obtain ⟨k, g, hk, rfl, rfl, R, hbw⟩ := hrel
        by_cases hlt : k < l.length
        · have hlt' : (k : Int) < (l.length : Int) := by omega
          obtain ⟨b, off, rfl, hbl, hc⟩ := hs1 (by omega)
          have hcb2 := bcell hbw
          have c0 : wr.cell? ⟨b, off + k * 2, none⟩ = some (.int .i64 (lo l k)) := (hcb2.1 _ _ hbl).trans (hc k hlt).1
          have c1 : wr.cell? ⟨b, off + k * 2 + 1, none⟩ = some (.int .i64 (hi l k)) := (hcb2.1 _ _ hbl).trans (hc k hlt).2
          have hd0 := drop_sp hlt
          obtain ⟨x, hx⟩ : ∃ x, lo l k = x := ⟨_, rfl⟩
          obtain ⟨y, hy⟩ : ∃ y, hi l k = y := ⟨_, rfl⟩
          rw [hx] at c0 hd0
          rw [hy] at c1 hd0
          have S : Hid (Bur.pnF l = if Bur.fault x y = 0 then Bur.pnF (l.drop (k + 1)) else Bur.fault x y) := by show _ = _; rw [R.out, hd0, Bur.pnF]
          clear hc hcb2 hd0 hx hy R hs1
          go_wp2_with fail
          refine (refFault x y wr).mono ?_
          rintro e w2 ⟨rfl, hb2⟩
          have hbw2 := below_via hbw hb2
          obtain ⟨H, hH⟩ : ∃ H, Hid (Bur.fault x y = H) := ⟨_, rfl⟩
          rw [hH.out] at S ⊢
          clear hb2 c0 c1
          cases hg : (H != 0)
          · have S2 : Hid (Bur.pnF l = Bur.pnF (l.drop (k + 1))) := by show _ = _; rw [S.out, if_pos (by simpa using hg)]
            clear S hH
            go_wp2_with fail
            exact ⟨⟨k + 1, H, by omega, by go_num, rfl, S2, hbw2⟩, by simp [intOf]; omega⟩
          · have S2 : Hid (Bur.frF (a, z) l = H) := by show _ = _; rw [F.out, S.out, if_neg (by simpa using hg)]
            clear S hH
            go_wp2_with fail
            go_ret
            exact ⟨by rw [S2.out]; rfl, below_via hb1 hbw2⟩
        · have S2 : Hid (Bur.frF (a, z) l = 0) := by show _ = _; rw [F.out, R.out, List.drop_eq_nil_of_le (by omega)]; rfl
          clear R hs1
          go_wp2_with fail
          go_ret
          exact ⟨by rw [S2.out]; rfl, below_via hb1 hbw⟩
  · have hf1 : Bur.fault a z ≠ 0 := by rw [hG.out]; simpa using hf
    have F : Hid (Bur.frF (a, z) l = G) := by show _ = _; rw [Bur.frF_p (p := (a, z)) hf1]; exact hG.out
    clear hs1 hf1 hG
    go_wp2_with fail
    go_ret
    exact ⟨by rw [F.out]; rfl, hb1⟩
end Go.Proofs.YtfhidiedmenliaaGreatDoor
