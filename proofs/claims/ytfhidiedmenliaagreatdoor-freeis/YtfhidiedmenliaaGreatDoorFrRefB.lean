/- The contract of the reference's BlocksOf. -/
import Derived.Test.YtfhidiedmenliaaGreatDoorFrRefA
import Derived.Test.YtfhidiedmenliaaGreatDoorAppAny
namespace Bur
theorem blk_0 {l : List Sp} {k : Nat} {a : Int} (h : stt l k a = 0) : blk l k a = [pk k a] := by
  cases k with
  | zero => rw [blk, if_pos h]
  | succ k => rw [blk, if_pos h]
theorem blk_1 {l : List Sp} {k : Nat} {a : Int} (h : stt l k a = 1) : blk l k a = [] := by
  cases k with
  | zero => rw [blk, if_neg (by omega)]
  | succ k => rw [blk, if_neg (by omega), if_pos h]
theorem blk_2 {l : List Sp} {k : Nat} {a : Int} (h : stt l (k + 1) a = 2) : blk l (k + 1) a = blk l k a ++ blk l k (a + 2 ^ k) := by
  rw [blk, if_neg (by omega), if_neg (by omega)]
theorem blk_len (l : List Sp) : ∀ (k : Nat) (a : Int), (blk l k a).length ≤ 2 ^ k
  | 0, a => by rw [blk]; split <;> simp
  | k + 1, a => by
    have h1 := blk_len l k a
    have h2 := blk_len l k (a + 2 ^ k)
    have h3 : 2 ^ (k + 1) = 2 * 2 ^ k := by rw [Nat.pow_succ]; omega
    have h4 : 0 < 2 ^ k := Nat.two_pow_pos k
    rw [blk]
    split
    · simp; omega
    · split
      · simp
      · rw [List.length_append]; omega
theorem stt_or (l : List Sp) (k : Nat) (a : Int) : stt l k a = 0 ∨ stt l k a = 1 ∨ stt l k a = 2 := by
  rcases stt_cases l k a with ⟨e, _⟩ | ⟨e, _⟩ | ⟨e, _⟩ <;> omega
end Bur
namespace Go.Proofs.YtfhidiedmenliaaGreatDoor
open Go.RowKit

/-- What BlocksOf answers with. -/
def BkP (l : List Bur.Sp) (k : Nat) (a : Int) (w : World) (e : Ending) (w' : World) : Prop :=
  ∃ v, e = .returned v ∧ w'.ownsRow w.heap.size 23 2 v (Bur.blk l k a).length (spV (Bur.blk l k a)) ∧ ((Bur.blk l k a).length = 0 → v = .slice none 0 0) ∧ Below w.heap.size w w'

set_option maxHeartbeats 4000000 in
theorem blocks_0 (k : Nat) (a : Int) (p : Option Addr) (cap : Nat) (l : List Bur.Sp) (w : World) (ok : Bur.OkK k a) (hl : l.length ≤ 60) (hO : Hid (∀ q ∈ l, Bur.OkP q)) (hs : SpAt w p l) (h : Bur.stt l k a = 0) :
    Calls Tryz.prog 7 #[pfx a (32 - (k : Int)), .slice p l.length cap] w (BkP l k a w) := by
  have hL : Hid (Bur.blk l k a = [(a, 32 - (k : Int))]) := Bur.blk_0 h
  have st := fun w hs => refState k a p cap l w ok hl hO hs
  simp only [h] at st
  obtain ⟨n, hn⟩ : ∃ n, 32 - (k : Int) = n := ⟨_, rfl⟩
  rw [hn] at st hL ⊢
  clear hn
  go_enter Tryz.func7, Tryz.ntmps7
  go_wp2_with fail
  have hb0 : Below w.heap.size w (w.alloc (.cells #[.int .i64 a, .int .i64 n] 23)) := below_al (below_self _) _
  refine (st _ (hs.step hb0)).mono ?_
  rintro e w1 ⟨rfl, hb1⟩
  have s0 : w1.cell? ⟨w.heap.size, 0, none⟩ = some (.int .i64 a) := (hb1.cell (p := ⟨w.heap.size, 0, none⟩) (by simp)).trans (by simp)
  have s1 : w1.cell? ⟨w.heap.size, 1, none⟩ = some (.int .i64 n) := (hb1.cell (p := ⟨w.heap.size, 1, none⟩) (by simp)).trans (by simp)
  have hb2 := below_via hb0 hb1
  clear hb0 hb1 st h hO hs ok
  go_wp2_with fail
  go_ret
  exact ⟨_, rfl, by rw [hL.out]; exact ownOne w1 a n hb2.size, (fun h => by rw [hL.out] at h; cases h), below_al hb2 _⟩

set_option maxHeartbeats 4000000 in
theorem blocks_1 (k : Nat) (a : Int) (p : Option Addr) (cap : Nat) (l : List Bur.Sp) (w : World) (ok : Bur.OkK k a) (hl : l.length ≤ 60) (hO : Hid (∀ q ∈ l, Bur.OkP q)) (hs : SpAt w p l) (h : Bur.stt l k a = 1) :
    Calls Tryz.prog 7 #[pfx a (32 - (k : Int)), .slice p l.length cap] w (BkP l k a w) := by
  have hL : Hid (Bur.blk l k a = []) := Bur.blk_1 h
  have st := fun w hs => refState k a p cap l w ok hl hO hs
  simp only [h] at st
  obtain ⟨n, hn⟩ : ∃ n, 32 - (k : Int) = n := ⟨_, rfl⟩
  rw [hn] at st ⊢
  clear hn
  go_enter Tryz.func7, Tryz.ntmps7
  go_wp2_with fail
  have hb0 : Below w.heap.size w (w.alloc (.cells #[.int .i64 a, .int .i64 n] 23)) := below_al (below_self _) _
  refine (st _ (hs.step hb0)).mono ?_
  rintro e w1 ⟨rfl, hb1⟩
  have hb2 := below_via hb0 hb1
  clear hb0 hb1 st h hO hs ok
  go_wp2_with fail
  go_ret
  exact ⟨_, rfl, by rw [hL.out]; exact World.ownsRow_nil _ _ _ _, fun _ => rfl, hb2⟩

/-- What lies in the boxes of the two halves. -/
structure Cy (w : World) (B6 B7 : Nat) (a n b : Int) : Prop where
  c0 : w.cell? ⟨B6, 0, none⟩ = some (.int .i64 a)
  c1 : w.cell? ⟨B6, 1, none⟩ = some (.int .i64 n)
  c2 : w.cell? ⟨B7, 0, none⟩ = some (.int .i64 b)
  c3 : w.cell? ⟨B7, 1, none⟩ = some (.int .i64 n)
theorem Cy.all {w : World} {B6 B7 : Nat} {a n b : Int} (h : Cy w B6 B7 a n b) : w.cell? ⟨B6, 0, none⟩ = some (.int .i64 a) ∧ w.cell? ⟨B6, 1, none⟩ = some (.int .i64 n) ∧ w.cell? ⟨B7, 0, none⟩ = some (.int .i64 b) ∧ w.cell? ⟨B7, 1, none⟩ = some (.int .i64 n) := ⟨h.c0, h.c1, h.c2, h.c3⟩
theorem Cy.lts {w : World} {B6 B7 : Nat} {a n b : Int} (h : Cy w B6 B7 a n b) : B6 < w.heap.size ∧ B7 < w.heap.size := ⟨World.block_lt_of_cell? _ _ h.c0, World.block_lt_of_cell? _ _ h.c2⟩
theorem Cy.step {w w' : World} {B6 B7 : Nat} {a n b : Int} (h : Cy w B6 B7 a n b) (hb : Below w.heap.size w w') : Cy w' B6 B7 a n b :=
  ⟨(hb.cell (World.block_lt_of_cell? _ _ h.c0)).trans h.c0, (hb.cell (World.block_lt_of_cell? _ _ h.c1)).trans h.c1, (hb.cell (World.block_lt_of_cell? _ _ h.c2)).trans h.c2, (hb.cell (World.block_lt_of_cell? _ _ h.c3)).trans h.c3⟩
theorem Cy.grow {w w' : World} {row : Option Nat} {N B6 B7 : Nat} {a n b : Int} (h : Cy w B6 B7 a n b) (hg : w.grownBy w' row) (hr : ∀ j, row = some j → N ≤ j) (hl : B6 < N ∧ B7 < N) : Cy w' B6 B7 a n b :=
  ⟨hg.cell h.c0 (fun e => by have := hr _ e.symm; simp at this; omega), hg.cell h.c1 (fun e => by have := hr _ e.symm; simp at this; omega), hg.cell h.c2 (fun e => by have := hr _ e.symm; simp at this; omega), hg.cell h.c3 (fun e => by have := hr _ e.symm; simp at this; omega)⟩

set_option maxRecDepth 100000 in
set_option maxHeartbeats 8000000 in
theorem blocks_2 (k : Nat) (a : Int) (p : Option Addr) (cap : Nat) (l : List Bur.Sp) (w : World) (ok : Bur.OkK (k + 1) a) (hl : l.length ≤ 60) (hO : Hid (∀ q ∈ l, Bur.OkP q)) (hs : SpAt w p l) (h : Bur.stt l (k + 1) a = 2)
    (ih : ∀ (b : Int) (w : World), b = a ∨ b = a + 2 ^ k → SpAt w p l → Calls Tryz.prog 7 #[pfx b (32 - (k : Int)), .slice p l.length cap] w (BkP l k b w)) :
    Calls Tryz.prog 7 #[pfx a (32 - ((k + 1 : Nat) : Int)), .slice p l.length cap] w (BkP l (k + 1) a w) := by
  obtain ⟨i0, hin, hz0, hz1, hz2⟩ := info_parts infoPfx
  have hL : Hid (Bur.blk l (k + 1) a = Bur.blk l k a ++ Bur.blk l k (a + 2 ^ k)) := Bur.blk_2 h
  have st := fun w hs => refState (k + 1) a p cap l w ok hl hO hs
  simp only [h] at st
  obtain ⟨ok1, ok2, ok3, ok4⟩ := ok
  have hszk : Hid (Bur.sz (32 - (k : Int)) = 2 ^ k) := Bur.sz_pw (by omega)
  have hp := Bur.pw_pos k
  have hps := Bur.pw_succ k
  have hlen : (Bur.blk l k a).length + (Bur.blk l k (a + 2 ^ k)).length ≤ 4294967296 := by
    have h1 := Bur.blk_len l k a
    have h2 := Bur.blk_len l k (a + 2 ^ k)
    have h3 : 2 ^ k ≤ 2 ^ 31 := Nat.pow_le_pow_right (by decide) (by omega)
    omega
  obtain ⟨h2, hh⟩ : ∃ h, (2 : Int) ^ k = h := ⟨_, rfl⟩
  rw [hh] at hszk hL ih hp hps hlen
  obtain ⟨n, hn⟩ : ∃ n, 32 - ((k + 1 : Nat) : Int) = n := ⟨_, rfl⟩
  have hn' : 32 - (k : Int) = n + 1 := by omega
  rw [hn'] at hszk ih
  rw [hn] at st ⊢
  have hn0 : 0 ≤ n := by omega
  have hn1 : n + 1 ≤ 32 := by omega
  have ih1 := fun w => ih a w (.inl rfl)
  have ih2 := fun w => ih (a + h2) w (.inr rfl)
  have hah : a + h2 ≤ 4294967295 := by omega
  obtain ⟨L, hLL⟩ : ∃ L, Bur.blk l (k + 1) a = L := ⟨_, rfl⟩
  unfold BkP
  unfold BkP at ih1 ih2
  rw [hLL] at hL ⊢
  obtain ⟨L1, hL1⟩ : ∃ L1, Bur.blk l k a = L1 := ⟨_, rfl⟩
  obtain ⟨L2, hL2⟩ : ∃ L2, Bur.blk l k (a + h2) = L2 := ⟨_, rfl⟩
  simp only [hL1] at hL ih1 hlen
  simp only [hL2] at hL ih2 hlen
  clear hh hn hn' ih hLL hL1 hL2 h hO ok4
  go_enter Tryz.func7, Tryz.ntmps7
  go_wp2_with fail
  have hb0 : Below w.heap.size w (w.alloc (.cells #[.int .i64 a, .int .i64 n] 23)) := below_al (below_self _) _
  refine (st _ (hs.step hb0)).mono ?_
  rintro e w1 ⟨rfl, hb1⟩
  have s0 : w1.cell? ⟨w.heap.size, 0, none⟩ = some (.int .i64 a) := (hb1.cell (p := ⟨w.heap.size, 0, none⟩) (by simp)).trans (by simp)
  have s1 : w1.cell? ⟨w.heap.size, 1, none⟩ = some (.int .i64 n) := (hb1.cell (p := ⟨w.heap.size, 1, none⟩) (by simp)).trans (by simp)
  have hb2 := below_via hb0 hb1
  have hs1 := hs.step hb2
  have hsw : w.heap.size + 1 ≤ w1.heap.size := by have := hb1.size; simpa using this
  clear hb0 hb1 st hs
  go_upto_region 7 with fail
  have t0 : (w1.alloc (.cells #[.int .i64 a, .int .i64 (n + 1)] 23)).cell? ⟨w.heap.size, 0, none⟩ = some (.int .i64 a) := (World.cell?_alloc_lt _ _ _ (by show w.heap.size < w1.heap.size; omega)).trans s0
  have t1 : (w1.alloc (.cells #[.int .i64 a, .int .i64 (n + 1)] 23)).cell? ⟨w.heap.size, 1, none⟩ = some (.int .i64 n) := (World.cell?_alloc_lt _ _ _ (by show w.heap.size < w1.heap.size; omega)).trans s1
  have t4 : (w1.alloc (.cells #[.int .i64 a, .int .i64 (n + 1)] 23)).cell? ⟨w1.heap.size, 0, none⟩ = some (.int .i64 a) := by simp
  have t5 : (w1.alloc (.cells #[.int .i64 a, .int .i64 (n + 1)] 23)).cell? ⟨w1.heap.size, 1, none⟩ = some (.int .i64 (n + 1)) := by simp
  have hbV := below_al hb2 (.cells #[.int .i64 a, .int .i64 (n + 1)] 23)
  have hsV := hs1.alloc (.cells #[.int .i64 a, .int .i64 (n + 1)] 23)
  obtain ⟨B6, hB6⟩ : ∃ B6, w1.heap.size = B6 := ⟨_, rfl⟩
  rw [hB6] at t4 t5 hsw ⊢
  obtain ⟨V, hV⟩ : ∃ V, w1.alloc (.cells #[.int .i64 a, .int .i64 (n + 1)] 23) = V := ⟨_, rfl⟩
  have hVs : V.heap.size = B6 + 1 := by rw [← hV, ← hB6]; simp
  rw [hV] at t0 t1 t4 t5 hbV hsV ⊢
  clear hV hB6 s0 s1 hb2 hs1
  have w1' : IntKind.i64.wrap (n + 1) = n + 1 := Bur.wrap_i64_id _ (by omega) (by omega)
  have w2' : IntKind.i64.wrap (a + h2) = a + h2 := Bur.wrap_i64_id _ (by omega) (by omega)
  go_cut [7] from 23 to 33 (fun v wy => ∃ B7, v = .pointer (some ⟨B7, 0, none⟩) ∧ wy.cell? ⟨B7, 0, none⟩ = some (.int .i64 (a + h2)) ∧ wy.cell? ⟨B7, 1, none⟩ = some (.int .i64 (n + 1)) ∧ Below V.heap.size V wy)
  case first =>
    have n0 := World.new_ne V ⟨w.heap.size, 0, none⟩ t0
    have n1 := World.new_ne V ⟨w.heap.size, 1, none⟩ t1
    go_region_held3 (fun wy => wy.cell? ⟨w.heap.size, 0, none⟩ = some (.int .i64 a) ∧ wy.cell? ⟨w.heap.size, 1, none⟩ = some (.int .i64 n)) (first | exact ⟨t0, t1⟩ | exact ⟨(World.cell?_alloc_lt _ _ _ (by show w.heap.size < V.heap.size; omega)).trans t0, (World.cell?_alloc_lt _ _ _ (by show w.heap.size < V.heap.size; omega)).trans t1⟩ | go_keep)
      (first | (go_at_call 25; refine (size_eq (n + 1) (by omega) (by omega) _).mono ?_; rintro e w2 ⟨rfl, hw2⟩; have hw3 := hw2.symm; subst hw3; rw [hszk.out]))
    all_goals go_wp2_with fail
    all_goals go_meet
    all_goals exact ⟨B6 + 1, rfl, by rw [← hVs]; simp, by rw [← hVs]; simp, (below_al (below_self V) _).drew⟩
  case rest =>
  obtain ⟨B7, rfl, r4, r5, hb7⟩ := hcut
  have hX : Cy wc B6 B7 a (n + 1) (a + h2) := ⟨(hb7.cell (World.block_lt_of_cell? _ _ t4)).trans t4, (hb7.cell (World.block_lt_of_cell? _ _ t5)).trans t5, r4, r5⟩
  have hbX := below_via hbV hb7
  have hsX := hsV.step hb7
  have hszX := hbX.size
  clear hb7 hbV t0 t1 t4 t5 r4 r5 hVs hsV
  obtain ⟨X, hXX⟩ : ∃ X, X = wc := ⟨_, rfl⟩
  subst hXX
  obtain ⟨x0, x1, x2, x3⟩ := hX.all
  have hsXd : SpAt X.drew p l := hsX.step (below_self _).drew
  go_upto_region 8 with fail
  go_region_held3 (fun wy => wy.cell? ⟨B6, 0, none⟩ = some (.int .i64 a) ∧ wy.cell? ⟨B6, 1, none⟩ = some (.int .i64 (n + 1)) ∧ wy.cell? ⟨B7, 0, none⟩ = some (.int .i64 (a + h2)) ∧ wy.cell? ⟨B7, 1, none⟩ = some (.int .i64 (n + 1)))
    (first | exact hC.all | exact hB.all | exact hA.all | exact hX.all)
    (first
      | (go_at_call 7; refine (ih1 _ hsXd).mono ?_; clear ih1; rintro e wA ⟨v1, rfl, own1, z1, hbA⟩; have hA : Cy wA B6 B7 a (n + 1) (a + h2) := (hX.step (below_self _).drew).step hbA; have hsA := hsXd.step hbA)
      | (go_at_call 7; refine (ih2 _ hsA).mono ?_; clear ih2; rintro e wB ⟨v2, rfl, own2, z2, hbB⟩; have hB : Cy wB B6 B7 a (n + 1) (a + h2) := hA.step hbB; have hszA := hbA.size; have hszB := hbB.size; have own1w := ownMono (B' := w.heap.size) (by simpa using hszX) (own_below own1 hbB))
      | (refine stepAppend rfl _ _ 24 rfl w.heap.size _ 23 i0 (.agg #[.int .i64 0, .int .i64 0]) 2 16 Tryz.underlying24 hin hz0 hz1 hz2 rfl (by decide) _ _ _ rfl own1w _ _ _ rfl own2 z2 (spvOne _) (by unfold maxLen; omega) (by omega) (by simp at hszA; omega) ?_; intro v' w5 own5 hgrow hnil; have hC : Cy w5 B6 B7 a (n + 1) (a + h2) := hB.grow hgrow (fun j hj => by have := (own1.lt j hj).1; exact this) hX.lts))
  have hb8 : Below w.heap.size w wB := below_via (below_via hbX.drew hbA) hbB
  have hb9 : Below w.heap.size w w5 := hb8.grown hgrow hb8.size (fun j hj => (own1w.lt j hj).1)
  have own6 : w5.ownsRow w.heap.size 23 2 v' L.length (spV L) := by rw [hL.out, List.length_append, spV_app]; exact own5
  have hnn : Hid (L.length = 0 → v' = .slice none 0 0) := by
    show _ → _
    intro h0
    rw [hL.out, List.length_append] at h0
    rw [hnil (by omega)]
    exact z1 (by omega)
  clear hgrow own5 own1w own1 own2 hX hA hB hC hb8 hbX hbA hbB x0 x1 x2 x3 z1 z2 hnil hsX hsXd hsA
  go_wp2_with fail
  go_ret
  exact ⟨v', rfl, own6, hnn.out, hb9⟩

/-- BlocksOf, of any prefix: the blocks by halving. -/
theorem refBlocks (p : Option Addr) (cap : Nat) (l : List Bur.Sp) (hl : l.length ≤ 60) (hO : Hid (∀ q ∈ l, Bur.OkP q)) : ∀ (k : Nat) (a : Int) (w : World), Bur.OkK k a → SpAt w p l →
    Calls Tryz.prog 7 #[pfx a (32 - (k : Int)), .slice p l.length cap] w (BkP l k a w) := by
  intro k
  induction k with
  | zero =>
    intro a w ok hs
    rcases Bur.stt_or l 0 a with h | h | h
    · exact blocks_0 0 a p cap l w ok hl hO hs h
    · exact blocks_1 0 a p cap l w ok hl hO hs h
    · have := (Bur.stt_2 ok h).2
      omega
  | succ k ih =>
    intro a w ok hs
    rcases Bur.stt_or l (k + 1) a with h | h | h
    · exact blocks_0 (k + 1) a p cap l w ok hl hO hs h
    · exact blocks_1 (k + 1) a p cap l w ok hl hO hs h
    · refine blocks_2 k a p cap l w ok hl hO hs h ?_
      rintro b w' (rfl | rfl) hs'
      · exact ih b w' ok.low hs'
      · exact ih (a + 2 ^ k) w' ok.high hs'
end Go.Proofs.YtfhidiedmenliaaGreatDoor
