/- The reference: PlacedIn. -/
import Derived.Test.YtdjiodikefoliaaDoorCAuJ
namespace Bur
theorem usB_take (L : List Vs.Pr) (n : List UInt8) (p : Sp) (k : Nat) (x : Vs.Pr) (h : L[k]? = some x) : usB (L.take (k + 1)) n p = usB (L.take k) n p ++ (if isE 3 n (fun q => hs p q.1) (ek x) = true then (ek x).map (fun e => e.2.2.1) else none).toList := by
  unfold usB
  rw [List.take_add_one, h, Option.toList_some, List.filterMap_append]
  congr 1
end Bur
namespace Go.Proofs.YtdjiodikefoliaaDoor.Au
open Go.RowKit Go.Maps Pa
open Ta (SpAt spV spAt_own info_pfx own_below)
open Ha (InAt inV infoInt inAt_own)

set_option maxRecDepth 100000 in
set_option maxHeartbeats 8000000 in
theorem refPlaced (L : List Vs.Pr) (p : Option Addr) (cap : Nat) (n : List UInt8) (x0 l0 : Int) (w : World) (hp : PrAt w p L) (hl : L.length ≤ 1000) (hk : ∀ x ∈ L, x.1.size < 4294967281) (hf : Bur.fault x0 l0 = 0) :
    Calls Tryd.prog 10 #[.slice p L.length cap, .string ⟨n.toArray⟩, pfx x0 l0] w fun e w' => ∃ v, e = .returned v ∧ w'.ownsRow w.heap.size 3 1 v (Bur.usB L n (x0, l0)).length (inV (Bur.usB L n (x0, l0))) ∧ Below w.heap.size w w' := by
  obtain ⟨f0, f1, fa0, fa1, fz⟩ := Bur.fault_ok hf
  have KL : ∀ W : World, Calls Tryd.prog 15 #[pfx x0 l0] W fun e w' => e = .returned (.int .i64 (x0 + Bur.sz l0 - 1)) ∧ Below W.heap.size W w' := fun W => (lastOf x0 l0 W f0 f1 (Bur.isA_mk fa0 fa1)).mono (fun e w' h => ⟨h.1, by obtain ⟨_, n, rfl⟩ := h; exact below_box _ _ n⟩)
  have hps := Bur.sz_pos l0
  have hpl := Bur.sz_le l0 f0
  have b0 := below_al (below_self w) (.cells #[.int .i64 x0, .int .i64 l0] 24)
  have bx0 := Bx.new w 24 x0 l0
  have ST : Hid _ := And.intro b0 bx0
  clear b0 bx0 hf fz
  go_enter Tryd.func10, Tryd.ntmps10
  go_wp2
  go_loopw [7, 8] (fun v a wr => ∃ (k : Nat) (r : List Int), k ≤ L.length ∧ a = .int .i64 k ∧ r.length ≤ k ∧ Hid (r = Bur.usB (L.take k) n (x0, l0)) ∧ wr.ownsRow (w.heap.size + 1) 3 1 v r.length (inV r) ∧ Bx wr w.heap.size x0 l0 ∧ Below w.heap.size w wr) (fun _ a _ => L.length - (intOf a).toNat)
  case atStart => exact ⟨0, [], by omega, rfl, by simp, (by show _ = _; rfl), World.ownsRow_nil _ _ _ _, ST.out.2, ST.out.1⟩
  case round =>
    obtain ⟨k, r, hkl, rfl, hrk, hM, hrow, bxr, hb⟩ := hrel
    clear ST
    by_cases hlt : k < L.length
    · have hlt' : (k : Int) < (L.length : Int) := by omega
      obtain ⟨x, hx⟩ : ∃ x, L[k]? = some x := ⟨L[k], List.getElem?_eq_getElem hlt⟩
      obtain ⟨B, off, rfl, hbl, hc⟩ := (hp.step hb) (by omega)
      obtain ⟨d0, d1⟩ := hc k x hx
      have hst := Bur.usB_take L n (x0, l0) k x hx
      obtain ⟨K, m, q1, q2, a, KK, hKr, hK0, hKs⟩ := refKind1 x (hk x (List.mem_of_getElem? hx))
      have KR := KK wr
      rw [← hM.out] at hst
      clear hM hc KK
      by_cases c1 : K = 3 ∧ m = n ∧ x0 ≤ a ∧ a ≤ x0 + Bur.sz l0 - 1
      · obtain ⟨rfl, rfl, g0, g1⟩ := c1
        obtain ⟨q, hE, _, hq3⟩ := hKs (by decide)
        obtain ⟨rfl, hA⟩ := hq3 rfl
        have hE1 : Bur.isE 3 m (fun q => Bur.hs (x0, l0) q.1) (Bur.ek x) = true := Bur.isE_iff.2 ⟨_, hE, (Bur.hs_iff _ _).2 ⟨g0, g1⟩⟩
        rw [if_pos hE1, hE] at hst
        have hM2 : Hid (r ++ [a] = Bur.usB (L.take (k + 1)) m (x0, l0)) := hst.symm
        clear hst hE hE1 hK0 hKs hKr hq3 hA hx
        go_wp2_with (first
          | (go_at_call 13; refine KR.mono ?_; clear KR; rintro e w3 ⟨rfl, hb3⟩; have hb4 := below_al hb3 (.cells #[.int .i64 q1, .int .i64 q2] 24); have row4 := own_below hrow hb4; have bb4 := below_via hb hb4; have hs4 := bb4.size; have bx4 := bxr.step hb4; have e0 := bx4.c0; have e1 := bx4.c1; have hw3 : w.heap.size < w3.heap.size := Nat.lt_of_lt_of_le bxr.lt hb3.size)
          | (go_at_call 15; refine (KL _).mono ?_; rintro e w5 ⟨rfl, hb5⟩; have row5 := own_below row4 hb5; have bb5 := below_via bb4 hb5; have bx5 := bx4.step hb5; have hs5 : w.heap.size + 1 ≤ w5.heap.size := bx5.lt)
          | (at_builtin; refine wpList_append_one 39 3 1 8 _ Tryd.underlying39 infoInt rfl (by decide) (by decide) rfl _ _ rfl (w.heap.size + 1) _ r.length (inV r) rfl (row5.alloc _) (by simp; omega) _ [.int .i64 a] rfl rfl (one_cell _ _ _) (fun u hu => by rw [List.mem_singleton.1 hu]; rfl) (by omega) ?_; intro v6 w6 own6 hg6))
        have own7 : w6.ownsRow (w.heap.size + 1) 3 1 v6 (r ++ [a]).length (inV (r ++ [a])) := by
          rw [List.length_append, show inV (r ++ [a]) = inV r ++ [.int .i64 a] from by simp [inV]]
          exact own6
        have bl6 : Below (w.heap.size + 1) w5 w6 := (below_al (below_self w5) _ |>.mono hs5).grown hg6 (by simp; omega) (fun j hj => (row5.lt j hj).1)
        have bx6 : Bx w6 w.heap.size x0 l0 := ⟨(bl6.cell (p := ⟨w.heap.size, 0, none⟩) (Nat.lt_succ_self _)).trans bx5.c0, (bl6.cell (p := ⟨w.heap.size, 1, none⟩) (Nat.lt_succ_self _)).trans bx5.c1, (bl6.frozen (p := ⟨w.heap.size, 0, none⟩) (Nat.lt_succ_self _)).trans bx5.f0, (bl6.frozen (p := ⟨w.heap.size, 1, none⟩) (Nat.lt_succ_self _)).trans bx5.f1⟩
        have bb6 : Below w.heap.size w w6 := bb5.trans (bl6.mono (Nat.le_succ _))
        exact ⟨⟨k + 1, r ++ [a], by omega, by go_num, by simp; omega, hM2, own7, bx6, bb6⟩, by simp [intOf]; omega⟩
      · have hE1 : Bur.isE 3 n (fun q => Bur.hs (x0, l0) q.1) (Bur.ek x) = false := by
          cases e : Bur.isE 3 n (fun q => Bur.hs (x0, l0) q.1) (Bur.ek x) with
          | false => rfl
          | true =>
            obtain ⟨q, hE, hh⟩ := Bur.isE_iff.1 e
            by_cases hK : K = 0
            · rw [hK0.1 hK] at hE; cases hE
            · obtain ⟨q', hE', _, h3⟩ := hKs hK
              rw [hE'] at hE
              simp at hE
              obtain ⟨e1, e2, e3⟩ := hE
              obtain ⟨rfl, _⟩ := h3 e1
              rw [← e3] at hh
              exact absurd ⟨e1, e2, (Bur.hs_iff _ _).1 hh⟩ c1
        rw [hE1, if_neg (by decide), Option.toList_none, List.append_nil] at hst
        have hM2 : Hid (r = Bur.usB (L.take (k + 1)) n (x0, l0)) := hst.symm
        have ha : K = 3 → Bur.isA a = true := fun h => by
          obtain ⟨q', _, _, h3⟩ := hKs (by omega)
          exact (h3 h).2
        clear hst hE1 hK0 hKs hx
        by_cases c2 : K = 3
        · have hA := ha c2
          subst c2
          by_cases c3 : m = n
          · subst c3
            by_cases c4 : x0 ≤ a
            · have c5 : ¬ a ≤ x0 + Bur.sz l0 - 1 := fun h => c1 ⟨rfl, rfl, c4, h⟩
              clear c1 ha hA
              go_wp2_with (first
                | (go_at_call 13; refine KR.mono ?_; clear KR; rintro e w3 ⟨rfl, hb3⟩; have hb4 := below_al hb3 (.cells #[.int .i64 q1, .int .i64 q2] 24); have row4 := own_below hrow hb4; have bb4 := below_via hb hb4; have hs4 := bb4.size; have bx4 := bxr.step hb4; have e0 := bx4.c0; have e1 := bx4.c1; have hw3 : w.heap.size < w3.heap.size := Nat.lt_of_lt_of_le bxr.lt hb3.size)
                | (go_at_call 15; refine (KL _).mono ?_; rintro e w5 ⟨rfl, hb5⟩; have row5 := own_below row4 hb5; have bb5 := below_via bb4 hb5; have bx5 := bx4.step hb5; have hs5 : w.heap.size + 1 ≤ w5.heap.size := bx5.lt))
              exact ⟨⟨k + 1, r, by omega, by go_num, by omega, hM2, row5, bx5, bb5⟩, by simp [intOf]; omega⟩
            · clear c1 ha hA
              go_wp2_with (go_at_call 13; refine KR.mono ?_; clear KR; rintro e w3 ⟨rfl, hb3⟩; have hb4 := below_al hb3 (.cells #[.int .i64 q1, .int .i64 q2] 24); have row4 := own_below hrow hb4; have bb4 := below_via hb hb4; have hs4 := bb4.size; have bx4 := bxr.step hb4; have e0 := bx4.c0; have e1 := bx4.c1; have hw3 : w.heap.size < w3.heap.size := Nat.lt_of_lt_of_le bxr.lt hb3.size)
              exact ⟨⟨k + 1, r, by omega, by go_num, by omega, hM2, row4, bx4, bb4⟩, by simp [intOf]; omega⟩
          · have c3' : (m == n) = false := beq_eq_false_iff_ne.2 c3
            clear c1 ha hA
            go_wp2_with (go_at_call 13; refine KR.mono ?_; clear KR; rintro e w3 ⟨rfl, hb3⟩; have hb4 := below_al hb3 (.cells #[.int .i64 q1, .int .i64 q2] 24); have row4 := own_below hrow hb4; have bb4 := below_via hb hb4; have hs4 := bb4.size; have bx4 := bxr.step hb4; have e0 := bx4.c0; have e1 := bx4.c1; have hw3 : w.heap.size < w3.heap.size := Nat.lt_of_lt_of_le bxr.lt hb3.size)
            exact ⟨⟨k + 1, r, by omega, by go_num, by omega, hM2, row4, bx4, bb4⟩, by simp [intOf]; omega⟩
        · have c2' : (K == 3) = false := beq_eq_false_iff_ne.2 c2
          clear c1 ha
          go_wp2_with (go_at_call 13; refine KR.mono ?_; clear KR; rintro e w3 ⟨rfl, hb3⟩; have hb4 := below_al hb3 (.cells #[.int .i64 q1, .int .i64 q2] 24); have row4 := own_below hrow hb4; have bb4 := below_via hb hb4; have hs4 := bb4.size; have bx4 := bxr.step hb4; have e0 := bx4.c0; have e1 := bx4.c1; have hw3 : w.heap.size < w3.heap.size := Nat.lt_of_lt_of_le bxr.lt hb3.size)
          exact ⟨⟨k + 1, r, by omega, by go_num, by omega, hM2, row4, bx4, bb4⟩, by simp [intOf]; omega⟩
    · have hlt' : ¬ (k : Int) < (L.length : Int) := by omega
      have hE : Hid (r = Bur.usB L n (x0, l0)) := by
        have := hM.out
        rw [List.take_of_length_le (by omega)] at this
        exact this
      clear hM
      go_wp2
      go_ret
      exact ⟨_, rfl, by rw [← hE.out]; exact ownMono (Nat.le_succ _) hrow, hb⟩
end Go.Proofs.YtdjiodikefoliaaDoor.Au
