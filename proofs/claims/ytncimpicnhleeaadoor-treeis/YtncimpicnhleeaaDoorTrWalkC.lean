/- The contract of tree's keep, for whatever question it is handed. -/
import Derived.Test.YtncimpicnhleeaaDoorTrWalkB
import Derived.Shelf.Abstract
namespace Go.Proofs.YtncimpicnhleeaaDoor
open Go.RowKit

set_option maxHeartbeats 4000000 in
/-- What is kept of a list: those that the question says yes to. -/
theorem keepL (g : Nat) (lb : Array Value) (eg : ∀ args w, (callFunc g args).run Tryd.prog w = .ok (.enter g args) w) (P : Bur.Sp → Bool) (q : Option Addr) (cap : Nat) (l : List Bur.Sp) (w : World) (hz : l.length ≤ 1000000) (hq : SpAt w q l)
    (hF : ∀ (i : Nat) (w1 : World), i < l.length → Below w.heap.size w w1 → Calls Tryd.prog g (#[pfx (lo l i) (hi l i)] ++ lb) w1 fun e w' => e = .returned (.bool (P (lo l i, hi l i))) ∧ Below w1.heap.size w1 w') :
    Calls Tryd.prog 32 #[.slice q l.length cap, .func (.func g) #[] lb] w fun e w' => ∃ (p' : Option Addr) (cap' : Nat), e = .returned (.slice p' (l.filter P).length cap') ∧ SpAt w' p' (l.filter P) ∧ Below w.heap.size w w' := by
  obtain ⟨i0, hi0, hz0, hz1, hz2⟩ := info_parts info_pfx
  go_enter Tryd.func32, Tryd.ntmps32
  go_wp2
  go_loopw [5, 10] (fun v i wr => ∃ (k : Nat) (done : List Bur.Sp), k ≤ l.length ∧ i = .int .i64 k ∧ done.length ≤ k ∧ Hid (l.filter P = done ++ (l.drop k).filter P) ∧ wr.ownsRow w.heap.size 24 2 v done.length (spV done) ∧ Below w.heap.size w wr) (fun _ i _ => l.length - (intOf i).toNat)
  case atStart => exact ⟨0, [], by omega, rfl, by simp, rfl, World.ownsRow_nil _ _ _ _, below_self _⟩
  case round =>
    obtain ⟨k, done, hk, rfl, hrl, R, hown, hb⟩ := hrel
    have hsz := hb.size
    by_cases hlt : k < l.length
    · have hlt' : (k : Int) < (l.length : Int) := by omega
      obtain ⟨b, off, rfl, hbl, hc⟩ := hq (by omega)
      have HF := hF k
      obtain ⟨x, hx⟩ : ∃ x, x = lo l k := ⟨_, rfl⟩
      obtain ⟨y, hy⟩ : ∃ y, y = hi l k := ⟨_, rfl⟩
      rw [← hx, ← hy] at HF
      have c0 : wr.cell? ⟨b, off + k * 2, none⟩ = some (.int .i64 x) := by rw [hx]; exact (hb.cell (p := ⟨b, off + k * 2, none⟩) hbl).trans (hc k hlt).1
      have c1 : wr.cell? ⟨b, off + k * 2 + 1, none⟩ = some (.int .i64 y) := by rw [hy]; exact (hb.cell (p := ⟨b, off + k * 2 + 1, none⟩) hbl).trans (hc k hlt).2
      have hd : Hid (l.drop k = (x, y) :: l.drop (k + 1)) := by show _ = _; rw [hx, hy]; exact drop_sp hlt
      have HF2 := HF (wr.alloc (.cells #[.int .i64 x, .int .i64 y] 24)) hlt (below_al hb _)
      clear hx hy hc hq hF HF
      cases hp : P (x, y)
      · have R2 : Hid (l.filter P = done ++ (l.drop (k + 1)).filter P) := by
          show _ = _
          rw [R.out, hd.out, List.filter_cons, if_neg (by simp [hp])]
        rw [hp] at HF2
        clear R hd hp
        go_wp2_with (go_at_fn g; refine HF2.mono ?_; rintro e w1 ⟨rfl, hb1⟩; have hb2 := below_via (below_al hb _) hb1; have hown2 := own_below (hown.alloc _) hb1; clear hb1)
        exact ⟨⟨k + 1, done, by omega, by go_num, by omega, R2, hown2, hb2⟩, by simp [intOf]; omega⟩
      · have R2 : Hid (l.filter P = (done ++ [(x, y)]) ++ (l.drop (k + 1)).filter P) := by
          show _ = _
          rw [R.out, hd.out, List.filter_cons, if_pos hp]; simp
        rw [hp] at HF2
        clear R hd hp
        go_wp2_with (first | (go_at_fn g; refine HF2.mono ?_; rintro e w1 ⟨rfl, hb1⟩; have hb2 := below_via (below_al hb _) hb1; have hown2 := own_below (hown.alloc _) hb1; have d0 : w1.cell? ⟨wr.heap.size, 0, none⟩ = some (.int .i64 x) := (hb1.cell (p := ⟨wr.heap.size, 0, none⟩) (by simp)).trans (by simp); have d1 : w1.cell? ⟨wr.heap.size, 1, none⟩ = some (.int .i64 y) := (hb1.cell (p := ⟨wr.heap.size, 1, none⟩) (by simp)).trans (by simp); have hsz2 := hb2.size; clear hb1) | (at_builtin; refine wpList_append_own _ rfl _ _ 22 rfl w.heap.size 24 i0 (.agg #[.int .i64 0, .int .i64 0]) 2 16 Tryd.underlying22 hi0 hz0 hz1 hz2 rfl (by decide) _ _ _ rfl (hown2.alloc _) ⟨w1.heap.size, 0, none⟩ 1 1 [.int .i64 x, .int .i64 y] rfl rfl ?c1 ?c2 ?c3 ?c4 ?c5 ?_))
        case c1 =>
          intro j u hj
          match j, hj with
          | 0, hj => simp at hj; subst hj; simp [Addr.add]
          | 1, hj => simp at hj; subst hj; simp [Addr.add]
        case c2 => intro u hu; simp at hu; rcases hu with rfl | rfl <;> rfl
        case c3 => unfold maxLen; omega
        case c4 => omega
        case c5 => simp; omega
        intro v' w2 hown3 hgrow _
        have hb3 : Below w.heap.size w w2 := (below_al hb2 _).grown hgrow (by simp; omega) (fun j hj => (hown2.lt j hj).1)
        clear hown2 hgrow hown
        go_wp2
        exact ⟨⟨k + 1, done ++ [(x, y)], by omega, by go_num, by simp; omega, R2, by simpa [spV_app, spV] using hown3, hb3⟩, by simp [intOf]; omega⟩
    · have hd : l.drop k = [] := List.drop_eq_nil_of_le (by omega)
      have R2 : Hid (l.filter P = done) := by
        show _ = _
        rw [R.out, hd]
        simp
      rw [← R2.out] at hown
      clear R R2 hd hF hq
      go_wp2
      rcases hown.2 with ⟨rfl, h0⟩ | ⟨g2, cp, cur', rfl, _⟩
      · go_ret
        exact ⟨none, 0, by rw [h0]; rfl, fun h => by omega, hb⟩
      · go_ret
        exact ⟨some ⟨g2, 0, none⟩, cp, rfl, (spAt_own hown).2, hb⟩
end Go.Proofs.YtncimpicnhleeaaDoor
