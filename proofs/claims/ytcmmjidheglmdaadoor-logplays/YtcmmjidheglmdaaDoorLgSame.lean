/- The contract of burgagesame.Lists at two lists that are the same. -/
import Derived.Test.YtcmmjidheglmdaaDoorCdSame
import Derived.Test.YtcmmjidheglmdaaDoorLgBase
namespace Go.Proofs.YtcmmjidheglmdaaDoor
open Go.RowKit Vs

set_option maxHeartbeats 2000000 in
theorem sameLists {G H : Nat → Prop} (ls : List (List Chg)) (p q : Option Addr) (cp cq : Nat) (w : World) (hl : ls.length ≤ 9223372036854775807) (hp : LsAt w G p ls) (hq : LsAt w H q ls) :
    Calls Tryd.prog 15 #[.slice p ls.length cp, .slice q ls.length cq] w fun e w' => e = .returned (.bool true) ∧ Below w.heap.size w w' := by
  go_enter Tryd.func15, Tryd.ntmps15
  go_wp2
  go_loopw [5] (fun i wr => ∃ (k : Nat), k ≤ ls.length ∧ i = .int .i64 k ∧ Below w.heap.size w wr) (fun i _ => ls.length - (intOf i).toNat)
  case atStart => exact ⟨0, by omega, rfl, below_self _⟩
  case round =>
    obtain ⟨k, hk, rfl, hb⟩ := hrel
    by_cases hlt : k < ls.length
    · have hlt' : (k : Int) < (ls.length : Int) := by omega
      obtain ⟨b1, o1, rfl, hb1, _, hc1⟩ := (hp.step hb) (by omega)
      obtain ⟨b2, o2, rfl, hb2, _, hc2⟩ := (hq.step hb) (by omega)
      obtain ⟨x, hx⟩ := Vs.chsome hlt
      obtain ⟨_, e1, q1, c1, rfl, h1, h2, h3⟩ := hc1 k x hx
      obtain ⟨_, e2, q2, c2, rfl, h4, h5, h6⟩ := hc2 k x hx
      have hS := sameChanges x x q1 q2 c1 c2 wr.drew (by omega) ((h3.step (below_self wr).drew).at) ((h6.step (below_self wr).drew).at)
      rw [decide_eq_true (rfl : x = x)] at hS
      clear hp hq hx hc1 hc2 h3 h6
      go_wp2_with fail
      go_region_held3 (fun wy => wy.cell? ⟨b1, o1 + k, none⟩ = some (.slice q1 x.length c1) ∧ wy.cell? ⟨b2, o2 + k, none⟩ = some (.slice q2 x.length c2)) (first | exact ⟨e1, e2⟩ | exact ⟨f1, f2⟩)
        (first | (go_at_call 29; refine hS.mono ?_; rintro e w1 ⟨rfl, hb3⟩; have f1 := (hb3.cell (p := ⟨b1, o1 + k, none⟩) hb1).trans e1; have f2 := (hb3.cell (p := ⟨b2, o2 + k, none⟩) hb2).trans e2))
      go_wp2_with fail
      exact ⟨⟨k + 1, by omega, by go_num, below_via hb.drew hb3⟩, by simp [intOf]; omega⟩
    · go_wp2
      go_ret
      exact ⟨rfl, hb⟩
end Go.Proofs.YtcmmjidheglmdaaDoor
