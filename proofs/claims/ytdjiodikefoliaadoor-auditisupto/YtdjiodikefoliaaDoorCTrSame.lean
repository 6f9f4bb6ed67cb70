/- The contract of the likeness of prefixes, at the same ones. -/
import Derived.Test.YtdjiodikefoliaaDoorCTrBase
namespace Go.Proofs.YtdjiodikefoliaaDoor.Ta
open Go.RowKit

set_option maxHeartbeats 4000000 in
theorem prefixes_same (p q : Option Addr) (ca cb : Nat) (l : List Bur.Sp) (w : World) (hl : l.length ≤ 9223372036854775807) (hs : SpAt w p l) (ht : SpAt w q l) : Calls Tryd.prog 9 #[.slice p l.length ca, .slice q l.length cb] w fun e w' => e = .returned (.bool true) ∧ Below w.heap.size w w' := by
  have hne : ((l.length : Int) != (l.length : Int)) = false := by simp
  go_enter Tryd.func9, Tryd.ntmps9
  go_wp2
  go_loopw [5] (fun i wr => ∃ (k m : Nat), k ≤ l.length ∧ i = .int .i64 k ∧ wr = w.drewN m) (fun i _ => (l.length - intOf i).toNat)
  case atStart => exact ⟨0, 0, by omega, rfl, rfl⟩
  case round =>
    obtain ⟨k, m, hk, rfl, rfl⟩ := hrel
    by_cases hlt : k < l.length
    · have hlt' : (k : Int) < (l.length : Int) := by omega
      obtain ⟨A, oa, rfl, hbl, hc⟩ := hs (by omega)
      obtain ⟨B, ob, rfl, hbl2, hd⟩ := ht (by omega)
      have c0 : (w.drewN m).cell? ⟨A, oa + k * 2, none⟩ = some (.int .i64 (lo l k)) := (hc k hlt).1
      have c1 : (w.drewN m).cell? ⟨A, oa + k * 2 + 1, none⟩ = some (.int .i64 (hi l k)) := (hc k hlt).2
      have c2 : (w.drewN m).cell? ⟨B, ob + k * 2, none⟩ = some (.int .i64 (lo l k)) := (hd k hlt).1
      have c3 : (w.drewN m).cell? ⟨B, ob + k * 2 + 1, none⟩ = some (.int .i64 (hi l k)) := (hd k hlt).2
      generalize hW : w.drewN m = W at c0 c1 c2 c3 ⊢
      have HW : Hid (w.drewN m = W) := hW
      have b1 : (lo l k != lo l k) = false := by simp
      have b2 : (hi l k != hi l k) = false := by simp
      clear hW hc hd hs ht
      go_wp2
      go_quiet (fail)
      go_wp2
      exact ⟨⟨k + 1, m + nq, by omega, by go_num, by rw [← HW.out]; simp⟩, by simp [intOf]; omega⟩
    · clear hs ht
      go_wp2
      go_ret
      exact ⟨rfl, below_drewN (below_self _) m⟩
end Go.Proofs.YtdjiodikefoliaaDoor.Ta
