/- Numbers in memory; the contracts of host's Usable and checkUsed. -/
import Derived.Test.YtdjiodikefoliaaDoorCAdEnds
import Derived.Test.YtdjiodikefoliaaDoorCHsMath
import Derived.Test.YtdjiodikefoliaaDoorCBx
namespace Go.Proofs.YtdjiodikefoliaaDoor.Ha
open Go.RowKit

/-- Numbers lie at the address of a slice, to be read. -/
def InAt (w : World) (p : Option Addr) (zs : List Int) : Prop :=
  0 < zs.length → ∃ b off, p = some ⟨b, off, none⟩ ∧ b < w.heap.size ∧ ∀ i, i < zs.length → w.cell? ⟨b, off + i, none⟩ = some (.int .i64 (zs.getD i 0))
theorem InAt.step {w w' : World} {p : Option Addr} {zs : List Int} (h : InAt w p zs) (hb : Below w.heap.size w w') : InAt w' p zs := by
  intro hl
  obtain ⟨b, off, rfl, hlt, hc⟩ := h hl
  refine ⟨b, off, rfl, Nat.lt_of_lt_of_le hlt hb.size, fun i hi => ?_⟩
  rw [hb.cell (p := ⟨b, off + i, none⟩) hlt]
  exact hc i hi
theorem drop_int {zs : List Int} {k : Nat} (h : k < zs.length) : zs.drop k = zs.getD k 0 :: zs.drop (k + 1) := by
  rw [List.drop_eq_getElem_cons h]
  simp only [List.getD, List.getElem?_eq_getElem h, Option.getD_some]
theorem take_int {zs : List Int} {k : Nat} (h : k < zs.length) : zs.take (k + 1) = zs.take k ++ [zs.getD k 0] := by
  rw [List.take_add_one]
  simp [List.getD, List.getElem?_eq_getElem h]

theorem usable (a l : Int) (w : World) : Calls Tryd.prog 57 #[pfx a l] w fun e w' => e = .returned (.tuple #[pfx (Bur.usS (a, l)).1 (Bur.usS (a, l)).2, ev (Bur.fault a l)]) ∧ Below w.heap.size w w' := by
  by_cases h : Bur.fault a l = 0
  · obtain ⟨h0, h1, a0, a1, hz⟩ := Bur.fault_ok h
    have hp := Bur.sz_pos l
    have hq := Bur.sz_le l h0
    by_cases h31 : 31 ≤ l
    · rw [show Bur.usS (a, l) = (a, a + (Bur.sz l - 1)) from by rw [Bur.usS, if_pos h, Bur.usa, if_pos (by show 30 < l; omega)]; show (a, a + Bur.sz l - 1) = _; rw [Int.add_sub_assoc], show ev (Bur.fault a l) = .nilIface from by rw [h, ev_0]]
      go_enter Tryd.func57, Tryd.ntmps57
      go_wp2_with (go_at_call 69; refine (ends_ok _ _ _ h).mono ?_; rintro e w' ⟨rfl, hb⟩; have c1 : w'.cell? ⟨w.heap.size, 1, none⟩ = some (.int .i64 l) := (hb.cell (p := ⟨w.heap.size, 1, none⟩) (by simp; omega)).trans (by simp); have c2 : w'.frozen? ⟨w.heap.size + 1, 0, none⟩ = false := (hb.frozen (p := ⟨w.heap.size + 1, 0, none⟩) (by simp)).trans (by simp); have c3 : w'.frozen? ⟨w.heap.size + 1, 1, none⟩ = false := (hb.frozen (p := ⟨w.heap.size + 1, 1, none⟩) (by simp)).trans (by simp); have c4 : w'.cell? ⟨w.heap.size + 1, 0, none⟩ = some (.int .i64 0) := (hb.cell (p := ⟨w.heap.size + 1, 0, none⟩) (by simp)).trans (by simp); have c5 : w'.cell? ⟨w.heap.size + 1, 1, none⟩ = some (.int .i64 0) := (hb.cell (p := ⟨w.heap.size + 1, 1, none⟩) (by simp)).trans (by simp); have hb2 := below_via (below_al (below_al (below_self w) _) _) hb; clear hb)
      exact bodyPost_ret (v := .tuple #[pfx a (a + (Bur.sz l - 1)), .nilIface]) (by simp [results, Tryd.results57, go_sem, c4, c5]) rfl ⟨rfl, by repeat (first | exact hb2 | refine Below.setCell ?_ (by simp) _)⟩
    · rw [show Bur.usS (a, l) = (a + 1, a + (Bur.sz l - 1) - 1) from by rw [Bur.usS, if_pos h, Bur.usa, if_neg (by show ¬ 30 < l; omega)]; show (a + 1, a + Bur.sz l - 2) = _; rw [show a + Bur.sz l - 2 = a + (Bur.sz l - 1) - 1 from by omega], show ev (Bur.fault a l) = .nilIface from by rw [h, ev_0]]
      go_enter Tryd.func57, Tryd.ntmps57
      go_wp2_with (go_at_call 69; refine (ends_ok _ _ _ h).mono ?_; rintro e w' ⟨rfl, hb⟩; have c1 : w'.cell? ⟨w.heap.size, 1, none⟩ = some (.int .i64 l) := (hb.cell (p := ⟨w.heap.size, 1, none⟩) (by simp; omega)).trans (by simp); have c2 : w'.frozen? ⟨w.heap.size + 1, 0, none⟩ = false := (hb.frozen (p := ⟨w.heap.size + 1, 0, none⟩) (by simp)).trans (by simp); have c3 : w'.frozen? ⟨w.heap.size + 1, 1, none⟩ = false := (hb.frozen (p := ⟨w.heap.size + 1, 1, none⟩) (by simp)).trans (by simp); have c4 : w'.cell? ⟨w.heap.size + 1, 0, none⟩ = some (.int .i64 0) := (hb.cell (p := ⟨w.heap.size + 1, 0, none⟩) (by simp)).trans (by simp); have c5 : w'.cell? ⟨w.heap.size + 1, 1, none⟩ = some (.int .i64 0) := (hb.cell (p := ⟨w.heap.size + 1, 1, none⟩) (by simp)).trans (by simp); have hb2 := below_via (below_al (below_al (below_self w) _) _) hb; clear hb)
      exact bodyPost_ret (v := .tuple #[pfx (a + 1) (a + (Bur.sz l - 1) - 1), .nilIface]) (by simp [results, Tryd.results57, go_sem, c4, c5]) rfl ⟨rfl, by repeat (first | exact hb2 | refine Below.setCell ?_ (by simp) _)⟩
  · rw [show Bur.usS (a, l) = (0, 0) from if_neg h, ev_ne h]
    go_enter Tryd.func57, Tryd.ntmps57
    go_wp2_with (go_at_call 69; refine (ends_no _ _ _ h).mono ?_; rintro e w' ⟨rfl, hb⟩; have c2 : w'.frozen? ⟨w.heap.size + 1, 0, none⟩ = false := (hb.frozen (p := ⟨w.heap.size + 1, 0, none⟩) (by simp)).trans (by simp); have c3 : w'.frozen? ⟨w.heap.size + 1, 1, none⟩ = false := (hb.frozen (p := ⟨w.heap.size + 1, 1, none⟩) (by simp)).trans (by simp); have c4 : w'.cell? ⟨w.heap.size + 1, 0, none⟩ = some (.int .i64 0) := (hb.cell (p := ⟨w.heap.size + 1, 0, none⟩) (by simp)).trans (by simp); have c5 : w'.cell? ⟨w.heap.size + 1, 1, none⟩ = some (.int .i64 0) := (hb.cell (p := ⟨w.heap.size + 1, 1, none⟩) (by simp)).trans (by simp); have hb2 := below_via (below_al (below_al (below_self w) _) _) hb; clear hb)
    exact bodyPost_ret (v := .tuple #[pfx 0 0, errN (Bur.fault a l)]) (by simp [results, Tryd.results57, go_sem, c4, c5]) rfl ⟨rfl, by repeat (first | exact hb2 | refine Below.setCell ?_ (by simp) _)⟩

set_option maxHeartbeats 1000000 in
theorem checkUsed (u : List Int) (p : Option Addr) (cap : Nat) (w : World) (hl : u.length ≤ 9223372036854775807) (hu : InAt w p u) :
    Calls Tryd.prog 58 #[.slice p u.length cap] w fun e w' => e = .returned (ev (if 200 < u.length then 3 else Bur.adF u)) ∧ Below w.heap.size w w' := by
  by_cases h200 : 200 < u.length
  · rw [if_pos h200]
    go_enter Tryd.func58, Tryd.ntmps58
    go_wp2
    go_ret
    exact ⟨rfl, below_self _⟩
  rw [if_neg h200]
  go_enter Tryd.func58, Tryd.ntmps58
  go_wp2
  go_loopw [11] (fun i wr => ∃ k : Nat, k ≤ u.length ∧ i = .int .i64 k ∧ Hid (Bur.adF u = Bur.adF (u.drop k)) ∧ Below w.heap.size w wr) (fun i _ => u.length - (intOf i).toNat)
  case atStart => exact ⟨0, by omega, rfl, rfl, below_self _⟩
  case round =>
    obtain ⟨k, hk, rfl, R, hb⟩ := hrel
    by_cases hlt : k < u.length
    · have hlt' : (k : Int) < (u.length : Int) := by omega
      obtain ⟨b, off, rfl, hbl, hc⟩ := hu (by omega)
      have c0 : wr.cell? ⟨b, off + k, none⟩ = some (.int .i64 (u.getD k 0)) := (hb.cell (p := ⟨b, off + k, none⟩) hbl).trans (hc k hlt)
      obtain ⟨z, hz⟩ : ∃ z, z = u.getD k 0 := ⟨_, rfl⟩
      rw [← hz] at c0
      have D : Hid (Bur.adF u = if Bur.isA z = true then Bur.adF (u.drop (k + 1)) else 1) := by
        show _ = _
        rw [R.out, drop_int hlt, ← hz]; rfl
      clear hz hc hu R
      cases hA : Bur.isA z
      · go_wp2_with (go_at_call 53; refine (isAddress _ _).mono ?_; rintro e w' ⟨rfl, hw⟩; have := hw.symm; subst this)
        go_ret
        exact ⟨by rw [D.out, hA]; rfl, hb⟩
      · go_wp2_with (go_at_call 53; refine (isAddress _ _).mono ?_; rintro e w' ⟨rfl, hw⟩; have := hw.symm; subst this)
        exact ⟨⟨k + 1, by omega, by go_num, by show _ = _; rw [D.out, if_pos hA], hb⟩, by simp [intOf]; omega⟩
    · have hd : u.drop k = [] := List.drop_eq_nil_of_le (by omega)
      go_wp2
      go_ret
      exact ⟨by rw [R.out, hd]; rfl, hb⟩
end Go.Proofs.YtdjiodikefoliaaDoor.Ha
