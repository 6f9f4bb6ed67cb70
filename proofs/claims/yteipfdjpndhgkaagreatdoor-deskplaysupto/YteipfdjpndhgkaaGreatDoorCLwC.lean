/- The contract of the iterator over the whole lists of bytes. -/
import Derived.RangeFuncNested
import Derived.RangeFuncBound
import Derived.RangeFuncCalls
import Derived.RangeFuncLeaves
import Derived.Shelf.Abstract
import Derived.Shelf.RegionOpen
import Derived.WalkKit
import Derived.OwnWalkIn
import Derived.TacticsInMore
import Derived.LoopNIn
import Derived.LoopIn
import Derived.Test.YteipfdjpndhgkaaGreatDoorCML
namespace Go.Proofs.YteipfdjpndhgkaaGreatDoor
open Go.RowKit Go.Shelf Vs

attribute [local go_sem] Oper.semAt_some

def lenS : Value → Nat
  | .slice _ n _ => n
  | _ => 0
/-- A list as it is handed on: the bytes of its changes. -/
def encW (bb off cap : Nat) {b : List UInt8} (x : Pc b) : Array Value := #[.slice (some ⟨bb, off + x.1.1 + 2, none⟩) (encL x.1.2).length (cap - x.1.1 - 2)]

set_option maxRecDepth 100000 in
set_option maxHeartbeats 4000000 in
theorem wholes1 (n lp Bc n₀ bb off cap : Nat) (q : Option Addr) (b t : List UInt8) (ls : List (List Chg)) (hb : Hid (b = frs ls ++ t)) (ht : Inc t) (hls : ∀ l ∈ ls, chF l = 0) (hq : 0 < b.length → q = some ⟨bb, off, none⟩) (hbb : bb < n₀) (hcap : b.length ≤ cap) (hcm : cap ≤ 9223372036854775807) (hbl : b.length ≤ 100000) (J Jx : List (Pc b) → World → Prop)
    (hY : ∀ pre x W, J pre W → pre.length < ls.length → YieldAt Fence.wide (n - 1) Tryz.prog lp (encW bb off cap x) W fun e W' =>
      (e = .returned (.bool true) ∧ J (pre ++ [x]) W' ∧ Below n₀ W W') ∨ (e = .returned (.bool false) ∧ Jx (pre ++ [x]) W'))
    (hD : ∀ pre W n, J pre W → J pre (World.drewN W n)) (W : World) (hB : W.cell? ⟨Bc, 0, none⟩ = some (.slice q b.length cap)) (hC : ByC W bb off b) (hJ0 : J [] W) :
    CallsIn Fence.wide n Tryz.prog 134 #[.func (.yield lp) #[] #[], .pointer (some ⟨Bc, 0, none⟩)] W fun e W' => (∃ v, e = .returned v) ∧
      ((∃ ys, pcs ys = ls ∧ J ys W') ∨ (∃ pre, True ∧ Jx pre W')) := by
  refine callsIn_of_wp Tryz.func134 rfl trivial ?_ rfl
  simp only [Tryz.ntmps134, List.size_toArray, List.length_cons, List.length_nil, Nat.reduceAdd, Nat.reduceSub, Array.replicate_succ, Array.replicate_zero, List.push_toArray, List.append_toArray, List.nil_append, List.cons_append]
  gi_wp2
  gi_loopw [3] (fun p wr => ∃ (pre : List (Pc b)) (rest : List (List Chg)) (a : List UInt8) (k c' : Nat) (q' : Option Addr), p = .slice q' k c' ∧ Hid (b = a ++ (frs rest ++ t)) ∧ Hid (k = (frs rest ++ t).length) ∧ Hid (pcs pre ++ rest = ls) ∧ k ≤ c' ∧ c' ≤ 9223372036854775807 ∧ k ≤ 100000 ∧ Hid (0 < k → q' = some ⟨bb, off + a.length, none⟩ ∧ c' = cap - a.length) ∧ ByC wr bb off b ∧ J pre wr)
    (fun p _ => lenS p)
  case atStart => exact ⟨[], ls, [], b.length, cap, q, rfl, by show _ = _; rw [List.nil_append]; exact hb.out, by show _ = _; rw [← hb.out], rfl, hcap, hcm, hbl, fun h => ⟨hq h, rfl⟩, hC, hJ0⟩
  case round =>
    obtain ⟨pre, rest, a, k, c', q', rfl, hA, hK, hP, hk1, hk2, hk3, hQ, hCr, hJr⟩ := hrel
    cases rest with
    | nil =>
      have hK' : k = t.length := by have := hK.out; simpa [frs] using this
      rcases ht.short with hs | ⟨x, y, e0, e1, hs, _⟩
      · have hlt : (k : Int) < 2 := by omega
        have R : Hid (pcs pre = ls) := by show _ = _; rw [← hP.out, List.append_nil]
        clear hK hP hA hQ hY hK'
        gi_wp2
        go_end0
        exact ⟨⟨_, rfl⟩, .inl ⟨pre, R.out, hJr⟩⟩
      · have hk5 : 2 ≤ k := by have := (List.getElem?_eq_some_iff.1 e1).1; omega
        obtain ⟨rfl, rfl⟩ := hQ.out (by omega)
        have hbt : b = a ++ t := by have := hA.out; simpa [frs] using this
        have d0 := hCr a.length x (by rw [hbt, List.getElem?_append, if_neg (by omega), Nat.sub_self]; exact e0)
        have d1 := hCr (a.length + 1) y (by rw [hbt, List.getElem?_append, if_neg (by omega), Nat.add_sub_cancel_left]; exact e1)
        rw [← Nat.add_assoc] at d1
        have x1 := UInt8.toNat_lt x
        have x2 := UInt8.toNat_lt y
        generalize x.toNat = X at d0 hs x1
        generalize y.toNat = Y at d1 hs x2
        have hlt : (k : Int) < 2 + (X : Int) * 256 + (Y : Int) := by omega
        have hk2' : (2 : Int) ≤ (k : Int) := by omega
        have R : Hid (pcs pre = ls) := by show _ = _; rw [← hP.out, List.append_nil]
        clear hK hP hA hQ hY hK' hbt e0 e1
        gi_wp2
        refine wpIn_wide.2 ?_
        go_quiet (fail)
        gi_wp2
        refine ⟨fun _ h => (by cases h), ?_⟩
        gi_wp2
        refine bodyPost_ret (results_none rfl _ _ _) rfl ?_
        exact ⟨⟨_, rfl⟩, .inl ⟨pre, R.out, hD _ _ _ hJr⟩⟩
    | cons l r =>
      have hl : chF l = 0 := hls l (by rw [← hP.out]; simp)
      obtain ⟨h0, h1, h2⟩ := fr_head hl
      have hE := encL_lt hl
      have hE0 := encL_pos l
      have hke : k = (fr l).length + (frs r ++ t).length := by rw [hK.out, frs_cons, List.append_assoc, List.length_append]
      rw [fr_len] at hke
      obtain ⟨rfl, rfl⟩ := hQ.out (by omega)
      have d0 := hCr a.length _ (by rw [hA.out, List.getElem?_append, if_neg (by omega), Nat.sub_self, frs_cons, List.append_assoc, List.getElem?_append, if_pos (by rw [fr_len]; omega)]; exact h0)
      have d1 := hCr (a.length + 1) _ (by rw [hA.out, List.getElem?_append, if_neg (by omega), Nat.add_sub_cancel_left, frs_cons, List.append_assoc, List.getElem?_append, if_pos (by rw [fr_len]; omega)]; exact h1)
      rw [← Nat.add_assoc] at d1
      have x1 : (UInt8.ofNat ((encL l).length / 256)).toNat < 256 := UInt8.toNat_lt _
      have x2 : (UInt8.ofNat ((encL l).length % 256)).toNat < 256 := UInt8.toNat_lt _
      generalize (UInt8.ofNat ((encL l).length / 256)).toNat = X at d0 h2 x1
      generalize (UInt8.ofNat ((encL l).length % 256)).toNat = Y at d1 h2 x2
      have hkE : (encL l).length + 2 ≤ k := by omega
      have hkH : Hid (k = (encL l).length + 2 + (frs r ++ t).length) := hke
      have hk2' : (2 : Int) ≤ (k : Int) := by omega
      clear hQ hK hls hke
      gi_wp2
      refine wpIn_wide.2 ?_
      go_quiet (fail)
      obtain ⟨x, hx1, hx2⟩ : ∃ x : Pc b, x.1.1 = a.length ∧ x.1.2 = l := ⟨⟨(a.length, l), hl, a, frs r ++ t, by rw [hA.out, frs_cons, List.append_assoc], rfl⟩, rfl, rfl⟩
      obtain ⟨fn, tmps, assign, body, hy, hR⟩ := hY pre x (wr.drewN nq) (hD _ _ _ hJr) (by rw [← hP.out, List.length_append]; simp [pcs])
      simp only [encW, hx1, hx2] at hy
      have hCq : ByC (wr.drewN nq) bb off b := hCr
      have hP2 : Hid (pcs (pre ++ [x]) ++ r = ls) := by show _ = _; rw [pcs_app, ← hP.out, List.append_assoc, show pcs [x] = [l] from by rw [← hx2]; rfl]; rfl
      have hA2 : Hid (b = (a ++ fr l) ++ (frs r ++ t)) := by show _ = _; rw [hA.out, frs_cons]; simp
      have hal : Hid ((a ++ fr l).length = a.length + ((encL l).length + 2)) := by show _ = _; rw [List.length_append, fr_len]
      obtain ⟨E, hEe⟩ : ∃ E, Hid (E = (encL l).length) := ⟨_, rfl⟩
      rw [← hEe.out] at hy hkE hE hE0 h2 hkH hal
      have eE : (2 : Int) + (X : Int) * 256 + (Y : Int) = ((E + 2 : Nat) : Int) := by omega
      rw [eE]
      have hc1 : ((E + 2 : Nat) : Int) ≤ (k : Int) := by omega
      clear hY hP hA h0 h1 hx1 hx2 hCr hJr hJ0 hC hB d0 d1 eE h2 x1 x2
      have h2c : 2 < cap - a.length := by omega
      by_cases hce : E + 2 < cap - a.length
      · gi_wp2
        refine ⟨fun h => by simp [Fence.wide] at h, hR.mono ?_⟩
        rintro e W3 (⟨rfl, hJ3, hk3⟩ | ⟨rfl, hJx3⟩)
        · have hC3 : ByC W3 bb off b := hCq.step hbb hk3
          clear hk3 hCq hR hy
          gi_wp2
          go_roundw
          case rel => exact ⟨pre ++ [x], r, a ++ fr l, k - (E + 2), cap - a.length - (E + 2), _, rfl, hA2, by show _ = _; rw [hkH.out]; omega, hP2, by omega, by omega, by omega, fun _ => ⟨by rw [hal.out]; exact congrArg (fun z => some (⟨bb, z, none⟩ : Addr)) (by omega), by rw [hal.out]; omega⟩, hC3, hJ3⟩
          case measure => simp [lenS]; omega
        · gi_wp2
          refine bodyPost_ret (results_none rfl _ _ _) rfl ?_
          exact ⟨⟨_, rfl⟩, .inr ⟨_, trivial, hJx3⟩⟩
      · have hce' : cap - a.length ≤ E + 2 := by omega
        gi_wp2
        refine ⟨fun h => by simp [Fence.wide] at h, hR.mono ?_⟩
        rintro e W3 (⟨rfl, hJ3, hk3⟩ | ⟨rfl, hJx3⟩)
        · have hC3 : ByC W3 bb off b := hCq.step hbb hk3
          clear hk3 hCq hR hy
          gi_wp2
          go_roundw
          case rel => exact ⟨pre ++ [x], r, a ++ fr l, k - (E + 2), cap - a.length - (E + 2), _, rfl, hA2, by show _ = _; rw [hkH.out]; omega, hP2, by omega, by omega, by omega, fun h => by omega, hC3, hJ3⟩
          case measure => simp [lenS]; omega
        · gi_wp2
          refine bodyPost_ret (results_none rfl _ _ _) rfl ?_
          exact ⟨⟨_, rfl⟩, .inr ⟨_, trivial, hJx3⟩⟩
end Go.Proofs.YteipfdjpndhgkaaGreatDoor
