/- The contracts of package plot's keys: write, head, NetKey, AddrKey, PrefixKey. -/
import Derived.Test.YtdokenlljeajmaaDoorPkE
namespace Bur
theorem d2_pad : ∀ n : Fin 100, (Go.Lib.decDigits n.val).length ≤ 2 ∧ d2 (n.val : Int) = List.replicate (2 - (Go.Lib.decDigits n.val).length) 48 ++ Go.Lib.decDigits n.val := by decide +kernel
end Bur
namespace Go.Proofs.YtdokenlljeajmaaDoor
open Go.RowKit

theorem rep_app (c : Nat) (l : List UInt8) : ({ data := Array.replicate c 48 } ++ { data := l.toArray } : ByteArray) = ⟨(List.replicate c 48 ++ l).toArray⟩ := by
  apply ByteArray.ext
  simp
theorem str_app (x y : List UInt8) : ({ data := x.toArray } ++ { data := y.toArray } : ByteArray) = ⟨(x ++ y).toArray⟩ := by
  apply ByteArray.ext
  simp
set_option maxHeartbeats 1000000 in
theorem plWrite16 (n : Nat) (hn : n < 4294967296) (w : World) (h : Tab w) : Calls Tryd.prog 26 #[.int .i64 (n : Int), .int .i64 16, .int .i64 8] w fun e w' => e = .returned (.string ⟨(Bur.hxK 8 n).toArray⟩) ∧ Below w.heap.size w w' := by
  obtain ⟨hl, hp⟩ := Bur.hx_pad 8 n (by decide) (by simpa using hn)
  have hF := fun W hT => pkFmt n hn W hT
  rw [hp]
  clear hp
  generalize Bur.hxM n = l at *
  obtain ⟨c, hc⟩ : ∃ c : Nat, c = 8 - l.length := ⟨_, rfl⟩
  have hci : (8 : Int) - (l.length : Int) = (c : Int) := by omega
  have hR := fun W => pkRep c (by omega) W
  rw [← hc, ← rep_app]
  clear hc
  go_enter Tryd.func26, Tryd.ntmps26
  go_wp2_with (first
    | (go_at_call 36; refine (hF _ h).mono ?_; rintro e w1 ⟨rfl, hb1⟩)
    | (go_at_call 37; refine (hR _).mono ?_; rintro e w2 ⟨rfl, hb2⟩))
  go_ret
  exact ⟨rfl, below_via hb1 hb2⟩
set_option maxHeartbeats 1000000 in
theorem plWrite10 (n : Nat) (hn : n < 100) (w : World) : Calls Tryd.prog 26 #[.int .i64 (n : Int), .int .i64 10, .int .i64 2] w fun e w' => e = .returned (.string ⟨(Bur.d2 (n : Int)).toArray⟩) ∧ Below w.heap.size w w' := by
  obtain ⟨hl, hp⟩ := Bur.d2_pad ⟨n, hn⟩
  simp only at hl hp
  have hF := fun W => Tryd.strconv_FormatInt_10_small n hn W
  rw [hp]
  clear hp
  generalize Lib.decDigits n = l at *
  obtain ⟨c, hc⟩ : ∃ c : Nat, c = 2 - l.length := ⟨_, rfl⟩
  have hci : (2 : Int) - (l.length : Int) = (c : Int) := by omega
  have hR := fun W => pkRep c (by omega) W
  rw [← hc, ← rep_app]
  clear hc
  go_enter Tryd.func26, Tryd.ntmps26
  go_wp2_with (first
    | (go_at_call 36; refine (hF _).mono ?_; rintro e w1 ⟨rfl, rfl⟩)
    | (go_at_call 37; refine (hR _).mono ?_; rintro e w2 ⟨rfl, hb2⟩))
  go_ret
  exact ⟨rfl, hb2⟩
theorem plHead (k : List UInt8) (s : ByteArray) (w : World) (hk : k.length ≤ 2) (hs : s.size ≤ 1000) : Calls Tryd.prog 25 #[.string ⟨k.toArray⟩, .string s] w fun e w' => e = .returned (.string ⟨(k ++ s.data.toList ++ [47]).toArray⟩) ∧ w' = w := by
  have hl : s.data.toList.length ≤ 1000 := by simpa using hs
  obtain ⟨z1, Z1⟩ : ∃ z : List UInt8, Hid (z = k ++ s.data.toList) := ⟨k ++ s.data.toList, Eq.refl _⟩
  have e1 := cat (x := k) (y := s.data.toList) Z1.out (by omega) (by omega)
  have l1 : z1.length ≤ 1002 := by rw [Z1.out]; simp; omega
  obtain ⟨z2, Z2⟩ : ∃ z : List UInt8, Hid (z = z1 ++ [47]) := ⟨z1 ++ [47], Eq.refl _⟩
  have e2 : ∀ w : World, (Op.stringOp .add ⟨z1.toArray⟩ ⟨#[47]⟩).run Tryd.prog w = .ok (.string ⟨z2.toArray⟩) w := cat (x := z1) (y := [47]) Z2.out (by omega) (by simp)
  have hZ : Hid (k ++ s.data.toList ++ [47] = z2) := by show _ = _; rw [Z2.out, Z1.out]
  rw [bytes_eq] at e1
  rw [hZ.out]
  clear l1 Z1 Z2 hl
  go_enter Tryd.func25, Tryd.ntmps25
  go_wp2
  go_ret
  exact ⟨rfl, rfl⟩
theorem plNetKey (s : ByteArray) (w : World) (hs : s.size ≤ 1000) : Calls Tryd.prog 12 #[.string s] w fun e w' => e = .returned (.string ⟨(Bur.netK s.data.toList).toArray⟩) ∧ w' = w := by
  have hl : s.data.toList.length ≤ 1000 := by simpa using hs
  obtain ⟨z1, Z1⟩ : ∃ z : List UInt8, Hid (z = [110, 47] ++ s.data.toList) := ⟨[110, 47] ++ s.data.toList, Eq.refl _⟩
  have e1 : ∀ w : World, (Op.stringOp .add ⟨#[110, 47]⟩ ⟨s.data.toList.toArray⟩).run Tryd.prog w = .ok (.string ⟨z1.toArray⟩) w := cat (x := [110, 47]) (y := s.data.toList) Z1.out (by simp) (by omega)
  rw [bytes_eq] at e1
  go_enter Tryd.func12, Tryd.ntmps12
  go_wp2
  go_ret
  exact ⟨by rw [Bur.netK, ← Z1.out]; rfl, rfl⟩
theorem plAddrKey (s : ByteArray) (a : Int) (w : World) (h : Tab w) (hs : s.size ≤ 1000) (h0 : 0 ≤ a) (h1 : a ≤ 4294967295) : Calls Tryd.prog 14 #[.string s, .int .i64 a] w fun e w' => e = .returned (.string ⟨(Bur.adrK s.data.toList a).toArray⟩) ∧ Below w.heap.size w w' := by
  obtain ⟨n, rfl⟩ : ∃ n : Nat, a = n := ⟨a.toNat, by omega⟩
  have hl : s.data.toList.length ≤ 1000 := by simpa using hs
  have l8 := Bur.hxK_len 8 n
  have hH := fun W => plHead [97, 47] s W (by simp) hs
  have hW := fun W hT => plWrite16 n (by omega) W hT
  obtain ⟨z0, Z0⟩ : ∃ z : List UInt8, Hid (z = [97, 47] ++ s.data.toList ++ [47]) := ⟨[97, 47] ++ s.data.toList ++ [47], Eq.refl _⟩
  have l0 : z0.length ≤ 1003 := by rw [Z0.out]; simp; omega
  rw [← Z0.out] at hH
  obtain ⟨z1, Z1⟩ : ∃ z : List UInt8, Hid (z = z0 ++ Bur.hxK 8 n) := ⟨_, Eq.refl _⟩
  have e1 := cat (x := z0) (y := Bur.hxK 8 n) Z1.out (by omega) (by omega)
  have hZ : Hid (Bur.adrK s.data.toList (n : Int) = z1) := by show _ = _; rw [Z1.out, Z0.out]; rfl
  rw [hZ.out]
  generalize Bur.hxK 8 n = hx at *
  clear l8 l0 hl Z0 Z1
  go_enter Tryd.func14, Tryd.ntmps14
  go_wp2_with (first
    | (go_at_call 25; refine (hH _).mono ?_; rintro e w1 ⟨rfl, rfl⟩)
    | (go_at_call 26; refine (hW _ h).mono ?_; rintro e w2 ⟨rfl, hb2⟩))
  go_ret
  exact ⟨rfl, hb2⟩
end Go.Proofs.YtdokenlljeajmaaDoor
