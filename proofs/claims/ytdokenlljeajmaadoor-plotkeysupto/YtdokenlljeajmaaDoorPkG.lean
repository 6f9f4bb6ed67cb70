/- The contracts of package plot's PrefixKey, read, cut and ReadPrefix. -/
import Derived.Test.YtdokenlljeajmaaDoorPkF
import Derived.Test.YtdokenlljeajmaaDoorTrAdA
namespace Go.Proofs.YtdokenlljeajmaaDoor
open Go.RowKit

theorem cell_lat {w w' : World} {p : Addr} {v : Value} (hb : Below w.heap.size w w') (h : w.cell? p = some v) : w'.cell? p = some v := (hb.cell (World.block_lt_of_cell? _ _ h)).trans h
set_option maxHeartbeats 2000000 in
set_option maxRecDepth 100000 in
theorem plPrefixKey (s : ByteArray) (a l : Int) (w : World) (h : Tab w) (hs : s.size ≤ 1000) (h0 : 0 ≤ a) (h1 : a ≤ 4294967295) (g0 : 0 ≤ l) (g1 : l < 100) : Calls Tryd.prog 11 #[.string s, pfx a l] w fun e w' => e = .returned (.string ⟨(Bur.pfxK s.data.toList a l).toArray⟩) ∧ Below w.heap.size w w' := by
  obtain ⟨n, rfl⟩ : ∃ n : Nat, a = n := ⟨a.toNat, by omega⟩
  obtain ⟨m, rfl⟩ : ∃ m : Nat, l = m := ⟨l.toNat, by omega⟩
  have hl : s.data.toList.length ≤ 1000 := by simpa using hs
  have l8 := Bur.hxK_len 8 n
  have l2 : (Bur.d2 (m : Int)).length = 2 := rfl
  have hH := fun W => plHead [112, 47] s W (by simp) hs
  have hW := fun W hT => plWrite16 n (by omega) W hT
  have hD := fun W => plWrite10 m (by omega) W
  obtain ⟨z0, Z0⟩ : ∃ z : List UInt8, Hid (z = [112, 47] ++ s.data.toList ++ [47]) := ⟨[112, 47] ++ s.data.toList ++ [47], Eq.refl _⟩
  have l0 : z0.length ≤ 1003 := by rw [Z0.out]; simp; omega
  rw [← Z0.out] at hH
  obtain ⟨z1, Z1⟩ : ∃ z : List UInt8, Hid (z = z0 ++ Bur.hxK 8 n) := ⟨_, Eq.refl _⟩
  have e1 := cat (x := z0) (y := Bur.hxK 8 n) Z1.out (by omega) (by omega)
  have l1 : z1.length ≤ 1011 := by rw [Z1.out, List.length_append]; omega
  obtain ⟨z2, Z2⟩ : ∃ z : List UInt8, Hid (z = z1 ++ Bur.d2 (m : Int)) := ⟨_, Eq.refl _⟩
  have e2 := cat (x := z1) (y := Bur.d2 (m : Int)) Z2.out (by omega) (by omega)
  have hZ : Hid (Bur.pfxK s.data.toList (n : Int) (m : Int) = z2) := by show _ = _; rw [Z2.out, Z1.out, Z0.out]; rfl
  rw [hZ.out]
  have hb0 := below_al (below_self w) (pcs (n : Int) (m : Int))
  have hT := h.step hb0
  have k0 : (w.alloc (pcs (n : Int) (m : Int))).cell? ⟨w.heap.size, 0, none⟩ = some (.int .i64 (n : Int)) := by simp
  have k1 : (w.alloc (pcs (n : Int) (m : Int))).cell? ⟨w.heap.size, 1, none⟩ = some (.int .i64 (m : Int)) := by simp
  generalize Bur.hxK 8 n = hx at *
  generalize Bur.d2 (m : Int) = dx at *
  clear l8 l2 l0 l1 hl Z0 Z1 Z2
  go_enter Tryd.func11, Tryd.ntmps11
  go_wp2
  go_region_held3 (fun w2 => w2.cell? ⟨w.heap.size, 0, none⟩ = some (.int .i64 (n : Int)) ∧ w2.cell? ⟨w.heap.size, 1, none⟩ = some (.int .i64 (m : Int))) (go_simp)
    (first
      | (go_at_call 25; refine (hH _).mono ?_; rintro e w1 ⟨rfl, rfl⟩)
      | (go_at_call_of 26 (Value.int IntKind.i64 16); refine (hW _ (by exact hT)).mono ?_; rintro e w2 ⟨rfl, hb2⟩; have q0 := cell_lat hb2 k0; have q1 := cell_lat hb2 k1)
      | (go_at_call_of 26 (Value.int IntKind.i64 10); refine (hD _).mono ?_; rintro e w3 ⟨rfl, hb3⟩; have q2 := cell_lat hb3 q0; have q3 := cell_lat hb3 q1))
  go_wp2
  go_ret
  exact ⟨rfl, below_via (below_via hb0.drew hb2) hb3⟩
end Go.Proofs.YtdokenlljeajmaaDoor
