/- Arguments that are changes and bytes, opened. -/
import Derived.Test.YtoacbiefhdkkpaaDoorCdFace
import Derived.Test.YtoacbiefhdkkpaaDoorRows
import Derived.ProofKit
import Derived.OpenShut
import Derived.Deep.SlicePairs
import Derived.ChangeMaps5
import Derived.Carry
namespace Go.Proofs.YtoacbiefhdkkpaaDoor
open Go.ChangeShapes Go.WideShapes Go.ChangeAt Go.RowKit Go.Deep

theorem laid_out : laidOutB Tryd.prog = true := by kernel_rfl
theorem byte_cells : Tryd.prog.cellsOf 5 = 1 := by kernel_rfl
theorem str_cells : Tryd.prog.cellsOf 9 = 1 := by kernel_rfl
theorem bool_cells : Tryd.prog.cellsOf 4 = 1 := by kernel_rfl
theorem chg_cells : Tryd.prog.cellsOf 40 = 3 := by kernel_rfl
set_option maxRecDepth 100000 in
theorem open_changes {H : Type} {enc : TypeId × Value → H} {W : World} {base : Nat} {v : Value} {d : DataW H} {ps : List MemPlace} (hval : Value.okWide Tryd.prog W .any base 22 v) (h : DataW.Trod enc Tryd.prog W 0 (fun _ => true) true 22 v d ps) :
    ∃ (p : Option Addr) (cap : Nat) (l : List Vs.Chg), v = .slice p l.length cap ∧ l.length ≤ maxLen ∧ ChAt W p l := by
  obtain ⟨a0, len, cap, rfl⟩ := okWide_slice Tryd.underlying22 hval
  obtain ⟨fuel, hf⟩ := h
  rcases open_slice Tryd.underlying22 hf with ⟨h0, _⟩ | ⟨a, len', cap', m, n, D, Pl, hcs, _, hl, hm, hmm, _, hx⟩
  · simp [Value.cells] at h0
    obtain ⟨rfl, rfl, rfl⟩ := h0
    exact ⟨none, 0, [], rfl, by simp, fun h => by simp at h⟩
  · simp [Value.cells] at hcs
    obtain ⟨rfl, rfl, rfl⟩ := hcs
    simp only [if_true] at hmm
    subst hmm
    have each : ∀ i, i < len → ∃ x : Vs.Chg, W.cell? (a.add (i * 3)) = some (.string x.k) ∧ W.cell? (a.add (i * 3 + 1)) = some (.string x.v) ∧ W.cell? (a.add (i * 3 + 2)) = some (.bool x.g) := by
      intro i hi
      obtain ⟨cs', h1, h2⟩ := hx i (by omega)
      rw [chg_cells] at h1
      obtain ⟨_, hlen, hcell⟩ := World.cells?_some h1
      obtain ⟨xs, k, hk, hxy, _, hxl, hfl⟩ := DataW.trod_struct Tryd.underlying40 h2
      match xs, hxl, cs', hlen with
      | [y0, y1, y2], _, [v0, v1, v2], _ =>
        have g0 := hfl 0 _ rfl
        have g1 := hfl 1 _ rfl
        have g2 := hfl 2 _ rfl
        simp [bool_cells, str_cells] at g0 g1 g2
        obtain ⟨k0, e0, _, _⟩ := DataW.trod_string Tryd.underlying9 g0
        obtain ⟨k1, e1, _, _⟩ := DataW.trod_string Tryd.underlying9 g1
        obtain ⟨k2, e2, _⟩ := DataW.trod_bool Tryd.underlying4 g2
        simp only [List.cons.injEq, and_true] at e0 e1 e2
        subst e0 e1 e2
        have r0 := hcell 0 (by omega)
        have r1 := hcell 1 (by omega)
        have r2 := hcell 2 (by omega)
        rw [add_add] at r0 r1 r2
        exact ⟨⟨k0, k1, k2⟩, by simpa using r0, by simpa using r1, by simpa using r2⟩
    have : Inhabited Vs.Chg := ⟨⟨ByteArray.empty, ByteArray.empty, false⟩⟩
    obtain ⟨f, hfx⟩ := choose_lt each
    refine ⟨some a, m, (List.range len).map f, by simp, by simp; omega, fun hp => ?_⟩
    simp only [List.length_map, List.length_range] at hp
    obtain ⟨b, off, spot⟩ := a
    have hspot : spot = none := by simpa [Addr.add] using World.cell?_spot (hfx 0 hp).1
    subst hspot
    refine ⟨b, off, rfl, ?_, fun i x hix => ?_⟩
    · have := World.block_lt_of_cell? _ _ (hfx 0 hp).1
      simpa [Addr.add] using this
    · have hi : i < len := by
        have := (List.getElem?_eq_some_iff.1 hix).1
        simpa using this
      have e : x = f i := by
        rw [List.getElem?_map, List.getElem?_range hi] at hix
        exact (Option.some.inj hix).symm
      subst e
      have := hfx i hi
      rw [add_plain, add_plain, add_plain] at this
      exact this
theorem open_bytes' {H : Type} {enc : TypeId × Value → H} {W : World} {base : Nat} {v : Value} {d : DataW H} {ps : List MemPlace} (hval : Value.okWide Tryd.prog W .any base 23 v) (h : DataW.Trod enc Tryd.prog W 0 (fun _ => true) true 23 v d ps) :
    ∃ (p : Option Addr) (cap : Nat) (l : List UInt8), v = .slice p l.length cap ∧ l.length ≤ maxLen ∧ l.length ≤ cap ∧ ByAt W p l := by
  obtain ⟨a0, len, cap, rfl⟩ := okWide_slice Tryd.underlying23 hval
  obtain ⟨fuel, hf⟩ := h
  rcases open_ints Tryd.underlying23 Tryd.underlying5 byte_cells hf with ⟨h0, _⟩ | ⟨a, len', cap', zs, hcs, _, hl, hm, hzl, _, hall, hwf⟩
  · simp [Value.cells] at h0
    obtain ⟨rfl, rfl, rfl⟩ := h0
    exact ⟨none, 0, [], rfl, by simp, by simp, fun h => by simp at h⟩
  · simp [Value.cells] at hcs
    obtain ⟨rfl, rfl, rfl⟩ := hcs
    simp only [if_true] at hzl
    have hlen : ((zs.take len).map fun z => UInt8.ofNat z.toNat).length = len := by simp; omega
    refine ⟨some a, cap, (zs.take len).map fun z => UInt8.ofNat z.toNat, by rw [hlen], by rw [hlen]; omega, by rw [hlen]; exact hl, fun hp => ?_⟩
    rw [hlen] at hp
    obtain ⟨b, off, spot⟩ := a
    have hspot : spot = none := by simpa [Addr.add] using World.cell?_spot (hall 0 (by omega))
    subst hspot
    refine ⟨b, off, rfl, ?_, fun i x hix => ?_⟩
    · have := World.block_lt_of_cell? _ _ (hall 0 (by omega))
      simpa [Addr.add] using this
    · have hlt : i < len := by
        have := (List.getElem?_eq_some_iff.1 hix).1
        rw [hlen] at this; exact this
      have := hall i (by omega)
      rw [add_plain] at this
      rw [this]
      have hi : i < zs.length := by omega
      obtain ⟨z, ez⟩ : ∃ z, z = zs[i]'hi := ⟨_, rfl⟩
      have hz : zs[i]? = some z := by rw [ez]; exact List.getElem?_eq_getElem hi
      rw [List.getElem?_map, List.getElem?_take_of_lt hlt, hz] at hix
      have hx := (Option.some.inj hix).symm
      subst hx
      have hw := hwf z (by rw [ez]; exact List.getElem_mem _)
      have hr : 0 ≤ z ∧ z < 256 := by
        simp [Lit.wf, show IntKind.u8.min = 0 from rfl, show IntKind.u8.max = 255 from rfl] at hw
        omega
      simp [List.getD, hz]
      omega
end Go.Proofs.YtoacbiefhdkkpaaDoor
