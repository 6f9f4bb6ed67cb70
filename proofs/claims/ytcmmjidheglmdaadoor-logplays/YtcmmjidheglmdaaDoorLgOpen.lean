/- Arguments that are lists of changes and steps, opened. -/
import Derived.Test.YtcmmjidheglmdaaDoorLgBase
import Derived.Test.YtcmmjidheglmdaaDoorRows
import Derived.ProofKit
import Derived.OpenShut
import Derived.Deep.SlicePairs
import Derived.ChangeMaps5
import Derived.Carry
namespace Go.Proofs.YtcmmjidheglmdaaDoor
open Go.ChangeShapes Go.WideShapes Go.ChangeAt Go.RowKit Go.Deep

theorem laid_out : laidOutB Tryd.prog = true := by kernel_rfl
theorem int_cells : Tryd.prog.cellsOf 3 = 1 := by kernel_rfl
theorem str_cells : Tryd.prog.cellsOf 9 = 1 := by kernel_rfl
theorem bool_cells : Tryd.prog.cellsOf 4 = 1 := by kernel_rfl
theorem chg_cells : Tryd.prog.cellsOf 72 = 3 := by kernel_rfl
theorem lst_cells : Tryd.prog.cellsOf 35 = 1 := by kernel_rfl
theorem stp_cells : Tryd.prog.cellsOf 34 = 6 := by kernel_rfl
set_option maxRecDepth 100000 in
theorem open_chs {H : Type} {enc : TypeId × Value → H} {W : World} {fuel : Nat} {cs : List Value} {x : DataW H × List MemPlace} (hf : DataW.trod enc Tryd.prog W 0 (fun _ => true) true fuel 35 cs = some x) :
    ∃ (p : Option Addr) (cap : Nat) (l : List Vs.Chg), cs = [.slice p l.length cap] ∧ l.length ≤ cap ∧ cap ≤ maxLen ∧ ChAt W p l := by
  rcases open_slice Tryd.underlying35 hf with ⟨h0, _⟩ | ⟨a, len, cap, m, n, D, Pl, hcs, _, hl, hm, hmm, _, hx⟩
  · exact ⟨none, 0, [], h0, by simp, by simp, fun h => by simp at h⟩
  · simp only [if_true] at hmm
    subst hmm
    have each : ∀ i, i < len → ∃ x : Vs.Chg, W.cell? (a.add (i * 3)) = some (.string x.k) ∧ W.cell? (a.add (i * 3 + 1)) = some (.string x.v) ∧ W.cell? (a.add (i * 3 + 2)) = some (.bool x.g) := by
      intro i hi
      obtain ⟨cs', h1, h2⟩ := hx i (by omega)
      rw [chg_cells] at h1
      obtain ⟨_, hlen, hcell⟩ := World.cells?_some h1
      obtain ⟨xs, k, hk, hxy, _, hxl, hfl⟩ := DataW.trod_struct Tryd.underlying72 h2
      match xs, hxl, cs', hlen with
      | [y0, y1, y2], _, [v0, v1, v2], _ =>
        have g0 := hfl 0 _ rfl
        have g1 := hfl 1 _ rfl
        have g2 := hfl 2 _ rfl
        simp [bool_cells, str_cells] at g0 g1 g2
        obtain ⟨k0, e0, _, _⟩ := DataW.trod_string Tryd.underlying9 g0
        obtain ⟨k1, e1, _, _⟩ := DataW.trod_string Tryd.underlying9 g1
        obtain ⟨k2, e2, _⟩ := DataW.trod_bool Tryd.underlying4 g2
        simp only [List.cons.injEq, and_true] at e0 e1 e2
        subst e0 e1 e2
        have r0 := hcell 0 (by omega)
        have r1 := hcell 1 (by omega)
        have r2 := hcell 2 (by omega)
        rw [add_add] at r0 r1 r2
        exact ⟨⟨k0, k1, k2⟩, by simpa using r0, by simpa using r1, by simpa using r2⟩
    have : Inhabited Vs.Chg := ⟨⟨ByteArray.empty, ByteArray.empty, false⟩⟩
    obtain ⟨f, hfx⟩ := choose_lt each
    refine ⟨some a, m, (List.range len).map f, by simpa using hcs, by simpa using hl, hm, fun hp => ?_⟩
    simp only [List.length_map, List.length_range] at hp
    obtain ⟨b, off, spot⟩ := a
    have hspot : spot = none := by simpa [Addr.add] using World.cell?_spot (hfx 0 hp).1
    subst hspot
    refine ⟨b, off, rfl, ?_, fun i x hix => ?_⟩
    · have := World.block_lt_of_cell? _ _ (hfx 0 hp).1
      simpa [Addr.add] using this
    · have hi : i < len := by
        have := (List.getElem?_eq_some_iff.1 hix).1
        simpa using this
      have e : x = f i := by
        rw [List.getElem?_map, List.getElem?_range hi] at hix
        exact (Option.some.inj hix).symm
      subst e
      have := hfx i hi
      rw [add_plain, add_plain, add_plain] at this
      exact this
set_option maxRecDepth 100000 in
theorem open_lists {H : Type} {enc : TypeId × Value → H} {W : World} {base : Nat} {v : Value} {d : DataW H} {ps : List MemPlace} (hval : Value.okWide Tryd.prog W .any base 22 v) (h : DataW.Trod enc Tryd.prog W 0 (fun _ => true) true 22 v d ps) :
    ∃ (p : Option Addr) (cap : Nat) (ls : List (List Vs.Chg)), v = .slice p ls.length cap ∧ ls.length ≤ maxLen ∧ LsAt W (fun j => j < W.heap.size) p ls := by
  obtain ⟨a0, len, cap, rfl⟩ := okWide_slice Tryd.underlying22 hval
  obtain ⟨fuel, hf⟩ := h
  rcases open_slice1 Tryd.underlying22 lst_cells hf with ⟨h0, _⟩ | ⟨a, len', cap', m, n, V, D, Pl, hcs, _, hl, hm, hmm, _, hx⟩
  · simp [Value.cells] at h0
    obtain ⟨rfl, rfl, rfl⟩ := h0
    exact ⟨none, 0, [], rfl, by simp, fun h => by simp at h⟩
  · simp [Value.cells] at hcs
    obtain ⟨rfl, rfl, rfl⟩ := hcs
    simp only [if_true] at hmm
    subst hmm
    have each : ∀ i, i < len → ∃ l : List Vs.Chg, ∃ u, W.cell? (a.add i) = some u ∧ LsE W (fun j => j < W.heap.size) u l := by
      intro i hi
      obtain ⟨h1, h2⟩ := hx i (by omega)
      obtain ⟨p, c, l, h3, h4, h5, h6⟩ := open_chs h2
      have h3 : V i = .slice p l.length c := by simpa using h3
      refine ⟨l, V i, h1, p, c, h3, h4, h5, fun hp => ?_⟩
      obtain ⟨b, off, e1, e2, e3⟩ := h6 hp
      exact ⟨b, off, e1, e2, e2, e3⟩
    obtain ⟨f, hfx⟩ := choose_lt each
    refine ⟨some a, m, (List.range len).map f, by simp, by simp; omega, fun hp => ?_⟩
    simp only [List.length_map, List.length_range] at hp
    obtain ⟨b, off, spot⟩ := a
    obtain ⟨u0, hu0, _⟩ := hfx 0 hp
    have hspot : spot = none := by simpa [Addr.add] using World.cell?_spot hu0
    subst hspot
    have hb : b < W.heap.size := by
      have := World.block_lt_of_cell? _ _ hu0
      simpa [Addr.add] using this
    refine ⟨b, off, rfl, hb, hb, fun i l hix => ?_⟩
    have hi : i < len := by
      have := (List.getElem?_eq_some_iff.1 hix).1
      simpa using this
    have e : l = f i := by
      rw [List.getElem?_map, List.getElem?_range hi] at hix
      exact (Option.some.inj hix).symm
    subst e
    obtain ⟨u, hu, hE⟩ := hfx i hi
    rw [add_plain] at hu
    exact ⟨u, hu, hE⟩
set_option maxRecDepth 100000 in
theorem open_stepsN {H : Type} {enc : TypeId × Value → H} {W : World} {base : Nat} {v : Value} {d : DataW H} {ps : List MemPlace} (hval : Value.okWide Tryd.prog W .any base 23 v) (h : DataW.Trod enc Tryd.prog W 0 (fun _ => true) true 23 v d ps) :
    ∃ (p : Option Addr) (cap : Nat) (l : List Stp), v = .slice p l.length cap ∧ l.length ≤ maxLen ∧ StAt W p l ∧ ∀ x ∈ l, -9223372036854775808 ≤ x.n ∧ x.n ≤ 9223372036854775807 := by
  obtain ⟨a0, len, cap, rfl⟩ := okWide_slice Tryd.underlying23 hval
  obtain ⟨fuel, hf⟩ := h
  rcases open_slice Tryd.underlying23 hf with ⟨h0, _⟩ | ⟨a, len', cap', m, n, D, Pl, hcs, _, hl, hm, hmm, _, hx⟩
  · simp [Value.cells] at h0
    obtain ⟨rfl, rfl, rfl⟩ := h0
    exact ⟨none, 0, [], rfl, by simp, fun h => by simp at h, fun x h => by simp at h⟩
  · simp [Value.cells] at hcs
    obtain ⟨rfl, rfl, rfl⟩ := hcs
    simp only [if_true] at hmm
    subst hmm
    have each : ∀ i, i < len → ∃ x : Stp, W.cell? (a.add (i * 6)) = some (.int .i64 x.what) ∧ W.cell? (a.add (i * 6 + 1)) = some (.int .i64 x.who) ∧ W.cell? (a.add (i * 6 + 2)) = some (.string x.key) ∧ W.cell? (a.add (i * 6 + 3)) = some (.string x.hi) ∧ W.cell? (a.add (i * 6 + 4)) = some (.string x.val) ∧ W.cell? (a.add (i * 6 + 5)) = some (.int .i64 x.n) ∧ x.key.size ≤ maxLen ∧ x.hi.size ≤ maxLen ∧ x.val.size ≤ maxLen ∧ (-9223372036854775808 ≤ x.n ∧ x.n ≤ 9223372036854775807) := by
      intro i hi
      obtain ⟨cs', h1, h2⟩ := hx i (by omega)
      rw [stp_cells] at h1
      obtain ⟨_, hlen, hcell⟩ := World.cells?_some h1
      obtain ⟨xs, k, hk, hxy, _, hxl, hfl⟩ := DataW.trod_struct Tryd.underlying34 h2
      match xs, hxl, cs', hlen with
      | [y0, y1, y2, y3, y4, y5], _, [v0, v1, v2, v3, v4, v5], _ =>
        have g0 := hfl 0 _ rfl
        have g1 := hfl 1 _ rfl
        have g2 := hfl 2 _ rfl
        have g3 := hfl 3 _ rfl
        have g4 := hfl 4 _ rfl
        have g5 := hfl 5 _ rfl
        simp [int_cells, str_cells] at g0 g1 g2 g3 g4 g5
        obtain ⟨k0, e0, _, _⟩ := DataW.trod_int Tryd.underlying3 g0
        obtain ⟨k1, e1, _, _⟩ := DataW.trod_int Tryd.underlying3 g1
        obtain ⟨k2, e2, _, z2⟩ := DataW.trod_string Tryd.underlying9 g2
        obtain ⟨k3, e3, _, z3⟩ := DataW.trod_string Tryd.underlying9 g3
        obtain ⟨k4, e4, _, z4⟩ := DataW.trod_string Tryd.underlying9 g4
        obtain ⟨k5, e5, _, z5⟩ := DataW.trod_int Tryd.underlying3 g5
        simp only [List.cons.injEq, and_true] at e0 e1 e2 e3 e4 e5
        subst e0 e1 e2 e3 e4 e5
        have r0 := hcell 0 (by omega)
        have r1 := hcell 1 (by omega)
        have r2 := hcell 2 (by omega)
        have r3 := hcell 3 (by omega)
        have r4 := hcell 4 (by omega)
        have r5 := hcell 5 (by omega)
        rw [add_add] at r0 r1 r2 r3 r4 r5
        exact ⟨⟨k0, k1, k2, k3, k4, k5⟩, by simpa using r0, by simpa using r1, by simpa using r2, by simpa using r3, by simpa using r4, by simpa using r5, z2, z3, z4, by simp [Lit.wf, show IntKind.i64.min = -9223372036854775808 from rfl, show IntKind.i64.max = 9223372036854775807 from rfl] at z5; exact z5⟩
    have : Inhabited Stp := ⟨⟨0, 0, ByteArray.empty, ByteArray.empty, ByteArray.empty, 0⟩⟩
    obtain ⟨f, hfx⟩ := choose_lt each
    refine ⟨some a, m, (List.range len).map f, by simp, by simp; omega, fun hp => ?_, fun x hxm => ?_⟩
    case refine_2 =>
      obtain ⟨i, hi, rfl⟩ := List.mem_map.1 hxm
      exact (hfx i (List.mem_range.1 hi)).2.2.2.2.2.2.2.2.2
    simp only [List.length_map, List.length_range] at hp
    obtain ⟨b, off, spot⟩ := a
    have hspot : spot = none := by simpa [Addr.add] using World.cell?_spot (hfx 0 hp).1
    subst hspot
    refine ⟨b, off, rfl, ?_, fun i x hix => ?_⟩
    · have := World.block_lt_of_cell? _ _ (hfx 0 hp).1
      simpa [Addr.add] using this
    · have hi : i < len := by
        have := (List.getElem?_eq_some_iff.1 hix).1
        simpa using this
      have e : x = f i := by
        rw [List.getElem?_map, List.getElem?_range hi] at hix
        exact (Option.some.inj hix).symm
      subst e
      obtain ⟨q0, q1, q2, q3, q4, q5, q6, q7, q8, _⟩ := hfx i hi
      rw [add_plain] at q0 q1 q2 q3 q4 q5
      exact ⟨q0, q1, q2, q3, q4, q5, q6, q7, q8⟩
end Go.Proofs.YtcmmjidheglmdaaDoor
