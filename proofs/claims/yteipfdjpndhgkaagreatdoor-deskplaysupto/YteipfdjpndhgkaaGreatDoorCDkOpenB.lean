/- An argument that is steps, opened: its keys are no longer than the argument is big. -/
import Derived.Test.YteipfdjpndhgkaaGreatDoorCMB
import Derived.Test.YteipfdjpndhgkaaGreatDoorRows
import Derived.ProofKit
import Derived.OpenShut
import Derived.Deep.SlicePairs
import Derived.ChangeMaps5
import Derived.Carry
namespace Go.Proofs.YteipfdjpndhgkaaGreatDoor
open Go.ChangeShapes Go.WideShapes Go.ChangeAt Go.RowKit Go.Deep

theorem bulk_mem {H : Type} {d : DataW H} : ∀ {l : List (DataW H)}, d ∈ l → Rows.uptoBulk d ≤ Rows.uptoBulkAll l
  | x :: r, h => by
    rw [Rows.uptoBulkAll]
    rcases List.mem_cons.1 h with rfl | h
    · omega
    · have := bulk_mem h; omega
theorem laid_out : laidOutB Tryz.prog = true := by kernel_rfl
theorem int_cells : Tryz.prog.cellsOf 3 = 1 := by kernel_rfl
theorem str_cells : Tryz.prog.cellsOf 9 = 1 := by kernel_rfl
theorem stp_cells : Tryz.prog.cellsOf 33 = 6 := by kernel_rfl
set_option maxRecDepth 100000 in
theorem open_stepsB {H : Type} {enc : TypeId × Value → H} {W : World} {base : Nat} {v : Value} {d : DataW H} {ps : List MemPlace} (hval : Value.okWide Tryz.prog W .any base 22 v) (h : DataW.Trod enc Tryz.prog W 0 (fun _ => true) true 22 v d ps) :
    ∃ (p : Option Addr) (cap : Nat) (l : List Stp), v = .slice p l.length cap ∧ l.length ≤ maxLen ∧ StAt W p l ∧ (∀ x ∈ l, (-9223372036854775808 ≤ x.n ∧ x.n ≤ 9223372036854775807) ∧ -9223372036854775808 ≤ x.who ∧ x.who ≤ 9223372036854775807) ∧ ∀ x ∈ l, x.key.size ≤ Rows.uptoBulk d := by
  obtain ⟨a0, len, cap, rfl⟩ := okWide_slice Tryz.underlying22 hval
  obtain ⟨fuel, hf⟩ := h
  rcases open_slice Tryz.underlying22 hf with ⟨h0, _⟩ | ⟨a, len', cap', m, n, D, Pl, hcs, _, hl, hm, hmm, hxd, hx⟩
  · simp [Value.cells] at h0
    obtain ⟨rfl, rfl, rfl⟩ := h0
    exact ⟨none, 0, [], rfl, by simp, fun h => by simp at h, fun x h => by simp at h, fun x h => by simp at h⟩
  · simp [Value.cells] at hcs
    obtain ⟨rfl, rfl, rfl⟩ := hcs
    simp only [if_true] at hmm
    subst hmm
    have each : ∀ i, i < len → ∃ x : Stp, W.cell? (a.add (i * 6)) = some (.int .i64 x.what) ∧ W.cell? (a.add (i * 6 + 1)) = some (.int .i64 x.who) ∧ W.cell? (a.add (i * 6 + 2)) = some (.string x.key) ∧ W.cell? (a.add (i * 6 + 3)) = some (.string x.hi) ∧ W.cell? (a.add (i * 6 + 4)) = some (.string x.val) ∧ W.cell? (a.add (i * 6 + 5)) = some (.int .i64 x.n) ∧ x.key.size ≤ maxLen ∧ x.hi.size ≤ maxLen ∧ x.val.size ≤ maxLen ∧ ((-9223372036854775808 ≤ x.n ∧ x.n ≤ 9223372036854775807) ∧ -9223372036854775808 ≤ x.who ∧ x.who ≤ 9223372036854775807) ∧ x.key.size ≤ Rows.uptoBulk d := by
      intro i hi
      obtain ⟨cs', h1, h2⟩ := hx i (by omega)
      rw [stp_cells] at h1
      obtain ⟨_, hlen, hcell⟩ := World.cells?_some h1
      obtain ⟨xs, k, hk, hxy, _, hxl, hfl⟩ := DataW.trod_struct Tryz.underlying33 h2
      match xs, hxl, cs', hlen with
      | [y0, y1, y2, y3, y4, y5], _, [v0, v1, v2, v3, v4, v5], _ =>
        have g0 := hfl 0 _ rfl
        have g1 := hfl 1 _ rfl
        have g2 := hfl 2 _ rfl
        have g3 := hfl 3 _ rfl
        have g4 := hfl 4 _ rfl
        have g5 := hfl 5 _ rfl
        simp [int_cells, str_cells] at g0 g1 g2 g3 g4 g5
        obtain ⟨k0, e0, _, _⟩ := DataW.trod_int Tryz.underlying3 g0
        obtain ⟨k1, e1, _, z1⟩ := DataW.trod_int Tryz.underlying3 g1
        obtain ⟨k2, e2, f2, z2⟩ := DataW.trod_string Tryz.underlying9 g2
        obtain ⟨k3, e3, _, z3⟩ := DataW.trod_string Tryz.underlying9 g3
        obtain ⟨k4, e4, _, z4⟩ := DataW.trod_string Tryz.underlying9 g4
        obtain ⟨k5, e5, _, z5⟩ := DataW.trod_int Tryz.underlying3 g5
        simp only [List.cons.injEq, and_true] at e0 e1 e2 e3 e4 e5
        subst e0 e1 e2 e3 e4 e5
        have hbk : k2.size ≤ Rows.uptoBulk d := by
          have hd : d = .slice ((List.range len).map D) ((List.range (m - len)).map fun j => D (len + j)) := congrArg Prod.fst hxd
          have hDi : D i = .agg ([y0, y1, y2, y3, y4, y5].map (·.1)) := congrArg Prod.fst hxy
          have h1 := bulk_mem (d := D i) (l := (List.range len).map D) (List.mem_map.2 ⟨i, List.mem_range.2 hi, rfl⟩)
          have h2 : Rows.uptoBulk (H := H) (D i) ≥ k2.data.toList.length := by
            rw [hDi, f2]
            simp only [List.map_cons, List.map_nil, Rows.uptoBulk, Rows.uptoBulkAll]
            omega
          have h3 : k2.data.toList.length = k2.size := Array.length_toList
          rw [hd, Rows.uptoBulk]
          omega
        have r0 := hcell 0 (by omega)
        have r1 := hcell 1 (by omega)
        have r2 := hcell 2 (by omega)
        have r3 := hcell 3 (by omega)
        have r4 := hcell 4 (by omega)
        have r5 := hcell 5 (by omega)
        rw [add_add] at r0 r1 r2 r3 r4 r5
        exact ⟨⟨k0, k1, k2, k3, k4, k5⟩, by simpa using r0, by simpa using r1, by simpa using r2, by simpa using r3, by simpa using r4, by simpa using r5, z2, z3, z4, by simp [Lit.wf, show IntKind.i64.min = -9223372036854775808 from rfl, show IntKind.i64.max = 9223372036854775807 from rfl] at z5 z1; exact ⟨z5, z1⟩, hbk⟩
    have : Inhabited Stp := ⟨⟨0, 0, ByteArray.empty, ByteArray.empty, ByteArray.empty, 0⟩⟩
    obtain ⟨f, hfx⟩ := choose_lt each
    refine ⟨some a, m, (List.range len).map f, by simp, by simp; omega, fun hp => ?_, fun x hxm => ?_, fun x hxm => ?_⟩
    case refine_3 =>
      obtain ⟨i, hi, rfl⟩ := List.mem_map.1 hxm
      exact (hfx i (List.mem_range.1 hi)).2.2.2.2.2.2.2.2.2.2
    case refine_2 =>
      obtain ⟨i, hi, rfl⟩ := List.mem_map.1 hxm
      exact (hfx i (List.mem_range.1 hi)).2.2.2.2.2.2.2.2.2.1
    simp only [List.length_map, List.length_range] at hp
    obtain ⟨b, off, spot⟩ := a
    have hspot : spot = none := by simpa [Addr.add] using World.cell?_spot (hfx 0 hp).1
    subst hspot
    refine ⟨b, off, rfl, ?_, fun i x hix => ?_⟩
    · have := World.block_lt_of_cell? _ _ (hfx 0 hp).1
      simpa [Addr.add] using this
    · have hi : i < len := by
        have := (List.getElem?_eq_some_iff.1 hix).1
        simpa using this
      have e : x = f i := by
        rw [List.getElem?_map, List.getElem?_range hi] at hix
        exact (Option.some.inj hix).symm
      subst e
      obtain ⟨q0, q1, q2, q3, q4, q5, q6, q7, q8, _, _⟩ := hfx i hi
      rw [add_plain] at q0 q1 q2 q3 q4 q5
      exact ⟨q0, q1, q2, q3, q4, q5, q6, q7, q8⟩
end Go.Proofs.YteipfdjpndhgkaaGreatDoor
