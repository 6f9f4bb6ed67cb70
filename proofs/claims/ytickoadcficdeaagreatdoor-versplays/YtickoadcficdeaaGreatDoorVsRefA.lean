/- The contracts of the reference's KeyFault, Seen, Get and Touched. -/
import Derived.Test.YtickoadcficdeaaGreatDoorVsBase
namespace Vs
theorem seeI_drop {key : ByteArray} {a : Int} {l : List Ver} {k : Nat} {x : Ver} (hx : l[k]? = some x) (b : Int) : seeI key a k b (l.drop k) = if hit key a x = true then seeI key a (k + 1) k (l.drop (k + 1)) else seeI key a (k + 1) b (l.drop (k + 1)) := by
  obtain ⟨h, e⟩ := List.getElem?_eq_some_iff.1 hx
  rw [List.drop_eq_getElem_cons h, e, seeI]
theorem less_of {l : List Ver} {top : Int} (hT : OkT l top) {i j : Nat} {x y : Ver} (hij : i < j) (hx : l[i]? = some x) (hy : l[j]? = some y) (hk : x.k = y.k) : x.n < y.n := by
  obtain ⟨h1, e1⟩ := List.getElem?_eq_some_iff.1 hx
  obtain ⟨h2, e2⟩ := List.getElem?_eq_some_iff.1 hy
  have a1 := List.pairwise_iff_getElem.1 hT.rise i j h1 h2 hij
  have a2 := List.pairwise_iff_getElem.1 hT.once i j h1 h2 hij
  rw [e1, e2] at a1 a2
  have : x.n ≠ y.n := fun e => a2 ⟨hk, e⟩
  omega
theorem getsome {α : Type} {l : List α} {k : Nat} (h : k < l.length) : ∃ x, l[k]? = some x := ⟨l[k], List.getElem?_eq_getElem h⟩
end Vs
namespace Go.Proofs.YtickoadcficdeaaGreatDoor
open Go.RowKit

theorem keyFault (k v : ByteArray) (w : World) : Calls Tryz.prog 20 #[.string k, .string v] w fun e w' => e = .returned (.int .i64 (Vs.shF k v)) ∧ w' = w := by
  unfold Vs.shF
  by_cases h1 : k.size < 1
  · rw [if_pos (.inl h1)]
    go_enter Tryz.func20, Tryz.ntmps20
    go_wp2
    go_ret
    exact ⟨rfl, rfl⟩
  by_cases h2 : 24 < k.size
  · rw [if_pos (.inr (.inl h2))]
    go_enter Tryz.func20, Tryz.ntmps20
    go_wp2
    go_ret
    exact ⟨rfl, rfl⟩
  by_cases h3 : 12 < v.size
  · rw [if_pos (.inr (.inr h3))]
    go_enter Tryz.func20, Tryz.ntmps20
    go_wp2
    go_ret
    exact ⟨rfl, rfl⟩
  · rw [if_neg (by omega)]
    go_enter Tryz.func20, Tryz.ntmps20
    go_wp2
    go_ret
    exact ⟨rfl, rfl⟩

set_option maxHeartbeats 4000000 in
theorem refSeen {G : Nat → Prop} {B : Nat} {l : List Vs.Ver} {top : Int} (key : ByteArray) (a : Int) (w : World) (hT : Vs.OkT l top) (hR : RT w G B l top) (hl : l.length ≤ 1000000) :
    Calls Tryz.prog 23 #[.pointer (some ⟨B, 0, none⟩), .string key, .int .i64 a] w fun e w' => e = .returned (.int .i64 (Vs.sI l key a)) ∧ Below w.heap.size w w' := by
  obtain ⟨N, hN⟩ : ∃ N, N = Vs.sI l key a := ⟨_, rfl⟩
  rw [← hN]
  obtain ⟨p, cap, hp, hv⟩ := hR.row
  have hB := hR.lt
  replace hN : Hid (N = Vs.seeI key a 0 (-1) (l.drop 0)) := hN
  clear hR
  go_enter Tryz.func23, Tryz.ntmps23
  go_wp2
  go_loopw [7, 8] (fun s i wr => ∃ (k : Nat) (b : Int), k ≤ l.length ∧ i = .int .i64 k ∧ s = .int .i64 b ∧ Hid (N = Vs.seeI key a k b (l.drop k)) ∧ Hid (b = -1 ∨ ∃ (j : Nat) (y : Vs.Ver), b = j ∧ j < k ∧ l[j]? = some y ∧ Vs.hit key a y = true) ∧ Below w.heap.size w wr) (fun _ i _ => l.length - (intOf i).toNat)
  case atStart => exact ⟨0, -1, by omega, rfl, rfl, hN, .inl rfl, below_self _⟩
  case round =>
    obtain ⟨k, b, hk, rfl, rfl, hM, hJ, hb⟩ := hrel
    have c0 : wr.cell? ⟨B, 0, none⟩ = some (.slice p l.length cap) := (hb.cell (p := ⟨B, 0, none⟩) hB).trans hp
    by_cases hlt : k < l.length
    · have hlt' : (k : Int) < (l.length : Int) := by omega
      obtain ⟨bb, off, rfl, hbl, _, hc⟩ := hv (by omega)
      obtain ⟨x, hx⟩ := Vs.getsome hlt
      obtain ⟨d0, d1, d2, d3⟩ := hc k x hx
      have e0 : wr.cell? ⟨bb, off + k * 4, none⟩ = some (.string x.k) := (hb.cell (p := ⟨bb, off + k * 4, none⟩) hbl).trans d0
      have e2 : wr.cell? ⟨bb, off + k * 4 + 2, none⟩ = some (.int .i64 x.n) := (hb.cell (p := ⟨bb, off + k * 4 + 2, none⟩) hbl).trans d2
      have hst : Hid _ := hM.out.trans (Vs.seeI_drop hx b)
      by_cases h1 : x.k = key
      · have g1 : (x.k.toList == key.toList) = true := by rw [Vs.beq_str]; simpa using h1
        by_cases h2 : x.n ≤ a
        · have g2 : decide (x.n ≤ a) = true := by simpa using h2
          have hh : Vs.hit key a x = true := by simp [Vs.hit, h1, h2]
          have hM2 : Hid (N = Vs.seeI key a (k + 1) k (l.drop (k + 1))) := by show _ = _; rw [hst.out, if_pos hh]
          have hJ2 : Hid ((k : Int) = -1 ∨ ∃ (j : Nat) (y : Vs.Ver), (k : Int) = j ∧ j < k + 1 ∧ l[j]? = some y ∧ Vs.hit key a y = true) := .inr ⟨k, x, rfl, by omega, hx, hh⟩
          rcases hJ.out with rfl | ⟨j, y, rfl, hj, hy, hyh⟩
          · clear hM hN hst hx hc d0 d1 d2 d3 hv hJ hp h1
            have g3 : decide ((-1 : Int) < 0) = true := by decide
            go_wp2
            go_quiet (fail)
            go_wp2
            exact ⟨⟨k + 1, k, by omega, by go_num, rfl, hM2, hJ2, below_drewN hb _⟩, by simp [intOf]; omega⟩
          · have hyk : y.k = key := by simp [Vs.hit] at hyh; exact hyh.1
            have hlt3 := Vs.less_of hT hj hy hx (hyk.trans h1.symm)
            obtain ⟨_, _, b2, _⟩ := hc j y hy
            have e5 : wr.cell? ⟨bb, off + j * 4 + 2, none⟩ = some (.int .i64 y.n) := (hb.cell (p := ⟨bb, off + j * 4 + 2, none⟩) hbl).trans b2
            have hjl : (j : Int) < (l.length : Int) := by omega
            have g3 : decide ((j : Int) < 0) = false := by simp
            have g4 : decide (y.n < x.n) = true := by simpa using hlt3
            clear hM hN hst hx hc d0 d1 d2 d3 hv hJ hp h1 hy hyh hyk b2
            go_wp2
            go_quiet (fail)
            go_wp2
            exact ⟨⟨k + 1, k, by omega, by go_num, rfl, hM2, hJ2, below_drewN hb _⟩, by simp [intOf]; omega⟩
        · have g2 : decide (x.n ≤ a) = false := by simpa using h2
          have hh : ¬ Vs.hit key a x = true := by simp [Vs.hit, h1, h2]
          have hM2 : Hid (N = Vs.seeI key a (k + 1) b (l.drop (k + 1))) := by show _ = _; rw [hst.out, if_neg hh]
          have hJ2 : Hid (b = -1 ∨ ∃ (j : Nat) (y : Vs.Ver), b = j ∧ j < k + 1 ∧ l[j]? = some y ∧ Vs.hit key a y = true) := hJ.out.imp id (fun ⟨j, y, h1, h2, h3⟩ => ⟨j, y, h1, by omega, h3⟩)
          clear hM hN hst hx hc d0 d1 d2 d3 hv hJ hp h1
          go_wp2
          go_quiet (fail)
          go_wp2
          exact ⟨⟨k + 1, b, by omega, by go_num, rfl, hM2, hJ2, below_drewN hb _⟩, by simp [intOf]; omega⟩
      · have g1 : (x.k.toList == key.toList) = false := by rw [Vs.beq_str]; simpa using h1
        have hh : ¬ Vs.hit key a x = true := by simp [Vs.hit, h1]
        have hM2 : Hid (N = Vs.seeI key a (k + 1) b (l.drop (k + 1))) := by show _ = _; rw [hst.out, if_neg hh]
        have hJ2 : Hid (b = -1 ∨ ∃ (j : Nat) (y : Vs.Ver), b = j ∧ j < k + 1 ∧ l[j]? = some y ∧ Vs.hit key a y = true) := hJ.out.imp id (fun ⟨j, y, h1, h2, h3⟩ => ⟨j, y, h1, by omega, h3⟩)
        clear hM hN hst hx hc d0 d1 d2 d3 hv hJ hp h1
        go_wp2
        go_quiet (fail)
        go_wp2
        exact ⟨⟨k + 1, b, by omega, by go_num, rfl, hM2, hJ2, below_drewN hb _⟩, by simp [intOf]; omega⟩
    · have hE : Hid (N = b) := by
        show _ = _
        rw [hM.out, List.drop_eq_nil_of_le (by omega)]; rfl
      clear hM hN hv hJ
      go_wp2
      go_ret
      exact ⟨by rw [hE.out]; rfl, hb⟩
end Go.Proofs.YtickoadcficdeaaGreatDoor
