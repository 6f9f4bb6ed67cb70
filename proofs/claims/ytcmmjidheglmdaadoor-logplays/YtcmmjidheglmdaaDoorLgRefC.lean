/- The contract of the reference's log's Crash. -/
import Derived.Test.YtcmmjidheglmdaaDoorLgRefA
namespace Vs
theorem by_take {g : Lg} {k : Nat} : g.by.take (frs (g.ls.take k)).length = frs (g.ls.take k) := by
  have : g.by = frs (g.ls.take k) ++ (frs (g.ls.drop k) ++ g.tl) := by
    rw [Lg.by]
    conv => lhs; rw [← List.take_append_drop k g.ls, frs_app]
    rw [List.append_assoc]
  rw [this, List.take_left]
theorem frs_take_le (g : Lg) (k : Nat) : (frs (g.ls.take k)).length ≤ g.by.length := by
  have := congrArg List.length (by_take (g := g) (k := k))
  rw [List.length_take] at this
  omega
end Vs
namespace Go.Proofs.YtcmmjidheglmdaaDoor
open Go.RowKit Vs

theorem blk_same {p : Option Addr} {n m c : Nat} : (Value.slice p n c).ownBlock = (Value.slice p m c).ownBlock := by cases p <;> rfl
/-- All rows are cut off. -/
theorem RX.cut {G : Nat → Prop} {w : World} {n0 B : Nat} {room safe left : Int} {down : Bool} {p1 p2 p3 : Option Addr} {c1 c2 c3 k e : Nat} {ls : List (List Chg)} {es : List Int} {bs : List UInt8} (h : RX w n0 G B room safe left down (.slice p1 ls.length c1) (.slice p2 es.length c2) (.slice p3 bs.length c3) ls es bs) (h1 : k ≤ ls.length) (h2 : k ≤ es.length) (h3 : e ≤ bs.length) :
    RX ((((((w.setCell ⟨B, 1, none⟩ (.slice p1 k c1)).setCell ⟨B, 2, none⟩ (.slice p2 k c2)).setCell ⟨B, 3, none⟩ (.slice p3 e c3)).setCell ⟨B, 4, none⟩ (.int .i64 e)).setCell ⟨B, 5, none⟩ (.int .i64 (-1))).setCell ⟨B, 6, none⟩ (.bool false)) n0 G B room e (-1) false (.slice p1 k c1) (.slice p2 k c2) (.slice p3 e c3) (ls.take k) (es.take k) (bs.take e) := by
  have l1 : (ls.take k).length = k := by rw [List.length_take]; omega
  have l2 : (es.take k).length = k := by rw [List.length_take]; omega
  have l3 : (bs.take e).length = e := by rw [List.length_take]; omega
  have a1 := h.set1 (u := .slice p1 k c1) (ls' := ls.take k) ⟨h.rr.li.take h1, h.rr.en, h.rr.bys, ⟨fun j hj => h.rr.sep.s1 j (blk_same.trans hj), fun j hj => ⟨(h.rr.sep.s2 j hj).1, (h.rr.sep.s2 j hj).2.1, fun e => (h.rr.sep.s2 j hj).2.2.1 (blk_same.trans e), (h.rr.sep.s2 j hj).2.2.2⟩, fun j hj => ⟨(h.rr.sep.s3 j hj).1, (h.rr.sep.s3 j hj).2.1, fun e => (h.rr.sep.s3 j hj).2.2.1 (blk_same.trans e), (h.rr.sep.s3 j hj).2.2.2⟩⟩⟩
  have o2 : (w.setCell ⟨B, 1, none⟩ (.slice p1 k c1)).ownsRow n0 3 1 (.slice p2 k c2) (es.take k).length (inV (es.take k)) := by
    have := own_trunc a1.rr.en h2
    rw [l2]
    rw [show inV (es.take k) = (inV es).take (k * 1) from by simp [inV, List.map_take]]
    exact this
  have a2 := a1.set2 (u := .slice p2 k c2) (es' := es.take k) ⟨a1.rr.li, o2, a1.rr.bys, ⟨fun j hj => ⟨(a1.rr.sep.s1 j hj).1, (a1.rr.sep.s1 j hj).2.1, fun e => (a1.rr.sep.s1 j hj).2.2.1 (blk_same.trans e), (a1.rr.sep.s1 j hj).2.2.2⟩, fun j hj => a1.rr.sep.s2 j (blk_same.trans hj), fun j hj => ⟨(a1.rr.sep.s3 j hj).1, (a1.rr.sep.s3 j hj).2.1, (a1.rr.sep.s3 j hj).2.2.1, fun e => (a1.rr.sep.s3 j hj).2.2.2 (blk_same.trans e)⟩⟩⟩
  have o3 : ((w.setCell ⟨B, 1, none⟩ (.slice p1 k c1)).setCell ⟨B, 2, none⟩ (.slice p2 k c2)).ownsRow n0 5 1 (.slice p3 e c3) (bs.take e).length (byV (bs.take e)) := by
    have := own_trunc a2.rr.bys h3
    rw [l3]
    rw [show byV (bs.take e) = (byV bs).take (e * 1) from by simp [byV, List.map_take]]
    exact this
  have a3 := a2.set3 (u := .slice p3 e c3) (bs' := bs.take e) ⟨a2.rr.li, a2.rr.en, o3, ⟨fun j hj => ⟨(a2.rr.sep.s1 j hj).1, (a2.rr.sep.s1 j hj).2.1, (a2.rr.sep.s1 j hj).2.2.1, fun e => (a2.rr.sep.s1 j hj).2.2.2 (blk_same.trans e)⟩, fun j hj => ⟨(a2.rr.sep.s2 j hj).1, (a2.rr.sep.s2 j hj).2.1, (a2.rr.sep.s2 j hj).2.2.1, fun e => (a2.rr.sep.s2 j hj).2.2.2 (blk_same.trans e)⟩, fun j hj => a2.rr.sep.s3 j (blk_same.trans hj)⟩⟩
  exact ((a3.set4 e).set5 (-1)).set6 false
set_option maxRecDepth 100000 in
set_option maxHeartbeats 4000000 in
theorem refCrash {G : Nat → Prop} {n0 B : Nat} {g : Lg} (keep : Int) (w : World) (h : RL w n0 G B g) (ok : OkL g) (hk0 : -9223372036854775808 ≤ keep) (hk1 : keep ≤ 9223372036854775807) :
    Calls Tryd.prog 14 #[.pointer (some ⟨B, 0, none⟩), .int .i64 keep] w fun e w' => e = .returned (.tuple #[]) ∧ RL w' n0 G B (crG g keep) ∧ But (fun j => j = B) w w' := by
  obtain ⟨v1, v2, v3, x⟩ := h
  obtain ⟨p1, c1, rfl, hc1, _⟩ := x.rr.li.form
  obtain ⟨p2, c2, rfl⟩ := own_form x.rr.en
  obtain ⟨p3, c3, rfl⟩ := own_form x.rr.bys
  have hc2 : g.ls.length ≤ c2 := by
    have := x.rr.en
    rw [ends_len] at this
    rcases this.2 with ⟨h0, h1⟩ | ⟨_, cap, cur, h0, _, _, h1, _⟩
    · omega
    · cases h0; exact h1
  have hc3 : g.by.length ≤ c3 := by
    rcases x.rr.bys.2 with ⟨h0, h1⟩ | ⟨_, cap, cur, h0, _, _, h1, _⟩
    · omega
    · cases h0; exact h1
  have b1 := x.c1
  have b2 : w.cell? ⟨B, 2, none⟩ = some (.slice p2 g.ls.length c2) := by
    have := x.c2
    rw [ends_len] at this
    exact this
  have b3 := x.c3
  have b4 := x.c4
  have b5 := x.c5
  have b6 := x.c6
  have f1 := x.fz 1 (by decide)
  have f2 := x.fz 2 (by decide)
  have f3 := x.fz 3 (by decide)
  have f4 := x.fz 4 (by decide)
  have f5 := x.fz 5 (by decide)
  have f6 := x.fz 6 (by decide)
  have hfw := ok.few
  have hfw1 := hfw.1
  have hfw2 := hfw.2.1
  have hsf := ok.safe
  have hsb : g.safe ≤ g.by.length := by omega
  obtain ⟨N, hN⟩ : ∃ N, N = crN g keep := ⟨_, rfl⟩
  have hNe : Hid (N = crN g keep) := hN
  clear hfw
  by_cases k0 : 0 < keep
  · by_cases k1 : keep < (g.by.length : Int) - (g.safe : Int)
    · have eN : (N : Int) = g.safe + keep := by rw [hN, crN, if_pos k0, if_pos k1]; omega
      have EN : Hid _ := eN
      have hr1 : (g.safe : Int) + keep ≤ 100000 := by omega
      clear hN eN
      go_enter Tryd.func14, Tryd.ntmps14
      go_wp2
      go_quiet (fail)
      go_wp2
      rw [← EN.out]
      clear EN
      go_loopw [5, 6] (fun i e wr => ∃ (k q : Nat), k ≤ g.ls.length ∧ i = .int .i64 k ∧ e = .int .i64 ((frs (g.ls.take k)).length : Nat) ∧ (frs (g.ls.take k)).length ≤ N ∧ wr = w.drewN q) (fun i _ _ => g.ls.length - (intOf i).toNat)
      case atStart => exact ⟨0, _, Nat.zero_le _, rfl, rfl, Nat.zero_le _, rfl⟩
      case round =>
        obtain ⟨k, q, hk, rfl, rfl, hkN, rfl⟩ := hrel
        have hcut := RX.cut (k := k) (e := (frs (g.ls.take k)).length) (x.step (below_drewN (below_self w) q)) hk (by rw [ends_len]; exact hk) (frs_take_le g k)
        have hbc : But (fun j => j = B) w ((((((( w.drewN q).setCell ⟨B, 1, none⟩ (.slice p1 k c1)).setCell ⟨B, 2, none⟩ (.slice p2 k c2)).setCell ⟨B, 3, none⟩ (.slice p3 (frs (g.ls.take k)).length c3)).setCell ⟨B, 4, none⟩ (.int .i64 ((frs (g.ls.take k)).length : Nat))).setCell ⟨B, 5, none⟩ (.int .i64 (-1))).setCell ⟨B, 6, none⟩ (.bool false)) := ((((((But.below (below_drewN (below_self w) q)).trans setB).trans setB).trans setB).trans setB).trans setB).trans setB
        have fin : (k = g.ls.length ∨ N < (frs (g.ls.take (k + 1))).length) → RL ((((((( w.drewN q).setCell ⟨B, 1, none⟩ (.slice p1 k c1)).setCell ⟨B, 2, none⟩ (.slice p2 k c2)).setCell ⟨B, 3, none⟩ (.slice p3 (frs (g.ls.take k)).length c3)).setCell ⟨B, 4, none⟩ (.int .i64 ((frs (g.ls.take k)).length : Nat))).setCell ⟨B, 5, none⟩ (.int .i64 (-1))).setCell ⟨B, 6, none⟩ (.bool false)) n0 G B (crG g keep) := fun he => by
          have hf := fitL_end hk hkN he
          refine ⟨.slice p1 k c1, .slice p2 k c2, .slice p3 (frs (g.ls.take k)).length c3, ?_⟩
          have e1 : crG g keep = ⟨g.room, g.ls.take k, [], (frs (g.ls.take k)).length, -1, false⟩ := by rw [crG, ← hNe.out, hf]
          rw [e1]
          show RX _ _ _ _ g.room ((frs (g.ls.take k)).length : Nat) (-1) false _ _ _ (g.ls.take k) (ends 0 (g.ls.take k)) (frs (g.ls.take k) ++ [])
          rw [List.append_nil, ← ends_take, ← by_take (g := g) (k := k)]
          rw [by_take]
          have hcut2 := hcut
          rw [by_take] at hcut2
          exact hcut2
        replace hcut : Hid _ := hcut
        have hk2 : (k : Int) ≤ (c1 : Int) := by omega
        have hk3 : (k : Int) ≤ (c2 : Int) := by omega
        have hk4 := frs_take_le g k
        have hk5 : (((frs (g.ls.take k)).length : Nat) : Int) ≤ (c3 : Int) := by omega
        by_cases hlt : k < g.ls.length
        · have hlt' : (k : Int) < (g.ls.length : Int) := by omega
          have en2 : w.ownsRow n0 3 1 (.slice p2 g.ls.length c2) g.ls.length (inV (ends 0 g.ls)) := by
            have := x.rr.en
            rw [ends_len] at this
            exact this
          obtain ⟨eb, rfl⟩ : ∃ eb : Nat, p2 = some ⟨eb, 0, none⟩ := by
            rcases en2.2 with ⟨h0, h1⟩ | ⟨b, cap, cur, h0, _⟩
            · omega
            · cases h0; exact ⟨b, rfl⟩
          have ce : w.cell? ⟨eb, k, none⟩ = some (.int .i64 ((frs (g.ls.take (k + 1))).length : Nat)) := by
            rw [en2.cellAt k (by omega), inV_at (ends_at 0 g.ls k hlt), Nat.zero_add]
          have hb1 := frs_take_le g (k + 1)
          by_cases hle : (frs (g.ls.take (k + 1))).length ≤ N
          · have hle' : (((frs (g.ls.take (k + 1))).length : Nat) : Int) ≤ (N : Int) := by omega
            replace fin : Hid _ := fin
            replace hbc : Hid _ := hbc
            have hE1 : Hid _ := hle
            go_wp2
            exact ⟨⟨k + 1, q, by omega, by go_num, rfl, hE1.out, rfl⟩, by simp [intOf]; omega⟩
          · have hle' : ¬ (((frs (g.ls.take (k + 1))).length : Nat) : Int) ≤ (N : Int) := by omega
            have F : Hid _ := fin (.inr (by omega))
            replace hbc : Hid _ := hbc
            clear fin
            generalize (frs (g.ls.take (k + 1))).length = E1 at ce hle hle'
            generalize (frs (g.ls.take k)).length = E0 at hkN hk4 hk5 F hbc hcut
            go_wp2
            go_end0
            exact ⟨rfl, F.out, hbc.out⟩
        · have F : Hid _ := fin (.inl (by omega))
          replace hbc : Hid _ := hbc
          clear fin
          have hlt' : ¬ (k : Int) < (g.ls.length : Int) := by omega
          generalize (frs (g.ls.take k)).length = E0 at hkN hk4 hk5 F hbc hcut
          go_wp2
          go_end0
          exact ⟨rfl, F.out, hbc.out⟩
    · have eN : N = g.by.length := by rw [hN, crN, if_pos k0, if_neg k1]
      clear hN
      subst eN
      go_enter Tryd.func14, Tryd.ntmps14
      go_wp2
      go_quiet (fail)
      go_wp2
      go_loopw [5, 6] (fun i e wr => ∃ (k q : Nat), k ≤ g.ls.length ∧ i = .int .i64 k ∧ e = .int .i64 ((frs (g.ls.take k)).length : Nat) ∧ (frs (g.ls.take k)).length ≤ g.by.length ∧ wr = w.drewN q) (fun i _ _ => g.ls.length - (intOf i).toNat)
      case atStart => exact ⟨0, _, Nat.zero_le _, rfl, rfl, Nat.zero_le _, rfl⟩
      case round =>
        obtain ⟨k, q, hk, rfl, rfl, hkN, rfl⟩ := hrel
        have hcut := RX.cut (k := k) (e := (frs (g.ls.take k)).length) (x.step (below_drewN (below_self w) q)) hk (by rw [ends_len]; exact hk) (frs_take_le g k)
        have hbc : But (fun j => j = B) w ((((((( w.drewN q).setCell ⟨B, 1, none⟩ (.slice p1 k c1)).setCell ⟨B, 2, none⟩ (.slice p2 k c2)).setCell ⟨B, 3, none⟩ (.slice p3 (frs (g.ls.take k)).length c3)).setCell ⟨B, 4, none⟩ (.int .i64 ((frs (g.ls.take k)).length : Nat))).setCell ⟨B, 5, none⟩ (.int .i64 (-1))).setCell ⟨B, 6, none⟩ (.bool false)) := ((((((But.below (below_drewN (below_self w) q)).trans setB).trans setB).trans setB).trans setB).trans setB).trans setB
        have fin : (k = g.ls.length ∨ g.by.length < (frs (g.ls.take (k + 1))).length) → RL ((((((( w.drewN q).setCell ⟨B, 1, none⟩ (.slice p1 k c1)).setCell ⟨B, 2, none⟩ (.slice p2 k c2)).setCell ⟨B, 3, none⟩ (.slice p3 (frs (g.ls.take k)).length c3)).setCell ⟨B, 4, none⟩ (.int .i64 ((frs (g.ls.take k)).length : Nat))).setCell ⟨B, 5, none⟩ (.int .i64 (-1))).setCell ⟨B, 6, none⟩ (.bool false)) n0 G B (crG g keep) := fun he => by
          have hf := fitL_end hk hkN he
          refine ⟨.slice p1 k c1, .slice p2 k c2, .slice p3 (frs (g.ls.take k)).length c3, ?_⟩
          have e1 : crG g keep = ⟨g.room, g.ls.take k, [], (frs (g.ls.take k)).length, -1, false⟩ := by rw [crG, ← hNe.out, hf]
          rw [e1]
          show RX _ _ _ _ g.room ((frs (g.ls.take k)).length : Nat) (-1) false _ _ _ (g.ls.take k) (ends 0 (g.ls.take k)) (frs (g.ls.take k) ++ [])
          rw [List.append_nil, ← ends_take, ← by_take (g := g) (k := k)]
          rw [by_take]
          have hcut2 := hcut
          rw [by_take] at hcut2
          exact hcut2
        replace hcut : Hid _ := hcut
        have hk2 : (k : Int) ≤ (c1 : Int) := by omega
        have hk3 : (k : Int) ≤ (c2 : Int) := by omega
        have hk4 := frs_take_le g k
        have hk5 : (((frs (g.ls.take k)).length : Nat) : Int) ≤ (c3 : Int) := by omega
        by_cases hlt : k < g.ls.length
        · have hlt' : (k : Int) < (g.ls.length : Int) := by omega
          have en2 : w.ownsRow n0 3 1 (.slice p2 g.ls.length c2) g.ls.length (inV (ends 0 g.ls)) := by
            have := x.rr.en
            rw [ends_len] at this
            exact this
          obtain ⟨eb, rfl⟩ : ∃ eb : Nat, p2 = some ⟨eb, 0, none⟩ := by
            rcases en2.2 with ⟨h0, h1⟩ | ⟨b, cap, cur, h0, _⟩
            · omega
            · cases h0; exact ⟨b, rfl⟩
          have ce : w.cell? ⟨eb, k, none⟩ = some (.int .i64 ((frs (g.ls.take (k + 1))).length : Nat)) := by
            rw [en2.cellAt k (by omega), inV_at (ends_at 0 g.ls k hlt), Nat.zero_add]
          have hb1 := frs_take_le g (k + 1)
          by_cases hle : (frs (g.ls.take (k + 1))).length ≤ g.by.length
          · have hle' : (((frs (g.ls.take (k + 1))).length : Nat) : Int) ≤ (g.by.length : Int) := by omega
            replace fin : Hid _ := fin
            replace hbc : Hid _ := hbc
            have hE1 : Hid _ := hle
            go_wp2
            exact ⟨⟨k + 1, q, by omega, by go_num, rfl, hE1.out, rfl⟩, by simp [intOf]; omega⟩
          · have hle' : ¬ (((frs (g.ls.take (k + 1))).length : Nat) : Int) ≤ (g.by.length : Int) := by omega
            have F : Hid _ := fin (.inr (by omega))
            replace hbc : Hid _ := hbc
            clear fin
            generalize (frs (g.ls.take (k + 1))).length = E1 at ce hle hle'
            generalize (frs (g.ls.take k)).length = E0 at hkN hk4 hk5 F hbc hcut
            go_wp2
            go_end0
            exact ⟨rfl, F.out, hbc.out⟩
        · have F : Hid _ := fin (.inl (by omega))
          replace hbc : Hid _ := hbc
          clear fin
          have hlt' : ¬ (k : Int) < (g.ls.length : Int) := by omega
          generalize (frs (g.ls.take k)).length = E0 at hkN hk4 hk5 F hbc hcut
          go_wp2
          go_end0
          exact ⟨rfl, F.out, hbc.out⟩
  · have eN : N = g.safe := by rw [hN, crN, if_neg k0]
    have g0 : decide (0 < keep) = false := by simpa using k0
    clear hN
    subst eN
    go_enter Tryd.func14, Tryd.ntmps14
    go_wp2
    go_quiet (fail)
    go_wp2
    go_loopw [5, 6] (fun i e wr => ∃ (k q : Nat), k ≤ g.ls.length ∧ i = .int .i64 k ∧ e = .int .i64 ((frs (g.ls.take k)).length : Nat) ∧ (frs (g.ls.take k)).length ≤ g.safe ∧ wr = w.drewN q) (fun i _ _ => g.ls.length - (intOf i).toNat)
    case atStart => exact ⟨0, _, Nat.zero_le _, rfl, rfl, Nat.zero_le _, rfl⟩
    case round =>
      obtain ⟨k, q, hk, rfl, rfl, hkN, rfl⟩ := hrel
      have hcut := RX.cut (k := k) (e := (frs (g.ls.take k)).length) (x.step (below_drewN (below_self w) q)) hk (by rw [ends_len]; exact hk) (frs_take_le g k)
      have hbc : But (fun j => j = B) w ((((((( w.drewN q).setCell ⟨B, 1, none⟩ (.slice p1 k c1)).setCell ⟨B, 2, none⟩ (.slice p2 k c2)).setCell ⟨B, 3, none⟩ (.slice p3 (frs (g.ls.take k)).length c3)).setCell ⟨B, 4, none⟩ (.int .i64 ((frs (g.ls.take k)).length : Nat))).setCell ⟨B, 5, none⟩ (.int .i64 (-1))).setCell ⟨B, 6, none⟩ (.bool false)) := ((((((But.below (below_drewN (below_self w) q)).trans setB).trans setB).trans setB).trans setB).trans setB).trans setB
      have fin : (k = g.ls.length ∨ g.safe < (frs (g.ls.take (k + 1))).length) → RL ((((((( w.drewN q).setCell ⟨B, 1, none⟩ (.slice p1 k c1)).setCell ⟨B, 2, none⟩ (.slice p2 k c2)).setCell ⟨B, 3, none⟩ (.slice p3 (frs (g.ls.take k)).length c3)).setCell ⟨B, 4, none⟩ (.int .i64 ((frs (g.ls.take k)).length : Nat))).setCell ⟨B, 5, none⟩ (.int .i64 (-1))).setCell ⟨B, 6, none⟩ (.bool false)) n0 G B (crG g keep) := fun he => by
        have hf := fitL_end hk hkN he
        refine ⟨.slice p1 k c1, .slice p2 k c2, .slice p3 (frs (g.ls.take k)).length c3, ?_⟩
        have e1 : crG g keep = ⟨g.room, g.ls.take k, [], (frs (g.ls.take k)).length, -1, false⟩ := by rw [crG, ← hNe.out, hf]
        rw [e1]
        show RX _ _ _ _ g.room ((frs (g.ls.take k)).length : Nat) (-1) false _ _ _ (g.ls.take k) (ends 0 (g.ls.take k)) (frs (g.ls.take k) ++ [])
        rw [List.append_nil, ← ends_take, ← by_take (g := g) (k := k)]
        rw [by_take]
        have hcut2 := hcut
        rw [by_take] at hcut2
        exact hcut2
      replace hcut : Hid _ := hcut
      have hk2 : (k : Int) ≤ (c1 : Int) := by omega
      have hk3 : (k : Int) ≤ (c2 : Int) := by omega
      have hk4 := frs_take_le g k
      have hk5 : (((frs (g.ls.take k)).length : Nat) : Int) ≤ (c3 : Int) := by omega
      by_cases hlt : k < g.ls.length
      · have hlt' : (k : Int) < (g.ls.length : Int) := by omega
        have en2 : w.ownsRow n0 3 1 (.slice p2 g.ls.length c2) g.ls.length (inV (ends 0 g.ls)) := by
          have := x.rr.en
          rw [ends_len] at this
          exact this
        obtain ⟨eb, rfl⟩ : ∃ eb : Nat, p2 = some ⟨eb, 0, none⟩ := by
          rcases en2.2 with ⟨h0, h1⟩ | ⟨b, cap, cur, h0, _⟩
          · omega
          · cases h0; exact ⟨b, rfl⟩
        have ce : w.cell? ⟨eb, k, none⟩ = some (.int .i64 ((frs (g.ls.take (k + 1))).length : Nat)) := by
          rw [en2.cellAt k (by omega), inV_at (ends_at 0 g.ls k hlt), Nat.zero_add]
        have hb1 := frs_take_le g (k + 1)
        by_cases hle : (frs (g.ls.take (k + 1))).length ≤ g.safe
        · have hle' : (((frs (g.ls.take (k + 1))).length : Nat) : Int) ≤ (g.safe : Int) := by omega
          replace fin : Hid _ := fin
          replace hbc : Hid _ := hbc
          have hE1 : Hid _ := hle
          go_wp2
          exact ⟨⟨k + 1, q, by omega, by go_num, rfl, hE1.out, rfl⟩, by simp [intOf]; omega⟩
        · have hle' : ¬ (((frs (g.ls.take (k + 1))).length : Nat) : Int) ≤ (g.safe : Int) := by omega
          have F : Hid _ := fin (.inr (by omega))
          replace hbc : Hid _ := hbc
          clear fin
          generalize (frs (g.ls.take (k + 1))).length = E1 at ce hle hle'
          generalize (frs (g.ls.take k)).length = E0 at hkN hk4 hk5 F hbc hcut
          go_wp2
          go_end0
          exact ⟨rfl, F.out, hbc.out⟩
      · have F : Hid _ := fin (.inl (by omega))
        replace hbc : Hid _ := hbc
        clear fin
        have hlt' : ¬ (k : Int) < (g.ls.length : Int) := by omega
        generalize (frs (g.ls.take k)).length = E0 at hkN hk4 hk5 F hbc hcut
        go_wp2
        go_end0
        exact ⟨rfl, F.out, hbc.out⟩
end Go.Proofs.YtcmmjidheglmdaaDoor
