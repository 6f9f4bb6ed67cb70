/- The contracts of package code's Check. -/
import Derived.Test.YteipfdjpndhgkaaGreatDoorCMB
import Derived.Test.YteipfdjpndhgkaaGreatDoorCMC
import Derived.Laws.Cover1
namespace Vs
/-- The key ahead, the empty one at first. -/
def ahd (l : List Chg) : Nat → ByteArray
  | 0 => ⟨#[]⟩
  | k + 1 => (l[k]?.map (·.k)).getD ⟨#[]⟩
/-- Changes one by one, behind the key ahead. -/
def chA : ByteArray → List Chg → Int
  | _, [] => 0
  | p, c :: r => if chW c = true ∨ bl p c.k = false then 2 else chA c.k r
theorem bl_nil {k : ByteArray} (h : 1 ≤ k.size) : bl ⟨#[]⟩ k = true := by
  obtain ⟨⟨l⟩⟩ := k
  cases l with
  | nil => simp [ByteArray.size] at h
  | cons x s => unfold bl; rw [Go.Lib.toList_data, Go.Lib.toList_data]; simp [Go.Op.bytesLess]
theorem chA_some (p : ByteArray) : ∀ (l : List Chg), chA p l = chG (some p) l
  | [] => rfl
  | c :: r => by rw [chA, chG, chA_some c.k r]
theorem chA_none (l : List Chg) : chA ⟨#[]⟩ l = chG none l := by
  cases l with
  | nil => rfl
  | cons c r =>
    rw [chA, chG, chA_some]
    cases h : chW c
    · rw [bl_nil (chW_ok h).1]; simp
    · simp
theorem ahd_step {l : List Chg} {k : Nat} {x : Chg} (hx : l[k]? = some x) : ahd l (k + 1) = x.k := by simp [ahd, hx]
theorem chA_step {l : List Chg} {k : Nat} {x : Chg} (hx : l[k]? = some x) (p : ByteArray) : chA p (l.drop k) = if chW x = true ∨ bl p x.k = false then 2 else chA x.k (l.drop (k + 1)) := by
  rw [drop_ch hx, chA]
theorem bl_le' (a b : ByteArray) : (Go.Op.bytesLess a.toList b.toList || a.toList == b.toList) = !(bl b a) := by
  rw [show Go.Op.bytesLess a.toList b.toList = bl a b from rfl, beq_str]
  cases h1 : bl a b
  · cases h2 : bl b a
    · simpa using bl_tri h1 h2
    · have : ¬ a = b := fun e => by rw [e, bl_irr] at h2; cases h2
      simpa using this
  · cases h2 : bl b a
    · rfl
    · have := bl_trans h1 h2
      rw [bl_irr] at this; cases this
end Vs
namespace Go.Proofs.YteipfdjpndhgkaaGreatDoor
open Go.RowKit Go.Lib

theorem size_nil (k : ByteArray) : k.toList = [] ↔ k.size < 1 := by
  rw [toList_data]
  have : k.data.toList.length = k.size := rfl
  constructor
  · intro h; rw [h] at this; simp at this; omega
  · intro h; exact List.eq_nil_of_length_eq_zero (by omega)
theorem shaped (c : Vs.Chg) (w : World) : Calls Tryz.prog 164 #[.agg #[.string c.k, .string c.v, .bool c.g]] w fun e w' => e = .returned (.bool (!Vs.chW c)) ∧ Below w.heap.size w w' := by
  obtain ⟨k, v, g⟩ := c
  have sk := size_nil k
  have sv := size_nil v
  by_cases h1 : k.size < 1
  · have W : Vs.chW ⟨k, v, g⟩ = true := by simp [Vs.chW, Vs.shF, h1]
    rw [W]
    have g0 : k.toList = [] := sk.2 h1
    clear sk sv
    go_enter Tryz.func164, Tryz.ntmps164
    go_wp2
    go_ret
    exact ⟨rfl, below_al (below_self _) _⟩
  have g0 : ¬ k.toList = [] := fun e => h1 (sk.1 e)
  have g1 : k.toList.isEmpty = false := by simpa using g0
  by_cases h2 : 24 < k.size
  · have W : Vs.chW ⟨k, v, g⟩ = true := by simp [Vs.chW, Vs.shF, h2]
    rw [W]
    have h2' : decide ((24 : Int) < (k.size : Int)) = true := by simp; omega
    clear sk sv
    go_enter Tryz.func164, Tryz.ntmps164
    go_wp2
    go_ret
    exact ⟨rfl, below_al (below_self _) _⟩
  have h2' : decide ((24 : Int) < (k.size : Int)) = false := by simp; omega
  cases g
  · have W : (!Vs.chW ⟨k, v, false⟩) = decide ((v.size : Int) ≤ 12) := by
      by_cases h3 : 12 < v.size
      · rw [decide_eq_false (by omega)]; simp [Vs.chW, Vs.shF, h3]
      · rw [decide_eq_true (by omega)]; simp [Vs.chW, Vs.shF, h1, h2, h3]
    generalize (!Vs.chW ⟨k, v, false⟩) = R at W
    replace W : Hid _ := W
    clear sk sv
    go_enter Tryz.func164, Tryz.ntmps164
    go_wp2
    go_ret
    exact ⟨by rw [W.out]; rfl, below_al (below_self _) _⟩
  · have W : (!Vs.chW ⟨k, v, true⟩) = v.toList.isEmpty := by
      by_cases h3 : v.size < 1
      · have h5 : v.size = 0 := by omega
        rw [sv.2 h3]; simp [Vs.chW, Vs.shF, h1, h2, h5]
      · have : ¬ v.toList = [] := fun e => h3 (sv.1 e)
        have e2 : v.toList.isEmpty = false := by simpa using this
        rw [e2]; simp [Vs.chW]; omega
    generalize (!Vs.chW ⟨k, v, true⟩) = R at W
    replace W : Hid _ := W
    clear sk sv
    go_enter Tryz.func164, Tryz.ntmps164
    go_wp2
    go_ret
    exact ⟨by rw [W.out]; rfl, below_al (below_self _) _⟩

set_option maxHeartbeats 2000000 in
set_option maxRecDepth 20000 in
theorem check (l : List Vs.Chg) (p : Option Addr) (cp : Nat) (w : World) (hl : l.length ≤ 9223372036854775807) (hp : ChAt w p l) :
    Calls Tryz.prog 131 #[.slice p l.length cp] w fun e w' => e = .returned (ev (Vs.chF l)) ∧ Below w.heap.size w w' := by
  by_cases hlen : 20 < l.length
  · rw [show Vs.chF l = 3 from by unfold Vs.chF; rw [if_pos hlen]]
    have hlen' : (20 : Int) < (l.length : Int) := by omega
    go_enter Tryz.func131, Tryz.ntmps131
    go_wp2
    go_ret
    exact ⟨rfl, below_self _⟩
  obtain ⟨R, hR⟩ : ∃ R, R = Vs.chF l := ⟨_, rfl⟩
  rw [← hR]
  replace hR : Hid (R = Vs.chA (Vs.ahd l 0) (l.drop 0)) := by show _ = _; rw [hR]; unfold Vs.chF; rw [if_neg hlen]; exact (Vs.chA_none l).symm
  have hlen' : ¬ (20 : Int) < (l.length : Int) := by omega
  go_enter Tryz.func131, Tryz.ntmps131
  go_wp2
  go_loopw [3, 12] (fun a i wr => ∃ (k : Nat), k ≤ l.length ∧ i = .int .i64 k ∧ a = .string (Vs.ahd l k) ∧ Hid (R = Vs.chA (Vs.ahd l k) (l.drop k)) ∧ Below w.heap.size w wr) (fun _ i _ => l.length - (intOf i).toNat)
  case atStart => exact ⟨0, by omega, rfl, rfl, hR, below_self _⟩
  case round =>
    obtain ⟨k, hk, rfl, rfl, hM, hb⟩ := hrel
    by_cases hlt : k < l.length
    · have hlt' : (k : Int) < (l.length : Int) := by omega
      obtain ⟨b1, o1, rfl, hb1, hc1⟩ := hp (by omega)
      obtain ⟨x, hx⟩ := Vs.chsome hlt
      obtain ⟨d0, d1, d2⟩ := hc1 k x hx
      have e0 := (hb.cell (p := ⟨b1, o1 + k * 3, none⟩) hb1).trans d0
      have e1 := (hb.cell (p := ⟨b1, o1 + k * 3 + 1, none⟩) hb1).trans d1
      have e2 := (hb.cell (p := ⟨b1, o1 + k * 3 + 2, none⟩) hb1).trans d2
      have hD := Vs.chA_step hx (Vs.ahd l k)
      rw [← hM.out] at hD
      replace hD : Hid _ := hD
      have hN := Vs.ahd_step hx
      have hle := Vs.bl_le' x.k (Vs.ahd l k)
      generalize Vs.ahd l k = y at hD hle
      have KS := fun W => shaped x W
      clear hM hR hp hc1 d0 d1 d2 hx
      cases hW : Vs.chW x
      · rw [hW] at KS hD
        cases g : Vs.bl y x.k
        · have E : Hid (R = 2) := by show _ = _; rw [hD.out, g]; simp
          have g1 : (Op.bytesLess x.k.toList y.toList || x.k.toList == y.toList) = true := by rw [hle, g]; rfl
          clear hD hle hN g
          go_wp2_with (go_at_call 164; refine (KS _).mono ?_; rintro e w2 ⟨rfl, hb2⟩; have hb3 := below_via (below_al hb _) hb2; have f0 := (hb2.cell (p := ⟨wr.heap.size, 0, none⟩) (by simp)).trans (show _ = some (.string x.k) from by simp); clear hb2)
          go_wp2
          go_ret
          exact ⟨by rw [E.out]; rfl, hb3⟩
        · have g1 : (Op.bytesLess x.k.toList y.toList || x.k.toList == y.toList) = false := by rw [hle, g]; rfl
          have E : Hid (R = Vs.chA (Vs.ahd l (k + 1)) (l.drop (k + 1))) := by show _ = _; rw [hD.out, g, hN]; simp
          replace hN : Hid _ := hN
          clear hD hle g
          go_wp2_with (go_at_call 164; refine (KS _).mono ?_; rintro e w2 ⟨rfl, hb2⟩; have hb3 := below_via (below_al hb _) hb2; have f0 := (hb2.cell (p := ⟨wr.heap.size, 0, none⟩) (by simp)).trans (show _ = some (.string x.k) from by simp); clear hb2)
          go_wp2
          exact ⟨⟨k + 1, by omega, by go_num, by rw [hN.out], E, hb3⟩, by simp [intOf]; omega⟩
      · rw [hW] at KS hD
        have E : Hid (R = 2) := by show _ = _; rw [hD.out]; simp
        clear hD hle hN
        go_wp2_with (go_at_call 164; refine (KS _).mono ?_; rintro e w2 ⟨rfl, hb2⟩; have hb3 := below_via (below_al hb _) hb2; have f0 := (hb2.cell (p := ⟨wr.heap.size, 0, none⟩) (by simp)).trans (show _ = some (.string x.k) from by simp); clear hb2)
        go_wp2
        go_ret
        exact ⟨by rw [E.out]; rfl, hb3⟩
    · have E : Hid (R = 0) := by show _ = _; rw [hM.out, List.drop_eq_nil_of_le (by omega)]; rfl
      clear hM hp hR
      go_wp2
      go_ret
      exact ⟨by rw [E.out]; rfl, hb⟩
end Go.Proofs.YteipfdjpndhgkaaGreatDoor
