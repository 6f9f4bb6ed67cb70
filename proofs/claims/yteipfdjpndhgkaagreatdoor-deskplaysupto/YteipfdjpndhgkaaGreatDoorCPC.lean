/- The contract of the reference's ChangesFault. -/
import Derived.Test.YteipfdjpndhgkaaGreatDoorCMB
import Derived.Test.YteipfdjpndhgkaaGreatDoorCPR
import Derived.Laws.Cover1
import Derived.Test.YteipfdjpndhgkaaGreatDoorCMC
namespace Vs
/-- The key ahead. -/
def prv (l : List Chg) : Nat → Option ByteArray
  | 0 => none
  | k + 1 => l[k]?.map (·.k)
theorem chG_step {l : List Chg} {k : Nat} {x : Chg} (hx : l[k]? = some x) : chG (prv l k) (l.drop k) = if chW x = true ∨ (∃ y, prv l k = some y ∧ bl y x.k = false) then 2 else chG (prv l (k + 1)) (l.drop (k + 1)) := by
  rw [drop_ch hx, show prv l (k + 1) = some x.k from by simp [prv, hx]]
  cases e : prv l k with
  | none => rw [chG]; simp
  | some y => rw [chG]; simp
theorem bl_le (a b : ByteArray) : (Go.Op.bytesLess a.toList b.toList || a.toList == b.toList) = !(bl b a) := by
  rw [show Go.Op.bytesLess a.toList b.toList = bl a b from rfl, beq_str]
  cases h1 : bl a b
  · cases h2 : bl b a
    · simpa using bl_tri h1 h2
    · have : ¬ a = b := fun e => by rw [e, bl_irr] at h2; cases h2
      simpa using this
  · cases h2 : bl b a
    · rfl
    · have := bl_trans h1 h2
      rw [bl_irr] at this; cases this
theorem chG_nil {p : Option ByteArray} : chG p [] = 0 := by cases p <;> rfl
end Vs
namespace Go.Proofs.YteipfdjpndhgkaaGreatDoor
open Go.RowKit

set_option maxHeartbeats 2000000 in
theorem changesFault (l : List Vs.Chg) (p : Option Addr) (cp : Nat) (w : World) (hl : l.length ≤ 9223372036854775807) (hp : ChAt w p l) :
    Calls Tryz.prog 89 #[.slice p l.length cp] w fun e w' => e = .returned (.int .i64 (Vs.chF l)) ∧ Below w.heap.size w w' := by
  by_cases hlen : 20 < l.length
  · rw [show Vs.chF l = 3 from by unfold Vs.chF; rw [if_pos hlen]]
    have hlen' : (20 : Int) < (l.length : Int) := by omega
    go_enter Tryz.func89, Tryz.ntmps89
    go_wp2
    go_ret
    exact ⟨rfl, below_self _⟩
  obtain ⟨R, hR⟩ : ∃ R, R = Vs.chF l := ⟨_, rfl⟩
  rw [← hR]
  replace hR : Hid (R = Vs.chG (Vs.prv l 0) (l.drop 0)) := by show _ = _; rw [hR]; unfold Vs.chF; rw [if_neg hlen]; rfl
  have hlen' : ¬ (20 : Int) < (l.length : Int) := by omega
  go_enter Tryz.func89, Tryz.ntmps89
  go_wp2
  go_loopw [3] (fun i wr => ∃ (k : Nat), k ≤ l.length ∧ i = .int .i64 k ∧ Hid (R = Vs.chG (Vs.prv l k) (l.drop k)) ∧ Below w.heap.size w wr) (fun i _ => l.length - (intOf i).toNat)
  case atStart => exact ⟨0, by omega, rfl, hR, below_self _⟩
  case round =>
    obtain ⟨k, hk, rfl, hM, hb⟩ := hrel
    by_cases hlt : k < l.length
    · have hlt' : (k : Int) < (l.length : Int) := by omega
      obtain ⟨b1, o1, rfl, hb1, hc1⟩ := hp (by omega)
      obtain ⟨x, hx⟩ := Vs.chsome hlt
      obtain ⟨d0, d1, d2⟩ := hc1 k x hx
      have e0 := (hb.cell (p := ⟨b1, o1 + k * 3, none⟩) hb1).trans d0
      have e1 := (hb.cell (p := ⟨b1, o1 + k * 3 + 1, none⟩) hb1).trans d1
      have e2 := (hb.cell (p := ⟨b1, o1 + k * 3 + 2, none⟩) hb1).trans d2
      have hD := Vs.chG_step hx
      rw [← hM.out] at hD
      replace hD : Hid _ := hD
      have hP : Hid (∀ y, Vs.prv l k = some y → ∃ j, k = j + 1 ∧ w.cell? ⟨b1, o1 + j * 3, none⟩ = some (.string y)) := by
        intro y hy
        cases k with
        | zero => cases hy
        | succ j =>
          refine ⟨j, rfl, ?_⟩
          simp only [Vs.prv, Option.map_eq_some_iff] at hy
          obtain ⟨z, hz, rfl⟩ := hy
          exact (hc1 j z hz).1
      have KF := fun W => keyFault x.k x.v W
      clear hM hR hp hc1 d0 d1 d2 hx
      by_cases hF : Vs.shF x.k x.v = 0
      · rw [hF] at KF
        cases hg : x.g
        · rw [hg] at e2
          have hW : Vs.chW x = false := by simp [Vs.chW, hF, hg]
          cases hq : Vs.prv l k with
          | none =>
            have E : Hid (R = Vs.chG (Vs.prv l (k + 1)) (l.drop (k + 1))) := by
              show _ = _
              rw [hD.out, if_neg (by rw [hW, hq]; simp)]
            have hk0 : k = 0 := by
              cases k with
              | zero => rfl
              | succ j => simp [Vs.prv, List.getElem?_eq_getElem (show j < l.length by omega)] at hq
            have hk0' : decide (0 < k) = false := by simp; omega
            clear hD hP hW hF hq hk0
            go_wp2
            go_quiet ((go_at_call 41; exact Calls.quiet_of_same (KF _)))
            clear KF
            go_wp2
            go_quiet (fail)
            go_wp2
            exact ⟨⟨k + 1, by omega, by go_num, E, below_drewN hb _⟩, by simp [intOf]; omega⟩
          | some y =>
            obtain ⟨j, hj, hy⟩ := hP.out y hq
            have e3 := (hb.cell (p := ⟨b1, o1 + j * 3, none⟩) hb1).trans hy
            have hk0' : decide (0 < k) = true := by simp; omega
            have hjj : (k : Int) - 1 = (j : Int) := by omega
            have hle := Vs.bl_le x.k y
            cases g1 : Op.bytesLess x.k.toList y.toList
            · cases g2 : (x.k.toList == y.toList)
              · have g : Vs.bl y x.k = true := by rw [g1, g2] at hle; simpa using hle
                have E : Hid (R = Vs.chG (Vs.prv l (k + 1)) (l.drop (k + 1))) := by
                  show _ = _
                  rw [hD.out, if_neg (by rw [hW, hq]; simp only [Bool.false_eq_true, Option.some.injEq, false_or, not_exists]; rintro z ⟨rfl, h⟩; rw [g] at h; cases h)]
                clear g
                clear hD hP hW hF hq hy hj hle
                go_wp2
                go_quiet ((go_at_call 41; exact Calls.quiet_of_same (KF _)))
                clear KF
                go_wp2
                go_quiet (fail)
                go_wp2
                exact ⟨⟨k + 1, by omega, by go_num, E, below_drewN hb _⟩, by simp [intOf]; omega⟩
              · have g : Vs.bl y x.k = false := by rw [g1, g2] at hle; simpa using hle
                have E : Hid (R = 2) := by show _ = _; rw [hD.out, if_pos (.inr ⟨y, hq, g⟩)]
                clear g
                clear hD hP hW hF hq hy hj hle
                go_wp2
                go_quiet ((go_at_call 41; exact Calls.quiet_of_same (KF _)))
                clear KF
                go_wp2
                go_quiet (fail)
                go_wp2
                go_ret
                exact ⟨by rw [E.out]; rfl, below_drewN (below_drewN hb _) _⟩
            · have g : Vs.bl y x.k = false := by rw [g1] at hle; simpa using hle
              have E : Hid (R = 2) := by show _ = _; rw [hD.out, if_pos (.inr ⟨y, hq, g⟩)]
              clear g
              clear hD hP hW hF hq hy hj hle
              go_wp2
              go_quiet ((go_at_call 41; exact Calls.quiet_of_same (KF _)))
              clear KF
              go_wp2
              go_quiet (fail)
              go_wp2
              go_ret
              exact ⟨by rw [E.out]; rfl, below_drewN (below_drewN hb _) _⟩
        · rw [hg] at e2
          by_cases hv : 0 < x.v.size
          · have hW : Vs.chW x = true := by simp [Vs.chW, hg, hv]
            have hv' : decide (0 < x.v.size) = true := decide_eq_true hv
            have E : Hid (R = 2) := by show _ = _; rw [hD.out, if_pos (.inl hW)]
            clear hD hP hW hF hg
            go_wp2
            go_quiet ((go_at_call 41; exact Calls.quiet_of_same (KF _)))
            clear KF
            go_wp2
            go_quiet (fail)
            go_wp2
            go_ret
            exact ⟨by rw [E.out]; rfl, below_drewN (below_drewN hb _) _⟩
          · have hW : Vs.chW x = false := by simp [Vs.chW, hF, hv]
            have hv' : decide (0 < x.v.size) = false := decide_eq_false hv
            cases hq : Vs.prv l k with
            | none =>
              have E : Hid (R = Vs.chG (Vs.prv l (k + 1)) (l.drop (k + 1))) := by
                show _ = _
                rw [hD.out, if_neg (by rw [hW, hq]; simp)]
              have hk0 : k = 0 := by
                cases k with
                | zero => rfl
                | succ j => simp [Vs.prv, List.getElem?_eq_getElem (show j < l.length by omega)] at hq
              have hk0' : decide (0 < k) = false := by simp; omega
              clear hD hP hW hF hq hk0
              go_wp2
              go_quiet ((go_at_call 41; exact Calls.quiet_of_same (KF _)))
              clear KF
              go_wp2
              go_quiet (fail)
              go_wp2
              exact ⟨⟨k + 1, by omega, by go_num, E, below_drewN hb _⟩, by simp [intOf]; omega⟩
            | some y =>
              obtain ⟨j, hj, hy⟩ := hP.out y hq
              have e3 := (hb.cell (p := ⟨b1, o1 + j * 3, none⟩) hb1).trans hy
              have hk0' : decide (0 < k) = true := by simp; omega
              have hjj : (k : Int) - 1 = (j : Int) := by omega
              have hle := Vs.bl_le x.k y
              cases g1 : Op.bytesLess x.k.toList y.toList
              · cases g2 : (x.k.toList == y.toList)
                · have g : Vs.bl y x.k = true := by rw [g1, g2] at hle; simpa using hle
                  have E : Hid (R = Vs.chG (Vs.prv l (k + 1)) (l.drop (k + 1))) := by
                    show _ = _
                    rw [hD.out, if_neg (by rw [hW, hq]; simp only [Bool.false_eq_true, Option.some.injEq, false_or, not_exists]; rintro z ⟨rfl, h⟩; rw [g] at h; cases h)]
                  clear g
                  clear hD hP hW hF hq hy hj hle
                  go_wp2
                  go_quiet ((go_at_call 41; exact Calls.quiet_of_same (KF _)))
                  clear KF
                  go_wp2
                  go_quiet (fail)
                  go_wp2
                  exact ⟨⟨k + 1, by omega, by go_num, E, below_drewN hb _⟩, by simp [intOf]; omega⟩
                · have g : Vs.bl y x.k = false := by rw [g1, g2] at hle; simpa using hle
                  have E : Hid (R = 2) := by show _ = _; rw [hD.out, if_pos (.inr ⟨y, hq, g⟩)]
                  clear g
                  clear hD hP hW hF hq hy hj hle
                  go_wp2
                  go_quiet ((go_at_call 41; exact Calls.quiet_of_same (KF _)))
                  clear KF
                  go_wp2
                  go_quiet (fail)
                  go_wp2
                  go_ret
                  exact ⟨by rw [E.out]; rfl, below_drewN (below_drewN hb _) _⟩
              · have g : Vs.bl y x.k = false := by rw [g1] at hle; simpa using hle
                have E : Hid (R = 2) := by show _ = _; rw [hD.out, if_pos (.inr ⟨y, hq, g⟩)]
                clear g
                clear hD hP hW hF hq hy hj hle
                go_wp2
                go_quiet ((go_at_call 41; exact Calls.quiet_of_same (KF _)))
                clear KF
                go_wp2
                go_quiet (fail)
                go_wp2
                go_ret
                exact ⟨by rw [E.out]; rfl, below_drewN (below_drewN hb _) _⟩
      · have hF2 : Vs.shF x.k x.v = 2 := by
          by_cases h : x.k.size < 1 ∨ 24 < x.k.size ∨ 12 < x.v.size
          · unfold Vs.shF; rw [if_pos h]
          · exact absurd (by unfold Vs.shF; rw [if_neg h]) hF
        rw [hF2] at KF
        have hW : Vs.chW x = true := by simp [Vs.chW, hF]
        have E : Hid (R = 2) := by show _ = _; rw [hD.out, if_pos (.inl hW)]
        clear hD hP hW hF hF2
        go_wp2
        go_quiet ((go_at_call 41; exact Calls.quiet_of_same (KF _)))
        clear KF
        go_wp2
        go_quiet (fail)
        go_wp2
        go_ret
        exact ⟨by rw [E.out]; rfl, below_drewN (below_drewN hb _) _⟩
    · have E : Hid (R = 0) := by
        show _ = _
        rw [hM.out, List.drop_eq_nil_of_le (by omega), Vs.chG_nil]
      clear hM hR hp
      go_wp2
      go_ret
      exact ⟨by rw [E.out]; rfl, hb⟩
end Go.Proofs.YteipfdjpndhgkaaGreatDoor

/- The contract of the reference's BytesOf. -/
namespace Vs
theorem encL_take (l : List Chg) : encL l = [UInt8.ofNat l.length] ++ (l.drop 0).flatMap encC := rfl
theorem enc_step {l : List Chg} {k : Nat} {x : Chg} (hx : l[k]? = some x) : (l.drop k).flatMap encC = encC x ++ (l.drop (k + 1)).flatMap encC := by
  rw [drop_ch hx]; rfl
end Vs
namespace Go.Proofs.YteipfdjpndhgkaaGreatDoor
open Go.RowKit Go.Lib

set_option maxHeartbeats 4000000 in
theorem bytesOf (l : List Vs.Chg) (p : Option Addr) (cp : Nat) (w : World) (hf : Vs.chF l = 0) (hp : ChAt w p l) :
    Calls Tryz.prog 90 #[.slice p l.length cp] w fun e w' => ∃ v, e = .returned v ∧ w'.ownsRow w.heap.size 5 1 v (Vs.encL l).length (byV (Vs.encL l)) ∧ Below w.heap.size w w' := by
  obtain ⟨hl, hok⟩ := Vs.chF_ok hf
  obtain ⟨N, hN⟩ : ∃ N, N = Vs.encL l := ⟨_, rfl⟩
  rw [← hN]
  replace hN : Hid (N = [UInt8.ofNat l.length] ++ (l.drop 0).flatMap Vs.encC) := hN
  clear hf
  go_enter Tryz.func90, Tryz.ntmps90
  go_wp2_with (first
    | (at_builtin; refine wpList_append_one 67 5 1 1 _ Tryz.underlying67 infoByte rfl (by decide) (by decide) rfl _ _ rfl w.heap.size _ 0 (byV []) rfl (World.ownsRow_nil _ _ _ _) (by simp) w.heap.size [.int .u8 l.length] rfl rfl (byte_new _ _ _) byte_one (by omega) ?_; intro v1 w1 hown1 hgrow1)
    | go_in)
  have hownA := own_byte (o := []) (c := UInt8.ofNat l.length) (by simp; omega) hown1
  have hbA : Below w.heap.size w w1 := (below_al (below_self w) _).grown hgrow1 (by simp) (fun j hj => by cases hj)
  clear hown1 hgrow1
  go_loopw [3, 4] (fun v i wr => ∃ (k : Nat) (o : List UInt8), k ≤ l.length ∧ i = .int .i64 k ∧ Hid (N = o ++ (l.drop k).flatMap Vs.encC) ∧ Hid (o.length ≤ 1 + k * 40) ∧ wr.ownsRow w.heap.size 5 1 v o.length (byV o) ∧ Below w.heap.size w wr) (fun _ i _ => l.length - (intOf i).toNat)
  case atStart => exact ⟨0, _, by omega, rfl, hN, by show _ ≤ _; simp, hownA, hbA⟩
  case round =>
    clear hownA hbA hN
    obtain ⟨k, o, hk, rfl, hM, hO, hown, hb⟩ := hrel
    have hws := hb.size
    by_cases hlt : k < l.length
    · have hlt' : (k : Int) < (l.length : Int) := by omega
      obtain ⟨b1, o1, rfl, hb1, hc1⟩ := hp (by omega)
      obtain ⟨x, hx⟩ := Vs.chsome hlt
      obtain ⟨d0, d1, d2⟩ := hc1 k x hx
      have e0 := (hb.cell (p := ⟨b1, o1 + k * 3, none⟩) hb1).trans d0
      have e1 := (hb.cell (p := ⟨b1, o1 + k * 3 + 1, none⟩) hb1).trans d1
      have e2 := (hb.cell (p := ⟨b1, o1 + k * 3 + 2, none⟩) hb1).trans d2
      have hD : Hid (N = (o ++ Vs.encC x) ++ (l.drop (k + 1)).flatMap Vs.encC) := by
        show _ = _
        rw [hM.out, Vs.enc_step hx, List.append_assoc]
      obtain ⟨q1, q2, q3, q4⟩ := Vs.chW_ok (hok x (List.mem_of_getElem? hx))
      have hO' : o.length ≤ 1 + 20 * 40 := by have := hO.out; omega
      clear hM hc1 hx hp hok
      cases hg : x.g
      · rw [hg] at e2 d2
        go_wp2_with (first
          | (at_builtin; refine wpList_append_text rfl _ _ rfl w.heap.size _ (o ++ [UInt8.ofNat x.k.size] ++ x.k.data.toList ++ [UInt8.ofNat x.v.size]) rfl hx4 x.v rfl (by simp; omega) (by omega) ?_; intro v5 w5 hx5 hgrow5; have hb5 : Below w.heap.size w w5 := hb4.grown hgrow5 (by omega) (fun j hj => (hx4.lt j hj).1); clear hgrow5; have hw5s := hb5.size; have c50 := (hb5.cell (p := ⟨b1, o1 + k * 3, none⟩) hb1).trans d0; have c51 := (hb5.cell (p := ⟨b1, o1 + k * 3 + 1, none⟩) hb1).trans d1; have c52 := (hb5.cell (p := ⟨b1, o1 + k * 3 + 2, none⟩) hb1).trans d2)
          | (at_builtin; refine wpList_append_one 67 5 1 1 _ Tryz.underlying67 infoByte rfl (by decide) (by decide) rfl _ _ rfl w.heap.size _ (o ++ [UInt8.ofNat x.k.size] ++ x.k.data.toList).length (byV (o ++ [UInt8.ofNat x.k.size] ++ x.k.data.toList)) rfl (hx3.alloc _) (by simp; omega) w3.heap.size [.int .u8 x.v.size] rfl rfl (byte_new _ _ _) byte_one (by first | omega | (simp; omega)) ?_; intro v4 w4 hown4 hgrow4; have hx4 := own_byte (o := o ++ [UInt8.ofNat x.k.size] ++ x.k.data.toList) (c := UInt8.ofNat x.v.size) (by simp; omega) hown4; have hb4 : Below w.heap.size w w4 := (below_al hb3 _).grown hgrow4 (by simp; omega) (fun j hj => (hx3.lt j hj).1); clear hown4 hgrow4; have hw4s := hb4.size; have c40 := (hb4.cell (p := ⟨b1, o1 + k * 3, none⟩) hb1).trans d0; have c41 := (hb4.cell (p := ⟨b1, o1 + k * 3 + 1, none⟩) hb1).trans d1; have c42 := (hb4.cell (p := ⟨b1, o1 + k * 3 + 2, none⟩) hb1).trans d2)
          | (at_builtin; refine wpList_append_text rfl _ _ rfl w.heap.size _ (o ++ [UInt8.ofNat x.k.size]) rfl hx2 x.k rfl (by simp; omega) (by omega) ?_; intro v3 w3 hx3 hgrow3; have hb3 : Below w.heap.size w w3 := hb2.grown hgrow3 (by omega) (fun j hj => (hx2.lt j hj).1); clear hgrow3; have hw3s := hb3.size; have c30 := (hb3.cell (p := ⟨b1, o1 + k * 3, none⟩) hb1).trans d0; have c31 := (hb3.cell (p := ⟨b1, o1 + k * 3 + 1, none⟩) hb1).trans d1; have c32 := (hb3.cell (p := ⟨b1, o1 + k * 3 + 2, none⟩) hb1).trans d2)
          | (at_builtin; refine wpList_append_one 67 5 1 1 _ Tryz.underlying67 infoByte rfl (by decide) (by decide) rfl _ _ rfl w.heap.size _ (o).length (byV (o)) rfl (hown.alloc _) (by simp; omega) wr.heap.size [.int .u8 x.k.size] rfl rfl (byte_new _ _ _) byte_one (by first | omega | (simp; omega)) ?_; intro v2 w2 hown2 hgrow2; have hx2 := own_byte (o := o) (c := UInt8.ofNat x.k.size) (by simp; omega) hown2; have hb2 : Below w.heap.size w w2 := (below_al hb _).grown hgrow2 (by simp; omega) (fun j hj => (hown.lt j hj).1); clear hown2 hgrow2; have hw2s := hb2.size; have c20 := (hb2.cell (p := ⟨b1, o1 + k * 3, none⟩) hb1).trans d0; have c21 := (hb2.cell (p := ⟨b1, o1 + k * 3 + 1, none⟩) hb1).trans d1; have c22 := (hb2.cell (p := ⟨b1, o1 + k * 3 + 2, none⟩) hb1).trans d2)
          | go_in)
        have E : Hid (N = o ++ [UInt8.ofNat x.k.size] ++ x.k.data.toList ++ [UInt8.ofNat x.v.size] ++ x.v.data.toList ++ (l.drop (k + 1)).flatMap Vs.encC) := by
          show _ = _
          rw [hD.out, Vs.encC, hg]; simp
        exact ⟨⟨k + 1, _, by omega, by go_num, E, by show _ ≤ _; have := hO.out; simp; omega, hx5, hb5⟩, by simp [intOf]; omega⟩
      · rw [hg] at e2 d2
        go_wp2_with (first
          | (at_builtin; refine wpList_append_text rfl _ _ rfl w.heap.size _ (o ++ [UInt8.ofNat (x.k.size + 128)]) rfl hx2 x.k rfl (by simp; omega) (by omega) ?_; intro v3 w3 hx3 hgrow3; have hb3 : Below w.heap.size w w3 := hb2.grown hgrow3 (by omega) (fun j hj => (hx2.lt j hj).1); clear hgrow3; have hw3s := hb3.size; have c30 := (hb3.cell (p := ⟨b1, o1 + k * 3, none⟩) hb1).trans d0; have c31 := (hb3.cell (p := ⟨b1, o1 + k * 3 + 1, none⟩) hb1).trans d1; have c32 := (hb3.cell (p := ⟨b1, o1 + k * 3 + 2, none⟩) hb1).trans d2)
          | (at_builtin; refine wpList_append_one 67 5 1 1 _ Tryz.underlying67 infoByte rfl (by decide) (by decide) rfl _ _ rfl w.heap.size _ (o).length (byV (o)) rfl (hown.alloc _) (by simp; omega) wr.heap.size [.int .u8 (x.k.size + 128)] rfl rfl (byte_new _ _ _) byte_one (by first | omega | (simp; omega)) ?_; intro v2 w2 hown2 hgrow2; have hx2 := own_byte (o := o) (c := UInt8.ofNat (x.k.size + 128)) (by simp; omega) hown2; have hb2 : Below w.heap.size w w2 := (below_al hb _).grown hgrow2 (by simp; omega) (fun j hj => (hown.lt j hj).1); clear hown2 hgrow2; have hw2s := hb2.size; have c20 := (hb2.cell (p := ⟨b1, o1 + k * 3, none⟩) hb1).trans d0; have c21 := (hb2.cell (p := ⟨b1, o1 + k * 3 + 1, none⟩) hb1).trans d1; have c22 := (hb2.cell (p := ⟨b1, o1 + k * 3 + 2, none⟩) hb1).trans d2)
          | go_in)
        have E : Hid (N = o ++ [UInt8.ofNat (x.k.size + 128)] ++ x.k.data.toList ++ (l.drop (k + 1)).flatMap Vs.encC) := by
          show _ = _
          rw [hD.out, Vs.encC, hg]; simp
        exact ⟨⟨k + 1, _, by omega, by go_num, E, by show _ ≤ _; have := hO.out; simp; omega, hx3, hb3⟩, by simp [intOf]; omega⟩
    · have E : Hid (N = o) := by
        show _ = _
        rw [hM.out, List.drop_eq_nil_of_le (by omega)]; simp
      clear hM hp
      go_wp2
      go_ret
      exact ⟨_, rfl, by rw [E.out]; exact hown, hb⟩
end Go.Proofs.YteipfdjpndhgkaaGreatDoor
