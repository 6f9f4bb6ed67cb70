/- The contract of the reader's changes in package code. -/
import Derived.Test.YtcmmjidheglmdaaDoorCcD
import Derived.Test.YtcmmjidheglmdaaDoorCdAns
namespace Go.Proofs.YtcmmjidheglmdaaDoor
open Go.RowKit Go.Lib

/-- What changes tells, and throws. -/
def Chs (rb B : Nat) (D : Option (List Vs.Chg × List UInt8)) (e : Ending) (w' : World) : Prop :=
  ((∀ l t, D = some (l, t) → Vs.chF l ≠ 0) ∧ e = .panicked haltC) ∨ (∃ l t, D = some (l, t) ∧ Vs.chF l = 0 ∧ ∃ v, e = .returned v ∧ w'.ownsRow B 72 3 v l.length (chV l) ∧ Rd w' rb t)

set_option maxRecDepth 20000 in
set_option maxHeartbeats 4000000 in
theorem changes_ (n : UInt8) (s : List UInt8) (rb : Nat) (w : World) (h : Rd w rb (n :: s)) (D : Option (List Vs.Chg × List UInt8)) (hD : D = Vs.decG [] (n.toNat - 0) s) :
    Calls Tryd.prog 39 #[.pointer (some ⟨rb, 0, none⟩)] w fun e w' => Chs rb w.heap.size D e w' ∧ But (· = rb) w w' := by
  have hlt := h.lt
  have K := number_ok n s rb w h
  have hn : n.toNat < 256 := n.toNat_lt
  replace hD : Hid _ := hD
  go_enter Tryd.func39, Tryd.ntmps39
  go_wp2_with (go_at_call 47; refine K.mono ?_; clear K; rintro e w1 ⟨rfl, hr1, hb1⟩)
  go_loopw [3, 6] (fun v i wr => ∃ (k : Nat) (o : List Vs.Chg) (r : List UInt8), k ≤ n.toNat ∧ i = .int .i64 k ∧ Hid (D = Vs.decG o (n.toNat - k) r) ∧ Hid (o.length = k) ∧ wr.ownsRow w.heap.size 72 3 v o.length (chV o) ∧ Rd wr rb r ∧ But (· = rb) w wr) (fun _ i _ => n.toNat - (intOf i).toNat)
  case atStart => exact ⟨0, [], s, by omega, rfl, hD, rfl, World.ownsRow_nil _ _ _ _, hr1, hb1⟩
  case round =>
    clear hD hr1 hb1
    obtain ⟨k, o, r, hk, rfl, hM, hO, hown, hr, hb⟩ := hrel
    have hws := hb.size
    by_cases hl : k < n.toNat
    · have hl' : decide ((k : Int) < (n.toNat : Int)) = true := by simp; omega
      have hm : n.toNat - k = (n.toNat - (k + 1)) + 1 := by omega
      replace hM : Hid (D = Vs.decS o (n.toNat - (k + 1)) (Vs.decC r)) := by
        show _ = _
        rw [hM.out, hm, Vs.decG_step]
      cases hd : Vs.decC r with
      | none =>
        rw [hd] at hM
        have K := change_no hr hd
        have E : Hid (D = none) := hM
        clear hM hd
        go_wp2_with (go_at_call 48; refine K.mono ?_; clear K; rintro e w2 ⟨rfl, hb2⟩)
        exact ⟨rfl, .inl ⟨fun l t e => (by rw [E.out] at e; cases e), rfl⟩, hb.trans hb2⟩
      | some cs =>
        obtain ⟨c, t⟩ := cs
        rw [hd] at hM
        have K := change_ok hr hd
        replace hM : Hid (D = Vs.decG (o ++ [⟨c.k, c.v, c.g⟩]) (n.toNat - (k + 1)) t) := hM
        clear hd
        go_wp2_with (first
          | (go_at_call 48; refine K.mono ?_; clear K; rintro e w2 ⟨rfl, hr2, hb2⟩; have hown2 := own_but hown hb2 (fun k hk => by show ¬ _ = _; omega); have hs2 := hb2.size)
          | (at_builtin; refine wpList_append_one 35 72 3 40 _ Tryd.underlying35 infoChg rfl (by decide) (by decide) rfl _ _ rfl w.heap.size _ o.length (chV o) rfl (hown2.alloc _) (by simp; omega) w2.heap.size [.string c.k, .string c.v, .bool c.g] rfl rfl (chg_new rfl) chg_one (by have := hO.out; omega) ?_; intro v3 w3 hown3 hgrow3; have hlo := hown2.lt; have hb3 : But (fun k => u3.ownBlock = some k) w2 w3 := ((But.refl _ w2).alloc _).grown (row := u3.ownBlock) hgrow3 (fun k hk => .inl hk); clear hgrow3)
          | go_in)
        exact ⟨⟨k + 1, _, t, by omega, by go_num, hM, by show _ = _; have := hO.out; simp; omega, own_chg hown3, hr2.but hb3 (fun k hk e => by have := (hlo k e).1; omega), (hb.trans hb2).then hb3 (fun k hk e => by have := (hlo k e).1; omega)⟩, by simp [intOf]; omega⟩
    · have hl' : decide ((k : Int) < (n.toNat : Int)) = false := by simp; omega
      have hM : Hid (D = some (o, r)) := by
        show _ = _
        rw [hM.out, show n.toNat - k = 0 from by omega, Vs.decG_zero]
      obtain ⟨p', cp', rfl⟩ := own_form hown
      have hAt := (chAt_own hown).2
      have K := check o p' cp' wr (by have := hO.out; omega) hAt
      by_cases h6 : Vs.chF o = 0
      · rw [h6, ev_0] at K
        go_wp2_with (go_at_call 35; refine K.mono ?_; clear K; rintro e w2 ⟨rfl, hb2⟩)
        go_ret
        exact ⟨.inr ⟨o, r, hM.out, h6, _, rfl, own_below hown hb2, hr.step hb2⟩, hb.step hb2⟩
      · rw [ev_ne h6] at K
        have E : Hid (∀ l t, D = some (l, t) → Vs.chF l ≠ 0) := fun l t e => by rw [hM.out] at e; cases e; exact h6
        generalize Vs.chF o = z at K
        clear h6 hM
        go_wp2_with (go_at_call 35; refine K.mono ?_; clear K; rintro e w2 ⟨rfl, hb2⟩)
        exact ⟨rfl, .inl ⟨E.out, rfl⟩, hb.step hb2⟩
theorem changes_none (rb : Nat) (w : World) (h : Rd w rb []) :
    Calls Tryd.prog 39 #[.pointer (some ⟨rb, 0, none⟩)] w fun e w' => e = .panicked haltC ∧ But (· = rb) w w' := by
  have K := number_no rb w h
  go_enter Tryd.func39, Tryd.ntmps39
  go_wp2_with (go_at_call 47; refine K.mono ?_; clear K; rintro e w1 ⟨rfl, hw⟩)
  exact ⟨rfl, rfl, hw ▸ But.refl _ _⟩
/-- Bytes that lead to changes, and what is left behind them. -/
def rdG : List UInt8 → Option (List Vs.Chg × List UInt8)
  | [] => none
  | n :: s => match Vs.decN n.toNat s with
    | some (l, t) => if Vs.chF l = 0 then some (l, t) else none
    | none => none
theorem changes_no {b : List UInt8} {rb : Nat} {w : World} (h : Rd w rb b) (hd : rdG b = none) :
    Calls Tryd.prog 39 #[.pointer (some ⟨rb, 0, none⟩)] w fun e w' => e = .panicked haltC ∧ But (· = rb) w w' := by
  cases b with
  | nil => exact changes_none rb w h
  | cons n s =>
    refine (changes_ n s rb w h _ rfl).mono ?_
    rintro e w' ⟨⟨_, h1⟩ | ⟨l, t, h1, h2, _⟩, hb⟩
    · exact ⟨h1, hb⟩
    · exfalso
      unfold Vs.decG at h1
      rw [rdG] at hd
      rw [Nat.sub_zero] at h1
      cases hn : Vs.decN n.toNat s with
      | none => rw [hn] at h1; cases h1
      | some lt =>
        obtain ⟨l', t'⟩ := lt
        rw [hn] at h1 hd
        simp only [List.nil_append, Option.some.injEq, Prod.mk.injEq] at h1
        obtain ⟨rfl, rfl⟩ := h1
        simp [h2] at hd
theorem changes_ok {b : List UInt8} {rb : Nat} {w : World} {l : List Vs.Chg} {t : List UInt8} (h : Rd w rb b) (hd : rdG b = some (l, t)) :
    Calls Tryd.prog 39 #[.pointer (some ⟨rb, 0, none⟩)] w fun e w' => ∃ p cp, e = .returned (.slice p l.length cp) ∧ w'.ownsRow w.heap.size 72 3 (.slice p l.length cp) l.length (chV l) ∧ Rd w' rb t ∧ But (· = rb) w w' := by
  cases b with
  | nil => cases hd
  | cons n s =>
    rw [rdG] at hd
    cases hn : Vs.decN n.toNat s with
    | none => rw [hn] at hd; cases hd
    | some lt =>
      obtain ⟨l', t'⟩ := lt
      rw [hn] at hd
      have hc : Vs.chF l' = 0 := by
        by_cases g : Vs.chF l' = 0
        · exact g
        · simp [g] at hd
      simp [hc] at hd
      obtain ⟨rfl, rfl⟩ := hd
      refine (changes_ n s rb w h (some (l', t')) (by rw [Nat.sub_zero]; unfold Vs.decG; rw [hn]; rfl)).mono ?_
      rintro e w' ⟨⟨h1, _⟩ | ⟨l2, t2, h1, h2, v, rfl, hown, hr⟩, hb⟩
      · exact absurd hc (h1 _ _ rfl)
      · cases h1
        obtain ⟨p, cp, rfl⟩ := own_form hown
        exact ⟨p, cp, rfl, hown, hr, hb⟩
end Go.Proofs.YtcmmjidheglmdaaDoor
