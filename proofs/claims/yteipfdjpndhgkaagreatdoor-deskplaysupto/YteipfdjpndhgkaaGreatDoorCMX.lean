/- The contracts of the reader of bytes in package code: change, changes. -/
import Derived.Test.YteipfdjpndhgkaaGreatDoorCCcA
import Derived.Test.YteipfdjpndhgkaaGreatDoorCCcB
import Derived.Test.YteipfdjpndhgkaaGreatDoorCMM
namespace Go.Proofs.YteipfdjpndhgkaaGreatDoor
open Go.RowKit Go.Lib

set_option maxHeartbeats 2000000 in
theorem change_ (r : List UInt8) (rb : Nat) (w : World) (h : Rd w rb r) (D : Option (Vs.Chg × List UInt8)) (hD : D = Vs.decC r) :
    Calls Tryz.prog 169 #[.pointer (some ⟨rb, 0, none⟩)] w fun e w' => ((D = none ∧ e = .panicked haltC) ∨ (∃ c s, D = some (c, s) ∧ e = .returned (.agg #[.string c.k, .string c.v, .bool c.g]) ∧ Rd w' rb s)) ∧ But (· = rb) w w' := by
  have hlt := h.lt
  have hr1 := h.step (below_al (below_self w) (.cells #[.string ⟨#[]⟩, .string ⟨#[]⟩, .bool false] 50))
  have hz1 := Zb.new w 50
  cases r with
  | nil =>
    have K := number_no rb _ hr1
    have E : Hid (D = none) := hD
    clear hD
    go_enter Tryz.func169, Tryz.ntmps169
    go_wp2_with (go_at_call 168; refine K.mono ?_; rintro e w2 ⟨rfl, rfl⟩)
    exact ⟨rfl, .inl ⟨E.out, rfl⟩, (But.refl _ w).alloc _⟩
  | cons n s =>
    have K := number_ok n s rb _ hr1
    rw [Vs.decC] at hD
    have hn := n.toNat_lt
    by_cases h7 : 127 < n.toNat
    · have hm : n.toNat % 128 = n.toNat - 128 := by omega
      have h7' : decide ((128 : Int) ≤ (n.toNat : Int)) = true := by simp; omega
      have hsub : (n.toNat : Int) - 128 = ((n.toNat - 128 : Nat) : Int) := by omega
      rw [hm] at hD
      by_cases h1 : s.length < n.toNat - 128
      · rw [if_pos h1] at hD
        have E : Hid (D = none) := hD
        clear hD hm
        go_enter Tryz.func169, Tryz.ntmps169
        go_wp2_with (first
          | (go_at_call 168; refine K.mono ?_; rintro e w2 ⟨rfl, hr2, hb2⟩)
          | (go_at_call 187; refine (text_no _ s rb _ hr2 h1).mono ?_; rintro e w3 ⟨rfl, rfl⟩))
        exact ⟨rfl, .inl ⟨E.out, rfl⟩, ((But.refl _ w).alloc _).trans hb2⟩
      · rw [if_neg h1, if_pos h7] at hD
        have E : Hid (D = some (⟨Vs.mkB (s.take (n.toNat - 128)), ByteArray.empty, true⟩, s.drop (n.toNat - 128))) := hD
        clear hD hm
        go_enter Tryz.func169, Tryz.ntmps169
        go_wp2_with (first
          | (go_at_call 168; refine K.mono ?_; clear K; rintro e w2 ⟨rfl, hr2, hb2⟩; have hs2 := hb2.size; have hz2 := hz1.but hb2 (by simp) (by show ¬ _ = _; omega); have c20 := hz2.c0; have c21 := hz2.c1; have c22 := hz2.c2; have z20 := hz2.z0; have z21 := hz2.z1; have z22 := hz2.z2)
          | (go_at_call 187; refine (text_ok _ s rb _ hr2 (by omega)).mono ?_; rintro e w3 ⟨rfl, hr3, hb3⟩; have hs3 := hb3.size; have hz3 := hz2.but hb3 (by simp at hs2; omega) (by show ¬ _ = _; omega); have c30 := hz3.c0; have c31 := hz3.c1; have c32 := hz3.c2; have z30 := hz3.z0; have z31 := hz3.z1; have z32 := hz3.z2))
        exact bodyPost_ret (v := .agg #[.string (Vs.mkB (s.take (n.toNat - 128))), .string ⟨#[]⟩, .bool true]) (by simp [results, Tryz.results169, go_sem, c30, c31, c32]) rfl ⟨.inr ⟨_, _, E.out, rfl, hr3.but ((((But.refl (fun k => k = w.heap.size) _).setCell (p := ⟨w.heap.size, 0, none⟩) (.inl rfl) _).setCell (p := ⟨w.heap.size, 1, none⟩) (.inl rfl) _).setCell (p := ⟨w.heap.size, 2, none⟩) (.inl rfl) _) (fun k hk => by omega)⟩, ((((((But.refl _ w).alloc _).trans hb2 |>.trans hb3).setCell (p := ⟨w.heap.size, 0, none⟩) (.inr (Nat.le_refl _)) _).setCell (p := ⟨w.heap.size, 1, none⟩) (.inr (Nat.le_refl _)) _).setCell (p := ⟨w.heap.size, 2, none⟩) (.inr (Nat.le_refl _)) _)⟩
    · have hm : n.toNat % 128 = n.toNat := by omega
      have h7' : decide ((128 : Int) ≤ (n.toNat : Int)) = false := by simp; omega
      rw [hm] at hD
      by_cases h1 : s.length < n.toNat
      · rw [if_pos h1] at hD
        have E : Hid (D = none) := hD
        clear hD hm
        go_enter Tryz.func169, Tryz.ntmps169
        go_wp2_with (first
          | (go_at_call 168; refine K.mono ?_; rintro e w2 ⟨rfl, hr2, hb2⟩)
          | (go_at_call 187; refine (text_no _ s rb _ hr2 h1).mono ?_; rintro e w3 ⟨rfl, rfl⟩))
        exact ⟨rfl, .inl ⟨E.out, rfl⟩, ((But.refl _ w).alloc _).trans hb2⟩
      · rw [if_neg h1, if_neg h7] at hD
        generalize hT : s.drop n.toNat = t at hD
        cases t with
        | nil =>
          have E : Hid (D = none) := hD
          clear hD hm
          go_enter Tryz.func169, Tryz.ntmps169
          go_wp2_with (first
            | (go_at_call 168; refine (number_no rb _ hr3).mono ?_; rintro e w4 ⟨rfl, rfl⟩)
            | (go_at_call 187; refine (text_ok _ s rb _ hr2 (by omega)).mono ?_; rintro e w3 ⟨rfl, hr3, hb3⟩; rw [hT] at hr3; have hs3 := hb3.size; have hz3 := hz2.but hb3 (by simp at hs2; omega) (by show ¬ _ = _; omega); have c30 := hz3.c0; have c31 := hz3.c1; have c32 := hz3.c2; have z30 := hz3.z0; have z31 := hz3.z1; have z32 := hz3.z2)
            | (go_at_call 168; refine K.mono ?_; clear K; rintro e w2 ⟨rfl, hr2, hb2⟩; have hs2 := hb2.size; have hz2 := hz1.but hb2 (by simp) (by show ¬ _ = _; omega); have c20 := hz2.c0; have c21 := hz2.c1; have c22 := hz2.c2; have z20 := hz2.z0; have z21 := hz2.z1; have z22 := hz2.z2))
          exact ⟨rfl, .inl ⟨E.out, rfl⟩, ((But.refl _ w).alloc _).trans (hb2.trans hb3)⟩
        | cons q u =>
          have hq := q.toNat_lt
          by_cases h2 : u.length < q.toNat
          · have E : Hid (D = none) := by show _ = _; rw [hD]; show (if _ then _ else _) = _; rw [if_pos h2]
            clear hD hm
            go_enter Tryz.func169, Tryz.ntmps169
            go_wp2_with (first
              | (go_at_call 187; refine (text_no _ u rb _ hr4 h2).mono ?_; rintro e w5 ⟨rfl, rfl⟩)
              | (go_at_call 168; refine (number_ok q u rb _ hr3).mono ?_; rintro e w4 ⟨rfl, hr4, hb4⟩; have hs4 := hb4.size; have hz4 := hz3.but hb4 (by simp at hs2; omega) (by show ¬ _ = _; omega); have c40 := hz4.c0; have c41 := hz4.c1; have c42 := hz4.c2; have z40 := hz4.z0; have z41 := hz4.z1; have z42 := hz4.z2)
              | (go_at_call 187; refine (text_ok _ s rb _ hr2 (by omega)).mono ?_; rintro e w3 ⟨rfl, hr3, hb3⟩; rw [hT] at hr3; have hs3 := hb3.size; have hz3 := hz2.but hb3 (by simp at hs2; omega) (by show ¬ _ = _; omega); have c30 := hz3.c0; have c31 := hz3.c1; have c32 := hz3.c2; have z30 := hz3.z0; have z31 := hz3.z1; have z32 := hz3.z2)
              | (go_at_call 168; refine K.mono ?_; clear K; rintro e w2 ⟨rfl, hr2, hb2⟩; have hs2 := hb2.size; have hz2 := hz1.but hb2 (by simp) (by show ¬ _ = _; omega); have c20 := hz2.c0; have c21 := hz2.c1; have c22 := hz2.c2; have z20 := hz2.z0; have z21 := hz2.z1; have z22 := hz2.z2))
            exact ⟨rfl, .inl ⟨E.out, rfl⟩, ((But.refl _ w).alloc _).trans (hb2.trans (hb3.trans hb4))⟩
          · have E : Hid (D = some (⟨Vs.mkB (s.take n.toNat), Vs.mkB (u.take q.toNat), false⟩, u.drop q.toNat)) := by show _ = _; rw [hD]; show (if _ then _ else _) = _; rw [if_neg h2]
            clear hD hm
            go_enter Tryz.func169, Tryz.ntmps169
            go_wp2_with (first
              | (go_at_call 187; refine (text_ok _ u rb _ hr4 (by omega)).mono ?_; rintro e w5 ⟨rfl, hr5, hb5⟩; have hs5 := hb5.size; have hz5 := hz4.but hb5 (by simp at hs2; omega) (by show ¬ _ = _; omega); have c50 := hz5.c0; have c51 := hz5.c1; have c52 := hz5.c2; have z50 := hz5.z0; have z51 := hz5.z1; have z52 := hz5.z2)
              | (go_at_call 168; refine (number_ok q u rb _ hr3).mono ?_; rintro e w4 ⟨rfl, hr4, hb4⟩; have hs4 := hb4.size; have hz4 := hz3.but hb4 (by simp at hs2; omega) (by show ¬ _ = _; omega); have c40 := hz4.c0; have c41 := hz4.c1; have c42 := hz4.c2; have z40 := hz4.z0; have z41 := hz4.z1; have z42 := hz4.z2)
              | (go_at_call 187; refine (text_ok _ s rb _ hr2 (by omega)).mono ?_; rintro e w3 ⟨rfl, hr3, hb3⟩; rw [hT] at hr3; have hs3 := hb3.size; have hz3 := hz2.but hb3 (by simp at hs2; omega) (by show ¬ _ = _; omega); have c30 := hz3.c0; have c31 := hz3.c1; have c32 := hz3.c2; have z30 := hz3.z0; have z31 := hz3.z1; have z32 := hz3.z2)
              | (go_at_call 168; refine K.mono ?_; clear K; rintro e w2 ⟨rfl, hr2, hb2⟩; have hs2 := hb2.size; have hz2 := hz1.but hb2 (by simp) (by show ¬ _ = _; omega); have c20 := hz2.c0; have c21 := hz2.c1; have c22 := hz2.c2; have z20 := hz2.z0; have z21 := hz2.z1; have z22 := hz2.z2))
            exact bodyPost_ret (v := .agg #[.string (Vs.mkB (s.take n.toNat)), .string (Vs.mkB (u.take q.toNat)), .bool false]) (by simp [results, Tryz.results169, go_sem, c50, c51, c52]) rfl ⟨.inr ⟨_, _, E.out, rfl, hr5.but ((((But.refl (fun k => k = w.heap.size) _).setCell (p := ⟨w.heap.size, 0, none⟩) (.inl rfl) _).setCell (p := ⟨w.heap.size, 1, none⟩) (.inl rfl) _).setCell (p := ⟨w.heap.size, 2, none⟩) (.inl rfl) _) (fun k hk => by omega)⟩, (((((((But.refl _ w).alloc _).trans hb2 |>.trans hb3).trans hb4 |>.trans hb5).setCell (p := ⟨w.heap.size, 0, none⟩) (.inr (Nat.le_refl _)) _).setCell (p := ⟨w.heap.size, 1, none⟩) (.inr (Nat.le_refl _)) _).setCell (p := ⟨w.heap.size, 2, none⟩) (.inr (Nat.le_refl _)) _)⟩
theorem change_no {r : List UInt8} {rb : Nat} {w : World} (h : Rd w rb r) (hd : Vs.decC r = none) :
    Calls Tryz.prog 169 #[.pointer (some ⟨rb, 0, none⟩)] w fun e w' => e = .panicked haltC ∧ But (· = rb) w w' := by
  refine (change_ r rb w h none hd.symm).mono ?_
  rintro e w' ⟨⟨_, h1⟩ | ⟨_, _, h1, _⟩, hb⟩
  · exact ⟨h1, hb⟩
  · cases h1
theorem change_ok {r s : List UInt8} {rb : Nat} {w : World} {c : Vs.Chg} (h : Rd w rb r) (hd : Vs.decC r = some (c, s)) :
    Calls Tryz.prog 169 #[.pointer (some ⟨rb, 0, none⟩)] w fun e w' => e = .returned (.agg #[.string c.k, .string c.v, .bool c.g]) ∧ Rd w' rb s ∧ But (· = rb) w w' := by
  refine (change_ r rb w h _ hd.symm).mono ?_
  rintro e w' ⟨⟨h1, _⟩ | ⟨c', s', h1, h2, h3⟩, hb⟩
  · cases h1
  · cases h1; exact ⟨h2, h3, hb⟩
end Go.Proofs.YteipfdjpndhgkaaGreatDoor

/- The contract of the reader's changes in package code. -/
namespace Go.Proofs.YteipfdjpndhgkaaGreatDoor
open Go.RowKit Go.Lib

/-- What changes tells, and throws. -/
def Chs (rb B : Nat) (D : Option (List Vs.Chg × List UInt8)) (e : Ending) (w' : World) : Prop :=
  ((∀ l t, D = some (l, t) → Vs.chF l ≠ 0) ∧ e = .panicked haltC) ∨ (∃ l t, D = some (l, t) ∧ Vs.chF l = 0 ∧ ∃ v, e = .returned v ∧ w'.ownsRow B 50 3 v l.length (chV l) ∧ Rd w' rb t)

set_option maxRecDepth 20000 in
set_option maxHeartbeats 4000000 in
theorem changes_ (n : UInt8) (s : List UInt8) (rb : Nat) (w : World) (h : Rd w rb (n :: s)) (D : Option (List Vs.Chg × List UInt8)) (hD : D = Vs.decG [] (n.toNat - 0) s) :
    Calls Tryz.prog 136 #[.pointer (some ⟨rb, 0, none⟩)] w fun e w' => Chs rb w.heap.size D e w' ∧ But (· = rb) w w' := by
  have hlt := h.lt
  have K := number_ok n s rb w h
  have hn : n.toNat < 256 := n.toNat_lt
  replace hD : Hid _ := hD
  go_enter Tryz.func136, Tryz.ntmps136
  go_wp2_with (go_at_call 168; refine K.mono ?_; clear K; rintro e w1 ⟨rfl, hr1, hb1⟩)
  go_loopw [3, 6] (fun v i wr => ∃ (k : Nat) (o : List Vs.Chg) (r : List UInt8), k ≤ n.toNat ∧ i = .int .i64 k ∧ Hid (D = Vs.decG o (n.toNat - k) r) ∧ Hid (o.length = k) ∧ wr.ownsRow w.heap.size 50 3 v o.length (chV o) ∧ Rd wr rb r ∧ But (· = rb) w wr) (fun _ i _ => n.toNat - (intOf i).toNat)
  case atStart => exact ⟨0, [], s, by omega, rfl, hD, rfl, World.ownsRow_nil _ _ _ _, hr1, hb1⟩
  case round =>
    clear hD hr1 hb1
    obtain ⟨k, o, r, hk, rfl, hM, hO, hown, hr, hb⟩ := hrel
    have hws := hb.size
    by_cases hl : k < n.toNat
    · have hl' : decide ((k : Int) < (n.toNat : Int)) = true := by simp; omega
      have hm : n.toNat - k = (n.toNat - (k + 1)) + 1 := by omega
      replace hM : Hid (D = Vs.decS o (n.toNat - (k + 1)) (Vs.decC r)) := by
        show _ = _
        rw [hM.out, hm, Vs.decG_step]
      cases hd : Vs.decC r with
      | none =>
        rw [hd] at hM
        have K := change_no hr hd
        have E : Hid (D = none) := hM
        clear hM hd
        go_wp2_with (go_at_call 169; refine K.mono ?_; clear K; rintro e w2 ⟨rfl, hb2⟩)
        exact ⟨rfl, .inl ⟨fun l t e => (by rw [E.out] at e; cases e), rfl⟩, hb.trans hb2⟩
      | some cs =>
        obtain ⟨c, t⟩ := cs
        rw [hd] at hM
        have K := change_ok hr hd
        replace hM : Hid (D = Vs.decG (o ++ [⟨c.k, c.v, c.g⟩]) (n.toNat - (k + 1)) t) := hM
        clear hd
        go_wp2_with (first
          | (go_at_call 169; refine K.mono ?_; clear K; rintro e w2 ⟨rfl, hr2, hb2⟩; have hown2 := rowb hown hb2 (fun k hk => by show ¬ _ = _; omega); have hs2 := hb2.size)
          | (at_builtin; refine wpList_append_one 88 50 3 40 _ Tryz.underlying88 infoChg rfl (by decide) (by decide) rfl _ _ rfl w.heap.size _ o.length (chV o) rfl (hown2.alloc _) (by simp; omega) w2.heap.size [.string c.k, .string c.v, .bool c.g] rfl rfl (chg_new rfl) chg_one (by have := hO.out; omega) ?_; intro v3 w3 hown3 hgrow3; have hlo := hown2.lt; have hb3 : But (fun k => u3.ownBlock = some k) w2 w3 := ((But.refl _ w2).alloc _).grown (row := u3.ownBlock) hgrow3 (fun k hk => .inl hk); clear hgrow3)
          | go_in)
        exact ⟨⟨k + 1, _, t, by omega, by go_num, hM, by show _ = _; have := hO.out; simp; omega, own_chg hown3, hr2.but hb3 (fun k hk e => by have := (hlo k e).1; omega), (hb.trans hb2).then hb3 (fun k hk e => by have := (hlo k e).1; omega)⟩, by simp [intOf]; omega⟩
    · have hl' : decide ((k : Int) < (n.toNat : Int)) = false := by simp; omega
      have hM : Hid (D = some (o, r)) := by
        show _ = _
        rw [hM.out, show n.toNat - k = 0 from by omega, Vs.decG_zero]
      obtain ⟨p', cp', rfl⟩ := own_form hown
      have hAt := (chAt_own hown).2
      have K := check o p' cp' wr (by have := hO.out; omega) hAt
      by_cases h6 : Vs.chF o = 0
      · rw [h6, ev_0] at K
        go_wp2_with (go_at_call 131; refine K.mono ?_; clear K; rintro e w2 ⟨rfl, hb2⟩)
        go_ret
        exact ⟨.inr ⟨o, r, hM.out, h6, _, rfl, own_below hown hb2, hr.step hb2⟩, hb.step hb2⟩
      · rw [ev_ne h6] at K
        have E : Hid (∀ l t, D = some (l, t) → Vs.chF l ≠ 0) := fun l t e => by rw [hM.out] at e; cases e; exact h6
        generalize Vs.chF o = z at K
        clear h6 hM
        go_wp2_with (go_at_call 131; refine K.mono ?_; clear K; rintro e w2 ⟨rfl, hb2⟩)
        exact ⟨rfl, .inl ⟨E.out, rfl⟩, hb.step hb2⟩
theorem changes_none (rb : Nat) (w : World) (h : Rd w rb []) :
    Calls Tryz.prog 136 #[.pointer (some ⟨rb, 0, none⟩)] w fun e w' => e = .panicked haltC ∧ But (· = rb) w w' := by
  have K := number_no rb w h
  go_enter Tryz.func136, Tryz.ntmps136
  go_wp2_with (go_at_call 168; refine K.mono ?_; clear K; rintro e w1 ⟨rfl, hw⟩)
  exact ⟨rfl, rfl, hw ▸ But.refl _ _⟩
/-- Bytes that lead to changes, and what is left behind them. -/
def rdG : List UInt8 → Option (List Vs.Chg × List UInt8)
  | [] => none
  | n :: s => match Vs.decN n.toNat s with
    | some (l, t) => if Vs.chF l = 0 then some (l, t) else none
    | none => none
theorem changes_no {b : List UInt8} {rb : Nat} {w : World} (h : Rd w rb b) (hd : rdG b = none) :
    Calls Tryz.prog 136 #[.pointer (some ⟨rb, 0, none⟩)] w fun e w' => e = .panicked haltC ∧ But (· = rb) w w' := by
  cases b with
  | nil => exact changes_none rb w h
  | cons n s =>
    refine (changes_ n s rb w h _ rfl).mono ?_
    rintro e w' ⟨⟨_, h1⟩ | ⟨l, t, h1, h2, _⟩, hb⟩
    · exact ⟨h1, hb⟩
    · exfalso
      unfold Vs.decG at h1
      rw [rdG] at hd
      rw [Nat.sub_zero] at h1
      cases hn : Vs.decN n.toNat s with
      | none => rw [hn] at h1; cases h1
      | some lt =>
        obtain ⟨l', t'⟩ := lt
        rw [hn] at h1 hd
        simp only [List.nil_append, Option.some.injEq, Prod.mk.injEq] at h1
        obtain ⟨rfl, rfl⟩ := h1
        simp [h2] at hd
theorem changes_ok {b : List UInt8} {rb : Nat} {w : World} {l : List Vs.Chg} {t : List UInt8} (h : Rd w rb b) (hd : rdG b = some (l, t)) :
    Calls Tryz.prog 136 #[.pointer (some ⟨rb, 0, none⟩)] w fun e w' => ∃ p cp, e = .returned (.slice p l.length cp) ∧ w'.ownsRow w.heap.size 50 3 (.slice p l.length cp) l.length (chV l) ∧ Rd w' rb t ∧ But (· = rb) w w' := by
  cases b with
  | nil => cases hd
  | cons n s =>
    rw [rdG] at hd
    cases hn : Vs.decN n.toNat s with
    | none => rw [hn] at hd; cases hd
    | some lt =>
      obtain ⟨l', t'⟩ := lt
      rw [hn] at hd
      have hc : Vs.chF l' = 0 := by
        by_cases g : Vs.chF l' = 0
        · exact g
        · simp [g] at hd
      simp [hc] at hd
      obtain ⟨rfl, rfl⟩ := hd
      refine (changes_ n s rb w h (some (l', t')) (by rw [Nat.sub_zero]; unfold Vs.decG; rw [hn]; rfl)).mono ?_
      rintro e w' ⟨⟨h1, _⟩ | ⟨l2, t2, h1, h2, v, rfl, hown, hr⟩, hb⟩
      · exact absurd hc (h1 _ _ rfl)
      · cases h1
        obtain ⟨p, cp, rfl⟩ := own_form hown
        exact ⟨p, cp, rfl, hown, hr, hb⟩
end Go.Proofs.YteipfdjpndhgkaaGreatDoor
