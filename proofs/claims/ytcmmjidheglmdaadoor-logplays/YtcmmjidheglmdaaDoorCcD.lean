/- The contracts of the reader of bytes in package code: change, changes. -/
import Derived.Test.YtcmmjidheglmdaaDoorCcA
import Derived.Test.YtcmmjidheglmdaaDoorCcB
namespace Go.Proofs.YtcmmjidheglmdaaDoor
open Go.RowKit Go.Lib

set_option maxHeartbeats 2000000 in
theorem change_ (r : List UInt8) (rb : Nat) (w : World) (h : Rd w rb r) (D : Option (Vs.Chg × List UInt8)) (hD : D = Vs.decC r) :
    Calls Tryd.prog 48 #[.pointer (some ⟨rb, 0, none⟩)] w fun e w' => ((D = none ∧ e = .panicked haltC) ∨ (∃ c s, D = some (c, s) ∧ e = .returned (.agg #[.string c.k, .string c.v, .bool c.g]) ∧ Rd w' rb s)) ∧ But (· = rb) w w' := by
  have hlt := h.lt
  have hr1 := h.step (below_al (below_self w) (.cells #[.string ⟨#[]⟩, .string ⟨#[]⟩, .bool false] 72))
  have hz1 := Zb.new w 72
  cases r with
  | nil =>
    have K := number_no rb _ hr1
    have E : Hid (D = none) := hD
    clear hD
    go_enter Tryd.func48, Tryd.ntmps48
    go_wp2_with (go_at_call 47; refine K.mono ?_; rintro e w2 ⟨rfl, rfl⟩)
    exact ⟨rfl, .inl ⟨E.out, rfl⟩, (But.refl _ w).alloc _⟩
  | cons n s =>
    have K := number_ok n s rb _ hr1
    rw [Vs.decC] at hD
    have hn := n.toNat_lt
    by_cases h7 : 127 < n.toNat
    · have hm : n.toNat % 128 = n.toNat - 128 := by omega
      have h7' : decide ((128 : Int) ≤ (n.toNat : Int)) = true := by simp; omega
      have hsub : (n.toNat : Int) - 128 = ((n.toNat - 128 : Nat) : Int) := by omega
      rw [hm] at hD
      by_cases h1 : s.length < n.toNat - 128
      · rw [if_pos h1] at hD
        have E : Hid (D = none) := hD
        clear hD hm
        go_enter Tryd.func48, Tryd.ntmps48
        go_wp2_with (first
          | (go_at_call 47; refine K.mono ?_; rintro e w2 ⟨rfl, hr2, hb2⟩)
          | (go_at_call 52; refine (text_no _ s rb _ hr2 h1).mono ?_; rintro e w3 ⟨rfl, rfl⟩))
        exact ⟨rfl, .inl ⟨E.out, rfl⟩, ((But.refl _ w).alloc _).trans hb2⟩
      · rw [if_neg h1, if_pos h7] at hD
        have E : Hid (D = some (⟨Vs.mkB (s.take (n.toNat - 128)), ByteArray.empty, true⟩, s.drop (n.toNat - 128))) := hD
        clear hD hm
        go_enter Tryd.func48, Tryd.ntmps48
        go_wp2_with (first
          | (go_at_call 47; refine K.mono ?_; clear K; rintro e w2 ⟨rfl, hr2, hb2⟩; have hs2 := hb2.size; have hz2 := hz1.but hb2 (by simp) (by show ¬ _ = _; omega); have c20 := hz2.c0; have c21 := hz2.c1; have c22 := hz2.c2; have z20 := hz2.z0; have z21 := hz2.z1; have z22 := hz2.z2)
          | (go_at_call 52; refine (text_ok _ s rb _ hr2 (by omega)).mono ?_; rintro e w3 ⟨rfl, hr3, hb3⟩; have hs3 := hb3.size; have hz3 := hz2.but hb3 (by simp at hs2; omega) (by show ¬ _ = _; omega); have c30 := hz3.c0; have c31 := hz3.c1; have c32 := hz3.c2; have z30 := hz3.z0; have z31 := hz3.z1; have z32 := hz3.z2))
        exact bodyPost_ret (v := .agg #[.string (Vs.mkB (s.take (n.toNat - 128))), .string ⟨#[]⟩, .bool true]) (by simp [results, Tryd.results48, go_sem, c30, c31, c32]) rfl ⟨.inr ⟨_, _, E.out, rfl, hr3.but ((((But.refl (fun k => k = w.heap.size) _).setCell (p := ⟨w.heap.size, 0, none⟩) (.inl rfl) _).setCell (p := ⟨w.heap.size, 1, none⟩) (.inl rfl) _).setCell (p := ⟨w.heap.size, 2, none⟩) (.inl rfl) _) (fun k hk => by omega)⟩, ((((((But.refl _ w).alloc _).trans hb2 |>.trans hb3).setCell (p := ⟨w.heap.size, 0, none⟩) (.inr (Nat.le_refl _)) _).setCell (p := ⟨w.heap.size, 1, none⟩) (.inr (Nat.le_refl _)) _).setCell (p := ⟨w.heap.size, 2, none⟩) (.inr (Nat.le_refl _)) _)⟩
    · have hm : n.toNat % 128 = n.toNat := by omega
      have h7' : decide ((128 : Int) ≤ (n.toNat : Int)) = false := by simp; omega
      rw [hm] at hD
      by_cases h1 : s.length < n.toNat
      · rw [if_pos h1] at hD
        have E : Hid (D = none) := hD
        clear hD hm
        go_enter Tryd.func48, Tryd.ntmps48
        go_wp2_with (first
          | (go_at_call 47; refine K.mono ?_; rintro e w2 ⟨rfl, hr2, hb2⟩)
          | (go_at_call 52; refine (text_no _ s rb _ hr2 h1).mono ?_; rintro e w3 ⟨rfl, rfl⟩))
        exact ⟨rfl, .inl ⟨E.out, rfl⟩, ((But.refl _ w).alloc _).trans hb2⟩
      · rw [if_neg h1, if_neg h7] at hD
        generalize hT : s.drop n.toNat = t at hD
        cases t with
        | nil =>
          have E : Hid (D = none) := hD
          clear hD hm
          go_enter Tryd.func48, Tryd.ntmps48
          go_wp2_with (first
            | (go_at_call 47; refine (number_no rb _ hr3).mono ?_; rintro e w4 ⟨rfl, rfl⟩)
            | (go_at_call 52; refine (text_ok _ s rb _ hr2 (by omega)).mono ?_; rintro e w3 ⟨rfl, hr3, hb3⟩; rw [hT] at hr3; have hs3 := hb3.size; have hz3 := hz2.but hb3 (by simp at hs2; omega) (by show ¬ _ = _; omega); have c30 := hz3.c0; have c31 := hz3.c1; have c32 := hz3.c2; have z30 := hz3.z0; have z31 := hz3.z1; have z32 := hz3.z2)
            | (go_at_call 47; refine K.mono ?_; clear K; rintro e w2 ⟨rfl, hr2, hb2⟩; have hs2 := hb2.size; have hz2 := hz1.but hb2 (by simp) (by show ¬ _ = _; omega); have c20 := hz2.c0; have c21 := hz2.c1; have c22 := hz2.c2; have z20 := hz2.z0; have z21 := hz2.z1; have z22 := hz2.z2))
          exact ⟨rfl, .inl ⟨E.out, rfl⟩, ((But.refl _ w).alloc _).trans (hb2.trans hb3)⟩
        | cons q u =>
          have hq := q.toNat_lt
          by_cases h2 : u.length < q.toNat
          · have E : Hid (D = none) := by show _ = _; rw [hD]; show (if _ then _ else _) = _; rw [if_pos h2]
            clear hD hm
            go_enter Tryd.func48, Tryd.ntmps48
            go_wp2_with (first
              | (go_at_call 52; refine (text_no _ u rb _ hr4 h2).mono ?_; rintro e w5 ⟨rfl, rfl⟩)
              | (go_at_call 47; refine (number_ok q u rb _ hr3).mono ?_; rintro e w4 ⟨rfl, hr4, hb4⟩; have hs4 := hb4.size; have hz4 := hz3.but hb4 (by simp at hs2; omega) (by show ¬ _ = _; omega); have c40 := hz4.c0; have c41 := hz4.c1; have c42 := hz4.c2; have z40 := hz4.z0; have z41 := hz4.z1; have z42 := hz4.z2)
              | (go_at_call 52; refine (text_ok _ s rb _ hr2 (by omega)).mono ?_; rintro e w3 ⟨rfl, hr3, hb3⟩; rw [hT] at hr3; have hs3 := hb3.size; have hz3 := hz2.but hb3 (by simp at hs2; omega) (by show ¬ _ = _; omega); have c30 := hz3.c0; have c31 := hz3.c1; have c32 := hz3.c2; have z30 := hz3.z0; have z31 := hz3.z1; have z32 := hz3.z2)
              | (go_at_call 47; refine K.mono ?_; clear K; rintro e w2 ⟨rfl, hr2, hb2⟩; have hs2 := hb2.size; have hz2 := hz1.but hb2 (by simp) (by show ¬ _ = _; omega); have c20 := hz2.c0; have c21 := hz2.c1; have c22 := hz2.c2; have z20 := hz2.z0; have z21 := hz2.z1; have z22 := hz2.z2))
            exact ⟨rfl, .inl ⟨E.out, rfl⟩, ((But.refl _ w).alloc _).trans (hb2.trans (hb3.trans hb4))⟩
          · have E : Hid (D = some (⟨Vs.mkB (s.take n.toNat), Vs.mkB (u.take q.toNat), false⟩, u.drop q.toNat)) := by show _ = _; rw [hD]; show (if _ then _ else _) = _; rw [if_neg h2]
            clear hD hm
            go_enter Tryd.func48, Tryd.ntmps48
            go_wp2_with (first
              | (go_at_call 52; refine (text_ok _ u rb _ hr4 (by omega)).mono ?_; rintro e w5 ⟨rfl, hr5, hb5⟩; have hs5 := hb5.size; have hz5 := hz4.but hb5 (by simp at hs2; omega) (by show ¬ _ = _; omega); have c50 := hz5.c0; have c51 := hz5.c1; have c52 := hz5.c2; have z50 := hz5.z0; have z51 := hz5.z1; have z52 := hz5.z2)
              | (go_at_call 47; refine (number_ok q u rb _ hr3).mono ?_; rintro e w4 ⟨rfl, hr4, hb4⟩; have hs4 := hb4.size; have hz4 := hz3.but hb4 (by simp at hs2; omega) (by show ¬ _ = _; omega); have c40 := hz4.c0; have c41 := hz4.c1; have c42 := hz4.c2; have z40 := hz4.z0; have z41 := hz4.z1; have z42 := hz4.z2)
              | (go_at_call 52; refine (text_ok _ s rb _ hr2 (by omega)).mono ?_; rintro e w3 ⟨rfl, hr3, hb3⟩; rw [hT] at hr3; have hs3 := hb3.size; have hz3 := hz2.but hb3 (by simp at hs2; omega) (by show ¬ _ = _; omega); have c30 := hz3.c0; have c31 := hz3.c1; have c32 := hz3.c2; have z30 := hz3.z0; have z31 := hz3.z1; have z32 := hz3.z2)
              | (go_at_call 47; refine K.mono ?_; clear K; rintro e w2 ⟨rfl, hr2, hb2⟩; have hs2 := hb2.size; have hz2 := hz1.but hb2 (by simp) (by show ¬ _ = _; omega); have c20 := hz2.c0; have c21 := hz2.c1; have c22 := hz2.c2; have z20 := hz2.z0; have z21 := hz2.z1; have z22 := hz2.z2))
            exact bodyPost_ret (v := .agg #[.string (Vs.mkB (s.take n.toNat)), .string (Vs.mkB (u.take q.toNat)), .bool false]) (by simp [results, Tryd.results48, go_sem, c50, c51, c52]) rfl ⟨.inr ⟨_, _, E.out, rfl, hr5.but ((((But.refl (fun k => k = w.heap.size) _).setCell (p := ⟨w.heap.size, 0, none⟩) (.inl rfl) _).setCell (p := ⟨w.heap.size, 1, none⟩) (.inl rfl) _).setCell (p := ⟨w.heap.size, 2, none⟩) (.inl rfl) _) (fun k hk => by omega)⟩, (((((((But.refl _ w).alloc _).trans hb2 |>.trans hb3).trans hb4 |>.trans hb5).setCell (p := ⟨w.heap.size, 0, none⟩) (.inr (Nat.le_refl _)) _).setCell (p := ⟨w.heap.size, 1, none⟩) (.inr (Nat.le_refl _)) _).setCell (p := ⟨w.heap.size, 2, none⟩) (.inr (Nat.le_refl _)) _)⟩
theorem change_no {r : List UInt8} {rb : Nat} {w : World} (h : Rd w rb r) (hd : Vs.decC r = none) :
    Calls Tryd.prog 48 #[.pointer (some ⟨rb, 0, none⟩)] w fun e w' => e = .panicked haltC ∧ But (· = rb) w w' := by
  refine (change_ r rb w h none hd.symm).mono ?_
  rintro e w' ⟨⟨_, h1⟩ | ⟨_, _, h1, _⟩, hb⟩
  · exact ⟨h1, hb⟩
  · cases h1
theorem change_ok {r s : List UInt8} {rb : Nat} {w : World} {c : Vs.Chg} (h : Rd w rb r) (hd : Vs.decC r = some (c, s)) :
    Calls Tryd.prog 48 #[.pointer (some ⟨rb, 0, none⟩)] w fun e w' => e = .returned (.agg #[.string c.k, .string c.v, .bool c.g]) ∧ Rd w' rb s ∧ But (· = rb) w w' := by
  refine (change_ r rb w h _ hd.symm).mono ?_
  rintro e w' ⟨⟨h1, _⟩ | ⟨c', s', h1, h2, h3⟩, hb⟩
  · cases h1
  · cases h1; exact ⟨h2, h3, hb⟩
end Go.Proofs.YtcmmjidheglmdaaDoor
