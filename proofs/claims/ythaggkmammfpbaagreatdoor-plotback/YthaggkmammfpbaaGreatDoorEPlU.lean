/- Package plot: the walk of do, behind the question for its net. -/
import Derived.Test.YthaggkmammfpbaaGreatDoorEPlR
import Derived.Test.YthaggkmammfpbaaGreatDoorEMpHeld
import Derived.Test.YthaggkmammfpbaaGreatDoorETrBase
namespace Go.Proofs.YthaggkmammfpbaaGreatDoor.Pa
open Go.RowKit Go.Maps Vs

section
variable {T : Td} {F F1 : Nat → Prop} {B : Nat} {d1 : Dk}
set_option maxRecDepth 100000 in
set_option maxHeartbeats 16000000 in
theorem plDo2 (V : DFace T) (c : Cl) (i : Int) (is : Bool) {w wx : World} {c4 c6 c7 c8 c9 c10 c11 c12 c13 c14 c15 c16 c17 c18 c19 c20 c21 c22 c23 c24 c25 c26 c27 c28 c29 c30 c31 c32 c33 c34 c35 c36 c37 c38 c39 c40 c41 c42 c43 c44 c45 c46 c47 c48 c49 c50 c51 c52 c53 c54 c55 c56 c57 c58 c59 c60 c61 c62 c63 c64 c65 c66 c67 c68 c69 c70 c71 c72 c73 c74 c75 c76 c77 c78 c79 c80 c81 c82 c83 c84 c85 c86 c87 : Value} (en : En w) (h : Ds T wx F1 B d1) (ok : OkD d1) (sm : Sm d1) (hcl : clF c = 0) (wk : Wk wx w.heap.size B c i) (ab : Ab wx (w.heap.size + 1) (.int .i64 0) (.int .i64 0) (.int .i64 0) (.string ⟨#[]⟩) (.slice none 0 0)) (n2 : ¬ F1 (w.heap.size + 1)) (hN : ∀ j, F1 j → Nw F w wx j) (hB : But F w wx) :
    Code.wp Tryz.prog (dropSeq 2 (Tryz.f81.body.getD .skip)) (bodyPost Tryz.prog Tryz.f81 fun e w' => DoPost T F w B (runD (pBody c is) d1 i) (runA (pBody c is) d1 i) (runF (pBody c is) d1 i) e w') ⟨#[wkV B c i, .pointer (some ⟨w.heap.size, 0, none⟩), .pointer (some ⟨w.heap.size + 1, 0, none⟩), .nilIface, c4, .bool is, c6, c7, c8, c9, c10, c11, c12, c13, c14, c15, c16, c17, c18, c19, c20, c21, c22, c23, c24, c25, c26, c27, c28, c29, c30, c31, c32, c33, c34, c35, c36, c37, c38, c39, c40, c41, c42, c43, c44, c45, c46, c47, c48, c49, c50, c51, c52, c53, c54, c55, c56, c57, c58, c59, c60, c61, c62, c63, c64, c65, c66, c67, c68, c69, c70, c71, c72, c73, c74, c75, c76, c77, c78, c79, c80, c81, c82, c83, c84, c85, c86, c87], []⟩ wx := by
  conv => arg 2; whnf
  obtain ⟨hw1, hw9, hnm⟩ := clF_in hcl
  have hn : c.nm.size ≤ 1000 := by omega
  obtain ⟨k0, k1, k2, k3, k4, k5, k6, k7, k8⟩ := id wk
  have lab := ab.lt
  have FIN := fun {w5 wf : World} {F5 : Nat → Prop} {d' : Dk} (h5 : Ds T w5 F5 B d') (hn5 : ∀ j, F5 j → Nw F1 wx w5 j) (b5 : But F1 wx w5) (hb : But (fun j => j = w.heap.size + 1) w5 wf) => do_fin (F := F) V en hB hN h5 hn5 b5 (Nat.le_succ _) lab n2 hb
  have FH : Hid _ := @FIN
  clear FIN
  obtain ⟨bb, hbb⟩ : ∃ bb, bb = w.heap.size := ⟨_, rfl⟩
  have HBB : Hid (bb = w.heap.size) := hbb
  cases is with
  | false =>
    by_cases hk : c.what = 1
    · have how := clF_ow hcl (.inl hk)
      have eB : pBody c false = puts (kN c.nm) c.ow an0 := by unfold pBody; rw [if_pos hk]; rfl
      obtain ⟨p1, p2, p3, p4⟩ := puts_is (d := d1) (i := i) (k := kN c.nm) (v := c.ow) an0
      rw [← eB] at p1 p2 p3 p4
      obtain ⟨E, hE⟩ : ∃ E, Hid (E = ev (dcF d1 i ⟨kN c.nm, c.ow, false⟩)) := ⟨_, rfl⟩
      have E1 : Hid (ev (runF (pBody c false) d1 i) = E) := (congrArg ev p1).trans hE.out.symm
      have E2 : Hid (runD (pBody c false) d1 i = dcD d1 i ⟨kN c.nm, c.ow, false⟩) := p2
      have E3 : Hid (runA (pBody c false) d1 i = an0) := by
        by_cases g : dcF d1 i ⟨kN c.nm, c.ow, false⟩ = 0
        · exact p3 g
        · exact p4 g
      have K := plNetPut V c i h ok sm hn (by unfold maxLen; omega)
      rw [← hE.out] at K
      have z1 : (c.what == 1) = true := by rw [hk]; rfl
      have z2 : (c.what == 2) = false := by rw [hk]; rfl
      have z3 : (c.what == 3) = false := by rw [hk]; rfl
      have z4 : (c.what == 4) = false := by rw [hk]; rfl
      have z5 : (c.what == 5) = false := by rw [hk]; rfl
      have z6 : (c.what == 6) = false := by rw [hk]; rfl
      have z7 : (c.what == 7) = false := by rw [hk]; rfl
      have z8 : (c.what == 8) = false := by rw [hk]; rfl
      have z9 : (c.what == 9) = false := by rw [hk]; rfl
      have zn : (c.what != 1) = false := by rw [hk]; rfl
      clear p1 p2 p3 p4 eB hk hw1 hw9
      go_wp2_with (go_at_call 141; refine K.mono ?_; clear K; rintro e w5 ⟨rfl, hj5⟩; obtain ⟨F5, h5, hn5⟩ := hj5.ex; have b5 := hj5.bt; have ab5 := ab.but b5 n2; obtain ⟨a0, a1, a2, a3, a4, af0, af1, af2, af3, af4⟩ := id ab5)
      exact bodyPost_ret (v := .tuple #[anV an0 (.slice none 0 0), E]) (by simp [results, Tryz.results81, go_sem, an0, (ab5.all (.int .i64 0) (.int .i64 0) (.int .i64 0) (.string ⟨#[]⟩) (.slice none 0 0)).c0, (ab5.all (.int .i64 0) (.int .i64 0) (.int .i64 0) (.string ⟨#[]⟩) (.slice none 0 0)).c1, (ab5.all (.int .i64 0) (.int .i64 0) (.int .i64 0) (.string ⟨#[]⟩) (.slice none 0 0)).c2, (ab5.all (.int .i64 0) (.int .i64 0) (.int .i64 0) (.string ⟨#[]⟩) (.slice none 0 0)).c3, (ab5.all (.int .i64 0) (.int .i64 0) (.int .i64 0) (.string ⟨#[]⟩) (.slice none 0 0)).c4]; rfl) rfl ⟨.slice none 0 0, by rw [E3.out, E1.out], F5, by rw [E2.out]; exact (FH.out h5 hn5 b5 (but_5 _ (But.refl _ _) _ _ _ _ _)).1, (FH.out h5 hn5 b5 (but_5 _ (But.refl _ _) _ _ _ _ _)).2.1, (FH.out h5 hn5 b5 (but_5 _ (But.refl _ _) _ _ _ _ _)).2.2, by rw [E3.out]; exact World.ownsRow_nil _ _ _ _, fun j hj => by cases hj⟩
    · have eB : pBody c false = err 4 := by unfold pBody; rw [if_neg hk, if_pos rfl]
      have E1 : Hid (ev (runF (pBody c false) d1 i) = errN 4) := by show _ = _; rw [eB]; rfl
      have E2 : Hid (runD (pBody c false) d1 i = d1) := by show _ = _; rw [eB]; rfl
      have E3 : Hid (runA (pBody c false) d1 i = an0) := by show _ = _; rw [eB]; rfl
      have zn : (c.what != 1) = true := by simp [hk]
      have ab5 := ab
      obtain ⟨a0, a1, a2, a3, a4, af0, af1, af2, af3, af4⟩ := id ab
      clear hk eB hw1 hw9
      go_wp2_with fail
      exact bodyPost_ret (v := .tuple #[anV an0 (.slice none 0 0), errN 4]) (by simp [results, Tryz.results81, go_sem, an0, (ab5.all (.int .i64 0) (.int .i64 0) (.int .i64 0) (.string ⟨#[]⟩) (.slice none 0 0)).c0, (ab5.all (.int .i64 0) (.int .i64 0) (.int .i64 0) (.string ⟨#[]⟩) (.slice none 0 0)).c1, (ab5.all (.int .i64 0) (.int .i64 0) (.int .i64 0) (.string ⟨#[]⟩) (.slice none 0 0)).c2, (ab5.all (.int .i64 0) (.int .i64 0) (.int .i64 0) (.string ⟨#[]⟩) (.slice none 0 0)).c3, (ab5.all (.int .i64 0) (.int .i64 0) (.int .i64 0) (.string ⟨#[]⟩) (.slice none 0 0)).c4]; rfl) rfl ⟨.slice none 0 0, by rw [E3.out, E1.out], F1, by rw [E2.out]; exact (FH.out h (fun _ hj => .inl hj) (But.refl _ _) (but_5 _ (But.refl _ _) _ _ _ _ _)).1, (FH.out h (fun _ hj => .inl hj) (But.refl _ _) (but_5 _ (But.refl _ _) _ _ _ _ _)).2.1, (FH.out h (fun _ hj => .inl hj) (But.refl _ _) (but_5 _ (But.refl _ _) _ _ _ _ _)).2.2, by rw [E3.out]; exact World.ownsRow_nil _ _ _ _, fun j hj => by cases hj⟩
  | true =>
    have hk : c.what = 1 ∨ c.what = 2 ∨ c.what = 3 ∨ c.what = 4 ∨ c.what = 5 ∨ c.what = 6 ∨ c.what = 7 ∨ c.what = 8 ∨ c.what = 9 := by omega
    clear hw1 hw9
    rcases hk with hk | hk | hk | hk | hk | hk | hk | hk | hk
    · skip
      have eB : pBody c true = err 6 := by unfold pBody; rw [if_pos hk]; rfl
      have E1 : Hid (ev (runF (pBody c true) d1 i) = errN 6) := by show _ = _; rw [eB]; rfl
      have E2 : Hid (runD (pBody c true) d1 i = d1) := by show _ = _; rw [eB]; rfl
      have E3 : Hid (runA (pBody c true) d1 i = an0) := by show _ = _; rw [eB]; rfl
      have K := plNetNo V c i h
      have z1 : (c.what == 1) = true := by rw [hk]; rfl
      have z2 : (c.what == 2) = false := by rw [hk]; rfl
      have z3 : (c.what == 3) = false := by rw [hk]; rfl
      have z4 : (c.what == 4) = false := by rw [hk]; rfl
      have z5 : (c.what == 5) = false := by rw [hk]; rfl
      have z6 : (c.what == 6) = false := by rw [hk]; rfl
      have z7 : (c.what == 7) = false := by rw [hk]; rfl
      have z8 : (c.what == 8) = false := by rw [hk]; rfl
      have z9 : (c.what == 9) = false := by rw [hk]; rfl
      have zn : (c.what != 1) = false := by rw [hk]; rfl
      clear eB hk
      go_wp2_with (go_at_call 141; refine K.mono ?_; clear K; rintro e w5 ⟨rfl, hj5⟩; obtain ⟨F5, h5, hn5⟩ := hj5.ex; have b5 := hj5.bt; have ab5 := ab.but b5 n2; obtain ⟨a0, a1, a2, a3, a4, af0, af1, af2, af3, af4⟩ := id ab5)
      exact bodyPost_ret (v := .tuple #[anV an0 (.slice none 0 0), errN 6]) (by simp [results, Tryz.results81, go_sem, an0, (ab5.all (.int .i64 0) (.int .i64 0) (.int .i64 0) (.string ⟨#[]⟩) (.slice none 0 0)).c0, (ab5.all (.int .i64 0) (.int .i64 0) (.int .i64 0) (.string ⟨#[]⟩) (.slice none 0 0)).c1, (ab5.all (.int .i64 0) (.int .i64 0) (.int .i64 0) (.string ⟨#[]⟩) (.slice none 0 0)).c2, (ab5.all (.int .i64 0) (.int .i64 0) (.int .i64 0) (.string ⟨#[]⟩) (.slice none 0 0)).c3, (ab5.all (.int .i64 0) (.int .i64 0) (.int .i64 0) (.string ⟨#[]⟩) (.slice none 0 0)).c4]; rfl) rfl ⟨.slice none 0 0, by rw [E3.out, E1.out], F5, by rw [E2.out]; exact (FH.out h5 hn5 b5 (but_5 _ (But.refl _ _) _ _ _ _ _)).1, (FH.out h5 hn5 b5 (but_5 _ (But.refl _ _) _ _ _ _ _)).2.1, (FH.out h5 hn5 b5 (but_5 _ (But.refl _ _) _ _ _ _ _)).2.2, by rw [E3.out]; exact World.ownsRow_nil _ _ _ _, fun j hj => by cases hj⟩
    · skip
      obtain ⟨g0, g1, g2, g3, _⟩ := Bur.fault_ok (clF_p hcl (by omega))
      have eB : pBody c true = pAdd c := by unfold pBody; rw [if_neg (by rw [hk]; decide), if_neg (by decide), if_pos hk]
      rw [eB]
      have K := plAdd V c i h ok sm hn (by have := clF_ow hcl (by omega); unfold maxLen; omega) g2 g3 g0 (by omega)
      obtain ⟨E, hE⟩ : ∃ E, Hid (E = ev (runF (pAdd c) d1 i)) := ⟨_, rfl⟩
      have E1 : Hid (ev (runF (pAdd c) d1 i) = E) := hE.out.symm
      have E3 : Hid (runA (pAdd c) d1 i = an0) := runA_add c d1 i
      rw [← hE.out] at K
      have z1 : (c.what == 1) = false := by rw [hk]; rfl
      have z2 : (c.what == 2) = true := by rw [hk]; rfl
      have z3 : (c.what == 3) = false := by rw [hk]; rfl
      have z4 : (c.what == 4) = false := by rw [hk]; rfl
      have z5 : (c.what == 5) = false := by rw [hk]; rfl
      have z6 : (c.what == 6) = false := by rw [hk]; rfl
      have z7 : (c.what == 7) = false := by rw [hk]; rfl
      have z8 : (c.what == 8) = false := by rw [hk]; rfl
      have z9 : (c.what == 9) = false := by rw [hk]; rfl
      have zn : (c.what != 1) = true := by rw [hk]; rfl
      clear eB hk
      go_wp2_with (go_at_call 142; refine K.mono ?_; clear K; rintro e w5 ⟨rfl, hj5⟩; obtain ⟨F5, h5, hn5⟩ := hj5.ex; have b5 := hj5.bt; have ab5 := ab.but b5 n2; obtain ⟨a0, a1, a2, a3, a4, af0, af1, af2, af3, af4⟩ := id ab5)
      exact bodyPost_ret (v := .tuple #[anV an0 (.slice none 0 0), E]) (by simp [results, Tryz.results81, go_sem, an0, (ab5.all (.int .i64 0) (.int .i64 0) (.int .i64 0) (.string ⟨#[]⟩) (.slice none 0 0)).c0, (ab5.all (.int .i64 0) (.int .i64 0) (.int .i64 0) (.string ⟨#[]⟩) (.slice none 0 0)).c1, (ab5.all (.int .i64 0) (.int .i64 0) (.int .i64 0) (.string ⟨#[]⟩) (.slice none 0 0)).c2, (ab5.all (.int .i64 0) (.int .i64 0) (.int .i64 0) (.string ⟨#[]⟩) (.slice none 0 0)).c3, (ab5.all (.int .i64 0) (.int .i64 0) (.int .i64 0) (.string ⟨#[]⟩) (.slice none 0 0)).c4]; rfl) rfl ⟨.slice none 0 0, by rw [E3.out, E1.out], F5, (FH.out h5 hn5 b5 (but_5 _ (But.refl _ _) _ _ _ _ _)).1, (FH.out h5 hn5 b5 (but_5 _ (But.refl _ _) _ _ _ _ _)).2.1, (FH.out h5 hn5 b5 (but_5 _ (But.refl _ _) _ _ _ _ _)).2.2, by rw [E3.out]; exact World.ownsRow_nil _ _ _ _, fun j hj => by cases hj⟩
    · skip
      obtain ⟨g0, g1, g2, g3, _⟩ := Bur.fault_ok (clF_p hcl (by omega))
      have eB : pBody c true = pTake c := by unfold pBody; rw [if_neg (by rw [hk]; decide), if_neg (by decide), if_neg (by rw [hk]; decide), if_pos hk]
      rw [eB]
      have K := plTake V c i h ok sm hn g2 g3 g0 (by omega)
      obtain ⟨E, hE⟩ : ∃ E, Hid (E = ev (runF (pTake c) d1 i)) := ⟨_, rfl⟩
      have E1 : Hid (ev (runF (pTake c) d1 i) = E) := hE.out.symm
      have E3 : Hid (runA (pTake c) d1 i = an0) := runA_take c d1 i
      rw [← hE.out] at K
      have z1 : (c.what == 1) = false := by rw [hk]; rfl
      have z2 : (c.what == 2) = false := by rw [hk]; rfl
      have z3 : (c.what == 3) = true := by rw [hk]; rfl
      have z4 : (c.what == 4) = false := by rw [hk]; rfl
      have z5 : (c.what == 5) = false := by rw [hk]; rfl
      have z6 : (c.what == 6) = false := by rw [hk]; rfl
      have z7 : (c.what == 7) = false := by rw [hk]; rfl
      have z8 : (c.what == 8) = false := by rw [hk]; rfl
      have z9 : (c.what == 9) = false := by rw [hk]; rfl
      have zn : (c.what != 1) = true := by rw [hk]; rfl
      clear eB hk
      go_wp2_with (go_at_call 143; refine K.mono ?_; clear K; rintro e w5 ⟨rfl, hj5⟩; obtain ⟨F5, h5, hn5⟩ := hj5.ex; have b5 := hj5.bt; have ab5 := ab.but b5 n2; obtain ⟨a0, a1, a2, a3, a4, af0, af1, af2, af3, af4⟩ := id ab5)
      exact bodyPost_ret (v := .tuple #[anV an0 (.slice none 0 0), E]) (by simp [results, Tryz.results81, go_sem, an0, (ab5.all (.int .i64 0) (.int .i64 0) (.int .i64 0) (.string ⟨#[]⟩) (.slice none 0 0)).c0, (ab5.all (.int .i64 0) (.int .i64 0) (.int .i64 0) (.string ⟨#[]⟩) (.slice none 0 0)).c1, (ab5.all (.int .i64 0) (.int .i64 0) (.int .i64 0) (.string ⟨#[]⟩) (.slice none 0 0)).c2, (ab5.all (.int .i64 0) (.int .i64 0) (.int .i64 0) (.string ⟨#[]⟩) (.slice none 0 0)).c3, (ab5.all (.int .i64 0) (.int .i64 0) (.int .i64 0) (.string ⟨#[]⟩) (.slice none 0 0)).c4]; rfl) rfl ⟨.slice none 0 0, by rw [E3.out, E1.out], F5, (FH.out h5 hn5 b5 (but_5 _ (But.refl _ _) _ _ _ _ _)).1, (FH.out h5 hn5 b5 (but_5 _ (But.refl _ _) _ _ _ _ _)).2.1, (FH.out h5 hn5 b5 (but_5 _ (But.refl _ _) _ _ _ _ _)).2.2, by rw [E3.out]; exact World.ownsRow_nil _ _ _ _, fun j hj => by cases hj⟩
    · skip
      obtain ⟨_, _, g2, g3, _⟩ := Bur.fault_ok (clF_a hcl (by omega))
      have eB : pBody c true = pPlace c := by unfold pBody; rw [if_neg (by rw [hk]; decide), if_neg (by decide), if_neg (by rw [hk]; decide), if_neg (by rw [hk]; decide), if_pos hk]
      rw [eB]
      have K := plPlace V c i h ok sm hn (by have := clF_ow hcl (by omega); unfold maxLen; omega) g2 g3
      obtain ⟨E, hE⟩ : ∃ E, Hid (E = ev (runF (pPlace c) d1 i)) := ⟨_, rfl⟩
      have E1 : Hid (ev (runF (pPlace c) d1 i) = E) := hE.out.symm
      have E3 : Hid (runA (pPlace c) d1 i = an0) := runA_place c d1 i
      rw [← hE.out] at K
      have z1 : (c.what == 1) = false := by rw [hk]; rfl
      have z2 : (c.what == 2) = false := by rw [hk]; rfl
      have z3 : (c.what == 3) = false := by rw [hk]; rfl
      have z4 : (c.what == 4) = true := by rw [hk]; rfl
      have z5 : (c.what == 5) = false := by rw [hk]; rfl
      have z6 : (c.what == 6) = false := by rw [hk]; rfl
      have z7 : (c.what == 7) = false := by rw [hk]; rfl
      have z8 : (c.what == 8) = false := by rw [hk]; rfl
      have z9 : (c.what == 9) = false := by rw [hk]; rfl
      have zn : (c.what != 1) = true := by rw [hk]; rfl
      clear eB hk
      go_wp2_with (go_at_call 144; refine K.mono ?_; clear K; rintro e w5 ⟨rfl, hj5⟩; obtain ⟨F5, h5, hn5⟩ := hj5.ex; have b5 := hj5.bt; have ab5 := ab.but b5 n2; obtain ⟨a0, a1, a2, a3, a4, af0, af1, af2, af3, af4⟩ := id ab5)
      exact bodyPost_ret (v := .tuple #[anV an0 (.slice none 0 0), E]) (by simp [results, Tryz.results81, go_sem, an0, (ab5.all (.int .i64 0) (.int .i64 0) (.int .i64 0) (.string ⟨#[]⟩) (.slice none 0 0)).c0, (ab5.all (.int .i64 0) (.int .i64 0) (.int .i64 0) (.string ⟨#[]⟩) (.slice none 0 0)).c1, (ab5.all (.int .i64 0) (.int .i64 0) (.int .i64 0) (.string ⟨#[]⟩) (.slice none 0 0)).c2, (ab5.all (.int .i64 0) (.int .i64 0) (.int .i64 0) (.string ⟨#[]⟩) (.slice none 0 0)).c3, (ab5.all (.int .i64 0) (.int .i64 0) (.int .i64 0) (.string ⟨#[]⟩) (.slice none 0 0)).c4]; rfl) rfl ⟨.slice none 0 0, by rw [E3.out, E1.out], F5, (FH.out h5 hn5 b5 (but_5 _ (But.refl _ _) _ _ _ _ _)).1, (FH.out h5 hn5 b5 (but_5 _ (But.refl _ _) _ _ _ _ _)).2.1, (FH.out h5 hn5 b5 (but_5 _ (But.refl _ _) _ _ _ _ _)).2.2, by rw [E3.out]; exact World.ownsRow_nil _ _ _ _, fun j hj => by cases hj⟩
    · skip
      obtain ⟨_, _, g2, g3, _⟩ := Bur.fault_ok (clF_a hcl (by omega))
      have eB : pBody c true = pLeave c := by unfold pBody; rw [if_neg (by rw [hk]; decide), if_neg (by decide), if_neg (by rw [hk]; decide), if_neg (by rw [hk]; decide), if_neg (by rw [hk]; decide), if_pos hk]
      rw [eB]
      have K := plLeave V c i h ok sm hn g2 g3
      obtain ⟨E, hE⟩ : ∃ E, Hid (E = ev (runF (pLeave c) d1 i)) := ⟨_, rfl⟩
      have E1 : Hid (ev (runF (pLeave c) d1 i) = E) := hE.out.symm
      have E3 : Hid (runA (pLeave c) d1 i = an0) := runA_leave c d1 i
      rw [← hE.out] at K
      have z1 : (c.what == 1) = false := by rw [hk]; rfl
      have z2 : (c.what == 2) = false := by rw [hk]; rfl
      have z3 : (c.what == 3) = false := by rw [hk]; rfl
      have z4 : (c.what == 4) = false := by rw [hk]; rfl
      have z5 : (c.what == 5) = true := by rw [hk]; rfl
      have z6 : (c.what == 6) = false := by rw [hk]; rfl
      have z7 : (c.what == 7) = false := by rw [hk]; rfl
      have z8 : (c.what == 8) = false := by rw [hk]; rfl
      have z9 : (c.what == 9) = false := by rw [hk]; rfl
      have zn : (c.what != 1) = true := by rw [hk]; rfl
      clear eB hk
      go_wp2_with (go_at_call 145; refine K.mono ?_; clear K; rintro e w5 ⟨rfl, hj5⟩; obtain ⟨F5, h5, hn5⟩ := hj5.ex; have b5 := hj5.bt; have ab5 := ab.but b5 n2; obtain ⟨a0, a1, a2, a3, a4, af0, af1, af2, af3, af4⟩ := id ab5)
      exact bodyPost_ret (v := .tuple #[anV an0 (.slice none 0 0), E]) (by simp [results, Tryz.results81, go_sem, an0, (ab5.all (.int .i64 0) (.int .i64 0) (.int .i64 0) (.string ⟨#[]⟩) (.slice none 0 0)).c0, (ab5.all (.int .i64 0) (.int .i64 0) (.int .i64 0) (.string ⟨#[]⟩) (.slice none 0 0)).c1, (ab5.all (.int .i64 0) (.int .i64 0) (.int .i64 0) (.string ⟨#[]⟩) (.slice none 0 0)).c2, (ab5.all (.int .i64 0) (.int .i64 0) (.int .i64 0) (.string ⟨#[]⟩) (.slice none 0 0)).c3, (ab5.all (.int .i64 0) (.int .i64 0) (.int .i64 0) (.string ⟨#[]⟩) (.slice none 0 0)).c4]; rfl) rfl ⟨.slice none 0 0, by rw [E3.out, E1.out], F5, (FH.out h5 hn5 b5 (but_5 _ (But.refl _ _) _ _ _ _ _)).1, (FH.out h5 hn5 b5 (but_5 _ (But.refl _ _) _ _ _ _ _)).2.1, (FH.out h5 hn5 b5 (but_5 _ (But.refl _ _) _ _ _ _ _)).2.2, by rw [E3.out]; exact World.ownsRow_nil _ _ _ _, fun j hj => by cases hj⟩
    · skip
      have eB : pBody c true = pNextP c := by unfold pBody; rw [if_neg (by rw [hk]; decide), if_neg (by decide), if_neg (by rw [hk]; decide), if_neg (by rw [hk]; decide), if_neg (by rw [hk]; decide), if_neg (by rw [hk]; decide), if_pos hk]
      rw [eB]
      have K := plNextP V c i h ok sm hn (by have := clF_ow hcl (by omega); unfold maxLen; omega)
      obtain ⟨E, hE⟩ : ∃ E, Hid (E = ev (runF (pNextP c) d1 i)) := ⟨_, rfl⟩
      rw [← hE.out] at K
      have E1 : Hid (ev (runF (pNextP c) d1 i) = E) := hE.out.symm
      obtain ⟨r1, r2, r3⟩ := runA_nextP c d1 i
      have hA : Hid ((runA (pNextP c) d1 i) = ⟨(runA (pNextP c) d1 i).p, 0, ByteArray.empty, []⟩) := by show _ = _; rw [← r1, ← r2, ← r3]
      generalize (runA (pNextP c) d1 i).p = Q at K hA
      have z1 : (c.what == 1) = false := by rw [hk]; rfl
      have z2 : (c.what == 2) = false := by rw [hk]; rfl
      have z3 : (c.what == 3) = false := by rw [hk]; rfl
      have z4 : (c.what == 4) = false := by rw [hk]; rfl
      have z5 : (c.what == 5) = false := by rw [hk]; rfl
      have z6 : (c.what == 6) = true := by rw [hk]; rfl
      have z7 : (c.what == 7) = false := by rw [hk]; rfl
      have z8 : (c.what == 8) = false := by rw [hk]; rfl
      have z9 : (c.what == 9) = false := by rw [hk]; rfl
      have zn : (c.what != 1) = true := by rw [hk]; rfl
      clear eB hk r1 r2 r3
      go_wp2_with (go_at_call 146; refine K.mono ?_; clear K; rintro e w5 ⟨rfl, hj5⟩; obtain ⟨F5, h5, hn5⟩ := hj5.ex; have b5 := hj5.bt; have ab5 := ab.but b5 n2; obtain ⟨a0, a1, a2, a3, a4, af0, af1, af2, af3, af4⟩ := id ab5)
      exact bodyPost_ret (v := .tuple #[anV ⟨Q, 0, ByteArray.empty, []⟩ (.slice none 0 0), E]) (by simp [results, Tryz.results81, go_sem, (((ab5.set0 (.int .i64 Q.1)).set1 (.int .i64 Q.2)).all (.int .i64 Q.1) (.int .i64 Q.2) (.int .i64 0) (.string ⟨#[]⟩) (.slice none 0 0)).c0, (((ab5.set0 (.int .i64 Q.1)).set1 (.int .i64 Q.2)).all (.int .i64 Q.1) (.int .i64 Q.2) (.int .i64 0) (.string ⟨#[]⟩) (.slice none 0 0)).c1, (((ab5.set0 (.int .i64 Q.1)).set1 (.int .i64 Q.2)).all (.int .i64 Q.1) (.int .i64 Q.2) (.int .i64 0) (.string ⟨#[]⟩) (.slice none 0 0)).c2, (((ab5.set0 (.int .i64 Q.1)).set1 (.int .i64 Q.2)).all (.int .i64 Q.1) (.int .i64 Q.2) (.int .i64 0) (.string ⟨#[]⟩) (.slice none 0 0)).c3, (((ab5.set0 (.int .i64 Q.1)).set1 (.int .i64 Q.2)).all (.int .i64 Q.1) (.int .i64 Q.2) (.int .i64 0) (.string ⟨#[]⟩) (.slice none 0 0)).c4]; rfl) rfl ⟨.slice none 0 0, by rw [hA.out, E1.out], F5, (FH.out h5 hn5 b5 (but_5 _ (but_st _ (but_st _ (But.refl _ _) 0 _) 1 _) _ _ _ _ _)).1, (FH.out h5 hn5 b5 (but_5 _ (but_st _ (but_st _ (But.refl _ _) 0 _) 1 _) _ _ _ _ _)).2.1, (FH.out h5 hn5 b5 (but_5 _ (but_st _ (but_st _ (But.refl _ _) 0 _) 1 _) _ _ _ _ _)).2.2, by rw [hA.out]; exact World.ownsRow_nil _ _ _ _, fun j hj => by cases hj⟩
    · skip
      have eB : pBody c true = pNextA c := by unfold pBody; rw [if_neg (by rw [hk]; decide), if_neg (by decide), if_neg (by rw [hk]; decide), if_neg (by rw [hk]; decide), if_neg (by rw [hk]; decide), if_neg (by rw [hk]; decide), if_neg (by rw [hk]; decide), if_pos hk]
      rw [eB]
      have K := plNextA V c i h ok sm hn (by have := clF_ow hcl (by omega); unfold maxLen; omega)
      obtain ⟨E, hE⟩ : ∃ E, Hid (E = ev (runF (pNextA c) d1 i)) := ⟨_, rfl⟩
      rw [← hE.out] at K
      have E1 : Hid (ev (runF (pNextA c) d1 i) = E) := hE.out.symm
      obtain ⟨r1, r2, r3⟩ := runA_nextA c d1 i
      have hA : Hid ((runA (pNextA c) d1 i) = ⟨(0, 0), (runA (pNextA c) d1 i).ad, ByteArray.empty, []⟩) := by show _ = _; rw [← r1, ← r2, ← r3]
      generalize (runA (pNextA c) d1 i).ad = Q at K hA
      have z1 : (c.what == 1) = false := by rw [hk]; rfl
      have z2 : (c.what == 2) = false := by rw [hk]; rfl
      have z3 : (c.what == 3) = false := by rw [hk]; rfl
      have z4 : (c.what == 4) = false := by rw [hk]; rfl
      have z5 : (c.what == 5) = false := by rw [hk]; rfl
      have z6 : (c.what == 6) = false := by rw [hk]; rfl
      have z7 : (c.what == 7) = true := by rw [hk]; rfl
      have z8 : (c.what == 8) = false := by rw [hk]; rfl
      have z9 : (c.what == 9) = false := by rw [hk]; rfl
      have zn : (c.what != 1) = true := by rw [hk]; rfl
      clear eB hk r1 r2 r3
      go_wp2_with (go_at_call 147; refine K.mono ?_; clear K; rintro e w5 ⟨rfl, hj5⟩; obtain ⟨F5, h5, hn5⟩ := hj5.ex; have b5 := hj5.bt; have ab5 := ab.but b5 n2; obtain ⟨a0, a1, a2, a3, a4, af0, af1, af2, af3, af4⟩ := id ab5)
      exact bodyPost_ret (v := .tuple #[anV ⟨(0, 0), Q, ByteArray.empty, []⟩ (.slice none 0 0), E]) (by simp [results, Tryz.results81, go_sem, ((ab5.set2 (.int .i64 Q)).all (.int .i64 0) (.int .i64 0) (.int .i64 Q) (.string ⟨#[]⟩) (.slice none 0 0)).c0, ((ab5.set2 (.int .i64 Q)).all (.int .i64 0) (.int .i64 0) (.int .i64 Q) (.string ⟨#[]⟩) (.slice none 0 0)).c1, ((ab5.set2 (.int .i64 Q)).all (.int .i64 0) (.int .i64 0) (.int .i64 Q) (.string ⟨#[]⟩) (.slice none 0 0)).c2, ((ab5.set2 (.int .i64 Q)).all (.int .i64 0) (.int .i64 0) (.int .i64 Q) (.string ⟨#[]⟩) (.slice none 0 0)).c3, ((ab5.set2 (.int .i64 Q)).all (.int .i64 0) (.int .i64 0) (.int .i64 Q) (.string ⟨#[]⟩) (.slice none 0 0)).c4]; rfl) rfl ⟨.slice none 0 0, by rw [hA.out, E1.out], F5, (FH.out h5 hn5 b5 (but_5 _ (but_st _ (But.refl _ _) 2 _) _ _ _ _ _)).1, (FH.out h5 hn5 b5 (but_5 _ (but_st _ (But.refl _ _) 2 _) _ _ _ _ _)).2.1, (FH.out h5 hn5 b5 (but_5 _ (but_st _ (But.refl _ _) 2 _) _ _ _ _ _)).2.2, by rw [hA.out]; exact World.ownsRow_nil _ _ _ _, fun j hj => by cases hj⟩
    · skip
      have eB : pBody c true = pList c := by unfold pBody; rw [if_neg (by rw [hk]; decide), if_neg (by decide), if_neg (by rw [hk]; decide), if_neg (by rw [hk]; decide), if_neg (by rw [hk]; decide), if_neg (by rw [hk]; decide), if_neg (by rw [hk]; decide), if_neg (by rw [hk]; decide), if_pos hk]
      rw [eB]
      have K := plList V c i h ok sm hn
      obtain ⟨E, hE⟩ : ∃ E, Hid (E = ev (runF (pList c) d1 i)) := ⟨_, rfl⟩
      rw [← hE.out] at K
      have E1 : Hid (ev (runF (pList c) d1 i) = E) := hE.out.symm
      obtain ⟨r1, r2, r3⟩ := runA_list c d1 i
      have hA : Hid ((runA (pList c) d1 i) = ⟨(0, 0), 0, ByteArray.empty, (runA (pList c) d1 i).l⟩) := by show _ = _; rw [← r1, ← r2, ← r3]
      generalize (runA (pList c) d1 i).l = Q at K hA
      have z1 : (c.what == 1) = false := by rw [hk]; rfl
      have z2 : (c.what == 2) = false := by rw [hk]; rfl
      have z3 : (c.what == 3) = false := by rw [hk]; rfl
      have z4 : (c.what == 4) = false := by rw [hk]; rfl
      have z5 : (c.what == 5) = false := by rw [hk]; rfl
      have z6 : (c.what == 6) = false := by rw [hk]; rfl
      have z7 : (c.what == 7) = false := by rw [hk]; rfl
      have z8 : (c.what == 8) = true := by rw [hk]; rfl
      have z9 : (c.what == 9) = false := by rw [hk]; rfl
      have zn : (c.what != 1) = true := by rw [hk]; rfl
      clear eB hk r1 r2 r3
      go_wp2_with (go_at_call 148; refine K.mono ?_; clear K; rintro e w5 ⟨u, rfl, F5, h5, hn5, b5, row5, sep5⟩; have ab5 := ab.but b5 n2; obtain ⟨a0, a1, a2, a3, a4, af0, af1, af2, af3, af4⟩ := id ab5; obtain ⟨pu, cu, rfl⟩ := own_form row5)
      exact bodyPost_ret (v := .tuple #[anV ⟨(0, 0), 0, ByteArray.empty, Q⟩ (.slice pu Q.length cu), E]) (by simp [results, Tryz.results81, go_sem, ((ab5.set4 (.slice pu Q.length cu)).all (.int .i64 0) (.int .i64 0) (.int .i64 0) (.string ⟨#[]⟩) (.slice pu Q.length cu)).c0, ((ab5.set4 (.slice pu Q.length cu)).all (.int .i64 0) (.int .i64 0) (.int .i64 0) (.string ⟨#[]⟩) (.slice pu Q.length cu)).c1, ((ab5.set4 (.slice pu Q.length cu)).all (.int .i64 0) (.int .i64 0) (.int .i64 0) (.string ⟨#[]⟩) (.slice pu Q.length cu)).c2, ((ab5.set4 (.slice pu Q.length cu)).all (.int .i64 0) (.int .i64 0) (.int .i64 0) (.string ⟨#[]⟩) (.slice pu Q.length cu)).c3, ((ab5.set4 (.slice pu Q.length cu)).all (.int .i64 0) (.int .i64 0) (.int .i64 0) (.string ⟨#[]⟩) (.slice pu Q.length cu)).c4]; rfl) rfl ⟨.slice pu Q.length cu, by rw [hA.out, E1.out], F5, (FH.out h5 hn5 b5 (but_5 _ (but_st _ (But.refl _ _) 4 _) _ _ _ _ _)).1, (FH.out h5 hn5 b5 (but_5 _ (but_st _ (But.refl _ _) 4 _) _ _ _ _ _)).2.1, (FH.out h5 hn5 b5 (but_5 _ (but_st _ (But.refl _ _) 4 _) _ _ _ _ _)).2.2, by rw [hA.out]; exact ownMono (by have := hB.size; omega) (row_but row5 (but_5 _ (but_st _ (But.refl _ _) 4 _) _ _ _ _ _) (fun j hj q => by omega)), sep5⟩
    · skip
      obtain ⟨_, _, g2, g3, _⟩ := Bur.fault_ok (clF_a hcl (by omega))
      have eB : pBody c true = pWho c := by unfold pBody; rw [if_neg (by rw [hk]; decide), if_neg (by decide), if_neg (by rw [hk]; decide), if_neg (by rw [hk]; decide), if_neg (by rw [hk]; decide), if_neg (by rw [hk]; decide), if_neg (by rw [hk]; decide), if_neg (by rw [hk]; decide), if_neg (by rw [hk]; decide)]
      rw [eB]
      have K := plWho V c i h ok sm hn g2 g3
      obtain ⟨E, hE⟩ : ∃ E, Hid (E = ev (runF (pWho c) d1 i)) := ⟨_, rfl⟩
      rw [← hE.out] at K
      have E1 : Hid (ev (runF (pWho c) d1 i) = E) := hE.out.symm
      obtain ⟨r1, r2, r3⟩ := runA_who c d1 i
      have hA : Hid ((runA (pWho c) d1 i) = ⟨(0, 0), 0, (runA (pWho c) d1 i).ow, []⟩) := by show _ = _; rw [← r1, ← r2, ← r3]
      generalize (runA (pWho c) d1 i).ow = Q at K hA
      have z1 : (c.what == 1) = false := by rw [hk]; rfl
      have z2 : (c.what == 2) = false := by rw [hk]; rfl
      have z3 : (c.what == 3) = false := by rw [hk]; rfl
      have z4 : (c.what == 4) = false := by rw [hk]; rfl
      have z5 : (c.what == 5) = false := by rw [hk]; rfl
      have z6 : (c.what == 6) = false := by rw [hk]; rfl
      have z7 : (c.what == 7) = false := by rw [hk]; rfl
      have z8 : (c.what == 8) = false := by rw [hk]; rfl
      have z9 : (c.what == 9) = true := by rw [hk]; rfl
      have zn : (c.what != 1) = true := by rw [hk]; rfl
      clear eB hk r1 r2 r3
      go_wp2_with (go_at_call 149; refine K.mono ?_; clear K; rintro e w5 ⟨rfl, hj5⟩; obtain ⟨F5, h5, hn5⟩ := hj5.ex; have b5 := hj5.bt; have ab5 := ab.but b5 n2; obtain ⟨a0, a1, a2, a3, a4, af0, af1, af2, af3, af4⟩ := id ab5)
      exact bodyPost_ret (v := .tuple #[anV ⟨(0, 0), 0, Q, []⟩ (.slice none 0 0), E]) (by simp [results, Tryz.results81, go_sem, ((ab5.set3 (.string Q)).all (.int .i64 0) (.int .i64 0) (.int .i64 0) (.string Q) (.slice none 0 0)).c0, ((ab5.set3 (.string Q)).all (.int .i64 0) (.int .i64 0) (.int .i64 0) (.string Q) (.slice none 0 0)).c1, ((ab5.set3 (.string Q)).all (.int .i64 0) (.int .i64 0) (.int .i64 0) (.string Q) (.slice none 0 0)).c2, ((ab5.set3 (.string Q)).all (.int .i64 0) (.int .i64 0) (.int .i64 0) (.string Q) (.slice none 0 0)).c3, ((ab5.set3 (.string Q)).all (.int .i64 0) (.int .i64 0) (.int .i64 0) (.string Q) (.slice none 0 0)).c4]) rfl ⟨.slice none 0 0, by rw [hA.out, E1.out], F5, (FH.out h5 hn5 b5 (but_5 _ (but_st _ (But.refl _ _) 3 _) _ _ _ _ _)).1, (FH.out h5 hn5 b5 (but_5 _ (but_st _ (But.refl _ _) 3 _) _ _ _ _ _)).2.1, (FH.out h5 hn5 b5 (but_5 _ (but_st _ (But.refl _ _) 3 _) _ _ _ _ _)).2.2, by rw [hA.out]; exact World.ownsRow_nil _ _ _ _, fun j hj => by cases hj⟩
end
end Go.Proofs.YthaggkmammfpbaaGreatDoor.Pa

namespace Go.Proofs.YthaggkmammfpbaaGreatDoor.Pa
open Go.RowKit Go.Maps Vs

section
variable {T : Td} {w : World} {F : Nat → Prop} {B : Nat} {d : Dk}
set_option maxRecDepth 100000 in
set_option maxHeartbeats 8000000 in
theorem plDo1 (V : DFace T) (c : Cl) (i : Int) (h : Ds T w F B d) (ok : OkD d) (sm : Sm d) (hcl : clF c = 0) :
    Calls Tryz.prog 81 #[wkV B c i] w fun e w' => DoPost T F w B (runD (pWork c) d i) (runA (pWork c) d i) (runF (pWork c) d i) e w' := by
  obtain ⟨_, _, hnm⟩ := clF_in hcl
  have hn : c.nm.size ≤ 1000 := by omega
  obtain ⟨W, hW⟩ : ∃ W, W = (w.alloc (.cells (wkA B c i) 169)).alloc (.cells #[.int .i64 0, .int .i64 0, .int .i64 0, .string ⟨#[]⟩, .slice none 0 0] 48) := ⟨_, rfl⟩
  have bW : Below w.heap.size w W := by rw [hW]; exact below_al (below_al (below_self w) _) _
  obtain ⟨bb, hbb⟩ : ∃ bb, bb = w.heap.size := ⟨_, rfl⟩
  have wk : Wk W bb B c i := by rw [hW, hbb]; exact (Wk.new w B c i 169).step (below_al (below_self _) _)
  have ab : Ab W (bb + 1) (.int .i64 0) (.int .i64 0) (.int .i64 0) (.string ⟨#[]⟩) (.slice none 0 0) := by
    have := Ab.new (w.alloc (.cells (wkA B c i) 169)) (.int .i64 0) (.int .i64 0) (.int .i64 0) (.string ⟨#[]⟩) (.slice none 0 0) 48
    rw [World.size_alloc] at this
    rw [hW, hbb]; exact this
  have hW1 := h.step V bW
  have KK := fun W' => plNetKey c.nm W' hn
  rw [show (⟨(Bur.netK c.nm.data.toList).toArray⟩ : ByteArray) = kN c.nm from rfl] at KK
  have KF := fun w3 (b3 : Below W.heap.size W w3) => plFind V c i (kN c.nm) (hW1.step V b3) ok sm (by rw [kN_size]; unfold maxLen; omega)
  have hbx : ¬ F bb := fun q => by have := h.lt _ q; omega
  have hby : ¬ F (bb + 1) := fun q => by have := h.lt _ q; omega
  have rel : ∀ w3 w4, Below W.heap.size W w3 → Dj T F w3 w4 B (dgD d i (kN c.nm)) → Wk w4 bb B c i → ∃ F4, Ds T w4 F4 B (dgD d i (kN c.nm)) ∧ (∀ j, F4 j → Nw F w w4 j) ∧ But F w w4 ∧ Wk w4 bb B c i ∧ Ab w4 (bb + 1) (.int .i64 0) (.int .i64 0) (.int .i64 0) (.string ⟨#[]⟩) (.slice none 0 0) ∧ ¬ F4 (bb + 1) := fun w3 w4 b3 hj4 wk4 => by
    obtain ⟨F4, h4, hn4⟩ := hj4.ex
    have s1 := bW.size
    have s3 := b3.size
    have s4 := hj4.bt.size
    have l1 := ab.lt
    have e1 : But F w w3 := .below (below_via bW b3)
    refine ⟨F4, h4, fun j hj => ?_, e1.trans hj4.bt, wk4, (ab.step b3).but hj4.bt hby, fun q => ?_⟩
    · rcases hn4 j hj with g | g
      · exact .inl g
      · exact .inr ⟨by have := g.1; omega, g.2⟩
    · rcases hn4 _ q with g | g
      · exact hby g
      · have := g.1; omega
  have okg := ok.dg i (kN c.nm)
  have smg := Sm.dg sm ok i (kN c.nm)
  rw [pWork_is]
  rcases find_cases (d := d) i (kN c.nm) with ⟨f1, f2, f3, f4⟩ | ⟨f1, f2, f3, f4⟩ | ⟨f0, f1, f2, f3⟩
  · obtain ⟨a1, a2, a3⟩ := asks_no (d := d) (i := i) (k := kN c.nm) (K := fun _ is => pBody c is) f1
    rw [a1, a2, a3]
    rw [f2, f3, ev_0] at KF
    obtain ⟨SS, hSS⟩ : ∃ SS, Hid (SS = fnS d i (kN c.nm)) := ⟨_, rfl⟩
    rw [← hSS.out] at KF
    have REL : Hid _ := rel
    clear rel a1 a2 a3 f1 f2 f3 f4 hW1
    go_enter Tryz.func81, Tryz.ntmps81
    go_upto_region 1 with fail
    rw [← hW]
    rw [← hbb]
    have HBB : Hid (bb = w.heap.size) := hbb
    clear hW bW hbb
    go_cut [3, 4, 5] from 6 to 15 (fun s3 s4 s5 wy => ∃ F4, s3 = .nilIface ∧ s4 = .string SS ∧ s5 = .bool false ∧ Ds T wy F4 B (dgD d i (kN c.nm)) ∧ (∀ j, F4 j → Nw F w wy j) ∧ But F w wy ∧ Wk wy bb B c i ∧ Ab wy (bb + 1) (.int .i64 0) (.int .i64 0) (.int .i64 0) (.string ⟨#[]⟩) (.slice none 0 0) ∧ ¬ F4 (bb + 1))
    case first =>
      obtain ⟨k0, k1, k2, k3, k4, k5, k6, k7, k8⟩ := id wk
      go_region_held3 (fun wy => wy.cell? ⟨bb, 0, none⟩ = some (.pointer (some ⟨B, 0, none⟩)) ∧ wy.cell? ⟨bb, 1, none⟩ = some (.int .i64 c.what) ∧ wy.cell? ⟨bb, 2, none⟩ = some (.string c.nm) ∧ wy.cell? ⟨bb, 3, none⟩ = some (.int .i64 c.p.1) ∧ wy.cell? ⟨bb, 4, none⟩ = some (.int .i64 c.p.2) ∧ wy.cell? ⟨bb, 5, none⟩ = some (.int .i64 c.len) ∧ wy.cell? ⟨bb, 6, none⟩ = some (.int .i64 c.ad) ∧ wy.cell? ⟨bb, 7, none⟩ = some (.string c.ow) ∧ wy.cell? ⟨bb, 8, none⟩ = some (.int .i64 i))
        (first | exact ⟨wk4.c0, wk4.c1, wk4.c2, wk4.c3, wk4.c4, wk4.c5, wk4.c6, wk4.c7, wk4.c8⟩ | exact ⟨wk3.c0, wk3.c1, wk3.c2, wk3.c3, wk3.c4, wk3.c5, wk3.c6, wk3.c7, wk3.c8⟩ | exact ⟨k0, k1, k2, k3, k4, k5, k6, k7, k8⟩)
        (first
          | (go_at_call 99; refine (KK _).mono ?_; clear KK; rintro e w3 ⟨rfl, hw3⟩; have wk3 : Wk w3 bb B c i := (by rw [hw3]; exact wk.step (below_self W).drew); have b3 : Below W.heap.size W w3 := (by rw [hw3]; exact (below_self W).drew); have KF1 := KF w3 b3; clear hw3)
          | (go_at_call 140; refine KF1.mono ?_; clear KF1; rintro e w4 ⟨rfl, hj4⟩; have wk4 : Wk w4 bb B c i := wk3.but hj4.bt hbx))
      all_goals (
        go_wp2_with fail
        go_meet)
      case rel =>
        obtain ⟨F4, hh⟩ := REL.out w3 w4 b3 hj4 wk4
        exact ⟨F4, rfl, rfl, rfl, hh⟩
    case rest =>
      obtain ⟨F4, rfl, rfl, rfl, h4, hN4, hB4, wk4, ab4, n4⟩ := hcut
      obtain rfl := HBB.out
      refine ‹∀ (a : Act) (w : World), Code.wp _ _ _ a w → _› _ _ ?_
      exact plDo2 V c i false h.en h4 okg smg hcl wk4 ab4 n4 hN4 hB4
  · obtain ⟨a1, a2, a3⟩ := asks_yes (d := d) (i := i) (k := kN c.nm) (K := fun _ is => pBody c is) f1
    rw [a1, a2, a3]
    rw [f2, f3, ev_0] at KF
    obtain ⟨SS, hSS⟩ : ∃ SS, Hid (SS = fnS d i (kN c.nm)) := ⟨_, rfl⟩
    rw [← hSS.out] at KF
    have REL : Hid _ := rel
    clear rel a1 a2 a3 f1 f2 f3 f4 hW1
    go_enter Tryz.func81, Tryz.ntmps81
    go_upto_region 1 with fail
    rw [← hW]
    rw [← hbb]
    have HBB : Hid (bb = w.heap.size) := hbb
    clear hW bW hbb
    go_cut [3, 4, 5] from 6 to 15 (fun s3 s4 s5 wy => ∃ F4, s3 = .nilIface ∧ s4 = .string SS ∧ s5 = .bool true ∧ Ds T wy F4 B (dgD d i (kN c.nm)) ∧ (∀ j, F4 j → Nw F w wy j) ∧ But F w wy ∧ Wk wy bb B c i ∧ Ab wy (bb + 1) (.int .i64 0) (.int .i64 0) (.int .i64 0) (.string ⟨#[]⟩) (.slice none 0 0) ∧ ¬ F4 (bb + 1))
    case first =>
      obtain ⟨k0, k1, k2, k3, k4, k5, k6, k7, k8⟩ := id wk
      go_region_held3 (fun wy => wy.cell? ⟨bb, 0, none⟩ = some (.pointer (some ⟨B, 0, none⟩)) ∧ wy.cell? ⟨bb, 1, none⟩ = some (.int .i64 c.what) ∧ wy.cell? ⟨bb, 2, none⟩ = some (.string c.nm) ∧ wy.cell? ⟨bb, 3, none⟩ = some (.int .i64 c.p.1) ∧ wy.cell? ⟨bb, 4, none⟩ = some (.int .i64 c.p.2) ∧ wy.cell? ⟨bb, 5, none⟩ = some (.int .i64 c.len) ∧ wy.cell? ⟨bb, 6, none⟩ = some (.int .i64 c.ad) ∧ wy.cell? ⟨bb, 7, none⟩ = some (.string c.ow) ∧ wy.cell? ⟨bb, 8, none⟩ = some (.int .i64 i))
        (first | exact ⟨wk4.c0, wk4.c1, wk4.c2, wk4.c3, wk4.c4, wk4.c5, wk4.c6, wk4.c7, wk4.c8⟩ | exact ⟨wk3.c0, wk3.c1, wk3.c2, wk3.c3, wk3.c4, wk3.c5, wk3.c6, wk3.c7, wk3.c8⟩ | exact ⟨k0, k1, k2, k3, k4, k5, k6, k7, k8⟩)
        (first
          | (go_at_call 99; refine (KK _).mono ?_; clear KK; rintro e w3 ⟨rfl, hw3⟩; have wk3 : Wk w3 bb B c i := (by rw [hw3]; exact wk.step (below_self W).drew); have b3 : Below W.heap.size W w3 := (by rw [hw3]; exact (below_self W).drew); have KF1 := KF w3 b3; clear hw3)
          | (go_at_call 140; refine KF1.mono ?_; clear KF1; rintro e w4 ⟨rfl, hj4⟩; have wk4 : Wk w4 bb B c i := wk3.but hj4.bt hbx))
      all_goals (
        go_wp2_with fail
        go_meet)
      case rel =>
        obtain ⟨F4, hh⟩ := REL.out w3 w4 b3 hj4 wk4
        exact ⟨F4, rfl, rfl, rfl, hh⟩
    case rest =>
      obtain ⟨F4, rfl, rfl, rfl, h4, hN4, hB4, wk4, ab4, n4⟩ := hcut
      obtain rfl := HBB.out
      refine ‹∀ (a : Act) (w : World), Code.wp _ _ _ a w → _› _ _ ?_
      exact plDo2 V c i true h.en h4 okg smg hcl wk4 ab4 n4 hN4 hB4
  · obtain ⟨a1, a2, a3⟩ := asks_err (d := d) (i := i) (k := kN c.nm) (K := fun _ is => pBody c is) f0 f1
    rw [a1, a2, a3]
    rw [f2, f3, ev_ne f1] at KF
    have hEv : Hid (ev (dgF d i (kN c.nm)) = errN (dgF d i (kN c.nm))) := ev_ne f1
    obtain ⟨SS, hSS⟩ : ∃ SS, Hid (SS = fnS d i (kN c.nm)) := ⟨_, rfl⟩
    rw [← hSS.out] at KF
    have REL : Hid _ := rel
    clear rel a1 a2 a3 f0 f1 f2 f3 hW1
    go_enter Tryz.func81, Tryz.ntmps81
    go_upto_region 1 with fail
    rw [← hW]
    rw [← hbb]
    have HBB : Hid (bb = w.heap.size) := hbb
    clear hW bW hbb
    go_cut [3, 4, 5] from 6 to 15 (fun s3 s4 s5 wy => ∃ F4, s3 = errN (dgF d i (kN c.nm)) ∧ s4 = .string SS ∧ s5 = .bool false ∧ Ds T wy F4 B (dgD d i (kN c.nm)) ∧ (∀ j, F4 j → Nw F w wy j) ∧ But F w wy ∧ Wk wy bb B c i ∧ Ab wy (bb + 1) (.int .i64 0) (.int .i64 0) (.int .i64 0) (.string ⟨#[]⟩) (.slice none 0 0) ∧ ¬ F4 (bb + 1))
    case first =>
      obtain ⟨k0, k1, k2, k3, k4, k5, k6, k7, k8⟩ := id wk
      go_region_held3 (fun wy => wy.cell? ⟨bb, 0, none⟩ = some (.pointer (some ⟨B, 0, none⟩)) ∧ wy.cell? ⟨bb, 1, none⟩ = some (.int .i64 c.what) ∧ wy.cell? ⟨bb, 2, none⟩ = some (.string c.nm) ∧ wy.cell? ⟨bb, 3, none⟩ = some (.int .i64 c.p.1) ∧ wy.cell? ⟨bb, 4, none⟩ = some (.int .i64 c.p.2) ∧ wy.cell? ⟨bb, 5, none⟩ = some (.int .i64 c.len) ∧ wy.cell? ⟨bb, 6, none⟩ = some (.int .i64 c.ad) ∧ wy.cell? ⟨bb, 7, none⟩ = some (.string c.ow) ∧ wy.cell? ⟨bb, 8, none⟩ = some (.int .i64 i))
        (first | exact ⟨wk4.c0, wk4.c1, wk4.c2, wk4.c3, wk4.c4, wk4.c5, wk4.c6, wk4.c7, wk4.c8⟩ | exact ⟨wk3.c0, wk3.c1, wk3.c2, wk3.c3, wk3.c4, wk3.c5, wk3.c6, wk3.c7, wk3.c8⟩ | exact ⟨k0, k1, k2, k3, k4, k5, k6, k7, k8⟩)
        (first
          | (go_at_call 99; refine (KK _).mono ?_; clear KK; rintro e w3 ⟨rfl, hw3⟩; have wk3 : Wk w3 bb B c i := (by rw [hw3]; exact wk.step (below_self W).drew); have b3 : Below W.heap.size W w3 := (by rw [hw3]; exact (below_self W).drew); have KF1 := KF w3 b3; clear hw3)
          | (go_at_call 140; refine KF1.mono ?_; clear KF1; rintro e w4 ⟨rfl, hj4⟩; have wk4 : Wk w4 bb B c i := wk3.but hj4.bt hbx))
      all_goals (
        go_wp2_with fail
        go_meet)
      case rel =>
        obtain ⟨F4, hh⟩ := REL.out w3 w4 b3 hj4 wk4
        exact ⟨F4, rfl, rfl, rfl, hh⟩
    case rest =>
      obtain ⟨F4, rfl, rfl, rfl, h4, hN4, hB4, wk4, ab4, n4⟩ := hcut
      have hbb := HBB.out
      obtain ⟨a0, a1, a2, a3, a4, af0, af1, af2, af3, af4⟩ := id ab4
      have FIN := fun {wf : World} (hb : But (fun j => j = bb + 1) wc wf) => do_fin (F := F) (F1 := F4) (w := w) (wx := wc) (ab := bb + 1) V h.en hB4 hN4 h4 (fun _ hj => .inl hj) (But.refl _ _) (by omega) ab4.lt n4 hb
      have FH : Hid _ := @FIN
      clear FIN hbb
      go_wp2_with fail
      exact bodyPost_ret (v := .tuple #[anV an0 (.slice none 0 0), errN (dgF d i (kN c.nm))]) (by simp [results, Tryz.results81, go_sem, an0, (ab4.all (.int .i64 0) (.int .i64 0) (.int .i64 0) (.string ⟨#[]⟩) (.slice none 0 0)).c0, (ab4.all (.int .i64 0) (.int .i64 0) (.int .i64 0) (.string ⟨#[]⟩) (.slice none 0 0)).c1, (ab4.all (.int .i64 0) (.int .i64 0) (.int .i64 0) (.string ⟨#[]⟩) (.slice none 0 0)).c2, (ab4.all (.int .i64 0) (.int .i64 0) (.int .i64 0) (.string ⟨#[]⟩) (.slice none 0 0)).c3, (ab4.all (.int .i64 0) (.int .i64 0) (.int .i64 0) (.string ⟨#[]⟩) (.slice none 0 0)).c4]; rfl) rfl ⟨.slice none 0 0, by rw [hEv.out], F4, (FH.out (but_5 _ (But.refl _ _) _ _ _ _ _)).1, (FH.out (but_5 _ (But.refl _ _) _ _ _ _ _)).2.1, (FH.out (but_5 _ (But.refl _ _) _ _ _ _ _)).2.2, World.ownsRow_nil _ _ _ _, fun j hj => by cases hj⟩
set_option maxRecDepth 100000 in
set_option maxHeartbeats 8000000 in
theorem plDo (V : DFace T) (c : Cl) (i : Int) (h : Ds T w F B d) (ok : OkD d) (sm : Sm d) :
    Calls Tryz.prog 19 #[.pointer (some ⟨B, 0, none⟩), .int .i64 i, clV c] w fun e w' => DoPost T F w B (runD (doP c) d i) (runA (doP c) d i) (runF (doP c) d i) e w' := by
  obtain ⟨W, hW⟩ : ∃ W, W = (w.alloc (.cells (clA c) 33)).alloc (.cells #[.int .i64 0, .int .i64 0, .int .i64 0, .string ⟨#[]⟩, .slice none 0 0] 48) := ⟨_, rfl⟩
  have bW : Below w.heap.size w W := by rw [hW]; exact below_al (below_al (below_self w) _) _
  obtain ⟨bb, hbb⟩ : ∃ bb, bb = w.heap.size := ⟨_, rfl⟩
  have q : ∀ j u, (clA c)[j]? = some u → W.cell? ⟨bb, j, none⟩ = some u := fun j u hj => by
    rw [hW, hbb]
    exact ((below_al (below_self (w.alloc (.cells (clA c) 33))) _).cell (p := ⟨w.heap.size, j, none⟩) (by simp)).trans (by simpa using hj)
  have q0 := q 0 _ rfl
  have q1 := q 1 _ rfl
  have q2 := q 2 _ rfl
  have q3 := q 3 _ rfl
  have q4 := q 4 _ rfl
  have q5 := q 5 _ rfl
  have q6 := q 6 _ rfl
  clear q
  have ab : Ab W (bb + 1) (.int .i64 0) (.int .i64 0) (.int .i64 0) (.string ⟨#[]⟩) (.slice none 0 0) := by
    have := Ab.new (w.alloc (.cells (clA c) 33)) (.int .i64 0) (.int .i64 0) (.int .i64 0) (.string ⟨#[]⟩) (.slice none 0 0) 48
    rw [World.size_alloc] at this
    rw [hW, hbb]; exact this
  have hW1 := h.step V bW
  have KC := plCheck c W
  have hby : ¬ F (bb + 1) := fun q => by have := h.lt _ q; omega
  have l1 := ab.lt
  have FIN := fun {w1 w5 wf : World} {F5 : Nat → Prop} {d' : Dk} (b1 : Below W.heap.size W w1) (h5 : Ds T w5 F5 B d') (hn5 : ∀ j, F5 j → Nw F w1 w5 j) (b5 : But F w1 w5) (hb : But (fun j => j = bb + 1) w5 wf) => do_fin (F := F) (F1 := F) (w := w) (wx := w1) (ab := bb + 1) V h.en (.below (below_via bW b1)) (fun _ hj => .inl hj) h5 hn5 b5 (by omega) (Nat.lt_of_lt_of_le l1 b1.size) hby hb
  have FH : Hid _ := @FIN
  have HS : Hid (w.heap.size ≤ W.heap.size ∧ bb + 1 < W.heap.size) := ⟨bW.size, l1⟩
  clear FIN
  by_cases hcl : clF c = 0
  · have K1 := fun w1 (b1 : Below W.heap.size W w1) => plDo1 V c i (hW1.step V b1) ok sm hcl
    rw [show doP c = pWork c from if_pos hcl]
    rw [hcl, ev_0] at KC
    obtain ⟨E, hE⟩ : ∃ E, Hid (E = ev (runF (pWork c) d i)) := ⟨_, rfl⟩
    generalize runA (pWork c) d i = a at K1 ⊢
    generalize runD (pWork c) d i = d' at K1 ⊢
    unfold DoPost at K1 ⊢
    rw [← hE.out] at K1 ⊢
    clear hcl hW1 hby l1 bW
    go_enter Tryz.func19, Tryz.ntmps19
    go_wp2_with (first
      | (go_at_call 80; rw [← hW]; refine KC.mono ?_; clear KC; rintro e w1 ⟨rfl, b1⟩; have K2 := K1 w1 b1; have ab1 := ab.step b1; have m0 := (b1.cell (World.block_lt_of_cell? _ _ q0)).trans q0; have m1 := (b1.cell (World.block_lt_of_cell? _ _ q1)).trans q1; have m2 := (b1.cell (World.block_lt_of_cell? _ _ q2)).trans q2; have m3 := (b1.cell (World.block_lt_of_cell? _ _ q3)).trans q3; have m4 := (b1.cell (World.block_lt_of_cell? _ _ q4)).trans q4; have m5 := (b1.cell (World.block_lt_of_cell? _ _ q5)).trans q5; have m6 := (b1.cell (World.block_lt_of_cell? _ _ q6)).trans q6; rw [hbb] at m0 m1 m2 m3 m4 m5 m6)
      | (go_at_call 81; refine K2.mono ?_; clear K2; rintro e w2 ⟨u, rfl, F5, h5, hn5, b5, row5, sep5⟩; obtain ⟨pu, cu, rfl⟩ := own_form row5; have ab5 := ab1.but b5 (fun q => by have := h.lt _ q; omega); obtain ⟨a0, a1, a2, a3, a4, af0, af1, af2, af3, af4⟩ := id ab5; rw [hbb] at a0 a1 a2 a3 a4 af0 af1 af2 af3 af4))
    subst hbb
    exact bodyPost_ret (v := .tuple #[anV a (.slice pu a.l.length cu), E]) (by simp [results, Tryz.results19, go_sem, (ab5.all (.int .i64 a.p.1) (.int .i64 a.p.2) (.int .i64 a.ad) (.string a.ow) (.slice pu a.l.length cu)).c0, (ab5.all (.int .i64 a.p.1) (.int .i64 a.p.2) (.int .i64 a.ad) (.string a.ow) (.slice pu a.l.length cu)).c1, (ab5.all (.int .i64 a.p.1) (.int .i64 a.p.2) (.int .i64 a.ad) (.string a.ow) (.slice pu a.l.length cu)).c2, (ab5.all (.int .i64 a.p.1) (.int .i64 a.p.2) (.int .i64 a.ad) (.string a.ow) (.slice pu a.l.length cu)).c3, (ab5.all (.int .i64 a.p.1) (.int .i64 a.p.2) (.int .i64 a.ad) (.string a.ow) (.slice pu a.l.length cu)).c4]) rfl ⟨.slice pu a.l.length cu, rfl, F5, (FH.out b1 h5 hn5 b5 (but_5 _ (But.refl _ _) _ _ _ _ _)).1, (FH.out b1 h5 hn5 b5 (but_5 _ (But.refl _ _) _ _ _ _ _)).2.1, (FH.out b1 h5 hn5 b5 (but_5 _ (But.refl _ _) _ _ _ _ _)).2.2, ownMono (by have := b1.size; have := HS.out.1; omega) (row_but row5 (but_5 _ (But.refl _ _) _ _ _ _ _) (fun j hj q => by have := b1.size; have := HS.out.2; omega)), sep5⟩
  · have eP : doP c = err (clF c) := if_neg hcl
    rw [eP]
    have E1 : Hid (ev (runF (err (clF c)) d i) = errN (clF c)) := ev_ne hcl
    rw [ev_ne hcl] at KC
    generalize hG : clF c = G at KC E1
    clear hG eP hcl l1 bW
    go_enter Tryz.func19, Tryz.ntmps19
    go_wp2_with (go_at_call 80; rw [← hW]; refine KC.mono ?_; clear KC; rintro e w1 ⟨rfl, b1⟩; have ab1 := ab.step b1; obtain ⟨a0, a1, a2, a3, a4, af0, af1, af2, af3, af4⟩ := id ab1; rw [hbb] at a0 a1 a2 a3 a4 af0 af1 af2 af3 af4; have h1 := hW1.step V b1)
    subst hbb
    exact bodyPost_ret (v := .tuple #[anV an0 (.slice none 0 0), errN G]) (by simp [results, Tryz.results19, go_sem, an0, (ab1.all (.int .i64 0) (.int .i64 0) (.int .i64 0) (.string ⟨#[]⟩) (.slice none 0 0)).c0, (ab1.all (.int .i64 0) (.int .i64 0) (.int .i64 0) (.string ⟨#[]⟩) (.slice none 0 0)).c1, (ab1.all (.int .i64 0) (.int .i64 0) (.int .i64 0) (.string ⟨#[]⟩) (.slice none 0 0)).c2, (ab1.all (.int .i64 0) (.int .i64 0) (.int .i64 0) (.string ⟨#[]⟩) (.slice none 0 0)).c3, (ab1.all (.int .i64 0) (.int .i64 0) (.int .i64 0) (.string ⟨#[]⟩) (.slice none 0 0)).c4]; rfl) rfl ⟨.slice none 0 0, by rw [E1.out]; rfl, F, (FH.out b1 h1 (fun _ hj => .inl hj) (But.refl _ _) (but_5 _ (But.refl _ _) _ _ _ _ _)).1, (FH.out b1 h1 (fun _ hj => .inl hj) (But.refl _ _) (but_5 _ (But.refl _ _) _ _ _ _ _)).2.1, (FH.out b1 h1 (fun _ hj => .inl hj) (But.refl _ _) (but_5 _ (But.refl _ _) _ _ _ _ _)).2.2, World.ownsRow_nil _ _ _ _, fun j hj => by cases hj⟩
end
end Go.Proofs.YthaggkmammfpbaaGreatDoor.Pa

namespace Go.Proofs.YthaggkmammfpbaaGreatDoor.Pa
open Go.RowKit Vs

def Nc : Pg → Prop
  | .ret _ _ => True
  | _ => False
def Gd : Pg → Prop
  | .ret _ _ => True
  | .get _ K => ∀ v f, Gd (K v f)
  | .rng lo _ K => lo.size ≤ 1000000 ∧ ∀ l f, Gd (K l f)
  | .chg c K => okc c ∧ ∀ f, Nc (K f)
theorem nc_run {g : Pg} (h : Nc g) (d : Dk) (i : Int) : runD g d i = d := by
  cases g with
  | ret a f => rfl
  | get k K => exact h.elim
  | rng lo hi K => exact h.elim
  | chg c K => exact h.elim
theorem spz_set {d : Dk} (h : Spz d) {o' : Ox} (ho : ∀ s ∈ o'.spans, s.1.size < 9223372036854775807) : Spz (opSet d o') := fun q hq => by
  obtain ⟨y, hy, rfl⟩ := List.mem_map.1 hq
  split
  · exact ho
  · exact h y hy
theorem spz_dg {d : Dk} (h : Spz d) (i : Int) (k : ByteArray) : Spz (dgD d i k) := by
  unfold dgD
  cases e : opI d i with
  | none => exact h
  | some o =>
    simp only
    split
    · split
      · exact h
      · exact spz_set h (h o (opI_some e).1)
    · exact h
theorem spz_dr {d : Dk} (h : Spz d) (i : Int) (lo hi : ByteArray) (hl : lo.size ≤ 1000000) : Spz (drD d i lo hi) := by
  unfold drD
  cases e : opI d i with
  | none => exact h
  | some o =>
    simp only
    split
    · exact h
    · refine spz_set h (fun s hs => ?_)
      rcases List.mem_append.1 hs with g | g
      · exact h o (opI_some e).1 s g
      · rw [List.mem_singleton.1 g]; show lo.size < _; omega
theorem spz_dc {d : Dk} (h : Spz d) (i : Int) (c : Chg) : Spz (dcD d i c) := by
  unfold dcD
  cases e : opI d i with
  | none => exact h
  | some o =>
    simp only
    split
    · split
      · exact h
      · exact spz_set h (h o (opI_some e).1)
    · exact h
theorem run_good : ∀ (g : Pg) (d : Dk) (i : Int), Gd g → OkD d → Spz d → OkD (runD g d i) ∧ wt (runD g d i) ≤ wt d + 1 ∧ (runD g d i).ids = d.ids ∧ Spz (runD g d i)
  | .ret _ _, d, _, _, ok, sz => ⟨ok, Nat.le_succ _, rfl, sz⟩
  | .get k K, d, i, h, ok, sz => by
    obtain ⟨a1, a2, a3, a4⟩ := run_good (K (dgS d i k) (dgF d i k)) (dgD d i k) i (h _ _) (ok.dg i k) (spz_dg sz i k)
    rw [(wt_dg ok i k).1] at a2
    rw [(wt_dg ok i k).2] at a3
    exact ⟨a1, a2, a3, a4⟩
  | .rng lo hi K, d, i, h, ok, sz => by
    obtain ⟨a1, a2, a3, a4⟩ := run_good (K (drS d i lo hi) (drF d i)) (drD d i lo hi) i (h.2 _ _) (ok.dr i lo hi) (spz_dr sz i lo hi h.1)
    rw [(wt_dr ok i lo hi).1] at a2
    rw [(wt_dr ok i lo hi).2] at a3
    exact ⟨a1, a2, a3, a4⟩
  | .chg c K, d, i, h, ok, sz => by
    show OkD (runD (K (dcF d i c)) (dcD d i c) i) ∧ _
    have e : runD (.chg c K) d i = dcD d i c := nc_run (h.2 _) _ _
    have e' : runD (K (dcF d i c)) (dcD d i c) i = dcD d i c := nc_run (h.2 _) _ _
    rw [e, e']
    exact ⟨ok.dc i h.1, (wt_dc ok i c).1, (wt_dc ok i c).2.1, spz_dc sz i c⟩
theorem gd_err (f : Int) : Gd (err f) := trivial
theorem gd_asks {k : ByteArray} {K : ByteArray → Bool → Pg} (h : ∀ v b, Gd (K v b)) : Gd (asks k K) := fun v f => by
  show Gd (if f = 4 then K ByteArray.empty false else if f = 0 then K v true else err f)
  by_cases h4 : f = 4
  · rw [if_pos h4]; exact h _ _
  · rw [if_neg h4]
    by_cases h5 : f = 0
    · rw [if_pos h5]; exact h _ _
    · rw [if_neg h5]; exact gd_err _
theorem loK_size (c : UInt8) (n : ByteArray) : (loK c n).size = n.size + 3 := by
  unfold loK
  rw [txt_size]
  have : n.data.toList.length = n.size := Array.length_toList
  simp
theorem gd_allL {n : ByteArray} {K : List Lot → Pg} (hn : n.size ≤ 1000) (h : ∀ l, Gd (K l)) : Gd (allL n K) := ⟨by rw [loK_size]; omega, fun l f => by
  show Gd (if f = 0 then K (lots l) else err f)
  by_cases h5 : f = 0
  · rw [if_pos h5]; exact h _
  · rw [if_neg h5]; exact gd_err _⟩
theorem gd_allA {n : ByteArray} {K : List Int → Pg} (hn : n.size ≤ 1000) (h : ∀ l, Gd (K l)) : Gd (allA n K) := ⟨by rw [loK_size]; omega, fun l f => by
  show Gd (if f = 0 then K (plcd l) else err f)
  by_cases h5 : f = 0
  · rw [if_pos h5]; exact h _
  · rw [if_neg h5]; exact gd_err _⟩
theorem gd_puts {k v : ByteArray} {a : An} : Gd (puts k v a) := ⟨fun h => (by cases h), fun f => by
  show Nc (if f = 0 then .ret a 0 else err f)
  split <;> trivial⟩
theorem gd_drops {k : ByteArray} : Gd (drops k) := ⟨fun _ => rfl, fun _ => trivial⟩
theorem gd_allW {c : Cl} {K : List Lot → Pg} (hn : c.nm.size ≤ 1000) (h : ∀ l, Gd (K l)) : Gd (allW c K) := gd_allL hn (fun l => by
  by_cases h5 : c.p ∈ l.map Prod.fst
  · rw [if_pos h5]; exact h _
  · rw [if_neg h5]; exact gd_err _)
theorem gd_do (c : Cl) : Gd (doP c) := by
  unfold doP
  by_cases hcl : clF c = 0
  · rw [if_pos hcl, pWork_is]
    have hn : c.nm.size ≤ 1000 := by have := (clF_in hcl).2.2; omega
    refine gd_asks (fun _ b => ?_)
    unfold pBody
    split
    · cases b
      · exact gd_puts
      · exact gd_err _
    · split
      · exact gd_err _
      · split
        · refine gd_asks (fun _ b => ?_)
          cases b
          · exact gd_puts
          · exact gd_err _
        · split
          · refine gd_asks (fun _ b => ?_)
            cases b
            · exact gd_err _
            · rw [if_pos rfl]
              refine gd_allL hn (fun l => gd_allA hn (fun u => ?_))
              split
              · exact gd_err _
              · exact gd_drops
          · split
            · refine gd_allL hn (fun l => gd_asks (fun _ b => ?_))
              split
              · exact gd_err _
              · cases b
                · exact gd_puts
                · exact gd_err _
            · split
              · refine gd_asks (fun _ b => ?_)
                cases b
                · exact gd_err _
                · exact gd_drops
              · split
                · refine gd_allW hn (fun l => ?_)
                  split
                  · split
                    · exact gd_err _
                    · exact gd_puts
                  · exact gd_err _
                · split
                  · refine gd_allW hn (fun l => gd_allA hn (fun u => ?_))
                    split
                    · exact gd_puts
                    · exact gd_err _
                  · split
                    · exact gd_allL hn (fun l => trivial)
                    · refine gd_asks (fun v b => ?_)
                      cases b
                      · rw [if_neg (by decide)]
                        refine gd_allL hn (fun l => ?_)
                        cases (hav l c.ad).getLast? with
                        | none => exact gd_err _
                        | some o => trivial
                      · trivial
  · rw [if_neg hcl]; exact gd_err _
def onX (d : Dk) (c : Cl) : Dk := runD (doP c) (bgD d) (bgN d)
def onG (d : Dk) (c : Cl) : Int := runF (doP c) (bgD d) (bgN d)
def onF (d : Dk) (c : Cl) : Int := if bgF d = 0 then (if onG d c = 0 then cmF (onX d c) (bgN d) else onG d c) else bgF d
def onD (d : Dk) (c : Cl) : Dk := if bgF d = 0 then (if onG d c = 0 then cmD (onX d c) (bgN d) else opDel (onX d c) (bgN d)) else bgD d
def onN (d : Dk) (c : Cl) : Int := if onF d c = 0 then cmN (onX d c) (bgN d) else 0
def onA (d : Dk) (c : Cl) : An := if onF d c = 0 then runA (doP c) (bgD d) (bgN d) else an0
theorem bg_sm {d : Dk} (h1 : wt d ≤ 800) (h2 : d.ids ≤ 99000) : Sm (bgD d) := ⟨by rw [(wt_bg d).1]; omega, by have := (wt_bg d).2.1; omega⟩
theorem spz_bg {d : Dk} (h : Spz d) : Spz (bgD d) := fun o ho => by
  unfold bgD at ho
  split at ho
  · rcases List.mem_append.1 ho with g | g
    · exact h o g
    · rw [List.mem_singleton.1 g]; exact fun s hs => by simp at hs
  · exact h o ho
theorem on_good {d : Dk} (c : Cl) (ok : OkD d) (sz : Spz d) : OkD (onX d c) ∧ wt (onX d c) ≤ wt d + 1 ∧ (onX d c).ids ≤ d.ids + 1 ∧ Spz (onX d c) := by
  obtain ⟨a1, a2, a3, a4⟩ := run_good (doP c) (bgD d) (bgN d) (gd_do c) ok.bg (spz_bg sz)
  rw [(wt_bg d).1] at a2
  have := (wt_bg d).2.1
  exact ⟨a1, a2, by unfold onX; omega, a4⟩
end Go.Proofs.YthaggkmammfpbaaGreatDoor.Pa

namespace Go.Proofs.YthaggkmammfpbaaGreatDoor.Pa
open Go.RowKit Go.Maps Vs

structure Hh (w : World) (H B M : Nat) : Prop where
  c0 : w.cell? ⟨H, 0, none⟩ = some (.pointer (some ⟨B, 0, none⟩))
  c1 : w.cell? ⟨H, 1, none⟩ = some (.map (some M))
theorem Hh.lt {w : World} {H B M : Nat} (h : Hh w H B M) : H < w.heap.size := World.block_lt_of_cell? _ _ h.c0
theorem Hh.but {E : Nat → Prop} {w w' : World} {H B M : Nat} (h : Hh w H B M) (hb : But E w w') (hE : ¬ E H) : Hh w' H B M := ⟨(hb.cell (p := ⟨H, 0, none⟩) h.lt hE).trans h.c0, (hb.cell (p := ⟨H, 1, none⟩) h.lt hE).trans h.c1⟩
theorem Hh.step {w w' : World} {H B M : Nat} (h : Hh w H B M) (hb : Below w.heap.size w w') : Hh w' H B M := h.but (E := fun _ => False) (.below hb) id
section
variable {T : Td} {w : World}
theorem hlNew (V : DFace T) (room : Int) (en : En w) (h0 : 0 ≤ room) (h1 : room ≤ 100000) :
    Calls Tryz.prog 24 #[.int .i64 room] w fun e w' => ∃ H B M F, e = .returned (.tuple #[.pointer (some ⟨H, 0, none⟩), .nilIface]) ∧ Ds T w' F B (dk0 room) ∧ Hh w' H B M ∧ w'.ownsMap Tryz.prog 9 anyE M 0 (.map []) ∧ ¬ F H ∧ ¬ F M ∧ H ≠ M ∧ (∀ j, F j → w.heap.size ≤ j) ∧ w.heap.size ≤ H ∧ w.heap.size ≤ M ∧ Below w.heap.size w w' := by
  have hmm := @run_makeMap Tryz.prog
  have K := V.newOk w h0 h1
  have glt : ∀ {j}, Gl j → j < w.heap.size := fun hj => en.lt hj
  have GH : Hid _ := @glt
  clear glt
  go_enter Tryz.func24, Tryz.ntmps24
  go_wp2_with (go_at_call 9; refine K.mono ?_; clear K; rintro e w1 ⟨B, rfl, hT, hb1⟩)
  go_ret2
  have b2 := below_al (below_al (below_self w1) (.map #[] 0)) (.cells #[.pointer (some ⟨B, 0, none⟩), .map (some w1.heap.size)] 180)
  have s1 := hb1.size
  refine ⟨w1.heap.size + 1, B, w1.heap.size, fun j => w.heap.size ≤ j ∧ j < w1.heap.size, rfl, ⟨V.step hT b2, fun j hj => ?_, fun j hj q => ?_, (en.step hb1).step b2⟩, ⟨?_, ?_⟩, (World.ownsMap_made w1 _ _ _).alloc _, fun q => by have := q.2; omega, fun q => by have := q.2; omega, by omega, fun j hj => hj.1, by omega, s1, below_via hb1 b2⟩
  · have := b2.size
    have := hj.2
    omega
  · have := GH.out q
    have := hj.1
    omega
  · go_simp
  · go_simp
theorem hlJoined (f : Int) (b cap : Nat) (w : World) (c0 : w.cell? ⟨b, 0, none⟩ = some (errN f)) (c1 : w.cell? ⟨b, 1, none⟩ = some .nilIface) :
    Calls Tryz.prog 97 #[.slice (some ⟨b, 0, none⟩) 2 cap] w fun e w' => e = .returned (errN f) ∧ w' = w := by
  go_enter Tryz.func97, Tryz.ntmps97
  go_wp2
  go_loopw [3, 8] (fun s i wr => wr = w ∧ ((i = .int .i64 0 ∧ s = .nilIface) ∨ (i = .int .i64 1 ∧ s = errN f) ∨ (i = .int .i64 2 ∧ s = errN f))) (fun _ i _ => 2 - (intOf i).toNat)
  case atStart => exact ⟨rfl, .inl ⟨rfl, rfl⟩⟩
  case round =>
    obtain ⟨hw, hor⟩ := hrel
    have := hw.symm
    subst this
    rcases hor with ⟨rfl, rfl⟩ | ⟨rfl, rfl⟩ | ⟨rfl, rfl⟩
    · go_wp2
      exact ⟨⟨trivial, .inr (.inl ⟨rfl, rfl⟩)⟩, by simp [intOf]⟩
    · go_wp2
      exact ⟨⟨trivial, .inr (.inr ⟨rfl, rfl⟩)⟩, by simp [intOf]⟩
    · go_wp2
      go_ret
      exact ⟨rfl, rfl⟩
end
end Go.Proofs.YthaggkmammfpbaaGreatDoor.Pa

namespace Go.Proofs.YthaggkmammfpbaaGreatDoor.Pa
open Go.RowKit Vs

theorem set_open {d : Dk} {i : Int} {o o' : Ox} (h : opI d i = some o) (e : o'.id = o.id) : (opI (opSet d o') i).isSome = true := by
  have q := (opI_some h).2
  rw [opI_set (o := o) (by rw [q]; exact h) e i, if_pos q.symm]
  rfl
theorem dg_open {d : Dk} {i : Int} (h : (opI d i).isSome = true) (k : ByteArray) : (opI (dgD d i k) i).isSome = true := by
  unfold dgD
  cases e : opI d i with
  | none => rw [e] at h; cases h
  | some o =>
    simp only
    split
    · split
      · exact h
      · exact set_open e rfl
    · exact h
theorem dr_open {d : Dk} {i : Int} (h : (opI d i).isSome = true) (lo hi : ByteArray) : (opI (drD d i lo hi) i).isSome = true := by
  unfold drD
  cases e : opI d i with
  | none => rw [e] at h; cases h
  | some o =>
    simp only
    split
    · exact h
    · exact set_open e rfl
theorem dc_open {d : Dk} {i : Int} (h : (opI d i).isSome = true) (c : Chg) : (opI (dcD d i c) i).isSome = true := by
  unfold dcD
  cases e : opI d i with
  | none => rw [e] at h; cases h
  | some o =>
    simp only
    split
    · split
      · exact h
      · exact set_open e rfl
    · exact h
theorem run_open : ∀ (g : Pg) (d : Dk) (i : Int), (opI d i).isSome = true → (opI (runD g d i) i).isSome = true
  | .ret _ _, _, _, h => h
  | .get k K, d, i, h => run_open (K (dgS d i k) (dgF d i k)) (dgD d i k) i (dg_open h k)
  | .rng lo hi K, d, i, h => run_open (K (drS d i lo hi) (drF d i)) (drD d i lo hi) i (dr_open h lo hi)
  | .chg c K, d, i, h => run_open (K (dcF d i c)) (dcD d i c) i (dc_open h c)
theorem bg_open {d : Dk} (h : bgF d = 0) : (opI (bgD d) (bgN d)).isSome = true := by
  have e1 : bgN d = d.ids + 1 := if_pos h
  have e2 : bgD d = { d with ids := d.ids + 1, op := d.op ++ [⟨d.ids + 1, d.last, 0, [], [], []⟩] } := if_pos h
  rw [e1, e2]
  show (List.find? _ (d.op ++ [_])).isSome = true
  rw [List.find?_isSome]
  exact ⟨_, List.mem_append_right _ (List.mem_singleton.2 rfl), by simp⟩
theorem on_open {d : Dk} (c : Cl) (h : bgF d = 0) : abF (onX d c) (bgN d) = 0 := if_pos (run_open (doP c) (bgD d) (bgN d) (bg_open h))
end Go.Proofs.YthaggkmammfpbaaGreatDoor.Pa

namespace Go.Proofs.YthaggkmammfpbaaGreatDoor.Pa
open Go.RowKit Vs

set_option maxRecDepth 100000 in
set_option maxHeartbeats 2000000 in
theorem answersSame (a : An) (p q : Option Addr) (cp cq : Nat) (w : World) (hl : a.l.length ≤ 9223372036854775807) (hp : Ta.SpAt w p a.l) (hq : Ta.SpAt w q a.l) :
    Calls Tryz.prog 20 #[anV a (.slice p a.l.length cp), anV a (.slice q a.l.length cq)] w fun e w' => e = .returned (.bool true) ∧ Below w.heap.size w w' := by
  obtain ⟨W, hW⟩ : ∃ W, W = (w.alloc (.cells #[.int .i64 a.p.1, .int .i64 a.p.2, .int .i64 a.ad, .string a.ow, .slice p a.l.length cp] 48)).alloc (.cells #[.int .i64 a.p.1, .int .i64 a.p.2, .int .i64 a.ad, .string a.ow, .slice q a.l.length cq] 48) := ⟨_, rfl⟩
  have bW : Below w.heap.size w W := by rw [hW]; exact below_al (below_al (below_self w) _) _
  obtain ⟨bb, hbb⟩ : ∃ bb, bb = w.heap.size := ⟨_, rfl⟩
  have a1 : Ab W bb (.int .i64 a.p.1) (.int .i64 a.p.2) (.int .i64 a.ad) (.string a.ow) (.slice p a.l.length cp) := by
    rw [hW, hbb]; exact (Ab.new w _ _ _ _ _ _).step (below_al (below_self _) _)
  have a2 : Ab W (bb + 1) (.int .i64 a.p.1) (.int .i64 a.p.2) (.int .i64 a.ad) (.string a.ow) (.slice q a.l.length cq) := by
    have := Ab.new (w.alloc (.cells #[.int .i64 a.p.1, .int .i64 a.p.2, .int .i64 a.ad, .string a.ow, .slice p a.l.length cp] 48)) (.int .i64 a.p.1) (.int .i64 a.p.2) (.int .i64 a.ad) (.string a.ow) (.slice q a.l.length cq) 48
    rw [World.size_alloc] at this
    rw [hW, hbb]; exact this
  have K := Ta.prefixes_same p q cp cq a.l W hl (hp.step bW) (hq.step bW)
  have step1 : ∀ {w1 : World}, Below W.heap.size W w1 → Ab w1 bb (.int .i64 a.p.1) (.int .i64 a.p.2) (.int .i64 a.ad) (.string a.ow) (.slice p a.l.length cp) ∧ Ab w1 (bb + 1) (.int .i64 a.p.1) (.int .i64 a.p.2) (.int .i64 a.ad) (.string a.ow) (.slice q a.l.length cq) := fun hb => ⟨a1.step hb, a2.step hb⟩
  have BW : Hid (Below w.heap.size w W) := bW
  obtain ⟨x0, x1, x2, x3, x4, _, _, _, _, _⟩ := id a1
  obtain ⟨y0, y1, y2, y3, y4, _, _, _, _, _⟩ := id a2
  subst hbb
  clear bW
  go_enter Tryz.func20, Tryz.ntmps20
  go_wp2_with (go_at_call 82; rw [← hW]; refine K.mono ?_; clear K; rintro e w1 ⟨rfl, hb1⟩; obtain ⟨c1, c2⟩ := step1 hb1; obtain ⟨x0, x1, x2, x3, x4, _, _, _, _, _⟩ := id c1; obtain ⟨y0, y1, y2, y3, y4, _, _, _, _, _⟩ := id c2)
  go_ret
  exact ⟨rfl, below_via BW.out hb1⟩
end Go.Proofs.YthaggkmammfpbaaGreatDoor.Pa

