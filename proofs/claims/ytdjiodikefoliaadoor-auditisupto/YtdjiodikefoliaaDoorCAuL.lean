/- The reference: AuditOf. -/
import Derived.Test.YtdjiodikefoliaaDoorCAuK
namespace Bur
/-- What is wrong with a pair that stands in its place. -/
def zF (L : List Vs.Pr) : Option En → Bool → Int
  | none, _ => 5
  | some e, b => if b = true then (if e.1 = 1 then 0 else if hasN L e.2.1 = true then (if e.1 = 3 ∧ hasA L e.2.1 e.2.2.1 = false then 7 else 0) else 4) else 5
theorem auE_z {L : List Vs.Pr} {c : Option ByteArray} {x : Vs.Pr} (h : plE c x.1 = 0) : auE L c x = zF L (ek x) (isN x.2.data.toList) := by
  unfold auE
  rw [if_pos h]
  cases ek x <;> rfl
theorem zF_no {L : List Vs.Pr} {e : En} : zF L (some e) false = 5 := rfl
theorem zF_one {L : List Vs.Pr} {K : Int} {m : List UInt8} {q : Sp} (h : K = 1) : zF L (some (K, m, q)) true = 0 := by
  show (if K = 1 then (0 : Int) else if hasN L m = true then (if K = 3 ∧ hasA L m q.1 = false then 7 else 0) else 4) = 0
  rw [if_pos h]
theorem zF_two {L : List Vs.Pr} {K : Int} {m : List UInt8} {q : Sp} {a : Int} (h : K ≠ 1) (ha : K = 3 → q.1 = a) : zF L (some (K, m, q)) true = if hasN L m = true then (if K = 3 ∧ hasA L m a = false then 7 else 0) else 4 := by
  show (if K = 1 then (0 : Int) else if hasN L m = true then (if K = 3 ∧ hasA L m q.1 = false then 7 else 0) else 4) = _
  rw [if_neg h]
  by_cases h3 : K = 3
  · rw [← ha h3]
  · simp [h3]
end Bur
namespace Go.Proofs.YtdjiodikefoliaaDoor.Au
open Go.RowKit Go.Maps Pa

set_option maxRecDepth 100000 in
set_option maxHeartbeats 16000000 in
theorem refAudit (L : List Vs.Pr) (p : Option Addr) (cap : Nat) (w : World) (hp : PrAt w p L) (hl : L.length ≤ 1000) (hk : ∀ x ∈ L, x.1.size < 4294967281) (hv : ∀ x ∈ L, x.2.size < 4294967281) :
    Calls Tryd.prog 4 #[.slice p L.length cap] w fun e w' => e = .returned (.tuple #[.int .i64 (Bur.auP L).1, .int .i64 (Bur.auP L).2]) ∧ Below w.heap.size w w' := by
  obtain ⟨R, hR⟩ : ∃ R, R = Bur.auP L := ⟨_, rfl⟩
  have hR0 : Hid (R = Bur.auG L (L.length - 0) 0) := hR
  rw [← hR]
  clear hR
  go_enter Tryd.func4, Tryd.ntmps4
  go_wp2
  go_loopw [4] (fun i wr => ∃ k : Nat, k ≤ L.length ∧ i = .int .i64 k ∧ Hid (R = Bur.auG L (L.length - k) k) ∧ Below w.heap.size w wr) (fun i _ => L.length - (intOf i).toNat)
  case atStart => exact ⟨0, by omega, rfl, hR0, below_self _⟩
  case round =>
    obtain ⟨k, hkl, rfl, hM, hb⟩ := hrel
    clear hR0
    by_cases hlt : k < L.length
    · have hlt' : (k : Int) < (L.length : Int) := by omega
      obtain ⟨x, hx⟩ : ∃ x, L[k]? = some x := ⟨L[k], List.getElem?_eq_getElem hlt⟩
      have hp1 := hp.step hb
      obtain ⟨B, off, rfl, hbl, hc⟩ := hp1 (by omega)
      obtain ⟨d0, d1⟩ := hc k x hx
      have hmem := List.mem_of_getElem? hx
      have hAt : Bur.auAt L k = Bur.auE L (Bur.prv L k) x := by unfold Bur.auAt; rw [hx]
      by_cases hpl : Bur.plE (Bur.prv L k) x.1 = 0
      · obtain ⟨K, m, q1, q2, a, KK, hKr, hK0, hKs⟩ := refKind1 x (hk x hmem)
        have KI := fun W => refIsName x.2 W (hv x hmem)
        have hE0 : Bur.auAt L k = Bur.zF L (Bur.ek x) (Bur.isN x.2.data.toList) := by rw [hAt]; exact Bur.auE_z hpl
        have ZN : Hid (∀ f : Int, Bur.zF L (Bur.ek x) (Bur.isN x.2.data.toList) = f → f ≠ 0 → R = ((k : Int), f)) := fun f h hf => by
          rw [← hE0] at h
          rw [hM.out, Bur.auG_no hlt (by rw [h]; exact hf), h]
        have ZG : Hid (Bur.zF L (Bur.ek x) (Bur.isN x.2.data.toList) = 0 → R = Bur.auG L (L.length - (k + 1)) (k + 1)) := fun h => by
          rw [← hE0] at h
          rw [hM.out, Bur.auG_go hlt h]
        clear hM hE0 hAt hmem
        by_cases hk0 : k = 0
        · as_aux_lemma =>
          have i0 : ¬ (0 : Int) < (k : Int) := by omega
          have i0n : ¬ 0 < k := by omega
          clear hpl hc hk0
          go_wp2
          go_quiet (fail)
          have bq := below_drewN hb nq
          clear hp1
          by_cases c0 : K = 0
          · have hA : Hid (R = ((k : Int), (5 : Int))) := ZN.out 5 (by rw [hK0.1 c0]; rfl) (by decide)
            subst c0
            clear ZN ZG hK0 hKs hKr
            go_wp2_with (first
              | (go_at_call 13; refine (KK _).mono ?_; clear KK; rintro e w3 ⟨rfl, hb3⟩; have bb5 := below_al (below_via bq hb3) (.cells #[.int .i64 q1, .int .i64 q2] 24); have l0 := (hp.step bb5); obtain ⟨D, off', hDe, hDl, hDc⟩ := l0 (by omega); obtain ⟨rfl, rfl⟩ : B = D ∧ off = off' := (by simpa using hDe); have v1 := (hDc k x hx).2; clear hDe hDc)
              | (go_at_call 14; refine (KI _).mono ?_; rintro e w4 ⟨rfl, hw4⟩; have := hw4.symm; subst this))
            go_ret2
            exact ⟨by rw [hA.out]; rfl, bb5⟩
          · obtain ⟨q, hE, h2', h3'⟩ := hKs c0
            have c0' : (K == 0) = false := beq_eq_false_iff_ne.2 c0
            rw [hE] at ZN ZG
            cases hn : Bur.isN x.2.data.toList with
            | false =>
              rw [hn] at KI
              have hA : Hid (R = ((k : Int), (5 : Int))) := ZN.out 5 (by rw [hn]; rfl) (by decide)
              clear ZN ZG hK0 hKs hE h2' h3'
              go_wp2_with (first
                | (go_at_call 13; refine (KK _).mono ?_; clear KK; rintro e w3 ⟨rfl, hb3⟩; have bb5 := below_al (below_via bq hb3) (.cells #[.int .i64 q1, .int .i64 q2] 24); have l0 := (hp.step bb5); obtain ⟨D, off', hDe, hDl, hDc⟩ := l0 (by omega); obtain ⟨rfl, rfl⟩ : B = D ∧ off = off' := (by simpa using hDe); have v1 := (hDc k x hx).2; clear hDe hDc)
                | (go_at_call 14; refine (KI _).mono ?_; rintro e w4 ⟨rfl, hw4⟩; have := hw4.symm; subst this))
              go_ret2
              exact ⟨by rw [hA.out]; rfl, bb5⟩
            | true =>
              rw [hn] at KI
              rw [hn] at ZN ZG
              by_cases c1 : K = 1
              · have hA : Hid (R = Bur.auG L (L.length - (k + 1)) (k + 1)) := ZG.out (Bur.zF_one c1)
                subst c1
                clear ZN ZG hK0 hKs hE h2' h3'
                go_wp2_with (first
                  | (go_at_call 13; refine (KK _).mono ?_; clear KK; rintro e w3 ⟨rfl, hb3⟩; have bb5 := below_al (below_via bq hb3) (.cells #[.int .i64 q1, .int .i64 q2] 24); have l0 := (hp.step bb5); obtain ⟨D, off', hDe, hDl, hDc⟩ := l0 (by omega); obtain ⟨rfl, rfl⟩ : B = D ∧ off = off' := (by simpa using hDe); have v1 := (hDc k x hx).2; clear hDe hDc)
                  | (go_at_call 14; refine (KI _).mono ?_; rintro e w4 ⟨rfl, hw4⟩; have := hw4.symm; subst this))
                exact ⟨⟨k + 1, by omega, by go_num, hA, bb5⟩, by simp [intOf]; omega⟩
              · have c1' : (K == 1) = false := beq_eq_false_iff_ne.2 c1
                have eA : K = 3 → q.1 = a := fun h => by rw [(h3' h).1]
                rw [Bur.zF_two c1 eA] at ZN ZG
                have AF : Hid (∀ f : Int, (if Bur.hasN L m = true then (if K = 3 ∧ Bur.hasA L m a = false then 7 else 0) else 4) = f → f ≠ 0 → R = ((k : Int), f)) := ZN.out
                have AG : Hid ((if Bur.hasN L m = true then (if K = 3 ∧ Bur.hasA L m a = false then (7 : Int) else 0) else 4) = 0 → R = Bur.auG L (L.length - (k + 1)) (k + 1)) := ZG.out
                clear ZN ZG hK0 hKs hE h2' h3' eA
                go_wp2_with (first
                  | (go_at_call 13; refine (KK _).mono ?_; clear KK; rintro e w3 ⟨rfl, hb3⟩; have bb5 := below_al (below_via bq hb3) (.cells #[.int .i64 q1, .int .i64 q2] 24); have l0 := (hp.step bb5); obtain ⟨D, off', hDe, hDl, hDc⟩ := l0 (by omega); obtain ⟨rfl, rfl⟩ : B = D ∧ off = off' := (by simpa using hDe); have v1 := (hDc k x hx).2; clear hDe hDc)
                  | (go_at_call 14; refine (KI _).mono ?_; rintro e w4 ⟨rfl, hw4⟩; have := hw4.symm; subst this))
                obtain ⟨V, hV⟩ : ∃ V, V = w3.alloc (.cells #[.int .i64 q1, .int .i64 q2] 24) := ⟨_, rfl⟩
                rw [← hV]
                have bV : Below w.heap.size w V := by rw [hV]; exact bb5
                clear hV bb5 hb3
                go_loopw [10, 11, 12] (fun t h a' wz => ∃ (j : Nat) (b c : Bool), j ≤ L.length ∧ a' = .int .i64 j ∧ t = .bool b ∧ h = .bool c ∧ Hid (b = Bur.hasN (L.take j) m ∧ c = Bur.hasA (L.take j) m a) ∧ Below V.heap.size V wz) (fun _ _ a' _ => L.length - (intOf a').toNat)
                case atStart => exact ⟨0, false, false, by omega, rfl, rfl, rfl, ⟨rfl, rfl⟩, below_self _⟩
                case round => as_aux_lemma =>
                  obtain ⟨j, b, c, hjl, rfl, rfl, rfl, hJ, hbz⟩ := hrel
                  by_cases hjt : j < L.length
                  · have hjt' : (j : Int) < (L.length : Int) := by omega
                    obtain ⟨y, hy⟩ : ∃ y, L[j]? = some y := ⟨L[j], List.getElem?_eq_getElem hjt⟩
                    obtain ⟨D, off', hDe, hDl, hDc⟩ := (hp.step (below_via bV hbz)) (by omega)
                    obtain ⟨rfl, rfl⟩ : B = D ∧ off = off' := by simpa using hDe
                    obtain ⟨g0, g1⟩ := hDc j y hy
                    have hnt := hasN_take L m j y hy
                    have hat := hasA_take L m a j y hy
                    obtain ⟨K', m', q1', q2', a', KK', hKr', hK0', hKs'⟩ := refKind1 y (hk y (List.mem_of_getElem? hy))
                    have KR' := KK' wr
                    rw [← hJ.out.1] at hnt
                    rw [← hJ.out.2] at hat
                    have hE1 : Bur.isE 1 m (fun _ => true) (Bur.ek y) = (decide (K' = 1) && decide (m' = m)) := by
                      by_cases hK : K' = 0
                      · rw [hK0'.1 hK, hK]; simp [Bur.isE]
                      · obtain ⟨q', hE', _⟩ := hKs' hK
                        rw [hE']; simp [Bur.isE]
                    have hE2 : Bur.isE 2 m (fun q => Bur.hs q a) (Bur.ek y) = (decide (K' = 2) && (decide (m' = m) && (decide (q1' ≤ a) && decide (a ≤ q1' + Bur.sz q2' - 1)))) := by
                      by_cases hK : K' = 0
                      · rw [hK0'.1 hK, hK]; simp [Bur.isE]
                      · obtain ⟨q', hE', h2', _⟩ := hKs' hK
                        rw [hE']
                        by_cases hK2 : K' = 2
                        · obtain ⟨rfl, _⟩ := h2' hK2
                          simp [Bur.isE, Bur.hs]
                        · simp [Bur.isE, hK2]
                    have hF2 : K' = 2 → Bur.fault q1' q2' = 0 := fun h => by
                      obtain ⟨q', _, h2', _⟩ := hKs' (by omega)
                      exact (h2' h).2
                    rw [hE1] at hnt
                    rw [hE2] at hat
                    have hsz := hbz.size
                    clear hJ hDc hDe KK' hE1 hE2 hK0' hKs' hy
                    have fin : ∀ (B1 C1 : Bool), (decide (K' = 1) && decide (m' = m)) = B1 → (decide (K' = 2) && (decide (m' = m) && (decide (q1' ≤ a) && decide (a ≤ q1' + Bur.sz q2' - 1)))) = C1 → Hid ((b || B1) = Bur.hasN (L.take (j + 1)) m ∧ (c || C1) = Bur.hasA (L.take (j + 1)) m a) := fun B1 C1 h1 h2 => ⟨by rw [hnt, h1], by rw [hat, h2]⟩
                    have FH : Hid _ := fin
                    clear fin hnt hat
                    by_cases k1 : K' = 1
                    · subst k1
                      by_cases k2 : m' = m
                      · have hM3 := FH.out true false (by simp [k2]) (by simp)
                        subst k2
                        clear FH hF2
                        cases b <;> cases c
                        all_goals
                          go_wp2_with (go_at_call 13; refine KR'.mono ?_; clear KR'; rintro e w6 ⟨rfl, hb5⟩; have hb6 := below_al hb5 (.cells #[.int .i64 q1', .int .i64 q2'] 24))
                          exact ⟨⟨j + 1, _, _, by omega, by go_num, rfl, rfl, hM3, below_via hbz hb6⟩, by simp [intOf]; omega⟩
                      · have hM3 := FH.out false false (by simp [k2]) (by simp)
                        have k2' : (m' == m) = false := beq_eq_false_iff_ne.2 k2
                        clear FH hF2
                        cases b <;> cases c
                        all_goals
                          go_wp2_with (go_at_call 13; refine KR'.mono ?_; clear KR'; rintro e w6 ⟨rfl, hb5⟩; have hb6 := below_al hb5 (.cells #[.int .i64 q1', .int .i64 q2'] 24))
                          exact ⟨⟨j + 1, _, _, by omega, by go_num, rfl, rfl, hM3, below_via hbz hb6⟩, by simp [intOf]; omega⟩
                    · have k1' : (K' == 1) = false := beq_eq_false_iff_ne.2 k1
                      by_cases k3 : K' = 2
                      · obtain ⟨z0, z1, z2, z3, _⟩ := Bur.fault_ok (hF2 k3)
                        have KL : ∀ W : World, Calls Tryd.prog 15 #[pfx q1' q2'] W fun e w' => e = .returned (.int .i64 (q1' + Bur.sz q2' - 1)) ∧ Below W.heap.size W w' := fun W => (lastOf q1' q2' W z0 z1 (Bur.isA_mk z2 z3)).mono (fun e w' h => ⟨h.1, by obtain ⟨_, n, rfl⟩ := h; exact below_box _ _ n⟩)
                        have hps := Bur.sz_pos q2'
                        have hpl' := Bur.sz_le q2' z0
                        subst k3
                        by_cases k2 : m' = m
                        · subst k2
                          by_cases k4 : q1' ≤ a
                          · by_cases k5 : a ≤ q1' + Bur.sz q2' - 1
                            · have hM3 := FH.out false true (by simp) (by simp [k4, k5])
                              clear FH hF2
                              cases b <;> cases c
                              all_goals
                                go_wp2_with (first
                                  | (go_at_call 13; refine KR'.mono ?_; clear KR'; rintro e w6 ⟨rfl, hb5⟩; have hb6 := below_al hb5 (.cells #[.int .i64 q1', .int .i64 q2'] 24))
                                  | (go_at_call 15; refine (KL _).mono ?_; rintro e w7 ⟨rfl, hb7⟩))
                                first
                                  | exact ⟨⟨j + 1, _, _, by omega, by go_num, rfl, rfl, hM3, below_via (below_via hbz hb6) hb7⟩, by simp [intOf]; omega⟩
                                  | exact ⟨⟨j + 1, _, _, by omega, by go_num, rfl, rfl, hM3, below_via hbz hb6⟩, by simp [intOf]; omega⟩
                            · have hM3 := FH.out false false (by simp) (by simp [k5])
                              have hM4 : Hid (c = false → (b || false) = Bur.hasN (L.take (j + 1)) m' ∧ decide (a ≤ q1' + Bur.sz q2' - 1) = Bur.hasA (L.take (j + 1)) m' a) := fun h => ⟨hM3.out.1, by rw [decide_eq_false k5, ← hM3.out.2, h]; rfl⟩
                              clear FH hF2
                              cases b <;> cases c
                              all_goals
                                go_wp2_with (first
                                  | (go_at_call 13; refine KR'.mono ?_; clear KR'; rintro e w6 ⟨rfl, hb5⟩; have hb6 := below_al hb5 (.cells #[.int .i64 q1', .int .i64 q2'] 24))
                                  | (go_at_call 15; refine (KL _).mono ?_; rintro e w7 ⟨rfl, hb7⟩))
                                first
                                  | exact ⟨⟨j + 1, _, _, by omega, by go_num, rfl, rfl, (show Hid _ from hM4.out (by first | rfl | trivial)), below_via (below_via hbz hb6) hb7⟩, by simp [intOf]; omega⟩
                                  | exact ⟨⟨j + 1, _, _, by omega, by go_num, rfl, rfl, hM3, below_via (below_via hbz hb6) hb7⟩, by simp [intOf]; omega⟩
                                  | exact ⟨⟨j + 1, _, _, by omega, by go_num, rfl, rfl, hM3, below_via hbz hb6⟩, by simp [intOf]; omega⟩
                          · have hM3 := FH.out false false (by simp) (by simp [k4])
                            clear FH hF2 KL
                            cases b <;> cases c
                            all_goals
                              go_wp2_with (go_at_call 13; refine KR'.mono ?_; clear KR'; rintro e w6 ⟨rfl, hb5⟩; have hb6 := below_al hb5 (.cells #[.int .i64 q1', .int .i64 q2'] 24))
                              exact ⟨⟨j + 1, _, _, by omega, by go_num, rfl, rfl, hM3, below_via hbz hb6⟩, by simp [intOf]; omega⟩
                        · have hM3 := FH.out false false (by simp) (by simp [k2])
                          have k2' : (m' == m) = false := beq_eq_false_iff_ne.2 k2
                          clear FH hF2 KL
                          cases b <;> cases c
                          all_goals
                            go_wp2_with (go_at_call 13; refine KR'.mono ?_; clear KR'; rintro e w6 ⟨rfl, hb5⟩; have hb6 := below_al hb5 (.cells #[.int .i64 q1', .int .i64 q2'] 24))
                            exact ⟨⟨j + 1, _, _, by omega, by go_num, rfl, rfl, hM3, below_via hbz hb6⟩, by simp [intOf]; omega⟩
                      · have hM3 := FH.out false false (by simp [k1]) (by simp [k3])
                        have k3' : (K' == 2) = false := beq_eq_false_iff_ne.2 k3
                        clear FH hF2
                        cases b <;> cases c
                        all_goals
                          go_wp2_with (go_at_call 13; refine KR'.mono ?_; clear KR'; rintro e w6 ⟨rfl, hb5⟩; have hb6 := below_al hb5 (.cells #[.int .i64 q1', .int .i64 q2'] 24))
                          exact ⟨⟨j + 1, _, _, by omega, by go_num, rfl, rfl, hM3, below_via hbz hb6⟩, by simp [intOf]; omega⟩
                  · have hjt' : ¬ (j : Int) < (L.length : Int) := by omega
                    have hJ2 : b = Bur.hasN L m ∧ c = Bur.hasA L m a := by
                      have := hJ.out
                      rw [List.take_of_length_le (by omega)] at this
                      exact this
                    clear hJ
                    have bz := below_via bV hbz
                    cases b with
                    | false =>
                      have hA0 : Hid (R = ((k : Int), (4 : Int))) := AF.out 4 (by rw [← hJ2.1, if_neg (by decide)]) (by decide)
                      clear hJ2 AF AG
                      cases c
                      all_goals
                        go_wp2
                        go_ret2
                        exact ⟨by rw [hA0.out]; rfl, bz⟩
                    | true =>
                      by_cases k9 : K = 3
                      · subst k9
                        cases c with
                        | false =>
                          have hA0 : Hid (R = ((k : Int), (7 : Int))) := AF.out 7 (by rw [← hJ2.1, if_pos rfl, ← hJ2.2, if_pos ⟨rfl, rfl⟩]) (by decide)
                          clear hJ2 AF AG
                          go_wp2
                          go_ret2
                          exact ⟨by rw [hA0.out]; rfl, bz⟩
                        | true =>
                          have hA0 : Hid (R = Bur.auG L (L.length - (k + 1)) (k + 1)) := AG.out (by rw [← hJ2.1, if_pos rfl, ← hJ2.2, if_neg (fun q => by cases q.2)])
                          clear hJ2 AF AG
                          go_wp2
                          exact ⟨⟨k + 1, by omega, by go_num, hA0, bz⟩, by simp [intOf]; omega⟩
                      · have k9' : (K == 3) = false := beq_eq_false_iff_ne.2 k9
                        have hA0 : Hid (R = Bur.auG L (L.length - (k + 1)) (k + 1)) := AG.out (by rw [← hJ2.1, if_pos rfl, if_neg (fun q => k9 q.1)])
                        clear hJ2 AF AG
                        cases c
                        all_goals
                          go_wp2
                          exact ⟨⟨k + 1, by omega, by go_num, hA0, bz⟩, by simp [intOf]; omega⟩
        · as_aux_lemma =>
          obtain ⟨y, hy⟩ : ∃ y, L[k - 1]? = some y := ⟨L[k - 1], List.getElem?_eq_getElem (by omega)⟩
          have c1 := (hc (k - 1) y hy).1
          have hpr : Bur.prv L k = some y.1 := by unfold Bur.prv; rw [if_neg hk0, hy]; rfl
          rw [hpr] at hpl
          have hbl2 : Vs.bl y.1 x.1 = true := by
            cases e : Vs.bl y.1 x.1 with
            | true => rfl
            | false => unfold Bur.plE at hpl; simp [e] at hpl
          have hle := Bur.au_le x.1 y.1
          rw [hbl2] at hle
          have hle : (Op.bytesLess x.1.toList y.1.toList || x.1.toList == y.1.toList) = false := hle
          have i0 : (0 : Int) < (k : Int) := by omega
          obtain ⟨i, rfl⟩ : ∃ i, k = i + 1 := ⟨k - 1, by omega⟩
          rw [show i + 1 - 1 = i from rfl] at c1
          clear hpl hc hk0 hy hpr hbl2
          go_wp2
          go_quiet (fail)
          have bq := below_drewN hb nq
          clear hp1 hle c1 i0
          by_cases c0 : K = 0
          · have hA : Hid (R = (((i + 1 : Nat) : Int), (5 : Int))) := ZN.out 5 (by rw [hK0.1 c0]; rfl) (by decide)
            subst c0
            clear ZN ZG hK0 hKs hKr
            go_wp2_with (first
              | (go_at_call 13; refine (KK _).mono ?_; clear KK; rintro e w3 ⟨rfl, hb3⟩; have bb5 := below_al (below_via bq hb3) (.cells #[.int .i64 q1, .int .i64 q2] 24); have l0 := (hp.step bb5); obtain ⟨D, off', hDe, hDl, hDc⟩ := l0 (by omega); obtain ⟨rfl, rfl⟩ : B = D ∧ off = off' := (by simpa using hDe); have v1 := (hDc (i + 1) x hx).2; clear hDe hDc)
              | (go_at_call 14; refine (KI _).mono ?_; rintro e w4 ⟨rfl, hw4⟩; have := hw4.symm; subst this))
            go_ret2
            exact ⟨by rw [hA.out]; rfl, bb5⟩
          · obtain ⟨q, hE, h2', h3'⟩ := hKs c0
            have c0' : (K == 0) = false := beq_eq_false_iff_ne.2 c0
            rw [hE] at ZN ZG
            cases hn : Bur.isN x.2.data.toList with
            | false =>
              rw [hn] at KI
              have hA : Hid (R = (((i + 1 : Nat) : Int), (5 : Int))) := ZN.out 5 (by rw [hn]; rfl) (by decide)
              clear ZN ZG hK0 hKs hE h2' h3'
              go_wp2_with (first
                | (go_at_call 13; refine (KK _).mono ?_; clear KK; rintro e w3 ⟨rfl, hb3⟩; have bb5 := below_al (below_via bq hb3) (.cells #[.int .i64 q1, .int .i64 q2] 24); have l0 := (hp.step bb5); obtain ⟨D, off', hDe, hDl, hDc⟩ := l0 (by omega); obtain ⟨rfl, rfl⟩ : B = D ∧ off = off' := (by simpa using hDe); have v1 := (hDc (i + 1) x hx).2; clear hDe hDc)
                | (go_at_call 14; refine (KI _).mono ?_; rintro e w4 ⟨rfl, hw4⟩; have := hw4.symm; subst this))
              go_ret2
              exact ⟨by rw [hA.out]; rfl, bb5⟩
            | true =>
              rw [hn] at KI
              rw [hn] at ZN ZG
              by_cases c1 : K = 1
              · have hA : Hid (R = Bur.auG L (L.length - (i + 1 + 1)) (i + 1 + 1)) := ZG.out (Bur.zF_one c1)
                subst c1
                clear ZN ZG hK0 hKs hE h2' h3'
                go_wp2_with (first
                  | (go_at_call 13; refine (KK _).mono ?_; clear KK; rintro e w3 ⟨rfl, hb3⟩; have bb5 := below_al (below_via bq hb3) (.cells #[.int .i64 q1, .int .i64 q2] 24); have l0 := (hp.step bb5); obtain ⟨D, off', hDe, hDl, hDc⟩ := l0 (by omega); obtain ⟨rfl, rfl⟩ : B = D ∧ off = off' := (by simpa using hDe); have v1 := (hDc (i + 1) x hx).2; clear hDe hDc)
                  | (go_at_call 14; refine (KI _).mono ?_; rintro e w4 ⟨rfl, hw4⟩; have := hw4.symm; subst this))
                exact ⟨⟨i + 1 + 1, by omega, by go_num, hA, bb5⟩, by simp [intOf]; omega⟩
              · have c1' : (K == 1) = false := beq_eq_false_iff_ne.2 c1
                have eA : K = 3 → q.1 = a := fun h => by rw [(h3' h).1]
                rw [Bur.zF_two c1 eA] at ZN ZG
                have AF : Hid (∀ f : Int, (if Bur.hasN L m = true then (if K = 3 ∧ Bur.hasA L m a = false then 7 else 0) else 4) = f → f ≠ 0 → R = (((i + 1 : Nat) : Int), f)) := ZN.out
                have AG : Hid ((if Bur.hasN L m = true then (if K = 3 ∧ Bur.hasA L m a = false then (7 : Int) else 0) else 4) = 0 → R = Bur.auG L (L.length - (i + 1 + 1)) (i + 1 + 1)) := ZG.out
                clear ZN ZG hK0 hKs hE h2' h3' eA
                go_wp2_with (first
                  | (go_at_call 13; refine (KK _).mono ?_; clear KK; rintro e w3 ⟨rfl, hb3⟩; have bb5 := below_al (below_via bq hb3) (.cells #[.int .i64 q1, .int .i64 q2] 24); have l0 := (hp.step bb5); obtain ⟨D, off', hDe, hDl, hDc⟩ := l0 (by omega); obtain ⟨rfl, rfl⟩ : B = D ∧ off = off' := (by simpa using hDe); have v1 := (hDc (i + 1) x hx).2; clear hDe hDc)
                  | (go_at_call 14; refine (KI _).mono ?_; rintro e w4 ⟨rfl, hw4⟩; have := hw4.symm; subst this))
                obtain ⟨V, hV⟩ : ∃ V, V = w3.alloc (.cells #[.int .i64 q1, .int .i64 q2] 24) := ⟨_, rfl⟩
                rw [← hV]
                have bV : Below w.heap.size w V := by rw [hV]; exact bb5
                clear hV bb5 hb3
                go_loopw [10, 11, 12] (fun t h a' wz => ∃ (j : Nat) (b c : Bool), j ≤ L.length ∧ a' = .int .i64 j ∧ t = .bool b ∧ h = .bool c ∧ Hid (b = Bur.hasN (L.take j) m ∧ c = Bur.hasA (L.take j) m a) ∧ Below V.heap.size V wz) (fun _ _ a' _ => L.length - (intOf a').toNat)
                case atStart => exact ⟨0, false, false, by omega, rfl, rfl, rfl, ⟨rfl, rfl⟩, below_self _⟩
                case round => as_aux_lemma =>
                  obtain ⟨j, b, c, hjl, rfl, rfl, rfl, hJ, hbz⟩ := hrel
                  by_cases hjt : j < L.length
                  · have hjt' : (j : Int) < (L.length : Int) := by omega
                    obtain ⟨y, hy⟩ : ∃ y, L[j]? = some y := ⟨L[j], List.getElem?_eq_getElem hjt⟩
                    obtain ⟨D, off', hDe, hDl, hDc⟩ := (hp.step (below_via bV hbz)) (by omega)
                    obtain ⟨rfl, rfl⟩ : B = D ∧ off = off' := by simpa using hDe
                    obtain ⟨g0, g1⟩ := hDc j y hy
                    have hnt := hasN_take L m j y hy
                    have hat := hasA_take L m a j y hy
                    obtain ⟨K', m', q1', q2', a', KK', hKr', hK0', hKs'⟩ := refKind1 y (hk y (List.mem_of_getElem? hy))
                    have KR' := KK' wr
                    rw [← hJ.out.1] at hnt
                    rw [← hJ.out.2] at hat
                    have hE1 : Bur.isE 1 m (fun _ => true) (Bur.ek y) = (decide (K' = 1) && decide (m' = m)) := by
                      by_cases hK : K' = 0
                      · rw [hK0'.1 hK, hK]; simp [Bur.isE]
                      · obtain ⟨q', hE', _⟩ := hKs' hK
                        rw [hE']; simp [Bur.isE]
                    have hE2 : Bur.isE 2 m (fun q => Bur.hs q a) (Bur.ek y) = (decide (K' = 2) && (decide (m' = m) && (decide (q1' ≤ a) && decide (a ≤ q1' + Bur.sz q2' - 1)))) := by
                      by_cases hK : K' = 0
                      · rw [hK0'.1 hK, hK]; simp [Bur.isE]
                      · obtain ⟨q', hE', h2', _⟩ := hKs' hK
                        rw [hE']
                        by_cases hK2 : K' = 2
                        · obtain ⟨rfl, _⟩ := h2' hK2
                          simp [Bur.isE, Bur.hs]
                        · simp [Bur.isE, hK2]
                    have hF2 : K' = 2 → Bur.fault q1' q2' = 0 := fun h => by
                      obtain ⟨q', _, h2', _⟩ := hKs' (by omega)
                      exact (h2' h).2
                    rw [hE1] at hnt
                    rw [hE2] at hat
                    have hsz := hbz.size
                    clear hJ hDc hDe KK' hE1 hE2 hK0' hKs' hy
                    have fin : ∀ (B1 C1 : Bool), (decide (K' = 1) && decide (m' = m)) = B1 → (decide (K' = 2) && (decide (m' = m) && (decide (q1' ≤ a) && decide (a ≤ q1' + Bur.sz q2' - 1)))) = C1 → Hid ((b || B1) = Bur.hasN (L.take (j + 1)) m ∧ (c || C1) = Bur.hasA (L.take (j + 1)) m a) := fun B1 C1 h1 h2 => ⟨by rw [hnt, h1], by rw [hat, h2]⟩
                    have FH : Hid _ := fin
                    clear fin hnt hat
                    by_cases k1 : K' = 1
                    · subst k1
                      by_cases k2 : m' = m
                      · have hM3 := FH.out true false (by simp [k2]) (by simp)
                        subst k2
                        clear FH hF2
                        cases b <;> cases c
                        all_goals
                          go_wp2_with (go_at_call 13; refine KR'.mono ?_; clear KR'; rintro e w6 ⟨rfl, hb5⟩; have hb6 := below_al hb5 (.cells #[.int .i64 q1', .int .i64 q2'] 24))
                          exact ⟨⟨j + 1, _, _, by omega, by go_num, rfl, rfl, hM3, below_via hbz hb6⟩, by simp [intOf]; omega⟩
                      · have hM3 := FH.out false false (by simp [k2]) (by simp)
                        have k2' : (m' == m) = false := beq_eq_false_iff_ne.2 k2
                        clear FH hF2
                        cases b <;> cases c
                        all_goals
                          go_wp2_with (go_at_call 13; refine KR'.mono ?_; clear KR'; rintro e w6 ⟨rfl, hb5⟩; have hb6 := below_al hb5 (.cells #[.int .i64 q1', .int .i64 q2'] 24))
                          exact ⟨⟨j + 1, _, _, by omega, by go_num, rfl, rfl, hM3, below_via hbz hb6⟩, by simp [intOf]; omega⟩
                    · have k1' : (K' == 1) = false := beq_eq_false_iff_ne.2 k1
                      by_cases k3 : K' = 2
                      · obtain ⟨z0, z1, z2, z3, _⟩ := Bur.fault_ok (hF2 k3)
                        have KL : ∀ W : World, Calls Tryd.prog 15 #[pfx q1' q2'] W fun e w' => e = .returned (.int .i64 (q1' + Bur.sz q2' - 1)) ∧ Below W.heap.size W w' := fun W => (lastOf q1' q2' W z0 z1 (Bur.isA_mk z2 z3)).mono (fun e w' h => ⟨h.1, by obtain ⟨_, n, rfl⟩ := h; exact below_box _ _ n⟩)
                        have hps := Bur.sz_pos q2'
                        have hpl' := Bur.sz_le q2' z0
                        subst k3
                        by_cases k2 : m' = m
                        · subst k2
                          by_cases k4 : q1' ≤ a
                          · by_cases k5 : a ≤ q1' + Bur.sz q2' - 1
                            · have hM3 := FH.out false true (by simp) (by simp [k4, k5])
                              clear FH hF2
                              cases b <;> cases c
                              all_goals
                                go_wp2_with (first
                                  | (go_at_call 13; refine KR'.mono ?_; clear KR'; rintro e w6 ⟨rfl, hb5⟩; have hb6 := below_al hb5 (.cells #[.int .i64 q1', .int .i64 q2'] 24))
                                  | (go_at_call 15; refine (KL _).mono ?_; rintro e w7 ⟨rfl, hb7⟩))
                                first
                                  | exact ⟨⟨j + 1, _, _, by omega, by go_num, rfl, rfl, hM3, below_via (below_via hbz hb6) hb7⟩, by simp [intOf]; omega⟩
                                  | exact ⟨⟨j + 1, _, _, by omega, by go_num, rfl, rfl, hM3, below_via hbz hb6⟩, by simp [intOf]; omega⟩
                            · have hM3 := FH.out false false (by simp) (by simp [k5])
                              have hM4 : Hid (c = false → (b || false) = Bur.hasN (L.take (j + 1)) m' ∧ decide (a ≤ q1' + Bur.sz q2' - 1) = Bur.hasA (L.take (j + 1)) m' a) := fun h => ⟨hM3.out.1, by rw [decide_eq_false k5, ← hM3.out.2, h]; rfl⟩
                              clear FH hF2
                              cases b <;> cases c
                              all_goals
                                go_wp2_with (first
                                  | (go_at_call 13; refine KR'.mono ?_; clear KR'; rintro e w6 ⟨rfl, hb5⟩; have hb6 := below_al hb5 (.cells #[.int .i64 q1', .int .i64 q2'] 24))
                                  | (go_at_call 15; refine (KL _).mono ?_; rintro e w7 ⟨rfl, hb7⟩))
                                first
                                  | exact ⟨⟨j + 1, _, _, by omega, by go_num, rfl, rfl, (show Hid _ from hM4.out (by first | rfl | trivial)), below_via (below_via hbz hb6) hb7⟩, by simp [intOf]; omega⟩
                                  | exact ⟨⟨j + 1, _, _, by omega, by go_num, rfl, rfl, hM3, below_via (below_via hbz hb6) hb7⟩, by simp [intOf]; omega⟩
                                  | exact ⟨⟨j + 1, _, _, by omega, by go_num, rfl, rfl, hM3, below_via hbz hb6⟩, by simp [intOf]; omega⟩
                          · have hM3 := FH.out false false (by simp) (by simp [k4])
                            clear FH hF2 KL
                            cases b <;> cases c
                            all_goals
                              go_wp2_with (go_at_call 13; refine KR'.mono ?_; clear KR'; rintro e w6 ⟨rfl, hb5⟩; have hb6 := below_al hb5 (.cells #[.int .i64 q1', .int .i64 q2'] 24))
                              exact ⟨⟨j + 1, _, _, by omega, by go_num, rfl, rfl, hM3, below_via hbz hb6⟩, by simp [intOf]; omega⟩
                        · have hM3 := FH.out false false (by simp) (by simp [k2])
                          have k2' : (m' == m) = false := beq_eq_false_iff_ne.2 k2
                          clear FH hF2 KL
                          cases b <;> cases c
                          all_goals
                            go_wp2_with (go_at_call 13; refine KR'.mono ?_; clear KR'; rintro e w6 ⟨rfl, hb5⟩; have hb6 := below_al hb5 (.cells #[.int .i64 q1', .int .i64 q2'] 24))
                            exact ⟨⟨j + 1, _, _, by omega, by go_num, rfl, rfl, hM3, below_via hbz hb6⟩, by simp [intOf]; omega⟩
                      · have hM3 := FH.out false false (by simp [k1]) (by simp [k3])
                        have k3' : (K' == 2) = false := beq_eq_false_iff_ne.2 k3
                        clear FH hF2
                        cases b <;> cases c
                        all_goals
                          go_wp2_with (go_at_call 13; refine KR'.mono ?_; clear KR'; rintro e w6 ⟨rfl, hb5⟩; have hb6 := below_al hb5 (.cells #[.int .i64 q1', .int .i64 q2'] 24))
                          exact ⟨⟨j + 1, _, _, by omega, by go_num, rfl, rfl, hM3, below_via hbz hb6⟩, by simp [intOf]; omega⟩
                  · have hjt' : ¬ (j : Int) < (L.length : Int) := by omega
                    have hJ2 : b = Bur.hasN L m ∧ c = Bur.hasA L m a := by
                      have := hJ.out
                      rw [List.take_of_length_le (by omega)] at this
                      exact this
                    clear hJ
                    have bz := below_via bV hbz
                    cases b with
                    | false =>
                      have hA0 : Hid (R = (((i + 1 : Nat) : Int), (4 : Int))) := AF.out 4 (by rw [← hJ2.1, if_neg (by decide)]) (by decide)
                      clear hJ2 AF AG
                      cases c
                      all_goals
                        go_wp2
                        go_ret2
                        exact ⟨by rw [hA0.out]; rfl, bz⟩
                    | true =>
                      by_cases k9 : K = 3
                      · subst k9
                        cases c with
                        | false =>
                          have hA0 : Hid (R = (((i + 1 : Nat) : Int), (7 : Int))) := AF.out 7 (by rw [← hJ2.1, if_pos rfl, ← hJ2.2, if_pos ⟨rfl, rfl⟩]) (by decide)
                          clear hJ2 AF AG
                          go_wp2
                          go_ret2
                          exact ⟨by rw [hA0.out]; rfl, bz⟩
                        | true =>
                          have hA0 : Hid (R = Bur.auG L (L.length - (i + 1 + 1)) (i + 1 + 1)) := AG.out (by rw [← hJ2.1, if_pos rfl, ← hJ2.2, if_neg (fun q => by cases q.2)])
                          clear hJ2 AF AG
                          go_wp2
                          exact ⟨⟨i + 1 + 1, by omega, by go_num, hA0, bz⟩, by simp [intOf]; omega⟩
                      · have k9' : (K == 3) = false := beq_eq_false_iff_ne.2 k9
                        have hA0 : Hid (R = Bur.auG L (L.length - (i + 1 + 1)) (i + 1 + 1)) := AG.out (by rw [← hJ2.1, if_pos rfl, if_neg (fun q => k9 q.1)])
                        clear hJ2 AF AG
                        cases c
                        all_goals
                          go_wp2
                          exact ⟨⟨i + 1 + 1, by omega, by go_num, hA0, bz⟩, by simp [intOf]; omega⟩
      · have hk0 : k ≠ 0 := fun h => hpl (by rw [h]; rfl)
        obtain ⟨y, hy⟩ : ∃ y, L[k - 1]? = some y := ⟨L[k - 1], List.getElem?_eq_getElem (by omega)⟩
        have c1 := (hc (k - 1) y hy).1
        have hpr : Bur.prv L k = some y.1 := by unfold Bur.prv; rw [if_neg hk0, hy]; rfl
        have hA0 : Bur.auAt L k = 2 := by
          rw [hAt]
          unfold Bur.auE
          rw [if_neg hpl]
          exact (Bur.plE_bd _ _).resolve_left hpl
        have hA : Hid (R = ((k : Int), (2 : Int))) := by
          show _ = _
          rw [hM.out, Bur.auG_no hlt (by rw [hA0]; decide), hA0]
        rw [hpr] at hpl
        have hbl2 : Vs.bl y.1 x.1 = false := by
          cases e : Vs.bl y.1 x.1 with
          | false => rfl
          | true => exact absurd (by unfold Bur.plE; simp [e]) hpl
        have hle := Bur.au_le x.1 y.1
        rw [hbl2] at hle
        have hle : (Op.bytesLess x.1.toList y.1.toList || x.1.toList == y.1.toList) = true := hle
        have i0 : (0 : Int) < (k : Int) := by omega
        obtain ⟨i, rfl⟩ : ∃ i, k = i + 1 := ⟨k - 1, by omega⟩
        rw [show i + 1 - 1 = i from rfl] at c1
        clear hpl hc hk0 hy hpr hbl2 hM hA0 hAt
        go_wp2
        go_quiet (fail)
        go_wp2
        go_ret2
        exact ⟨by rw [hA.out]; rfl, below_drewN hb _⟩
    · have hlt' : ¬ (k : Int) < (L.length : Int) := by omega
      have hE : Hid (R = (0, 0)) := by
        show _ = _
        rw [hM.out, show L.length - k = 0 from by omega]; rfl
      clear hM
      go_wp2
      go_ret2
      exact ⟨by rw [hE.out]; rfl, hb⟩
end Go.Proofs.YtdjiodikefoliaaDoor.Au
