/- The contract of PrefixOf. -/
import Derived.Test.YtnnjegohoejlbaaDoorAdRefD
import Derived.Test.YtnnjegohoejlbaaDoorAdStrF
namespace Bur
open Go
theorem cutc_none (c : UInt8) : ∀ l : List UInt8, (cutc c l).2.2 = false → (cutc c l).1 = l
  | [], _ => rfl
  | b :: l, h => by
    simp only [cutc] at h ⊢
    split at h
    · simp at h
    · rename_i hb
      rw [if_neg hb]
      show b :: (cutc c l).1 = b :: l
      rw [cutc_none c l h]
theorem rdGo_sf (most : Int) : ∀ (l : List UInt8) (n m : Int), rdGo most n l = some m → (cutc 47 l).2.2 = false
  | [], _, _, _ => rfl
  | c :: r, n, m, h => by
    simp only [rdGo] at h
    split at h
    · split at h
      · simp at h
      · rename_i hc _
        have := rdGo_sf most r _ m h
        simp only [cutc]
        rw [if_neg (by intro e; subst e; have := hc.1; simp at this)]
        exact this
    · simp at h
theorem rdB_sf {l : List UInt8} (h : rdB 32 l = true) : sf l = false := by
  unfold rdB rd at h
  split at h
  · simp at h
  · cases e : rdGo 32 0 l with
    | none => rw [e] at h; simp at h
    | some m => exact rdGo_sf 32 l 0 m e
/-- Where a text has two words between slashes: they are what is ahead and behind of the first one. -/
theorem two {l : List UInt8} (h : (spc 47 [] l).length = 2) : sf l = true ∧ (spc 47 [] l)[0]? = some (sw l) ∧ (spc 47 [] l)[1]? = some (sr l) := by
  cases h0 : sf l
  · have e0 : spc 47 [] l = [sw l] := spc_no h0
    rw [e0] at h; simp at h
  · have e0 : spc 47 [] l = sw l :: spc 47 [] (sr l) := spc_yes h0
    cases h1 : sf (sr l)
    · have e1 : spc 47 [] (sr l) = [sw (sr l)] := spc_no h1
      have e2 : sw (sr l) = sr l := cutc_none 47 _ h1
      rw [e0, e1, e2]
      exact ⟨rfl, rfl, rfl⟩
    · have e1 : spc 47 [] (sr l) = sw (sr l) :: spc 47 [] (sr (sr l)) := spc_yes h1
      have := spc_pos 47 (sr (sr l))
      rw [e0, e1] at h; simp at h; rw [h] at this; simp at this
theorem okP_two {l : List UInt8} (h : okP l = true) : (spc 47 [] l).length = 2 := by
  unfold okP at h
  simp only [Bool.and_eq_true] at h
  obtain ⟨⟨h0, _⟩, h2⟩ := h
  have e0 : spc 47 [] l = sw l :: spc 47 [] (sr l) := spc_yes h0
  have e1 : spc 47 [] (sr l) = [sw (sr l)] := spc_no (rdB_sf h2)
  rw [e0, e1]; rfl
theorem pf_no {l : List UInt8} (h : okP l = false) : pfF l = 5 ∧ pfA l = 0 ∧ pfL l = 0 := by
  have e : pfF l = 5 := if_neg (by simp [h])
  exact ⟨e, if_neg (by rw [e]; decide), if_neg (by rw [e]; decide)⟩
theorem pf_ok {l : List UInt8} (h : okP l = true) : pfF l = fault (preA l) (preL l) := if_pos h
end Bur
namespace Go.Proofs.YtnnjegohoejlbaaDoor
open Go.RowKit

theorem ba_eq {p : ByteArray} {x : List UInt8} (h : p.data.toList = x) : p = ⟨x.toArray⟩ := by subst h; cases p; simp

set_option maxHeartbeats 1000000 in
theorem refPrefixOf (l : List UInt8) (w : World) (hl : l.length < 4294967281) :
    Calls Tryd.prog 12 #[.string ⟨l.toArray⟩] w fun e w' => e = .returned (.tuple #[pfx (Bur.pfA l) (Bur.pfL l), .int .i64 (Bur.pfF l)]) ∧ Below w.heap.size w w' := by
  have hwl := Bur.sw_len l
  have hrl := Bur.sr_len l
  have cP := Pf.new w 0 0
  go_enter Tryd.func12, Tryd.ntmps12
  go_wp2_with fail
  refine (refSplit ⟨l.toArray⟩ 47 _ (by simpa [ByteArray.size] using hl)).mono ?_; rintro e w1 ⟨ps, g, cap, rfl, hps, hown, hb1⟩
  replace cP := cP.step hb1
  have hbw := below_via (below_al (below_self w) _) hb1
  clear hb1
  have ⟨c0, c1, z0, z1, clt⟩ := cP
  by_cases hn : ps.length = 2
  · obtain ⟨hsf, t0, t1⟩ := Bur.two (l := l) (by rw [← show ps.map _ = Bur.spc 47 [] l from hps]; simpa using hn)
    obtain ⟨p0, q0, e0⟩ := map_at hps t0
    obtain ⟨p1, q1, e1⟩ := map_at hps t1
    have k0 := row_at hown q0
    have k1 := row_at hown q1
    rw [ba_eq e0] at k0
    rw [ba_eq e1] at k1
    have ab : 0 ≤ Bur.adr (Bur.sw l) ∧ Bur.adr (Bur.sw l) ≤ 4294967295 := by
      have := Bur.preA_bd l
      unfold Bur.adr
      split
      · exact this
      · omega
    clear q0 q1 e0 e1 t0 t1 hps hown
    go_wp2_with fail
    refine (refAddrOf _ _ (by omega)).mono ?_; rintro e w2 ⟨rfl, hb2⟩
    replace k1 := cell_later hb2 k1
    replace cP := cP.step hb2
    replace hbw := below_via hbw hb2
    clear hb2 c0 c1 z0 z1 clt k0
    have ⟨c0, c1, z0, z1, clt⟩ := cP
    have HS := fun w => refSmall (Bur.sr l) w (by omega)
    cases h2 : Bur.okO (Bur.sw l)
    · have E : Hid (Bur.okP l = false) := by show _ = _; simp [Bur.okP, h2]
      have f5 : Bur.adrF (Bur.sw l) = 5 := if_neg (by simp [h2])
      go_wp2_with (go_at_call 29; refine (HS _).mono ?_; rintro e w3 ⟨rfl, h3⟩; replace h3 := h3.symm; subst h3)
      rw [(Bur.pf_no E.out).1, (Bur.pf_no E.out).2.1, (Bur.pf_no E.out).2.2]
      exact bodyPost_ret (v := .tuple #[pfx 0 0, .int .i64 5]) (by simp [results, Tryd.results12, go_sem, c0, c1]) rfl ⟨rfl, by repeat (first | exact hbw | refine Below.setCell ?_ (by simp) _ | refine below_al ?_ _)⟩
    have f0 : Bur.adrF (Bur.sw l) = 0 := if_pos h2
    have hA : Bur.adr (Bur.sw l) = Bur.preA l := if_pos h2
    rcases Bur.rd_sm (most := 32) (by decide) (by decide) (Bur.sr l) with ⟨r1, r2, r3, r4⟩ | ⟨r1, r2⟩
    · have E : Hid (Bur.okP l = true) := by show _ = _; simp [Bur.okP, h2, r1, hsf]
      have hL : Bur.sm (Bur.sr l) = Bur.preL l := r2.symm
      rw [hL] at HS r3 r4
      rw [hA] at ab
      clear r1 r2 hL
      go_wp2_with (first | (go_at_call 29; refine (HS _).mono ?_; rintro e w3 ⟨rfl, h3⟩; replace h3 := h3.symm; subst h3) | fail)
      refine (refFault _ _ _).mono ?_; rintro e w4 ⟨rfl, hb4⟩
      have dP := (Pf.new w2 (Bur.preA l) (Bur.preL l)).step hb4
      replace cP := (cP.alloc (pcs (Bur.preA l) (Bur.preL l))).step hb4
      replace hbw := below_via (below_al hbw _) hb4
      have hlt2 : w.heap.size < w2.heap.size := clt
      clear hb4 c0 c1 z0 z1 clt k1 HS
      have ⟨c0, c1, z0, z1, clt⟩ := cP
      have ⟨d0, d1, _, _, dlt⟩ := dP
      have PF := Bur.pf_ok E.out
      by_cases hf : Bur.pfF l = 0
      · have hf' : Bur.fault (Bur.preA l) (Bur.preL l) = 0 := by rw [← PF]; exact hf
        have HF : Hid _ := hf
        clear hf PF
        go_wp2
        rw [HF.out, show Bur.pfA l = Bur.preA l from if_pos HF.out, show Bur.pfL l = Bur.preL l from if_pos HF.out]
        exact bodyPost_ret (v := .tuple #[pfx (Bur.preA l) (Bur.preL l), .int .i64 0]) (by simp [results, Tryd.results12, go_sem, c0, c1]) rfl ⟨rfl, by repeat (first | exact hbw | refine Below.setCell ?_ (by simp) _ | refine below_al ?_ _)⟩
      · have hf' : (Bur.fault (Bur.preA l) (Bur.preL l) != 0) = true := by rw [← PF]; simpa using hf
        have HF : Hid _ := hf
        have PF2 : Hid _ := PF
        clear hf PF
        go_wp2
        rw [PF2.out, show Bur.pfA l = 0 from if_neg HF.out, show Bur.pfL l = 0 from if_neg HF.out]
        exact bodyPost_ret (v := .tuple #[pfx 0 0, .int .i64 (Bur.fault (Bur.preA l) (Bur.preL l))]) (by simp [results, Tryd.results12, go_sem, c0, c1]) rfl ⟨rfl, by repeat (first | exact hbw | refine Below.setCell ?_ (by simp) _ | refine below_al ?_ _)⟩
    · have E : Hid (Bur.okP l = false) := by show _ = _; simp [Bur.okP, r1]
      generalize Bur.sm (Bur.sr l) = m at *
      clear r1 hA
      by_cases m0 : m < 0
      · clear r2
        go_wp2_with (go_at_call 29; refine (HS _).mono ?_; rintro e w3 ⟨rfl, h3⟩; replace h3 := h3.symm; subst h3)
        rw [(Bur.pf_no E.out).1, (Bur.pf_no E.out).2.1, (Bur.pf_no E.out).2.2]
        exact bodyPost_ret (v := .tuple #[pfx 0 0, .int .i64 5]) (by simp [results, Tryd.results12, go_sem, c0, c1]) rfl ⟨rfl, by repeat (first | exact hbw | refine Below.setCell ?_ (by simp) _ | refine below_al ?_ _)⟩
      · have m1 : 32 < m := by omega
        clear r2
        go_wp2_with (go_at_call 29; refine (HS _).mono ?_; rintro e w3 ⟨rfl, h3⟩; replace h3 := h3.symm; subst h3)
        rw [(Bur.pf_no E.out).1, (Bur.pf_no E.out).2.1, (Bur.pf_no E.out).2.2]
        exact bodyPost_ret (v := .tuple #[pfx 0 0, .int .i64 5]) (by simp [results, Tryd.results12, go_sem, c0, c1]) rfl ⟨rfl, by repeat (first | exact hbw | refine Below.setCell ?_ (by simp) _ | refine below_al ?_ _)⟩
  · have b2 : ((ps.length : Int) != 2) = true := by simp; omega
    have E : Hid (Bur.okP l = false) := by
      show _ = _
      cases h : Bur.okP l
      · rfl
      · have e := Bur.okP_two h
        rw [← show ps.map _ = Bur.spc 47 [] l from hps] at e
        exact absurd (by simpa using e) hn
    clear hps hown hn
    go_wp2
    rw [(Bur.pf_no E.out).1, (Bur.pf_no E.out).2.1, (Bur.pf_no E.out).2.2]
    exact bodyPost_ret (v := .tuple #[pfx 0 0, .int .i64 5]) (by simp [results, Tryd.results12, go_sem, c0, c1]) rfl ⟨rfl, by repeat (first | exact hbw | refine Below.setCell ?_ (by simp) _ | refine below_al ?_ _)⟩
end Go.Proofs.YtnnjegohoejlbaaDoor
