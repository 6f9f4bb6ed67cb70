/- The contract of ParsePrefix; what is written is read. -/
import Derived.Test.YtnnjegohoejlbaaDoorAdStrE
namespace Bur
open Go
def decS (n : Nat) : List UInt8 := if n < 10 then [UInt8.ofNat (48 + n)] else if n < 100 then [UInt8.ofNat (48 + n / 10), UInt8.ofNat (48 + n % 10)] else [UInt8.ofNat (48 + n / 10 / 10), UInt8.ofNat (48 + n / 10 % 10), UInt8.ofNat (48 + n % 10)]
theorem dec_eq {n : Int} (h0 : 0 ≤ n) (h1 : n < 1000) : dec n = decS n.toNat := by
  unfold decS
  by_cases h2 : n < 10
  · rw [dec1 h0 h2, if_pos (by omega)]
  by_cases h3 : n < 100
  · rw [dec2 (by omega) h3, if_neg (by omega), if_pos (by omega)]
  · rw [dec3 (by omega) h1, if_neg (by omega), if_neg (by omega)]
theorem rd255 : ∀ n : Fin 256, rd 255 (decS n.val) = some (n.val : Int) := by decide +kernel
theorem rd32 : ∀ n : Fin 33, rd 32 (decS n.val) = some (n.val : Int) := by decide +kernel
theorem noSign : ∀ n : Fin 256, (46 : UInt8) ∉ decS n.val ∧ (47 : UInt8) ∉ decS n.val := by decide +kernel
theorem rd_dec {n : Int} (h0 : 0 ≤ n) (h1 : n ≤ 255) : rd 255 (dec n) = some n := by
  rw [dec_eq h0 (by omega)]
  have := rd255 ⟨n.toNat, by omega⟩
  simp only [Int.toNat_of_nonneg h0] at this
  exact this
theorem rd_dec32 {n : Int} (h0 : 0 ≤ n) (h1 : n ≤ 32) : rd 32 (dec n) = some n := by
  rw [dec_eq h0 (by omega)]
  have := rd32 ⟨n.toNat, by omega⟩
  simp only [Int.toNat_of_nonneg h0] at this
  exact this
theorem dec_no {n : Int} (h0 : 0 ≤ n) (h1 : n ≤ 255) : (46 : UInt8) ∉ dec n ∧ (47 : UInt8) ∉ dec n := by
  rw [dec_eq h0 (by omega)]
  exact noSign ⟨n.toNat, by omega⟩

theorem txt_reads {a b c d : Int} (a0 : 0 ≤ a) (a1 : a ≤ 255) (b0 : 0 ≤ b) (b1 : b ≤ 255) (c0 : 0 ≤ c) (c1 : c ≤ 255) (d0 : 0 ≤ d) (d1 : d ≤ 255) :
    okO (txt a b c d) = true ∧ ov (txt a b c d) 0 = a ∧ ov (txt a b c d) 1 = b ∧ ov (txt a b c d) 2 = c ∧ ov (txt a b c d) 3 = d := by
  have k0 : cutc 46 (txt a b c d) = (dec a, dec b ++ (46 :: (dec c ++ (46 :: dec d))), true) := cutc_hit _ _ (dec_no a0 a1).1
  have k1 : cutc 46 (dec b ++ (46 :: (dec c ++ (46 :: dec d)))) = (dec b, dec c ++ (46 :: dec d), true) := cutc_hit _ _ (dec_no b0 b1).1
  have k2 : cutc 46 (dec c ++ (46 :: dec d)) = (dec c, dec d, true) := cutc_hit _ _ (dec_no c0 c1).1
  have k3 : cutc 46 (dec d) = (dec d, [], false) := cutc_miss _ (dec_no d0 d1).1
  have i1 : it 1 (txt a b c d) = dec b ++ (46 :: (dec c ++ (46 :: dec d))) := by simp [it, cr, k0]
  have i2 : it 2 (txt a b c d) = dec c ++ (46 :: dec d) := by
    show cr (it 1 (txt a b c d)) = _
    rw [i1]; simp only [cr, k1]
  have i3 : it 3 (txt a b c d) = dec d := by
    show cr (it 2 (txt a b c d)) = _
    rw [i2]; simp only [cr, k2]
  have v : ∀ {n : Int}, 0 ≤ n → n ≤ 255 → rdV 255 (dec n) = n ∧ rdB 255 (dec n) = true := by
    intro n h0 h1
    unfold rdV rdB
    rw [rd_dec h0 h1]
    exact ⟨rfl, rfl⟩
  refine ⟨okO_ok fun k hk => ?_, ?_, ?_, ?_, ?_⟩
  · unfold og
    match k, hk with
    | 0, _ => simp [it, cf, cw, k0, (v a0 a1).2]
    | 1, _ => rw [i1]; simp [cf, cw, k1, (v b0 b1).2]
    | 2, _ => rw [i2]; simp [cf, cw, k2, (v c0 c1).2]
    | 3, _ => rw [i3]; simp [cf, cw, k3, (v d0 d1).2]
  · unfold ov; simp [it, cw, k0, (v a0 a1).1]
  · unfold ov; rw [i1]; simp [cw, k1, (v b0 b1).1]
  · unfold ov; rw [i2]; simp [cw, k2, (v c0 c1).1]
  · unfold ov; rw [i3]; simp [cw, k3, (v d0 d1).1]

/-- An address's text is that address. -/
theorem adr_txt {a : Int} (h : isA a = true) : adr (txtA a) = a ∧ adrF (txtA a) = 0 := by
  obtain ⟨a0, a1⟩ := isA_true h
  have ⟨ho, v0, v1, v2, v3⟩ := txt_reads (a := a / 16777216) (b := a / 65536 % 256) (c := a / 256 % 256) (d := a % 256) (by omega) (by omega) (by omega) (by omega) (by omega) (by omega) (by omega) (by omega)
  unfold adr adrF txtA
  rw [if_pos ho, if_pos ho, v0, v1, v2, v3]
  exact ⟨by omega, rfl⟩
theorem txt_no {a b c d : Int} (a0 : 0 ≤ a) (a1 : a ≤ 255) (b0 : 0 ≤ b) (b1 : b ≤ 255) (c0 : 0 ≤ c) (c1 : c ≤ 255) (d0 : 0 ≤ d) (d1 : d ≤ 255) : (47 : UInt8) ∉ txt a b c d := by
  unfold txt
  simp [(dec_no a0 a1).2, (dec_no b0 b1).2, (dec_no c0 c1).2, (dec_no d0 d1).2]
/-- A prefix' text is that prefix. -/
theorem pre_txt {a l : Int} (h : fault a l = 0) : pfF (txtP a l) = 0 ∧ pfA (txtP a l) = a ∧ pfL (txtP a l) = l := by
  obtain ⟨l0, l1, a0, a1, hz⟩ := fault_ok h
  have ⟨ho, v0, v1, v2, v3⟩ := txt_reads (a := a / 16777216) (b := a / 65536 % 256) (c := a / 256 % 256) (d := a % 256) (by omega) (by omega) (by omega) (by omega) (by omega) (by omega) (by omega) (by omega)
  have hc : cutc 47 (txtP a l) = (txtA a, dec l, true) := cutc_hit _ _ (txt_no (by omega) (by omega) (by omega) (by omega) (by omega) (by omega) (by omega) (by omega))
  have hsw : sw (txtP a l) = txtA a := by simp [sw, hc]
  have hsr : sr (txtP a l) = dec l := by simp [sr, hc]
  have hsf : sf (txtP a l) = true := by simp [sf, hc]
  have ho' : okO (txtA a) = true := ho
  have hL : preL (txtP a l) = l := by unfold preL rdV; rw [hsr, rd_dec32 l0 l1]; rfl
  have hA : preA (txtP a l) = a := by
    unfold preA; rw [hsw]
    show ((ov (txt _ _ _ _) 0 * 256 + ov (txt _ _ _ _) 1) * 256 + ov (txt _ _ _ _) 2) * 256 + ov (txt _ _ _ _) 3 = a
    rw [v0, v1, v2, v3]; omega
  have hk : okP (txtP a l) = true := by
    unfold okP rdB; rw [hsf, hsw, hsr, ho', rd_dec32 l0 l1]; rfl
  have hF : pfF (txtP a l) = 0 := by unfold pfF; rw [if_pos hk, hA, hL]; exact h
  refine ⟨hF, ?_, ?_⟩
  · unfold pfA; rw [if_pos hF]; exact hA
  · unfold pfL; rw [if_pos hF]; exact hL
theorem txtA_len {a : Int} (h : isA a = true) : (txtA a).length ≤ 15 := by
  obtain ⟨a0, a1⟩ := isA_true h
  exact txt_len (by omega) (by omega) (by omega) (by omega) (by omega) (by omega) (by omega) (by omega)
theorem txtP_len {a l : Int} (h : fault a l = 0) : (txtP a l).length ≤ 19 := by
  obtain ⟨l0, l1, a0, a1, hz⟩ := fault_ok h
  have := txtA_len (isA_mk a0 a1)
  have := dec_len l0 (by omega)
  simp [txtP]; omega
end Bur
namespace Go.Proofs.YtnnjegohoejlbaaDoor
open Go.RowKit

set_option maxHeartbeats 1000000 in
theorem parsePrefix (l : List UInt8) (w : World) (hl : l.length < 4294967281) (hm : MaxL w) :
    Calls Tryd.prog 13 #[.string ⟨l.toArray⟩] w fun e w' => e = .returned (.tuple #[pfx (Bur.pfA l) (Bur.pfL l), ev (Bur.pfF l)]) ∧ Below w.heap.size w w' := by
  have cP := Pf.new w 0 0
  cases hk : Bur.okP l
  · have e5 : Bur.pfF l = 5 := if_neg (by simp [hk])
    rw [show Bur.pfA l = 0 from if_neg (by simp [e5]), show Bur.pfL l = 0 from if_neg (by simp [e5]), e5, ev_ne (by decide)]
    clear e5
    go_enter Tryd.func13, Tryd.ntmps13
    go_wp2_with fail
    refine (readPrefix _ _ hl (hm.alloc _)).mono ?_; rintro e w1 ⟨rfl, hb⟩
    replace cP := cP.step hb
    have ⟨c0, c1, z0, z1, clt⟩ := cP
    rw [hk]
    go_wp2
    exact bodyPost_ret (v := .tuple #[pfx 0 0, errN 5]) (by simp [results, Tryd.results13, go_sem, c0, c1, clt]) rfl ⟨rfl, by repeat (first | exact below_via (below_al (below_self w) _) hb | refine Below.setCell ?_ (by simp) _ | refine below_al ?_ _)⟩
  · have ef : Bur.pfF l = Bur.fault (Bur.preA l) (Bur.preL l) := if_pos hk
    have hA : rpA l = Bur.preA l := if_pos hk
    have hL : rpL l = Bur.preL l := if_pos hk
    by_cases hf : Bur.fault (Bur.preA l) (Bur.preL l) = 0
    · rw [show Bur.pfA l = Bur.preA l from if_pos (by rw [ef, hf]), show Bur.pfL l = Bur.preL l from if_pos (by rw [ef, hf]), ef, hf, ev_0]
      clear ef
      go_enter Tryd.func13, Tryd.ntmps13
      go_wp2_with fail
      refine (readPrefix _ _ hl (hm.alloc _)).mono ?_; rintro e w1 ⟨rfl, hb⟩
      replace cP := cP.step hb
      rw [hk, hA, hL]
      clear hA hL
      go_wp2_with fail
      refine (check_ok _ _ _ hf).mono ?_; rintro e w2 ⟨rfl, hc, hf2, hs, hb2⟩
      have cQ := ((Pf.new w1 (Bur.preA l) (Bur.preL l)).alloc _).step hb2
      replace cP := ((cP.alloc _).alloc _).step hb2
      have hlt : w.heap.size < w1.heap.size := by have := hb.size; simp at this; omega
      clear hc hf2 hs
      have ⟨c0, c1, z0, z1, clt⟩ := cP
      have ⟨d0, d1, _, _, dlt⟩ := cQ
      go_wp2
      exact bodyPost_ret (v := .tuple #[pfx (Bur.preA l) (Bur.preL l), .nilIface]) (by simp [results, Tryd.results13, go_sem, c0, c1]) rfl ⟨rfl, by repeat (first | exact below_via (below_al (below_al (below_via (below_al (below_self w) _) hb) _) _) hb2 | refine Below.setCell ?_ (by simp) _ | refine below_al ?_ _)⟩
    · rw [show Bur.pfA l = 0 from if_neg (by rw [ef]; exact hf), show Bur.pfL l = 0 from if_neg (by rw [ef]; exact hf), ef, ev_ne hf]
      clear ef
      go_enter Tryd.func13, Tryd.ntmps13
      go_wp2_with fail
      refine (readPrefix _ _ hl (hm.alloc _)).mono ?_; rintro e w1 ⟨rfl, hb⟩
      replace cP := cP.step hb
      rw [hk, hA, hL]
      clear hA hL
      go_wp2_with fail
      refine (check_no _ _ _ hf).mono ?_; rintro e w2 ⟨rfl, hc, hf2, hs, hb2⟩
      replace cP := ((cP.alloc _).alloc _).step hb2
      clear hc hf2 hs
      have ⟨c0, c1, z0, z1, clt⟩ := cP
      go_wp2
      exact bodyPost_ret (v := .tuple #[pfx 0 0, errN (Bur.fault (Bur.preA l) (Bur.preL l))]) (by simp [results, Tryd.results13, go_sem, c0, c1]) rfl ⟨rfl, by repeat (first | exact below_via (below_al (below_al (below_via (below_al (below_self w) _) hb) _) _) hb2 | refine Below.setCell ?_ (by simp) _ | refine below_al ?_ _)⟩
end Go.Proofs.YtnnjegohoejlbaaDoor
