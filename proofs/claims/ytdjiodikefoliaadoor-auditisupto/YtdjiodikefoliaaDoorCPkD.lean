/- The contract of the reference's Kind. -/
import Derived.Test.YtdjiodikefoliaaDoorCPkC
import Derived.Test.YtdjiodikefoliaaDoorCAdSpl
import Derived.Test.YtdjiodikefoliaaDoorCTrRefA
namespace Bur
theorem rx_two (x y : UInt8) : rx dv 10 0 [x, y] = if 48 ≤ x.toNat ∧ x.toNat ≤ 57 ∧ 48 ≤ y.toNat ∧ y.toNat ≤ 57 then some (10 * ((x.toNat : Int) - 48) + ((y.toNat : Int) - 48)) else none := by
  by_cases hx : 48 ≤ x.toNat ∧ x.toNat ≤ 57
  · have ex : dv x = some ((x.toNat : Int) - 48) := if_pos hx
    rw [rx_on ex]
    by_cases hy : 48 ≤ y.toNat ∧ y.toNat ≤ 57
    · have ey : dv y = some ((y.toNat : Int) - 48) := if_pos hy
      rw [rx_on ey, if_pos ⟨hx.1, hx.2, hy.1, hy.2⟩]
      show some _ = some _
      congr 1; omega
    · have ey : dv y = none := if_neg hy
      rw [rx_no ey, if_neg (fun h => hy ⟨h.2.2.1, h.2.2.2⟩)]
  · have ex : dv x = none := if_neg hx
    rw [rx_no ex, if_neg (fun h => hx ⟨h.1, h.2.1⟩)]
/-- A prefix' digits, by what unhex tells and the last two bytes. -/
theorem pxD_ten {d : List UInt8} {x y : UInt8} (hd : d.drop 8 = [x, y]) : pxD d = if 0 ≤ uhx (d.take 8) ∧ (48 ≤ x.toNat ∧ x.toNat ≤ 57 ∧ 48 ≤ y.toNat ∧ y.toNat ≤ 57) ∧ fault (uhx (d.take 8)) (10 * ((x.toNat : Int) - 48) + ((y.toNat : Int) - 48)) = 0 then some (uhx (d.take 8), 10 * ((x.toNat : Int) - 48) + ((y.toNat : Int) - 48)) else none := by
  have hl : (d.take 8).length = 8 := by
    have h1 : (d.drop 8).length = 2 := by rw [hd]; rfl
    rw [List.length_drop] at h1
    rw [List.length_take]; omega
  unfold pxD uhx
  rw [hd, rx_two, if_pos hl]
  cases e : rx hxv 16 0 (d.take 8) with
  | none =>
    simp
  | some v =>
    have hv0 := (rx_bd (by decide) (fun b d h => by have := hxv_bd h; omega) _ 0 v (by omega) e).1
    simp only [Option.getD_some]
    by_cases hc : 48 ≤ x.toNat ∧ x.toNat ≤ 57 ∧ 48 ≤ y.toNat ∧ y.toNat ≤ 57
    · rw [if_pos hc]
      simp only
      by_cases hf : fault v (10 * ((x.toNat : Int) - 48) + ((y.toNat : Int) - 48)) = 0
      · rw [if_pos hf, if_pos ⟨hv0, hc, hf⟩]
      · rw [if_neg hf, if_neg (fun h => hf h.2.2)]
    · rw [if_neg hc, if_neg (fun h => hc h.2.1)]
theorem kd_no {a n : List UInt8} (h : isN n = false) : ∀ r, kd (a :: n :: r) = kd0
  | [] => by simp [kd, h]
  | [d] => by simp [kd, h]
  | d :: e :: r => rfl
theorem kd_adr {n d : List UInt8} (h : isN n = true) : kd [[97], n, d] = if 0 ≤ uhx d then (3, n, (0, 0), uhx d) else kd0 := by
  unfold kd uhx
  simp only [h, if_true]
  by_cases h8 : d.length = 8
  · rw [if_pos h8, if_pos h8]
    cases e : rx hxv 16 0 d with
    | none => simp
    | some v =>
      have hv0 := (rx_bd (by decide) (fun b d h => by have := hxv_bd h; omega) _ 0 v (by omega) e).1
      simp [hv0]
  · rw [if_neg h8, if_neg h8]
    simp
theorem kd_oth {a n d : List UInt8} (h1 : a ≠ [97]) (h2 : ¬ (a = [112] ∧ d.length = 10)) : kd [a, n, d] = kd0 := by
  unfold kd
  simp only
  rw [if_neg h1, if_neg h2]
  split <;> rfl
theorem kd_pfx {n d : List UInt8} (h : isN n = true) (h10 : d.length = 10) : kd [[112], n, d] = match pxD d with
    | some p => (2, n, p, 0)
    | none => kd0 := by
  unfold kd
  simp [h, h10]
  cases pxD d <;> rfl
theorem spc_sum (c : UInt8) : ∀ (l cur : List UInt8), ∀ x ∈ spc c cur l, x.length ≤ cur.length + l.length
  | [], cur, x, h => by rw [spc] at h; rw [List.mem_singleton.1 h]; simp
  | b :: l, cur, x, h => by
    by_cases e : b = c
    · rw [spc_hit e] at h
      rcases List.mem_cons.1 h with h | h
      · rw [h]; simp
      · have := spc_sum c l [] x h
        simp at this ⊢; omega
    · rw [spc_miss e] at h
      have := spc_sum c l _ x h
      simp at this ⊢; omega
end Bur
namespace Go.Proofs.YtdjiodikefoliaaDoor.Pa
open Go.RowKit

abbrev kV (r : Int × List UInt8 × (Int × Int) × Int) : Value := .tuple #[.int .i64 r.1, .string ⟨r.2.1.toArray⟩, pfx r.2.2.1.1 r.2.2.1.2, .int .i64 r.2.2.2]
theorem str_one (p : ByteArray) (c : UInt8) : (p.toList == [c]) = decide (p.data.toList = [c]) := by
  rw [Lib.toList_data, Bool.eq_iff_iff]
  simp
set_option maxHeartbeats 4000000 in
set_option maxRecDepth 100000 in
theorem refKind (s : ByteArray) (w : World) (hs : s.size < 4294967281) : Calls Tryd.prog 13 #[.string s] w fun e w' => e = .returned (kV (Bur.kd (Bur.spc 47 [] s.data.toList))) ∧ Below w.heap.size w w' := by
  obtain ⟨R, hR⟩ : ∃ R, R = Bur.kd (Bur.spc 47 [] s.data.toList) := ⟨_, rfl⟩
  rw [← hR]
  have hb0 := below_al (below_self w) (.cells #[.int .i64 0, .int .i64 0] 24)
  have hS := refSplit s 47 (w.alloc (.cells #[.int .i64 0, .int .i64 0] 24)) hs
  rw [show ((47 : UInt8).toNat : Int) = 47 from rfl] at hS
  go_enter Tryd.func13, Tryd.ntmps13
  go_wp2_with fail
  refine hS.mono ?_
  rintro e w1 ⟨ps, g, cap, rfl, hps, own, hb1⟩
  have hbw := below_via hb0 hb1
  have q0 : w1.cell? ⟨w.heap.size, 0, none⟩ = some (.int .i64 0) := (hb1.cell (p := ⟨w.heap.size, 0, none⟩) (by simp)).trans (by simp)
  have q1 : w1.cell? ⟨w.heap.size, 1, none⟩ = some (.int .i64 0) := (hb1.cell (p := ⟨w.heap.size, 1, none⟩) (by simp)).trans (by simp)
  have f0 : w1.frozen? ⟨w.heap.size, 0, none⟩ = false := (hb1.frozen (p := ⟨w.heap.size, 0, none⟩) (by simp)).trans (by simp)
  have f1 : w1.frozen? ⟨w.heap.size, 1, none⟩ = false := (hb1.frozen (p := ⟨w.heap.size, 1, none⟩) (by simp)).trans (by simp)
  have hgl : g < w1.heap.size ∧ w.heap.size < g := by have := own.lt g rfl; simp at this; omega
  rw [← hps] at hR
  have hpos : 0 < ps.length := by
    have h1 : (ps.map (fun b => b.data.toList)).length = ps.length := List.length_map _
    rw [hps] at h1
    have := Bur.spc_pos 47 s.data.toList
    omega
  have hsz : ∀ p ∈ ps, p.size < 4294967281 := by
    intro p hp
    have h1 : p.data.toList ∈ Bur.spc 47 [] s.data.toList := by rw [← hps]; exact List.mem_map.2 ⟨p, hp, rfl⟩
    have := Bur.spc_sum 47 s.data.toList [] _ h1
    simp at this
    omega
  have hcell : ∀ (k : Nat) (p : ByteArray), ps[k]? = some p → w1.cell? ⟨g, k, none⟩ = some (.string p) := fun k p hk => by
    have hl := (List.getElem?_eq_some_iff.1 hk).1
    rw [own.cellAt k (by omega)]
    simp [strV, hk]
  obtain ⟨n, hn⟩ : ∃ n, n = ps.length := ⟨_, rfl⟩
  have hcap : n ≤ cap := by
    rcases own.2 with ⟨h0, _⟩ | ⟨_, _, _, h0, _, _, h3, _⟩
    · cases h0
    · cases h0; omega
  rw [← hn]
  obtain ⟨gl0, gl1⟩ := hgl
  have fin0 : ∀ {W : World}, Below w1.heap.size w1 W → Below w.heap.size w ((W.setCell ⟨w.heap.size, 0, none⟩ (.int .i64 0)).setCell ⟨w.heap.size, 1, none⟩ (.int .i64 0)) := fun h => ((below_via hbw h).setCell (Nat.le_refl _) _).setCell (Nat.le_refl _) _
  clear hS hps own hb1 hb0 hs
  rcases ps with _ | ⟨p0, _ | ⟨p1, r⟩⟩
  · simp at hpos
  · have hn1 : (n : Int) ≤ 1 := by simp at hn; omega
    have hR0 : Hid (R = Bur.kd0) := hR
    clear hR hn hpos hcell hsz
    go_wp2
    exact bodyPost_ret (v := kV Bur.kd0) (by simp [results, Tryd.results13, go_sem, kV, Bur.kd0, q0, q1]) rfl ⟨by rw [hR0.out], fin0 (below_self _)⟩
  · have c0 := hcell 0 p0 rfl
    have c1 := hcell 1 p1 rfl
    have hI := fun W => refIsName p1 W (hsz p1 (by simp))
    have hn1 : ¬ (n : Int) ≤ 1 := by simp at hn; omega
    have hn1' : (1 : Int) < (n : Int) := by omega
    have eq1 := str_one p0
    clear hpos
    cases hnm : Bur.isN p1.data.toList with
    | false =>
      have hR0 : Hid (R = Bur.kd0) := by show _ = _; rw [hR]; exact Bur.kd_no hnm _
      rw [hnm] at hI
      clear hR hn hcell hsz hnm eq1
      go_wp2_with (go_at_call 14; refine (hI _).mono ?_; rintro e w2 ⟨rfl, rfl⟩)
      exact bodyPost_ret (v := kV Bur.kd0) (by simp [results, Tryd.results13, go_sem, kV, Bur.kd0, q0, q1]) rfl ⟨by rw [hR0.out], fin0 (below_self _)⟩
    | true =>
      rw [hnm] at hI
      rcases r with _ | ⟨p2, _ | ⟨p3, r⟩⟩
      · have hn2 : ((n : Int) == 2) = true := by simp at hn; simp [hn]
        have hn3 : ((n : Int) == 3) = false := by simp at hn; simp [hn]
        by_cases h110 : p0.data.toList = [110]
        · have e110 := eq1 110
          rw [decide_eq_true h110] at e110
          have hR0 : Hid (R = (1, p1.data.toList, (0, 0), 0)) := by show _ = _; rw [hR]; simp [Bur.kd, hnm, h110]
          clear hR hn hcell hsz hnm eq1 h110
          go_wp2_with (go_at_call 14; refine (hI _).mono ?_; rintro e w2 ⟨rfl, rfl⟩)
          go_region_held3 (fun wy => wy.cell? ⟨g, 1, none⟩ = some (.string p1)) (go_simp) (fail)
          go_wp2
          exact bodyPost_ret (v := kV (1, p1.data.toList, (0, 0), 0)) (by simp [results, Tryd.results13, go_sem, kV, q0, q1]) rfl ⟨by rw [hR0.out], fin0 (below_drewN (below_self _) _)⟩
        · have e110 := eq1 110
          rw [decide_eq_false h110] at e110
          have hR0 : Hid (R = Bur.kd0) := by show _ = _; rw [hR]; simp [Bur.kd, h110]
          clear hR hn hcell hsz hnm eq1 h110
          go_wp2_with (go_at_call 14; refine (hI _).mono ?_; rintro e w2 ⟨rfl, rfl⟩)
          exact bodyPost_ret (v := kV Bur.kd0) (by simp [results, Tryd.results13, go_sem, kV, Bur.kd0, q0, q1]) rfl ⟨by rw [hR0.out], fin0 (below_self _)⟩
      · have hn2 : ((n : Int) == 2) = false := by simp at hn; simp [hn]
        have hn3 : ((n : Int) == 3) = true := by simp at hn; simp [hn]
        have c2 := hcell 2 p2 rfl
        have hn2' : (2 : Int) < (n : Int) := by simp at hn; omega
        have glw : w.heap.size < w1.heap.size := by omega
        by_cases h97 : p0.data.toList = [97]
        · have e97 := eq1 97
          rw [decide_eq_true h97] at e97
          have hU := fun W => refUnhex p2 W
          have hRk : R = if 0 ≤ Bur.uhx p2.data.toList then (3, p1.data.toList, (0, 0), Bur.uhx p2.data.toList) else Bur.kd0 := by rw [hR, ← Bur.kd_adr hnm, ← h97]; rfl
          generalize Bur.uhx p2.data.toList = v at hU hRk
          by_cases hxv : 0 ≤ v
          · have hxv' : ¬ v < 0 := by omega
            rw [if_pos hxv] at hRk
            have hR0 : Hid _ := hRk
            clear hR hRk hn hcell hsz hnm eq1 h97 hxv
            go_wp2_with (first
              | (go_at_call 14; refine (hI _).mono ?_; rintro e w2 ⟨rfl, rfl⟩)
              | (go_at_call 29; refine (hU _).mono ?_; rintro e w3 ⟨rfl, hb3⟩; have c13 := (hb3.cell (p := ⟨g, 1, none⟩) gl0).trans c1; have c23 := (hb3.cell (p := ⟨g, 2, none⟩) gl0).trans c2; have q03 := (hb3.cell (p := ⟨w.heap.size, 0, none⟩) glw).trans q0; have q13 := (hb3.cell (p := ⟨w.heap.size, 1, none⟩) glw).trans q1; have f03 := (hb3.frozen (p := ⟨w.heap.size, 0, none⟩) glw).trans f0; have f13 := (hb3.frozen (p := ⟨w.heap.size, 1, none⟩) glw).trans f1))
            go_region_held3 (fun wy => wy.cell? ⟨g, 1, none⟩ = some (.string p1)) (go_simp) (fail)
            go_wp2
            exact bodyPost_ret (v := kV (3, p1.data.toList, (0, 0), v)) (by simp [results, Tryd.results13, go_sem, kV, q03, q13]) rfl ⟨by rw [hR0.out], fin0 (below_drewN hb3 _)⟩
          · have hxv' : v < 0 := by omega
            rw [if_neg hxv] at hRk
            have hR0 : Hid _ := hRk
            clear hR hRk hn hcell hsz hnm eq1 h97 hxv
            go_wp2_with (first
              | (go_at_call 14; refine (hI _).mono ?_; rintro e w2 ⟨rfl, rfl⟩)
              | (go_at_call 29; refine (hU _).mono ?_; rintro e w3 ⟨rfl, hb3⟩; have c13 := (hb3.cell (p := ⟨g, 1, none⟩) gl0).trans c1; have c23 := (hb3.cell (p := ⟨g, 2, none⟩) gl0).trans c2; have q03 := (hb3.cell (p := ⟨w.heap.size, 0, none⟩) glw).trans q0; have q13 := (hb3.cell (p := ⟨w.heap.size, 1, none⟩) glw).trans q1; have f03 := (hb3.frozen (p := ⟨w.heap.size, 0, none⟩) glw).trans f0; have f13 := (hb3.frozen (p := ⟨w.heap.size, 1, none⟩) glw).trans f1))
            exact bodyPost_ret (v := kV Bur.kd0) (by simp [results, Tryd.results13, go_sem, kV, Bur.kd0, q03, q13]) rfl ⟨by rw [hR0.out], fin0 hb3⟩
        · have e97 := eq1 97
          rw [decide_eq_false h97] at e97
          by_cases h112 : p0.data.toList = [112]
          · have e112 := eq1 112
            rw [decide_eq_true h112] at e112
            have hs2 : p2.data.toList.length = p2.size := by simp
            by_cases h10 : p2.size = 10
            · have hRk : R = match Bur.pxD p2.data.toList with
                  | some p => (2, p1.data.toList, p, 0)
                  | none => Bur.kd0 := by rw [hR, ← Bur.kd_pfx hnm (by rw [hs2]; exact h10), ← h112]; rfl
              have hd8 : p2.data.toList.drop 8 = [p2[8], p2[9]] := by
                rw [Bur.drop_at p2 8 (by omega), Bur.drop_at p2 9 (by omega), List.drop_of_length_le (by simp; omega)]
              rw [Bur.pxD_ten hd8] at hRk
              have hext : (p2.extract 0 8).data.toList = p2.data.toList.take 8 := by rw [Bur.ext_list]; rfl
              have hU := fun W => refUnhex (p2.extract 0 8) W
              rw [hext] at hU
              have he10 : ((p2.size : Int) == 10) = true := by simp [h10]
              have h8a : (8 : Int) ≤ (p2.size : Int) := by omega
              have h8b : (8 : Int) < (p2.size : Int) := by omega
              have h9b : (9 : Int) < (p2.size : Int) := by omega
              have h8c : 8 < p2.size := by omega
              have h9c : 9 < p2.size := by omega
              have b8 : p2[8].toNat < 256 := p2[8].toNat_lt
              have b9 : p2[9].toNat < 256 := p2[9].toNat_lt
              generalize Bur.uhx (p2.data.toList.take 8) = v at hU hRk
              by_cases v0 : v < 0
              · have hR0 : Hid (R = Bur.kd0) := by show _ = _; rw [hRk, if_neg (fun q => by omega)]
                clear hR hRk hn hcell hsz hnm eq1 h97 h112 h10 hs2 hd8 hext
                go_wp2_with (first
                  | (go_at_call 14; refine (hI _).mono ?_; rintro e w2 ⟨rfl, rfl⟩)
                  | (go_at_call 29; refine (hU _).mono ?_; rintro e w3 ⟨rfl, hb3⟩; have c13 := (hb3.cell (p := ⟨g, 1, none⟩) gl0).trans c1; have c23 := (hb3.cell (p := ⟨g, 2, none⟩) gl0).trans c2; have q03 := (hb3.cell (p := ⟨w.heap.size, 0, none⟩) glw).trans q0; have q13 := (hb3.cell (p := ⟨w.heap.size, 1, none⟩) glw).trans q1; have f03 := (hb3.frozen (p := ⟨w.heap.size, 0, none⟩) glw).trans f0; have f13 := (hb3.frozen (p := ⟨w.heap.size, 1, none⟩) glw).trans f1))
                exact bodyPost_ret (v := kV Bur.kd0) (by simp [results, Tryd.results13, go_sem, kV, Bur.kd0, q03, q13]) rfl ⟨by rw [hR0.out], fin0 hb3⟩
              · have v0' : 0 ≤ v := by omega
                by_cases x0 : (p2[8].toNat : Int) < 48
                · have hR0 : Hid (R = Bur.kd0) := by show _ = _; rw [hRk, if_neg (fun q => by omega)]
                  clear hR hRk hn hcell hsz hnm eq1 h97 h112 h10 hs2 hd8 hext
                  go_wp2_with (first
                    | (go_at_call 14; refine (hI _).mono ?_; rintro e w2 ⟨rfl, rfl⟩)
                    | (go_at_call 29; refine (hU _).mono ?_; rintro e w3 ⟨rfl, hb3⟩; have c13 := (hb3.cell (p := ⟨g, 1, none⟩) gl0).trans c1; have c23 := (hb3.cell (p := ⟨g, 2, none⟩) gl0).trans c2; have q03 := (hb3.cell (p := ⟨w.heap.size, 0, none⟩) glw).trans q0; have q13 := (hb3.cell (p := ⟨w.heap.size, 1, none⟩) glw).trans q1; have f03 := (hb3.frozen (p := ⟨w.heap.size, 0, none⟩) glw).trans f0; have f13 := (hb3.frozen (p := ⟨w.heap.size, 1, none⟩) glw).trans f1))
                  exact bodyPost_ret (v := kV Bur.kd0) (by simp [results, Tryd.results13, go_sem, kV, Bur.kd0, q03, q13]) rfl ⟨by rw [hR0.out], fin0 hb3⟩
                · by_cases x1 : 57 < (p2[8].toNat : Int)
                  · have hR0 : Hid (R = Bur.kd0) := by show _ = _; rw [hRk, if_neg (fun q => by omega)]
                    clear hR hRk hn hcell hsz hnm eq1 h97 h112 h10 hs2 hd8 hext
                    go_wp2_with (first
                      | (go_at_call 14; refine (hI _).mono ?_; rintro e w2 ⟨rfl, rfl⟩)
                      | (go_at_call 29; refine (hU _).mono ?_; rintro e w3 ⟨rfl, hb3⟩; have c13 := (hb3.cell (p := ⟨g, 1, none⟩) gl0).trans c1; have c23 := (hb3.cell (p := ⟨g, 2, none⟩) gl0).trans c2; have q03 := (hb3.cell (p := ⟨w.heap.size, 0, none⟩) glw).trans q0; have q13 := (hb3.cell (p := ⟨w.heap.size, 1, none⟩) glw).trans q1; have f03 := (hb3.frozen (p := ⟨w.heap.size, 0, none⟩) glw).trans f0; have f13 := (hb3.frozen (p := ⟨w.heap.size, 1, none⟩) glw).trans f1))
                    exact bodyPost_ret (v := kV Bur.kd0) (by simp [results, Tryd.results13, go_sem, kV, Bur.kd0, q03, q13]) rfl ⟨by rw [hR0.out], fin0 hb3⟩
                  · by_cases y0 : (p2[9].toNat : Int) < 48
                    · have hR0 : Hid (R = Bur.kd0) := by show _ = _; rw [hRk, if_neg (fun q => by omega)]
                      clear hR hRk hn hcell hsz hnm eq1 h97 h112 h10 hs2 hd8 hext
                      go_wp2_with (first
                        | (go_at_call 14; refine (hI _).mono ?_; rintro e w2 ⟨rfl, rfl⟩)
                        | (go_at_call 29; refine (hU _).mono ?_; rintro e w3 ⟨rfl, hb3⟩; have c13 := (hb3.cell (p := ⟨g, 1, none⟩) gl0).trans c1; have c23 := (hb3.cell (p := ⟨g, 2, none⟩) gl0).trans c2; have q03 := (hb3.cell (p := ⟨w.heap.size, 0, none⟩) glw).trans q0; have q13 := (hb3.cell (p := ⟨w.heap.size, 1, none⟩) glw).trans q1; have f03 := (hb3.frozen (p := ⟨w.heap.size, 0, none⟩) glw).trans f0; have f13 := (hb3.frozen (p := ⟨w.heap.size, 1, none⟩) glw).trans f1))
                      exact bodyPost_ret (v := kV Bur.kd0) (by simp [results, Tryd.results13, go_sem, kV, Bur.kd0, q03, q13]) rfl ⟨by rw [hR0.out], fin0 hb3⟩
                    · by_cases y1 : 57 < (p2[9].toNat : Int)
                      · have hR0 : Hid (R = Bur.kd0) := by show _ = _; rw [hRk, if_neg (fun q => by omega)]
                        clear hR hRk hn hcell hsz hnm eq1 h97 h112 h10 hs2 hd8 hext
                        go_wp2_with (first
                          | (go_at_call 14; refine (hI _).mono ?_; rintro e w2 ⟨rfl, rfl⟩)
                          | (go_at_call 29; refine (hU _).mono ?_; rintro e w3 ⟨rfl, hb3⟩; have c13 := (hb3.cell (p := ⟨g, 1, none⟩) gl0).trans c1; have c23 := (hb3.cell (p := ⟨g, 2, none⟩) gl0).trans c2; have q03 := (hb3.cell (p := ⟨w.heap.size, 0, none⟩) glw).trans q0; have q13 := (hb3.cell (p := ⟨w.heap.size, 1, none⟩) glw).trans q1; have f03 := (hb3.frozen (p := ⟨w.heap.size, 0, none⟩) glw).trans f0; have f13 := (hb3.frozen (p := ⟨w.heap.size, 1, none⟩) glw).trans f1))
                        exact bodyPost_ret (v := kV Bur.kd0) (by simp [results, Tryd.results13, go_sem, kV, Bur.kd0, q03, q13]) rfl ⟨by rw [hR0.out], fin0 hb3⟩
                      · obtain ⟨L, hL⟩ : ∃ L : Int, L = (10 : Int) * ((p2[8].toNat : Int) - (48 : Int)) + ((p2[9].toNat : Int) - (48 : Int)) := ⟨_, rfl⟩
                        rw [← hL] at hRk
                        replace hL : (10 : Int) * ((p2[8].toNat : Int) - (48 : Int)) + ((p2[9].toNat : Int) - (48 : Int)) = L := hL.symm
                        have hfv := fun W => refFault v L W
                        have x0' : (48 : Int) ≤ (p2[8].toNat : Int) := by omega
                        have y0' : (48 : Int) ≤ (p2[9].toNat : Int) := by omega
                        by_cases hf : Bur.fault v (L) = 0
                        · have hR0 : Hid (R = ((2 : Int), p1.data.toList, (v, L), (0 : Int))) := by show _ = _; rw [hRk, if_pos ⟨v0', ⟨by omega, by omega, by omega, by omega⟩, hf⟩]
                          rw [hf] at hfv
                          clear hR hRk hn hcell hsz hnm eq1 h97 h112 hs2 hd8 hext hf
                          go_wp2_with (first
                            | (go_at_call 14; refine (hI _).mono ?_; rintro e w2 ⟨rfl, rfl⟩)
                            | (go_at_call 29; refine (hU _).mono ?_; rintro e w3 ⟨rfl, hb3⟩; have c13 := (hb3.cell (p := ⟨g, 1, none⟩) gl0).trans c1; have c23 := (hb3.cell (p := ⟨g, 2, none⟩) gl0).trans c2; have q03 := (hb3.cell (p := ⟨w.heap.size, 0, none⟩) glw).trans q0; have q13 := (hb3.cell (p := ⟨w.heap.size, 1, none⟩) glw).trans q1; have f03 := (hb3.frozen (p := ⟨w.heap.size, 0, none⟩) glw).trans f0; have f13 := (hb3.frozen (p := ⟨w.heap.size, 1, none⟩) glw).trans f1; have hs3 := hb3.size)
                            | (go_at_call 30; refine (hfv _).mono ?_; rintro e w4 ⟨rfl, hb4⟩; have hs4 := hb4.size; have c14 := (hb4.cell (p := ⟨g, 1, none⟩) (by simp; omega)).trans ((World.cell?_alloc_lt _ _ ⟨g, 1, none⟩ (by show g < _; omega)).trans c13); have p04 := (hb4.cell (p := ⟨w3.heap.size, 0, none⟩) (by simp)).trans (by simp; rfl); have p14 := (hb4.cell (p := ⟨w3.heap.size, 1, none⟩) (by simp)).trans (by simp; rfl); have q04 := (hb4.cell (p := ⟨w.heap.size, 0, none⟩) (by simp; omega)).trans ((World.cell?_alloc_lt _ _ ⟨w.heap.size, 0, none⟩ (by show w.heap.size < _; omega)).trans q03); have q14 := (hb4.cell (p := ⟨w.heap.size, 1, none⟩) (by simp; omega)).trans ((World.cell?_alloc_lt _ _ ⟨w.heap.size, 1, none⟩ (by show w.heap.size < _; omega)).trans q13); have f04 := (hb4.frozen (p := ⟨w.heap.size, 0, none⟩) (by simp; omega)).trans (((below_al (below_self w3) (.cells #[.int .i64 v, .int .i64 L] 24)).frozen (p := ⟨w.heap.size, 0, none⟩) (by show w.heap.size < _; omega)).trans f03); have f14 := (hb4.frozen (p := ⟨w.heap.size, 1, none⟩) (by simp; omega)).trans (((below_al (below_self w3) (.cells #[.int .i64 v, .int .i64 L] 24)).frozen (p := ⟨w.heap.size, 1, none⟩) (by show w.heap.size < _; omega)).trans f13); have hbz := below_via (below_al hb3 (.cells #[.int .i64 v, .int .i64 (L)] 24)) hb4))
                          go_region_held3 (fun wy => wy.cell? ⟨g, 1, none⟩ = some (.string p1) ∧ wy.cell? ⟨w3.heap.size, 0, none⟩ = some (.int .i64 v) ∧ wy.cell? ⟨w3.heap.size, 1, none⟩ = some (.int .i64 (L))) (go_simp) (fail)
                          go_wp2
                          exact bodyPost_ret (v := kV (2, p1.data.toList, (v, L), 0)) (by simp [results, Tryd.results13, go_sem, kV, q04, q14]) rfl ⟨by rw [hR0.out], ((below_via hbw (below_drewN hbz _)).setCell (Nat.le_refl _) _).setCell (Nat.le_refl _) _⟩
                        · have hR0 : Hid (R = Bur.kd0) := by show _ = _; rw [hRk, if_neg (fun q => hf q.2.2)]
                          have hf' : (Bur.fault v (L) == 0) = false := beq_eq_false_iff_ne.2 hf
                          clear hR hRk hn hcell hsz hnm eq1 h97 h112 hs2 hd8 hext hf
                          go_wp2_with (first
                            | (go_at_call 14; refine (hI _).mono ?_; rintro e w2 ⟨rfl, rfl⟩)
                            | (go_at_call 29; refine (hU _).mono ?_; rintro e w3 ⟨rfl, hb3⟩; have c13 := (hb3.cell (p := ⟨g, 1, none⟩) gl0).trans c1; have c23 := (hb3.cell (p := ⟨g, 2, none⟩) gl0).trans c2; have q03 := (hb3.cell (p := ⟨w.heap.size, 0, none⟩) glw).trans q0; have q13 := (hb3.cell (p := ⟨w.heap.size, 1, none⟩) glw).trans q1; have f03 := (hb3.frozen (p := ⟨w.heap.size, 0, none⟩) glw).trans f0; have f13 := (hb3.frozen (p := ⟨w.heap.size, 1, none⟩) glw).trans f1; have hs3 := hb3.size)
                            | (go_at_call 30; refine (hfv _).mono ?_; rintro e w4 ⟨rfl, hb4⟩; have hs4 := hb4.size; have c14 := (hb4.cell (p := ⟨g, 1, none⟩) (by simp; omega)).trans ((World.cell?_alloc_lt _ _ ⟨g, 1, none⟩ (by show g < _; omega)).trans c13); have p04 := (hb4.cell (p := ⟨w3.heap.size, 0, none⟩) (by simp)).trans (by simp; rfl); have p14 := (hb4.cell (p := ⟨w3.heap.size, 1, none⟩) (by simp)).trans (by simp; rfl); have q04 := (hb4.cell (p := ⟨w.heap.size, 0, none⟩) (by simp; omega)).trans ((World.cell?_alloc_lt _ _ ⟨w.heap.size, 0, none⟩ (by show w.heap.size < _; omega)).trans q03); have q14 := (hb4.cell (p := ⟨w.heap.size, 1, none⟩) (by simp; omega)).trans ((World.cell?_alloc_lt _ _ ⟨w.heap.size, 1, none⟩ (by show w.heap.size < _; omega)).trans q13); have f04 := (hb4.frozen (p := ⟨w.heap.size, 0, none⟩) (by simp; omega)).trans (((below_al (below_self w3) (.cells #[.int .i64 v, .int .i64 L] 24)).frozen (p := ⟨w.heap.size, 0, none⟩) (by show w.heap.size < _; omega)).trans f03); have f14 := (hb4.frozen (p := ⟨w.heap.size, 1, none⟩) (by simp; omega)).trans (((below_al (below_self w3) (.cells #[.int .i64 v, .int .i64 L] 24)).frozen (p := ⟨w.heap.size, 1, none⟩) (by show w.heap.size < _; omega)).trans f13); have hbz := below_via (below_al hb3 (.cells #[.int .i64 v, .int .i64 (L)] 24)) hb4))
                          exact bodyPost_ret (v := kV Bur.kd0) (by simp [results, Tryd.results13, go_sem, kV, Bur.kd0, q04, q14]) rfl ⟨by rw [hR0.out], fin0 hbz⟩
            · have hR0 : Hid (R = Bur.kd0) := by show _ = _; rw [hR]; exact Bur.kd_oth h97 (fun q => h10 (by rw [← hs2]; exact q.2))
              have he10 : ((p2.size : Int) == 10) = false := beq_eq_false_iff_ne.2 (by omega)
              clear hR hn hcell hsz hnm eq1 h97 h112 h10 hs2
              go_wp2_with (go_at_call 14; refine (hI _).mono ?_; rintro e w2 ⟨rfl, rfl⟩)
              exact bodyPost_ret (v := kV Bur.kd0) (by simp [results, Tryd.results13, go_sem, kV, Bur.kd0, q0, q1]) rfl ⟨by rw [hR0.out], fin0 (below_self _)⟩
          · have e112 := eq1 112
            rw [decide_eq_false h112] at e112
            have hR0 : Hid (R = Bur.kd0) := by show _ = _; rw [hR]; exact Bur.kd_oth h97 (fun q => h112 q.1)
            clear hR hn hcell hsz hnm eq1 h97 h112
            go_wp2_with (go_at_call 14; refine (hI _).mono ?_; rintro e w2 ⟨rfl, rfl⟩)
            exact bodyPost_ret (v := kV Bur.kd0) (by simp [results, Tryd.results13, go_sem, kV, Bur.kd0, q0, q1]) rfl ⟨by rw [hR0.out], fin0 (below_self _)⟩
      · have hn2 : ((n : Int) == 2) = false := beq_eq_false_iff_ne.2 (by simp at hn; omega)
        have hn3 : ((n : Int) == 3) = false := beq_eq_false_iff_ne.2 (by simp at hn; omega)
        have hR0 : Hid (R = Bur.kd0) := by show _ = _; rw [hR]; rfl
        clear hR hn hcell hsz hnm eq1
        go_wp2_with (go_at_call 14; refine (hI _).mono ?_; rintro e w2 ⟨rfl, rfl⟩)
        exact bodyPost_ret (v := kV Bur.kd0) (by simp [results, Tryd.results13, go_sem, kV, Bur.kd0, q0, q1]) rfl ⟨by rw [hR0.out], fin0 (below_self _)⟩
end Go.Proofs.YtdjiodikefoliaaDoor.Pa
