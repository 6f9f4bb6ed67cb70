/- The contract of AddrOf. -/
import Derived.Test.YtnnjegohoejlbaaDoorAdRefC
import Derived.Test.YtnnjegohoejlbaaDoorAdStrD
namespace Bur
open Go
/-- The number of the first k words. -/
def aa (l : List UInt8) : Nat → Int
  | 0 => 0
  | k + 1 => aa l k * 256 + ov l k
theorem aa_bd (l : List UInt8) : ∀ k, k ≤ 3 → 0 ≤ aa l k ∧ aa l k ≤ 16777215
  | 0, _ => by simp [aa]
  | 1, _ => by have := ov_bd l 0; simp [aa]; omega
  | 2, _ => by have := ov_bd l 0; have := ov_bd l 1; simp [aa]; omega
  | 3, _ => by have := ov_bd l 0; have := ov_bd l 1; have := ov_bd l 2; simp [aa]; omega
theorem adr_aa {l : List UInt8} (h : okO l = true) : adr l = aa l 4 := by
  rw [show adr l = ((ov l 0 * 256 + ov l 1) * 256 + ov l 2) * 256 + ov l 3 from if_pos h]; simp [aa]
theorem dot_yes {l : List UInt8} (h : cf l = true) : spc 46 [] l = cw l :: spc 46 [] (cr l) := spc_yes h
theorem dot_no {l : List UInt8} (h : cf l = false) : spc 46 [] l = [cw l] := spc_no h
/-- Where a text has four words: they are those that are cut off one by one. -/
theorem four {l : List UInt8} (h : (spc 46 [] l).length = 4) : (∀ k, k < 4 → (spc 46 [] l)[k]? = some (cw (it k l))) ∧ ∀ k, k < 4 → og l k = rdB 255 (cw (it k l)) := by
  have p3 := spc_pos 46 (it 3 l)
  have p4 := spc_pos 46 (it 4 l)
  cases h0 : cf (it 0 l)
  · rw [show l = it 0 l from rfl, dot_no h0] at h; simp at h
  · have e0 : spc 46 [] l = cw (it 0 l) :: spc 46 [] (it 1 l) := dot_yes h0
    cases h1 : cf (it 1 l)
    · rw [e0, dot_no h1] at h; simp at h
    · have e1 : spc 46 [] (it 1 l) = cw (it 1 l) :: spc 46 [] (it 2 l) := dot_yes h1
      cases h2 : cf (it 2 l)
      · rw [e0, e1, dot_no h2] at h; simp at h
      · have e2 : spc 46 [] (it 2 l) = cw (it 2 l) :: spc 46 [] (it 3 l) := dot_yes h2
        cases h3 : cf (it 3 l)
        · rw [e0, e1, e2, dot_no h3]
          refine ⟨fun k hk => ?_, fun k hk => ?_⟩
          · match k, hk with
            | 0, _ => rfl
            | 1, _ => rfl
            | 2, _ => rfl
            | 3, _ => rfl
          · unfold og
            match k, hk with
            | 0, _ => rw [h0]; rfl
            | 1, _ => rw [h1]; rfl
            | 2, _ => rw [h2]; rfl
            | 3, _ => rw [h3]; rfl
        · have e3 : spc 46 [] (it 3 l) = cw (it 3 l) :: spc 46 [] (it 4 l) := dot_yes h3
          rw [e0, e1, e2, e3] at h; simp at h; rw [h] at p4; simp at p4
theorem okO_four {l : List UInt8} (h : okO l = true) : (spc 46 [] l).length = 4 := by
  unfold okO at h
  simp only [Bool.and_eq_true] at h
  obtain ⟨⟨⟨g0, g1⟩, g2⟩, g3⟩ := h
  unfold og at g0 g1 g2 g3
  simp only [Bool.and_eq_true] at g0 g1 g2 g3
  have h0 : cf (it 0 l) = true := by simpa using g0.1
  have h1 : cf (it 1 l) = true := by simpa using g1.1
  have h2 : cf (it 2 l) = true := by simpa using g2.1
  have h3 : cf (it 3 l) = false := by simpa using g3.1
  have e0 : spc 46 [] l = cw (it 0 l) :: spc 46 [] (it 1 l) := dot_yes h0
  have e1 : spc 46 [] (it 1 l) = cw (it 1 l) :: spc 46 [] (it 2 l) := dot_yes h1
  have e2 : spc 46 [] (it 2 l) = cw (it 2 l) :: spc 46 [] (it 3 l) := dot_yes h2
  rw [e0, e1, e2, dot_no h3]; rfl
end Bur
namespace Go.Proofs.YtnnjegohoejlbaaDoor
open Go.RowKit

theorem map_at {ps : List ByteArray} {ws : List (List UInt8)} (h : ps.map (fun b => b.data.toList) = ws) {k : Nat} {x : List UInt8} (hx : ws[k]? = some x) : ∃ p : ByteArray, ps[k]? = some p ∧ p.data.toList = x := by
  rw [← h, List.getElem?_map] at hx
  cases e : ps[k]? with
  | none => rw [e] at hx; cases hx
  | some p => rw [e] at hx; exact ⟨p, rfl, Option.some.inj hx⟩
theorem row_at {w : World} {base g cap : Nat} {ps : List ByteArray} (h : w.ownsRow base 9 1 (.slice (some ⟨g, 0, none⟩) ps.length cap) ps.length (strV ps)) {k : Nat} {p : ByteArray} (hp : ps[k]? = some p) : w.cell? ⟨g, k, none⟩ = some (.string p) := by
  obtain ⟨hk, e⟩ := List.getElem?_eq_some_iff.1 hp
  rw [h.cellAt k (by omega)]
  simp [strV, hp]

set_option maxHeartbeats 1000000 in
theorem refAddrOfB (s : ByteArray) (w : World) (hs : s.size < 4294967281) :
    Calls Tryd.prog 6 #[.string s] w fun e w' => e = .returned (.tuple #[.int .i64 (Bur.adr s.data.toList), .int .i64 (Bur.adrF s.data.toList)]) ∧ Below w.heap.size w w' := by
  have hlen : s.data.toList.length = s.size := by simp
  go_enter Tryd.func6, Tryd.ntmps6
  go_wp2_with (go_at_call 28; refine (refSplit s 46 _ hs).mono ?_; rintro e w1 ⟨ps, g, cap, rfl, hps, hown, hb⟩)
  · have hn : ¬ ps.length = 4 := by
      rename_i h4
      intro e; rw [e] at h4; simp at h4
    have hno : Bur.okO s.data.toList = false := by
      cases h : Bur.okO s.data.toList
      · rfl
      · have e := Bur.okO_four h
        rw [← hps] at e
        exact absurd (by simpa using e) hn
    go_ret2
    exact ⟨by rw [show Bur.adr s.data.toList = 0 from if_neg (by simp [hno]), show Bur.adrF s.data.toList = 5 from if_neg (by simp [hno])]; rfl, hb⟩
  · have hn : ps.length = 4 := by
      have h4 : ((ps.length : Int) != 4) = false := by assumption
      simp at h4; omega
    have F : Hid _ := Bur.four (l := s.data.toList) (by rw [← hps]; simpa using hn)
    have C : Hid (∀ k, k < 4 → ∃ p : ByteArray, p.data.toList = Bur.cw (Bur.it k s.data.toList) ∧ w1.cell? ⟨g, k, none⟩ = some (.string p)) := by
      intro k hk
      obtain ⟨p, hp, hpx⟩ := map_at hps (F.out.1 k hk)
      exact ⟨p, hpx, row_at hown hp⟩
    have HN : Hid (ps.length = 4) := hn
    rename_i h4 _ _
    clear hps hown hn h4
    go_loopw [5, 6] (fun a i wr => wr = w1 ∧ ∃ k : Nat, k ≤ 4 ∧ i = .int .i64 k ∧ a = .int .i64 (Bur.aa s.data.toList k) ∧ ∀ j, j < k → Bur.og s.data.toList j = true) (fun _ i _ => (4 - intOf i).toNat)
    case atStart => exact ⟨rfl, 0, by omega, rfl, rfl, fun j hj => by omega⟩
    case round =>
      obtain ⟨hwr, k, hk, rfl, rfl, hg⟩ := hrel
      replace hwr := hwr.symm
      subst hwr
      have HG : Hid _ := hg
      clear hg
      by_cases hlt : k < 4
      · have hlt' : (k : Int) < 4 := by omega
        have hkl : k < ps.length := by have := HN.out; omega
        have ab := Bur.aa_bd s.data.toList k (by omega)
        obtain ⟨p, hpx, ck⟩ := C.out k hlt
        have hps : p.size ≤ 281474976710656 := by
          have h1 := Bur.cw_len (Bur.it k s.data.toList)
          have h2 := Bur.it_len s.data.toList k
          have h3 : p.data.toList.length = p.size := by simp
          rw [hpx] at h3
          omega
        have hv : Bur.ov s.data.toList k = Bur.rdV 255 (Bur.cw (Bur.it k s.data.toList)) := rfl
        have HX : Hid _ := hpx
        clear hpx
        rcases Bur.rd_sm (most := 255) (by decide) (by decide) (Bur.cw (Bur.it k s.data.toList)) with ⟨r1, r2, r3, r4⟩ | ⟨r1, r2⟩
        · have hog : Hid (Bur.og s.data.toList k = true) := by show _ = _; rw [F.out.2 k hlt, r1]
          rw [r2] at hv
          have hsm : Hid _ := HX.out ▸ hv
          have HS : ∀ w : World, Calls Tryd.prog 29 #[.string p] w fun e w' => e = .returned (.int .i64 (Bur.ov s.data.toList k)) ∧ w' = w := by
            intro w
            have := refSmallB p w hps
            rw [HX.out, ← hv] at this
            exact this
          rw [← hv] at r3 r4
          clear hv r1 r2 hsm
          go_wp2_with (go_at_call 29; refine (HS _).mono ?_; rintro e w2 ⟨rfl, h2⟩; replace h2 := h2.symm; subst h2)
          go_roundw
          case measure => simp [intOf]; omega
          case rel =>
            refine ⟨trivial, k + 1, by omega, by go_num, rfl, fun j hj => ?_⟩
            by_cases e : j = k
            · rw [e]; exact hog.out
            · exact HG.out j (by omega)
        · have hno : Hid (Bur.okO s.data.toList = false) := Bur.okO_no hlt (by rw [F.out.2 k hlt, r1])
          have HS : ∀ w : World, Calls Tryd.prog 29 #[.string p] w fun e w' => e = .returned (.int .i64 (Bur.sm (Bur.cw (Bur.it k s.data.toList)))) ∧ w' = w := by
            intro w
            have := refSmallB p w hps
            rw [HX.out] at this
            exact this
          generalize Bur.sm (Bur.cw (Bur.it k s.data.toList)) = m at *
          clear r1 hv
          by_cases m0 : m < 0
          · go_wp2_with (go_at_call 29; refine (HS _).mono ?_; rintro e w2 ⟨rfl, h2⟩; replace h2 := h2.symm; subst h2)
            go_ret2
            exact ⟨by rw [show Bur.adr s.data.toList = 0 from if_neg (by simp [hno.out]), show Bur.adrF s.data.toList = 5 from if_neg (by simp [hno.out])]; rfl, hb⟩
          · have m1 : 255 < m := by omega
            clear r2
            go_wp2_with (go_at_call 29; refine (HS _).mono ?_; rintro e w2 ⟨rfl, h2⟩; replace h2 := h2.symm; subst h2)
            go_ret2
            exact ⟨by rw [show Bur.adr s.data.toList = 0 from if_neg (by simp [hno.out]), show Bur.adrF s.data.toList = 5 from if_neg (by simp [hno.out])]; rfl, hb⟩
      · have hk4 : k = 4 := by omega
        subst hk4
        go_wp2
        go_ret2
        have hok : Bur.okO s.data.toList = true := Bur.okO_ok HG.out
        exact ⟨by rw [Bur.adr_aa hok, show Bur.adrF s.data.toList = 0 from if_pos hok]; rfl, hb⟩
theorem refAddrOf (l : List UInt8) (w : World) (hl : l.length < 4294967281) :
    Calls Tryd.prog 6 #[.string ⟨l.toArray⟩] w fun e w' => e = .returned (.tuple #[.int .i64 (Bur.adr l), .int .i64 (Bur.adrF l)]) ∧ Below w.heap.size w w' :=
  refAddrOfB ⟨l.toArray⟩ w (by simpa [ByteArray.size] using hl)
end Go.Proofs.YtnnjegohoejlbaaDoor
