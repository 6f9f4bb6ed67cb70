/- The contract of package vers' Collect. -/
import Derived.Test.YtickoadcficdeaaGreatDoorVsWalkH
namespace Vs
/-- The keys that have been gone through. -/
def dn (ss : List (List UInt8)) (k : Nat) (t : ByteArray) : Bool := (ss.take k).contains t.data.toList
theorem dn_0 (ss : List (List UInt8)) (t : ByteArray) : dn ss 0 t = false := by simp [dn]
theorem arr_eq {t : ByteArray} {x : List UInt8} : t.data.toList = x ↔ t = ⟨x.toArray⟩ := by
  cases t with | mk d =>
  constructor
  · intro h; subst h; simp
  · intro h; injection h with h; subst h; simp
theorem dn_succ {ss : List (List UInt8)} {k : Nat} {x : List UInt8} (hx : ss[k]? = some x) (t : ByteArray) : dn ss (k + 1) t = (dn ss k t || decide (t = ⟨x.toArray⟩)) := by
  rw [dn, dn, List.take_add_one, hx]
  by_cases e : t = ⟨x.toArray⟩
  · have := arr_eq.2 e
    simp [e]
  · have h2 : ¬ t.data.toList = x := fun g => e (arr_eq.1 g)
    simp [e, h2]
theorem dn_no {ss : List (List UInt8)} (hn : ss.Nodup) {k : Nat} {x : List UInt8} (hx : ss[k]? = some x) : dn ss k ⟨x.toArray⟩ = false := by
  rw [dn]
  have : x ∉ ss.take k := fun h => by
    obtain ⟨i, hi⟩ := List.mem_iff_getElem?.1 h
    rw [List.getElem?_take] at hi
    split at hi
    · rename_i c
      obtain ⟨h1, e1⟩ := List.getElem?_eq_some_iff.1 hi
      obtain ⟨h2, e2⟩ := List.getElem?_eq_some_iff.1 hx
      exact List.pairwise_iff_getElem.1 hn i k h1 h2 c (e1.trans e2.symm)
    · cases hi
  simpa using this
theorem dn_all {ss : List (List UInt8)} {t : ByteArray} (h : t.data.toList ∈ ss) : dn ss ss.length t = true := by
  rw [dn, List.take_length]
  simpa using h
theorem mid_step {l : List Ver} {top : Int} (hT : OkT l top) (a : Int) {ss : List (List UInt8)} (hn : ss.Nodup) {k : Nat} {x : List UInt8} (hx : ss[k]? = some x) :
    hs (mid l a (dn ss k)) ⟨x.toArray⟩ = hs l ⟨x.toArray⟩ ∧ hs (mid l a (dn ss (k + 1))) ⟨x.toArray⟩ = (hs l ⟨x.toArray⟩).drop (unH (hs l ⟨x.toArray⟩) a) ∧ (∀ t, t ≠ ⟨x.toArray⟩ → hs (mid l a (dn ss (k + 1))) t = hs (mid l a (dn ss k)) t) ∧ (mid l a (dn ss (k + 1))).length + unH (hs l ⟨x.toArray⟩) a = (mid l a (dn ss k)).length := by
  have h0 := dn_no hn hx
  have hf : dn ss (k + 1) = fun t => dn ss k t || decide (t = ⟨x.toArray⟩) := funext (dn_succ hx)
  refine ⟨hs_mid_no h0, hs_mid_yes hT (by rw [hf]; simp), fun t ht => ?_, by rw [hf]; exact len_mid hT h0⟩
  have e : dn ss (k + 1) t = dn ss k t := by rw [dn_succ hx]; simp [ht]
  cases c : dn ss k t
  · rw [hs_mid_no c, hs_mid_no (e.trans c)]
  · rw [hs_mid_yes hT c, hs_mid_yes hT (e.trans c)]
end Vs
namespace Go.Proofs.YtickoadcficdeaaGreatDoor
open Go.RowKit Go.Maps Go.Sort Vs

theorem Mp.wide {w w1 w2 w3 : World} {F : Nat → Prop} {B M : Nat} {D : DataW Value} {l : List Ver} (h : Mp w3 (Nw (Nw F w w1) w2 w3) B M D l) (h1 : w.heap.size ≤ w1.heap.size) (h2 : w1.heap.size ≤ w2.heap.size) : Mp w3 (Nw F w w3) B M D l :=
  h.mono (fun j _ hj => by
    rcases hj with (hj | hj) | hj
    · exact .inl hj
    · exact .inr ⟨hj.1, by omega⟩
    · exact .inr ⟨by omega, hj.2⟩)
theorem Mp.wider {w w1 w2 : World} {F : Nat → Prop} {B M : Nat} {D : DataW Value} {l : List Ver} (h : Mp w2 (Nw F w w1) B M D l) : Mp w2 (Nw F w w2) B M D l :=
  h.mono (fun j _ hj => hj.imp id (fun hj => ⟨hj.1, by omega⟩))
theorem turned_but {w w' : World} {M : Nat} (h : w.grownBy w' (some M)) : But (fun j => j = M) w w' :=
  ⟨h.os, h.tape, h.output, h.size, fun k hk hF => h.block k hk (fun e => hF (Option.some.inj e))⟩
theorem HiC.dropped {w : World} {b : Nat} {l : List Ver} (h : HiC w b 0 l) (u : Nat) : HiC w b (u * 3) (l.drop u) := fun i x hx => by
  rw [List.getElem?_drop] at hx
  have := h _ x hx
  rw [show u * 3 + i * 3 = 0 + (u + i) * 3 from by omega]
  exact this

set_option maxHeartbeats 4000000 in
set_option maxRecDepth 100000 in
theorem collect {F : Nat → Prop} {B : Nat} {l : List Ver} {top : Int} (a : Int) (w : World) (hT : Tab w F B l top) (hO : OkT l top) (hl : l.length ≤ 1000) (hF : ∀ j, F j → j < w.heap.size) :
    Calls Tryz.prog 10 #[.pointer (some ⟨B, 0, none⟩), .int .i64 a] w fun e w' => e = .returned (.tuple #[.int .i64 ((l.length : Int) - (clS l a).length), ev (atF a)]) ∧ Tab w' (Nw F w w') B (clS l a) top ∧ But F w w' := by
  have hC := checkSight a
  by_cases h0 : atF a = 0
  · rw [show clS l a = vcol l a from if_pos h0, h0, ev_0]
    rw [h0, ev_0] at hC
    obtain ⟨M, D, m0, hM⟩ := hT.mp
    obtain ⟨own0, sz0⟩ := hM.tight
    have hMs := hM.lt
    have hBs := hT.lt
    have hMB := hM.ne
    have c1 := hT.c1
    have f1 := hT.f1
    have gB := hT.gB
    have gM := hM.gM
    have hK := mapKeys (some M) w
    have hS := sortedKeys M l.length D w own0 (by omega)
    have hkeys : Hid ((strKeys D).Nodup ∧ ∀ x, x ∈ strKeys D ↔ hs l ⟨x.toArray⟩ ≠ []) := by
      obtain ⟨k1, k2, _⟩ := nodup_keys own0 keyed Tryz.underlying9
      exact ⟨k1, fun x => by rw [k2 x, ← kS_of, hM.has]; simp⟩
    have hsA : (w.alloc (.cells #[.map (some M)] 57)).heap.size = w.heap.size + 1 := by simp
    rw [hsA] at hS
    clear hT h0
    go_enter Tryz.func10, Tryz.ntmps10
    go_wp2_with (first
      | (go_at_call 24; refine (hC _).mono ?_; rintro e w2 ⟨rfl, hw⟩; have := hw.symm; subst this)
      | (go_at_call 26; refine hK.mono ?_; rintro e w2 ⟨rfl, rfl⟩)
      | (go_at_call 25; refine hS.mono ?_; rintro e w1 ⟨v, ss, rfl, hP, hrow, hb1⟩; obtain ⟨p, cp, rfl⟩ := own_form hrow))
    have hbw : Below w.heap.size w w1 := (below_al (below_self w) _).trans (hb1.mono (by omega))
    have hsl : ss.length ≤ 1000 := by
      rw [hP.length_eq, (nodup_keys own0 keyed Tryz.underlying9).2.2]; omega
    have hnd : Hid (ss.Nodup ∧ ∀ x, x ∈ ss ↔ hs l ⟨x.toArray⟩ ≠ []) := ⟨hP.nodup_iff.2 hkeys.out.1, fun x => by rw [hP.mem_iff]; exact hkeys.out.2 x⟩
    have hM1 : Mp w1 (Nw F w w1) B M D (mid l a (dn ss 0)) := by
      rw [mid_none l a (fun x _ => dn_0 ss x.k)]
      exact (hM.step hbw).mono (fun j _ hj => .inl hj)
    have hn0 : Hid ((0 : Int) = (l.length : Int) - (mid l a (dn ss 0)).length) := by
      show _ = _
      rw [mid_none l a (fun x _ => dn_0 ss x.k)]; omega
    clear hK hS hkeys hP own0 hb1
    go_loopw [7, 24] (fun v i wr => ∃ (k : Nat) (n : Int) (D' : DataW Value), k ≤ ss.length ∧ i = .int .i64 k ∧ v = .int .i64 n ∧ Hid (n = (l.length : Int) - (mid l a (dn ss k)).length) ∧ Mp wr (Nw F w wr) B M D' (mid l a (dn ss k)) ∧ But (fun j => j = M) w wr ∧ wr.ownsRow (w.heap.size + 1) 9 1 (.slice p ss.length cp) ss.length (ss.map encStr))
      (fun _ i _ => ss.length - (intOf i).toNat)
    case atStart => exact ⟨0, 0, D, by omega, rfl, rfl, hn0, hM1, .below hbw, hrow⟩
    case round =>
      obtain ⟨k, n, D', hk, rfl, rfl, hN, hMr, hbr, hown⟩ := hrel
      clear hM1 hn0 hrow
      by_cases hlt : k < ss.length
      · obtain ⟨x, hx⟩ : ∃ x, ss[k]? = some x := ⟨ss[k], List.getElem?_eq_getElem hlt⟩
        obtain ⟨g0, cp0, e0⟩ := own_block hown (by omega)
        cases e0
        have ck : wr.cell? ⟨g0, k, none⟩ = some (.string ⟨x.toArray⟩) := by
          rw [hown.cellAt k (by omega)]
          simp [hx]
        obtain ⟨q1, q2, q3, q4⟩ := mid_step hO a hnd.out.1 hx
        have hne : hs l ⟨x.toArray⟩ ≠ [] := (hnd.out.2 x).1 (List.mem_of_getElem? hx)
        obtain ⟨s, hse⟩ : ∃ s : ByteArray, s = ⟨x.toArray⟩ := ⟨_, rfl⟩
        rw [← hse] at q1 q2 q3 q4 ck hne
        have hks : s.size ≤ maxLen := by
          obtain ⟨y, hy⟩ := List.exists_mem_of_ne_nil _ hne
          obtain ⟨y1, y2⟩ := mem_hs.1 hy
          have := (hO.each y y1).1.2.1
          rw [y2] at this
          unfold maxLen; omega
        have hkey := keyStr hks
        clear hx hse hks
        have hr := hMr.rows s
        rw [q1] at hr
        obtain ⟨_, g, c, lk, gF, gB', gM', orow⟩ := hr.resolve_left (fun e => hne e.1)
        obtain ⟨_, hc1, hc2⟩ := own_cap orow
        have hHC := hiC_own orow
        have hgl := own_lt orow
        have c0 := (hbr.cell (p := ⟨B, 0, none⟩) hBs (fun e => hMB e.symm)).trans m0
        obtain ⟨ownr, _⟩ := hMr.tight
        have hlm := len_mid_le l a (dn ss k)
        have hlm2 := len_mid_le l a (dn ss (k + 1))
        have hlk := run_look 57 9 73 keyed Tryz.underlying57 (zeroHist wr) M _ D' ownr (.string s) (kS s) hkey
        rw [lk, Option.getD_some] at hlk
        have hhl : (hs l s).length ≤ 1000 := Nat.le_trans (len_hs l s) hl
        have hU := unseen (some ⟨g, 0, none⟩) c (hs l s) a wr hhl (hs_up hO s) (fun _ => ⟨g, rfl, hgl, hHC⟩)
        have hul := unH_le (hs l s) a
        generalize unH (hs l s) a = u at hU q2 q4 hul
        have hN2 : Hid (n + (u : Int) = (l.length : Int) - (mid l a (dn ss (k + 1))).length) := by
          show _ = _
          rw [hN.out]; omega
        have hn0 : 0 ≤ n := by rw [hN.out]; omega
        have hn1 : n + (u : Int) ≤ 1000 := by rw [hN2.out]; omega
        have hBr : B < wr.heap.size := Nat.lt_of_lt_of_le hBs hbr.size
        have hMr2 : M < wr.heap.size := Nat.lt_of_lt_of_le hMs hbr.size
        have hlt' : (k : Int) < (ss.length : Int) := by omega
        have hszr := hbr.size
        clear hr hN q4 hlm hlm2
        by_cases hu0 : u = 0
        · subst hu0
          have hsame : ∀ t, hs (mid l a (dn ss (k + 1))) t = hs (mid l a (dn ss k)) t := fun t => by
            by_cases e : t = s
            · rw [e, q2, q1]; rfl
            · exact q3 t e
          have hM2 := hMr.same hsame
          have hN3 : Hid (n = (l.length : Int) - (mid l a (dn ss (k + 1))).length) := by show _ = _; rw [← hN2.out]; simp
          have hn3 : n ≤ 1000 := by omega
          clear hsame q1 q2 q3 hMr hN2 hn1
          go_wp2_with (go_at_call 27; refine hU.mono ?_; rintro e w2 ⟨rfl, hb2⟩)
          exact ⟨⟨k + 1, n, D', by omega, by go_num, by go_num, hN3, (hM2.step hb2).wider, hbr.step hb2, own_below hown hb2⟩, by simp [intOf]; omega⟩
        by_cases hul2 : u = (hs l s).length
        · rw [hul2, List.drop_length] at q2
          have g1 : ((u : Int) == 0) = false := by simpa using hu0
          have g2 : ((u : Int) == ((hs l s).length : Int)) = true := by simp [hul2]
          clear hul2 hul
          go_wp2_with (first
            | (go_at_call 27; refine hU.mono ?_; rintro e w2 ⟨rfl, hb2⟩; have own2 := map_but (F := fun _ => False) ownr (.below hb2) id; have c2 := (hb2.cell (p := ⟨B, 0, none⟩) hBr).trans c0)
            | (at_delete; refine wpList_delete_own _ rfl _ _ 57 9 rfl 73 keyed Tryz.underlying57 anyE M _ D' rfl own2 _ (kS s) rfl hkey ?_; intro w3 own3 ht3))
          have b3 := turned_but ht3.grown
          exact ⟨⟨k + 1, _, _, by omega, by go_num, rfl, hN2, (Mp.del (hMr.step hb2) q2 q3 own3 b3).wider, (hbr.step hb2).then b3 (fun _ _ => id), own_grown (own_below hown hb2) ht3.grown (fun j hj => by cases hj; omega)⟩, by simp [intOf]; omega⟩
        · have g1 : ((u : Int) == 0) = false := by simpa using hu0
          have g2 : ((u : Int) == ((hs l s).length : Int)) = false := by simpa using (fun e : (u : Int) = ((hs l s).length : Int) => hul2 (by omega))
          have hu3 : u < c := by omega
          have hd0 : (hs l s).drop u ≠ [] := fun e => by
            have := congrArg List.length e
            rw [List.length_drop] at this
            simp at this
            omega
          go_wp2_with (go_at_call 27; refine hU.mono ?_; rintro e w2 ⟨rfl, hb2⟩; have own2 := map_but (F := fun _ => False) ownr (.below hb2) id; have c2 := (hb2.cell (p := ⟨B, 0, none⟩) hBr).trans c0)
          have hMd : Mp w2.drew (Nw F w wr) B M D' (mid l a (dn ss k)) := (hMr.step hb2).step (below_self w2).drew
          have own2d : w2.drew.ownsMap Tryz.prog 9 anyE M (mid l a (dn ss k)).length D' := own2
          have hgd : g < w2.drew.heap.size := Nat.lt_of_lt_of_le hgl hb2.size
          have hBd : B < w2.drew.heap.size := Nat.lt_of_lt_of_le hBr hb2.size
          have hMd2 : M < w2.drew.heap.size := Nat.lt_of_lt_of_le hMr2 hb2.size
          have hszd : wr.heap.size ≤ w2.drew.heap.size := hb2.size
          have hCd : HiC w2.drew g 0 (hs l s) := (hHC.step hb2 hgl).step (below_self w2).drew (Nat.lt_of_lt_of_le hgl hb2.size)
          have hCl := clone g (u * 3) (c - u) ((hs l s).drop u) w2.drew (by rw [List.length_drop]; omega) hgd (hCd.dropped u)
          have hLd : ((hs l s).drop u).length = (hs l s).length - u := List.length_drop
          have hLp : 0 < ((hs l s).drop u).length := by omega
          have hcu : ¬ c = u := by omega
          have hmax : (mid l a (dn ss k)).length < maxLen := by
            have := len_mid_le l a (dn ss k)
            unfold maxLen; omega
          generalize hDe : (hs l s).drop u = d at hCl hLd hLp q2 hd0
          rw [hLd] at hCl hLp
          clear hDe hHC hCd hlk hU orow
          go_region_held3 (fun wy => wy.cell? ⟨B, 0, none⟩ = some (.map (some M))) (first | exact c2 | exact c3 | exact c4)
            (first
              | (go_at_call 28; (try rw [if_neg hcu]); refine hCl.mono ?_; rintro e w3 ⟨v3, rfl, row3, hb3⟩; have c3 := (hb3.cell (p := ⟨B, 0, none⟩) hBd).trans c2; have own3 := map_but (F := fun _ => False) own2d (.below hb3) id; obtain ⟨w4, hput, own4, hg4⟩ := own3.update keyed Tryz.underlying57 hmax hkey (val := v3) (d := .held v3) (ps := []) rfl; have b4 := turned_but hg4; have hs3 := hb3.size; have c4 := (b4.cell (p := ⟨B, 0, none⟩) (by show B < w3.heap.size; omega) (fun e => hMB e.symm)).trans c3))
          obtain ⟨g3, cc3, e3⟩ := own_block row3 hLp
          subst e3
          have hg3 : w2.drew.heap.size ≤ g3 := (row3.lt g3 rfl).1
          have gM3 : ¬ g3 = M := by omega
          have b24 : But (fun j => j = M) w2.drew w4 := (But.below hb3).then b4 (fun _ _ => id)
          have row4 : w4.ownsRow 0 64 3 (sl g3 ((hs l s).length - u) cc3) ((hs l s).length - u) (hiV d) := own_but (ownMono (Nat.zero_le _) row3) b4 gM3
          rw [← hLd] at row4 own4
          have hMp := Mp.set hMd hBd q2 hd0 q3 (.inr hg3) row4 own4 b24 (fun j _ e => .inl e)
          have hbd : But (fun j => j = M) w w2.drew := (hbr.step hb2).drew
          have hownk := own_grown (own_below (own_below (own_below hown hb2) (below_self w2).drew) hb3) hg4 (fun j hj => by cases hj; omega)
          clear hMd hMr own4 row4 row3 hput hcu hu3 hCl
          go_wp2_with fail
          exact ⟨⟨k + 1, _, _, by omega, by go_num, rfl, hN2, hMp.wide hszr hszd, hbd.then b24 (fun _ _ => id), hownk⟩, by simp [intOf]; omega⟩
      · have hkl : k = ss.length := by omega
        have hE : Hid (mid l a (dn ss k) = vcol l a) := by
          show _ = _
          rw [hkl]
          exact mid_all l a (fun x hx => dn_all ((hnd.out.2 _).2 (fun e => hs_nil.1 e x hx (by simp))))
        rw [hE.out] at hN hMr
        go_wp2
        go_ret2
        exact ⟨by rw [hN.out]; rfl, ⟨.inl gB, (hbr.cell (p := ⟨B, 1, none⟩) hBs (fun e => hMB e.symm)).trans c1, (hbr.frozen (p := ⟨B, 1, none⟩) hBs (fun e => hMB e.symm)).trans f1, M, D', (hbr.cell (p := ⟨B, 0, none⟩) hBs (fun e => hMB e.symm)).trans m0, hMr⟩, hbr.mono (fun j _ e => by rw [e]; exact gM)⟩
  · rw [show clS l a = l from if_neg h0, atF_ne h0, ev_ne (by decide)]
    rw [atF_ne h0, ev_ne (by decide)] at hC
    clear h0
    go_enter Tryz.func10, Tryz.ntmps10
    go_wp2_with (go_at_call 24; refine (hC _).mono ?_; rintro e w2 ⟨rfl, rfl⟩)
    go_ret2
    exact ⟨by simp, hT.mono (fun j _ hj => .inl hj), .refl _ _⟩
end Go.Proofs.YtickoadcficdeaaGreatDoor
