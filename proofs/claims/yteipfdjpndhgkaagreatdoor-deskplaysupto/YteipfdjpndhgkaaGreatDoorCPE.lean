/- The reference's desk: Get. -/
import Derived.Test.YteipfdjpndhgkaaGreatDoorCPA
import Derived.Test.YteipfdjpndhgkaaGreatDoorCPR
import Derived.Test.YteipfdjpndhgkaaGreatDoorCAppAt
namespace Go.Proofs.YteipfdjpndhgkaaGreatDoor
open Go.RowKit Vs

theorem shF_cases (k v : ByteArray) : shF k v = 0 ∨ shF k v = 2 := by
  unfold shF
  split
  · exact .inr rfl
  · exact .inl rfl
section
variable {w w' : World} {c : Nat → Int} {B L Tb : Nat} {v : Value} {g : Lg} {vs : List Ver} {top last ids : Int} {es : List Oq}
/-- Where one lies that is open. -/
theorem rd_pick {d : Dk} {i : Int} (ok : OkD d) (hop : es.map (·.x) = d.op) {k : Nat} {y : Oq} (hk : es[k]? = some y) (hi : y.x.id = i) : opI d i = some y.x ∧ (∀ (j : Nat) (z : Oq), es[j]? = some z → j ≠ k → z.x.id ≠ y.x.id) := by
  have hm : (d.op)[k]? = some y.x := by rw [← hop, List.getElem?_map, hk]; rfl
  refine ⟨by rw [← hi]; exact opI_is ok.ids (List.mem_of_getElem? hm), fun j z hz hne he => ?_⟩
  have hz' : (d.op)[j]? = some z.x := by rw [← hop, List.getElem?_map, hz]; rfl
  have hp := List.pairwise_iff_getElem.1 ok.ids
  obtain ⟨l1, g1⟩ := List.getElem?_eq_some_iff.1 hm
  obtain ⟨l2, g2⟩ := List.getElem?_eq_some_iff.1 hz'
  rcases Nat.lt_or_gt_of_ne hne with q | q
  · have := hp j k l2 l1 q; rw [g1, g2] at this; omega
  · have := hp k j l1 l2 q; rw [g1, g2] at this; omega
theorem rd_none {d : Dk} {i : Int} (hop : es.map (·.x) = d.op) (h : ∀ y ∈ es, y.x.id ≠ i) : opI d i = none := opI_none.2 (fun o ho => by
  rw [← hop] at ho
  obtain ⟨y, hy, rfl⟩ := List.mem_map.1 ho
  exact h y hy)
theorem rd_ops {d : Dk} (ok : OkD d) (hop : es.map (·.x) = d.op) {k : Nat} {y y' : Oq} (hk : es[k]? = some y) (hi : y'.x.id = y.x.id) : (es.set k y').map (·.x) = (opSet d y'.x).op := by
  obtain ⟨_, hid⟩ := rd_pick ok hop hk rfl
  show _ = d.op.map _
  rw [← hop, List.map_map]
  refine List.ext_getElem? (fun j => ?_)
  rw [List.getElem?_map, List.getElem?_map, List.getElem?_set]
  have hkl := (List.getElem?_eq_some_iff.1 hk).1
  by_cases e : k = j
  · subst e
    rw [if_pos rfl, if_pos hkl, hk]
    simp [hi]
  · rw [if_neg e]
    cases hz : es[j]? with
    | none => rfl
    | some z => simp [hi, hid j z hz (fun q => e q.symm)]
end
theorem RD.cells {w : World} {c : Nat → Int} {B L Tb r n cap k : Nat} {g : Lg} {vs : List Ver} {top last ids : Int} {es : List Oq} {e : Oq} (h : RD w c B L Tb (.slice (some ⟨r, 0, none⟩) n cap) g vs top last ids es) (hk : es[k]? = some e) : r < w.heap.size ∧ w.cell? ⟨r, k * 6, none⟩ = some (.int .i64 e.x.id) ∧ w.cell? ⟨r, k * 6 + 1, none⟩ = some (.int .i64 e.x.sees) ∧ w.cell? ⟨r, k * 6 + 2, none⟩ = some (.int .i64 e.x.asked) ∧ w.cell? ⟨r, k * 6 + 3, none⟩ = some e.ks ∧ w.cell? ⟨r, k * 6 + 4, none⟩ = some e.ss ∧ w.cell? ⟨r, k * 6 + 5, none⟩ = some e.os := by
  obtain ⟨r', cap', hv, _, hrl, _, _, a0, a1, a2, a3, a4, a5⟩ := h.at hk
  injection hv with h1 h2 h3
  injection h1 with h1
  injection h1 with h1
  subst h1
  exact ⟨hrl, a0, a1, a2, a3, a4, a5⟩
/-- Behind one that has asked. -/
theorem rd_asked {w w1 wc w' : World} {F : Nat → Prop} {c : Nat → Int} {x : Int} {B L Tb k : Nat} {v : Value} {d : Dk} {es : List Oq} {y y' : Oq} (hcF : ∀ j, c j ≠ 0 → F j) (hb1 : Below w.heap.size w w1) {E : Nat → Prop} (b10 : But E w1 wc) (hE : ∀ j, E j → c j ≠ 0) (hb2 : Below wc.heap.size wc w') (ok : OkD d) (hop : es.map (·.x) = d.op) (hk : es[k]? = some y) (hi : y'.x.id = y.x.id) (R : RD wc (rq c x w1 wc) B L Tb v d.lg d.vs d.top d.last d.ids (es.set k y')) :
    RDk w' (Nw F w w') B (opSet d y'.x) ∧ But F w w' := by
  have s1 := hb1.size
  have s2 := b10.size
  have s3 := hb2.size
  refine ⟨⟨_, L, Tb, v, _, R.step hb2, rd_ops ok hop hk hi, fun j hj => ?_⟩, ((But.below hb1 : But F w w1).then b10 (fun j _ q => hcF j (hE j q))).step hb2⟩
  rcases rq_F hcF j hj with q | q
  · exact .inl q
  · exact .inr ⟨by omega, by omega⟩
set_option maxRecDepth 100000 in
set_option maxHeartbeats 4000000 in
theorem drGet {w : World} {F : Nat → Prop} {B : Nat} {d : Dk} (i : Int) (key : ByteArray) (h : RDk w F B d) (ok : OkD d) (sm : Sm d) :
    Calls Tryz.prog 9 #[.pointer (some ⟨B, 0, none⟩), .int .i64 i, .string key] w fun e w' => e = .returned (.tuple #[.string (dgS d i key), .int .i64 (dgF d i key)]) ∧ RDk w' (Nw F w w') B (dgD d i key) ∧ But F w w' := by
  obtain ⟨c, L, Tb, v, es, h, hop, hcF⟩ := h
  have hfew := ok.few
  have hlen : es.length = d.op.length := by rw [← hop, List.length_map]
  have hvl := sm.vs ok
  have hsame : ∀ w', Below w.heap.size w w' → RDk w' (Nw F w w') B d := fun w' hb => ⟨c, L, Tb, v, es, h.step hb, hop, fun j hj => .inl (hcF j hj)⟩
  have KA := drAt h (by omega) i
  by_cases hno : ∃ (k : Nat) (y : Oq), es[k]? = some y ∧ y.x.id = i
  · obtain ⟨k, y, hk, hi⟩ := hno
    obtain ⟨hopi, hid⟩ := rd_pick ok hop hk hi
    have oko := ok.op y.x (opI_some hopi).1
    have KA' : Calls Tryz.prog 40 #[.pointer (some ⟨B, 0, none⟩), .int .i64 i] w fun e w' => e = .returned (.int .i64 (k : Int)) ∧ Below w.heap.size w w' := KA.mono (fun e w' ⟨q, hb⟩ => ⟨by
      rcases q with ⟨_, hn⟩ | ⟨k', y', rfl, hk', hi'⟩
      · exact absurd hi (hn y (List.mem_of_getElem? hk))
      · by_cases q : k' = k
        · rw [q]
        · exact absurd (hi'.trans hi.symm) (hid k' y' hk' q), hb⟩)
    have KF := fun w' => keyFault key ByteArray.empty w'
    have hkl := (List.getElem?_eq_some_iff.1 hk).1
    have hk0 : ¬ (k : Int) < 0 := by omega
    have hkl' : (k : Int) < (es.length : Int) := by omega
    by_cases hs0 : shF key ByteArray.empty = 0
    · by_cases h100 : 100 ≤ y.x.asked
      · have e1 : dgF d i key = 3 := by rw [dgF, hopi]; simp only; rw [if_pos hs0, if_pos h100]
        have e2 : dgS d i key = ByteArray.empty := by rw [dgS, hopi]; simp only; rw [if_pos hs0, if_pos h100]
        have e3 : dgD d i key = d := by rw [dgD, hopi]; simp only; rw [if_pos hs0, if_pos h100]
        rw [e1, e2, e3]
        rw [hs0] at KF
        obtain ⟨r, cap, rfl, hcap, hrl, hcr, hfr, a0, a1, a2, a3, a4, a5⟩ := h.at hk
        have c4' := fun w1 (hb1 : Below w.heap.size w w1) => (h.step hb1).c4
        have a2' := fun w1 (hb1 : Below w.heap.size w w1) => (hb1.cell (p := ⟨r, k * 6 + 2, none⟩) hrl).trans a2
        clear e1 e2 e3 hs0 KA a0 a1 a2 a3 a4 a5
        go_enter Tryz.func9, Tryz.ntmps9
        go_wp2_with (first
          | (go_at_call 40; refine KA'.mono ?_; rintro e w1 ⟨rfl, hb1⟩; have c4 := c4' w1 hb1; have a2 := a2' w1 hb1)
          | (go_at_call 41; refine (KF _).mono ?_; rintro e w2 ⟨rfl, hw⟩; have := hw.symm; subst this))
        go_ret2
        exact ⟨rfl, hsame _ hb1, .below hb1⟩
      · have e1 : dgF d i key = (if (seeO d.vs y.x.sees y.x.own key).isSome = true then 0 else 4) := by rw [dgF, hopi]; simp only; rw [if_pos hs0, if_neg h100]
        have e2 : dgS d i key = (seeO d.vs y.x.sees y.x.own key).getD ByteArray.empty := by rw [dgS, hopi]; simp only; rw [if_pos hs0, if_neg h100]
        have e3 : dgD d i key = opSet d (askK y.x key) := by rw [dgD, hopi]; simp only; rw [if_pos hs0, if_neg h100]
        rw [e3]
        have E1 : Hid _ := e1
        have E2 : Hid _ := e2
        rw [hs0] at KF
        obtain ⟨r, cap, rfl, hcap, hrl, hcr, hfr, a0, a1, a2, a3, a4, a5⟩ := h.at hk
        have c4' := fun w1 (hb1 : Below w.heap.size w w1) => (h.step hb1).c4
        have a2' := fun w1 (hb1 : Below w.heap.size w w1) => (hb1.cell (p := ⟨r, k * 6 + 2, none⟩) hrl).trans a2
        have f2' := fun w1 (hb1 : Below w.heap.size w w1) => (hb1.frozen (p := ⟨r, k * 6 + 2, none⟩) hrl).trans (hfr (k * 6 + 2))
        have hal : y.x.keys.length ≤ 1000 := by have := oko.asks; have := oko.a1; omega
        have hask : y.x.asked + 1 ≤ 9223372036854775807 := by have := oko.a1; omega
        have hask0 : 0 ≤ y.x.asked := oko.a0
        clear e1 e2 e3 hs0 KA a0 a1 a2 a3 a4 a5
        have HL : Hid _ := hlen
        clear hlen
        have hk' : ∀ e', (es.set k e')[k]? = some e' := fun e' => List.getElem?_set_self hkl
        have hsl : ∀ e', (es.set k e').length = es.length := fun e' => List.length_set
        go_enter Tryz.func9, Tryz.ntmps9
        go_upto_region 10 with (first
          | (go_at_call 40; refine KA'.mono ?_; rintro e w1 ⟨rfl, hb1⟩; have c4 := c4' w1 hb1; have a2 := a2' w1 hb1; have f2 := f2' w1 hb1)
          | (go_at_call 41; refine (KF _).mono ?_; rintro e w2 ⟨rfl, hw⟩; have := hw.symm; subst this))
        go_cut [] from 41 to 58 (fun wy => ∃ pk ck, But (fun j => c j = -2 ∨ c j = 2 * y.x.id) w1 wy ∧ RD wy (rq c (2 * y.x.id) w1 wy) B L Tb (.slice (some ⟨r, 0, none⟩) es.length cap) d.lg d.vs d.top d.last d.ids (es.set k ⟨askK y.x key, .slice pk (y.x.keys.length + 1) ck, y.ss, y.os⟩))
        case first =>
          obtain ⟨W, hW⟩ : ∃ W, W = w1.setCell ⟨r, k * 6 + 2, none⟩ (.int .i64 (y.x.asked + 1)) := ⟨_, rfl⟩
          rw [← hW]
          obtain ⟨pk, ck, w9, hr, f9, k9, W4, W3, w94, b10, R10⟩ := drAskK (h.step hb1) hk hid key hal hW
          have zW : W.heap.size = w1.heap.size := by rw [hW]; simp [World.setCell]
          have s1 := hb1.size
          have hB1 : B < W.heap.size := by rw [zW]; exact (h.step hb1).ltB
          have hBn : ¬ B = W.heap.size := by omega
          have hr1 : r < W.heap.size := by omega
          have hrn : ¬ r = W.heap.size := by omega
          have A4 := (World.cell?_alloc_lt W (.cells #[.string key] 9) ⟨B, 4, none⟩ hB1).trans W4
          have A3 := (World.cell?_alloc_lt W (.cells #[.string key] 9) ⟨r, k * 6 + 3, none⟩ hr1).trans W3
          clear hW zW
          have R : Hid _ := R10
          have BT : Hid _ := b10
          clear R10 b10 c4 a2 f2
          go_region_law (refine step_append_run rfl _ _ 86 rfl rfl rfl hr ?_)
          all_goals (go_wp2_with fail; go_meet; exact ⟨pk, ck, BT.out, R.out⟩)
        case rest =>
          obtain ⟨pk, ck, b10, R10⟩ := hcut
          clear c4' a2' f2' KA' KF hsame c4 a2 f2
          obtain ⟨hrl', a0, a1, a2, a3, a4, a5⟩ := R10.cells (hk' _)
          have c4 := R10.c4
          have c1 := R10.c1
          have a2 : wc.cell? ⟨r, k * 6 + 2, none⟩ = some (.int .i64 (y.x.asked + 1)) := a2
          have a0 : wc.cell? ⟨r, k * 6, none⟩ = some (.int .i64 y.x.id) := a0
          have a1 : wc.cell? ⟨r, k * 6 + 1, none⟩ = some (.int .i64 y.x.sees) := a1
          have hls : LsE wc _ y.os y.x.own := (R10.each _ (List.mem_of_getElem? (hk' _))).o
          have hown := oko.own
          have hol : y.x.own.length ≤ 20 := (chF_ok hown).1
          have KG := fun w2 (hb2 : Below wc.heap.size wc w2) => refGet key y.x.sees w2 ok.tb (R10.step hb2).tb (by omega)
          have hat := sees_at ok (opI_some hopi).1
          have E := fun w' (hb2 : Below wc.heap.size wc w') => rd_asked (y' := ⟨askK y.x key, .slice pk (y.x.keys.length + 1) ck, y.ss, y.os⟩) hcF hb1 b10 (fun j q => by have := oko.i1; omega) hb2 ok hop hk rfl R10
          have EH : Hid _ := E
          have RH : Hid _ := R10
          clear E R10 b10 h hop hk hid hi hopi
          obtain ⟨q, cq, eo, hq1, hq2, h4⟩ := hls
          rw [eo] at a5
          have KO := drOwn (X := _) y.x.id y.x.sees (y.x.asked + 1) (.slice pk (y.x.keys.length + 1) ck) y.ss (.slice q y.x.own.length cq) y.x.own key ⟨q, cq, rfl, hq1, hq2, h4⟩ (by omega)
          clear eo
          have hc4 := fun w2 (hb2 : Below wc.heap.size wc w2) => (hb2.cell (p := ⟨B, 4, none⟩) RH.out.ltB).trans c4
          have hc1 := fun w2 (hb2 : Below wc.heap.size wc w2) => (hb2.cell (p := ⟨B, 1, none⟩) RH.out.ltB).trans c1
          have ha1 := fun w2 (hb2 : Below wc.heap.size wc w2) => (hb2.cell (p := ⟨r, k * 6 + 1, none⟩) hrl').trans a1
          have ha5 := fun w2 (hb2 : Below wc.heap.size wc w2) => (hb2.cell (p := ⟨r, k * 6 + 5, none⟩) hrl').trans a5
          cases hc : ownC y.x.own key with
          | none =>
            have KO' : Calls Tryz.prog 42 #[.agg #[.int .i64 y.x.id, .int .i64 y.x.sees, .int .i64 (y.x.asked + 1), .slice pk (y.x.keys.length + 1) ck, y.ss, .slice q y.x.own.length cq], .string key] wc fun e w' => e = .returned (.int .i64 (-1)) ∧ Below wc.heap.size wc w' := KO.mono (fun e w' ⟨z, hb⟩ => ⟨by
              rcases z with ⟨z, _⟩ | ⟨j, x, rfl, hj, hx⟩
              · exact z
              · exact absurd hx (ownC_none.1 hc x (List.mem_of_getElem? hj)), hb⟩)
            have hsee : seeO d.vs y.x.sees y.x.own key = vget d.vs key y.x.sees := by rw [seeO, hc]
            have hgt : gtS d.vs key y.x.sees = (seeO d.vs y.x.sees y.x.own key).getD ByteArray.empty := by rw [hsee]; exact if_pos hat
            have hgf : gtF d.vs key y.x.sees = if (seeO d.vs y.x.sees y.x.own key).isSome = true then 0 else 4 := by rw [hsee]; exact if_pos hat
            have VH : Hid (Value.tuple #[.string (gtS d.vs key y.x.sees), .int .i64 (gtF d.vs key y.x.sees)] = Value.tuple #[.string (dgS d i key), .int .i64 (dgF d i key)]) := by
              show _ = _
              rw [E1.out, E2.out, hgt, hgf]
            clear hsee hgt hgf KO hc hat h4
            go_wp2_with (first
              | (go_at_call 42; refine KO'.mono ?_; rintro e w2 ⟨rfl, hb2⟩; have d4 := hc4 w2 hb2; have d1 := hc1 w2 hb2; have e1 := ha1 w2 hb2))
            go_region_with (go_at_call 43; refine (KG _ hb2.drew).mono ?_; rintro e w3 ⟨rfl, hb3⟩)
            all_goals go_wp2_with fail
            all_goals go_ret2
            all_goals exact ⟨congrArg Ending.returned VH.out, EH.out _ (below_via hb2.drew hb3)⟩
          | some x0 =>
            obtain ⟨hx0, hxk⟩ := ownC_some hc
            have KO' : Calls Tryz.prog 42 #[.agg #[.int .i64 y.x.id, .int .i64 y.x.sees, .int .i64 (y.x.asked + 1), .slice pk (y.x.keys.length + 1) ck, y.ss, .slice q y.x.own.length cq], .string key] wc fun e w' => (∃ j : Nat, y.x.own[j]? = some x0 ∧ e = .returned (.int .i64 (j : Int))) ∧ Below wc.heap.size wc w' := KO.mono (fun e w' ⟨z, hb⟩ => ⟨by
              rcases z with ⟨z, hn⟩ | ⟨j, x, rfl, hj, hx⟩
              · rw [hn] at hc; cases hc
              · have := ownC_is (chF_ris hown) (List.mem_of_getElem? hj)
                rw [hx, hc] at this
                cases this
                exact ⟨j, hj, rfl⟩, hb⟩)
            have hsee : seeO d.vs y.x.sees y.x.own key = if x0.g = true then none else some x0.v := by rw [seeO, hc]
            obtain ⟨b, off, rfl, hbl, _, hcs⟩ := h4 (List.length_pos_of_mem hx0)
            have SH : Hid _ := hsee
            have hcx : ∀ (j : Nat), y.x.own[j]? = some x0 → ∀ w2, Below wc.heap.size wc w2 → (w2.cell? ⟨b, off + j * 3 + 1, none⟩ = some (.string x0.v) ∧ w2.cell? ⟨b, off + j * 3 + 2, none⟩ = some (.bool x0.g)) ∧ (j : Int) < (y.x.own.length : Int) ∧ (0 : Int) ≤ (j : Int) := fun j hj w2 hb2 => by
              obtain ⟨_, u1, u2⟩ := hcs j x0 hj
              have := (List.getElem?_eq_some_iff.1 hj).1
              exact ⟨⟨(hb2.cell (p := ⟨b, _, none⟩) hbl).trans u1, (hb2.cell (p := ⟨b, _, none⟩) hbl).trans u2⟩, by omega, by omega⟩
            clear hsee KO hc hat hcs
            cases hg : x0.g with
            | true =>
              have VH : Hid (Value.tuple #[.string ByteArray.empty, .int .i64 4] = Value.tuple #[.string (dgS d i key), .int .i64 (dgF d i key)]) := by
                show _ = _
                rw [E1.out, E2.out, SH.out, hg]; rfl
              rw [hg] at hcx
              clear SH hg
              go_wp2_with (first
                | (go_at_call 42; refine KO'.mono ?_; rintro e w2 ⟨⟨j, hj, rfl⟩, hb2⟩; have d4 := hc4 w2 hb2; have e5 := ha5 w2 hb2; obtain ⟨⟨u1, u2⟩, hjl, hj0⟩ := hcx j hj w2 hb2))
              go_ret2
              exact ⟨congrArg Ending.returned VH.out, EH.out _ hb2⟩
            | false =>
              have VH : Hid (Value.tuple #[.string x0.v, .int .i64 0] = Value.tuple #[.string (dgS d i key), .int .i64 (dgF d i key)]) := by
                show _ = _
                rw [E1.out, E2.out, SH.out, hg]; rfl
              rw [hg] at hcx
              clear SH hg
              go_wp2_with (first
                | (go_at_call 42; refine KO'.mono ?_; rintro e w2 ⟨⟨j, hj, rfl⟩, hb2⟩; have d4 := hc4 w2 hb2; have e5 := ha5 w2 hb2; obtain ⟨⟨u1, u2⟩, hjl, hj0⟩ := hcx j hj w2 hb2))
              go_ret2
              exact ⟨congrArg Ending.returned VH.out, EH.out _ hb2⟩
    · have e1 : dgF d i key = 2 := by rw [dgF, hopi]; simp only; rw [if_neg hs0]
      have e2 : dgS d i key = ByteArray.empty := by rw [dgS, hopi]; simp only; rw [if_neg hs0]
      have e3 : dgD d i key = d := by rw [dgD, hopi]; simp only; rw [if_neg hs0]
      have e4 : shF key ByteArray.empty = 2 := by
        rcases shF_cases key ByteArray.empty with q | q
        · exact absurd q hs0
        · exact q
      rw [e1, e2, e3]
      rw [e4] at KF
      clear e1 e2 e3 e4 hs0 KA
      go_enter Tryz.func9, Tryz.ntmps9
      go_wp2_with (first
        | (go_at_call 40; refine KA'.mono ?_; rintro e w1 ⟨rfl, hb1⟩)
        | (go_at_call 41; refine (KF _).mono ?_; rintro e w2 ⟨rfl, hw⟩; have := hw.symm; subst this))
      go_ret2
      exact ⟨rfl, hsame _ hb1, .below hb1⟩
  · have hno' : ∀ y ∈ es, y.x.id ≠ i := fun y hy q => by
      obtain ⟨k, hk⟩ := List.getElem?_of_mem hy
      exact hno ⟨k, y, hk, q⟩
    have hopi := rd_none (d := d) hop hno'
    have KA' : Calls Tryz.prog 40 #[.pointer (some ⟨B, 0, none⟩), .int .i64 i] w fun e w' => e = .returned (.int .i64 (-1)) ∧ Below w.heap.size w w' := KA.mono (fun e w' ⟨q, hb⟩ => ⟨by
      rcases q with ⟨q, _⟩ | ⟨k', y', rfl, hk', hi'⟩
      · exact q
      · exact absurd ⟨k', y', hk', hi'⟩ hno, hb⟩)
    rw [show dgS d i key = ByteArray.empty from by rw [dgS, hopi], show dgF d i key = 4 from by rw [dgF, hopi], show dgD d i key = d from by rw [dgD, hopi]]
    clear KA hno
    go_enter Tryz.func9, Tryz.ntmps9
    go_wp2_with (go_at_call 40; refine KA'.mono ?_; rintro e w1 ⟨rfl, hb1⟩)
    go_ret2
    exact ⟨rfl, hsame _ hb1, .below hb1⟩
end Go.Proofs.YteipfdjpndhgkaaGreatDoor

/- The reference's desk: one that is open is closed. -/
namespace Go.Proofs.YteipfdjpndhgkaaGreatDoor
open Go.RowKit Vs

theorem eo_cut (l : List Oq) (j : Nat) : l.flatMap encO = (l.take j).flatMap encO ++ (l.drop j).flatMap encO := by rw [← List.flatMap_append, List.take_append_drop]
theorem eo_take {l : List Oq} {j i : Nat} {u : Value} (h : ((l.take j).flatMap encO)[i]? = some u) : (l.flatMap encO)[i]? = some u := by
  rw [eo_cut l j, List.getElem?_append_left (List.getElem?_eq_some_iff.1 h).1]; exact h
theorem eo_drop {l : List Oq} {j i : Nat} {u : Value} (hj : j ≤ l.length) (h : ((l.drop j).flatMap encO)[i]? = some u) : (l.flatMap encO)[j * 6 + i]? = some u := by
  rw [eo_cut l j, List.getElem?_append_right (by rw [encO_len, List.length_take]; omega), encO_len, List.length_take, Nat.min_eq_left hj, Nat.add_sub_cancel_left]; exact h
theorem eo_one {w : World} {c : Nat → Int} {l : List Oq} (h : ∀ e ∈ l, OqOk w c e) : ∀ u ∈ l.flatMap encO, u.oneCell' = true := by
  intro u hu
  obtain ⟨e, he, hx⟩ := List.mem_flatMap.1 hu
  have q := h e he
  obtain ⟨x, a, b, o⟩ := e
  obtain ⟨pa, ca, ea, _⟩ := lw_form q.k
  obtain ⟨pb, cb, eb, _⟩ := lw_form q.s
  obtain ⟨pc, cc, ec, _⟩ := q.o
  simp only at ea eb ec
  subst ea eb ec
  simp [encO] at hx
  rcases hx with rfl | rfl | rfl | rfl | rfl | rfl <;> rfl
set_option maxRecDepth 100000 in
set_option maxHeartbeats 4000000 in
theorem drClose {w : World} {c : Nat → Int} {B L Tb k : Nat} {v : Value} {g : Lg} {vs : List Ver} {top last ids : Int} {es : List Oq} {e : Oq} (h : RD w c B L Tb v g vs top last ids es) (hk : es[k]? = some e) (hel : es.length ≤ 8) :
    Calls Tryz.prog 54 #[.pointer (some ⟨B, 0, none⟩), .int .i64 (k : Int)] w fun ex w' => ex = .returned (.agg #[.int .i64 e.x.id, .int .i64 e.x.sees, .int .i64 e.x.asked, e.ks, e.ss, e.os]) ∧ (∃ v', RD w' (rq c (-2) w w') B L Tb v' g vs top last ids (es.eraseIdx k)) ∧ OqOk w' (rq c (-2) w w') e ∧ But (fun j => c j = -1 ∨ c j = -2) w w' := by
  obtain ⟨r, cap, rfl, hcap, hrl, hcr, hfr, a0, a1, a2, a3, a4, a5⟩ := h.at hk
  obtain ⟨_, _, qv, _, hcm, _⟩ := lw_form h.row
  cases qv
  have he := h.each e (List.mem_of_getElem? hk)
  obtain ⟨⟨xi, xs, xa, xk, xp, xo⟩, ks, ss, os⟩ := e
  obtain ⟨pa, ca, ea, _⟩ := lw_form he.k
  obtain ⟨pb, cb, eb, _⟩ := lw_form he.s
  obtain ⟨pc, cc, ec, _⟩ := he.o
  simp only at ea eb ec
  subst ea eb ec
  simp only at a0 a1 a2 a3 a4 a5
  have hkl := (List.getElem?_eq_some_iff.1 hk).1
  have hj' : (k : Int) < (es.length : Int) := by omega
  have hcp : (k : Int) ≤ (cap : Int) := by omega
  have hcp1 : (k : Int) + 1 ≤ (cap : Int) := by omega
  have hcp2 : (k : Int) + 1 ≤ (es.length : Int) := by omega
  have c4 := h.c4
  have hBl := h.ltB
  go_enter Tryz.func54, Tryz.ntmps54
  go_upto_region 3 with fail
  obtain ⟨wA, hA⟩ : ∃ wA, wA = (w.alloc (.cells #[.int .i64 0, .int .i64 0, .int .i64 0, .slice none 0 0, .slice none 0 0, .slice none 0 0] 90)).alloc (.cells #[.int .i64 xi, .int .i64 xs, .int .i64 xa, .slice pa xk.length ca, .slice pb xp.length cb, .slice pc xo.length cc] 90) := ⟨_, rfl⟩
  rw [← hA]
  have bA : Below w.heap.size w wA := by rw [hA]; exact below_al (below_al (below_self w) _) _
  have zA : wA.heap.size = w.heap.size + 2 := by rw [hA]; simp
  have q0 : wA.cell? ⟨w.heap.size + 1, 0, none⟩ = some (.int .i64 xi) := by rw [hA]; simp
  have q1 : wA.cell? ⟨w.heap.size + 1, 1, none⟩ = some (.int .i64 xs) := by rw [hA]; simp
  have q2 : wA.cell? ⟨w.heap.size + 1, 2, none⟩ = some (.int .i64 xa) := by rw [hA]; simp
  have q3 : wA.cell? ⟨w.heap.size + 1, 3, none⟩ = some (.slice pa xk.length ca) := by rw [hA]; simp
  have q4 : wA.cell? ⟨w.heap.size + 1, 4, none⟩ = some (.slice pb xp.length cb) := by rw [hA]; simp
  have q5 : wA.cell? ⟨w.heap.size + 1, 5, none⟩ = some (.slice pc xo.length cc) := by rw [hA]; simp
  have z0 : wA.cell? ⟨w.heap.size, 0, none⟩ = some (.int .i64 0) := by rw [hA]; simp
  have z1 : wA.cell? ⟨w.heap.size, 1, none⟩ = some (.int .i64 0) := by rw [hA]; simp
  have z2 : wA.cell? ⟨w.heap.size, 2, none⟩ = some (.int .i64 0) := by rw [hA]; simp
  have z3 : wA.cell? ⟨w.heap.size, 3, none⟩ = some (.slice none 0 0) := by rw [hA]; simp
  have z4 : wA.cell? ⟨w.heap.size, 4, none⟩ = some (.slice none 0 0) := by rw [hA]; simp
  have z5 : wA.cell? ⟨w.heap.size, 5, none⟩ = some (.slice none 0 0) := by rw [hA]; simp
  have zf : ∀ i, wA.frozen? ⟨w.heap.size, i, none⟩ = false := fun i => by rw [hA]; simp
  have hA' := h.step bA
  have c4A := hA'.c4
  have hrA : r < wA.heap.size := by omega
  have hNB : ¬ B = w.heap.size := by omega
  have hNB1 : ¬ B = w.heap.size + 1 := by omega
  have hNB2 : ¬ w.heap.size = B := by omega
  have hNB3 : ¬ w.heap.size + 1 = B := by omega
  clear hA
  have fin : ∀ (w5 w7 : World) (p5 : Option Addr) (m5 : Nat), w5.ownsRow wA.heap.size 90 6 (.slice p5 (k + (es.length - (k + 1))) m5) (k + (es.length - (k + 1))) ((es.take k).flatMap encO ++ (es.drop (k + 1)).flatMap encO) → Below wA.heap.size wA w5 → But (fun j => j = w.heap.size) (w5.setCell ⟨B, 4, none⟩ (.slice p5 (k + (es.length - (k + 1))) m5)) w7 →
      (∃ v', RD w7 (rq c (-2) w w7) B L Tb v' g vs top last ids (es.eraseIdx k)) ∧ OqOk w7 (rq c (-2) w w7) ⟨⟨xi, xs, xa, xk, xp, xo⟩, .slice pa xk.length ca, .slice pb xp.length cb, .slice pc xo.length cc⟩ ∧ But (fun j => c j = -1 ∨ c j = -2) w w7 := by
    intro w5 w7 p5 m5 own5 hbC b7
    have h5 := hA'.step (w' := w5) (by exact hbC)
    have z5 := hbC.size
    have bw5 : But (fun j => c j = -1 ∨ c j = -2) w w5 := .below (below_via bA hbC)
    have bw7 : But (fun j => c j = -1 ∨ c j = -2) w w7 := (bw5.setCell (p := ⟨B, 4, none⟩) (.inl (.inl h.cB)) _).then b7 (fun i hi q => by omega)
    have hB6 : B < (w5.setCell ⟨B, 4, none⟩ (.slice p5 (k + (es.length - (k + 1))) m5)).heap.size := by simp [World.setCell]; omega
    have hvb : ∀ j, (Value.slice p5 (k + (es.length - (k + 1))) m5).ownBlock = some j → wA.heap.size ≤ j ∧ j < w5.heap.size := fun j hj => rd_lt own5 hj
    have z7 := b7.size
    simp [World.setCell] at z7
    have row7 := row_but (row_but own5 (setB (B := B) (i := 4) (v := .slice p5 (k + (es.length - (k + 1))) m5)) (fun j hj q => by have := (hvb j hj).1; omega)) b7 (fun j hj q => by have := (hvb j hj).1; omega)
    refine ⟨⟨_, h.turn (v' := .slice p5 (k + (es.length - (k + 1))) m5) bw7 (fun j _ q => q) ((b7.cell (p := ⟨B, 0, none⟩) hB6 hNB).trans ((World.cell?_setCell_other _ _ _ _ (by intro q; injection q; omega)).trans h5.c0)) ((b7.cell (p := ⟨B, 1, none⟩) hB6 hNB).trans ((World.cell?_setCell_other _ _ _ _ (by intro q; injection q; omega)).trans h5.c1)) ((b7.cell (p := ⟨B, 2, none⟩) hB6 hNB).trans ((World.cell?_setCell_other _ _ _ _ (by intro q; injection q; omega)).trans h5.c2)) ((b7.cell (p := ⟨B, 3, none⟩) hB6 hNB).trans ((World.cell?_setCell_other _ _ _ _ (by intro q; injection q; omega)).trans h5.c3)) ((b7.cell (p := ⟨B, 4, none⟩) hB6 hNB).trans (World.cell?_setCell_same _ _ _ h5.c4)) (fun i hi => (b7.frozen (p := ⟨B, i, none⟩) hB6 hNB).trans (by simpa using h5.fz i hi)) ?_ (fun j hj => ?_) (fun e he => .inl (List.mem_of_mem_eraseIdx he))⟩, ?_, bw7⟩
    · have row8 : w7.ownsRow 0 90 6 (.slice p5 (k + (es.length - (k + 1))) m5) (k + (es.length - (k + 1))) ((es.take k).flatMap encO ++ (es.drop (k + 1)).flatMap encO) := ⟨row7.1, row7.2.elim .inl (fun ⟨g, cap, cur, a, _, r⟩ => .inr ⟨g, cap, cur, a, Nat.zero_le _, r⟩)⟩
      rw [List.eraseIdx_eq_take_drop_succ, List.length_append, List.length_take, List.length_drop, List.flatMap_append, Nat.min_eq_left (by omega)]
      exact row8
    · have := hvb j hj
      exact rq_new ⟨by omega, by omega⟩
    · have := he.one
      exact he.but bw7 (fun j hj q1 q2 => by simp only at q1 this; omega) (fun j hj => rq_old hj)
  have hN1 : w.heap.size + 1 < wA.heap.size := by omega
  have hN0 : w.heap.size < wA.heap.size := by omega
  have hBA : B < wA.heap.size := by omega
  clear zA
  go_upto_region 4 with (at_builtin; refine wpList_append_at 59 90 6 96 _ Tryz.underlying59 infoOpen rfl (by decide) (by decide) rfl _ _ rfl wA.heap.size _ 0 [] rfl (World.ownsRow_nil _ _ _ _) (Nat.le_refl _) r 0 k cap ((es.take k).flatMap encO) rfl (by rw [encO_len, List.length_take]; omega) (fun i u hi => by rw [Nat.zero_add, hA'.row.cellAt i (by have := (List.getElem?_eq_some_iff.1 hi).1; rw [encO_len, List.length_take] at this; omega)]; exact eo_take hi) (eo_one (fun e he => hA'.each e (List.mem_of_mem_take he))) (by omega) ?_; intro v4 w4 own4 hg4 hat4; have hbB : Below wA.heap.size wA w4 := (Below.refl _ _).grown hg4 (Nat.le_refl _) (fun k e => by cases e); have c4B := (hbB.cell (p := ⟨B, 4, none⟩) hBA).trans c4A)
  by_cases hcp3 : k + 1 < cap
  · go_wp2_with (at_builtin; (refine wpList_append_at 59 90 6 96 _ Tryz.underlying59 infoOpen rfl (by decide) (by decide) rfl _ _ rfl wA.heap.size _ (0 + k) ([] ++ (es.take k).flatMap encO) rfl own4 hbB.size r ((k + 1) * 6) _ _ ((es.drop (k + 1)).flatMap encO) rfl (by rw [encO_len, List.length_drop]) (fun i u hi => by rw [(hbB.cell (p := ⟨r, (k + 1) * 6 + i, none⟩) hrA), hA'.row.cellAt _ (by have := (List.getElem?_eq_some_iff.1 hi).1; rw [encO_len, List.length_drop] at this; omega)]; exact eo_drop (by omega) hi) (eo_one (fun e he => hA'.each e (List.mem_of_mem_drop he))) (by omega) ?_; intro v5 w5 own5 hg5 hat5; have hbC : Below wA.heap.size wA w5 := hbB.grown hg5 hbB.size (fun k e => (own4.lt k e).1); have q0 := (hbC.cell (p := ⟨w.heap.size + 1, 0, none⟩) hN1).trans q0; have q1 := (hbC.cell (p := ⟨w.heap.size + 1, 1, none⟩) hN1).trans q1; have q2 := (hbC.cell (p := ⟨w.heap.size + 1, 2, none⟩) hN1).trans q2; have q3 := (hbC.cell (p := ⟨w.heap.size + 1, 3, none⟩) hN1).trans q3; have q4 := (hbC.cell (p := ⟨w.heap.size + 1, 4, none⟩) hN1).trans q4; have q5 := (hbC.cell (p := ⟨w.heap.size + 1, 5, none⟩) hN1).trans q5; have z0 := (hbC.cell (p := ⟨w.heap.size, 0, none⟩) hN0).trans z0; have z1 := (hbC.cell (p := ⟨w.heap.size, 1, none⟩) hN0).trans z1; have z2 := (hbC.cell (p := ⟨w.heap.size, 2, none⟩) hN0).trans z2; have z3 := (hbC.cell (p := ⟨w.heap.size, 3, none⟩) hN0).trans z3; have z4 := (hbC.cell (p := ⟨w.heap.size, 4, none⟩) hN0).trans z4; have z5 := (hbC.cell (p := ⟨w.heap.size, 5, none⟩) hN0).trans z5; have g0 := (hbC.frozen (p := ⟨w.heap.size, 0, none⟩) hN0).trans (zf 0); have g1 := (hbC.frozen (p := ⟨w.heap.size, 1, none⟩) hN0).trans (zf 1); have g2 := (hbC.frozen (p := ⟨w.heap.size, 2, none⟩) hN0).trans (zf 2); have g3 := (hbC.frozen (p := ⟨w.heap.size, 3, none⟩) hN0).trans (zf 3); have g4 := (hbC.frozen (p := ⟨w.heap.size, 4, none⟩) hN0).trans (zf 4); have g5 := (hbC.frozen (p := ⟨w.heap.size, 5, none⟩) hN0).trans (zf 5); have c45 := (hbC.cell (p := ⟨B, 4, none⟩) hBA).trans c4A; have f45 := (hbC.frozen (p := ⟨B, 4, none⟩) hBA).trans (hA'.fz 4 (by decide)); obtain ⟨p5, m5, rfl, _⟩ := lw_form own5))
    refine bodyPost_ret (v := .agg #[.int .i64 xi, .int .i64 xs, .int .i64 xa, .slice pa xk.length ca, .slice pb xp.length cb, .slice pc xo.length cc]) (by simp [results, Tryz.results54, go_sem, z0, z1, z2, z3, z4, z5]) rfl ⟨rfl, ?_⟩
    exact fin w5 _ p5 m5 (by rw [Nat.zero_add, List.nil_append] at own5; exact own5) hbC (But.setCell (p := ⟨w.heap.size, 5, none⟩) (But.setCell (p := ⟨w.heap.size, 4, none⟩) (But.setCell (p := ⟨w.heap.size, 3, none⟩) (But.setCell (p := ⟨w.heap.size, 2, none⟩) (But.setCell (p := ⟨w.heap.size, 1, none⟩) (But.setCell (p := ⟨w.heap.size, 0, none⟩) (But.refl (fun j => j = w.heap.size) _) (.inl rfl) _) (.inl rfl) _) (.inl rfl) _) (.inl rfl) _) (.inl rfl) _) (.inl rfl) _)
  · have hcp4 : cap ≤ k + 1 := by omega
    clear hcp3
    go_wp2_with (at_builtin; (refine wpList_append_at 59 90 6 96 _ Tryz.underlying59 infoOpen rfl (by decide) (by decide) rfl _ _ rfl wA.heap.size _ (0 + k) ([] ++ (es.take k).flatMap encO) rfl own4 hbB.size r 0 _ _ ((es.drop (k + 1)).flatMap encO) rfl (by rw [encO_len, List.length_drop]) (fun i u hi => by have := (List.getElem?_eq_some_iff.1 hi).1; rw [encO_len, List.length_drop] at this; omega) (eo_one (fun e he => hA'.each e (List.mem_of_mem_drop he))) (by omega) ?_; intro v5 w5 own5 hg5 hat5; have hbC : Below wA.heap.size wA w5 := hbB.grown hg5 hbB.size (fun k e => (own4.lt k e).1); have q0 := (hbC.cell (p := ⟨w.heap.size + 1, 0, none⟩) hN1).trans q0; have q1 := (hbC.cell (p := ⟨w.heap.size + 1, 1, none⟩) hN1).trans q1; have q2 := (hbC.cell (p := ⟨w.heap.size + 1, 2, none⟩) hN1).trans q2; have q3 := (hbC.cell (p := ⟨w.heap.size + 1, 3, none⟩) hN1).trans q3; have q4 := (hbC.cell (p := ⟨w.heap.size + 1, 4, none⟩) hN1).trans q4; have q5 := (hbC.cell (p := ⟨w.heap.size + 1, 5, none⟩) hN1).trans q5; have z0 := (hbC.cell (p := ⟨w.heap.size, 0, none⟩) hN0).trans z0; have z1 := (hbC.cell (p := ⟨w.heap.size, 1, none⟩) hN0).trans z1; have z2 := (hbC.cell (p := ⟨w.heap.size, 2, none⟩) hN0).trans z2; have z3 := (hbC.cell (p := ⟨w.heap.size, 3, none⟩) hN0).trans z3; have z4 := (hbC.cell (p := ⟨w.heap.size, 4, none⟩) hN0).trans z4; have z5 := (hbC.cell (p := ⟨w.heap.size, 5, none⟩) hN0).trans z5; have g0 := (hbC.frozen (p := ⟨w.heap.size, 0, none⟩) hN0).trans (zf 0); have g1 := (hbC.frozen (p := ⟨w.heap.size, 1, none⟩) hN0).trans (zf 1); have g2 := (hbC.frozen (p := ⟨w.heap.size, 2, none⟩) hN0).trans (zf 2); have g3 := (hbC.frozen (p := ⟨w.heap.size, 3, none⟩) hN0).trans (zf 3); have g4 := (hbC.frozen (p := ⟨w.heap.size, 4, none⟩) hN0).trans (zf 4); have g5 := (hbC.frozen (p := ⟨w.heap.size, 5, none⟩) hN0).trans (zf 5); have c45 := (hbC.cell (p := ⟨B, 4, none⟩) hBA).trans c4A; have f45 := (hbC.frozen (p := ⟨B, 4, none⟩) hBA).trans (hA'.fz 4 (by decide)); obtain ⟨p5, m5, rfl, _⟩ := lw_form own5))
    refine bodyPost_ret (v := .agg #[.int .i64 xi, .int .i64 xs, .int .i64 xa, .slice pa xk.length ca, .slice pb xp.length cb, .slice pc xo.length cc]) (by simp [results, Tryz.results54, go_sem, z0, z1, z2, z3, z4, z5]) rfl ⟨rfl, ?_⟩
    exact fin w5 _ p5 m5 (by rw [Nat.zero_add, List.nil_append] at own5; exact own5) hbC (But.setCell (p := ⟨w.heap.size, 5, none⟩) (But.setCell (p := ⟨w.heap.size, 4, none⟩) (But.setCell (p := ⟨w.heap.size, 3, none⟩) (But.setCell (p := ⟨w.heap.size, 2, none⟩) (But.setCell (p := ⟨w.heap.size, 1, none⟩) (But.setCell (p := ⟨w.heap.size, 0, none⟩) (But.refl (fun j => j = w.heap.size) _) (.inl rfl) _) (.inl rfl) _) (.inl rfl) _) (.inl rfl) _) (.inl rfl) _) (.inl rfl) _)
end Go.Proofs.YteipfdjpndhgkaaGreatDoor

/- The reference's desk: Abort. -/
namespace Go.Proofs.YteipfdjpndhgkaaGreatDoor
open Go.RowKit Vs

theorem filt_er : ∀ (l : List Ox) (k : Nat) (o : Ox), l[k]? = some o → l.Pairwise (fun a b => a.id < b.id) → l.filter (fun x => !decide (x.id = o.id)) = l.eraseIdx k
  | y :: r, 0, o, h, hp => by
    cases Option.some.inj h
    obtain ⟨h1, _⟩ := List.pairwise_cons.1 hp
    rw [List.filter_cons, if_neg (by simp), List.eraseIdx_cons_zero]
    exact List.filter_eq_self.2 (fun a ha => by have := h1 a ha; simp; omega)
  | y :: r, k + 1, o, h, hp => by
    obtain ⟨h1, h2⟩ := List.pairwise_cons.1 hp
    have hr : r[k]? = some o := by simpa using h
    have := h1 o (List.mem_of_getElem? hr)
    rw [List.filter_cons, if_pos (by simp; omega), List.eraseIdx_cons_succ, filt_er r k o hr h2]
theorem rd_del {es : List Oq} {d : Dk} (ok : OkD d) (hop : es.map (·.x) = d.op) {k : Nat} {y : Oq} (hk : es[k]? = some y) : (es.eraseIdx k).map (·.x) = (opDel d y.x.id).op := by
  show _ = d.op.filter _
  rw [filt_er d.op k y.x (by rw [← hop, List.getElem?_map, hk]; rfl) ok.ids, ← hop, List.eraseIdx_eq_take_drop_succ, List.eraseIdx_eq_take_drop_succ, List.map_append, List.map_take, List.map_drop]
/-- One is found by its id. -/
theorem drFind {w : World} {c : Nat → Int} {B L Tb : Nat} {v : Value} {es : List Oq} {d : Dk} {i : Int} (h : RD w c B L Tb v d.lg d.vs d.top d.last d.ids es) (ok : OkD d) (hop : es.map (·.x) = d.op) :
    (opI d i = none ∧ Calls Tryz.prog 40 #[.pointer (some ⟨B, 0, none⟩), .int .i64 i] w fun e w' => e = .returned (.int .i64 (-1)) ∧ Below w.heap.size w w') ∨
    ∃ (k : Nat) (y : Oq), es[k]? = some y ∧ y.x.id = i ∧ opI d i = some y.x ∧ (∀ (j : Nat) (z : Oq), es[j]? = some z → j ≠ k → z.x.id ≠ y.x.id) ∧ Calls Tryz.prog 40 #[.pointer (some ⟨B, 0, none⟩), .int .i64 i] w fun e w' => e = .returned (.int .i64 (k : Int)) ∧ Below w.heap.size w w' := by
  have hfew := ok.few
  have hlen : es.length = d.op.length := by rw [← hop, List.length_map]
  have KA := drAt h (by omega) i
  by_cases hno : ∃ (k : Nat) (y : Oq), es[k]? = some y ∧ y.x.id = i
  · obtain ⟨k, y, hk, hi⟩ := hno
    obtain ⟨hopi, hid⟩ := rd_pick ok hop hk hi
    exact .inr ⟨k, y, hk, hi, hopi, hid, KA.mono (fun e w' ⟨q, hb⟩ => ⟨by
      rcases q with ⟨_, hn⟩ | ⟨k', y', rfl, hk', hi'⟩
      · exact absurd hi (hn y (List.mem_of_getElem? hk))
      · by_cases q : k' = k
        · rw [q]
        · exact absurd (hi'.trans hi.symm) (hid k' y' hk' q), hb⟩)⟩
  · have hno' : ∀ y ∈ es, y.x.id ≠ i := fun y hy q => by
      obtain ⟨k, hk⟩ := List.getElem?_of_mem hy
      exact hno ⟨k, y, hk, q⟩
    exact .inl ⟨rd_none (d := d) hop hno', KA.mono (fun e w' ⟨q, hb⟩ => ⟨by
      rcases q with ⟨q, _⟩ | ⟨k', y', rfl, hk', hi'⟩
      · exact q
      · exact absurd ⟨k', y', hk', hi'⟩ hno, hb⟩)⟩
/-- Behind one that was closed. -/
theorem rd_closed {w w1 wc : World} {F : Nat → Prop} {c : Nat → Int} {x : Int} {B L Tb k : Nat} {v : Value} {d : Dk} {es : List Oq} {y : Oq} (hcF : ∀ j, c j ≠ 0 → F j) (hb1 : Below w.heap.size w w1) (b10 : But (fun j => c j = -1 ∨ c j = -2) w1 wc) (ok : OkD d) (hop : es.map (·.x) = d.op) (hk : es[k]? = some y) (R : RD wc (rq c x w1 wc) B L Tb v d.lg d.vs d.top d.last d.ids (es.eraseIdx k)) :
    RDk wc (Nw F w wc) B (opDel d y.x.id) ∧ But F w wc := by
  have s1 := hb1.size
  have s2 := b10.size
  refine ⟨⟨_, L, Tb, v, _, R, rd_del ok hop hk, fun j hj => ?_⟩, ((But.below hb1 : But F w w1).then b10 (fun j _ q => hcF j (by omega)))⟩
  rcases rq_F hcF j hj with q | q
  · exact .inl q
  · exact .inr ⟨by omega, by omega⟩
set_option maxRecDepth 100000 in
set_option maxHeartbeats 4000000 in
theorem drAbort {w : World} {F : Nat → Prop} {B : Nat} {d : Dk} (i : Int) (h : RDk w F B d) (ok : OkD d) :
    Calls Tryz.prog 19 #[.pointer (some ⟨B, 0, none⟩), .int .i64 i] w fun e w' => e = .returned (.int .i64 (abF d i)) ∧ RDk w' (Nw F w w') B (opDel d i) ∧ But F w w' := by
  obtain ⟨c, L, Tb, v, es, h, hop, hcF⟩ := h
  have hfew := ok.few
  have hlen : es.length = d.op.length := by rw [← hop, List.length_map]
  rcases drFind (i := i) h ok hop with ⟨hn, KA⟩ | ⟨k, y, hk, hi, hopi, hid, KA⟩
  · have e2 : opDel d i = d := by
      have : d.op.filter (fun o => !decide (o.id = i)) = d.op := List.filter_eq_self.2 (fun o ho => by have := opI_none.1 hn o ho; simpa using this)
      show { d with op := d.op.filter (fun o => !decide (o.id = i)) } = d
      rw [this]
    rw [show abF d i = 4 from by rw [abF, hn]; rfl, e2]
    go_enter Tryz.func19, Tryz.ntmps19
    go_wp2_with (go_at_call 40; refine KA.mono ?_; rintro e w1 ⟨rfl, hb1⟩)
    go_ret
    exact ⟨rfl, ⟨c, L, Tb, v, es, h.step hb1, hop, fun j hj => .inl (hcF j hj)⟩, .below hb1⟩
  · rw [show abF d i = 0 from by rw [abF, hopi]; rfl, ← hi]
    have KC := fun w1 (hb1 : Below w.heap.size w w1) => drClose (h.step hb1) hk (by omega)
    have hk0 : ¬ (k : Int) < 0 := by omega
    have K : ∀ w1 wc v', Below w.heap.size w w1 → RD wc (rq c (-2) w1 wc) B L Tb v' d.lg d.vs d.top d.last d.ids (es.eraseIdx k) → But (fun j => c j = -1 ∨ c j = -2) w1 wc → _ := fun w1 wc v' hb1 R b => rd_closed hcF hb1 b ok hop hk R
    rw [← hi] at KA
    clear hlen hi hopi
    go_enter Tryz.func19, Tryz.ntmps19
    go_wp2_with (first
      | (go_at_call 40; refine KA.mono ?_; rintro e w1 ⟨rfl, hb1⟩)
      | (go_at_call 54; refine (KC _ hb1).mono ?_; rintro e w2 ⟨rfl, ⟨v', R⟩, _, b2⟩))
    go_ret
    exact ⟨rfl, K w1 w2 v' hb1 R b2⟩
end Go.Proofs.YteipfdjpndhgkaaGreatDoor
