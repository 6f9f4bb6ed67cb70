/- The contract of the reference's ChangesOf. -/
import Derived.Test.YtoacbiefhdkkpaaDoorCdRefB
import Derived.Test.YtoacbiefhdkkpaaDoorCdRow
import Derived.Test.YtoacbiefhdkkpaaDoorCdMath2
namespace Go.Proofs.YtoacbiefhdkkpaaDoor
open Go.RowKit Go.Lib

/-- What is answered. -/
def Res (w : World) (D : Option (List Vs.Chg)) (e : Ending) (w' : World) : Prop :=
  (D = none → e = .returned (.tuple #[.slice none 0 0, .int .i64 5])) ∧ (∀ l, D = some l → ∃ v, e = .returned (.tuple #[v, .int .i64 0]) ∧ w'.ownsRow w.heap.size 40 3 v l.length (chV l)) ∧ Below w.heap.size w w'

theorem res_none {w w' : World} {D : Option (List Vs.Chg)} (h : D = none) (hb : Below w.heap.size w w') : Res w D (.returned (.tuple #[.slice none 0 0, .int .i64 5])) w' :=
  ⟨fun _ => rfl, fun l e => (by rw [h] at e; cases e), hb⟩
theorem res_some {w w' : World} {D : Option (List Vs.Chg)} {v : Value} {l : List Vs.Chg} (h : D = some l) (ho : w'.ownsRow w.heap.size 40 3 v l.length (chV l)) (hb : Below w.heap.size w w') : Res w D (.returned (.tuple #[v, .int .i64 0])) w' :=
  ⟨fun e => (by rw [h] at e; cases e), fun m e => (by rw [h] at e; cases e; exact ⟨_, rfl, ho⟩), hb⟩

set_option maxRecDepth 20000 in
set_option maxHeartbeats 4000000 in
theorem changesOf (bs : List UInt8) (p : Option Addr) (cp : Nat) (w : World) (hl : bs.length ≤ 9223372036854775807) (hcp : bs.length ≤ cp) (hp : ByAt w p bs) :
    Calls Tryd.prog 10 #[.slice p bs.length cp] w fun e w' => Res w (Vs.dec bs) e w' := by
  by_cases h0 : bs.length < 1
  · have hd : Vs.dec bs = none := by
      cases bs with
      | nil => rfl
      | cons => simp at h0; 
    rw [hd]
    have h0' : (bs.length : Int) < 1 := by omega
    go_enter Tryd.func10, Tryd.ntmps10
    go_wp2
    go_ret2
    exact res_none rfl (below_self _)
  obtain ⟨b, off, rfl, hbl, hc⟩ := hp (by omega)
  obtain ⟨D, hD⟩ : ∃ D, D = Vs.dec bs := ⟨_, rfl⟩
  rw [← hD]
  obtain ⟨n, hn⟩ : ∃ n, bs[0]? = some n := ⟨bs[0]'(by omega), List.getElem?_eq_getElem (by omega)⟩
  replace hD : Hid (D = Vs.fin (Vs.decG [] (n.toNat - 0) (bs.drop 1))) := by
    show _ = _
    cases bs with
    | nil => cases hn
    | cons m r => rw [hD, Vs.dec_fin]; simp at hn; rw [hn]; rfl
  have h0' : ¬ (bs.length : Int) < 1 := by omega
  have hn255 : n.toNat < 256 := n.toNat_lt
  go_enter Tryd.func10, Tryd.ntmps10
  go_wp2
  go_loopw [4, 5, 6] (fun v s i wr => ∃ (k a : Nat) (o : List Vs.Chg), k ≤ n.toNat ∧ i = .int .i64 k ∧ s = .int .i64 a ∧ a ≤ bs.length ∧ Hid (a ≤ 1 + k * 400) ∧ Hid (D = Vs.fin (Vs.decG o (n.toNat - k) (bs.drop a))) ∧ Hid (o.length = k) ∧ wr.ownsRow w.heap.size 40 3 v o.length (chV o) ∧ Below w.heap.size w wr) (fun _ _ i _ => n.toNat - (intOf i).toNat)
  case atStart => exact ⟨0, 1, [], by omega, rfl, rfl, by omega, by show _ ≤ _; omega, hD, rfl, World.ownsRow_nil _ _ _ _, below_self _⟩
  case round =>
    clear hD
    obtain ⟨k, a, o, hk, rfl, rfl, ha, hA, hM, hO, hown, hb⟩ := hrel
    have ha2 : a ≤ 103000 := by have := hA.out; omega
    have hws := hb.size
    have hc' := hc.step hbl hb
    have e0 := hc' 0 n hn
    rw [Nat.add_zero] at e0
    by_cases hlt : k < n.toNat
    · have hlt' : decide ((k : Int) < (n.toNat : Int)) = true := by simp; omega
      have hm : n.toNat - k = (n.toNat - (k + 1)) + 1 := by omega
      replace hM : Hid (D = Vs.fin (Vs.decS o (n.toNat - (k + 1)) (Vs.decC (bs.drop a)))) := by
        show _ = _
        rw [hM.out, hm, Vs.decG_step]
      by_cases hal : a < bs.length
      · have hal' : decide ((bs.length : Int) ≤ (a : Int)) = false := by simp; omega
        obtain ⟨m, hm2⟩ : ∃ m, bs[a]? = some m := ⟨bs[a], List.getElem?_eq_getElem hal⟩
        have e1 := hc' a m hm2
        have hm255 : m.toNat < 256 := m.toNat_lt
        have hdc := Vs.decC_at hm2
        rw [hdc] at hM
        clear hdc
        by_cases h1 : bs.length < a + 1 + m.toNat % 128
        · have E : Hid (D = none) := by show _ = _; rw [hM.out, if_pos h1]; rfl
          have h1' : decide ((bs.length : Int) < (a : Int) + 1 + (m.toNat : Int) % 128) = true := by simp; omega
          clear hM
          go_wp2
          go_ret2
          exact res_none E.out (below_al hb _)
        · have h1' : decide ((bs.length : Int) < (a : Int) + 1 + (m.toNat : Int) % 128) = false := by simp; omega
          by_cases h2 : 127 < m.toNat
          · have h2' : decide ((127 : Int) < (m.toNat : Int)) = true := by simp; omega
            have E : Hid (D = Vs.fin (Vs.decG (o ++ [⟨Vs.cutB bs (a + 1) (m.toNat % 128), ByteArray.empty, true⟩]) (n.toNat - (k + 1)) (bs.drop (a + 1 + m.toNat % 128)))) := by
              show _ = _; rw [hM.out, if_neg h1, if_pos h2]; rfl
            clear hM
            generalize hK : Vs.cutB bs (a + 1) (m.toNat % 128) = K at E
            by_cases h7 : cp ≤ a + 1
            · have cv := byCv (hc'.step (Nat.lt_of_lt_of_le hbl hws) (below_al (below_self wr) (.cells #[.string ⟨#[]⟩, .string ⟨#[]⟩, .bool true] 40))) 0 (m.toNat % 128) 0 (by omega)
              rw [Vs.cutB_none 0 (a + 1) (by omega), hK, Nat.add_zero] at cv
              clear hK
              go_wp2_with (first
                | (at_builtin; refine wpList_append_one 22 40 3 40 _ Tryd.underlying22 infoChg rfl (by decide) (by decide) rfl _ _ rfl w.heap.size _ o.length (chV o) rfl ((own_below hown (below_al (below_self wr) (.cells #[.string K, .string ⟨#[]⟩, .bool true] 40))).alloc _) (by simp; omega) (wr.heap.size + 1) [.string K, .string ⟨#[]⟩, .bool true] rfl rfl (chg_new (by simp)) chg_one (by have := hO.out; omega) ?_; intro v2 w2 hown2 hgrow2; have hb2 : Below w.heap.size w w2 := (below_al (below_al hb _) _).grown hgrow2 (by simp; omega) (fun j hj => (hown.lt j hj).1); clear hgrow2)
                | go_in)
              exact ⟨⟨k + 1, a + 1 + m.toNat % 128, o ++ [⟨K, ByteArray.empty, true⟩], by omega, by go_num, by go_num, by omega, by show _ ≤ _; have := hA.out; omega, E, by show _ = _; have := hO.out; simp; omega, own_chg hown2, hb2⟩, by simp [intOf]; omega⟩
            · have cv := byCv (hc'.step (Nat.lt_of_lt_of_le hbl hws) (below_al (below_self wr) (.cells #[.string ⟨#[]⟩, .string ⟨#[]⟩, .bool true] 40))) (a + 1) (m.toNat % 128) (cp - (a + 1)) (by omega)
              rw [hK] at cv
              clear hK
              go_wp2_with (first
                | (at_builtin; refine wpList_append_one 22 40 3 40 _ Tryd.underlying22 infoChg rfl (by decide) (by decide) rfl _ _ rfl w.heap.size _ o.length (chV o) rfl ((own_below hown (below_al (below_self wr) (.cells #[.string K, .string ⟨#[]⟩, .bool true] 40))).alloc _) (by simp; omega) (wr.heap.size + 1) [.string K, .string ⟨#[]⟩, .bool true] rfl rfl (chg_new (by simp)) chg_one (by have := hO.out; omega) ?_; intro v2 w2 hown2 hgrow2; have hb2 : Below w.heap.size w w2 := (below_al (below_al hb _) _).grown hgrow2 (by simp; omega) (fun j hj => (hown.lt j hj).1); clear hgrow2)
                | go_in)
              exact ⟨⟨k + 1, a + 1 + m.toNat % 128, o ++ [⟨K, ByteArray.empty, true⟩], by omega, by go_num, by go_num, by omega, by show _ ≤ _; have := hA.out; omega, E, by show _ = _; have := hO.out; simp; omega, own_chg hown2, hb2⟩, by simp [intOf]; omega⟩
          · have h2' : decide ((127 : Int) < (m.toNat : Int)) = false := by simp; omega
            replace hM : Hid (D = Vs.fin (Vs.decS o (n.toNat - (k + 1)) (Vs.decV bs (Vs.cutB bs (a + 1) (m.toNat % 128)) (a + 1 + m.toNat % 128) bs[a + 1 + m.toNat % 128]?))) := by
              show _ = _; rw [hM.out, if_neg h1, if_neg h2]
            generalize hK : Vs.cutB bs (a + 1) (m.toNat % 128) = K at hM
            by_cases h3 : a + 1 + m.toNat % 128 < bs.length
            · have h3' : decide ((bs.length : Int) ≤ (a : Int) + 1 + (m.toNat : Int) % 128) = false := by simp; omega
              have h7 : a + 1 < cp := by omega
              have cv := byCv (hc'.step (Nat.lt_of_lt_of_le hbl hws) (below_al (below_self wr) (.cells #[.string ⟨#[]⟩, .string ⟨#[]⟩, .bool false] 40))) (a + 1) (m.toNat % 128) (cp - (a + 1)) (by omega)
              rw [hK] at cv
              clear hK
              obtain ⟨q, hq⟩ : ∃ q, bs[a + 1 + m.toNat % 128]? = some q := ⟨bs[a + 1 + m.toNat % 128], List.getElem?_eq_getElem h3⟩
              have hq255 : q.toNat < 256 := q.toNat_lt
              have hcW := hc'.step (Nat.lt_of_lt_of_le hbl hws) (below_al (below_self wr) (.cells #[.string K, .string ⟨#[]⟩, .bool false] 40))
              have e3 := hcW (a + 1 + m.toNat % 128) q hq
              rw [hq] at hM
              by_cases h4 : bs.length < a + 1 + m.toNat % 128 + 1 + q.toNat
              · have h4' : decide ((bs.length : Int) < (a : Int) + 1 + (m.toNat : Int) % 128 + 1 + (q.toNat : Int)) = true := by simp; omega
                have E : Hid (D = none) := by show _ = _; rw [hM.out]; show Vs.fin (Vs.decS _ _ (if _ then _ else _)) = _; rw [if_pos h4]; rfl
                clear hM
                go_wp2
                go_ret2
                exact res_none E.out (below_al hb _)
              · have h4' : decide ((bs.length : Int) < (a : Int) + 1 + (m.toNat : Int) % 128 + 1 + (q.toNat : Int)) = false := by simp; omega
                replace hM : Hid (D = Vs.fin (Vs.decG (o ++ [⟨K, Vs.cutB bs (a + 1 + m.toNat % 128 + 1) q.toNat, false⟩]) (n.toNat - (k + 1)) (bs.drop (a + 1 + m.toNat % 128 + 1 + q.toNat)))) := by
                  show _ = _; rw [hM.out]; show Vs.fin (Vs.decS _ _ (if _ then _ else _)) = _; rw [if_neg h4]; rfl
                generalize hL : Vs.cutB bs (a + 1 + m.toNat % 128 + 1) q.toNat = L at hM
                by_cases h8 : cp ≤ a + 1 + m.toNat % 128 + 1
                · have cv2 := byCv hcW 0 q.toNat 0 (by omega)
                  rw [Vs.cutB_none 0 (a + 1 + m.toNat % 128 + 1) (by omega), hL, Nat.add_zero] at cv2
                  clear hL
                  go_wp2_with (first
                    | (at_builtin; refine wpList_append_one 22 40 3 40 _ Tryd.underlying22 infoChg rfl (by decide) (by decide) rfl _ _ rfl w.heap.size _ o.length (chV o) rfl ((own_below hown (below_al (below_self wr) (.cells #[.string K, .string L, .bool false] 40))).alloc _) (by simp; omega) (wr.heap.size + 1) [.string K, .string L, .bool false] rfl rfl (chg_new (by simp)) chg_one (by have := hO.out; omega) ?_; intro v2 w2 hown2 hgrow2; have hb2 : Below w.heap.size w w2 := (below_al (below_al hb _) _).grown hgrow2 (by simp; omega) (fun j hj => (hown.lt j hj).1); clear hgrow2)
                    | go_in)
                  exact ⟨⟨k + 1, a + 1 + m.toNat % 128 + 1 + q.toNat, o ++ [⟨K, L, false⟩], by omega, by go_num, by go_num, by omega, by show _ ≤ _; have := hA.out; omega, hM, by show _ = _; have := hO.out; simp; omega, own_chg hown2, hb2⟩, by simp [intOf]; omega⟩
                · have cv2 := byCv hcW (a + 1 + m.toNat % 128 + 1) q.toNat (cp - (a + 1 + m.toNat % 128 + 1)) (by omega)
                  rw [hL] at cv2
                  clear hL
                  go_wp2_with (first
                    | (at_builtin; refine wpList_append_one 22 40 3 40 _ Tryd.underlying22 infoChg rfl (by decide) (by decide) rfl _ _ rfl w.heap.size _ o.length (chV o) rfl ((own_below hown (below_al (below_self wr) (.cells #[.string K, .string L, .bool false] 40))).alloc _) (by simp; omega) (wr.heap.size + 1) [.string K, .string L, .bool false] rfl rfl (chg_new (by simp)) chg_one (by have := hO.out; omega) ?_; intro v2 w2 hown2 hgrow2; have hb2 : Below w.heap.size w w2 := (below_al (below_al hb _) _).grown hgrow2 (by simp; omega) (fun j hj => (hown.lt j hj).1); clear hgrow2)
                    | go_in)
                  exact ⟨⟨k + 1, a + 1 + m.toNat % 128 + 1 + q.toNat, o ++ [⟨K, L, false⟩], by omega, by go_num, by go_num, by omega, by show _ ≤ _; have := hA.out; omega, hM, by show _ = _; have := hO.out; simp; omega, own_chg hown2, hb2⟩, by simp [intOf]; omega⟩
            · have h3' : decide ((bs.length : Int) ≤ (a : Int) + 1 + (m.toNat : Int) % 128) = true := by simp; omega
              have E : Hid (D = none) := by show _ = _; rw [hM.out, List.getElem?_eq_none_iff.2 (by omega)]; rfl
              clear hM
              by_cases h7 : cp ≤ a + 1
              · have cv := byCv (hc'.step (Nat.lt_of_lt_of_le hbl hws) (below_al (below_self wr) (.cells #[.string ⟨#[]⟩, .string ⟨#[]⟩, .bool false] 40))) 0 (m.toNat % 128) 0 (by omega)
                rw [Vs.cutB_none 0 (a + 1) (by omega), hK, Nat.add_zero] at cv
                clear hK
                go_wp2
                go_ret2
                exact res_none E.out (below_al hb _)
              · have cv := byCv (hc'.step (Nat.lt_of_lt_of_le hbl hws) (below_al (below_self wr) (.cells #[.string ⟨#[]⟩, .string ⟨#[]⟩, .bool false] 40))) (a + 1) (m.toNat % 128) (cp - (a + 1)) (by omega)
                rw [hK] at cv
                clear hK
                go_wp2
                go_ret2
                exact res_none E.out (below_al hb _)
      · have hal' : decide ((bs.length : Int) ≤ (a : Int)) = true := by simp; omega
        have E : Hid (D = none) := by
          show _ = _
          rw [hM.out, List.drop_eq_nil_of_le (by omega)]; rfl
        clear hM
        go_wp2
        go_ret2
        exact res_none E.out hb
    · have hlt' : decide ((k : Int) < (n.toNat : Int)) = false := by simp; omega
      have hM : Hid (D = Vs.fin (some (o, bs.drop a))) := by
        show _ = _
        rw [hM.out, show n.toNat - k = 0 from by omega, Vs.decG_zero]
      obtain ⟨p', cp', rfl⟩ := own_form hown
      by_cases h5 : a = bs.length
      · subst h5
        have hAt := (chAt_own hown).2
        have K := changesFault o p' cp' wr (by have := hO.out; omega) hAt
        have hD2 : Hid (D = if Vs.chF o = 0 then some o else none) := by
          show _ = _
          rw [hM.out, List.drop_eq_nil_of_le (Nat.le_refl _)]; rfl
        clear hM
        by_cases h6 : Vs.chF o = 0
        · rw [h6] at K
          have E : Hid (D = some o) := by show _ = _; rw [hD2.out, if_pos h6]
          clear hD2
          go_wp2_with (go_at_call 5; refine K.mono ?_; rintro e w2 ⟨rfl, hb2⟩)
          go_ret2
          exact res_some E.out (own_below hown hb2) (below_via hb hb2)
        · have E : Hid (D = none) := by show _ = _; rw [hD2.out, if_neg h6]
          have h6' : (Vs.chF o != 0) = true := by simpa using h6
          generalize Vs.chF o = z at K h6'
          clear hD2 h6
          go_wp2_with (go_at_call 5; refine K.mono ?_; rintro e w2 ⟨rfl, hb2⟩)
          go_ret2
          exact res_none E.out (below_via hb hb2)
      · have h5' : ((a : Int) != (bs.length : Int)) = true := by simp; omega
        have E : Hid (D = none) := by
          show _ = _
          rw [hM.out, List.drop_eq_getElem_cons (show a < bs.length by omega)]; rfl
        clear hM
        go_wp2
        go_ret2
        exact res_none E.out hb
end Go.Proofs.YtoacbiefhdkkpaaDoor
