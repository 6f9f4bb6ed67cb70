/- The contracts of slices.DeleteFunc at pairs, and of the closure that asks whether a transaction changed a key. -/
import Derived.Test.YteipfdjpndhgkaaGreatDoorCDcIdx
import Derived.Test.YteipfdjpndhgkaaGreatDoorCMD
import Derived.Test.YteipfdjpndhgkaaGreatDoorCRK
import Derived.Lib.SliceRun
namespace Go.Proofs.YteipfdjpndhgkaaGreatDoor
open Go.RowKit Go.Maps Vs

set_option maxHeartbeats 1000000 in
theorem over1 {w : World} {G : Nat → Prop} {b Bt : Nat} {sees : Int} {v : Value} {qs : List Pr} {M : Nat} {D : DataW Value} {own : List Chg} (h : TX w G b sees v qs M D) (hO : OwnR D own) (hBt : w.cell? ⟨Bt, 0, none⟩ = some (.pointer (some ⟨b, 0, none⟩))) (x : Pr) (hk : x.1.size ≤ maxLen) :
    Calls Tryz.prog 85 #[.agg #[.string x.1, .string x.2], .pointer (some ⟨Bt, 0, none⟩)] w fun e w' => e = .returned (.bool (ownC own x.1).isSome) ∧ Below w.heap.size w w' := by
  obtain ⟨n, ho⟩ := h.own
  have hltB : Bt < w.heap.size := World.block_lt_of_cell? _ _ hBt
  have hb1 := below_al (below_self w) (.cells #[.string x.1, .string x.2] 118)
  have c1 : (w.alloc (.cells #[.string x.1, .string x.2] 118)).cell? ⟨Bt, 0, none⟩ = some (.pointer (some ⟨b, 0, none⟩)) := (hb1.cell (p := ⟨Bt, 0, none⟩) hltB).trans hBt
  have c2 : (w.alloc (.cells #[.string x.1, .string x.2] 118)).cell? ⟨b, 2, none⟩ = some (.map (some M)) := (hb1.cell (p := ⟨b, 2, none⟩) h.lt).trans h.c2
  have hb2 := below_al hb1 (.cells #[.string { data := #[] }, .string { data := #[] }, .bool false] 50)
  have d1 : ((w.alloc (.cells #[.string x.1, .string x.2] 118)).alloc (.cells #[.string { data := #[] }, .string { data := #[] }, .bool false] 50)).cell? ⟨Bt, 0, none⟩ = some (.pointer (some ⟨b, 0, none⟩)) := (hb2.cell (p := ⟨Bt, 0, none⟩) hltB).trans hBt
  have d2 : ((w.alloc (.cells #[.string x.1, .string x.2] 118)).alloc (.cells #[.string { data := #[] }, .string { data := #[] }, .bool false] 50)).cell? ⟨b, 2, none⟩ = some (.map (some M)) := (hb2.cell (p := ⟨b, 2, none⟩) h.lt).trans h.c2
  have ho1 : (w.alloc (.cells #[.string x.1, .string x.2] 118)).drew.ownsMap Tryz.prog 9 anyE M n D := ho.alloc _
  have ho2 : ((w.alloc (.cells #[.string x.1, .string x.2] 118)).alloc (.cells #[.string { data := #[] }, .string { data := #[] }, .bool false] 50)).drew.ownsMap Tryz.prog 9 anyE M n D := (ho.alloc (.cells #[.string x.1, .string x.2] 118)).alloc _
  have l1 := run_lookS 111 50 true Tryz.underlying111 (zeroChg _) ho1 x.1 hk
  have l2 := run_lookS 111 50 true Tryz.underlying111 (zeroChg _) ho2 x.1 hk
  have hlb := h.lt
  rw [hO x.1] at l1 l2
  cases e : ownC own x.1 with
  | none =>
    rw [e] at l1 l2
    simp only [if_true, Option.map_none, Option.getD_none, Option.isSome_none] at l1 l2
    clear e
    go_enter Tryz.func85, Tryz.ntmps85
    go_wp2
    go_region
    all_goals go_wp2
    all_goals go_ret
    all_goals exact ⟨rfl, hb2.drew⟩
  | some c =>
    rw [e] at l1 l2
    simp only [if_true, Option.map_some, Option.getD_some, Option.isSome_some] at l1 l2
    have hb3 := below_al hb1 (.cells #[.string c.k, .string c.v, .bool c.g] 50)
    clear e
    go_enter Tryz.func85, Tryz.ntmps85
    go_wp2
    go_region
    all_goals go_wp2
    all_goals go_ret
    all_goals exact ⟨rfl, hb3.drew⟩
theorem RowIn.setCells {e g : Nat} : ∀ (vs : List Value) (o : Nat) (w : World) (cs : List Value), RowIn w e g cs → ∃ cs', RowIn (w.setCells g o vs) e g cs' ∧ cs'.length = cs.length ∧ cs'.take o = cs.take o
  | [], _, _, cs, h => ⟨cs, h, rfl, rfl⟩
  | u :: r, o, _, cs, h => by
    obtain ⟨cs', h1, h2, h3⟩ := RowIn.setCells r (o + 1) _ _ (h.set o u)
    refine ⟨cs', h1, by rw [h2, List.length_set], ?_⟩
    have := congrArg (List.take o) h3
    rw [List.take_take, List.take_take, Nat.min_eq_left (by omega), List.take_set_of_le (by omega)] at this
    exact this
theorem zeroPr (w : World) : (zeroValue 118).run Tryz.prog w = .ok (.agg #[.string { data := #[] }, .string { data := #[] }]) w := by kernel_rfl
theorem but_setRow {g : Nat} {a : World} : ∀ (vs : List Value) (o : Nat) (w : World), But (fun j => j = g) a w → But (fun j => j = g) a (w.setCells g o vs)
  | [], _, _, h => h
  | u :: r, o, _, h => but_setRow r (o + 1) _ (h.setCell (.inl rfl) u)
/-- clear of a row's end. -/
theorem runClear {w : World} {g o n c : Nat} {cs : List Value} (ty : TypeId) (h : RowIn w 118 g cs) (hn : 0 < n) (ho : o + n * 2 ≤ cs.length) :
    ∃ w' cs', (Builtin.clear_ #[42] ty #[.slice (some ⟨g, o, none⟩) n c]).run Tryz.prog w = .ok (.tuple #[]) w' ∧ RowIn w' 118 g cs' ∧ cs'.length = cs.length ∧ cs'.take o = cs.take o ∧ But (fun j => j = g) w w' := by
  have hzl : (Builtin.zeroCells (Value.agg #[.string { data := #[] }, .string { data := #[] }]).cells n).toList.length = n * 2 := by
    simp [Builtin.zeroCells, Value.cells]
  have h1 : ∀ u ∈ (Builtin.zeroCells (Value.agg #[.string { data := #[] }, .string { data := #[] }]).cells n).toList, u.oneCell' = true := by
    intro u hu
    simp [Builtin.zeroCells, Value.cells] at hu
    obtain ⟨j, hj, rfl⟩ := hu
    rcases Nat.mod_two_eq_zero_or_one j with e | e <;> simp [e, Value.oneCell']
  generalize hZ : (Builtin.zeroCells (Value.agg #[.string { data := #[] }, .string { data := #[] }]).cells n).toList = Z at hzl h1
  have hst := run_storeCells_cells (P := Tryz.prog) g o Z 0 w (fun j hj => by
    rw [h.cell, List.getElem?_eq_getElem (by omega)]; rfl) (fun j hj => h.frozen _) h1
  obtain ⟨cs', r1, r2, r3⟩ := RowIn.setCells Z o w cs h
  obtain ⟨m, rfl⟩ : ∃ m, n = m + 1 := ⟨n - 1, by omega⟩
  refine ⟨_, cs', ?_, r1, r2, r3, but_setRow Z o w (.refl _ _)⟩
  simp only [Nat.add_zero] at hst
  simp [Builtin.clear_, run_underlying Tryz.underlying42, hZ, hst]
/-- How far the row has been written. -/
structure Dlt (P : Pr → Bool) (l : List Pr) (cs : List Value) (m k : Nat) : Prop where
  n : m = ((l.take k).filter (fun x => !P x)).length
  d : cs.take (m * 2) = prV ((l.take k).filter (fun x => !P x))
  r : ∀ i x, k ≤ i → l[i]? = some x → cs[i * 2]? = some (.string x.1) ∧ cs[i * 2 + 1]? = some (.string x.2)
theorem take_more {l : List Pr} {k : Nat} {x : Pr} (h : l[k]? = some x) : l.take (k + 1) = l.take k ++ [x] := by
  rw [List.take_add_one, h]; rfl
theorem Dlt.gone {P : Pr → Bool} {l : List Pr} {cs : List Value} {m k : Nat} {x : Pr} (h : Dlt P l cs m k) (hx : l[k]? = some x) (hp : P x = true) : Dlt P l cs m (k + 1) := by
  have e : (l.take (k + 1)).filter (fun x => !P x) = (l.take k).filter (fun x => !P x) := by rw [take_more hx, List.filter_append]; simp [hp]
  exact ⟨by rw [e]; exact h.n, by rw [e]; exact h.d, fun i y hi => h.r i y (by omega)⟩
theorem Dlt.stays {P : Pr → Bool} {l : List Pr} {cs : List Value} {m k : Nat} {x : Pr} (h : Dlt P l cs m k) (hx : l[k]? = some x) (hp : P x = false) (hm : m < k) (hc : l.length * 2 ≤ cs.length) : Dlt P l ((cs.set (m * 2) (.string x.1)).set (m * 2 + 1) (.string x.2)) (m + 1) (k + 1) := by
  have e : (l.take (k + 1)).filter (fun x => !P x) = (l.take k).filter (fun x => !P x) ++ [x] := by rw [take_more hx, List.filter_append]; simp [hp]
  have hk : k < l.length := (List.getElem?_eq_some_iff.1 hx).1
  refine ⟨by rw [e, List.length_append, ← h.n]; rfl, ?_, fun i y hi hy => ?_⟩
  · rw [e, prV_app, ← h.d]
    apply List.ext_getElem?
    intro j
    by_cases h1 : j < m * 2
    · rw [List.getElem?_take_of_lt (by omega), List.getElem?_set_ne (by omega), List.getElem?_set_ne (by omega), List.getElem?_append_left (by rw [List.length_take]; omega), List.getElem?_take_of_lt h1]
    · rw [List.getElem?_append_right (by rw [List.length_take]; omega), List.length_take, Nat.min_eq_left (by omega)]
      by_cases h2 : j = m * 2
      · subst h2
        rw [List.getElem?_take_of_lt (by omega), List.getElem?_set_ne (by omega), List.getElem?_set_self (by omega)]
        simp [prV]
      · by_cases h3 : j = m * 2 + 1
        · subst h3
          rw [List.getElem?_take_of_lt (by omega), List.getElem?_set_self (by rw [List.length_set]; omega), show m * 2 + 1 - m * 2 = 1 from by omega]
          simp [prV]
        · rw [List.getElem?_take_eq_none (by omega), List.getElem?_eq_none (by simp [prV]; omega)]
  · obtain ⟨a, b⟩ := h.r i y (by omega) hy
    rw [List.getElem?_set_ne (by omega), List.getElem?_set_ne (by omega), List.getElem?_set_ne (by omega), List.getElem?_set_ne (by omega)]
    exact ⟨a, b⟩
set_option maxHeartbeats 4000000 in
set_option maxRecDepth 100000 in
theorem deletePr (g : Nat) (lb : Array Value) (eg : ∀ args w, (callFunc g args).run Tryz.prog w = .ok (.enter g args) w) (P : Pr → Bool) (B : Nat) (v : Value) (l : List Pr) (w : World) (hz : l.length ≤ 1000000) (hown : w.ownsRow B 118 2 v l.length (prV l)) 
    (hF : ∀ (x : Pr) (w1 : World), x ∈ l → But (fun j => v.ownBlock = some j) w w1 → Calls Tryz.prog g (#[.agg #[.string x.1, .string x.2]] ++ lb) w1 fun e w' => e = .returned (.bool (P x)) ∧ Below w1.heap.size w1 w') :
    Calls Tryz.prog 84 #[v, .func (.func g) #[] lb] w fun e w' => ∃ u, e = .returned u ∧ w'.ownsRow B 118 2 u (l.filter (fun x => !P x)).length (prV (l.filter (fun x => !P x))) ∧ But (fun j => v.ownBlock = some j) w w' ∧ (∀ j, u.ownBlock = some j → v.ownBlock = some j) := by
  obtain ⟨q, cap, rfl⟩ := own_form hown
  have hI := indexPr g lb eg P q cap l w hz (prAt_own hown).2 (fun x w1 hx hb => hF x w1 hx (.below hb))
  rcases idxP_at P l 0 with ⟨h1, h2⟩ | ⟨i, x, h1, h2, h3, h4⟩
  · rw [h1] at hI
    have hE : Hid (l.filter (fun x => !P x) = l) := List.filter_eq_self.2 (fun x hx => by simp [h2 x hx])
    clear h1 h2 hF
    go_enter Tryz.func84, Tryz.ntmps84
    go_wp2_with fail
    refine hI.mono ?_
    rintro e w1 ⟨rfl, hb⟩
    go_wp2
    go_ret
    exact ⟨_, rfl, by rw [hE.out]; exact own_below hown hb, .below hb, fun _ h => h⟩
  · rw [h1, Int.zero_add] at hI
    have hil : i < l.length := (List.getElem?_eq_some_iff.1 h2).1
    obtain ⟨gb, c, hq⟩ := own_block hown (by omega)
    obtain ⟨rfl, rfl⟩ : q = some ⟨gb, 0, none⟩ ∧ cap = c := by injection hq; exact ⟨by assumption, by assumption⟩
    obtain ⟨rest, hR, hBg, hcap, hmax, hlen⟩ := rowIn_own hown
    have hD : Hid (Dlt P l (prV l ++ rest) i (i + 1)) := by
      have e1 : (l.take (i + 1)).filter (fun x => !P x) = l.take i := by
        rw [take_more h2, List.filter_append, List.filter_eq_self.2 (fun y hy => by simp [h4 y hy])]
        simp [h3]
      have e2 : (l.take i).length = i := by rw [List.length_take]; omega
      refine ⟨by rw [e1, e2], ?_, fun j y _ hy => ?_⟩
      · rw [e1]
        have e3 : prV l = prV (l.take i) ++ prV (l.drop i) := by rw [← prV_app, List.take_append_drop]
        rw [e3, List.append_assoc, List.take_append_of_le_length (by rw [prV_len, e2]; exact Nat.le_refl _), List.take_of_length_le (by rw [prV_len, e2]; exact Nat.le_refl _)]
      · obtain ⟨a, b⟩ := prV_at l j y hy
        have hj : j < l.length := (List.getElem?_eq_some_iff.1 hy).1
        have hp := prV_len l
        rw [List.getElem?_append_left (by omega), List.getElem?_append_left (by omega)]
        exact ⟨a, b⟩
    have hgl := hR.lt
    clear h1 h2 h3 h4 hq
    generalize hcs : prV l ++ rest = cs0 at hR hlen hD
    clear hcs
    go_enter Tryz.func84, Tryz.ntmps84
    go_wp2_with fail
    refine hI.mono ?_
    clear hI
    rintro e w1 ⟨rfl, hb1⟩
    have hR1 := hR.keep hb1
    have hbB : But (fun j => j = gb) w w1 := .below hb1
    have hs1 := hb1.size
    clear hb1 hR hown
    have hne : ((i : Int) == -1) = false := beq_eq_false_iff_ne.2 (by omega)
    go_wp2
    go_loopw [5, 6] (fun u z wr => ∃ (m k : Nat) (cs : List Value), u = .int .i64 m ∧ z = .int .i64 k ∧ k ≤ l.length ∧ m < k ∧ RowIn wr 118 gb cs ∧ cs.length = cap * 2 ∧ Hid (Dlt P l cs m k) ∧ But (fun j => j = gb) w wr) (fun _ z _ => l.length - (intOf z).toNat)
    case atStart => exact ⟨i, i + 1, cs0, rfl, by go_num, by omega, by omega, hR1, hlen, hD, hbB⟩
    case round =>
      obtain ⟨m, k, cs, rfl, rfl, hk, hm, hRr, hl2, hDr, hb⟩ := hrel
      by_cases hlt : k < l.length
      · have hlt' : (k : Int) < (l.length : Int) := by omega
        obtain ⟨x, hx⟩ : ∃ x, l[k]? = some x := ⟨l[k], List.getElem?_eq_getElem hlt⟩
        obtain ⟨r1, r2⟩ := hDr.out.r k x (by omega) hx
        have c0 : wr.cell? ⟨gb, k * 2, none⟩ = some (.string x.1) := (hRr.cell _).trans r1
        have c1 : wr.cell? ⟨gb, k * 2 + 1, none⟩ = some (.string x.2) := (hRr.cell _).trans r2
        have hb2 := hb.alloc (.cells #[.string x.1, .string x.2] 118)
        have HF := hF x _ (List.mem_of_getElem? hx) (hb2.mono (fun j _ e => by rw [e]; rfl))
        have hR2 := hRr.keep (below_al (below_self wr) (.cells #[.string x.1, .string x.2] 118))
        have hgr := hRr.lt
        cases hp : P x
        · have hD2 : Hid (Dlt P l ((cs.set (m * 2) (.string x.1)).set (m * 2 + 1) (.string x.2)) (m + 1) (k + 1)) := hDr.out.stays hx hp hm (by omega)
          rw [hp] at HF
          clear hDr hx r1 r2 hp hF
          go_wp2_with (go_at_fn g; refine HF.mono ?_; rintro e w3 ⟨rfl, hb3⟩; have hR3 := hR2.keep hb3; have z0 : w3.cell? ⟨gb, m * 2, none⟩ = cs[m * 2]? := hR3.cell _; have z1 : w3.cell? ⟨gb, m * 2 + 1, none⟩ = cs[m * 2 + 1]? := hR3.cell _; rw [List.getElem?_eq_getElem (by omega)] at z0 z1; have f0 := hR3.frozen (m * 2); have f1 := hR3.frozen (m * 2 + 1); have n0 := (hb3.cell (p := ⟨wr.heap.size, 0, none⟩) (by simp)); have n1 := (hb3.cell (p := ⟨wr.heap.size, 1, none⟩) (by simp)); simp at n0 n1)
          exact ⟨⟨m + 1, k + 1, _, by go_num, by go_num, by omega, by omega, (hR3.set _ _).set _ _, by rw [List.length_set, List.length_set]; exact hl2, hD2, ((hb2.step hb3).setCell (.inl rfl) _).setCell (.inl rfl) _⟩, by simp [intOf]; omega⟩
        · have hD2 : Hid (Dlt P l cs m (k + 1)) := hDr.out.gone hx hp
          rw [hp] at HF
          clear hDr hx r1 r2 hp hF
          go_wp2_with (go_at_fn g; refine HF.mono ?_; rintro e w3 ⟨rfl, hb3⟩; have hR3 := hR2.keep hb3)
          exact ⟨⟨m, k + 1, cs, rfl, by go_num, by omega, by omega, hR3, hl2, hD2, hb2.step hb3⟩, by simp [intOf]; omega⟩
      · have hmc : m < cap := by omega
        have hk2 : Hid (k = l.length) := by show _ = _; omega
        clear hF
        obtain ⟨w4, cs4, hr4, hR4, hl4, ht4, hb4⟩ := runClear 0 (o := m * 2) (n := l.length - m) (c := cap - m) hRr (by omega) (by omega)
        have hfin : w4.ownsRow B 118 2 (.slice (some ⟨gb, 0, none⟩) m cap) (l.filter (fun x => !P x)).length (prV (l.filter (fun x => !P x))) := by
          have e1 := hDr.out.n
          have e2 := hDr.out.d
          rw [hk2.out, List.take_of_length_le (Nat.le_refl _)] at e1 e2
          rw [← ht4] at e2
          rw [← e1, ← e2]
          refine own_rowIn (rest := cs4.drop (m * 2)) (by rw [List.take_append_drop]; exact hR4) (by rw [List.length_take]; omega) hBg (by omega) hmax (by rw [List.take_append_drop]; omega)
        have hbf := hb.trans hb4
        clear hDr hRr hR4 hl4 ht4 hb4 hk2
        go_wp2
        go_ret
        exact ⟨_, rfl, hfin, hbf.mono (fun j _ e => by rw [e]; rfl), fun _ h => h⟩
end Go.Proofs.YteipfdjpndhgkaaGreatDoor
