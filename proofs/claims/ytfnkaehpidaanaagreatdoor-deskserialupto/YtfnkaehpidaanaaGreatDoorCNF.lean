/- A law's own row of lists of pairs, and of texts. -/
import Derived.Test.YtfnkaehpidaanaaGreatDoorCMB
import Derived.Test.YtfnkaehpidaanaaGreatDoorCMC
namespace Go.Proofs.YtfnkaehpidaanaaGreatDoor
open Go.RowKit Vs

theorem infoPl : (Tryz.prog.info? 42).map (fun i => (i.zero, i.size, i.bytes)) = some (some (.slice none 0 0), 1, 24) := by kernel_rfl
theorem op_cell (W : World) (v : Value) (t : Nat) (N : Nat) (hN : N = W.heap.size) : ∀ (j : Nat) (u : Value), ([v] : List Value)[j]? = some u → (W.alloc (.cells #[v] t)).cell? ⟨N, j, none⟩ = some u := by
  subst hN
  intro j u hj
  match j, hj with
  | 0, hj => simp at hj; subst hj; simp
theorem op_one {q : Option Addr} {n c : Nat} : ∀ u ∈ ([.slice q n c] : List Value), u.oneCell' = true := by
  intro u hu
  rw [List.mem_singleton.1 hu]; rfl
/-- A row of lists of pairs; all of it in blocks of K. -/
def OwnP (n0 : Nat) (K : Nat → Prop) (w : World) (v : Value) (ls : List (List Pr)) : Prop := ∃ vs, w.ownsRow n0 42 1 v ls.length vs ∧ (∀ j, v.ownBlock = some j → K j) ∧ ∀ (i : Nat) (l : List Pr), ls[i]? = some l → ∃ q c, vs[i]? = some (.slice q l.length c) ∧ l.length ≤ c ∧ PrIn (fun j => K j ∧ v.ownBlock ≠ some j) w q l
theorem op_lt {n0 e size n : Nat} {w : World} {v : Value} {xs : List Value} (h : w.ownsRow n0 e size v n xs) {j : Nat} (hj : v.ownBlock = some j) : n0 ≤ j ∧ j < w.heap.size := by
  rcases h.2 with ⟨h2, _⟩ | ⟨g, c, cur, h2, hb, hg, _⟩
  · rw [h2] at hj; cases hj
  · rw [h2] at hj
    have : g = j := Option.some.inj hj
    subst this
    exact ⟨hb, (Array.getElem?_eq_some_iff.1 hg).1⟩
theorem op_but {E : Nat → Prop} {w w' : World} {B e size n : Nat} {v : Value} {xs : List Value} (h : w.ownsRow B e size v n xs) (hb : But E w w') (hv : ∀ j, v.ownBlock = some j → ¬ E j) : w'.ownsRow B e size v n xs := by
  refine ⟨h.1, ?_⟩
  rcases h.2 with hn | ⟨g, cap, cur, rfl, h1, hh, rest⟩
  · exact .inl hn
  · exact .inr ⟨g, cap, cur, rfl, h1, (hb.block g (Array.getElem?_eq_some_iff.1 hh).1 (hv g rfl)).trans hh, rest⟩
theorem OwnP.but {n0 : Nat} {E K K' : Nat → Prop} {w w' : World} {v : Value} {ls : List (List Pr)} (h : OwnP n0 K w v ls) (hb : But E w w') (hE : ∀ j, K j → ¬ E j) (hK : ∀ j, j < w.heap.size → K j → K' j) : OwnP n0 K' w' v ls := by
  obtain ⟨vs, h1, h2, h3⟩ := h
  refine ⟨vs, op_but h1 hb (fun j hj => hE j (h2 j hj)), fun j hj => hK j (op_lt h1 hj).2 (h2 j hj), fun i l hl => ?_⟩
  obtain ⟨q, c, h4, h5, h6⟩ := h3 i l hl
  refine ⟨q, c, h4, h5, fun hp => ?_⟩
  obtain ⟨b, off, e1, e2, e3, _⟩ := h6 hp
  obtain ⟨b', off', e1', e2', _, e4'⟩ := (h6.but hb (fun j _ hj => hE j hj.1)) hp
  rw [e1] at e1'
  cases e1'
  exact ⟨b, off, e1, e2', ⟨hK b e2 e3.1, e3.2⟩, e4'⟩
/-- The desk has changed. -/
theorem OwnP.kw {n0 : Nat} {K : Nat → Prop} {w w' : World} {v : Value} {ls : List (List Pr)} (h : OwnP n0 K w v ls) (hb : But (fun j => ¬ K j) w w') : OwnP n0 (Kw K w) w' v ls := h.but hb (fun _ hj hn => hn hj) (fun _ hj hk => ⟨hk, hj⟩)
theorem OwnP.kn {n0 : Nat} {K : Nat → Prop} {w w' : World} {v : Value} {ls : List (List Pr)} (h : OwnP n0 K w v ls) (hb : Below w.heap.size w w') : OwnP n0 (Kn K w w') w' v ls := h.but (E := fun _ => False) (.below hb) (fun _ _ => id) (fun _ _ hk => .inl hk)
theorem OwnP.form {n0 : Nat} {K : Nat → Prop} {w : World} {v : Value} {ls : List (List Pr)} (h : OwnP n0 K w v ls) : ∃ p c, v = .slice p ls.length c ∧ ls.length ≤ c ∧ c ≤ 9223372036854775807 := by
  obtain ⟨vs, h1, _⟩ := h
  rcases h1.2 with ⟨h2, h3⟩ | ⟨g, c, cur, h2, _, _, h3, h4, _⟩
  · exact ⟨none, 0, by rw [h2, h3], by omega, by decide⟩
  · exact ⟨_, c, h2, h3, h4⟩
/-- One of them, to be read. -/
theorem OwnP.at {n0 : Nat} {K : Nat → Prop} {w : World} {p : Option Addr} {c : Nat} {ls : List (List Pr)} (h : OwnP n0 K w (.slice p ls.length c) ls) {i : Nat} {l : List Pr} (hi : ls[i]? = some l) : ∃ b q cq, p = some ⟨b, 0, none⟩ ∧ b < w.heap.size ∧ K b ∧ w.cell? ⟨b, i, none⟩ = some (.slice q l.length cq) ∧ l.length ≤ cq ∧ PrIn K w q l := by
  obtain ⟨vs, h1, h2, h3⟩ := h
  have hlt := (List.getElem?_eq_some_iff.1 hi).1
  obtain ⟨q, cq, h4, h5, h6⟩ := h3 i l hi
  rcases h1.2 with ⟨_, h0⟩ | ⟨g, c', cur, h0, _, hg, _⟩
  · omega
  · cases h0
    exact ⟨g, q, cq, rfl, (Array.getElem?_eq_some_iff.1 hg).1, h2 g rfl, by rw [h1.cellAt i (by omega)]; exact h4, h5, h6.mono (fun j _ hj => hj.1)⟩
theorem op_trunc {w : World} {B e size n k cap : Nat} {p : Option Addr} {xs : List Value} (h : w.ownsRow B e size (.slice p n cap) n xs) (hk : k ≤ n) : w.ownsRow B e size (.slice p k cap) k (xs.take (k * size)) := by
  have hx := h.1
  refine ⟨?_, ?_⟩
  · rw [List.length_take, hx, Nat.min_eq_left (Nat.mul_le_mul_right _ hk)]
  · rcases h.2 with ⟨h0, h1⟩ | ⟨g, cap', cur, h0, hb, hg, hn, hc, hcs, htk⟩
    · cases h0
      have : k = 0 := by omega
      subst this
      exact .inl ⟨rfl, rfl⟩
    · cases h0
      refine .inr ⟨g, cap, cur, rfl, hb, hg, by omega, hc, hcs, ?_⟩
      rw [← htk, List.take_take, Nat.min_eq_left (Nat.mul_le_mul_right _ hk)]
theorem op_blk {p : Option Addr} {n m c : Nat} : (Value.slice p n c).ownBlock = (Value.slice p m c).ownBlock := by cases p <;> rfl
theorem OwnP.take {n0 : Nat} {K : Nat → Prop} {w : World} {p : Option Addr} {c : Nat} {ls : List (List Pr)} (h : OwnP n0 K w (.slice p ls.length c) ls) {k : Nat} (hk : k ≤ ls.length) : OwnP n0 K w (.slice p k c) (ls.take k) := by
  obtain ⟨vs, h1, h2, h3⟩ := h
  have e : (ls.take k).length = k := by rw [List.length_take]; omega
  refine ⟨vs.take (k * 1), by rw [e]; exact op_trunc h1 hk, fun j hj => h2 j (op_blk.trans hj), fun i l hx => ?_⟩
  rw [List.getElem?_take] at hx
  split at hx
  · obtain ⟨q, cq, h4, h5, h6⟩ := h3 i l hx
    exact ⟨q, cq, by rw [List.getElem?_take, if_pos (by omega)]; exact h4, h5, h6.mono (fun j _ hj => ⟨hj.1, fun g => hj.2 (op_blk.trans g)⟩)⟩
  · cases hx
/-- The row has grown by one list, of a block of the law's own. -/
theorem OwnP.more {n0 : Nat} {K : Nat → Prop} {w w' : World} {v v' : Value} {ls : List (List Pr)} {vs : List Value} {q : Option Addr} {cq : Nat} {l : List Pr} (h1 : w.ownsRow n0 42 1 v ls.length vs) (h2 : ∀ j, v.ownBlock = some j → K j) (h3 : ∀ (i : Nat) (l : List Pr), ls[i]? = some l → ∃ q c, vs[i]? = some (.slice q l.length c) ∧ l.length ≤ c ∧ PrIn (fun j => K j ∧ v.ownBlock ≠ some j) w q l)
    (hq : PrIn (fun j => K j ∧ v.ownBlock ≠ some j) w q l) (hcq : l.length ≤ cq) (hrow : w'.ownsRow n0 42 1 v' (ls.length + 1) (vs ++ [.slice q l.length cq])) (hg : w.grownBy w' v.ownBlock) (hat : v'.ownBlock = v.ownBlock ∨ v'.ownBlock = some w.heap.size) : OwnP n0 (Kn K w w') w' v' (ls ++ [l]) := by
  have hb : But (fun j => v.ownBlock = some j) w w' := ⟨hg.os, hg.tape, hg.output, hg.size, fun k hk hF => hg.block k hk (fun e => hF e.symm)⟩
  have keep : ∀ {q : Option Addr} {l : List Pr}, PrIn (fun j => K j ∧ v.ownBlock ≠ some j) w q l → PrIn (fun j => Kn K w w' j ∧ v'.ownBlock ≠ some j) w' q l := by
    intro q l h hp
    obtain ⟨b, off, e1, e2, e3, _⟩ := h hp
    obtain ⟨b', off', e1', e2', _, e4'⟩ := (h.but hb (fun j _ hj e => hj.2 e)) hp
    rw [e1] at e1'
    cases e1'
    refine ⟨b, off, e1, e2', ⟨.inl e3.1, fun g => ?_⟩, e4'⟩
    rcases hat with e | e
    · exact e3.2 (e.symm.trans g)
    · have : w.heap.size = b := Option.some.inj (e.symm.trans g)
      omega
  refine ⟨vs ++ [.slice q l.length cq], by simpa using hrow, fun j hj => ?_, fun i m hm => ?_⟩
  · rcases hat with e | e
    · exact .inl (h2 j (e.symm.trans hj))
    · have : w.heap.size = j := Option.some.inj (e.symm.trans hj)
      exact .inr ⟨by omega, (op_lt hrow hj).2⟩
  · have hlen : vs.length = ls.length := by have := h1.1; omega
    rw [List.getElem?_append] at hm
    split at hm
    · obtain ⟨q', c', h4, h5, h6⟩ := h3 i m hm
      exact ⟨q', c', by rw [List.getElem?_append, if_pos (by omega)]; exact h4, h5, keep h6⟩
    · have h0 : i - ls.length = 0 := by
        have := (List.getElem?_eq_some_iff.1 hm).1
        simp at this; omega
      rw [h0] at hm
      simp at hm
      subst hm
      exact ⟨q, cq, by rw [List.getElem?_append, if_neg (by omega), hlen, h0]; rfl, hcq, keep hq⟩
end Go.Proofs.YtfnkaehpidaanaaGreatDoor

/- The contract of burgagesame's Pairs. -/
namespace Vs
theorem drop_pr {l : List Pr} {k : Nat} {x : Pr} (hx : l[k]? = some x) : l.drop k = x :: l.drop (k + 1) := by
  obtain ⟨h, e⟩ := List.getElem?_eq_some_iff.1 hx
  rw [List.drop_eq_getElem_cons h, e]
theorem getsome' {α : Type} {l : List α} {k : Nat} (h : k < l.length) : ∃ x, l[k]? = some x := ⟨l[k], List.getElem?_eq_getElem h⟩
end Vs
namespace Go.Proofs.YtfnkaehpidaanaaGreatDoor
open Go.RowKit

set_option maxHeartbeats 2000000 in
theorem samePairs (r s : List Vs.Pr) (p q : Option Addr) (cp cq : Nat) (w : World) (hr : r.length ≤ 1000000) (hp : PrAt w p r) (hq : PrAt w q s) :
    Calls Tryz.prog 14 #[.slice p r.length cp, .slice q s.length cq] w fun e w' => e = .returned (.bool (decide (r = s))) ∧ Below w.heap.size w w' := by
  by_cases hlen : r.length = s.length
  · obtain ⟨R, hR⟩ : ∃ R, R = decide (r = s) := ⟨_, rfl⟩
    rw [← hR]
    replace hR : Hid (R = decide (r.drop 0 = s.drop 0)) := hR
    have hne : ((r.length : Int) != (s.length : Int)) = false := by simp [hlen]
    have HL : Hid (r.length = s.length) := hlen
    clear hlen
    go_enter Tryz.func14, Tryz.ntmps14
    go_wp2
    go_loopw [5] (fun i wr => ∃ (k : Nat), k ≤ r.length ∧ i = .int .i64 k ∧ Hid (R = decide (r.drop k = s.drop k)) ∧ Below w.heap.size w wr) (fun i _ => r.length - (intOf i).toNat)
    case atStart => exact ⟨0, by omega, rfl, hR, below_self _⟩
    case round =>
      obtain ⟨k, hk, rfl, hM, hb⟩ := hrel
      by_cases hlt : k < r.length
      · have hlt' : (k : Int) < (r.length : Int) := by omega
        have hls : k < s.length := by rw [← HL.out]; exact hlt
        have hls' : (k : Int) < (s.length : Int) := by omega
        obtain ⟨b1, o1, rfl, hb1, hc1⟩ := hp (by omega)
        obtain ⟨b2, o2, rfl, hb2, hc2⟩ := hq (by omega)
        obtain ⟨x, hx⟩ := Vs.getsome' hlt
        obtain ⟨y, hy⟩ := Vs.getsome' hls
        obtain ⟨d0, d1⟩ := hc1 k x hx
        obtain ⟨f0, f1⟩ := hc2 k y hy
        have e0 := (hb.cell (p := ⟨b1, o1 + k * 2, none⟩) hb1).trans d0
        have e1 := (hb.cell (p := ⟨b1, o1 + k * 2 + 1, none⟩) hb1).trans d1
        have e2 := (hb.cell (p := ⟨b2, o2 + k * 2, none⟩) hb2).trans f0
        have e3 := (hb.cell (p := ⟨b2, o2 + k * 2 + 1, none⟩) hb2).trans f1
        have hD : Hid (R = decide (x = y ∧ r.drop (k + 1) = s.drop (k + 1))) := by
          show _ = _
          rw [hM.out, Vs.drop_pr hx, Vs.drop_pr hy]
          simp
        clear hM hR hx hy hc1 hc2 d0 d1 f0 f1 hp hq hls HL
        by_cases h1 : x.1 = y.1
        · have g1 : (x.1.toList == y.1.toList) = true := by rw [Vs.beq_str]; simpa using h1
          by_cases h2 : x.2 = y.2
          · have g2 : (x.2.toList == y.2.toList) = true := by rw [Vs.beq_str]; simpa using h2
            have hM2 : Hid (R = decide (r.drop (k + 1) = s.drop (k + 1))) := by
              show _ = _
              rw [hD.out]; simp [Prod.ext h1 h2]
            clear hD h1 h2
            go_wp2
            go_quiet (fail)
            go_wp2
            exact ⟨⟨k + 1, by omega, by go_num, hM2, below_drewN hb _⟩, by simp [intOf]; omega⟩
          · have g2 : (x.2.toList == y.2.toList) = false := by rw [Vs.beq_str]; simpa using h2
            have hM2 : Hid (R = false) := by
              show _ = _
              have : ¬ x = y := fun e => h2 (by rw [e])
              rw [hD.out]; simp [this]
            clear hD h1 h2
            go_wp2
            go_quiet (fail)
            go_wp2
            go_ret
            exact ⟨by rw [hM2.out]; rfl, below_drewN hb _⟩
        · have g1 : (x.1.toList == y.1.toList) = false := by rw [Vs.beq_str]; simpa using h1
          have hM2 : Hid (R = false) := by
            show _ = _
            have : ¬ x = y := fun e => h1 (by rw [e])
            rw [hD.out]; simp [this]
          clear hD h1
          go_wp2
          go_quiet (fail)
          go_wp2
          go_ret
          exact ⟨by rw [hM2.out]; rfl, below_drewN hb _⟩
      · have hE : Hid (R = true) := by
          show _ = _
          rw [hM.out, List.drop_eq_nil_of_le (by omega), List.drop_eq_nil_of_le (by rw [← HL.out]; omega)]; simp
        clear hM hR hp hq HL
        go_wp2
        go_ret
        exact ⟨by rw [hE.out]; rfl, hb⟩
  · have hE : decide (r = s) = false := by
      have : ¬ r = s := fun e => hlen (by rw [e])
      simpa using this
    have hne : ((r.length : Int) != (s.length : Int)) = true := by simp; omega
    rw [hE]
    clear hE hlen
    go_enter Tryz.func14, Tryz.ntmps14
    go_wp2
    go_ret
    exact ⟨rfl, below_self _⟩
end Go.Proofs.YtfnkaehpidaanaaGreatDoor
