/- A law's own row of lists of pairs, and of texts. -/
import Derived.Test.YthhfhbcfdcenfaaGreatCMB
import Derived.Test.YthhfhbcfdcenfaaGreatCMC
import Derived.Test.YthhfhbcfdcenfaaGreatCMM
import Derived.Deep.CutBlock
import Derived.Deep.RegionHeld3
namespace Go.Proofs.YthhfhbcfdcenfaaGreat
open Go.RowKit Vs

theorem infoPl : (Tryz.prog.info? 34).map (fun i => (i.zero, i.size, i.bytes)) = some (some (.slice none 0 0), 1, 24) := by kernel_rfl
theorem op_cell (W : World) (v : Value) (t : Nat) (N : Nat) (hN : N = W.heap.size) : ∀ (j : Nat) (u : Value), ([v] : List Value)[j]? = some u → (W.alloc (.cells #[v] t)).cell? ⟨N, j, none⟩ = some u := by
  subst hN
  intro j u hj
  match j, hj with
  | 0, hj => simp at hj; subst hj; simp
theorem op_one {q : Option Addr} {n c : Nat} : ∀ u ∈ ([.slice q n c] : List Value), u.oneCell' = true := by
  intro u hu
  rw [List.mem_singleton.1 hu]; rfl
/-- A row of lists of pairs; all of it in blocks of K. -/
def OwnP (n0 : Nat) (K : Nat → Prop) (w : World) (v : Value) (ls : List (List Pr)) : Prop := ∃ vs, w.ownsRow n0 34 1 v ls.length vs ∧ (∀ j, v.ownBlock = some j → K j) ∧ ∀ (i : Nat) (l : List Pr), ls[i]? = some l → ∃ q c, vs[i]? = some (.slice q l.length c) ∧ l.length ≤ c ∧ PrIn (fun j => K j ∧ v.ownBlock ≠ some j) w q l
theorem op_lt {n0 e size n : Nat} {w : World} {v : Value} {xs : List Value} (h : w.ownsRow n0 e size v n xs) {j : Nat} (hj : v.ownBlock = some j) : n0 ≤ j ∧ j < w.heap.size := by
  rcases h.2 with ⟨h2, _⟩ | ⟨g, c, cur, h2, hb, hg, _⟩
  · rw [h2] at hj; cases hj
  · rw [h2] at hj
    have : g = j := Option.some.inj hj
    subst this
    exact ⟨hb, (Array.getElem?_eq_some_iff.1 hg).1⟩
theorem op_but {E : Nat → Prop} {w w' : World} {B e size n : Nat} {v : Value} {xs : List Value} (h : w.ownsRow B e size v n xs) (hb : But E w w') (hv : ∀ j, v.ownBlock = some j → ¬ E j) : w'.ownsRow B e size v n xs := by
  refine ⟨h.1, ?_⟩
  rcases h.2 with hn | ⟨g, cap, cur, rfl, h1, hh, rest⟩
  · exact .inl hn
  · exact .inr ⟨g, cap, cur, rfl, h1, (hb.block g (Array.getElem?_eq_some_iff.1 hh).1 (hv g rfl)).trans hh, rest⟩
theorem OwnP.but {n0 : Nat} {E K K' : Nat → Prop} {w w' : World} {v : Value} {ls : List (List Pr)} (h : OwnP n0 K w v ls) (hb : But E w w') (hE : ∀ j, K j → ¬ E j) (hK : ∀ j, j < w.heap.size → K j → K' j) : OwnP n0 K' w' v ls := by
  obtain ⟨vs, h1, h2, h3⟩ := h
  refine ⟨vs, op_but h1 hb (fun j hj => hE j (h2 j hj)), fun j hj => hK j (op_lt h1 hj).2 (h2 j hj), fun i l hl => ?_⟩
  obtain ⟨q, c, h4, h5, h6⟩ := h3 i l hl
  refine ⟨q, c, h4, h5, fun hp => ?_⟩
  obtain ⟨b, off, e1, e2, e3, _⟩ := h6 hp
  obtain ⟨b', off', e1', e2', _, e4'⟩ := (h6.but hb (fun j _ hj => hE j hj.1)) hp
  rw [e1] at e1'
  cases e1'
  exact ⟨b, off, e1, e2', ⟨hK b e2 e3.1, e3.2⟩, e4'⟩
/-- The desk has changed. -/
theorem OwnP.kw {n0 : Nat} {K : Nat → Prop} {w w' : World} {v : Value} {ls : List (List Pr)} (h : OwnP n0 K w v ls) (hb : But (fun j => ¬ K j) w w') : OwnP n0 (Kw K w) w' v ls := h.but hb (fun _ hj hn => hn hj) (fun _ hj hk => ⟨hk, hj⟩)
theorem OwnP.kn {n0 : Nat} {K : Nat → Prop} {w w' : World} {v : Value} {ls : List (List Pr)} (h : OwnP n0 K w v ls) (hb : Below w.heap.size w w') : OwnP n0 (Kn K w w') w' v ls := h.but (E := fun _ => False) (.below hb) (fun _ _ => id) (fun _ _ hk => .inl hk)
theorem OwnP.form {n0 : Nat} {K : Nat → Prop} {w : World} {v : Value} {ls : List (List Pr)} (h : OwnP n0 K w v ls) : ∃ p c, v = .slice p ls.length c ∧ ls.length ≤ c ∧ c ≤ 9223372036854775807 := by
  obtain ⟨vs, h1, _⟩ := h
  rcases h1.2 with ⟨h2, h3⟩ | ⟨g, c, cur, h2, _, _, h3, h4, _⟩
  · exact ⟨none, 0, by rw [h2, h3], by omega, by decide⟩
  · exact ⟨_, c, h2, h3, h4⟩
/-- One of them, to be read. -/
theorem OwnP.at {n0 : Nat} {K : Nat → Prop} {w : World} {p : Option Addr} {c : Nat} {ls : List (List Pr)} (h : OwnP n0 K w (.slice p ls.length c) ls) {i : Nat} {l : List Pr} (hi : ls[i]? = some l) : ∃ b q cq, p = some ⟨b, 0, none⟩ ∧ b < w.heap.size ∧ K b ∧ w.cell? ⟨b, i, none⟩ = some (.slice q l.length cq) ∧ l.length ≤ cq ∧ PrIn K w q l := by
  obtain ⟨vs, h1, h2, h3⟩ := h
  have hlt := (List.getElem?_eq_some_iff.1 hi).1
  obtain ⟨q, cq, h4, h5, h6⟩ := h3 i l hi
  rcases h1.2 with ⟨_, h0⟩ | ⟨g, c', cur, h0, _, hg, _⟩
  · omega
  · cases h0
    exact ⟨g, q, cq, rfl, (Array.getElem?_eq_some_iff.1 hg).1, h2 g rfl, by rw [h1.cellAt i (by omega)]; exact h4, h5, h6.mono (fun j _ hj => hj.1)⟩
theorem op_trunc {w : World} {B e size n k cap : Nat} {p : Option Addr} {xs : List Value} (h : w.ownsRow B e size (.slice p n cap) n xs) (hk : k ≤ n) : w.ownsRow B e size (.slice p k cap) k (xs.take (k * size)) := by
  have hx := h.1
  refine ⟨?_, ?_⟩
  · rw [List.length_take, hx, Nat.min_eq_left (Nat.mul_le_mul_right _ hk)]
  · rcases h.2 with ⟨h0, h1⟩ | ⟨g, cap', cur, h0, hb, hg, hn, hc, hcs, htk⟩
    · cases h0
      have : k = 0 := by omega
      subst this
      exact .inl ⟨rfl, rfl⟩
    · cases h0
      refine .inr ⟨g, cap, cur, rfl, hb, hg, by omega, hc, hcs, ?_⟩
      rw [← htk, List.take_take, Nat.min_eq_left (Nat.mul_le_mul_right _ hk)]
theorem op_blk {p : Option Addr} {n m c : Nat} : (Value.slice p n c).ownBlock = (Value.slice p m c).ownBlock := by cases p <;> rfl
theorem OwnP.take {n0 : Nat} {K : Nat → Prop} {w : World} {p : Option Addr} {c : Nat} {ls : List (List Pr)} (h : OwnP n0 K w (.slice p ls.length c) ls) {k : Nat} (hk : k ≤ ls.length) : OwnP n0 K w (.slice p k c) (ls.take k) := by
  obtain ⟨vs, h1, h2, h3⟩ := h
  have e : (ls.take k).length = k := by rw [List.length_take]; omega
  refine ⟨vs.take (k * 1), by rw [e]; exact op_trunc h1 hk, fun j hj => h2 j (op_blk.trans hj), fun i l hx => ?_⟩
  rw [List.getElem?_take] at hx
  split at hx
  · obtain ⟨q, cq, h4, h5, h6⟩ := h3 i l hx
    exact ⟨q, cq, by rw [List.getElem?_take, if_pos (by omega)]; exact h4, h5, h6.mono (fun j _ hj => ⟨hj.1, fun g => hj.2 (op_blk.trans g)⟩)⟩
  · cases hx
/-- The row has grown by one list, of a block of the law's own. -/
theorem OwnP.more {n0 : Nat} {K : Nat → Prop} {w w' : World} {v v' : Value} {ls : List (List Pr)} {vs : List Value} {q : Option Addr} {cq : Nat} {l : List Pr} (h1 : w.ownsRow n0 34 1 v ls.length vs) (h2 : ∀ j, v.ownBlock = some j → K j) (h3 : ∀ (i : Nat) (l : List Pr), ls[i]? = some l → ∃ q c, vs[i]? = some (.slice q l.length c) ∧ l.length ≤ c ∧ PrIn (fun j => K j ∧ v.ownBlock ≠ some j) w q l)
    (hq : PrIn (fun j => K j ∧ v.ownBlock ≠ some j) w q l) (hcq : l.length ≤ cq) (hrow : w'.ownsRow n0 34 1 v' (ls.length + 1) (vs ++ [.slice q l.length cq])) (hg : w.grownBy w' v.ownBlock) (hat : v'.ownBlock = v.ownBlock ∨ v'.ownBlock = some w.heap.size) : OwnP n0 (Kn K w w') w' v' (ls ++ [l]) := by
  have hb : But (fun j => v.ownBlock = some j) w w' := ⟨hg.os, hg.tape, hg.output, hg.size, fun k hk hF => hg.block k hk (fun e => hF e.symm)⟩
  have keep : ∀ {q : Option Addr} {l : List Pr}, PrIn (fun j => K j ∧ v.ownBlock ≠ some j) w q l → PrIn (fun j => Kn K w w' j ∧ v'.ownBlock ≠ some j) w' q l := by
    intro q l h hp
    obtain ⟨b, off, e1, e2, e3, _⟩ := h hp
    obtain ⟨b', off', e1', e2', _, e4'⟩ := (h.but hb (fun j _ hj e => hj.2 e)) hp
    rw [e1] at e1'
    cases e1'
    refine ⟨b, off, e1, e2', ⟨.inl e3.1, fun g => ?_⟩, e4'⟩
    rcases hat with e | e
    · exact e3.2 (e.symm.trans g)
    · have : w.heap.size = b := Option.some.inj (e.symm.trans g)
      omega
  refine ⟨vs ++ [.slice q l.length cq], by simpa using hrow, fun j hj => ?_, fun i m hm => ?_⟩
  · rcases hat with e | e
    · exact .inl (h2 j (e.symm.trans hj))
    · have : w.heap.size = j := Option.some.inj (e.symm.trans hj)
      exact .inr ⟨by omega, (op_lt hrow hj).2⟩
  · have hlen : vs.length = ls.length := by have := h1.1; omega
    rw [List.getElem?_append] at hm
    split at hm
    · obtain ⟨q', c', h4, h5, h6⟩ := h3 i m hm
      exact ⟨q', c', by rw [List.getElem?_append, if_pos (by omega)]; exact h4, h5, keep h6⟩
    · have h0 : i - ls.length = 0 := by
        have := (List.getElem?_eq_some_iff.1 hm).1
        simp at this; omega
      rw [h0] at hm
      simp at hm
      subst hm
      exact ⟨q, cq, by rw [List.getElem?_append, if_neg (by omega), hlen, h0]; rfl, hcq, keep hq⟩
end Go.Proofs.YthhfhbcfdcenfaaGreat

/- The contract of burgagesame's Pairs. -/
namespace Vs
theorem drop_pr {l : List Pr} {k : Nat} {x : Pr} (hx : l[k]? = some x) : l.drop k = x :: l.drop (k + 1) := by
  obtain ⟨h, e⟩ := List.getElem?_eq_some_iff.1 hx
  rw [List.drop_eq_getElem_cons h, e]
theorem getsome' {α : Type} {l : List α} {k : Nat} (h : k < l.length) : ∃ x, l[k]? = some x := ⟨l[k], List.getElem?_eq_getElem h⟩
end Vs
namespace Go.Proofs.YthhfhbcfdcenfaaGreat
open Go.RowKit

set_option maxHeartbeats 2000000 in
theorem samePairs (r s : List Vs.Pr) (p q : Option Addr) (cp cq : Nat) (w : World) (hr : r.length ≤ 1000000) (hp : PrAt w p r) (hq : PrAt w q s) :
    Calls Tryz.prog 17 #[.slice p r.length cp, .slice q s.length cq] w fun e w' => e = .returned (.bool (decide (r = s))) ∧ Below w.heap.size w w' := by
  by_cases hlen : r.length = s.length
  · obtain ⟨R, hR⟩ : ∃ R, R = decide (r = s) := ⟨_, rfl⟩
    rw [← hR]
    replace hR : Hid (R = decide (r.drop 0 = s.drop 0)) := hR
    have hne : ((r.length : Int) != (s.length : Int)) = false := by simp [hlen]
    have HL : Hid (r.length = s.length) := hlen
    clear hlen
    go_enter Tryz.func17, Tryz.ntmps17
    go_wp2
    go_loopw [5] (fun i wr => ∃ (k : Nat), k ≤ r.length ∧ i = .int .i64 k ∧ Hid (R = decide (r.drop k = s.drop k)) ∧ Below w.heap.size w wr) (fun i _ => r.length - (intOf i).toNat)
    case atStart => exact ⟨0, by omega, rfl, hR, below_self _⟩
    case round =>
      obtain ⟨k, hk, rfl, hM, hb⟩ := hrel
      by_cases hlt : k < r.length
      · have hlt' : (k : Int) < (r.length : Int) := by omega
        have hls : k < s.length := by rw [← HL.out]; exact hlt
        have hls' : (k : Int) < (s.length : Int) := by omega
        obtain ⟨b1, o1, rfl, hb1, hc1⟩ := hp (by omega)
        obtain ⟨b2, o2, rfl, hb2, hc2⟩ := hq (by omega)
        obtain ⟨x, hx⟩ := Vs.getsome' hlt
        obtain ⟨y, hy⟩ := Vs.getsome' hls
        obtain ⟨d0, d1⟩ := hc1 k x hx
        obtain ⟨f0, f1⟩ := hc2 k y hy
        have e0 := (hb.cell (p := ⟨b1, o1 + k * 2, none⟩) hb1).trans d0
        have e1 := (hb.cell (p := ⟨b1, o1 + k * 2 + 1, none⟩) hb1).trans d1
        have e2 := (hb.cell (p := ⟨b2, o2 + k * 2, none⟩) hb2).trans f0
        have e3 := (hb.cell (p := ⟨b2, o2 + k * 2 + 1, none⟩) hb2).trans f1
        have hD : Hid (R = decide (x = y ∧ r.drop (k + 1) = s.drop (k + 1))) := by
          show _ = _
          rw [hM.out, Vs.drop_pr hx, Vs.drop_pr hy]
          simp
        clear hM hR hx hy hc1 hc2 d0 d1 f0 f1 hp hq hls HL
        by_cases h1 : x.1 = y.1
        · have g1 : (x.1.toList == y.1.toList) = true := by rw [Vs.beq_str]; simpa using h1
          by_cases h2 : x.2 = y.2
          · have g2 : (x.2.toList == y.2.toList) = true := by rw [Vs.beq_str]; simpa using h2
            have hM2 : Hid (R = decide (r.drop (k + 1) = s.drop (k + 1))) := by
              show _ = _
              rw [hD.out]; simp [Prod.ext h1 h2]
            clear hD h1 h2
            go_wp2
            go_quiet (fail)
            go_wp2
            exact ⟨⟨k + 1, by omega, by go_num, hM2, below_drewN hb _⟩, by simp [intOf]; omega⟩
          · have g2 : (x.2.toList == y.2.toList) = false := by rw [Vs.beq_str]; simpa using h2
            have hM2 : Hid (R = false) := by
              show _ = _
              have : ¬ x = y := fun e => h2 (by rw [e])
              rw [hD.out]; simp [this]
            clear hD h1 h2
            go_wp2
            go_quiet (fail)
            go_wp2
            go_ret
            exact ⟨by rw [hM2.out]; rfl, below_drewN hb _⟩
        · have g1 : (x.1.toList == y.1.toList) = false := by rw [Vs.beq_str]; simpa using h1
          have hM2 : Hid (R = false) := by
            show _ = _
            have : ¬ x = y := fun e => h1 (by rw [e])
            rw [hD.out]; simp [this]
          clear hD h1
          go_wp2
          go_quiet (fail)
          go_wp2
          go_ret
          exact ⟨by rw [hM2.out]; rfl, below_drewN hb _⟩
      · have hE : Hid (R = true) := by
          show _ = _
          rw [hM.out, List.drop_eq_nil_of_le (by omega), List.drop_eq_nil_of_le (by rw [← HL.out]; omega)]; simp
        clear hM hR hp hq HL
        go_wp2
        go_ret
        exact ⟨by rw [hE.out]; rfl, hb⟩
  · have hE : decide (r = s) = false := by
      have : ¬ r = s := fun e => hlen (by rw [e])
      simpa using this
    have hne : ((r.length : Int) != (s.length : Int)) = true := by simp; omega
    rw [hE]
    clear hE hlen
    go_enter Tryz.func17, Tryz.ntmps17
    go_wp2
    go_ret
    exact ⟨rfl, below_self _⟩
end Go.Proofs.YthhfhbcfdcenfaaGreat

/- The walk of the law DeskForgets. -/
namespace Go.Proofs.YthhfhbcfdcenfaaGreat
open Go.RowKit Vs

/-- The number of who acts in a step. -/
def Sw (w : World) (B : Nat) (x : Stp) : Prop := w.cell? ⟨B, 1, none⟩ = some (.int .i64 x.who)
theorem Sw.but {F : Nat → Prop} {w w' : World} {B : Nat} {x : Stp} (h : Sw w B x) (hb : But F w w') (hF : ¬ F B) : Sw w' B x := (hb.cell (p := ⟨B, 1, none⟩) (World.block_lt_of_cell? _ _ h) hF).trans h
/-- Between two steps, and with the step at hand: the desk, the law's row, the step's box. -/
structure Dw (T : Td) (K : Nat → Prop) (w wr : World) (B Bs : Nat) (x : Stp) (d : Dk) (v : Value) (W : List (List Pr)) : Prop where
  od : Od T K w wr B d
  row : OwnP w.heap.size K wr v W
  sb : Sb wr Bs x
  sw : Sw wr Bs x
  kb : K Bs
theorem Dw.kw {T : Td} {K : Nat → Prop} {w wr w' : World} {B Bs : Nat} {x : Stp} {d d' : Dk} {v : Value} {W : List (List Pr)} (h : Dw T K w wr B Bs x d v W) (o : Od T (Kw K wr) w w' B d') (hb : But (fun j => ¬ K j) wr w') : Dw T (Kw K wr) w w' B Bs x d' v W :=
  ⟨o, h.row.kw hb, h.sb.but hb (fun g => g h.kb), h.sw.but hb (fun g => g h.kb), ⟨h.kb, h.sb.lt⟩⟩
theorem Dw.kn {T : Td} {K : Nat → Prop} {w wr w' : World} {B Bs : Nat} {x : Stp} {d : Dk} {v : Value} {W : List (List Pr)} (h : Dw T K w wr B Bs x d v W) (o : Od T (Kn K wr w') w w' B d) (hb : Below wr.heap.size wr w') : Dw T (Kn K wr w') w w' B Bs x d v W :=
  ⟨o, h.row.kn hb, h.sb.step hb, h.sw.but (F := fun _ => False) (.below hb) id, .inl h.kb⟩
theorem fvSm {k : Nat} {d : Dk} (h : Fv k d) (hk : k ≤ 100) : Sm d := ⟨by have := h.wl; omega, by have := h.ids; omega⟩
theorem w_lt {K : Nat → Prop} {n0 : Nat} {w : World} {v : Value} {ls : List (List Pr)} (h : OwnP n0 K w v ls) : ∀ j, v.ownBlock = some j → n0 ≤ j := fun j hj => by
  obtain ⟨vs, h1, _⟩ := h
  exact (op_lt h1 hj).1

set_option maxRecDepth 100000 in
set_option maxHeartbeats 8000000 in
theorem df_loop {T : Td} (V : DFace T) {s : List Stp} {p : Option Addr} {cp : Nat} {w wx : World} {B : Nat} {c1 c2 c4 c5 c6 c7 c8 c9 c10 c11 c12 c13 c14 c15 c16 c17 c18 c19 c20 c21 c22 c23 c24 c25 c26 c27 c28 c29 c30 c31 c32 c33 c34 c35 c36 c37 c38 c39 c40 c41 c42 c43 c44 c45 c46 c47 c48 c49 c50 c51 c52 c53 c54 c55 c56 c57 c58 c59 c60 c61 c62 c63 c64 c65 c66 c67 c68 c69 c70 c71 c72 c73 c74 c75 c76 c77 c78 c79 c80 c81 c82 c83 c84 c85 c86 c87 c88 c89 c90 c91 c92 c93 c94 c95 c96 c97 c98 c99 c100 c101 c102 c103 c104 c105 c106 c107 c108 c109 c110 c111 c112 c113 c114 c115 c116 c117 c118 c119 c120 c121 c122 c123 c124 c125 c126 c127 c128 c129 c130 c131 c132 c133 c134 c135 c136 c137 c138 c139 c140 c141 c142 c143 c144 c145 c146 c147 c148 c149 c150 c151 c152 c153 c154 c155 c156 c157 c158 c159 c160 c161 c162 c163 c164 c165 c166 c167 c168 c169 c170 c171 c172 c173 c174 c175 c176 c177 c178 c179 c180 c181 c182 c183 c184 c185 c186 c187 c188 c189 c190 c191 c192 c193 c194 c195 c196 c197 c198 c199 c200 c201 c202 c203 c204 c205 c206 c207 c208 c209 c210 c211 c212 c213 c214 : Value} (hsl : s.length ≤ 9223372036854775807) (hq : StAt w p s) (hsN : ∀ x ∈ s, -9223372036854775808 ≤ x.n ∧ x.n ≤ 9223372036854775807) (o0 : Od T (fun _ => False) w wx B (dk0 3000)) :
    Code.wp Tryz.prog (dropSeq 12 (Tryz.f3.body.getD .skip)) (bodyPost Tryz.prog Tryz.f3 fun e w' => e = .returned (.bool true) ∧ Below w.heap.size w w') ⟨#[.slice p s.length cp, c1, c2, .pointer (some ⟨B, 0, none⟩), c4, c5, c6, c7, c8, c9, c10, c11, c12, c13, c14, c15, c16, c17, c18, c19, c20, c21, c22, c23, c24, c25, c26, c27, c28, c29, c30, c31, c32, c33, c34, c35, c36, c37, c38, c39, c40, c41, c42, c43, c44, c45, c46, c47, c48, c49, c50, c51, c52, c53, c54, c55, c56, c57, c58, c59, c60, c61, c62, c63, c64, c65, c66, c67, c68, c69, c70, c71, c72, c73, c74, c75, c76, c77, c78, c79, c80, c81, c82, c83, c84, c85, c86, c87, c88, c89, c90, c91, c92, c93, c94, c95, c96, c97, c98, c99, c100, c101, c102, c103, c104, c105, c106, c107, c108, c109, c110, c111, c112, c113, c114, c115, c116, c117, c118, c119, c120, c121, c122, c123, c124, c125, c126, c127, c128, c129, c130, c131, c132, c133, c134, c135, c136, c137, c138, c139, c140, c141, c142, c143, c144, c145, c146, c147, c148, c149, c150, c151, c152, c153, c154, c155, c156, c157, c158, c159, c160, c161, c162, c163, c164, c165, c166, c167, c168, c169, c170, c171, c172, c173, c174, c175, c176, c177, c178, c179, c180, c181, c182, c183, c184, c185, c186, c187, c188, c189, c190, c191, c192, c193, c194, c195, c196, c197, c198, c199, c200, c201, c202, c203, c204, c205, c206, c207, c208, c209, c210, c211, c212, c213, c214], []⟩ wx := by
  conv => arg 2; whnf
  have o1 := o0.step V (below_al (below_self wx) (.cells #[.slice none 0 0] 34))
  have r1 : OwnP w.heap.size (Kn (fun _ => False) wx (wx.alloc (.cells #[.slice none 0 0] 34))) (wx.alloc (.cells #[.slice none 0 0] 34)) (.slice (some ⟨wx.heap.size, 0, none⟩) 1 1) (wasT (dk0 3000).lg.ls) := by
    refine ⟨[.slice none 0 0], World.ownsRow_lit (base := w.heap.size) (e := 34) (size := 1) wx #[.slice none 0 0] 1 o0.bw.size (by unfold maxLen; omega) rfl, fun j hj => ?_, fun i l hl => ?_⟩
    · cases hj; exact .inr ⟨Nat.le_refl _, by simp⟩
    · have : i = 0 := by have := (List.getElem?_eq_some_iff.1 hl).1; simp [wasT, dk0, lg0] at this; omega
      subst this
      have : l = [] := (Option.some.inj hl).symm
      subst this
      exact ⟨none, 0, rfl, by simp, fun h => by simp at h⟩
  clear o0
  go_wp2_with fail
  go_loopw [12, 13] (fun v i wr => ∃ (k : Nat) (d : Dk) (K : Nat → Prop), k ≤ s.length ∧ k ≤ 60 ∧ i = .int .i64 k ∧ Fv k d ∧ Od T K w wr B d ∧ OwnP w.heap.size K wr v (wasT d.lg.ls)) (fun _ i _ => s.length - (intOf i).toNat)
  case atStart => exact ⟨0, _, _, by omega, by omega, rfl, Fv.new, o1, r1⟩
  case round =>
    obtain ⟨k, d, K, hk, hk60, rfl, fv, on, row⟩ := hrel
    clear o1 r1
    by_cases hlt : k < s.length ∧ k < 60
    · obtain ⟨hlt, hlt60⟩ := hlt
      have hlt' : (k : Int) < (s.length : Int) := by omega
      have hlt60' : (k : Int) < 60 := by omega
      obtain ⟨b, off, rfl, hbl, hc⟩ := (hq.step on.bw) (by omega)
      obtain ⟨x, hx⟩ : ∃ x, s[k]? = some x := ⟨s[k], List.getElem?_eq_getElem hlt⟩
      obtain ⟨d0, d1, d2, d3, d4, d5, z1, z2, z3⟩ := hc k x hx
      have hxn := hsN x (List.mem_of_getElem? hx)
      obtain ⟨p12, c12, rfl, hc12, hc12'⟩ := row.form
      have hb0 := below_al (below_self wr) (.cells #[.int .i64 x.what, .int .i64 x.who, .string x.key, .string x.hi, .string x.val, .int .i64 x.n] 39)
      have dw0 : Dw T _ w _ B wr.heap.size x d _ _ := ⟨on.step V hb0, row.kn hb0, Sb.new wr 39 x, by simp [Sw], .inr ⟨Nat.le_refl _, by simp⟩⟩
      have P0 := dw0.od.safe V
      clear on hc hx hq row hb0
      go_upto_block 2 with (go_at_call 13; refine P0.mono ?_; rintro e w1 ⟨rfl, od1, hb1⟩; have dw1 := dw0.kn od1 hb1; have kc0 := dw1.sb.c0)
      obtain ⟨Bs, hBs⟩ : ∃ Bs, Bs = wr.heap.size := ⟨_, rfl⟩
      rw [← hBs] at dw1
      rw [← hBs]
      clear P0 dw0 od1 hb1 hBs kc0 d0 d1 d2 d3 d4 d5
      obtain ⟨K1, hK1⟩ : ∃ K1, K1 = Kn (Kn K wr (wr.alloc (.cells #[.int .i64 x.what, .int .i64 x.who, .string x.key, .string x.hi, .string x.val, .int .i64 x.n] 39))) (wr.alloc (.cells #[.int .i64 x.what, .int .i64 x.who, .string x.key, .string x.hi, .string x.val, .int .i64 x.n] 39)) w1 := ⟨_, rfl⟩
      rw [← hK1] at dw1
      clear hK1
      go_cut [12, 16, 17, 18, 19, 20] from 100 to 202 (fun v _ _ _ _ _ wy => ∃ (d' : Dk) (K' : Nat → Prop), Fs k d d' ∧ Od T K' w wy B d' ∧ OwnP w.heap.size K' wy v (wasT d'.lg.ls))
      case first =>
        have c0 := dw1.sb.c0
        have c1 : w1.cell? ⟨Bs, 1, none⟩ = some (.int .i64 x.who) := dw1.sw
        have c2 := dw1.sb.c2
        have c4 := dw1.sb.c4
        have c5 := dw1.sb.c5
        by_cases hw : x.what = 0
        · have e0 : (x.what == 0) = true := by simp; omega
          have P1 := dw1.od.begin_ V (fvSm fv.bg.fv (by omega))
          clear hw
          go_wp2_with fail
          refine P1.mono ?_
          rintro e w2 ⟨rfl, od2, hb2⟩
          have dw2 := dw1.kw od2 hb2
          clear P1 dw1 od2 hb2 c0 c1 c2 c4 c5
          go_wp2_with fail
          go_meet
          case rel => exact ⟨_, _, fv.bg, dw2.od, by rw [(wt_bg d).2.2.1]; exact dw2.row⟩
        by_cases hw : x.what = 1
        · have e0 : (x.what == 0) = false := by simp; omega
          have e1 : (x.what == 1) = true := by simp; omega
          have P1 := dw1.od.put V x.who x.key x.val z1 z3 (fvSm (fv.dc x.who (c := ⟨x.key, x.val, false⟩) (fun g => by cases g)).fv (by omega))
          clear hw
          go_wp2_with fail
          refine P1.mono ?_
          rintro e w2 ⟨rfl, od2, hb2⟩
          have dw2 := dw1.kw od2 hb2
          clear P1 dw1 od2 hb2 c0 c1 c2 c4 c5
          go_wp2_with fail
          go_meet
          case rel => exact ⟨_, _, fv.dc x.who (fun g => by cases g), dw2.od, by rw [(wt_dc fv.ok _ _).2.2.1]; exact dw2.row⟩
        by_cases hw : x.what = 2
        · have e0 : (x.what == 0) = false := by simp; omega
          have e1 : (x.what == 1) = false := by simp; omega
          have e2 : (x.what == 2) = true := by simp; omega
          have P1 := dw1.od.put V x.who x.key x.val z1 z3 (fvSm (fv.dc x.who (c := ⟨x.key, x.val, false⟩) (fun g => by cases g)).fv (by omega))
          clear hw
          go_wp2_with fail
          refine P1.mono ?_
          rintro e w2 ⟨rfl, od2, hb2⟩
          have dw2 := dw1.kw od2 hb2
          clear P1 dw1 od2 hb2 c0 c1 c2 c4 c5
          go_wp2_with fail
          go_meet
          case rel => exact ⟨_, _, fv.dc x.who (fun g => by cases g), dw2.od, by rw [(wt_dc fv.ok _ _).2.2.1]; exact dw2.row⟩
        by_cases hw : x.what = 3
        · have e0 : (x.what == 0) = false := by simp; omega
          have e1 : (x.what == 1) = false := by simp; omega
          have e2 : (x.what == 2) = false := by simp; omega
          have e3 : (x.what == 3) = true := by simp; omega
          have P1 := dw1.od.put V x.who x.key x.val z1 z3 (fvSm (fv.dc x.who (c := ⟨x.key, x.val, false⟩) (fun g => by cases g)).fv (by omega))
          clear hw
          go_wp2_with fail
          refine P1.mono ?_
          rintro e w2 ⟨rfl, od2, hb2⟩
          have dw2 := dw1.kw od2 hb2
          clear P1 dw1 od2 hb2 c0 c1 c2 c4 c5
          go_wp2_with fail
          go_meet
          case rel => exact ⟨_, _, fv.dc x.who (fun g => by cases g), dw2.od, by rw [(wt_dc fv.ok _ _).2.2.1]; exact dw2.row⟩
        by_cases hw : x.what = 4
        · have e0 : (x.what == 0) = false := by simp; omega
          have e1 : (x.what == 1) = false := by simp; omega
          have e2 : (x.what == 2) = false := by simp; omega
          have e3 : (x.what == 3) = false := by simp; omega
          have e4 : (x.what == 4) = true := by simp; omega
          have P1 := dw1.od.put V x.who x.key x.val z1 z3 (fvSm (fv.dc x.who (c := ⟨x.key, x.val, false⟩) (fun g => by cases g)).fv (by omega))
          clear hw
          go_wp2_with fail
          refine P1.mono ?_
          rintro e w2 ⟨rfl, od2, hb2⟩
          have dw2 := dw1.kw od2 hb2
          clear P1 dw1 od2 hb2 c0 c1 c2 c4 c5
          go_wp2_with fail
          go_meet
          case rel => exact ⟨_, _, fv.dc x.who (fun g => by cases g), dw2.od, by rw [(wt_dc fv.ok _ _).2.2.1]; exact dw2.row⟩
        by_cases hw : x.what = 5
        · have e0 : (x.what == 0) = false := by simp; omega
          have e1 : (x.what == 1) = false := by simp; omega
          have e2 : (x.what == 2) = false := by simp; omega
          have e3 : (x.what == 3) = false := by simp; omega
          have e4 : (x.what == 4) = false := by simp; omega
          have e5 : (x.what == 5) = true := by simp; omega
          have P1 := dw1.od.drop V x.who x.key z1 (fvSm (fv.dc x.who (c := ⟨x.key, ByteArray.empty, true⟩) (fun _ => rfl)).fv (by omega))
          clear hw
          go_wp2_with fail
          refine P1.mono ?_
          rintro e w2 ⟨rfl, od2, hb2⟩
          have dw2 := dw1.kw od2 hb2
          clear P1 dw1 od2 hb2 c0 c1 c2 c4 c5
          go_wp2_with fail
          go_meet
          case rel => exact ⟨_, _, fv.dc x.who (fun _ => rfl), dw2.od, by rw [(wt_dc fv.ok _ _).2.2.1]; exact dw2.row⟩
        by_cases hw : x.what = 6
        · have e0 : (x.what == 0) = false := by simp; omega
          have e1 : (x.what == 1) = false := by simp; omega
          have e2 : (x.what == 2) = false := by simp; omega
          have e3 : (x.what == 3) = false := by simp; omega
          have e4 : (x.what == 4) = false := by simp; omega
          have e5 : (x.what == 5) = false := by simp; omega
          have e6 : (x.what == 6) = true := by simp; omega
          have P1 := dw1.od.commit V x.who (Spz.of fv.ok fv.no) (fvSm (fv.cm x.who).fv (by omega))
          have hL : (wasT d.lg.ls).length = d.lg.ls.length + 1 := wasT_len _
          have hlast := fv.ok.last
          have hfw := fv.ok.lg.few.1
          clear hw
          rcases cm_cases fv.ok x.who with ⟨h1, h2, h3, h4, h5⟩ | ⟨own, h0, h1, h2, h3, h4, h5, h6⟩
          · by_cases hf : cmF d x.who = 0
            · obtain ⟨h6, h7⟩ := h5 hf
              rw [hf, ev_0] at P1
              have g1 : (cmN d x.who == ((wasT d.lg.ls).length : Int)) = false := by simp; omega
              replace hL : True := trivial
              clear hf h5 h6 h7 h2 h3 h4
              go_wp2_with fail
              refine P1.mono ?_
              rintro e w2 ⟨rfl, od2, hb2⟩
              have dw2 := dw1.kw od2 hb2
              clear P1 dw1 od2 hb2 c0 c1 c2 c4 c5
              go_wp2_with fail
              go_meet
              case rel => exact ⟨_, _, fv.cm _, dw2.od, by rw [h1]; exact dw2.row⟩
            · rw [ev_ne hf] at P1
              replace hL : True := trivial
              clear hf h5 h2 h3 h4
              go_wp2_with fail
              refine P1.mono ?_
              rintro e w2 ⟨rfl, od2, hb2⟩
              have dw2 := dw1.kw od2 hb2
              clear P1 dw1 od2 hb2 c0 c1 c2 c4 c5
              go_wp2_with fail
              go_meet
              case rel => exact ⟨_, _, fv.cm _, dw2.od, by rw [h1]; exact dw2.row⟩
          · rw [h5, h6, ev_0] at P1
            have g1 : (d.last + 1 == ((wasT d.lg.ls).length : Int)) = true := by simp; omega
            have hL2 : (wasT d.lg.ls).length ≤ 40000 := by omega
            replace hL : True := trivial
            clear hlast hfw
            go_wp2_with fail
            refine P1.mono ?_
            rintro e w2 ⟨rfl, od2, hb2⟩
            have dw2 := dw1.kw od2 hb2
            clear P1 dw1 od2 hb2 c0 c1 c2 c4 c5
            have hall := (fv.cm x.who).fv.all
            obtain ⟨A, hA⟩ : ∃ A, Hid (A = allT (cmD d x.who).lg.ls) := ⟨_, rfl⟩
            have P2 := dw2.od.all V
            rw [hall, ← hA.out] at P2
            have hW : Hid (wasT (cmD d x.who).lg.ls = wasT d.lg.ls ++ [A]) := by
              show _ = _
              rw [hA.out, h1, wasT_app]
            clear hall h1 h2 h3 h4 h5 h6 h0 hA
            go_wp2_with fail
            refine P2.mono ?_
            rintro e w3 ⟨q3, c3, rfl, hc3, hp3, od3, hb3⟩
            have dw3 := dw2.kn od3 hb3
            have hv2 : ∀ j, (Value.slice p12 (wasT d.lg.ls).length c12).ownBlock = some j → j < w2.heap.size := fun j e => by
              obtain ⟨vs, r1, _⟩ := dw2.row
              exact (op_lt r1 e).2
            clear P2 od3 dw2
            have hbx := below_al (below_self w3) (.cells #[.slice q3 A.length c3] 34)
            have hpk : PrIn (fun j => Kn (Kw K1 w1) w2 w3 j ∧ (Value.slice p12 (wasT d.lg.ls).length c12).ownBlock ≠ some j) w3 q3 A := hp3.mono (fun j hj hj2 => ⟨.inr ⟨hj2, hj⟩, fun e => by have := hv2 j e; omega⟩)
            have dw4 := dw3.kn (dw3.od.step V hbx) hbx
            have hpk4 := (hpk.step hbx).mono (H := fun j => Kn (Kn (Kw K1 w1) w2 w3) w3 (w3.alloc (.cells #[.slice q3 A.length c3] 34)) j ∧ (Value.slice p12 (wasT d.lg.ls).length c12).ownBlock ≠ some j) (fun j _ hj => ⟨.inl hj.1, hj.2⟩)
            obtain ⟨vs, r1, r2, r3⟩ := dw4.row
            have hsz3 := dw4.od.bw.size
            have hod4 := dw4.od
            clear dw3 dw4 hpk hp3 hb3 hv2 hbx
            go_wp2_with (at_builtin; refine wpList_append_oneAt 37 34 1 24 _ Tryz.underlying37 infoPl rfl (by decide) (by decide) rfl _ _ rfl w.heap.size _ (wasT d.lg.ls).length vs rfl r1 hsz3 w3.heap.size [.slice q3 A.length c3] rfl rfl (op_cell _ _ _ _ rfl) op_one (by omega) ?_; intro v4 w5 own4 hg4 hat4)
            go_meet
            case rel =>
              have hbt : But (fun j => (Value.slice p12 (wasT d.lg.ls).length c12).ownBlock = some j) (w3.alloc (.cells #[.slice q3 A.length c3] 34)) w5 := ⟨hg4.os, hg4.tape, hg4.output, hg4.size, fun k hk hF => hg4.block k hk (fun e => hF e.symm)⟩
              refine ⟨_, _, fv.cm _, hod4.mine V hbt (fun j hj => r2 j hj) (fun j hj => (op_lt r1 hj).1), ?_⟩
              rw [hW.out]
              exact OwnP.more r1 r2 r3 hpk4 hc3 own4 hg4 hat4
        by_cases hw : x.what = 7
        · have e0 : (x.what == 0) = false := by simp; omega
          have e1 : (x.what == 1) = false := by simp; omega
          have e2 : (x.what == 2) = false := by simp; omega
          have e3 : (x.what == 3) = false := by simp; omega
          have e4 : (x.what == 4) = false := by simp; omega
          have e5 : (x.what == 5) = false := by simp; omega
          have e6 : (x.what == 6) = false := by simp; omega
          have e7 : (x.what == 7) = true := by simp; omega
          have P1 := dw1.od.commit V x.who (Spz.of fv.ok fv.no) (fvSm (fv.cm x.who).fv (by omega))
          have hL : (wasT d.lg.ls).length = d.lg.ls.length + 1 := wasT_len _
          have hlast := fv.ok.last
          have hfw := fv.ok.lg.few.1
          clear hw
          rcases cm_cases fv.ok x.who with ⟨h1, h2, h3, h4, h5⟩ | ⟨own, h0, h1, h2, h3, h4, h5, h6⟩
          · by_cases hf : cmF d x.who = 0
            · obtain ⟨h6, h7⟩ := h5 hf
              rw [hf, ev_0] at P1
              have g1 : (cmN d x.who == ((wasT d.lg.ls).length : Int)) = false := by simp; omega
              replace hL : True := trivial
              clear hf h5 h6 h7 h2 h3 h4
              go_wp2_with fail
              refine P1.mono ?_
              rintro e w2 ⟨rfl, od2, hb2⟩
              have dw2 := dw1.kw od2 hb2
              clear P1 dw1 od2 hb2 c0 c1 c2 c4 c5
              go_wp2_with fail
              go_meet
              case rel => exact ⟨_, _, fv.cm _, dw2.od, by rw [h1]; exact dw2.row⟩
            · rw [ev_ne hf] at P1
              replace hL : True := trivial
              clear hf h5 h2 h3 h4
              go_wp2_with fail
              refine P1.mono ?_
              rintro e w2 ⟨rfl, od2, hb2⟩
              have dw2 := dw1.kw od2 hb2
              clear P1 dw1 od2 hb2 c0 c1 c2 c4 c5
              go_wp2_with fail
              go_meet
              case rel => exact ⟨_, _, fv.cm _, dw2.od, by rw [h1]; exact dw2.row⟩
          · rw [h5, h6, ev_0] at P1
            have g1 : (d.last + 1 == ((wasT d.lg.ls).length : Int)) = true := by simp; omega
            have hL2 : (wasT d.lg.ls).length ≤ 40000 := by omega
            replace hL : True := trivial
            clear hlast hfw
            go_wp2_with fail
            refine P1.mono ?_
            rintro e w2 ⟨rfl, od2, hb2⟩
            have dw2 := dw1.kw od2 hb2
            clear P1 dw1 od2 hb2 c0 c1 c2 c4 c5
            have hall := (fv.cm x.who).fv.all
            obtain ⟨A, hA⟩ : ∃ A, Hid (A = allT (cmD d x.who).lg.ls) := ⟨_, rfl⟩
            have P2 := dw2.od.all V
            rw [hall, ← hA.out] at P2
            have hW : Hid (wasT (cmD d x.who).lg.ls = wasT d.lg.ls ++ [A]) := by
              show _ = _
              rw [hA.out, h1, wasT_app]
            clear hall h1 h2 h3 h4 h5 h6 h0 hA
            go_wp2_with fail
            refine P2.mono ?_
            rintro e w3 ⟨q3, c3, rfl, hc3, hp3, od3, hb3⟩
            have dw3 := dw2.kn od3 hb3
            have hv2 : ∀ j, (Value.slice p12 (wasT d.lg.ls).length c12).ownBlock = some j → j < w2.heap.size := fun j e => by
              obtain ⟨vs, r1, _⟩ := dw2.row
              exact (op_lt r1 e).2
            clear P2 od3 dw2
            have hbx := below_al (below_self w3) (.cells #[.slice q3 A.length c3] 34)
            have hpk : PrIn (fun j => Kn (Kw K1 w1) w2 w3 j ∧ (Value.slice p12 (wasT d.lg.ls).length c12).ownBlock ≠ some j) w3 q3 A := hp3.mono (fun j hj hj2 => ⟨.inr ⟨hj2, hj⟩, fun e => by have := hv2 j e; omega⟩)
            have dw4 := dw3.kn (dw3.od.step V hbx) hbx
            have hpk4 := (hpk.step hbx).mono (H := fun j => Kn (Kn (Kw K1 w1) w2 w3) w3 (w3.alloc (.cells #[.slice q3 A.length c3] 34)) j ∧ (Value.slice p12 (wasT d.lg.ls).length c12).ownBlock ≠ some j) (fun j _ hj => ⟨.inl hj.1, hj.2⟩)
            obtain ⟨vs, r1, r2, r3⟩ := dw4.row
            have hsz3 := dw4.od.bw.size
            have hod4 := dw4.od
            clear dw3 dw4 hpk hp3 hb3 hv2 hbx
            go_wp2_with (at_builtin; refine wpList_append_oneAt 37 34 1 24 _ Tryz.underlying37 infoPl rfl (by decide) (by decide) rfl _ _ rfl w.heap.size _ (wasT d.lg.ls).length vs rfl r1 hsz3 w3.heap.size [.slice q3 A.length c3] rfl rfl (op_cell _ _ _ _ rfl) op_one (by omega) ?_; intro v4 w5 own4 hg4 hat4)
            go_meet
            case rel =>
              have hbt : But (fun j => (Value.slice p12 (wasT d.lg.ls).length c12).ownBlock = some j) (w3.alloc (.cells #[.slice q3 A.length c3] 34)) w5 := ⟨hg4.os, hg4.tape, hg4.output, hg4.size, fun k hk hF => hg4.block k hk (fun e => hF e.symm)⟩
              refine ⟨_, _, fv.cm _, hod4.mine V hbt (fun j hj => r2 j hj) (fun j hj => (op_lt r1 hj).1), ?_⟩
              rw [hW.out]
              exact OwnP.more r1 r2 r3 hpk4 hc3 own4 hg4 hat4
        by_cases hw : x.what = 9
        · have e0 : (x.what == 0) = false := by simp; omega
          have e1 : (x.what == 1) = false := by simp; omega
          have e2 : (x.what == 2) = false := by simp; omega
          have e3 : (x.what == 3) = false := by simp; omega
          have e4 : (x.what == 4) = false := by simp; omega
          have e5 : (x.what == 5) = false := by simp; omega
          have e6 : (x.what == 6) = false := by simp; omega
          have e7 : (x.what == 7) = false := by simp; omega
          have e9 : (x.what == 9) = true := by simp; omega
          have P1 := dw1.od.flush V (fvSm fv.fl.1.fv (by omega))
          clear hw
          by_cases hf : flF d = 0
          · have hsl' := fv.fl.2 hf
            rw [hf, ev_0] at P1
            clear hf
            go_wp2_with fail
            refine P1.mono ?_
            rintro e w2 ⟨rfl, od2, hb2⟩
            have dw2 := dw1.kw od2 hb2
            clear P1 dw1 od2 hb2 c0 c1 c2 c4 c5
            have P2 := dw2.od.safe V
            go_wp2_with fail
            refine P2.mono ?_
            rintro e w3 ⟨rfl, od3, hb3⟩
            have dw3 := dw2.kn od3 hb3
            clear P2 dw2 od3 hb3
            have P3 := dw3.od.top V
            rw [← hsl'] at P3
            have g1 : ((sfN (flD d) : Int) != (sfN (flD d) : Int)) = false := by simp
            clear hsl'
            go_wp2_with fail
            refine P3.mono ?_
            rintro e w4 ⟨rfl, od4, hb4⟩
            have dw4 := dw3.kn od4 hb4
            clear P3 dw3 od4 hb4
            go_wp2_with fail
            go_meet
            case rel => exact ⟨_, _, fv.fl.1, dw4.od, by rw [show (flD d).lg.ls = d.lg.ls from ls_sy d.lg]; exact dw4.row⟩
          · rw [ev_ne hf] at P1
            clear hf
            go_wp2_with fail
            refine P1.mono ?_
            rintro e w2 ⟨rfl, od2, hb2⟩
            have dw2 := dw1.kw od2 hb2
            clear P1 dw1 od2 hb2 c0 c1 c2 c4 c5
            go_wp2_with fail
            go_meet
            case rel => exact ⟨_, _, fv.fl.1, dw2.od, by rw [show (flD d).lg.ls = d.lg.ls from ls_sy d.lg]; exact dw2.row⟩
        by_cases hw : x.what = 10
        · have e0 : (x.what == 0) = false := by simp; omega
          have e1 : (x.what == 1) = false := by simp; omega
          have e2 : (x.what == 2) = false := by simp; omega
          have e3 : (x.what == 3) = false := by simp; omega
          have e4 : (x.what == 4) = false := by simp; omega
          have e5 : (x.what == 5) = false := by simp; omega
          have e6 : (x.what == 6) = false := by simp; omega
          have e7 : (x.what == 7) = false := by simp; omega
          have e9 : (x.what == 9) = false := by simp; omega
          have e10 : (x.what == 10) = true := by simp; omega
          have P1 := dw1.od.fail V x.n hxn.1 hxn.2 (fvSm (fv.fd hxn.2).fv (by omega))
          clear hw
          go_wp2_with fail
          refine P1.mono ?_
          rintro e w2 ⟨rfl, od2, hb2⟩
          have dw2 := dw1.kw od2 hb2
          clear P1 dw1 od2 hb2 c0 c1 c2 c4 c5
          go_wp2_with fail
          go_meet
          case rel => exact ⟨_, _, fv.fd hxn.2, dw2.od, dw2.row⟩
        by_cases hw : x.what = 11
        · have e0 : (x.what == 0) = false := by simp; omega
          have e1 : (x.what == 1) = false := by simp; omega
          have e2 : (x.what == 2) = false := by simp; omega
          have e3 : (x.what == 3) = false := by simp; omega
          have e4 : (x.what == 4) = false := by simp; omega
          have e5 : (x.what == 5) = false := by simp; omega
          have e6 : (x.what == 6) = false := by simp; omega
          have e7 : (x.what == 7) = false := by simp; omega
          have e9 : (x.what == 9) = false := by simp; omega
          have e10 : (x.what == 10) = false := by simp; omega
          have e11 : (x.what == 11) = true := by simp; omega
          have P1 := dw1.od.crash V x.n hxn.1 hxn.2 (fvSm (fv.cd x.n).1.fv (by omega))
          obtain ⟨fs, j, j1, j2, j3, j4, j5⟩ := fv.cd x.n
          have hall := fs.fv.all
          rw [j2] at hall
          have hfw := fv.ok.lg.few.1
          have hL : (wasT d.lg.ls).length = d.lg.ls.length + 1 := wasT_len _
          have hat := wasT_at j1
          have hlen : (allT (d.lg.ls.take j)).length ≤ 1000000 := by
            have := allT_len (d.lg.ls.take j)
            have := wtL_take d.lg.ls j
            have := fv.wl
            unfold wt at this
            omega
          obtain ⟨L, hLe⟩ : ∃ L, Hid ((wasT d.lg.ls).length = L) := ⟨_, rfl⟩
          rw [hLe.out] at hL hc12 ⊢
          have hLb : L ≤ 40000 := by omega
          have hjL : j < L := by omega
          have hj4 : j ≤ 40000 := by omega
          have g1 : decide ((j : Int) < (sfN d : Int)) = false := by simp; omega
          have g1' : ¬ j < sfN d := by omega
          have g2 : decide ((L : Int) ≤ (j : Int)) = false := by simp; omega
          have g2' : ¬ L ≤ j := by omega
          have g3 : ((j : Int) != (j : Int)) = false := by simp
          have hjL' : (j : Int) < (L : Int) := by omega
          have hjc : (j : Int) + 1 ≤ (c12 : Int) := by omega
          replace hL : Hid _ := hL
          clear hw
          go_wp2_with fail
          refine P1.mono ?_
          rintro e w2 ⟨rfl, od2, hb2⟩
          have dw2 := dw1.kw od2 hb2
          clear P1 dw1 od2 hb2 c0 c1 c2 c4 c5
          have P2 := dw2.od.top V
          rw [j3] at P2
          go_wp2_with fail
          refine P2.mono ?_
          rintro e w3 ⟨rfl, od3, hb3⟩
          have dw3 := dw2.kn od3 hb3
          clear P2 dw2 od3 hb3
          have P3 := dw3.od.safe V
          rw [j4] at P3
          go_wp2_with fail
          refine P3.mono ?_
          rintro e w4 ⟨rfl, od4, hb4⟩
          have dw4 := dw3.kn od4 hb4
          clear P3 dw3 od4 hb4
          have dwd := dw4.kn (dw4.od.step V (below_self _).drew) (below_self _).drew
          have PA := dwd.od.all V
          rw [hall] at PA
          obtain ⟨bw, qw, cw, e1, hbw, hKb, cl, hcw, hpw⟩ := dw4.row.at hat
          subst e1
          go_wp2_with fail
          go_region_held3 (fun wz => wz.cell? ⟨bw, j, none⟩ = some (.slice qw (allT (d.lg.ls.take j)).length cw)) (first | exact cl | exact f2 | exact f1)
            (first
              | (go_at_call 12; refine PA.mono ?_; clear PA; rintro e w5 ⟨q5, c5', rfl, hc5, hp5, od5, hb5⟩; have dw5 := dwd.kn od5 hb5; have f1 := (hb5.cell (p := ⟨bw, j, none⟩) hbw).trans cl; have PS := samePairs _ _ q5 qw c5' cw w5 hlen hp5.at (((hpw.step (below_self _).drew).step hb5).at); rw [decide_eq_true (rfl : allT (d.lg.ls.take j) = allT (d.lg.ls.take j))] at PS)
              | (go_at_call 17; refine PS.mono ?_; clear PS; rintro e w6 ⟨rfl, hb6⟩; have dw6 := dw5.kn (dw5.od.step V hb6) hb6; have f2 := (hb6.cell (p := ⟨bw, j, none⟩) (Nat.lt_of_lt_of_le hbw hb5.size)).trans f1))
          clear dwd dw4 cl f1 f2 hpw
          go_wp2_with fail
          go_meet
          case rel =>
            refine ⟨_, _, fs, dw6.od, ?_⟩
            have := dw6.row.take (k := j + 1) (by rw [wasT_len]; omega)
            rw [j2, wasT_take j1]
            exact this
        · have e0 : (x.what == 0) = false := by simp; omega
          have e1 : (x.what == 1) = false := by simp; omega
          have e2 : (x.what == 2) = false := by simp; omega
          have e3 : (x.what == 3) = false := by simp; omega
          have e4 : (x.what == 4) = false := by simp; omega
          have e5 : (x.what == 5) = false := by simp; omega
          have e6 : (x.what == 6) = false := by simp; omega
          have e7 : (x.what == 7) = false := by simp; omega
          have e9 : (x.what == 9) = false := by simp; omega
          have e10 : (x.what == 10) = false := by simp; omega
          have e11 : (x.what == 11) = false := by simp; omega
          go_wp2_with fail
          go_meet
          case rel => exact ⟨d, _, ⟨fv.mono (by omega), Nat.le_refl _⟩, dw1.od, dw1.row⟩
      case rest =>
        obtain ⟨d', K', fs, od', row'⟩ := hcut
        obtain ⟨p', c', rfl, hc', hc''⟩ := row'.form
        have hL : (wasT d'.lg.ls).length = d'.lg.ls.length + 1 := wasT_len _
        have hlast := fs.fv.ok.last
        have hsf := fs.sf
        have hfw := fs.fv.ok.lg.few.1
        obtain ⟨L, hLe⟩ : ∃ L, Hid ((wasT d'.lg.ls).length = L) := ⟨_, rfl⟩
        rw [hLe.out] at hL hc' ⊢
        have hLb : L ≤ 40000 := by omega
        have hL1 : 1 ≤ L := by omega
        replace hL : Hid _ := hL
        have P1 := od'.safe V
        have g1 : decide ((sfN d' : Int) < (sfN d : Int)) = false := by simp; omega
        have g1' : ¬ sfN d' < sfN d := by omega
        clear dw1
        go_wp2_with fail
        refine P1.mono ?_
        rintro e w2 ⟨rfl, od2, hb2⟩
        have row2 := row'.kn hb2
        have P2 := od2.top V
        rw [show d'.last = ((L : Int) - 1) from by have := hL.out; rw [hlast]; omega] at P2
        have g2 : (((L : Int) - 1) != ((L : Int) - 1)) = false := by simp
        clear P1 od' row' hb2 hsf hlast
        go_wp2_with fail
        refine P2.mono ?_
        rintro e w3 ⟨rfl, od3, hb3⟩
        have row3 := row2.kn hb3
        clear P2 od2 row2 hb3
        go_wp2_with fail
        exact ⟨⟨k + 1, d', _, by omega, by omega, by go_num, fs.fv, od3, by rw [← hLe.out]; exact row3⟩, by simp [intOf]; omega⟩
    · by_cases h1 : k < s.length
      · have g1 : decide ((k : Int) < (s.length : Int)) = true := by simp; omega
        have g2 : decide ((k : Int) < 60) = false := by simp; omega
        have bw := on.bw
        clear on hq row
        go_wp2_with fail
        go_ret
        exact ⟨rfl, bw⟩
      · have g1 : decide ((k : Int) < (s.length : Int)) = false := by simp; omega
        have bw := on.bw
        clear on hq row
        go_wp2_with fail
        go_ret
        exact ⟨rfl, bw⟩
end Go.Proofs.YthhfhbcfdcenfaaGreat

/- The law DeskForgets, from what package desk is asked for. -/
namespace Go.Proofs.YthhfhbcfdcenfaaGreat
open Go.RowKit Vs

theorem df_sm1 : Sm df1 := ⟨by decide, by decide⟩
theorem df_sm2 : Sm df2 := ⟨by decide, by decide⟩
theorem df_sm3 : Sm df3 := ⟨by decide, by decide⟩
theorem df_sm4 : Sm df4 := ⟨by decide, by decide⟩
theorem df_sm5 : Sm df5 := ⟨by decide, by decide⟩
theorem df_sm0 : Sm (dk0 3000) := ⟨by decide, by decide⟩
set_option maxRecDepth 100000 in
set_option maxHeartbeats 4000000 in
theorem law_forgets {T : Td} (V : DFace T) (s : List Stp) (p : Option Addr) (cp : Nat) (w : World) (hsl : s.length ≤ 9223372036854775807) (hq : StAt w p s) (hsN : ∀ x ∈ s, -9223372036854775808 ≤ x.n ∧ x.n ≤ 9223372036854775807) :
    Calls Tryz.prog 3 #[.slice p s.length cp] w fun e w' => e = .returned (.bool true) ∧ Below w.heap.size w w' := by
  have ok0 : OkD (dk0 3000) := OkD.new (by decide) (by decide)
  go_enter Tryz.func3, Tryz.ntmps3
  go_wp2_with fail
  refine (V.newOk w (by decide) (by decide)).mono ?_
  rintro e w1 ⟨B, rfl, hT, hb1⟩
  have o0 : Od T (fun _ => False) w w1 B (dk0 3000) := ⟨⟨_, hT, fun j hj => ⟨hj.1, hj.2, id⟩⟩, ok0, df_sm0, hb1⟩
  clear hT hb1
  have P1 := o0.begin_ V (by rw [g1]; exact df_sm1)
  rw [f1.1, f1.2, g1, ev_0] at P1
  clear o0
  go_wp2_with fail
  refine P1.mono ?_
  rintro e w2 ⟨rfl, o1, b1⟩
  clear P1 b1
  have P2 := o1.put V 1 { data := #[107] } { data := #[49] } (by decide) (by decide) (by show Sm (dcD df1 1 cK1); rw [g2.2]; exact df_sm2)
  change Calls Tryz.prog 8 _ _ (fun e w' => e = .returned (ev (dcF df1 1 cK1)) ∧ Od T _ w w' B (dcD df1 1 cK1) ∧ _) at P2
  rw [g2.1, g2.2, ev_0] at P2
  clear o1
  go_wp2_with fail
  refine P2.mono ?_
  rintro e w3 ⟨rfl, o2, b2⟩
  clear P2 b2
  have P3 := o2.commit V 1 (Spz.of o2.ok (fun o ho => by simp [df2] at ho; rw [ho])) (by rw [g3.2.2]; exact df_sm3)
  rw [g3.1, g3.2.1, g3.2.2, ev_0] at P3
  clear o2
  go_wp2_with fail
  refine P3.mono ?_
  rintro e w4 ⟨rfl, o3, b3⟩
  clear P3 b3
  have P4 := o3.flush V (by rw [g4.2]; exact df_sm4)
  rw [g4.1, g4.2, ev_0] at P4
  clear o3
  go_wp2_with fail
  refine P4.mono ?_
  rintro e w5 ⟨rfl, o4, b4⟩
  clear P4 b4
  have P5 := o4.crash V 0 (by decide) (by decide) (by rw [g5]; exact df_sm5)
  rw [g5] at P5
  clear o4
  go_wp2_with fail
  refine P5.mono ?_
  rintro e w6 ⟨rfl, o5, b5⟩
  clear P5 b5
  have P6 := o5.all V
  rw [g6.1] at P6
  go_wp2_with fail
  refine P6.mono ?_
  rintro e w7 ⟨q7, c7, rfl, _, _, o6, _⟩
  clear P6 o5
  have P7 := o6.safe V
  rw [g6.2] at P7
  go_wp2_with fail
  refine P7.mono ?_
  rintro e w8 ⟨rfl, o7, b7⟩
  have bw := o7.bw
  clear P7 o6 o7 b7
  go_wp2_with fail
  refine (V.newOk w8 (by decide) (by decide)).mono ?_
  rintro e w9 ⟨B9, rfl, hT9, hb9⟩
  have hs8 := bw.size
  have o9 : Od T (fun _ => False) w w9 B9 (dk0 3000) := ⟨⟨_, hT9, fun j hj => ⟨by have := hj.1; omega, hj.2, id⟩⟩, ok0, df_sm0, below_via bw hb9⟩
  clear hT9 hb9 bw hs8 ok0
  go_upto_if 80 with fail
  go_cut [2] (fun _ wy => wy = w9)
  case first =>
    go_wp2_with fail
    go_meet
    case rel => exact rfl
  case rest =>
  subst hcut
  refine ‹∀ (a : Act) (w : World), Code.wp _ _ _ a w → _› _ _ ?_
  exact df_loop V hsl hq hsN o9
end Go.Proofs.YthhfhbcfdcenfaaGreat
