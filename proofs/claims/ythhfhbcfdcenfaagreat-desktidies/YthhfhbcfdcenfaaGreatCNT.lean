/- A law's own rows of numbers, of texts and of lists of pairs, beside a desk. -/
import Derived.Test.YthhfhbcfdcenfaaGreatCNF
import Derived.Test.YthhfhbcfdcenfaaGreatCMM
import Derived.Deep.CutBlock
namespace Go.Proofs.YthhfhbcfdcenfaaGreat
open Go.RowKit Vs

theorem infoIn : (Tryz.prog.info? 3).map (fun i => (i.zero, i.size, i.bytes)) = some (some (.int .i64 0), 1, 8) := by kernel_rfl
theorem infoSr : (Tryz.prog.info? 9).map (fun i => (i.zero, i.size, i.bytes)) = some (some (.string ByteArray.empty), 1, 16) := by kernel_rfl
/-- Is it an error? -/
def bz (z : Int) : Bool := !decide (z = 0)
theorem bz_0 {z : Int} (h : z = 0) : bz z = false := by subst h; rfl
theorem bz_1 {z : Int} (h : z ≠ 0) : bz z = true := by unfold bz; rw [decide_eq_false h]; rfl
theorem neq_ev (z : Int) (W : World) : (binOp .neq 25 (ev z) .nilIface).run Tryz.prog W = .ok (.bool (bz z)) W := by
  by_cases h : z = 0
  · rw [bz_0 h]; subst h; rw [ev_0]; go_simp
  · rw [ev_ne h, bz_1 h]; go_simp
theorem grd_ev (z : Int) (W : World) (n : Nat) : (eqGuard BinOp.neq 25 (.tmp n) (.const .nilIface) (ev z) Value.nilIface).run Tryz.prog W = .ok () W := by
  by_cases h : z = 0
  · subst h; rw [ev_0]; go_simp
  · rw [ev_ne h]; go_simp
theorem op_str {s : ByteArray} : ∀ u ∈ ([.string s] : List Value), u.oneCell' = true := by
  intro u hu
  rw [List.mem_singleton.1 hu]; rfl
theorem op_int {n : Int} : ∀ u ∈ ([.int .i64 n] : List Value), u.oneCell' = true := by
  intro u hu
  rw [List.mem_singleton.1 hu]; rfl
/-- A row of the law's own, in a block of K that is none of X. -/
def OwnC (n0 : Nat) (K X : Nat → Prop) (w : World) (e : Nat) (v : Value) (xs : List Value) : Prop := w.ownsRow n0 e 1 v xs.length xs ∧ ∀ j, v.ownBlock = some j → K j ∧ ¬ X j
theorem OwnC.nil (n0 : Nat) (K X : Nat → Prop) (w : World) (e : Nat) : OwnC n0 K X w e (.slice none 0 0) [] := ⟨World.ownsRow_nil _ _ _ _, fun j h => by cases h⟩
theorem OwnC.but {n0 : Nat} {E K K' X X' : Nat → Prop} {w w' : World} {e : Nat} {v : Value} {xs : List Value} (h : OwnC n0 K X w e v xs) (hb : But E w w') (hE : ∀ j, v.ownBlock = some j → K j → ¬ E j) (hK : ∀ j, j < w.heap.size → K j → K' j) (hX : ∀ j, j < w.heap.size → X' j → X j) : OwnC n0 K' X' w' e v xs :=
  ⟨op_but h.1 hb (fun j hj => hE j hj (h.2 j hj).1), fun j hj => ⟨hK j (op_lt h.1 hj).2 (h.2 j hj).1, fun g => (h.2 j hj).2 (hX j (op_lt h.1 hj).2 g)⟩⟩
theorem OwnC.form {n0 : Nat} {K X : Nat → Prop} {w : World} {e : Nat} {v : Value} {xs : List Value} (h : OwnC n0 K X w e v xs) : ∃ p c, v = .slice p xs.length c ∧ xs.length ≤ c ∧ c ≤ 9223372036854775807 := by
  rcases h.1.2 with ⟨h2, h3⟩ | ⟨g, c, cur, h2, _, _, h3, h4, _⟩
  · exact ⟨none, 0, by rw [h2, h3], by omega, by decide⟩
  · exact ⟨_, c, h2, h3, h4⟩
theorem OwnC.at {n0 : Nat} {K X : Nat → Prop} {w : World} {e : Nat} {p : Option Addr} {c : Nat} {xs : List Value} (h : OwnC n0 K X w e (.slice p xs.length c) xs) {i : Nat} {u : Value} (hi : xs[i]? = some u) : ∃ b, p = some ⟨b, 0, none⟩ ∧ b < w.heap.size ∧ K b ∧ w.cell? ⟨b, i, none⟩ = some u := by
  have hlt := (List.getElem?_eq_some_iff.1 hi).1
  rcases h.1.2 with ⟨_, h0⟩ | ⟨g, c', cur, h0, _, hg, _⟩
  · omega
  · cases h0
    exact ⟨g, rfl, (Array.getElem?_eq_some_iff.1 hg).1, (h.2 g rfl).1, by rw [h.1.cellAt i (by omega)]; exact hi⟩
theorem op_type {W : World} {n0 e size n r t : Nat} {v : Value} {xs : List Value} {cur : Array Value} (h : W.ownsRow n0 e size v n xs) (hr : v.ownBlock = some r) (hc : W.heap[r]? = some (.cells cur t (0, 0))) : t = e := by
  rcases h.2 with ⟨rfl, _⟩ | ⟨g, cap, cur', rfl, _, hg, _⟩
  · cases hr
  · have : g = r := Option.some.inj hr
    subst this
    rw [hg] at hc
    cases hc; rfl
/-- Rows of different elements lie apart. -/
theorem op_apart {W : World} {n0 n1 e e' size size' n n' : Nat} {v v' : Value} {xs xs' : List Value} (h : W.ownsRow n0 e size v n xs) (h' : W.ownsRow n1 e' size' v' n' xs') (hne : e ≠ e') {j : Nat} (hj : v.ownBlock = some j) : v'.ownBlock ≠ some j := by
  intro hj'
  rcases h'.2 with ⟨rfl, _⟩ | ⟨g, cap, cur, rfl, _, hg, _⟩
  · cases hj'
  · have : g = j := Option.some.inj hj'
    subst this
    exact hne (op_type h hj hg).symm
/-- One more. -/
theorem OwnC.more {n0 : Nat} {K X : Nat → Prop} {w w' : World} {e : Nat} {v v' u : Value} {xs : List Value} (h : OwnC n0 K X w e v xs) (hx : ∀ j, X j → j < w.heap.size) (hrow : w'.ownsRow n0 e 1 v' (xs.length + 1) (xs ++ [u])) (hat : v'.ownBlock = v.ownBlock ∨ v'.ownBlock = some w.heap.size) : OwnC n0 (Kn K w w') X w' e v' (xs ++ [u]) := by
  refine ⟨by simpa using hrow, fun j hj => ?_⟩
  rcases hat with g | g
  · have := h.2 j (g.symm.trans hj)
    exact ⟨.inl this.1, this.2⟩
  · have e1 : w.heap.size = j := Option.some.inj (g.symm.trans hj)
    exact ⟨.inr ⟨by omega, (op_lt hrow hj).2⟩, fun q => by have := hx j q; omega⟩
/-- A row of lists of pairs, which lie in blocks of X. -/
def OwnQ (n0 : Nat) (K X : Nat → Prop) (w : World) (v : Value) (ls : List (List Pr)) : Prop := ∃ vs, OwnC n0 K X w 34 v vs ∧ vs.length = ls.length ∧ ∀ (i : Nat) (l : List Pr), ls[i]? = some l → ∃ q c, vs[i]? = some (.slice q l.length c) ∧ l.length ≤ c ∧ PrIn X w q l
theorem OwnQ.nil (n0 : Nat) (K X : Nat → Prop) (w : World) : OwnQ n0 K X w (.slice none 0 0) [] := ⟨[], OwnC.nil _ _ _ _ _, rfl, fun i l h => by simp at h⟩
theorem OwnQ.but {n0 : Nat} {E K K' X X' : Nat → Prop} {w w' : World} {v : Value} {ls : List (List Pr)} (h : OwnQ n0 K X w v ls) (hb : But E w w') (hE : ∀ j, v.ownBlock = some j → K j → ¬ E j) (hEX : ∀ j, X j → ¬ E j) (hK : ∀ j, j < w.heap.size → K j → K' j) (hX : ∀ j, j < w.heap.size → X' j → X j) (hX2 : ∀ j, X j → X' j) : OwnQ n0 K' X' w' v ls := by
  obtain ⟨vs, h1, h2, h3⟩ := h
  refine ⟨vs, h1.but hb hE hK hX, h2, fun i l hl => ?_⟩
  obtain ⟨q, c, h4, h5, h6⟩ := h3 i l hl
  exact ⟨q, c, h4, h5, (h6.but hb (fun j _ hj => hEX j hj)).mono (fun j _ hj => hX2 j hj)⟩
theorem OwnQ.form {n0 : Nat} {K X : Nat → Prop} {w : World} {v : Value} {ls : List (List Pr)} (h : OwnQ n0 K X w v ls) : ∃ p c, v = .slice p ls.length c ∧ ls.length ≤ c ∧ c ≤ 9223372036854775807 := by
  obtain ⟨vs, h1, h2, _⟩ := h
  rw [← h2]; exact h1.form
theorem OwnQ.at {n0 : Nat} {K X : Nat → Prop} {w : World} {p : Option Addr} {c : Nat} {ls : List (List Pr)} (h : OwnQ n0 K X w (.slice p ls.length c) ls) {i : Nat} {l : List Pr} (hi : ls[i]? = some l) : ∃ b q cq, p = some ⟨b, 0, none⟩ ∧ b < w.heap.size ∧ K b ∧ w.cell? ⟨b, i, none⟩ = some (.slice q l.length cq) ∧ PrIn X w q l := by
  obtain ⟨vs, h1, h2, h3⟩ := h
  obtain ⟨q, cq, h4, _, h6⟩ := h3 i l hi
  rw [← h2] at h1
  obtain ⟨b, e1, e2, e3, e4⟩ := h1.at h4
  exact ⟨b, q, cq, e1, e2, e3, e4, h6⟩
/-- The desk, and the law's rows. -/
structure Tq (T : Td) (K X : Nat → Prop) (w wr : World) (B : Nat) (d : Dk) (is : List Int) (gs : List ByteArray) (rs : List (List Pr)) (v1 v2 v3 : Value) : Prop where
  od : Od T K w wr B d
  xk : ∀ j, X j → K j ∧ j < wr.heap.size
  ri : OwnC w.heap.size K X wr 3 v1 (is.map (Value.int .i64))
  rg : OwnC w.heap.size K X wr 9 v2 (gs.map Value.string)
  rp : OwnQ w.heap.size K X wr v3 rs
theorem Tq.kw {T : Td} {K X : Nat → Prop} {w wr w' : World} {B : Nat} {d d' : Dk} {is : List Int} {gs : List ByteArray} {rs : List (List Pr)} {v1 v2 v3 : Value} (h : Tq T K X w wr B d is gs rs v1 v2 v3) (o : Od T (Kw K wr) w w' B d') (hb : But (fun j => ¬ K j) wr w') : Tq T (Kw K wr) X w w' B d' is gs rs v1 v2 v3 :=
  ⟨o, fun j hj => ⟨h.xk j hj, Nat.lt_of_lt_of_le (h.xk j hj).2 hb.size⟩, h.ri.but hb (fun _ _ hk hn => hn hk) (fun _ hj hk => ⟨hk, hj⟩) (fun _ _ q => q), h.rg.but hb (fun _ _ hk hn => hn hk) (fun _ hj hk => ⟨hk, hj⟩) (fun _ _ q => q),
   h.rp.but hb (fun _ _ hk hn => hn hk) (fun j hj hn => hn (h.xk j hj).1) (fun _ hj hk => ⟨hk, hj⟩) (fun _ _ q => q) (fun _ q => q)⟩
theorem Tq.kn {T : Td} {K X : Nat → Prop} {w wr w' : World} {B : Nat} {d : Dk} {is : List Int} {gs : List ByteArray} {rs : List (List Pr)} {v1 v2 v3 : Value} (h : Tq T K X w wr B d is gs rs v1 v2 v3) (o : Od T (Kn K wr w') w w' B d) (hb : Below wr.heap.size wr w') : Tq T (Kn K wr w') X w w' B d is gs rs v1 v2 v3 :=
  ⟨o, fun j hj => ⟨.inl (h.xk j hj).1, Nat.lt_of_lt_of_le (h.xk j hj).2 hb.size⟩, h.ri.but (E := fun _ => False) (.below hb) (fun _ _ _ => id) (fun _ _ hk => .inl hk) (fun _ _ q => q), h.rg.but (E := fun _ => False) (.below hb) (fun _ _ _ => id) (fun _ _ hk => .inl hk) (fun _ _ q => q),
   h.rp.but (E := fun _ => False) (.below hb) (fun _ _ _ => id) (fun _ _ => id) (fun _ _ hk => .inl hk) (fun _ _ q => q) (fun _ q => q)⟩
/-- A Range: the pairs are the law's. -/
theorem Tq.rng {T : Td} {K X K' : Nat → Prop} {w wr w' : World} {B : Nat} {d d' : Dk} {is : List Int} {gs : List ByteArray} {rs : List (List Pr)} {v1 v2 v3 : Value} (h : Tq T K X w wr B d is gs rs v1 v2 v3) (o : Od T K' w w' B d') (hK : ∀ j, j < wr.heap.size → K j → K' j) (hK' : ∀ j, K' j → (K j ∧ j < wr.heap.size) ∨ (wr.heap.size ≤ j ∧ j < w'.heap.size)) (hb : But (fun j => ¬ K j) wr w') : Tq T K' (fun j => X j ∨ (wr.heap.size ≤ j ∧ K' j)) w w' B d' is gs rs v1 v2 v3 := by
  have hs := hb.size
  have hX : ∀ j, j < wr.heap.size → (X j ∨ (wr.heap.size ≤ j ∧ K' j)) → X j := fun j hj q => q.elim id (fun g => by have := g.1; omega)
  refine ⟨o, fun j hj => ?_, h.ri.but hb (fun _ _ hk hn => hn hk) hK hX, h.rg.but hb (fun _ _ hk hn => hn hk) hK hX, h.rp.but hb (fun _ _ hk hn => hn hk) (fun j hj hn => hn (h.xk j hj).1) hK hX (fun _ q => .inl q)⟩
  rcases hj with hj | hj
  · have := h.xk j hj
    exact ⟨hK j this.2 this.1, by omega⟩
  · refine ⟨hj.2, ?_⟩
    rcases hK' j hj.2 with g | g
    · have := g.2; omega
    · exact g.2
/-- All that is there: the pairs are the law's. -/
theorem Tq.all {T : Td} {K X : Nat → Prop} {w wr w' : World} {B : Nat} {d : Dk} {is : List Int} {gs : List ByteArray} {rs : List (List Pr)} {v1 v2 v3 : Value} (h : Tq T K X w wr B d is gs rs v1 v2 v3) (o : Od T (Kn K wr w') w w' B d) (hb : Below wr.heap.size wr w') : Tq T (Kn K wr w') (Kn X wr w') w w' B d is gs rs v1 v2 v3 := by
  have hs := hb.size
  have hX : ∀ j, j < wr.heap.size → Kn X wr w' j → X j := fun j hj q => q.elim id (fun g => by have := g.1; omega)
  refine ⟨o, fun j hj => ?_, h.ri.but (E := fun _ => False) (.below hb) (fun _ _ _ => id) (fun _ _ hk => .inl hk) hX, h.rg.but (E := fun _ => False) (.below hb) (fun _ _ _ => id) (fun _ _ hk => .inl hk) hX, h.rp.but (E := fun _ => False) (.below hb) (fun _ _ _ => id) (fun _ _ => id) (fun _ _ hk => .inl hk) hX (fun _ q => .inl q)⟩
  rcases hj with hj | hj
  · have := h.xk j hj
    exact ⟨.inl this.1, by omega⟩
  · exact ⟨.inr hj, hj.2⟩
theorem inI_at {is : List Int} {i : Nat} {x : Int} (h : is[i]? = some x) : (is.map (Value.int .i64))[i]? = some (.int .i64 x) := by rw [List.getElem?_map, h]; rfl
theorem inS_at {gs : List ByteArray} {i : Nat} {x : ByteArray} (h : gs[i]? = some x) : (gs.map Value.string)[i]? = some (.string x) := by rw [List.getElem?_map, h]; rfl
/-- Rows have grown. -/
theorem Tq.pushI {T : Td} (V : DFace T) {K X : Nat → Prop} {w wr w' : World} {B : Nat} {d : Dk} {is : List Int} {gs : List ByteArray} {rs : List (List Pr)} {v1 v2 v3 v' : Value} {x : Int} (h : Tq T K X w wr B d is gs rs v1 v2 v3) (hrow : w'.ownsRow w.heap.size 3 1 v' (is.length + 1) (is.map (Value.int .i64) ++ [.int .i64 x])) (hg : wr.grownBy w' v1.ownBlock) (hat : v'.ownBlock = v1.ownBlock ∨ v'.ownBlock = some wr.heap.size) : Tq T (Kn K wr w') X w w' B d (is ++ [x]) gs rs v' v2 v3 := by
  have hb : But (fun j => v1.ownBlock = some j) wr w' := ⟨hg.os, hg.tape, hg.output, hg.size, fun k hk hF => hg.block k hk (fun e => hF e.symm)⟩
  obtain ⟨vs, q1, q2, q3⟩ := h.rp
  refine ⟨h.od.mine V hb (fun j hj => (h.ri.2 j hj).1) (fun j hj => (op_lt h.ri.1 hj).1), fun j hj => ⟨.inl (h.xk j hj).1, Nat.lt_of_lt_of_le (h.xk j hj).2 hb.size⟩, ?_, h.rg.but hb (fun j hj _ e => op_apart h.ri.1 h.rg.1 (by decide) e hj) (fun _ _ hk => .inl hk) (fun _ _ q => q),
    h.rp.but hb (fun j hj _ e => op_apart h.ri.1 q1.1 (by decide) e hj) (fun j hj e => (h.ri.2 j e).2 hj) (fun _ _ hk => .inl hk) (fun _ _ q => q) (fun _ q => q)⟩
  rw [List.map_append]
  exact OwnC.more h.ri (fun j hj => (h.xk j hj).2) (by rw [List.length_map]; exact hrow) hat
theorem Tq.pushG {T : Td} (V : DFace T) {K X : Nat → Prop} {w wr w' : World} {B : Nat} {d : Dk} {is : List Int} {gs : List ByteArray} {rs : List (List Pr)} {v1 v2 v3 v' : Value} {x : ByteArray} (h : Tq T K X w wr B d is gs rs v1 v2 v3) (hrow : w'.ownsRow w.heap.size 9 1 v' (gs.length + 1) (gs.map Value.string ++ [.string x])) (hg : wr.grownBy w' v2.ownBlock) (hat : v'.ownBlock = v2.ownBlock ∨ v'.ownBlock = some wr.heap.size) : Tq T (Kn K wr w') X w w' B d is (gs ++ [x]) rs v1 v' v3 := by
  have hb : But (fun j => v2.ownBlock = some j) wr w' := ⟨hg.os, hg.tape, hg.output, hg.size, fun k hk hF => hg.block k hk (fun e => hF e.symm)⟩
  obtain ⟨vs, q1, q2, q3⟩ := h.rp
  refine ⟨h.od.mine V hb (fun j hj => (h.rg.2 j hj).1) (fun j hj => (op_lt h.rg.1 hj).1), fun j hj => ⟨.inl (h.xk j hj).1, Nat.lt_of_lt_of_le (h.xk j hj).2 hb.size⟩, h.ri.but hb (fun j hj _ e => op_apart h.rg.1 h.ri.1 (by decide) e hj) (fun _ _ hk => .inl hk) (fun _ _ q => q), ?_,
    h.rp.but hb (fun j hj _ e => op_apart h.rg.1 q1.1 (by decide) e hj) (fun j hj e => (h.rg.2 j e).2 hj) (fun _ _ hk => .inl hk) (fun _ _ q => q) (fun _ q => q)⟩
  rw [List.map_append]
  exact OwnC.more h.rg (fun j hj => (h.xk j hj).2) (by rw [List.length_map]; exact hrow) hat
theorem Tq.pushP {T : Td} (V : DFace T) {K X : Nat → Prop} {w wr w' : World} {B : Nat} {d : Dk} {is : List Int} {gs : List ByteArray} {rs : List (List Pr)} {v1 v2 v3 v' : Value} {vs : List Value} {q : Option Addr} {cq : Nat} {l : List Pr} (h : Tq T K X w wr B d is gs rs v1 v2 v3) (h1 : OwnC w.heap.size K X wr 34 v3 vs) (h2 : vs.length = rs.length) (h3 : ∀ (i : Nat) (l : List Pr), rs[i]? = some l → ∃ q c, vs[i]? = some (.slice q l.length c) ∧ l.length ≤ c ∧ PrIn X wr q l) (hq : PrIn X wr q l) (hcq : l.length ≤ cq) (hrow : w'.ownsRow w.heap.size 34 1 v' (rs.length + 1) (vs ++ [.slice q l.length cq])) (hg : wr.grownBy w' v3.ownBlock) (hat : v'.ownBlock = v3.ownBlock ∨ v'.ownBlock = some wr.heap.size) : Tq T (Kn K wr w') X w w' B d is gs (rs ++ [l]) v1 v2 v' := by
  have hb : But (fun j => v3.ownBlock = some j) wr w' := ⟨hg.os, hg.tape, hg.output, hg.size, fun k hk hF => hg.block k hk (fun e => hF e.symm)⟩
  have hEX : ∀ j, X j → ¬ v3.ownBlock = some j := fun j hj e => (h1.2 j e).2 hj
  refine ⟨h.od.mine V hb (fun j hj => (h1.2 j hj).1) (fun j hj => (op_lt h1.1 hj).1), fun j hj => ⟨.inl (h.xk j hj).1, Nat.lt_of_lt_of_le (h.xk j hj).2 hb.size⟩, h.ri.but hb (fun j hj _ e => op_apart h1.1 h.ri.1 (by decide) e hj) (fun _ _ hk => .inl hk) (fun _ _ q => q), h.rg.but hb (fun j hj _ e => op_apart h1.1 h.rg.1 (by decide) e hj) (fun _ _ hk => .inl hk) (fun _ _ q => q), ?_⟩
  refine ⟨vs ++ [.slice q l.length cq], OwnC.more h1 (fun j hj => (h.xk j hj).2) (by rw [h2]; exact hrow) hat, by simp [h2], fun i m hm => ?_⟩
  rw [List.getElem?_append] at hm
  split at hm
  · obtain ⟨q', c', h4, h5, h6⟩ := h3 i m hm
    exact ⟨q', c', by rw [List.getElem?_append, if_pos (by omega)]; exact h4, h5, h6.but hb (fun j _ hj => hEX j hj)⟩
  · have h0 : i - rs.length = 0 := by
      have := (List.getElem?_eq_some_iff.1 hm).1
      simp at this; omega
    rw [h0] at hm
    simp at hm
    subst hm
    exact ⟨q, cq, by rw [List.getElem?_append, if_neg (by omega), h2, h0]; rfl, hcq, hq.but hb (fun j _ hj => hEX j hj)⟩
end Go.Proofs.YthhfhbcfdcenfaaGreat

/- The walk of the law DeskTidies: behind the Tidy. -/
namespace Vs
theorem take_more {α : Type} {l : List α} {m : Nat} {x : α} (h : l[m]? = some x) : l.take (m + 1) = l.take m ++ [x] := by rw [List.take_add_one, h]; rfl
theorem ris_notin {is : List Int} (h : is.Pairwise (· < ·)) {m : Nat} {x : Int} (hx : is[m]? = some x) : x ∉ is.take m := by
  intro hm
  obtain ⟨i, hi⟩ := List.mem_iff_getElem?.1 hm
  rw [List.getElem?_take] at hi
  split at hi
  · rename_i c
    obtain ⟨a1, a2⟩ := List.getElem?_eq_some_iff.1 hi
    obtain ⟨b1, b2⟩ := List.getElem?_eq_some_iff.1 hx
    have := List.pairwise_iff_getElem.1 h i m a1 b1 c
    omega
  · cases hi
end Vs
namespace Go.Proofs.YthhfhbcfdcenfaaGreat
open Go.RowKit Vs

set_option maxRecDepth 100000 in
set_option maxHeartbeats 4000000 in
theorem dt4 {T : Td} (V : DFace T) {K X : Nat → Prop} {D d : Dk} {is : List Int} {key lo hi : ByteArray} {p1 p2 p3 : Option Addr} {k1 k2 k3 B : Nat} {w wx : World} {c0 c4 c5 c6 c7 c8 c10 c11 c12 c13 c14 c15 c16 c17 c19 c20 c21 c22 c23 c26 c27 c28 c29 c30 c31 c32 c33 c34 c35 c36 c37 c38 c39 c40 c41 c42 c43 c44 c45 c46 c47 c48 c49 c50 c51 c52 c53 c54 c55 c56 c57 c58 c59 c60 c61 c62 c63 c64 c65 c66 c67 c68 c69 c70 c71 c72 c73 c74 c75 c76 c77 c78 c79 c80 c81 c82 c83 c84 c85 c86 c87 c88 c89 c90 c91 c92 c93 c94 c95 c96 c97 c98 c99 c100 c101 c102 c103 c104 c105 c106 c107 c108 c109 c110 c111 c112 c113 c114 c115 c116 c117 c118 c119 c120 c121 c122 c123 c124 c125 c126 c127 c128 c129 c130 c131 c132 c133 c134 c135 c136 c137 c138 c139 c140 c141 c142 c143 c144 c145 c146 c147 c148 c149 c150 c151 c152 c153 c154 c155 c156 c157 c158 c159 c160 c161 c162 c163 c164 c165 c166 c167 c168 c169 c170 c171 c172 c173 c174 c175 c176 c177 c178 c179 c180 c181 c182 c183 c184 c185 c186 c187 c188 c189 c190 c191 c192 c193 c194 c195 c196 c197 c198 c199 c200 c201 c202 c203 c204 c205 c206 c207 c208 c209 c210 c211 c212 c213 c214 c215 c216 c217 c218 c219 c220 c221 c222 c223 c224 c225 c226 c227 c228 c229 c230 c231 c232 c233 c234 c235 c236 c237 c238 c239 c240 c241 c242 c243 c244 c245 c246 c247 c248 c249 c250 c251 c252 c253 c254 c255 c256 c257 c258 c259 c260 : Value}
    (zk : key.size ≤ maxLen) (hl : is.length ≤ 60) (hris : is.Pairwise (· < ·)) (hw : wt D ≤ 100) (hids : D.ids ≤ 100) (hvw : Vw D d) (hask : AskD d [] 2 4) (hrl : ∀ x, (rngV D x lo hi).length ≤ 1000000)
    (tq : Tq T K X w wx B d is (is.map fun x => gotV D x key) (is.map fun x => rngV D x lo hi) (.slice p1 is.length k1) (.slice p2 is.length k2) (.slice p3 is.length k3)) :
    Code.wp Tryz.prog (dropSeq 17 (Tryz.f5.body.getD .skip)) (bodyPost Tryz.prog Tryz.f5 fun e w' => e = .returned (.bool true) ∧ Below w.heap.size w w') ⟨#[c0, .string key, .string lo, .string hi, c4, c5, c6, c7, c8, .pointer (some ⟨B, 0, none⟩), c10, c11, c12, c13, c14, c15, c16, c17, .slice p1 is.length k1, c19, c20, c21, c22, c23, .slice p2 is.length k2, .slice p3 is.length k3, c26, c27, c28, c29, c30, c31, c32, c33, c34, c35, c36, c37, c38, c39, c40, c41, c42, c43, c44, c45, c46, c47, c48, c49, c50, c51, c52, c53, c54, c55, c56, c57, c58, c59, c60, c61, c62, c63, c64, c65, c66, c67, c68, c69, c70, c71, c72, c73, c74, c75, c76, c77, c78, c79, c80, c81, c82, c83, c84, c85, c86, c87, c88, c89, c90, c91, c92, c93, c94, c95, c96, c97, c98, c99, c100, c101, c102, c103, c104, c105, c106, c107, c108, c109, c110, c111, c112, c113, c114, c115, c116, c117, c118, c119, c120, c121, c122, c123, c124, c125, c126, c127, c128, c129, c130, c131, c132, c133, c134, c135, c136, c137, c138, c139, c140, c141, c142, c143, c144, c145, c146, c147, c148, c149, c150, c151, c152, c153, c154, c155, c156, c157, c158, c159, c160, c161, c162, c163, c164, c165, c166, c167, c168, c169, c170, c171, c172, c173, c174, c175, c176, c177, c178, c179, c180, c181, c182, c183, c184, c185, c186, c187, c188, c189, c190, c191, c192, c193, c194, c195, c196, c197, c198, c199, c200, c201, c202, c203, c204, c205, c206, c207, c208, c209, c210, c211, c212, c213, c214, c215, c216, c217, c218, c219, c220, c221, c222, c223, c224, c225, c226, c227, c228, c229, c230, c231, c232, c233, c234, c235, c236, c237, c238, c239, c240, c241, c242, c243, c244, c245, c246, c247, c248, c249, c250, c251, c252, c253, c254, c255, c256, c257, c258, c259, c260], []⟩ wx := by
  conv => arg 2; whnf
  go_wp2_with fail
  go_loopw [34] (fun i wr => ∃ (m : Nat) (d : Dk) (K X : Nat → Prop), m ≤ is.length ∧ i = .int .i64 m ∧ Vw D d ∧ AskD d (is.take m) 2 4 ∧ Tq T K X w wr B d is (is.map fun x => gotV D x key) (is.map fun x => rngV D x lo hi) (.slice p1 is.length k1) (.slice p2 is.length k2) (.slice p3 is.length k3)) (fun i _ => is.length - (intOf i).toNat)
  case atStart => exact ⟨0, d, K, X, by omega, rfl, hvw, by rw [List.take_zero]; exact hask, tq⟩
  case round =>
    clear tq hask hvw
    obtain ⟨m, d, K, X, hm, rfl, hvw, hask, tq⟩ := hrel
    by_cases hlt : m < is.length
    · have hlt' : (m : Int) < (is.length : Int) := by omega
      obtain ⟨x, hx⟩ : ∃ x, is[m]? = some x := ⟨is[m], List.getElem?_eq_getElem hlt⟩
      have hsm : ∀ d', Vw D d' → Sm d' := fun d' h => ⟨by rw [h.wt]; omega, by rw [h.ids]; omega⟩
      have hni := ris_notin hris hx
      obtain ⟨t1, t2, t4⟩ := get_tell tq.od.ok hask (by decide) (by decide) x key hni
      have hne := neq_ev
      have hgd := grd_ev
      have hv1 := hvw.trans t2
      have P1 := tq.od.get V x key zk (hsm _ hv1)
      have r1 := tq.ri
      rw [show is.length = (is.map (Value.int .i64)).length from (List.length_map _).symm] at r1
      obtain ⟨b1, e1, hb1, hK1, c1⟩ := r1.at (inI_at hx)
      subst e1
      clear r1
      rw [hvw.got] at t1
      go_wp2_with fail
      refine P1.mono ?_
      rintro e w1 ⟨rfl, o1, u1⟩
      have tq1 := tq.kw o1 u1
      clear P1 o1 u1 c1 t2
      go_upto_if 231 with fail
      go_cut [35] from 231 to 231 (fun v wy => v = .string (gotV D x key) ∧ wy = w1)
      case first =>
        rcases t1 with ⟨f1, f2⟩ | ⟨f1, f2⟩
        · have q1 := bz_0 f1
          clear f1
          rw [q1]
          clear q1
          go_wp2_with fail
          go_meet
          case rel => exact ⟨by rw [f2], rfl⟩
        · have q1 := bz_1 f1
          clear f1
          rw [q1]
          clear q1
          go_wp2_with fail
          go_meet
          case rel => exact ⟨by rw [f2]; rfl, rfl⟩
      case rest =>
      obtain ⟨rfl, rfl⟩ := hcut
      clear t1
      obtain ⟨s1, s2, s3, s4⟩ := range_tell (i := x) tq1.od.ok t4 hni (by decide) lo hi
      rw [hv1.rng] at s1 s2
      have hv2 := hv1.trans s3
      have P2 := tq1.od.range V x lo hi (hsm _ hv2)
      rw [s1] at P2
      have r1 := tq1.ri
      rw [show is.length = (is.map (Value.int .i64)).length from (List.length_map _).symm] at r1
      obtain ⟨b1', e1', hb1', hK1', c1'⟩ := r1.at (inI_at hx)
      cases e1'
      clear r1
      have hrx := hrl x
      obtain ⟨R, hR⟩ : ∃ R, Hid (R = rngV D x lo hi) := ⟨_, rfl⟩
      rw [← hR.out] at P2 s2 hrx
      go_wp2_with fail
      refine P2.mono ?_
      rintro e w2 ⟨q, cq, K2, rfl, hcq, hKa, hKb, hpr, o2, u2⟩
      have tq2 := tq1.rng o2 hKa hKb u2
      have hpa := hpr.at
      clear P2 o2 u2 tq1 c1' hpr hKa hKb s1 s3
      go_upto_if 244 with fail
      go_cut [37] from 244 to 244 (fun v wy => (∃ q' c', v = .slice q' R.length c' ∧ PrAt w2 q' R) ∧ wy = w2)
      case first =>
        by_cases f1 : drF (dgD d x key) x = 0
        · have q1 := bz_0 f1
          clear f1
          rw [q1]
          clear q1
          go_wp2_with fail
          go_meet
          case rel => exact ⟨⟨q, cq, rfl, hpa⟩, rfl⟩
        · have hRn := s2 f1
          have q1 := bz_1 f1
          clear f1
          rw [q1]
          clear q1
          go_wp2_with fail
          go_meet
          case rel => exact ⟨⟨none, 0, by rw [hRn]; rfl, by rw [hRn]; exact PrAt.nil _ _⟩, rfl⟩
      case rest =>
      obtain ⟨⟨q', c', rfl, hpa'⟩, hw2⟩ := hcut
      have hw2' := hw2.symm
      subst hw2'
      clear hpa
      have r3 := tq2.rp
      rw [show is.length = (is.map fun x => rngV D x lo hi).length from (List.length_map _).symm] at r3
      obtain ⟨b3, q3, cq3, e3, hb3, hK3, c3, hpr3⟩ := r3.at (l := R) (i := m) (by rw [List.getElem?_map, hx, hR.out]; rfl)
      cases e3
      clear r3
      have r2 := tq2.rg
      rw [show is.length = ((is.map fun x => gotV D x key).map Value.string).length from by simp] at r2
      obtain ⟨b2, e2, hb2, hK2, c2⟩ := r2.at (i := m) (inS_at (x := gotV D x key) (by rw [List.getElem?_map, hx]; rfl))
      cases e2
      clear r2
      have P3 := samePairs R R q' q3 c' cq3 w2 hrx hpa' hpr3.at
      rw [decide_eq_true (rfl : R = R)] at P3
      have hself : ((gotV D x key).toList == (gotV D x key).toList) = true := by simp
      go_wp2_with fail
      refine P3.mono ?_
      rintro e w3 ⟨rfl, u3⟩
      have tq3 := tq2.kn (tq2.od.step V u3) u3
      have c2' := (u3.cell (p := ⟨b2, m, none⟩) hb2).trans c2
      clear P3 tq2 u3 c2 c3 hpa' hpr3
      go_wp2_with fail
      refine ⟨⟨m + 1, _, _, _, by omega, by go_num, hv2, ?_, tq3⟩, by simp [intOf]; omega⟩
      rw [take_more hx]
      exact s4.add
    · have bw := tq.od.bw
      go_wp2_with fail
      go_ret
      exact ⟨rfl, bw⟩
end Go.Proofs.YthhfhbcfdcenfaaGreat

/- The walk of the law DeskTidies: the Tidy. -/
namespace Go.Proofs.YthhfhbcfdcenfaaGreat
open Go.RowKit Vs

theorem wt_td (d : Dk) : wt (tdD d) = wt d := rfl
set_option maxRecDepth 100000 in
set_option maxHeartbeats 4000000 in
theorem dt3 {T : Td} (V : DFace T) {K X : Nat → Prop} {d : Dk} {is : List Int} {key lo hi : ByteArray} {p1 p2 p3 q4 : Option Addr} {k1 k2 k3 k4 B : Nat} {w wx : World} {c0 c4 c5 c6 c7 c8 c10 c11 c12 c13 c14 c15 c16 c17 c19 c20 c21 c22 c26 c27 c28 c29 c30 c31 c32 c33 c34 c35 c36 c37 c38 c39 c40 c41 c42 c43 c44 c45 c46 c47 c48 c49 c50 c51 c52 c53 c54 c55 c56 c57 c58 c59 c60 c61 c62 c63 c64 c65 c66 c67 c68 c69 c70 c71 c72 c73 c74 c75 c76 c77 c78 c79 c80 c81 c82 c83 c84 c85 c86 c87 c88 c89 c90 c91 c92 c93 c94 c95 c96 c97 c98 c99 c100 c101 c102 c103 c104 c105 c106 c107 c108 c109 c110 c111 c112 c113 c114 c115 c116 c117 c118 c119 c120 c121 c122 c123 c124 c125 c126 c127 c128 c129 c130 c131 c132 c133 c134 c135 c136 c137 c138 c139 c140 c141 c142 c143 c144 c145 c146 c147 c148 c149 c150 c151 c152 c153 c154 c155 c156 c157 c158 c159 c160 c161 c162 c163 c164 c165 c166 c167 c168 c169 c170 c171 c172 c173 c174 c175 c176 c177 c178 c179 c180 c181 c182 c183 c184 c185 c186 c187 c188 c189 c190 c191 c192 c193 c194 c195 c196 c197 c198 c199 c200 c201 c202 c203 c204 c205 c206 c207 c208 c209 c210 c211 c212 c213 c214 c215 c216 c217 c218 c219 c220 c221 c222 c223 c224 c225 c226 c227 c228 c229 c230 c231 c232 c233 c234 c235 c236 c237 c238 c239 c240 c241 c242 c243 c244 c245 c246 c247 c248 c249 c250 c251 c252 c253 c254 c255 c256 c257 c258 c259 c260 : Value}
    (zk : key.size ≤ maxLen) (hl : is.length ≤ 60) (hris : is.Pairwise (· < ·)) (hw : wt d ≤ 100) (hids : d.ids ≤ 100) (hask : AskD d is 0 2) (hrl : ∀ x, (rngV d x lo hi).length ≤ 1000000) (hall : PrIn X wx q4 (allP d))
    (tq : Tq T K X w wx B d is (is.map fun x => gotV d x key) (is.map fun x => rngV d x lo hi) (.slice p1 is.length k1) (.slice p2 is.length k2) (.slice p3 is.length k3)) :
    Code.wp Tryz.prog (dropSeq 12 (Tryz.f5.body.getD .skip)) (bodyPost Tryz.prog Tryz.f5 fun e w' => e = .returned (.bool true) ∧ Below w.heap.size w w') ⟨#[c0, .string key, .string lo, .string hi, c4, c5, c6, c7, c8, .pointer (some ⟨B, 0, none⟩), c10, c11, c12, c13, c14, c15, c16, c17, .slice p1 is.length k1, c19, c20, c21, c22, .slice q4 (allP d).length k4, .slice p2 is.length k2, .slice p3 is.length k3, c26, c27, c28, c29, c30, c31, c32, c33, c34, c35, c36, c37, c38, c39, c40, c41, c42, c43, c44, c45, c46, c47, c48, c49, c50, c51, c52, c53, c54, c55, c56, c57, c58, c59, c60, c61, c62, c63, c64, c65, c66, c67, c68, c69, c70, c71, c72, c73, c74, c75, c76, c77, c78, c79, c80, c81, c82, c83, c84, c85, c86, c87, c88, c89, c90, c91, c92, c93, c94, c95, c96, c97, c98, c99, c100, c101, c102, c103, c104, c105, c106, c107, c108, c109, c110, c111, c112, c113, c114, c115, c116, c117, c118, c119, c120, c121, c122, c123, c124, c125, c126, c127, c128, c129, c130, c131, c132, c133, c134, c135, c136, c137, c138, c139, c140, c141, c142, c143, c144, c145, c146, c147, c148, c149, c150, c151, c152, c153, c154, c155, c156, c157, c158, c159, c160, c161, c162, c163, c164, c165, c166, c167, c168, c169, c170, c171, c172, c173, c174, c175, c176, c177, c178, c179, c180, c181, c182, c183, c184, c185, c186, c187, c188, c189, c190, c191, c192, c193, c194, c195, c196, c197, c198, c199, c200, c201, c202, c203, c204, c205, c206, c207, c208, c209, c210, c211, c212, c213, c214, c215, c216, c217, c218, c219, c220, c221, c222, c223, c224, c225, c226, c227, c228, c229, c230, c231, c232, c233, c234, c235, c236, c237, c238, c239, c240, c241, c242, c243, c244, c245, c246, c247, c248, c249, c250, c251, c252, c253, c254, c255, c256, c257, c258, c259, c260], []⟩ wx := by
  conv => arg 2; whnf
  have ok := tq.od.ok
  have hsm : Sm (tdD d) := ⟨by rw [wt_td]; omega, by show d.ids ≤ 100000; omega⟩
  obtain ⟨n0, n1⟩ := td_size d
  obtain ⟨m1, m2⟩ := td_again ok
  have hvl : d.vs.length ≤ 100 := by have := ok.len; unfold wt at hw; omega
  have hal := td_all ok
  have hap : (allP d).length ≤ 1000000 := by have := allAt_len d.vs d.last; rw [allP_at]; omega
  have P1 := tq.od.size V
  go_wp2_with fail
  refine P1.mono ?_
  rintro e w1 ⟨rfl, o1, u1⟩
  have tq1 := tq.kn o1 u1
  have h1 := hall.step u1
  clear P1 o1 u1 tq hall
  have P2 := tq1.od.tidy V hsm
  go_wp2_with fail
  refine P2.mono ?_
  rintro e w2 ⟨rfl, o2, u2⟩
  have tq2 := tq1.kw o2 u2
  have h2 := h1.but u2 (fun j _ hj hn => hn (tq1.xk j hj).1)
  clear P2 o2 u2 tq1 h1
  have P3 := tq2.od.tidy V (by rw [m2]; exact hsm)
  rw [m1, m2] at P3
  go_wp2_with fail
  refine P3.mono ?_
  rintro e w3 ⟨rfl, o3, u3⟩
  have tq3 := tq2.kw o3 u3
  have h3 := h2.but u3 (fun j _ hj hn => hn (tq2.xk j hj).1)
  clear P3 o3 u3 tq2 h2
  have P4 := tq3.od.all V
  rw [hal] at P4
  go_wp2_with fail
  refine P4.mono ?_
  rintro e w4 ⟨q5, c5, rfl, hc5, hp5, o4, u4⟩
  have tq4 := tq3.kn o4 u4
  have h4 := h3.step u4
  clear P4 o4 u4 tq3 h3
  have P5 := samePairs (allP d) (allP d) q5 q4 c5 k4 w4 hap hp5.at h4.at
  rw [decide_eq_true (rfl : allP d = allP d)] at P5
  go_wp2_with fail
  refine P5.mono ?_
  rintro e w5 ⟨rfl, u5⟩
  have tq5 := tq4.kn (tq4.od.step V u5) u5
  clear P5 tq4 u5 h4 hp5
  have P6 := tq5.od.size V
  have g1 : decide (tdN d < 0) = false := by simp; omega
  have g1' : ¬ tdN d < 0 := by omega
  obtain ⟨N, hN⟩ : ∃ N : Nat, (tdD d).vs.length = N := ⟨_, rfl⟩
  rw [hN] at n1 P6
  have g2 : (d.vs.length : Int) - tdN d = (N : Int) := n1.symm
  have hN1 : (N : Int) ≤ 100 := by omega
  have g3 : ((N : Int) != (N : Int)) = false := by simp
  clear hN n1
  go_upto_if 213 with (go_at_call 21; refine P6.mono ?_; rintro e w6 ⟨rfl, o6, u6⟩; have tq6 := tq5.kn o6 u6)
  go_cut [8] (fun _ wy => wy = w6)
  case first =>
    go_wp2_with fail
    go_meet
    case rel => exact rfl
  case rest =>
  have hcut' := hcut.symm
  subst hcut'
  refine ‹∀ (a : Act) (w : World), Code.wp _ _ _ a w → _› _ _ ?_
  have eg : (is.map fun x => gotV d x key) = is.map fun x => gotV (tdD d) x key := by
    apply List.map_congr_left; intro x _; exact (td_got ok x key).symm
  have er : (is.map fun x => rngV d x lo hi) = is.map fun x => rngV (tdD d) x lo hi := by
    apply List.map_congr_left; intro x _; exact (td_rng ok x lo hi).symm
  rw [eg, er] at tq6
  exact dt4 (D := tdD d) V zk hl hris (by rw [wt_td]; exact hw) hids (Vw.refl _) (fun o ho => ⟨fun g => by simp at g, fun _ => by
    have := hask o ho
    by_cases c : o.id ∈ is
    · exact this.1 c
    · have := this.2 c; omega⟩) (fun x => by rw [td_rng ok]; exact hrl x) tq6
end Go.Proofs.YthhfhbcfdcenfaaGreat

/- The walk of the law DeskTidies: what is told ahead of the Tidy. -/
namespace Go.Proofs.YthhfhbcfdcenfaaGreat
open Go.RowKit Vs

set_option maxRecDepth 100000 in
set_option maxHeartbeats 8000000 in
theorem dt2 {T : Td} (V : DFace T) {K : Nat → Prop} {D : Dk} {is : List Int} {key lo hi : ByteArray} {p1 : Option Addr} {k1 B : Nat} {w wx : World} {c0 c4 c5 c6 c7 c8 c10 c11 c12 c13 c14 c15 c16 c17 c19 c20 c21 c22 c23 c24 c25 c26 c27 c28 c29 c30 c31 c32 c33 c34 c35 c36 c37 c38 c39 c40 c41 c42 c43 c44 c45 c46 c47 c48 c49 c50 c51 c52 c53 c54 c55 c56 c57 c58 c59 c60 c61 c62 c63 c64 c65 c66 c67 c68 c69 c70 c71 c72 c73 c74 c75 c76 c77 c78 c79 c80 c81 c82 c83 c84 c85 c86 c87 c88 c89 c90 c91 c92 c93 c94 c95 c96 c97 c98 c99 c100 c101 c102 c103 c104 c105 c106 c107 c108 c109 c110 c111 c112 c113 c114 c115 c116 c117 c118 c119 c120 c121 c122 c123 c124 c125 c126 c127 c128 c129 c130 c131 c132 c133 c134 c135 c136 c137 c138 c139 c140 c141 c142 c143 c144 c145 c146 c147 c148 c149 c150 c151 c152 c153 c154 c155 c156 c157 c158 c159 c160 c161 c162 c163 c164 c165 c166 c167 c168 c169 c170 c171 c172 c173 c174 c175 c176 c177 c178 c179 c180 c181 c182 c183 c184 c185 c186 c187 c188 c189 c190 c191 c192 c193 c194 c195 c196 c197 c198 c199 c200 c201 c202 c203 c204 c205 c206 c207 c208 c209 c210 c211 c212 c213 c214 c215 c216 c217 c218 c219 c220 c221 c222 c223 c224 c225 c226 c227 c228 c229 c230 c231 c232 c233 c234 c235 c236 c237 c238 c239 c240 c241 c242 c243 c244 c245 c246 c247 c248 c249 c250 c251 c252 c253 c254 c255 c256 c257 c258 c259 c260 : Value}
    (zk : key.size ≤ maxLen) (hl : is.length ≤ 60) (hris : is.Pairwise (· < ·)) (hw : wt D ≤ 100) (hids : D.ids ≤ 100) (hask : AskD D [] 0 2) (hrl : ∀ x, (rngV D x lo hi).length ≤ 1000000)
    (tq : Tq T K (fun _ => False) w wx B D is [] [] (.slice p1 is.length k1) (.slice none 0 0) (.slice none 0 0)) :
    Code.wp Tryz.prog (dropSeq 8 (Tryz.f5.body.getD .skip)) (bodyPost Tryz.prog Tryz.f5 fun e w' => e = .returned (.bool true) ∧ Below w.heap.size w w') ⟨#[c0, .string key, .string lo, .string hi, c4, c5, c6, c7, c8, .pointer (some ⟨B, 0, none⟩), c10, c11, c12, c13, c14, c15, c16, c17, .slice p1 is.length k1, c19, c20, c21, c22, c23, c24, c25, c26, c27, c28, c29, c30, c31, c32, c33, c34, c35, c36, c37, c38, c39, c40, c41, c42, c43, c44, c45, c46, c47, c48, c49, c50, c51, c52, c53, c54, c55, c56, c57, c58, c59, c60, c61, c62, c63, c64, c65, c66, c67, c68, c69, c70, c71, c72, c73, c74, c75, c76, c77, c78, c79, c80, c81, c82, c83, c84, c85, c86, c87, c88, c89, c90, c91, c92, c93, c94, c95, c96, c97, c98, c99, c100, c101, c102, c103, c104, c105, c106, c107, c108, c109, c110, c111, c112, c113, c114, c115, c116, c117, c118, c119, c120, c121, c122, c123, c124, c125, c126, c127, c128, c129, c130, c131, c132, c133, c134, c135, c136, c137, c138, c139, c140, c141, c142, c143, c144, c145, c146, c147, c148, c149, c150, c151, c152, c153, c154, c155, c156, c157, c158, c159, c160, c161, c162, c163, c164, c165, c166, c167, c168, c169, c170, c171, c172, c173, c174, c175, c176, c177, c178, c179, c180, c181, c182, c183, c184, c185, c186, c187, c188, c189, c190, c191, c192, c193, c194, c195, c196, c197, c198, c199, c200, c201, c202, c203, c204, c205, c206, c207, c208, c209, c210, c211, c212, c213, c214, c215, c216, c217, c218, c219, c220, c221, c222, c223, c224, c225, c226, c227, c228, c229, c230, c231, c232, c233, c234, c235, c236, c237, c238, c239, c240, c241, c242, c243, c244, c245, c246, c247, c248, c249, c250, c251, c252, c253, c254, c255, c256, c257, c258, c259, c260], []⟩ wx := by
  conv => arg 2; whnf
  have P0 := tq.od.all V
  go_wp2_with fail
  refine P0.mono ?_
  rintro e w0 ⟨q4, k4, rfl, hc4, hp4, o0, u0⟩
  have tq0 := tq.all o0 u0
  have hall0 : PrIn (Kn (fun _ => False) wx w0) w0 q4 (allP D) := hp4.mono (fun j hj hj2 => .inr ⟨hj2, hj⟩)
  clear P0 o0 u0 tq hp4 hc4
  obtain ⟨X0, hX0⟩ : ∃ X0, X0 = Kn (fun _ => False) wx w0 := ⟨_, rfl⟩
  rw [← hX0] at tq0 hall0
  clear hX0
  go_upto_block 5 with fail
  go_cut [24, 25, 26, 27, 28, 29] from 147 to 185 (fun v24 v25 _ _ _ _ wy => ∃ (d : Dk) (K X : Nat → Prop), Vw D d ∧ AskD d is 0 2 ∧ PrIn X wy q4 (allP D) ∧ Tq T K X w wy B d is (is.map fun x => gotV D x key) (is.map fun x => rngV D x lo hi) (.slice p1 is.length k1) v24 v25)
  case rest =>
    obtain ⟨d, K', X', hvw, ha, hall, tq1⟩ := hcut
    refine ‹∀ (a : Act) (w : World), Code.wp _ _ _ a w → _› _ _ ?_
    have eg : (is.map fun x => gotV D x key) = is.map fun x => gotV d x key := by
      apply List.map_congr_left; intro x _; exact (hvw.got x key).symm
    have er : (is.map fun x => rngV D x lo hi) = is.map fun x => rngV d x lo hi := by
      apply List.map_congr_left; intro x _; exact (hvw.rng x lo hi).symm
    obtain ⟨p2, k2, e2, _⟩ := tq1.rg.form
    obtain ⟨p3, k3, e3, _⟩ := tq1.rp.form
    rw [show ((is.map fun x => gotV D x key).map Value.string).length = is.length from by simp] at e2
    rw [show (is.map fun x => rngV D x lo hi).length = is.length from by simp] at e3
    subst e2 e3
    rw [eg, er] at tq1
    rw [← hvw.all] at hall ⊢
    exact dt3 (d := d) V zk hl hris (by rw [hvw.wt]; exact hw) (by rw [hvw.ids]; exact hids) ha (fun x => by rw [hvw.rng]; exact hrl x) hall tq1
  case first =>
  go_wp2_with fail
  go_loopw [24, 25, 26] (fun v24 v25 i wr => ∃ (m : Nat) (d : Dk) (K X : Nat → Prop), m ≤ is.length ∧ i = .int .i64 m ∧ Vw D d ∧ AskD d (is.take m) 0 2 ∧ PrIn X wr q4 (allP D) ∧ Tq T K X w wr B d is ((is.take m).map fun x => gotV D x key) ((is.take m).map fun x => rngV D x lo hi) (.slice p1 is.length k1) v24 v25) (fun _ _ i _ => is.length - (intOf i).toNat)
  case atStart => exact ⟨0, D, _, _, by omega, rfl, Vw.refl D, by rw [List.take_zero]; exact hask, hall0, by rw [List.take_zero]; exact tq0⟩
  case round =>
    clear tq0 hask hall0
    obtain ⟨m, d, K, X, hm, rfl, hvw, hask, hall, tq⟩ := hrel
    by_cases hlt : m < is.length
    · have hlt' : (m : Int) < (is.length : Int) := by omega
      obtain ⟨x, hx⟩ : ∃ x, is[m]? = some x := ⟨is[m], List.getElem?_eq_getElem hlt⟩
      have hsm : ∀ d', Vw D d' → Sm d' := fun d' h => ⟨by rw [h.wt]; omega, by rw [h.ids]; omega⟩
      have hni := ris_notin hris hx
      have htk : (is.take m).length = m := by rw [List.length_take]; omega
      obtain ⟨t1, t2, t4⟩ := get_tell tq.od.ok hask (by decide) (by decide) x key hni
      have hne := neq_ev
      have hgd := grd_ev
      have hv1 := hvw.trans t2
      have P1 := tq.od.get V x key zk (hsm _ hv1)
      have r1 := tq.ri
      rw [show is.length = (is.map (Value.int .i64)).length from (List.length_map _).symm] at r1
      obtain ⟨b1, e1, hb1, hK1, c1⟩ := r1.at (inI_at hx)
      subst e1
      clear r1
      rw [hvw.got] at t1
      obtain ⟨p2, k2, rfl, hk2, _⟩ := tq.rg.form
      obtain ⟨p3, k3, rfl, hk3, _⟩ := tq.rp.form
      rw [show (((is.take m).map fun x => gotV D x key).map Value.string).length = m from by simp; omega] at tq hk2 ⊢
      rw [show ((is.take m).map fun x => rngV D x lo hi).length = m from by simp; omega] at tq hk3 ⊢
      go_wp2_with fail
      refine P1.mono ?_
      rintro e w1 ⟨rfl, o1, u1⟩
      have tq1 := tq.kw o1 u1
      have hall1 := hall.but u1 (fun j _ hj hn => hn (tq.xk j hj).1)
      clear P1 o1 u1 c1 t2 hall
      go_upto_if 164 with fail
      go_cut [27] from 164 to 164 (fun v wy => v = .string (gotV D x key) ∧ wy = w1)
      case first =>
        rcases t1 with ⟨f1, f2⟩ | ⟨f1, f2⟩
        · have q1 := bz_0 f1
          clear f1
          rw [q1]
          clear q1
          go_wp2_with fail
          go_meet
          case rel => exact ⟨by rw [f2], rfl⟩
        · have q1 := bz_1 f1
          clear f1
          rw [q1]
          clear q1
          go_wp2_with fail
          go_meet
          case rel => exact ⟨by rw [f2]; rfl, rfl⟩
      case rest =>
      obtain ⟨rfl, hw1⟩ := hcut
      have hw1' := hw1.symm
      subst hw1'
      clear t1 tq
      have hbx := below_al (below_self w1) (.cells #[.string (gotV D x key)] 9)
      have tq1a := tq1.kn (tq1.od.step V hbx) hbx
      have hall1a := hall1.step hbx
      have rg := tq1a.rg.1
      rw [show (((is.take m).map fun x => gotV D x key).map Value.string).length = m from by simp; omega] at rg
      have hszA := tq1a.od.bw.size
      clear tq1 hall1 hbx
      have hgl : ((is.take m).map fun x => gotV D x key).length = m := by simp; omega
      have hrl3 : ((is.take m).map fun x => rngV D x lo hi).length = m := by simp; omega
      go_wp2_with (at_builtin; refine wpList_append_oneAt 51 9 1 16 _ Tryz.underlying51 infoSr rfl (by decide) (by decide) rfl _ _ rfl w.heap.size _ m (((is.take m).map fun x => gotV D x key).map Value.string) rfl rg hszA w1.heap.size [.string (gotV D x key)] rfl rfl (op_cell _ _ _ _ rfl) op_str (by omega) ?_; intro v2 w2 own2 hg2 hat2; have tq2 := tq1a.pushG V (by rw [hgl]; exact own2) hg2 hat2; have hall2 := hall1a.but (E := fun j => (Value.slice p2 m k2).ownBlock = some j) ⟨hg2.os, hg2.tape, hg2.output, hg2.size, fun k hk hF => hg2.block k hk (fun e => hF e.symm)⟩ (fun j _ hj e => (tq1a.rg.2 j e).2 hj); clear own2 hg2 hat2 tq1a hall1a rg hszA; have r1 := tq2.ri; rw [show is.length = (is.map (Value.int .i64)).length from (List.length_map _).symm] at r1; obtain ⟨b1', e1', hb1', hK1', c1'⟩ := r1.at (inI_at hx); cases e1'; clear r1)
      obtain ⟨s1, s2, s3, s4⟩ := range_tell (i := x) tq2.od.ok t4 hni (by decide) lo hi
      rw [hv1.rng] at s1 s2
      have hv2 := hv1.trans s3
      have P2 := tq2.od.range V x lo hi (hsm _ hv2)
      rw [s1] at P2
      have hrx := hrl x
      obtain ⟨R, hR⟩ : ∃ R, Hid (R = rngV D x lo hi) := ⟨_, rfl⟩
      rw [← hR.out] at P2 s2 hrx
      refine P2.mono ?_
      rintro e w3 ⟨q, cq, K2, rfl, hcq, hKa, hKb, hpr, o2, u2⟩
      have tq3 := tq2.rng o2 hKa hKb u2
      have hall3 := (hall2.but u2 (fun j _ hj hn => hn (tq2.xk j hj).1)).mono (fun j _ hj => (.inl hj : X j ∨ (w2.heap.size ≤ j ∧ K2 j)))
      have hpr3 := hpr.mono (fun j _ hj => (.inr hj : X j ∨ (w2.heap.size ≤ j ∧ K2 j)))
      obtain ⟨X3, hX3⟩ : ∃ X3, X3 = (fun j => X j ∨ (w2.heap.size ≤ j ∧ K2 j)) := ⟨_, rfl⟩
      rw [← hX3] at tq3 hall3 hpr3
      clear P2 o2 u2 tq2 c1' hpr hKa hKb s1 s3 hall2 hX3
      go_upto_if 181 with fail
      go_cut [29] from 181 to 181 (fun v wy => (∃ q' c', v = .slice q' R.length c' ∧ R.length ≤ c' ∧ PrIn X3 w3 q' R) ∧ wy = w3)
      case first =>
        by_cases f1 : drF (dgD d x key) x = 0
        · have q1 := bz_0 f1
          clear f1
          rw [q1]
          clear q1
          go_wp2_with fail
          go_meet
          case rel => exact ⟨⟨q, cq, rfl, hcq, hpr3⟩, rfl⟩
        · have hRn := s2 f1
          have q1 := bz_1 f1
          clear f1
          rw [q1]
          clear q1
          go_wp2_with fail
          go_meet
          case rel => exact ⟨⟨none, 0, by rw [hRn]; rfl, by rw [hRn]; exact Nat.le_refl _, by rw [hRn]; exact fun h => absurd h (Nat.lt_irrefl 0)⟩, rfl⟩
      case rest =>
      obtain ⟨⟨q', c', rfl, hcq', hpr'⟩, hw3⟩ := hcut
      have hw3' := hw3.symm
      subst hw3'
      clear hpr3 hcq
      have hbx := below_al (below_self w3) (.cells #[.slice q' R.length c'] 34)
      have tq3a := tq3.kn (tq3.od.step V hbx) hbx
      have hall3a := hall3.step hbx
      have hpr3a := hpr'.step hbx
      obtain ⟨vs, g1, g2, g3⟩ := tq3a.rp
      have rg := g1.1
      rw [g2, hrl3] at rg
      have hszA := tq3a.od.bw.size
      clear tq3 hall3 hbx hpr'
      go_wp2_with (at_builtin; refine wpList_append_oneAt 37 34 1 24 _ Tryz.underlying37 infoPl rfl (by decide) (by decide) rfl _ _ rfl w.heap.size _ m vs rfl rg hszA w3.heap.size [.slice q' R.length c'] rfl rfl (op_cell _ _ _ _ rfl) op_one (by omega) ?_; intro v4 w4 own4 hg4 hat4; have tq4 := tq3a.pushP V g1 g2 g3 hpr3a hcq' (by rw [hrl3]; exact own4) hg4 hat4; have hall4 := hall3a.but (E := fun j => (Value.slice p3 m k3).ownBlock = some j) ⟨hg4.os, hg4.tape, hg4.output, hg4.size, fun k hk hF => hg4.block k hk (fun e => hF e.symm)⟩ (fun j _ hj e => (g1.2 j e).2 hj); clear own4 hg4 hat4 tq3a hall3a rg hszA hpr3a g1 g3)
      have eg : ((is.take (m + 1)).map fun x => gotV D x key) = ((is.take m).map fun x => gotV D x key) ++ [gotV D x key] := by rw [take_more hx, List.map_append]; rfl
      have er : ((is.take (m + 1)).map fun x => rngV D x lo hi) = ((is.take m).map fun x => rngV D x lo hi) ++ [R] := by rw [take_more hx, List.map_append, hR.out]; rfl
      rw [← eg, ← er] at tq4
      refine ⟨⟨m + 1, _, _, _, by omega, by go_num, hv2, ?_, hall4, tq4⟩, by simp [intOf]; omega⟩
      rw [take_more hx]
      exact s4.add
    · have hme : m = is.length := by omega
      subst hme
      rw [List.take_length] at hask tq
      go_wp2_with fail
      go_meet
      case rel => exact ⟨d, K, X, hvw, hask, hall, tq⟩
end Go.Proofs.YthhfhbcfdcenfaaGreat
