/- The reference's desk in memory: whose each block is. -/
import Derived.Test.YteipfdjpndhgkaaGreatDoorCPL
import Derived.Test.YteipfdjpndhgkaaGreatDoorCMB
import Derived.Test.YteipfdjpndhgkaaGreatDoorCRK
import Derived.Test.YteipfdjpndhgkaaGreatDoorCML
import Derived.Test.YteipfdjpndhgkaaGreatDoorCPR
namespace Go.Proofs.YteipfdjpndhgkaaGreatDoor
open Go.RowKit Vs

/-- A transaction that is open, as it lies: its rows. -/
structure Oq where
  x : Ox
  ks : Value
  ss : Value
  os : Value
def encO (o : Oq) : List Value := [.int .i64 o.x.id, .int .i64 o.x.sees, .int .i64 o.x.asked, o.ks, o.ss, o.os]
theorem encO_len (es : List Oq) : (es.flatMap encO).length = es.length * 6 := flat_len (k := 6) (fun _ => rfl) es
theorem encO_at : ∀ (l : List Oq) (i : Nat) (e : Oq), l[i]? = some e → (l.flatMap encO)[i * 6]? = some (.int .i64 e.x.id) ∧ (l.flatMap encO)[i * 6 + 1]? = some (.int .i64 e.x.sees) ∧ (l.flatMap encO)[i * 6 + 2]? = some (.int .i64 e.x.asked) ∧ (l.flatMap encO)[i * 6 + 3]? = some e.ks ∧ (l.flatMap encO)[i * 6 + 4]? = some e.ss ∧ (l.flatMap encO)[i * 6 + 5]? = some e.os
  | y :: r, 0, x, h => by cases (Option.some.inj h); exact ⟨rfl, rfl, rfl, rfl, rfl, rfl⟩
  | y :: r, i + 1, x, h => by
    have := encO_at r i x (by simpa using h)
    rw [List.flatMap_cons]
    have f : ∀ j, (encO y ++ r.flatMap encO)[(i + 1) * 6 + j]? = (r.flatMap encO)[i * 6 + j]? := fun j => by
      rw [List.getElem?_append_right (by show 6 ≤ _; omega), show (i + 1) * 6 + j - (encO y).length = i * 6 + j from by show (i + 1) * 6 + j - 6 = _; omega]
    exact ⟨(f 0).trans this.1, (f 1).trans this.2.1, (f 2).trans this.2.2.1, (f 3).trans this.2.2.2.1, (f 4).trans this.2.2.2.2.1, (f 5).trans this.2.2.2.2.2⟩
theorem infoOpen : (Tryz.prog.info? 90).map (fun i => (i.zero, i.size, i.bytes)) = some (some (.agg #[.int .i64 0, .int .i64 0, .int .i64 0, .slice none 0 0, .slice none 0 0, .slice none 0 0]), 6, 96) := by kernel_rfl
theorem infoTwo : (Tryz.prog.info? 115).map (fun i => (i.zero, i.size, i.bytes)) = some (some (.agg #[.string ByteArray.empty, .string ByteArray.empty]), 2, 32) := by kernel_rfl
theorem infoStr : (Tryz.prog.info? 9).map (fun i => (i.zero, i.size, i.bytes)) = some (some (.string ByteArray.empty), 1, 16) := by kernel_rfl
/-- Its rows are its own; what it changed lies in a row that is written no more (-5). -/
structure OqOk (w : World) (c : Nat → Int) (e : Oq) : Prop where
  one : 1 ≤ e.x.id
  k : w.ownsRow 0 9 1 e.ks e.x.keys.length (e.x.keys.map Value.string)
  kc : ∀ j, e.ks.ownBlock = some j → c j = 2 * e.x.id
  s : w.ownsRow 0 115 2 e.ss e.x.spans.length (prV e.x.spans)
  sc : ∀ j, e.ss.ownBlock = some j → c j = 2 * e.x.id + 1
  o : LsE w (fun j => c j = -5) e.os e.x.own
theorem rd_lt {n0 e size n : Nat} {w : World} {v : Value} {xs : List Value} (h : w.ownsRow n0 e size v n xs) {j : Nat} (hj : v.ownBlock = some j) : n0 ≤ j ∧ j < w.heap.size := row_lt h hj
theorem OqOk.but {w w' : World} {E : Nat → Prop} {c c' : Nat → Int} {e : Oq} (h : OqOk w c e) (hb : But E w w') (hE : ∀ j, j < w.heap.size → c j = 2 * e.x.id ∨ c j = 2 * e.x.id + 1 ∨ c j = -5 → ¬ E j) (hc : ∀ j, j < w.heap.size → c' j = c j) : OqOk w' c' e :=
  ⟨h.one, row_but h.k hb (fun j hj => hE j (rd_lt h.k hj).2 (.inl (h.kc j hj))), fun j hj => by rw [hc j (rd_lt h.k hj).2]; exact h.kc j hj, row_but h.s hb (fun j hj => hE j (rd_lt h.s hj).2 (.inr (.inl (h.sc j hj)))), fun j hj => by rw [hc j (rd_lt h.s hj).2]; exact h.sc j hj, by
    obtain ⟨q, cq, e1, e2, e3, h4⟩ := h.o
    refine ⟨q, cq, e1, e2, e3, fun hl => ?_⟩
    obtain ⟨b, off, r1, r2, r3, _⟩ := h4 hl
    obtain ⟨b', off', s1, s2, s3, s4⟩ := (h4.but hb (fun j hj g => hE j hj (.inr (.inr g)))) hl
    cases r1.symm.trans s1
    exact ⟨b, off, r1, s2, by show c' b = -5; rw [hc b r2]; exact r3, s4⟩⟩
/-- The desk of the reference; c tells whose a block is: none's (0), the desk's own (-1), the row's of those that are open (-2), the log's (-3), the table's (-4), written no more (-5); of the transaction i its keys' (2i) and its spans' (2i + 1). -/
structure RD (w : World) (c : Nat → Int) (B L Tb : Nat) (v : Value) (g : Lg) (vs : List Ver) (top last ids : Int) (es : List Oq) : Prop where
  cB : c B = -1
  c0 : w.cell? ⟨B, 0, none⟩ = some (.pointer (some ⟨L, 0, none⟩))
  c1 : w.cell? ⟨B, 1, none⟩ = some (.pointer (some ⟨Tb, 0, none⟩))
  c2 : w.cell? ⟨B, 2, none⟩ = some (.int .i64 last)
  c3 : w.cell? ⟨B, 3, none⟩ = some (.int .i64 ids)
  c4 : w.cell? ⟨B, 4, none⟩ = some v
  fz : ∀ i, i < 5 → w.frozen? ⟨B, i, none⟩ = false
  lt : ∀ j, c j ≠ 0 → j < w.heap.size
  lg : RL w (fun j => c j = -5) (fun j => c j = -3) L g
  tb : RT w (fun j => c j = -4) Tb vs top
  row : w.ownsRow 0 90 6 v es.length (es.flatMap encO)
  rw_ : ∀ j, v.ownBlock = some j → c j = -2
  each : ∀ e ∈ es, OqOk w c e
def RDk (w : World) (F : Nat → Prop) (B : Nat) (d : Dk) : Prop := ∃ c L Tb v es, RD w c B L Tb v d.lg d.vs d.top d.last d.ids es ∧ es.map (·.x) = d.op ∧ ∀ j, c j ≠ 0 → F j
/-- What is new is x's. -/
def rq (c : Nat → Int) (x : Int) (w w' : World) : Nat → Int := fun j => if w.heap.size ≤ j ∧ j < w'.heap.size then x else c j
theorem rq_new {c : Nat → Int} {x : Int} {w w' : World} {j : Nat} (h : w.heap.size ≤ j ∧ j < w'.heap.size) : rq c x w w' j = x := if_pos h
theorem rq_old {c : Nat → Int} {x : Int} {w w' : World} {j : Nat} (h : j < w.heap.size) : rq c x w w' j = c j := if_neg (by omega)
theorem rq_F {c : Nat → Int} {x : Int} {F : Nat → Prop} {w w' : World} (h : ∀ j, c j ≠ 0 → F j) : ∀ j, rq c x w w' j ≠ 0 → Nw F w w' j := fun j hj => by
  unfold rq at hj
  by_cases e : w.heap.size ≤ j ∧ j < w'.heap.size
  · exact .inr e
  · rw [if_neg e] at hj; exact .inl (h j hj)
section
variable {w w' : World} {c : Nat → Int} {B L Tb : Nat} {v : Value} {g : Lg} {vs : List Ver} {top last ids : Int} {es : List Oq}
theorem RD.ltB (h : RD w c B L Tb v g vs top last ids es) : B < w.heap.size := World.block_lt_of_cell? _ _ h.c0
theorem rq_lt (h : RD w c B L Tb v g vs top last ids es) (hs : w.heap.size ≤ w'.heap.size) (x : Int) : ∀ j, rq c x w w' j ≠ 0 → j < w'.heap.size := fun j hj => by
  unfold rq at hj
  by_cases e : w.heap.size ≤ j ∧ j < w'.heap.size
  · exact e.2
  · rw [if_neg e] at hj
    have := h.lt j hj
    omega
/-- A log under other colours that agree on what was there. -/
theorem rl_col {c' : Nat → Int} (h : RL w (fun j => c j = -5) (fun j => c j = -3) L g) (hlt : ∀ j, c j ≠ 0 → j < w.heap.size) (hc : ∀ j, j < w.heap.size → c' j = c j) (h5 : ∀ j, c' j = -5 → j < w.heap.size) : RL w (fun j => c' j = -5) (fun j => c' j = -3) L g := by
  have h1 : RL w (fun j => c j = -5) (fun j => c' j = -3) L g := h.mono (fun j hj => by show c' j = -3; rw [hc j (hlt j (by show c j ≠ 0; rw [show c j = -3 from hj]; decide))]; exact hj) (fun j hj e => by
    have := hc j (hlt j (by rw [show c j = -5 from hj]; decide))
    have e' : c' j = -3 := e
    have hj' : c j = -5 := hj
    omega)
  exact h1.more (fun j hj => by show c' j = -5; rw [hc j (hlt j (by rw [show c j = -5 from hj]; decide))]; exact hj) (fun j hj => ⟨fun e => by have e' : c' j = -3 := e; have hj' : c' j = -5 := hj; omega, h5 j hj⟩)
theorem RD.but {E : Nat → Prop} (h : RD w c B L Tb v g vs top last ids es) (hb : But E w w') (hE : ∀ j, j < w.heap.size → c j ≠ 0 → ¬ E j) : RD w' c B L Tb v g vs top last ids es := by
  have hB := hE B h.ltB (by rw [h.cB]; decide)
  exact ⟨h.cB, (hb.cell (p := ⟨B, 0, none⟩) h.ltB hB).trans h.c0, (hb.cell (p := ⟨B, 1, none⟩) h.ltB hB).trans h.c1, (hb.cell (p := ⟨B, 2, none⟩) h.ltB hB).trans h.c2, (hb.cell (p := ⟨B, 3, none⟩) h.ltB hB).trans h.c3, (hb.cell (p := ⟨B, 4, none⟩) h.ltB hB).trans h.c4,
    fun i hi => (hb.frozen (p := ⟨B, i, none⟩) h.ltB hB).trans (h.fz i hi), fun j hj => Nat.lt_of_lt_of_le (h.lt j hj) hb.size,
    h.lg.but hb (fun j e => hE j (h.lt j (by rw [show c j = -3 from e]; decide)) (by rw [show c j = -3 from e]; decide)) (fun j e => hE j (h.lt j (by rw [show c j = -5 from e]; decide)) (by rw [show c j = -5 from e]; decide)),
    h.tb.but hb (fun j hj e => hE j hj (by rw [show c j = -4 from e]; decide)), row_but h.row hb (fun j hj => hE j (rd_lt h.row hj).2 (by rw [h.rw_ j hj]; decide)), h.rw_,
    fun e he => (h.each e he).but hb (fun j hj g => hE j hj (by have := (h.each e he).one; omega)) (fun _ _ => rfl)⟩
theorem RD.step (h : RD w c B L Tb v g vs top last ids es) (hb : Below w.heap.size w w') : RD w' c B L Tb v g vs top last ids es := h.but (E := fun _ => False) (.below hb) (fun _ _ _ => id)
/-- What is there of the desk but for its open ones, when something was done to blocks of other colours. -/
structure Rf (w' : World) (c : Nat → Int) (B L Tb : Nat) (v : Value) (g : Lg) (vs : List Ver) (top last ids : Int) : Prop where
  cB : c B = -1
  c0 : w'.cell? ⟨B, 0, none⟩ = some (.pointer (some ⟨L, 0, none⟩))
  c1 : w'.cell? ⟨B, 1, none⟩ = some (.pointer (some ⟨Tb, 0, none⟩))
  c2 : w'.cell? ⟨B, 2, none⟩ = some (.int .i64 last)
  c3 : w'.cell? ⟨B, 3, none⟩ = some (.int .i64 ids)
  c4 : w'.cell? ⟨B, 4, none⟩ = some v
  fz : ∀ i, i < 5 → w'.frozen? ⟨B, i, none⟩ = false
  lt : ∀ j, c j ≠ 0 → j < w'.heap.size
  lg : RL w' (fun j => c j = -5) (fun j => c j = -3) L g
  tb : RT w' (fun j => c j = -4) Tb vs top
/-- Blocks of transactions, or of the row of those that are open, were written; what is new is x's. -/
theorem RD.rf {E : Nat → Prop} (h : RD w c B L Tb v g vs top last ids es) (x : Int) (hb : But E w w') (hE : ∀ j, j < w.heap.size → E j → c j = -2 ∨ 1 ≤ c j) : Rf w' (rq c x w w') B L Tb v g vs top last ids := by
  have hn : ∀ j, j < w.heap.size → c j < 0 → c j ≠ -2 → ¬ E j := fun j hj h1 h2 e => by have := hE j hj e; omega
  have hB := hn B h.ltB (by rw [h.cB]; decide) (by rw [h.cB]; decide)
  have hs := hb.size
  have hlg := h.lg.but hb (fun j e => hn j (h.lt j (by rw [show c j = -3 from e]; decide)) (by rw [show c j = -3 from e]; decide) (by rw [show c j = -3 from e]; decide)) (fun j e => hn j (h.lt j (by rw [show c j = -5 from e]; decide)) (by rw [show c j = -5 from e]; decide) (by rw [show c j = -5 from e]; decide))
  have hold : ∀ j, c j ≠ 0 → rq c x w w' j = c j := fun j hj => rq_old (h.lt j hj)
  refine ⟨by rw [hold B (by rw [h.cB]; decide)]; exact h.cB, (hb.cell (p := ⟨B, 0, none⟩) h.ltB hB).trans h.c0, (hb.cell (p := ⟨B, 1, none⟩) h.ltB hB).trans h.c1, (hb.cell (p := ⟨B, 2, none⟩) h.ltB hB).trans h.c2, (hb.cell (p := ⟨B, 3, none⟩) h.ltB hB).trans h.c3, (hb.cell (p := ⟨B, 4, none⟩) h.ltB hB).trans h.c4,
    fun i hi => (hb.frozen (p := ⟨B, i, none⟩) h.ltB hB).trans (h.fz i hi), rq_lt h hs x, ?_, (h.tb.but hb (fun j hj e => hn j hj (by rw [show c j = -4 from e]; decide) (by rw [show c j = -4 from e]; decide))).mono (fun j _ e => by show rq c x w w' j = -4; rw [hold j (by rw [show c j = -4 from e]; decide)]; exact e)⟩
  have h1 : RL w' (fun j => c j = -5) (fun j => rq c x w w' j = -3) L g := hlg.mono (fun j e => by show rq c x w w' j = -3; rw [hold j (by rw [show c j = -3 from e]; decide)]; exact e) (fun j e g => by
    have e' : c j = -5 := e
    have g' : rq c x w w' j = -3 := g
    rw [hold j (by rw [e']; decide)] at g'; omega)
  exact h1.more (fun j e => by show rq c x w w' j = -5; rw [hold j (by rw [show c j = -5 from e]; decide)]; exact e) (fun j e => ⟨fun g => by have e' : rq c x w w' j = -5 := e; have g' : rq c x w w' j = -3 := g; omega, rq_lt h hs x j (by rw [show rq c x w w' j = -5 from e]; decide)⟩)
end
end Go.Proofs.YteipfdjpndhgkaaGreatDoor

/- The reference's desk: one of those that are open; the contracts of its at and own. -/
namespace Go.Proofs.YteipfdjpndhgkaaGreatDoor
open Go.RowKit Vs

theorem own_put {w : World} {B e size g n cap j : Nat} {xs : List Value} {u : Value} (h : w.ownsRow B e size (.slice (some ⟨g, 0, none⟩) n cap) n xs) (hj : j < xs.length) : (w.setCell ⟨g, j, none⟩ u).ownsRow B e size (.slice (some ⟨g, 0, none⟩) n cap) n (xs.set j u) := by
  obtain ⟨rest, hR, h1, h2, h3, h4⟩ := rowIn_own h
  have hR' := hR.set j u
  rw [List.set_append_left _ _ hj] at hR'
  exact own_rowIn hR' (by rw [List.length_set]; exact h.1) h1 h2 h3 (by rw [List.length_append, List.length_set, ← List.length_append]; exact h4)
theorem flat_set {α : Type} {enc : α → List Value} {k : Nat} (hk : ∀ x, (enc x).length = k) {x' : α} {j : Nat} {u : Value} (hj : j < k) : ∀ (l : List α) (i : Nat) (x : α), l[i]? = some x → enc x' = (enc x).set j u → (l.flatMap enc).set (i * k + j) u = (l.set i x').flatMap enc
  | y :: r, 0, x, h, e => by
    cases Option.some.inj h
    rw [Nat.zero_mul, Nat.zero_add, List.flatMap_cons, List.set_append_left _ _ (by rw [hk]; exact hj), List.set_cons_zero, List.flatMap_cons, e]
  | y :: r, i + 1, x, h, e => by
    rw [List.flatMap_cons, List.set_append_right _ _ (by rw [hk, Nat.succ_mul]; omega), List.set_cons_succ, List.flatMap_cons, ← flat_set hk hj r i x (by simpa using h) e, hk, Nat.succ_mul, show i * k + k + j - k = i * k + j from by omega]
section
variable {w w' : World} {c : Nat → Int} {B L Tb : Nat} {v : Value} {g : Lg} {vs : List Ver} {top last ids : Int} {es : List Oq}
/-- One of them: where it lies. -/
theorem RD.at (h : RD w c B L Tb v g vs top last ids es) {i : Nat} {e : Oq} (hi : es[i]? = some e) : ∃ r cap, v = .slice (some ⟨r, 0, none⟩) es.length cap ∧ es.length ≤ cap ∧ r < w.heap.size ∧ c r = -2 ∧ (∀ j, w.frozen? ⟨r, j, none⟩ = false) ∧ w.cell? ⟨r, i * 6, none⟩ = some (.int .i64 e.x.id) ∧ w.cell? ⟨r, i * 6 + 1, none⟩ = some (.int .i64 e.x.sees) ∧ w.cell? ⟨r, i * 6 + 2, none⟩ = some (.int .i64 e.x.asked) ∧ w.cell? ⟨r, i * 6 + 3, none⟩ = some e.ks ∧ w.cell? ⟨r, i * 6 + 4, none⟩ = some e.ss ∧ w.cell? ⟨r, i * 6 + 5, none⟩ = some e.os := by
  have hlt := (List.getElem?_eq_some_iff.1 hi).1
  obtain ⟨p, cap, hv, h1, _, hp⟩ := lw_form h.row
  obtain ⟨r, rfl⟩ := hp (by omega)
  have hrow := h.row
  have hc := h.rw_
  rw [hv] at hrow hc
  obtain ⟨a0, a1, a2, a3, a4, a5⟩ := encO_at es i e hi
  exact ⟨r, cap, hv, h1, (rd_lt hrow rfl).2, hc r rfl, fun j => hrow.frozenAt j, (hrow.cellAt _ (by omega)).trans a0, (hrow.cellAt _ (by omega)).trans a1, (hrow.cellAt _ (by omega)).trans a2, (hrow.cellAt _ (by omega)).trans a3, (hrow.cellAt _ (by omega)).trans a4, (hrow.cellAt _ (by omega)).trans a5⟩
/-- One of those that are open has done something; what is new is x's. -/
theorem RD.puto {E : Nat → Prop} (h : RD w c B L Tb v g vs top last ids es) (x : Int) {k : Nat} {e e' : Oq} (hk : es[k]? = some e) (hid : ∀ (j : Nat) (y : Oq), es[j]? = some y → j ≠ k → y.x.id ≠ e.x.id) (hb : But E w w') (hE : ∀ j, j < w.heap.size → E j → c j = -2 ∨ c j = 2 * e.x.id ∨ c j = 2 * e.x.id + 1)
    (hrow : w'.ownsRow 0 90 6 v es.length ((es.set k e').flatMap encO)) (he : OqOk w' (rq c x w w') e') : RD w' (rq c x w w') B L Tb v g vs top last ids (es.set k e') := by
  have h1 := (h.each e (List.mem_of_getElem? hk)).one
  have r := h.rf x hb (fun j hj g => by have := hE j hj g; omega)
  refine ⟨r.cB, r.c0, r.c1, r.c2, r.c3, r.c4, r.fz, r.lt, r.lg, r.tb, by rw [List.length_set]; exact hrow, fun j hj => by rw [rq_old (rd_lt h.row hj).2]; exact h.rw_ j hj, fun y hy => ?_⟩
  obtain ⟨i, hi⟩ := List.getElem?_of_mem hy
  rw [List.getElem?_set] at hi
  split at hi
  · split at hi
    · cases hi; exact he
    · cases hi
  · rename_i hne
    have hy' := h.each y (List.mem_of_getElem? hi)
    have hne' := hid i y hi (fun q => hne q.symm)
    have := hy'.one
    exact hy'.but hb (fun j hj hc g => by have := hE j hj g; omega) (fun j hj => rq_old hj)
set_option maxRecDepth 100000 in
theorem drAt (h : RD w c B L Tb v g vs top last ids es) (hl : es.length ≤ 1000) (i : Int) : Calls Tryz.prog 40 #[.pointer (some ⟨B, 0, none⟩), .int .i64 i] w fun e w' => ((e = .returned (.int .i64 (-1)) ∧ ∀ y ∈ es, y.x.id ≠ i) ∨ ∃ (k : Nat) (y : Oq), e = .returned (.int .i64 (k : Int)) ∧ es[k]? = some y ∧ y.x.id = i) ∧ Below w.heap.size w w' := by
  obtain ⟨p, cap, rfl, hcap, _, _⟩ := lw_form h.row
  have c4 := h.c4
  go_enter Tryz.func40, Tryz.ntmps40
  go_wp2
  go_loopw [5] (fun a wr => ∃ (n : Nat), n ≤ es.length ∧ a = .int .i64 n ∧ (∀ (j : Nat) (y : Oq), j < n → es[j]? = some y → y.x.id ≠ i) ∧ wr = w) (fun a _ => es.length - (intOf a).toNat)
  case atStart => exact ⟨0, by omega, rfl, fun j y hj => by omega, rfl⟩
  case round =>
    obtain ⟨n, hn, rfl, hno, rfl⟩ := hrel
    by_cases hlt : n < es.length
    · have hlt' : (n : Int) < (es.length : Int) := by omega
      obtain ⟨y, hy⟩ : ∃ y, es[n]? = some y := ⟨es[n], List.getElem?_eq_getElem hlt⟩
      obtain ⟨r, cap', hv, _, hr, _, _, a0, _⟩ := h.at hy
      cases hv
      by_cases e : y.x.id = i
      · have e' : (y.x.id == i) = true := by simpa using e
        have E : Hid _ := e
        clear e
        go_wp2
        go_ret
        exact ⟨.inr ⟨n, y, rfl, hy, E.out⟩, below_self _⟩
      · have e' : (y.x.id == i) = false := by simpa using e
        go_wp2
        refine ⟨⟨n + 1, by omega, by go_num, fun j z hj hz => ?_, trivial⟩, by simp [intOf]; omega⟩
        by_cases q : j = n
        · subst q; cases hy.symm.trans hz; exact e
        · exact hno j z (by omega) hz
    · have hlt' : ¬ (n : Int) < (es.length : Int) := by omega
      go_wp2
      go_ret
      refine ⟨.inl ⟨rfl, fun y hy => ?_⟩, below_self _⟩
      obtain ⟨j, hj⟩ := List.getElem?_of_mem hy
      exact hno j y (by have := (List.getElem?_eq_some_iff.1 hj).1; omega) hj
end
set_option maxRecDepth 100000 in
theorem drOwn {w : World} {X : Nat → Prop} (i s a : Int) (ks ss os : Value) (own : List Chg) (key : ByteArray) (h : LsE w X os own) (hl : own.length ≤ 1000) : Calls Tryz.prog 42 #[.agg #[.int .i64 i, .int .i64 s, .int .i64 a, ks, ss, os], .string key] w fun e w' => ((e = .returned (.int .i64 (-1)) ∧ ownC own key = none) ∨ ∃ (k : Nat) (x : Chg), e = .returned (.int .i64 (k : Int)) ∧ own[k]? = some x ∧ x.k = key) ∧ Below w.heap.size w w' := by
  obtain ⟨p, cap, rfl, hcap, _, hp⟩ := h
  have hb0 := below_al (below_self w) (.cells #[.int .i64 i, .int .i64 s, .int .i64 a, ks, ss, .slice p own.length cap] 90)
  have hp0 := hp.step hb0
  go_enter Tryz.func42, Tryz.ntmps42
  go_wp2
  go_loopw [5] (fun a' wr => ∃ (n : Nat), n ≤ own.length ∧ a' = .int .i64 n ∧ (∀ (j : Nat) (y : Chg), j < n → own[j]? = some y → y.k ≠ key) ∧ wr = w.alloc (.cells #[.int .i64 i, .int .i64 s, .int .i64 a, ks, ss, .slice p own.length cap] 90)) (fun a' _ => own.length - (intOf a').toNat)
  case atStart => exact ⟨0, by omega, rfl, fun j y hj => by omega, rfl⟩
  case round =>
    obtain ⟨n, hn, rfl, hno, rfl⟩ := hrel
    by_cases hlt : n < own.length
    · have hlt' : (n : Int) < (own.length : Int) := by omega
      obtain ⟨y, hy⟩ : ∃ y, own[n]? = some y := ⟨own[n], List.getElem?_eq_getElem hlt⟩
      obtain ⟨b, off, rfl, hbl, _, hc⟩ := hp0 (by omega)
      obtain ⟨a0, -, -⟩ := hc n y hy
      by_cases e : y.k = key
      · have e' : (y.k.toList == key.toList) = true := by rw [e]; simp
        have E : Hid _ := e
        clear e hc
        go_wp2
        go_ret
        exact ⟨.inr ⟨n, y, rfl, hy, E.out⟩, hb0⟩
      · have e' : (y.k.toList == key.toList) = false := beq_eq_false_iff_ne.2 (fun q => e (toL.1 q))
        clear hc
        go_wp2
        refine ⟨⟨n + 1, by omega, by go_num, fun j z hj hz => ?_, trivial⟩, by simp [intOf]; omega⟩
        by_cases q : j = n
        · subst q; cases hy.symm.trans hz; exact e
        · exact hno j z (by omega) hz
    · have hlt' : ¬ (n : Int) < (own.length : Int) := by omega
      go_wp2
      go_ret
      refine ⟨.inl ⟨rfl, ownC_none.2 (fun y hy => ?_)⟩, hb0⟩
      obtain ⟨j, hj⟩ := List.getElem?_of_mem hy
      exact hno j y (by have := (List.getElem?_eq_some_iff.1 hj).1; omega) hj
end Go.Proofs.YteipfdjpndhgkaaGreatDoor

/- The reference's desk: Begin. -/
namespace Go.Proofs.YteipfdjpndhgkaaGreatDoor
open Go.RowKit Vs

theorem open_new {W : World} {e : Oq} {t N : Nat} (hN : N = W.heap.size) : ∀ (j : Nat) (u : Value), (encO e)[j]? = some u → (W.alloc (.cells #[.int .i64 e.x.id, .int .i64 e.x.sees, .int .i64 e.x.asked, e.ks, e.ss, e.os] t)).cell? ⟨N, j, none⟩ = some u := by
  subst hN
  intro j u hj
  match j with
  | 0 => rw [← hj]; simp [encO]
  | 1 => rw [← hj]; simp [encO]
  | 2 => rw [← hj]; simp [encO]
  | 3 => rw [← hj]; simp [encO]
  | 4 => rw [← hj]; simp [encO]
  | 5 => rw [← hj]; simp [encO]
  | j + 6 => simp [encO] at hj
section
variable {w w' : World} {c : Nat → Int} {B L Tb : Nat} {v : Value} {g : Lg} {vs : List Ver} {top last ids : Int} {es : List Oq}
theorem rl_rq {x : Int} (hl : RL w' (fun j => c j = -5) (fun j => c j = -3) L g) (hlt : ∀ j, c j ≠ 0 → j < w.heap.size) (hq : ∀ j, rq c x w w' j ≠ 0 → j < w'.heap.size) : RL w' (fun j => rq c x w w' j = -5) (fun j => rq c x w w' j = -3) L g := by
  have hold : ∀ j, c j ≠ 0 → rq c x w w' j = c j := fun j hj => rq_old (hlt j hj)
  have h1 : RL w' (fun j => c j = -5) (fun j => rq c x w w' j = -3) L g := hl.mono (fun j e => by show rq c x w w' j = -3; rw [hold j (by rw [show c j = -3 from e]; decide)]; exact e) (fun j e g => by
    have e' : c j = -5 := e
    have g' : rq c x w w' j = -3 := g
    rw [hold j (by rw [e']; decide)] at g'; omega)
  exact h1.more (fun j e => by show rq c x w w' j = -5; rw [hold j (by rw [show c j = -5 from e]; decide)]; exact e) (fun j e => ⟨fun g => by have e' : rq c x w w' j = -5 := e; have g' : rq c x w w' j = -3 := g; omega, hq j (by rw [show rq c x w w' j = -5 from e]; decide)⟩)
/-- The desk's own block, or the row of those that are open, was written; what is new is that row's. -/
theorem RD.turn {E : Nat → Prop} {v' : Value} {last' ids' : Int} {es' : List Oq} (h : RD w c B L Tb v g vs top last ids es) (hb : But E w w') (hE : ∀ j, j < w.heap.size → E j → c j = -1 ∨ c j = -2)
    (c0 : w'.cell? ⟨B, 0, none⟩ = some (.pointer (some ⟨L, 0, none⟩))) (c1 : w'.cell? ⟨B, 1, none⟩ = some (.pointer (some ⟨Tb, 0, none⟩))) (c2 : w'.cell? ⟨B, 2, none⟩ = some (.int .i64 last')) (c3 : w'.cell? ⟨B, 3, none⟩ = some (.int .i64 ids')) (c4 : w'.cell? ⟨B, 4, none⟩ = some v') (fz : ∀ i, i < 5 → w'.frozen? ⟨B, i, none⟩ = false)
    (row : w'.ownsRow 0 90 6 v' es'.length (es'.flatMap encO)) (hr : ∀ j, v'.ownBlock = some j → rq c (-2) w w' j = -2) (he : ∀ e ∈ es', e ∈ es ∨ OqOk w' (rq c (-2) w w') e) : RD w' (rq c (-2) w w') B L Tb v' g vs top last' ids' es' := by
  have hn : ∀ j, j < w.heap.size → c j ≠ -1 → c j ≠ -2 → ¬ E j := fun j hj h1 h2 e => (hE j hj e).elim h1 h2
  have hs := hb.size
  have hold : ∀ j, c j ≠ 0 → rq c (-2) w w' j = c j := fun j hj => rq_old (h.lt j hj)
  have hlg := h.lg.but hb (fun j e => hn j (h.lt j (by rw [show c j = -3 from e]; decide)) (by rw [show c j = -3 from e]; decide) (by rw [show c j = -3 from e]; decide)) (fun j e => hn j (h.lt j (by rw [show c j = -5 from e]; decide)) (by rw [show c j = -5 from e]; decide) (by rw [show c j = -5 from e]; decide))
  refine ⟨by rw [hold B (by rw [h.cB]; decide)]; exact h.cB, c0, c1, c2, c3, c4, fz, rq_lt h hs _, rl_rq hlg h.lt (rq_lt h hs _), (h.tb.but hb (fun j hj e => hn j hj (by rw [show c j = -4 from e]; decide) (by rw [show c j = -4 from e]; decide))).mono (fun j _ e => by show rq c (-2) w w' j = -4; rw [hold j (by rw [show c j = -4 from e]; decide)]; exact e), row, hr, fun e hm => ?_⟩
  rcases he e hm with hm | hm
  · have := (h.each e hm).one
    exact (h.each e hm).but hb (fun j hj g => hn j hj (by omega) (by omega)) (fun j hj => rq_old hj)
  · exact hm
end
set_option maxRecDepth 100000 in
set_option maxHeartbeats 4000000 in
theorem drBegin {w : World} {F : Nat → Prop} {B : Nat} {d : Dk} (h : RDk w F B d) (ok : OkD d) (sm : Sm d) (_hF : ∀ j, F j → j < w.heap.size) :
    Calls Tryz.prog 7 #[.pointer (some ⟨B, 0, none⟩)] w fun e w' => e = .returned (.tuple #[.int .i64 (bgN d), .int .i64 (bgF d)]) ∧ RDk w' (Nw F w w') B (bgD d) ∧ But F w w' := by
  obtain ⟨c, L, Tb, v, es, h, hop, hcF⟩ := h
  obtain ⟨p, cap, rfl, hcap, hcm, _⟩ := lw_form h.row
  have hlen : es.length = d.op.length := by rw [← hop, List.length_map]
  have hfew := ok.few
  have c0 := h.c0
  have c2 := h.c2
  have c3 := h.c3
  have c4 := h.c4
  have hBl := h.ltB
  obtain ⟨_, _, _, _, l6, hLl⟩ := h.lg.small
  have hid := sm.ids
  have hi0 := ok.i0
  by_cases h8 : 8 ≤ d.op.length
  · have e1 : bgF d = 3 := if_pos h8
    have e2 : bgN d = 0 := by rw [bgN, e1]; rfl
    have e3 : bgD d = d := by rw [bgD, e1]; rfl
    rw [e1, e2, e3]
    have h8' : (8 : Int) ≤ (es.length : Int) := by omega
    clear e1 e2 e3
    go_enter Tryz.func7, Tryz.ntmps7
    go_wp2
    go_ret2
    exact ⟨rfl, ⟨c, L, Tb, _, es, h, hop, fun j hj => .inl (hcF j hj)⟩, But.refl _ _⟩
  · have h8' : ¬ (8 : Int) ≤ (es.length : Int) := by omega
    cases hd : d.lg.down with
    | true =>
      have e1 : bgF d = 8 := by rw [bgF, if_neg h8, if_pos hd]
      have e2 : bgN d = 0 := by rw [bgN, e1]; rfl
      have e3 : bgD d = d := by rw [bgD, e1]; rfl
      rw [e1, e2, e3]
      rw [hd] at l6
      clear e1 e2 e3 hd
      go_enter Tryz.func7, Tryz.ntmps7
      go_wp2
      go_ret2
      exact ⟨rfl, ⟨c, L, Tb, _, es, h, hop, fun j hj => .inl (hcF j hj)⟩, But.refl _ _⟩
    | false =>
      have e1 : bgF d = 0 := by rw [bgF, if_neg h8, if_neg (by rw [hd]; decide)]
      have e2 : bgN d = d.ids + 1 := by rw [bgN, e1]; rfl
      have e3 : bgD d = { d with ids := d.ids + 1, op := d.op ++ [⟨d.ids + 1, d.last, 0, [], [], []⟩] } := by rw [bgD, e1]; rfl
      rw [e1, e2, e3]
      rw [hd] at l6
      clear e1 e2 e3 hd
      have fz3 := h.fz 3 (by decide)
      have fz4 := h.fz 4 (by decide)
      have hnm : d.ids + 1 ≤ 9223372036854775807 := by omega
      have vB : (Value.slice p es.length cap).ownBlock ≠ some B := fun q => by have := h.rw_ B q; rw [h.cB] at this; cases this
      obtain ⟨W, hW⟩ : ∃ W, W = w.setCell ⟨B, 3, none⟩ (.int .i64 (d.ids + 1)) := ⟨_, rfl⟩
      have bW : But (fun j => j = B) w W := by rw [hW]; exact setB
      have zW : W.heap.size = w.heap.size := by rw [hW]; simp [World.setCell]
      have W0 : W.cell? ⟨B, 0, none⟩ = some (.pointer (some ⟨L, 0, none⟩)) := by rw [hW]; exact (World.cell?_setCell_other _ _ _ _ (by intro q; injection q; omega)).trans c0
      have W1 : W.cell? ⟨B, 1, none⟩ = some (.pointer (some ⟨Tb, 0, none⟩)) := by rw [hW]; exact (World.cell?_setCell_other _ _ _ _ (by intro q; injection q; omega)).trans h.c1
      have W2 : W.cell? ⟨B, 2, none⟩ = some (.int .i64 d.last) := by rw [hW]; exact (World.cell?_setCell_other _ _ _ _ (by intro q; injection q; omega)).trans c2
      have W3 : W.cell? ⟨B, 3, none⟩ = some (.int .i64 (d.ids + 1)) := by rw [hW]; exact World.cell?_setCell_same _ _ _ c3
      have W4 : W.cell? ⟨B, 4, none⟩ = some (.slice p es.length cap) := by rw [hW]; exact (World.cell?_setCell_other _ _ _ _ (by intro q; injection q; omega)).trans c4
      have Wf : ∀ i, i < 5 → W.frozen? ⟨B, i, none⟩ = false := fun i hi => by rw [hW]; simpa using h.fz i hi
      have rW := row_but h.row bW (fun j hj q => vB (by rw [hj, q]))
      obtain ⟨i0, hin, hz0, hz1, hz2⟩ := info_parts infoOpen
      obtain ⟨A, hA⟩ : ∃ A, A = W.drew.alloc (.cells #[.int .i64 (d.ids + 1), .int .i64 d.last, .int .i64 0, .slice none 0 0, .slice none 0 0, .slice none 0 0] 90) := ⟨_, rfl⟩
      have bA : Below W.heap.size W A := by rw [hA]; exact below_al (below_self W).drew _
      have rA := row_but (E := fun _ => False) rW (.below bA) (fun _ _ => id)
      have hnew : ∀ (j : Nat) (u : Value), (encO ⟨⟨d.ids + 1, d.last, 0, [], [], []⟩, .slice none 0 0, .slice none 0 0, .slice none 0 0⟩)[j]? = some u → A.cell? ⟨W.heap.size, j, none⟩ = some u := fun j u hj => by
        rw [hA]
        exact open_new (W := W.drew) rfl j u hj
      obtain ⟨u4, w9, hr, own9, hg9, _, hat9⟩ := run_append_own_at (P := Tryz.prog) A 0 59 59 90 i0 _ 6 96 Tryz.underlying59 hin hz0 hz1 hz2 rfl (by decide) _ es.length (es.flatMap encO) rA ⟨W.heap.size, 0, none⟩ 1 1 (encO ⟨⟨d.ids + 1, d.last, 0, [], [], []⟩, .slice none 0 0, .slice none 0 0, .slice none 0 0⟩) rfl (fun j u hj => by
        rw [show (⟨W.heap.size, 0, none⟩ : Addr).add j = ⟨W.heap.size, j, none⟩ from by unfold Addr.add; split <;> simp_all]
        exact hnew j u hj) (fun u hu => by simp [encO] at hu; rcases hu with rfl | rfl | rfl | rfl <;> rfl) (by unfold maxLen; omega) (by omega) (by omega)
      obtain ⟨pe, ce, rfl⟩ := own_form own9
      have zA : A.heap.size = w.heap.size + 1 := by rw [hA]; simp [zW]
      have z9 := hg9.size
      have b9 : But (fun j => c j = -1 ∨ c j = -2) w w9 := ((But.mono bW (fun j _ hj => .inl (by rw [hj]; exact h.cB))).then (But.below bA) (fun i _ q => absurd q id)).then (turned_val hg9) (fun i _ q => .inr (h.rw_ i q))
      have k9 : But (fun j => (Value.slice p es.length cap).ownBlock = some j) W w9 := (But.below (F := fun j => (Value.slice p es.length cap).ownBlock = some j) bA).then (turned_val hg9) (fun i _ q => q)
      have hBW : B < W.heap.size := by omega
      have X0 := (k9.cell (p := ⟨B, 0, none⟩) hBW vB).trans W0
      have X1 := (k9.cell (p := ⟨B, 1, none⟩) hBW vB).trans W1
      have X2 := (k9.cell (p := ⟨B, 2, none⟩) hBW vB).trans W2
      have X3 := (k9.cell (p := ⟨B, 3, none⟩) hBW vB).trans W3
      have X4 := (k9.cell (p := ⟨B, 4, none⟩) hBW vB).trans W4
      have Xf : ∀ i, i < 5 → w9.frozen? ⟨B, i, none⟩ = false := fun i hi => (k9.frozen (p := ⟨B, i, none⟩) hBW vB).trans (Wf i hi)
      have vB' : (Value.slice pe (es.length + 1) ce).ownBlock ≠ some B := fun q => hat9.elim (fun e => vB (e.symm.trans q)) (fun e => by cases e.symm.trans q; omega)
      have b10 : But (fun j => c j = -1 ∨ c j = -2) w (w9.setCell ⟨B, 4, none⟩ (.slice pe (es.length + 1) ce)) := b9.setCell (p := ⟨B, 4, none⟩) (.inl (.inl h.cB)) _
      have row10 : (w9.setCell ⟨B, 4, none⟩ (.slice pe (es.length + 1) ce)).ownsRow 0 90 6 (.slice pe (es.length + 1) ce) (es ++ [(⟨⟨d.ids + 1, d.last, 0, [], [], []⟩, .slice none 0 0, .slice none 0 0, .slice none 0 0⟩ : Oq)]).length ((es ++ [(⟨⟨d.ids + 1, d.last, 0, [], [], []⟩, .slice none 0 0, .slice none 0 0, .slice none 0 0⟩ : Oq)]).flatMap encO) := by
        rw [List.length_append, List.flatMap_append, List.flatMap_cons, List.flatMap_nil, List.append_nil]
        exact row_but own9 setB (fun j hj q => vB' (by rw [hj, q]))
      have R := h.turn (es' := es ++ [⟨⟨d.ids + 1, d.last, 0, [], [], []⟩, .slice none 0 0, .slice none 0 0, .slice none 0 0⟩]) (v' := .slice pe (es.length + 1) ce) (last' := d.last) (ids' := d.ids + 1) b10 (fun j _ q => q) ((World.cell?_setCell_other _ _ _ _ (by intro q; injection q; omega)).trans X0) ((World.cell?_setCell_other _ _ _ _ (by intro q; injection q; omega)).trans X1) ((World.cell?_setCell_other _ _ _ _ (by intro q; injection q; omega)).trans X2) ((World.cell?_setCell_other _ _ _ _ (by intro q; injection q; omega)).trans X3) (World.cell?_setCell_same _ _ _ X4) (fun i hi => by simpa using Xf i hi) row10 (fun j hj => by
          rcases hat9 with e | e
          · have hj' : (Value.slice p es.length cap).ownBlock = some j := by rw [← e]; exact hj
            rw [rq_old (rd_lt h.row hj').2]; exact h.rw_ j hj'
          · have hj' : A.heap.size = j := Option.some.inj (e.symm.trans hj)
            have := (rd_lt own9 hj).2
            exact rq_new ⟨by omega, by simp [World.setCell]; omega⟩) (fun e he => by
          rcases List.mem_append.1 he with he | he
          · exact .inl he
          · rw [List.mem_singleton.1 he]
            exact .inr ⟨by show 1 ≤ d.ids + 1; omega, World.ownsRow_nil _ _ _ _, (fun j hj => by cases hj), World.ownsRow_nil _ _ _ _, (fun j hj => by cases hj), ⟨none, 0, rfl, Nat.le_refl _, by decide, fun hl => by cases hl⟩⟩)
      have R' : RDk (w9.setCell ⟨B, 4, none⟩ (.slice pe (es.length + 1) ce)) (Nw F w (w9.setCell ⟨B, 4, none⟩ (.slice pe (es.length + 1) ce))) B { d with ids := d.ids + 1, op := d.op ++ [⟨d.ids + 1, d.last, 0, [], [], []⟩] } := ⟨_, L, Tb, _, _, R, by show List.map _ _ = d.op ++ _; rw [List.map_append, hop]; rfl, rq_F hcF⟩
      have bF : But F w (w9.setCell ⟨B, 4, none⟩ (.slice pe (es.length + 1) ce)) := b10.mono (fun j _ q => hcF j (by omega))
      have RH : Hid _ := R'
      have BH : Hid _ := bF
      have f4 := Xf 4 (by decide)
      have A3 : A.cell? ⟨B, 3, none⟩ = some (.int .i64 (d.ids + 1)) := (bA.cell (p := ⟨B, 3, none⟩) hBW).trans W3
      clear R' bF R row10 b10 vB' Xf X0 X1 X2 k9 b9 z9 zA hat9 hg9 own9 hnew rA rW Wf
      rw [hA] at hr A3
      clear hA bA bW hlen zW hfew h8 h
      go_enter Tryz.func7, Tryz.ntmps7
      go_wp2_with fail
      rw [← hW]
      clear hW
      go_region_law (refine step_append_run rfl _ _ 59 rfl rfl rfl hr ?_)
      all_goals go_wp2_with fail
      all_goals go_ret2
      all_goals exact ⟨rfl, RH.out, BH.out⟩
end Go.Proofs.YteipfdjpndhgkaaGreatDoor

/- The reference's desk: a transaction has asked. -/
namespace Go.Proofs.YteipfdjpndhgkaaGreatDoor
open Go.RowKit Vs

theorem lse_col {E : Nat → Prop} {w w' : World} {c c' : Nat → Int} {v : Value} {l : List Chg} (h : LsE w (fun j => c j = -5) v l) (hb : But E w w') (hE : ∀ j, j < w.heap.size → c j = -5 → ¬ E j) (hc : ∀ j, j < w.heap.size → c' j = c j) : LsE w' (fun j => c' j = -5) v l := by
  obtain ⟨q, cq, e1, e2, e3, h4⟩ := h
  refine ⟨q, cq, e1, e2, e3, fun hl => ?_⟩
  obtain ⟨b, off, r1, r2, r3, _⟩ := h4 hl
  obtain ⟨b', off', s1, s2, s3, s4⟩ := (h4.but hb (fun j hj g => hE j hj g)) hl
  cases r1.symm.trans s1
  exact ⟨b, off, r1, s2, by show c' b = -5; rw [hc b r2]; exact r3, s4⟩
theorem dr_str (W : World) (k : ByteArray) (t N : Nat) (hN : N = W.heap.size) : ∀ (j : Nat) (u : Value), ([.string k] : List Value)[j]? = some u → (W.alloc (.cells #[.string k] t)).cell? ⟨N, j, none⟩ = some u := by
  subst hN
  intro j u hj
  match j, hj with
  | 0, hj => simp at hj; subst hj; simp
theorem dr_two (W : World) (k l : ByteArray) (t N : Nat) (hN : N = W.heap.size) : ∀ (j : Nat) (u : Value), ([.string k, .string l] : List Value)[j]? = some u → (W.alloc (.cells #[.string k, .string l] t)).cell? ⟨N, j, none⟩ = some u := by
  subst hN
  intro j u hj
  match j, hj with
  | 0, hj => simp at hj; subst hj; simp
  | 1, hj => simp at hj; subst hj; simp
section
variable {w W : World} {c : Nat → Int} {B L Tb r cap k : Nat} {g : Lg} {vs : List Ver} {top last ids : Int} {es : List Oq} {e : Oq}
theorem drAskK (h : RD w c B L Tb (.slice (some ⟨r, 0, none⟩) es.length cap) g vs top last ids es) (hk : es[k]? = some e) (hid : ∀ (j : Nat) (y : Oq), es[j]? = some y → j ≠ k → y.x.id ≠ e.x.id) (key : ByteArray) (hal : e.x.keys.length ≤ 1000) (hW : W = w.setCell ⟨r, k * 6 + 2, none⟩ (.int .i64 (e.x.asked + 1))) :
    ∃ pk ck w9, (Builtin.append_ #[86, 86] 86 #[e.ks, .slice (some ⟨W.heap.size, 0, none⟩) 1 1]).run Tryz.prog (W.drew.alloc (.cells #[.string key] 9)) = .ok (.slice pk (e.x.keys.length + 1) ck) w9 ∧
      w9.frozen? ⟨r, k * 6 + 3, none⟩ = false ∧ w9.cell? ⟨r, k * 6 + 3, none⟩ = some e.ks ∧ W.cell? ⟨B, 4, none⟩ = some (.slice (some ⟨r, 0, none⟩) es.length cap) ∧ W.cell? ⟨r, k * 6 + 3, none⟩ = some e.ks ∧ w9.cell? ⟨B, 4, none⟩ = some (.slice (some ⟨r, 0, none⟩) es.length cap) ∧
      But (fun j => c j = -2 ∨ c j = 2 * e.x.id) w (w9.setCell ⟨r, k * 6 + 3, none⟩ (.slice pk (e.x.keys.length + 1) ck)) ∧
      RD (w9.setCell ⟨r, k * 6 + 3, none⟩ (.slice pk (e.x.keys.length + 1) ck)) (rq c (2 * e.x.id) w (w9.setCell ⟨r, k * 6 + 3, none⟩ (.slice pk (e.x.keys.length + 1) ck))) B L Tb (.slice (some ⟨r, 0, none⟩) es.length cap) g vs top last ids (es.set k ⟨askK e.x key, .slice pk (e.x.keys.length + 1) ck, e.ss, e.os⟩) := by
  obtain ⟨r', cap', hv, hcap, hrl, hcr, hfr, a0, a1, a2, a3, a4, a5⟩ := h.at hk
  cases hv
  have he := h.each e (List.mem_of_getElem? hk)
  have h1 := he.one
  have hkl := (List.getElem?_eq_some_iff.1 hk).1
  have bW : But (fun j => j = r) w W := by rw [hW]; exact setB
  have zW : W.heap.size = w.heap.size := by rw [hW]; simp [World.setCell]
  have hrB : B ≠ r := fun q => by have := h.cB; rw [q, hcr] at this; cases this
  have rowW : W.ownsRow 0 90 6 (.slice (some ⟨r, 0, none⟩) es.length cap) es.length ((es.flatMap encO).set (k * 6 + 2) (.int .i64 (e.x.asked + 1))) := by rw [hW]; exact own_put h.row (by rw [encO_len]; omega)
  have kr : ∀ j, e.ks.ownBlock = some j → j ≠ r := fun j hj q => by have := he.kc j hj; rw [q, hcr] at this; omega
  have kW := row_but he.k bW (fun j hj q => kr j hj q)
  have W4 := (bW.cell (p := ⟨B, 4, none⟩) h.ltB hrB).trans h.c4
  have W3 : W.cell? ⟨r, k * 6 + 3, none⟩ = some e.ks := by rw [hW]; exact (World.cell?_setCell_other _ _ _ _ (by intro q; injection q; omega)).trans a3
  have Wf : W.frozen? ⟨r, k * 6 + 3, none⟩ = false := by rw [hW]; simpa using hfr (k * 6 + 3)
  obtain ⟨i0, hin, hz0, hz1, hz2⟩ := info_parts infoStr
  have bA : Below W.heap.size W (W.drew.alloc (.cells #[.string key] 9)) := below_al (below_self W).drew _
  have kA := row_but (E := fun _ => False) kW (.below bA) (fun _ _ => id)
  obtain ⟨u3, w9, hr, own9, hg9, _, hat9⟩ := run_append_own_at (P := Tryz.prog) (W.drew.alloc (.cells #[.string key] 9)) 0 86 86 9 i0 _ 1 16 Tryz.underlying86 hin hz0 hz1 hz2 rfl (by decide) _ e.x.keys.length (e.x.keys.map Value.string) kA ⟨W.heap.size, 0, none⟩ 1 1 [.string key] rfl (fun j u hj => by
    rw [show (⟨W.heap.size, 0, none⟩ : Addr).add j = ⟨W.heap.size, j, none⟩ from by unfold Addr.add; split <;> simp_all]
    exact dr_str W.drew _ _ _ rfl j u hj) (fun u hu => by rw [List.mem_singleton.1 hu]; rfl) (by unfold maxLen; omega) (by omega) (by omega)
  obtain ⟨pk, ck, rfl⟩ := own_form own9
  have zA : (W.drew.alloc (.cells #[.string key] 9)).heap.size = w.heap.size + 1 := by simp [zW]
  have z9 := hg9.size
  have k9 : But (fun j => e.ks.ownBlock = some j) W w9 := (But.below (F := fun j => e.ks.ownBlock = some j) bA).then (turned_val hg9) (fun i _ q => q)
  have hrW : r < W.heap.size := by omega
  have nr : ¬ e.ks.ownBlock = some r := fun q => kr r q rfl
  have b9 : But (fun j => c j = -2 ∨ c j = 2 * e.x.id) w w9 := (bW.mono (fun j _ q => .inl (by rw [q]; exact hcr))).then k9 (fun i _ q => .inr (he.kc i q))
  have b10 : But (fun j => c j = -2 ∨ c j = 2 * e.x.id) w (w9.setCell ⟨r, k * 6 + 3, none⟩ (.slice pk (e.x.keys.length + 1) ck)) := b9.setCell (p := ⟨r, k * 6 + 3, none⟩) (.inl (.inl hcr)) _
  have row9 := row_but rowW k9 (fun j hj q => by cases hj; exact nr q)
  have row10 := own_put (j := k * 6 + 3) (u := .slice pk (e.x.keys.length + 1) ck) row9 (by rw [List.length_set, encO_len]; omega)
  have nr' : ∀ j, (Value.slice pk (e.x.keys.length + 1) ck).ownBlock = some j → j ≠ r := fun j hj => hat9.elim (fun q => kr j (q.symm.trans hj)) (fun q => by have := Option.some.inj (q.symm.trans hj); omega)
  refine ⟨pk, ck, w9, hr, (k9.frozen (p := ⟨r, k * 6 + 3, none⟩) hrW nr).trans Wf, (k9.cell (p := ⟨r, k * 6 + 3, none⟩) hrW nr).trans W3, W4, W3, (k9.cell (p := ⟨B, 4, none⟩) (by have := h.ltB; show B < _; omega) (fun q => by have := he.kc B q; rw [h.cB] at this; omega)).trans W4, b10, ?_⟩
  refine h.puto (2 * e.x.id) hk hid b10 (fun j _ q => q.elim .inl (fun q => .inr (.inl q))) ?_ ?_
  · rw [flat_set (k := 6) (x' := { e with x := { e.x with asked := e.x.asked + 1 } }) (fun _ => rfl) (by decide) es k e hk rfl, flat_set (k := 6) (x' := ⟨askK e.x key, .slice pk (e.x.keys.length + 1) ck, e.ss, e.os⟩) (fun _ => rfl) (by decide) _ k { e with x := { e.x with asked := e.x.asked + 1 } } (by rw [List.getElem?_set_self hkl]) rfl, List.set_set] at row10
    exact row10
  · refine ⟨h1, ?_, fun j hj => ?_, row_but he.s b10 (fun j hj q => by have := he.sc j hj; omega), fun j hj => by rw [rq_old (rd_lt he.s hj).2]; exact he.sc j hj, lse_col he.o b10 (fun j _ q => by omega) (fun j hj => rq_old hj)⟩
    · have := row_but own9 (setB (B := r) (i := k * 6 + 3) (v := .slice pk (e.x.keys.length + 1) ck)) (fun j hj => nr' j hj)
      show World.ownsRow _ _ _ _ _ (e.x.keys ++ [key]).length ((e.x.keys ++ [key]).map Value.string)
      rw [List.length_append, List.map_append]
      exact this
    · show rq _ _ _ _ j = 2 * e.x.id
      rcases hat9 with q | q
      · have hj' : e.ks.ownBlock = some j := q.symm.trans hj
        rw [rq_old (rd_lt he.k hj').2]; exact he.kc j hj'
      · have hj' := Option.some.inj (q.symm.trans hj)
        have := (rd_lt own9 hj).2
        exact rq_new ⟨by omega, by simp [World.setCell]; omega⟩
theorem drAskS (h : RD w c B L Tb (.slice (some ⟨r, 0, none⟩) es.length cap) g vs top last ids es) (hk : es[k]? = some e) (hid : ∀ (j : Nat) (y : Oq), es[j]? = some y → j ≠ k → y.x.id ≠ e.x.id) (lo hi : ByteArray) (hal : e.x.spans.length ≤ 1000) (hW : W = w.setCell ⟨r, k * 6 + 2, none⟩ (.int .i64 (e.x.asked + 1))) :
    ∃ pk ck w9, (Builtin.append_ #[87, 87] 87 #[e.ss, .slice (some ⟨W.heap.size, 0, none⟩) 1 1]).run Tryz.prog (W.drew.alloc (.cells #[.string lo, .string hi] 115)) = .ok (.slice pk (e.x.spans.length + 1) ck) w9 ∧
      w9.frozen? ⟨r, k * 6 + 4, none⟩ = false ∧ w9.cell? ⟨r, k * 6 + 4, none⟩ = some e.ss ∧ W.cell? ⟨B, 4, none⟩ = some (.slice (some ⟨r, 0, none⟩) es.length cap) ∧ W.cell? ⟨r, k * 6 + 4, none⟩ = some e.ss ∧ w9.cell? ⟨B, 4, none⟩ = some (.slice (some ⟨r, 0, none⟩) es.length cap) ∧
      But (fun j => c j = -2 ∨ c j = 2 * e.x.id + 1) w (w9.setCell ⟨r, k * 6 + 4, none⟩ (.slice pk (e.x.spans.length + 1) ck)) ∧
      RD (w9.setCell ⟨r, k * 6 + 4, none⟩ (.slice pk (e.x.spans.length + 1) ck)) (rq c (2 * e.x.id + 1) w (w9.setCell ⟨r, k * 6 + 4, none⟩ (.slice pk (e.x.spans.length + 1) ck))) B L Tb (.slice (some ⟨r, 0, none⟩) es.length cap) g vs top last ids (es.set k ⟨askR e.x lo hi, e.ks, .slice pk (e.x.spans.length + 1) ck, e.os⟩) := by
  obtain ⟨r', cap', hv, hcap, hrl, hcr, hfr, a0, a1, a2, a3, a4, a5⟩ := h.at hk
  cases hv
  have he := h.each e (List.mem_of_getElem? hk)
  have h1 := he.one
  have hkl := (List.getElem?_eq_some_iff.1 hk).1
  have bW : But (fun j => j = r) w W := by rw [hW]; exact setB
  have zW : W.heap.size = w.heap.size := by rw [hW]; simp [World.setCell]
  have hrB : B ≠ r := fun q => by have := h.cB; rw [q, hcr] at this; cases this
  have rowW : W.ownsRow 0 90 6 (.slice (some ⟨r, 0, none⟩) es.length cap) es.length ((es.flatMap encO).set (k * 6 + 2) (.int .i64 (e.x.asked + 1))) := by rw [hW]; exact own_put h.row (by rw [encO_len]; omega)
  have kr : ∀ j, e.ss.ownBlock = some j → j ≠ r := fun j hj q => by have := he.sc j hj; rw [q, hcr] at this; omega
  have kW := row_but he.s bW (fun j hj q => kr j hj q)
  have W4 := (bW.cell (p := ⟨B, 4, none⟩) h.ltB hrB).trans h.c4
  have W3 : W.cell? ⟨r, k * 6 + 4, none⟩ = some e.ss := by rw [hW]; exact (World.cell?_setCell_other _ _ _ _ (by intro q; injection q; omega)).trans a4
  have Wf : W.frozen? ⟨r, k * 6 + 4, none⟩ = false := by rw [hW]; simpa using hfr (k * 6 + 4)
  obtain ⟨i0, hin, hz0, hz1, hz2⟩ := info_parts infoTwo
  have bA : Below W.heap.size W (W.drew.alloc (.cells #[.string lo, .string hi] 115)) := below_al (below_self W).drew _
  have kA := row_but (E := fun _ => False) kW (.below bA) (fun _ _ => id)
  obtain ⟨u3, w9, hr, own9, hg9, _, hat9⟩ := run_append_own_at (P := Tryz.prog) (W.drew.alloc (.cells #[.string lo, .string hi] 115)) 0 87 87 115 i0 _ 2 32 Tryz.underlying87 hin hz0 hz1 hz2 rfl (by decide) _ e.x.spans.length (prV e.x.spans) kA ⟨W.heap.size, 0, none⟩ 1 1 [.string lo, .string hi] rfl (fun j u hj => by
    rw [show (⟨W.heap.size, 0, none⟩ : Addr).add j = ⟨W.heap.size, j, none⟩ from by unfold Addr.add; split <;> simp_all]
    exact dr_two W.drew _ _ _ _ rfl j u hj) pair_one (by unfold maxLen; omega) (by omega) (by omega)
  obtain ⟨pk, ck, rfl⟩ := own_form own9
  have zA : (W.drew.alloc (.cells #[.string lo, .string hi] 115)).heap.size = w.heap.size + 1 := by simp [zW]
  have z9 := hg9.size
  have k9 : But (fun j => e.ss.ownBlock = some j) W w9 := (But.below (F := fun j => e.ss.ownBlock = some j) bA).then (turned_val hg9) (fun i _ q => q)
  have hrW : r < W.heap.size := by omega
  have nr : ¬ e.ss.ownBlock = some r := fun q => kr r q rfl
  have b9 : But (fun j => c j = -2 ∨ c j = 2 * e.x.id + 1) w w9 := (bW.mono (fun j _ q => .inl (by rw [q]; exact hcr))).then k9 (fun i _ q => .inr (he.sc i q))
  have b10 : But (fun j => c j = -2 ∨ c j = 2 * e.x.id + 1) w (w9.setCell ⟨r, k * 6 + 4, none⟩ (.slice pk (e.x.spans.length + 1) ck)) := b9.setCell (p := ⟨r, k * 6 + 4, none⟩) (.inl (.inl hcr)) _
  have row9 := row_but rowW k9 (fun j hj q => by cases hj; exact nr q)
  have row10 := own_put (j := k * 6 + 4) (u := .slice pk (e.x.spans.length + 1) ck) row9 (by rw [List.length_set, encO_len]; omega)
  have nr' : ∀ j, (Value.slice pk (e.x.spans.length + 1) ck).ownBlock = some j → j ≠ r := fun j hj => hat9.elim (fun q => kr j (q.symm.trans hj)) (fun q => by have := Option.some.inj (q.symm.trans hj); omega)
  refine ⟨pk, ck, w9, hr, (k9.frozen (p := ⟨r, k * 6 + 4, none⟩) hrW nr).trans Wf, (k9.cell (p := ⟨r, k * 6 + 4, none⟩) hrW nr).trans W3, W4, W3, (k9.cell (p := ⟨B, 4, none⟩) (by have := h.ltB; show B < _; omega) (fun q => by have := he.sc B q; rw [h.cB] at this; omega)).trans W4, b10, ?_⟩
  refine h.puto (2 * e.x.id + 1) hk hid b10 (fun j _ q => q.elim .inl (fun q => .inr (.inr q))) ?_ ?_
  · rw [flat_set (k := 6) (x' := { e with x := { e.x with asked := e.x.asked + 1 } }) (fun _ => rfl) (by decide) es k e hk rfl, flat_set (k := 6) (x' := ⟨askR e.x lo hi, e.ks, .slice pk (e.x.spans.length + 1) ck, e.os⟩) (fun _ => rfl) (by decide) _ k { e with x := { e.x with asked := e.x.asked + 1 } } (by rw [List.getElem?_set_self hkl]) rfl, List.set_set] at row10
    exact row10
  · refine ⟨h1, row_but he.k b10 (fun j hj q => by have := he.kc j hj; omega), fun j hj => by rw [rq_old (rd_lt he.k hj).2]; exact he.kc j hj, ?_, fun j hj => ?_, lse_col he.o b10 (fun j _ q => by omega) (fun j hj => rq_old hj)⟩
    · have := row_but own9 (setB (B := r) (i := k * 6 + 4) (v := .slice pk (e.x.spans.length + 1) ck)) (fun j hj => nr' j hj)
      show World.ownsRow _ _ _ _ _ (e.x.spans ++ [(lo, hi)]).length (prV (e.x.spans ++ [(lo, hi)]))
      rw [List.length_append, prV_app]
      exact this
    · show rq _ _ _ _ j = 2 * e.x.id + 1
      rcases hat9 with q | q
      · have hj' : e.ss.ownBlock = some j := q.symm.trans hj
        rw [rq_old (rd_lt he.s hj').2]; exact he.sc j hj'
      · have hj' := Option.some.inj (q.symm.trans hj)
        have := (rd_lt own9 hj).2
        exact rq_new ⟨by omega, by simp [World.setCell]; omega⟩
end
end Go.Proofs.YteipfdjpndhgkaaGreatDoor
