/- The reference's log in memory; the contracts of its step, Sync and NewLog. -/
import Derived.Test.YtcmmjidheglmdaaDoorLgOwn
namespace Go.Proofs.YtcmmjidheglmdaaDoor
open Go.RowKit Vs

/-- Numbers as cells. -/
def inV (zs : List Int) : List Value := zs.map fun z => Value.int .i64 z
theorem inV_len (zs : List Int) : (inV zs).length = zs.length := by simp [inV]
theorem inV_app (a b : List Int) : inV (a ++ b) = inV a ++ inV b := by simp [inV]
theorem inV_at {zs : List Int} {i : Nat} {z : Int} (h : zs[i]? = some z) : (inV zs)[i]? = some (.int .i64 z) := by simp [inV, h]
/-- Three rows, no two of which are one, none in block B. -/
structure Sep3 (G : Nat → Prop) (B : Nat) (v1 v2 v3 : Value) : Prop where
  s1 : ∀ j, v1.ownBlock = some j → G j ∧ j ≠ B ∧ v2.ownBlock ≠ some j ∧ v3.ownBlock ≠ some j
  s2 : ∀ j, v2.ownBlock = some j → G j ∧ j ≠ B ∧ v1.ownBlock ≠ some j ∧ v3.ownBlock ≠ some j
  s3 : ∀ j, v3.ownBlock = some j → G j ∧ j ≠ B ∧ v1.ownBlock ≠ some j ∧ v2.ownBlock ≠ some j
/-- Its rows. -/
structure RR (w : World) (n0 : Nat) (G : Nat → Prop) (B : Nat) (v1 v2 v3 : Value) (ls : List (List Chg)) (es : List Int) (bs : List UInt8) : Prop where
  li : OwnL n0 w v1 ls
  en : w.ownsRow n0 3 1 v2 es.length (inV es)
  bys : w.ownsRow n0 5 1 v3 bs.length (byV bs)
  sep : Sep3 G B v1 v2 v3
theorem RR.but {E G : Nat → Prop} {w w' : World} {n0 B : Nat} {v1 v2 v3 : Value} {ls : List (List Chg)} {es : List Int} {bs : List UInt8} (h : RR w n0 G B v1 v2 v3 ls es bs) (hb : But E w w') (hE : ∀ j, G j → j ≠ B → ¬ E j) (hn : ∀ j, j < n0 → ¬ E j) : RR w' n0 G B v1 v2 v3 ls es bs :=
  ⟨h.li.but hb (fun j hj => hE j (h.sep.s1 j hj).1 (h.sep.s1 j hj).2.1) hn, row_but h.en hb (fun j hj => hE j (h.sep.s2 j hj).1 (h.sep.s2 j hj).2.1), row_but h.bys hb (fun j hj => hE j (h.sep.s3 j hj).1 (h.sep.s3 j hj).2.1), h.sep⟩
/-- The reference's log, in block B, field by field. -/
structure RX (w : World) (n0 : Nat) (G : Nat → Prop) (B : Nat) (room safe left : Int) (down : Bool) (v1 v2 v3 : Value) (ls : List (List Chg)) (es : List Int) (bs : List UInt8) : Prop where
  gB : G B
  nB : n0 ≤ B
  c0 : w.cell? ⟨B, 0, none⟩ = some (.int .i64 room)
  c1 : w.cell? ⟨B, 1, none⟩ = some v1
  c2 : w.cell? ⟨B, 2, none⟩ = some v2
  c3 : w.cell? ⟨B, 3, none⟩ = some v3
  c4 : w.cell? ⟨B, 4, none⟩ = some (.int .i64 safe)
  c5 : w.cell? ⟨B, 5, none⟩ = some (.int .i64 left)
  c6 : w.cell? ⟨B, 6, none⟩ = some (.bool down)
  fz : ∀ i, i < 7 → w.frozen? ⟨B, i, none⟩ = false
  rr : RR w n0 G B v1 v2 v3 ls es bs
theorem RX.lt {w : World} {n0 : Nat} {G : Nat → Prop} {B : Nat} {room safe left : Int} {down : Bool} {v1 v2 v3 : Value} {ls : List (List Chg)} {es : List Int} {bs : List UInt8} (h : RX w n0 G B room safe left down v1 v2 v3 ls es bs) : B < w.heap.size := World.block_lt_of_cell? _ _ h.c0
theorem RX.but {E G : Nat → Prop} {w w' : World} {n0 B : Nat} {room safe left : Int} {down : Bool} {v1 v2 v3 : Value} {ls : List (List Chg)} {es : List Int} {bs : List UInt8} (h : RX w n0 G B room safe left down v1 v2 v3 ls es bs) (hb : But E w w') (hE : ∀ j, G j → ¬ E j) (hn : ∀ j, j < n0 → ¬ E j) : RX w' n0 G B room safe left down v1 v2 v3 ls es bs := by
  have hB := hE B h.gB
  exact ⟨h.gB, h.nB, (hb.cell (p := ⟨B, 0, none⟩) h.lt hB).trans h.c0, (hb.cell (p := ⟨B, 1, none⟩) h.lt hB).trans h.c1, (hb.cell (p := ⟨B, 2, none⟩) h.lt hB).trans h.c2, (hb.cell (p := ⟨B, 3, none⟩) h.lt hB).trans h.c3, (hb.cell (p := ⟨B, 4, none⟩) h.lt hB).trans h.c4, (hb.cell (p := ⟨B, 5, none⟩) h.lt hB).trans h.c5, (hb.cell (p := ⟨B, 6, none⟩) h.lt hB).trans h.c6,
    fun i hi => (hb.frozen (p := ⟨B, i, none⟩) h.lt hB).trans (h.fz i hi), h.rr.but hb (fun j hj _ => hE j hj) hn⟩
theorem RX.step {G : Nat → Prop} {w w' : World} {n0 B : Nat} {room safe left : Int} {down : Bool} {v1 v2 v3 : Value} {ls : List (List Chg)} {es : List Int} {bs : List UInt8} (h : RX w n0 G B room safe left down v1 v2 v3 ls es bs) (hb : Below w.heap.size w w') : RX w' n0 G B room safe left down v1 v2 v3 ls es bs := h.but (E := fun _ => False) (.below hb) (fun _ _ => id) (fun _ _ => id)
theorem RX.mono {G H : Nat → Prop} {w : World} {n0 B : Nat} {room safe left : Int} {down : Bool} {v1 v2 v3 : Value} {ls : List (List Chg)} {es : List Int} {bs : List UInt8} (h : RX w n0 G B room safe left down v1 v2 v3 ls es bs) (hH : ∀ j, G j → H j) : RX w n0 H B room safe left down v1 v2 v3 ls es bs :=
  ⟨hH B h.gB, h.nB, h.c0, h.c1, h.c2, h.c3, h.c4, h.c5, h.c6, h.fz, h.rr.li, h.rr.en, h.rr.bys, ⟨fun j hj => ⟨hH j (h.rr.sep.s1 j hj).1, (h.rr.sep.s1 j hj).2⟩, fun j hj => ⟨hH j (h.rr.sep.s2 j hj).1, (h.rr.sep.s2 j hj).2⟩, fun j hj => ⟨hH j (h.rr.sep.s3 j hj).1, (h.rr.sep.s3 j hj).2⟩⟩⟩
/-- One of its fields is set. -/
theorem RX.set1 {G : Nat → Prop} {w : World} {n0 B : Nat} {room safe left : Int} {down : Bool} {v1 v2 v3 : Value} {ls : List (List Chg)} {es : List Int} {bs : List UInt8} (h : RX w n0 G B room safe left down v1 v2 v3 ls es bs) {u : Value} {ls' : List (List Chg)} (rr' : RR w n0 G B u v2 v3 ls' es bs) : RX (w.setCell ⟨B, 1, none⟩ u) n0 G B room safe left down u v2 v3 ls' es bs := by
  have hb : But (fun k => k = B) w (w.setCell ⟨B, 1, none⟩ u) := (But.refl (fun k => k = B) w).setCell (p := ⟨B, 1, none⟩) (.inl rfl) _
  obtain ⟨gB, nB, c0, c1, c2, c3, c4, c5, c6, fz, rr⟩ := h
  have f0 := fz 0 (by decide); have f1 := fz 1 (by decide); have f2 := fz 2 (by decide); have f3 := fz 3 (by decide); have f4 := fz 4 (by decide); have f5 := fz 5 (by decide); have f6 := fz 6 (by decide)
  refine ⟨gB, nB, by go_simp, by go_simp, by go_simp, by go_simp, by go_simp, by go_simp, by go_simp, fun i hi => ?_, rr'.but hb (fun j _ hj => hj) (fun j hj e => by omega)⟩
  match i, hi with
  | 0, _ => go_simp
  | 1, _ => go_simp
  | 2, _ => go_simp
  | 3, _ => go_simp
  | 4, _ => go_simp
  | 5, _ => go_simp
  | 6, _ => go_simp
theorem RX.set2 {G : Nat → Prop} {w : World} {n0 B : Nat} {room safe left : Int} {down : Bool} {v1 v2 v3 : Value} {ls : List (List Chg)} {es : List Int} {bs : List UInt8} (h : RX w n0 G B room safe left down v1 v2 v3 ls es bs) {u : Value} {es' : List Int} (rr' : RR w n0 G B v1 u v3 ls es' bs) : RX (w.setCell ⟨B, 2, none⟩ u) n0 G B room safe left down v1 u v3 ls es' bs := by
  have hb : But (fun k => k = B) w (w.setCell ⟨B, 2, none⟩ u) := (But.refl (fun k => k = B) w).setCell (p := ⟨B, 2, none⟩) (.inl rfl) _
  obtain ⟨gB, nB, c0, c1, c2, c3, c4, c5, c6, fz, rr⟩ := h
  have f0 := fz 0 (by decide); have f1 := fz 1 (by decide); have f2 := fz 2 (by decide); have f3 := fz 3 (by decide); have f4 := fz 4 (by decide); have f5 := fz 5 (by decide); have f6 := fz 6 (by decide)
  refine ⟨gB, nB, by go_simp, by go_simp, by go_simp, by go_simp, by go_simp, by go_simp, by go_simp, fun i hi => ?_, rr'.but hb (fun j _ hj => hj) (fun j hj e => by omega)⟩
  match i, hi with
  | 0, _ => go_simp
  | 1, _ => go_simp
  | 2, _ => go_simp
  | 3, _ => go_simp
  | 4, _ => go_simp
  | 5, _ => go_simp
  | 6, _ => go_simp
theorem RX.set3 {G : Nat → Prop} {w : World} {n0 B : Nat} {room safe left : Int} {down : Bool} {v1 v2 v3 : Value} {ls : List (List Chg)} {es : List Int} {bs : List UInt8} (h : RX w n0 G B room safe left down v1 v2 v3 ls es bs) {u : Value} {bs' : List UInt8} (rr' : RR w n0 G B v1 v2 u ls es bs') : RX (w.setCell ⟨B, 3, none⟩ u) n0 G B room safe left down v1 v2 u ls es bs' := by
  have hb : But (fun k => k = B) w (w.setCell ⟨B, 3, none⟩ u) := (But.refl (fun k => k = B) w).setCell (p := ⟨B, 3, none⟩) (.inl rfl) _
  obtain ⟨gB, nB, c0, c1, c2, c3, c4, c5, c6, fz, rr⟩ := h
  have f0 := fz 0 (by decide); have f1 := fz 1 (by decide); have f2 := fz 2 (by decide); have f3 := fz 3 (by decide); have f4 := fz 4 (by decide); have f5 := fz 5 (by decide); have f6 := fz 6 (by decide)
  refine ⟨gB, nB, by go_simp, by go_simp, by go_simp, by go_simp, by go_simp, by go_simp, by go_simp, fun i hi => ?_, rr'.but hb (fun j _ hj => hj) (fun j hj e => by omega)⟩
  match i, hi with
  | 0, _ => go_simp
  | 1, _ => go_simp
  | 2, _ => go_simp
  | 3, _ => go_simp
  | 4, _ => go_simp
  | 5, _ => go_simp
  | 6, _ => go_simp
theorem RX.set4 {G : Nat → Prop} {w : World} {n0 B : Nat} {room safe left : Int} {down : Bool} {v1 v2 v3 : Value} {ls : List (List Chg)} {es : List Int} {bs : List UInt8} (h : RX w n0 G B room safe left down v1 v2 v3 ls es bs) (n : Int) : RX (w.setCell ⟨B, 4, none⟩ (.int .i64 n)) n0 G B room n left down v1 v2 v3 ls es bs := by
  have hb : But (fun k => k = B) w (w.setCell ⟨B, 4, none⟩ (.int .i64 n)) := (But.refl (fun k => k = B) w).setCell (p := ⟨B, 4, none⟩) (.inl rfl) _
  obtain ⟨gB, nB, c0, c1, c2, c3, c4, c5, c6, fz, rr⟩ := h
  have f0 := fz 0 (by decide); have f1 := fz 1 (by decide); have f2 := fz 2 (by decide); have f3 := fz 3 (by decide); have f4 := fz 4 (by decide); have f5 := fz 5 (by decide); have f6 := fz 6 (by decide)
  refine ⟨gB, nB, by go_simp, by go_simp, by go_simp, by go_simp, by go_simp, by go_simp, by go_simp, fun i hi => ?_, rr.but hb (fun j _ hj => hj) (fun j hj e => by omega)⟩
  match i, hi with
  | 0, _ => go_simp
  | 1, _ => go_simp
  | 2, _ => go_simp
  | 3, _ => go_simp
  | 4, _ => go_simp
  | 5, _ => go_simp
  | 6, _ => go_simp
theorem RX.set5 {G : Nat → Prop} {w : World} {n0 B : Nat} {room safe left : Int} {down : Bool} {v1 v2 v3 : Value} {ls : List (List Chg)} {es : List Int} {bs : List UInt8} (h : RX w n0 G B room safe left down v1 v2 v3 ls es bs) (n : Int) : RX (w.setCell ⟨B, 5, none⟩ (.int .i64 n)) n0 G B room safe n down v1 v2 v3 ls es bs := by
  have hb : But (fun k => k = B) w (w.setCell ⟨B, 5, none⟩ (.int .i64 n)) := (But.refl (fun k => k = B) w).setCell (p := ⟨B, 5, none⟩) (.inl rfl) _
  obtain ⟨gB, nB, c0, c1, c2, c3, c4, c5, c6, fz, rr⟩ := h
  have f0 := fz 0 (by decide); have f1 := fz 1 (by decide); have f2 := fz 2 (by decide); have f3 := fz 3 (by decide); have f4 := fz 4 (by decide); have f5 := fz 5 (by decide); have f6 := fz 6 (by decide)
  refine ⟨gB, nB, by go_simp, by go_simp, by go_simp, by go_simp, by go_simp, by go_simp, by go_simp, fun i hi => ?_, rr.but hb (fun j _ hj => hj) (fun j hj e => by omega)⟩
  match i, hi with
  | 0, _ => go_simp
  | 1, _ => go_simp
  | 2, _ => go_simp
  | 3, _ => go_simp
  | 4, _ => go_simp
  | 5, _ => go_simp
  | 6, _ => go_simp
theorem RX.set6 {G : Nat → Prop} {w : World} {n0 B : Nat} {room safe left : Int} {down : Bool} {v1 v2 v3 : Value} {ls : List (List Chg)} {es : List Int} {bs : List UInt8} (h : RX w n0 G B room safe left down v1 v2 v3 ls es bs) (b : Bool) : RX (w.setCell ⟨B, 6, none⟩ (.bool b)) n0 G B room safe left b v1 v2 v3 ls es bs := by
  have hb : But (fun k => k = B) w (w.setCell ⟨B, 6, none⟩ (.bool b)) := (But.refl (fun k => k = B) w).setCell (p := ⟨B, 6, none⟩) (.inl rfl) _
  obtain ⟨gB, nB, c0, c1, c2, c3, c4, c5, c6, fz, rr⟩ := h
  have f0 := fz 0 (by decide); have f1 := fz 1 (by decide); have f2 := fz 2 (by decide); have f3 := fz 3 (by decide); have f4 := fz 4 (by decide); have f5 := fz 5 (by decide); have f6 := fz 6 (by decide)
  refine ⟨gB, nB, by go_simp, by go_simp, by go_simp, by go_simp, by go_simp, by go_simp, by go_simp, fun i hi => ?_, rr.but hb (fun j _ hj => hj) (fun j hj e => by omega)⟩
  match i, hi with
  | 0, _ => go_simp
  | 1, _ => go_simp
  | 2, _ => go_simp
  | 3, _ => go_simp
  | 4, _ => go_simp
  | 5, _ => go_simp
  | 6, _ => go_simp
theorem row_lt {n0 e size n : Nat} {w : World} {v : Value} {xs : List Value} (h : w.ownsRow n0 e size v n xs) {j : Nat} (hj : v.ownBlock = some j) : n0 ≤ j ∧ j < w.heap.size := by
  rcases h.2 with ⟨h2, _⟩ | ⟨g, c, cur, h2, hb, hg, _⟩
  · rw [h2] at hj; cases hj
  · rw [h2] at hj
    have : g = j := Option.some.inj hj
    subst this
    exact ⟨hb, (Array.getElem?_eq_some_iff.1 hg).1⟩
/-- A row has grown, and is set anew. -/
theorem RX.put1 {G : Nat → Prop} {w w5 : World} {n0 B : Nat} {room safe left : Int} {down : Bool} {v1 v2 v3 u : Value} {ls : List (List Chg)} {es : List Int} {bs : List UInt8} {ls' : List (List Chg)} (x : RX w n0 G B room safe left down v1 v2 v3 ls es bs) (hb : But (fun j => v1.ownBlock = some j) w w5) (own : OwnL n0 w5 u ls') (hat : u.ownBlock = v1.ownBlock ∨ u.ownBlock = some w.heap.size) :
    RX (w5.setCell ⟨B, 1, none⟩ u) n0 (Nw G w w5) B room safe left down u v2 v3 ls' es bs := by
  have hlt := x.lt
  have hB : ¬ v1.ownBlock = some B := fun e => (x.rr.sep.s1 B e).2.1 rfl
  have hlow : ∀ j, j < n0 → ¬ v1.ownBlock = some j := fun j hj e => by have := (fun j hj => (x.rr.li.lt hj)) j e; omega
  have hu : ∀ j, u.ownBlock = some j → Nw G w w5 j := fun j hj => by
    rcases hat with e | e
    · exact .inl (x.rr.sep.s1 j (e.symm.trans hj)).1
    · have e2 : w.heap.size = j := Option.some.inj (e.symm.trans hj)
      exact .inr ⟨by omega, ((fun j hj => own.lt hj) j hj).2⟩
  have huB : ∀ j, u.ownBlock = some j → j ≠ B := fun j hj => by
    rcases hat with e | e
    · exact (x.rr.sep.s1 j (e.symm.trans hj)).2.1
    · have e2 : w.heap.size = j := Option.some.inj (e.symm.trans hj)
      omega
  have hu2 : ∀ j, u.ownBlock = some j → v2.ownBlock ≠ some j := fun j hj e' => by
    rcases hat with e | e
    · exact (x.rr.sep.s1 j (e.symm.trans hj)).2.2.1 e'
    · have e2 : w.heap.size = j := Option.some.inj (e.symm.trans hj)
      have := ((fun j hj => row_lt x.rr.en hj) j e').2; omega
  have hu3 : ∀ j, u.ownBlock = some j → v3.ownBlock ≠ some j := fun j hj e' => by
    rcases hat with e | e
    · exact (x.rr.sep.s1 j (e.symm.trans hj)).2.2.2 e'
    · have e2 : w.heap.size = j := Option.some.inj (e.symm.trans hj)
      have := ((fun j hj => row_lt x.rr.bys hj) j e').2; omega
  obtain ⟨gB, nB, c0, c1, c2, c3, c4, c5, c6, fz, rr⟩ := x
  have d0 := (hb.cell (p := ⟨B, 0, none⟩) hlt hB).trans c0
  have d1 := (hb.cell (p := ⟨B, 1, none⟩) hlt hB).trans c1
  have d2 := (hb.cell (p := ⟨B, 2, none⟩) hlt hB).trans c2
  have d3 := (hb.cell (p := ⟨B, 3, none⟩) hlt hB).trans c3
  have d4 := (hb.cell (p := ⟨B, 4, none⟩) hlt hB).trans c4
  have d5 := (hb.cell (p := ⟨B, 5, none⟩) hlt hB).trans c5
  have d6 := (hb.cell (p := ⟨B, 6, none⟩) hlt hB).trans c6
  have fy : ∀ i, i < 7 → w5.frozen? ⟨B, i, none⟩ = false := fun i hi => (hb.frozen (p := ⟨B, i, none⟩) hlt hB).trans (fz i hi)
  have hb2 : But (fun k => k = B) w5 (w5.setCell ⟨B, 1, none⟩ u) := (But.refl (fun k => k = B) w5).setCell (p := ⟨B, 1, none⟩) (.inl rfl) _
  have f0 := fy 0 (by decide); have f1 := fy 1 (by decide); have f2 := fy 2 (by decide); have f3 := fy 3 (by decide); have f4 := fy 4 (by decide); have f5 := fy 5 (by decide); have f6 := fy 6 (by decide)
  have rr5 : RR w5 n0 (Nw G w w5) B u v2 v3 ls' es bs := ⟨own, (row_but rr.en hb (fun j hj e => (rr.sep.s2 j hj).2.2.1 e)), (row_but rr.bys hb (fun j hj e => (rr.sep.s3 j hj).2.2.1 e)), ⟨fun j hj => ⟨hu j hj, huB j hj, hu2 j hj, hu3 j hj⟩, fun j hj => ⟨.inl (rr.sep.s2 j hj).1, (rr.sep.s2 j hj).2.1, fun e => hu2 j e hj, (rr.sep.s2 j hj).2.2.2⟩, fun j hj => ⟨.inl (rr.sep.s3 j hj).1, (rr.sep.s3 j hj).2.1, fun e => hu3 j e hj, (rr.sep.s3 j hj).2.2.2⟩⟩⟩
  refine ⟨.inl gB, nB, by go_simp, by go_simp, by go_simp, by go_simp, by go_simp, by go_simp, by go_simp, fun i hi => ?_, rr5.but hb2 (fun j _ hj => hj) (fun j hj e => by omega)⟩
  match i, hi with
  | 0, _ => go_simp
  | 1, _ => go_simp
  | 2, _ => go_simp
  | 3, _ => go_simp
  | 4, _ => go_simp
  | 5, _ => go_simp
  | 6, _ => go_simp
theorem RX.put2 {G : Nat → Prop} {w w5 : World} {n0 B : Nat} {room safe left : Int} {down : Bool} {v1 v2 v3 u : Value} {ls : List (List Chg)} {es : List Int} {bs : List UInt8} {es' : List Int} (x : RX w n0 G B room safe left down v1 v2 v3 ls es bs) (hb : But (fun j => v2.ownBlock = some j) w w5) (own : w5.ownsRow n0 3 1 u es'.length (inV es')) (hat : u.ownBlock = v2.ownBlock ∨ u.ownBlock = some w.heap.size) :
    RX (w5.setCell ⟨B, 2, none⟩ u) n0 (Nw G w w5) B room safe left down v1 u v3 ls es' bs := by
  have hlt := x.lt
  have hB : ¬ v2.ownBlock = some B := fun e => (x.rr.sep.s2 B e).2.1 rfl
  have hlow : ∀ j, j < n0 → ¬ v2.ownBlock = some j := fun j hj e => by have := (fun j hj => row_lt x.rr.en hj) j e; omega
  have hu : ∀ j, u.ownBlock = some j → Nw G w w5 j := fun j hj => by
    rcases hat with e | e
    · exact .inl (x.rr.sep.s2 j (e.symm.trans hj)).1
    · have e2 : w.heap.size = j := Option.some.inj (e.symm.trans hj)
      exact .inr ⟨by omega, ((fun j hj => row_lt own hj) j hj).2⟩
  have huB : ∀ j, u.ownBlock = some j → j ≠ B := fun j hj => by
    rcases hat with e | e
    · exact (x.rr.sep.s2 j (e.symm.trans hj)).2.1
    · have e2 : w.heap.size = j := Option.some.inj (e.symm.trans hj)
      omega
  have hu1 : ∀ j, u.ownBlock = some j → v1.ownBlock ≠ some j := fun j hj e' => by
    rcases hat with e | e
    · exact (x.rr.sep.s2 j (e.symm.trans hj)).2.2.1 e'
    · have e2 : w.heap.size = j := Option.some.inj (e.symm.trans hj)
      have := ((fun j hj => (x.rr.li.lt hj)) j e').2; omega
  have hu3 : ∀ j, u.ownBlock = some j → v3.ownBlock ≠ some j := fun j hj e' => by
    rcases hat with e | e
    · exact (x.rr.sep.s2 j (e.symm.trans hj)).2.2.2 e'
    · have e2 : w.heap.size = j := Option.some.inj (e.symm.trans hj)
      have := ((fun j hj => row_lt x.rr.bys hj) j e').2; omega
  obtain ⟨gB, nB, c0, c1, c2, c3, c4, c5, c6, fz, rr⟩ := x
  have d0 := (hb.cell (p := ⟨B, 0, none⟩) hlt hB).trans c0
  have d1 := (hb.cell (p := ⟨B, 1, none⟩) hlt hB).trans c1
  have d2 := (hb.cell (p := ⟨B, 2, none⟩) hlt hB).trans c2
  have d3 := (hb.cell (p := ⟨B, 3, none⟩) hlt hB).trans c3
  have d4 := (hb.cell (p := ⟨B, 4, none⟩) hlt hB).trans c4
  have d5 := (hb.cell (p := ⟨B, 5, none⟩) hlt hB).trans c5
  have d6 := (hb.cell (p := ⟨B, 6, none⟩) hlt hB).trans c6
  have fy : ∀ i, i < 7 → w5.frozen? ⟨B, i, none⟩ = false := fun i hi => (hb.frozen (p := ⟨B, i, none⟩) hlt hB).trans (fz i hi)
  have hb2 : But (fun k => k = B) w5 (w5.setCell ⟨B, 2, none⟩ u) := (But.refl (fun k => k = B) w5).setCell (p := ⟨B, 2, none⟩) (.inl rfl) _
  have f0 := fy 0 (by decide); have f1 := fy 1 (by decide); have f2 := fy 2 (by decide); have f3 := fy 3 (by decide); have f4 := fy 4 (by decide); have f5 := fy 5 (by decide); have f6 := fy 6 (by decide)
  have rr5 : RR w5 n0 (Nw G w w5) B v1 u v3 ls es' bs := ⟨(rr.li.but hb (fun j hj e => (rr.sep.s1 j hj).2.2.1 e) hlow), own, (row_but rr.bys hb (fun j hj e => (rr.sep.s3 j hj).2.2.2 e)), ⟨fun j hj => ⟨.inl (rr.sep.s1 j hj).1, (rr.sep.s1 j hj).2.1, fun e => hu1 j e hj, (rr.sep.s1 j hj).2.2.2⟩, fun j hj => ⟨hu j hj, huB j hj, hu1 j hj, hu3 j hj⟩, fun j hj => ⟨.inl (rr.sep.s3 j hj).1, (rr.sep.s3 j hj).2.1, (rr.sep.s3 j hj).2.2.1, fun e => hu3 j e hj⟩⟩⟩
  refine ⟨.inl gB, nB, by go_simp, by go_simp, by go_simp, by go_simp, by go_simp, by go_simp, by go_simp, fun i hi => ?_, rr5.but hb2 (fun j _ hj => hj) (fun j hj e => by omega)⟩
  match i, hi with
  | 0, _ => go_simp
  | 1, _ => go_simp
  | 2, _ => go_simp
  | 3, _ => go_simp
  | 4, _ => go_simp
  | 5, _ => go_simp
  | 6, _ => go_simp
theorem RX.put3 {G : Nat → Prop} {w w5 : World} {n0 B : Nat} {room safe left : Int} {down : Bool} {v1 v2 v3 u : Value} {ls : List (List Chg)} {es : List Int} {bs : List UInt8} {bs' : List UInt8} (x : RX w n0 G B room safe left down v1 v2 v3 ls es bs) (hb : But (fun j => v3.ownBlock = some j) w w5) (own : w5.ownsRow n0 5 1 u bs'.length (byV bs')) (hat : u.ownBlock = v3.ownBlock ∨ u.ownBlock = some w.heap.size) :
    RX (w5.setCell ⟨B, 3, none⟩ u) n0 (Nw G w w5) B room safe left down v1 v2 u ls es bs' := by
  have hlt := x.lt
  have hB : ¬ v3.ownBlock = some B := fun e => (x.rr.sep.s3 B e).2.1 rfl
  have hlow : ∀ j, j < n0 → ¬ v3.ownBlock = some j := fun j hj e => by have := (fun j hj => row_lt x.rr.bys hj) j e; omega
  have hu : ∀ j, u.ownBlock = some j → Nw G w w5 j := fun j hj => by
    rcases hat with e | e
    · exact .inl (x.rr.sep.s3 j (e.symm.trans hj)).1
    · have e2 : w.heap.size = j := Option.some.inj (e.symm.trans hj)
      exact .inr ⟨by omega, ((fun j hj => row_lt own hj) j hj).2⟩
  have huB : ∀ j, u.ownBlock = some j → j ≠ B := fun j hj => by
    rcases hat with e | e
    · exact (x.rr.sep.s3 j (e.symm.trans hj)).2.1
    · have e2 : w.heap.size = j := Option.some.inj (e.symm.trans hj)
      omega
  have hu1 : ∀ j, u.ownBlock = some j → v1.ownBlock ≠ some j := fun j hj e' => by
    rcases hat with e | e
    · exact (x.rr.sep.s3 j (e.symm.trans hj)).2.2.1 e'
    · have e2 : w.heap.size = j := Option.some.inj (e.symm.trans hj)
      have := ((fun j hj => (x.rr.li.lt hj)) j e').2; omega
  have hu2 : ∀ j, u.ownBlock = some j → v2.ownBlock ≠ some j := fun j hj e' => by
    rcases hat with e | e
    · exact (x.rr.sep.s3 j (e.symm.trans hj)).2.2.2 e'
    · have e2 : w.heap.size = j := Option.some.inj (e.symm.trans hj)
      have := ((fun j hj => row_lt x.rr.en hj) j e').2; omega
  obtain ⟨gB, nB, c0, c1, c2, c3, c4, c5, c6, fz, rr⟩ := x
  have d0 := (hb.cell (p := ⟨B, 0, none⟩) hlt hB).trans c0
  have d1 := (hb.cell (p := ⟨B, 1, none⟩) hlt hB).trans c1
  have d2 := (hb.cell (p := ⟨B, 2, none⟩) hlt hB).trans c2
  have d3 := (hb.cell (p := ⟨B, 3, none⟩) hlt hB).trans c3
  have d4 := (hb.cell (p := ⟨B, 4, none⟩) hlt hB).trans c4
  have d5 := (hb.cell (p := ⟨B, 5, none⟩) hlt hB).trans c5
  have d6 := (hb.cell (p := ⟨B, 6, none⟩) hlt hB).trans c6
  have fy : ∀ i, i < 7 → w5.frozen? ⟨B, i, none⟩ = false := fun i hi => (hb.frozen (p := ⟨B, i, none⟩) hlt hB).trans (fz i hi)
  have hb2 : But (fun k => k = B) w5 (w5.setCell ⟨B, 3, none⟩ u) := (But.refl (fun k => k = B) w5).setCell (p := ⟨B, 3, none⟩) (.inl rfl) _
  have f0 := fy 0 (by decide); have f1 := fy 1 (by decide); have f2 := fy 2 (by decide); have f3 := fy 3 (by decide); have f4 := fy 4 (by decide); have f5 := fy 5 (by decide); have f6 := fy 6 (by decide)
  have rr5 : RR w5 n0 (Nw G w w5) B v1 v2 u ls es bs' := ⟨(rr.li.but hb (fun j hj e => (rr.sep.s1 j hj).2.2.2 e) hlow), (row_but rr.en hb (fun j hj e => (rr.sep.s2 j hj).2.2.2 e)), own, ⟨fun j hj => ⟨.inl (rr.sep.s1 j hj).1, (rr.sep.s1 j hj).2.1, (rr.sep.s1 j hj).2.2.1, fun e => hu1 j e hj⟩, fun j hj => ⟨.inl (rr.sep.s2 j hj).1, (rr.sep.s2 j hj).2.1, (rr.sep.s2 j hj).2.2.1, fun e => hu2 j e hj⟩, fun j hj => ⟨hu j hj, huB j hj, hu1 j hj, hu2 j hj⟩⟩⟩
  refine ⟨.inl gB, nB, by go_simp, by go_simp, by go_simp, by go_simp, by go_simp, by go_simp, by go_simp, fun i hi => ?_, rr5.but hb2 (fun j _ hj => hj) (fun j hj e => by omega)⟩
  match i, hi with
  | 0, _ => go_simp
  | 1, _ => go_simp
  | 2, _ => go_simp
  | 3, _ => go_simp
  | 4, _ => go_simp
  | 5, _ => go_simp
  | 6, _ => go_simp
/-- The reference's log. -/
def RL (w : World) (n0 : Nat) (G : Nat → Prop) (B : Nat) (g : Lg) : Prop := ∃ v1 v2 v3, RX w n0 G B g.room g.safe g.left g.down v1 v2 v3 g.ls (ends 0 g.ls) g.by
theorem RL.gB {w : World} {n0 : Nat} {G : Nat → Prop} {B : Nat} {g : Lg} (h : RL w n0 G B g) : G B := by
  obtain ⟨v1, v2, v3, h⟩ := h
  exact h.gB
theorem RL.but {E G : Nat → Prop} {w w' : World} {n0 B : Nat} {g : Lg} (h : RL w n0 G B g) (hb : But E w w') (hE : ∀ j, G j → ¬ E j) (hn : ∀ j, j < n0 → ¬ E j) : RL w' n0 G B g := by
  obtain ⟨v1, v2, v3, h⟩ := h
  exact ⟨v1, v2, v3, h.but hb hE hn⟩
theorem RL.step {G : Nat → Prop} {w w' : World} {n0 B : Nat} {g : Lg} (h : RL w n0 G B g) (hb : Below w.heap.size w w') : RL w' n0 G B g := h.but (E := fun _ => False) (.below hb) (fun _ _ => id) (fun _ _ => id)
theorem RL.mono {G H : Nat → Prop} {w : World} {n0 B : Nat} {g : Lg} (h : RL w n0 G B g) (hH : ∀ j, G j → H j) : RL w n0 H B g := by
  obtain ⟨v1, v2, v3, h⟩ := h
  exact ⟨v1, v2, v3, h.mono hH⟩
theorem setB {w : World} {B i : Nat} {v : Value} : But (fun k => k = B) w (w.setCell ⟨B, i, none⟩ v) := (But.refl (fun k => k = B) w).setCell (p := ⟨B, i, none⟩) (.inl rfl) _
/-- A step of the power. -/
def stG (g : Lg) : Lg := if g.left = 0 then { g with down := true } else { g with left := less g.left }
theorem refStep {G : Nat → Prop} {n0 B : Nat} {g : Lg} (w : World) (h : RL w n0 G B g) (hmx : g.left ≤ 9223372036854775807) : Calls Tryd.prog 23 #[.pointer (some ⟨B, 0, none⟩)] w fun e w' => e = .returned (.bool (!decide (g.left = 0))) ∧ RL w' n0 G B (stG g) ∧ But (fun j => j = B) w w' := by
  obtain ⟨v1, v2, v3, h⟩ := h
  have c5 := h.c5
  have c6 := h.c6
  have f5 := h.fz 5 (by decide)
  have f6 := h.fz 6 (by decide)
  unfold stG
  by_cases h0 : g.left = 0
  · rw [if_pos h0]
    have hd := h.set6 true
    have e0 : (g.left == 0) = true := by simpa using h0
    rw [show (!decide (g.left = 0)) = false from by simp [h0]]
    clear h0 h
    go_enter Tryd.func23, Tryd.ntmps23
    go_wp2
    go_ret
    exact ⟨rfl, ⟨v1, v2, v3, hd⟩, setB⟩
  · rw [if_neg h0]
    have e0 : (g.left == 0) = false := by simpa using h0
    rw [show (!decide (g.left = 0)) = true from by simp [h0]]
    unfold less
    by_cases h1 : 0 < g.left
    · rw [if_pos h1]
      have hd := h.set5 (g.left - 1)
      clear h0 h
      go_enter Tryd.func23, Tryd.ntmps23
      go_wp2
      go_ret
      exact ⟨rfl, ⟨v1, v2, v3, hd⟩, setB⟩
    · rw [if_neg h1]
      clear h0
      go_enter Tryd.func23, Tryd.ntmps23
      go_wp2
      go_ret
      exact ⟨rfl, ⟨v1, v2, v3, h⟩, .refl _ _⟩
theorem refSync {G : Nat → Prop} {n0 B : Nat} {g : Lg} (w : World) (h : RL w n0 G B g) (ok : OkL g) : Calls Tryd.prog 10 #[.pointer (some ⟨B, 0, none⟩)] w fun e w' => e = .returned (.int .i64 (syF g)) ∧ RL w' n0 G B (syG g) ∧ But (fun j => j = B) w w' := by
  have hS := refStep w h ok.lmax
  have c6 : w.cell? ⟨B, 6, none⟩ = some (.bool g.down) := by
    obtain ⟨v1, v2, v3, h⟩ := h
    exact h.c6
  have hf := ok.few.2.1
  by_cases hd : g.down = true
  · rw [show syF g = 8 from if_pos hd, show syG g = g from if_pos hd]
    rw [hd] at c6
    clear hd
    go_enter Tryd.func10, Tryd.ntmps10
    go_wp2
    go_ret
    exact ⟨rfl, h, .refl _ _⟩
  · rw [show g.down = false from by simpa using hd] at c6
    by_cases h0 : g.left = 0
    · rw [show syF g = 8 from by rw [syF, if_neg hd, if_pos h0], show syG g = stG g from by rw [syG, if_neg hd, if_pos h0, stG, if_pos h0]]
      rw [show (!decide (g.left = 0)) = false from by simp [h0]] at hS
      clear h0 h hd
      go_enter Tryd.func10, Tryd.ntmps10
      go_wp2_with (go_at_call 23; refine hS.mono ?_; rintro e w2 ⟨rfl, h2, hb2⟩)
      go_ret
      exact ⟨rfl, h2, hb2⟩
    · rw [show syF g = 0 from by rw [syF, if_neg hd, if_neg h0], show syG g = { g with safe := g.by.length, left := less g.left } from by rw [syG, if_neg hd, if_neg h0]]
      rw [show (!decide (g.left = 0)) = true from by simp [h0], show stG g = { g with left := less g.left } from by rw [stG, if_neg h0]] at hS
      clear h0 h hd
      go_enter Tryd.func10, Tryd.ntmps10
      go_wp2_with (go_at_call 23; refine hS.mono ?_; rintro e w2 ⟨rfl, ⟨v1, v2, v3, h2⟩, hb2⟩; have d3 := h2.c3; have d4 := h2.c4; have f4 := h2.fz 4 (by decide); obtain ⟨p3, c3, e3⟩ := own_form h2.rr.bys; rw [e3] at d3)
      go_ret
      exact ⟨rfl, ⟨v1, v2, v3, h2.set4 (g.by.length : Nat)⟩, hb2.trans setB⟩
theorem refNew (room : Int) (w : World) : Calls Tryd.prog 7 #[.int .i64 room] w fun e w' => e = .returned (.pointer (some ⟨w.heap.size, 0, none⟩)) ∧ (∀ n0, n0 ≤ w.heap.size → RL w' n0 (fun j => j = w.heap.size) w.heap.size (lg0 room)) ∧ Below w.heap.size w w' ∧ w'.heap.size = w.heap.size + 1 := by
  go_enter Tryd.func7, Tryd.ntmps7
  go_wp2
  go_ret
  refine ⟨rfl, fun n0 hn => ⟨.slice none 0 0, .slice none 0 0, .slice none 0 0, rfl, hn, by simp [lg0], by simp, by simp, by simp, by simp [lg0], by simp [lg0], by simp [lg0], fun i hi => ?_, OwnL.nil _ _, World.ownsRow_nil _ _ _ _, World.ownsRow_nil _ _ _ _, ⟨fun j hj => (by cases hj), fun j hj => (by cases hj), fun j hj => (by cases hj)⟩⟩, below_al (below_self _) _, by simp⟩
  simp
end Go.Proofs.YtcmmjidheglmdaaDoor
