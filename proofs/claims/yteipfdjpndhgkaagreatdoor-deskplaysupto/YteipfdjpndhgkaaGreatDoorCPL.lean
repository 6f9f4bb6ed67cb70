/- The reference's log in memory, its lists in blocks of X that are written no more; the contracts of its step, Sync and NewLog. -/
import Derived.Test.YteipfdjpndhgkaaGreatDoorCML
import Derived.Test.YteipfdjpndhgkaaGreatDoorCPC
import Derived.Deep.RegionLaw
namespace Go.Proofs.YteipfdjpndhgkaaGreatDoor
open Go.RowKit Vs

/-- A row of lists, which lie in blocks of X. -/
def OwnQ (X : Nat → Prop) (w : World) (v : Value) (ls : List (List Chg)) : Prop := ∃ vs, w.ownsRow 0 88 1 v ls.length vs ∧ ∀ (i : Nat) (l : List Chg), ls[i]? = some l → ∃ u, vs[i]? = some u ∧ LsE w X u l
theorem OwnQ.nil (X : Nat → Prop) (w : World) : OwnQ X w (.slice none 0 0) [] := ⟨[], World.ownsRow_nil _ _ _ _, fun i l h => by simp at h⟩
theorem OwnQ.but {E : Nat → Prop} {X : Nat → Prop} {w w' : World} {v : Value} {ls : List (List Chg)} (h : OwnQ X w v ls) (hb : But E w w') (hv : ∀ j, v.ownBlock = some j → ¬ E j) (hn : ∀ j, X j → ¬ E j) : OwnQ X w' v ls := by
  obtain ⟨vs, h1, h2⟩ := h
  refine ⟨vs, row_but h1 hb hv, fun i l hl => ?_⟩
  obtain ⟨u, h3, h4⟩ := h2 i l hl
  exact ⟨u, h3, h4.but hb (fun j _ hj => hn j hj)⟩
theorem OwnQ.step {X : Nat → Prop} {w w' : World} {v : Value} {ls : List (List Chg)} (h : OwnQ X w v ls) (hb : Below w.heap.size w w') : OwnQ X w' v ls := h.but (E := fun _ => False) (.below hb) (fun _ _ => id) (fun _ _ => id)
theorem OwnQ.form {X : Nat → Prop} {w : World} {v : Value} {ls : List (List Chg)} (h : OwnQ X w v ls) : ∃ p c, v = .slice p ls.length c ∧ (ls.length ≤ c) ∧ c ≤ 9223372036854775807 := by
  obtain ⟨vs, h1, _⟩ := h
  rcases h1.2 with ⟨h2, h3⟩ | ⟨g, c, cur, h2, _, _, h3, h4, _⟩
  · exact ⟨none, 0, by rw [h2, h3], by omega, by decide⟩
  · exact ⟨_, c, h2, h3, h4⟩
theorem OwnQ.at {X : Nat → Prop} {w : World} {p : Option Addr} {c : Nat} {ls : List (List Chg)} (h : OwnQ X w (.slice p ls.length c) ls) : LsAt w (fun _ => True) p ls := by
  obtain ⟨vs, h1, h2⟩ := h
  intro hl
  rcases h1.2 with ⟨h3, h4⟩ | ⟨g, c', cur, h3, _, hg, _⟩
  · omega
  · cases h3
    refine ⟨g, 0, rfl, (Array.getElem?_eq_some_iff.1 hg).1, trivial, fun i l hx => ?_⟩
    obtain ⟨u, h5, h6⟩ := h2 i l hx
    have hi := (List.getElem?_eq_some_iff.1 hx).1
    exact ⟨u, by rw [Nat.zero_add, h1.cellAt i (by omega)]; exact h5, h6.mono (fun _ _ _ => trivial)⟩
theorem OwnQ.lt {X : Nat → Prop} {w : World} {v : Value} {ls : List (List Chg)} (h : OwnQ X w v ls) {j : Nat} (hj : v.ownBlock = some j) : 0 ≤ j ∧ j < w.heap.size := by
  obtain ⟨vs, h1, _⟩ := h
  have := h1.lt j hj
  rcases h1.2 with ⟨h2, _⟩ | ⟨g, c, cur, h2, hb, hg, _⟩
  · rw [h2] at hj; cases hj
  · rw [h2] at hj
    have : g = j := Option.some.inj hj
    subst this
    exact ⟨hb, (Array.getElem?_eq_some_iff.1 hg).1⟩
theorem OwnQ.take {X : Nat → Prop} {w : World} {p : Option Addr} {c : Nat} {ls : List (List Chg)} (h : OwnQ X w (.slice p ls.length c) ls) {k : Nat} (hk : k ≤ ls.length) : OwnQ X w (.slice p k c) (ls.take k) := by
  obtain ⟨vs, h1, h2⟩ := h
  have e : (ls.take k).length = k := by rw [List.length_take]; omega
  refine ⟨vs.take (k * 1), by rw [e]; exact own_trunc h1 hk, fun i l hx => ?_⟩
  rw [List.getElem?_take] at hx
  split at hx
  · rename_i c
    obtain ⟨u, h3, h4⟩ := h2 i l hx
    exact ⟨u, by rw [List.getElem?_take, if_pos (by omega)]; exact h3, h4⟩
  · cases hx
/-- One more. -/
theorem OwnQ.more {X : Nat → Prop} {w w' : World} {v v' u : Value} {ls : List (List Chg)} {vs : List Value} {l : List Chg} (h2 : ∀ (i : Nat) (l : List Chg), ls[i]? = some l → ∃ u, vs[i]? = some u ∧ LsE w X u l) (hlen : vs.length = ls.length) (hu : LsE w X u l)
    (hrow : w'.ownsRow 0 88 1 v' (ls.length + 1) (vs ++ [u])) (hb : But (fun j => v.ownBlock = some j) w w') (hE : ∀ j, X j → ¬ v.ownBlock = some j) : OwnQ X w' v' (ls ++ [l]) := by
  refine ⟨vs ++ [u], by simpa using hrow, fun i m hm => ?_⟩
  rw [List.getElem?_append] at hm
  split at hm
  · rename_i c
    obtain ⟨u', h3, h4⟩ := h2 i m hm
    exact ⟨u', by rw [List.getElem?_append, if_pos (by omega)]; exact h3, h4.but hb (fun j _ hj => hE j hj)⟩
  · rename_i c
    have : i - ls.length = 0 := by
      have := (List.getElem?_eq_some_iff.1 hm).1
      simp at this; omega
    rw [this] at hm
    simp at hm
    subst hm
    exact ⟨u, by rw [List.getElem?_append, if_neg (by omega), hlen, this]; rfl, hu.but hb (fun j _ hj => hE j hj)⟩
/-- Numbers as cells. -/
def inV (zs : List Int) : List Value := zs.map fun z => Value.int .i64 z
theorem inV_len (zs : List Int) : (inV zs).length = zs.length := by simp [inV]
theorem inV_app (a b : List Int) : inV (a ++ b) = inV a ++ inV b := by simp [inV]
theorem inV_at {zs : List Int} {i : Nat} {z : Int} (h : zs[i]? = some z) : (inV zs)[i]? = some (.int .i64 z) := by simp [inV, h]
/-- Three rows, no two of which are one, none in block B. -/
structure Sep3 (G : Nat → Prop) (B : Nat) (v1 v2 v3 : Value) : Prop where
  s1 : ∀ j, v1.ownBlock = some j → G j ∧ j ≠ B ∧ v2.ownBlock ≠ some j ∧ v3.ownBlock ≠ some j
  s2 : ∀ j, v2.ownBlock = some j → G j ∧ j ≠ B ∧ v1.ownBlock ≠ some j ∧ v3.ownBlock ≠ some j
  s3 : ∀ j, v3.ownBlock = some j → G j ∧ j ≠ B ∧ v1.ownBlock ≠ some j ∧ v2.ownBlock ≠ some j
/-- Its rows. -/
structure RR (w : World) (X : Nat → Prop) (G : Nat → Prop) (B : Nat) (v1 v2 v3 : Value) (ls : List (List Chg)) (es : List Int) (bs : List UInt8) : Prop where
  li : OwnQ X w v1 ls
  en : w.ownsRow 0 3 1 v2 es.length (inV es)
  bys : w.ownsRow 0 5 1 v3 bs.length (byV bs)
  sep : Sep3 G B v1 v2 v3
theorem RR.but {E G : Nat → Prop} {w w' : World} {X : Nat → Prop} {B : Nat} {v1 v2 v3 : Value} {ls : List (List Chg)} {es : List Int} {bs : List UInt8} (h : RR w X G B v1 v2 v3 ls es bs) (hb : But E w w') (hE : ∀ j, G j → j ≠ B → ¬ E j) (hn : ∀ j, X j → ¬ E j) : RR w' X G B v1 v2 v3 ls es bs :=
  ⟨h.li.but hb (fun j hj => hE j (h.sep.s1 j hj).1 (h.sep.s1 j hj).2.1) hn, row_but h.en hb (fun j hj => hE j (h.sep.s2 j hj).1 (h.sep.s2 j hj).2.1), row_but h.bys hb (fun j hj => hE j (h.sep.s3 j hj).1 (h.sep.s3 j hj).2.1), h.sep⟩
/-- The reference's log, in block B, field by field. -/
structure RX (w : World) (X : Nat → Prop) (G : Nat → Prop) (B : Nat) (room safe left : Int) (down : Bool) (v1 v2 v3 : Value) (ls : List (List Chg)) (es : List Int) (bs : List UInt8) : Prop where
  gB : G B
  nB : ∀ j, X j → ¬ G j ∧ j < w.heap.size
  c0 : w.cell? ⟨B, 0, none⟩ = some (.int .i64 room)
  c1 : w.cell? ⟨B, 1, none⟩ = some v1
  c2 : w.cell? ⟨B, 2, none⟩ = some v2
  c3 : w.cell? ⟨B, 3, none⟩ = some v3
  c4 : w.cell? ⟨B, 4, none⟩ = some (.int .i64 safe)
  c5 : w.cell? ⟨B, 5, none⟩ = some (.int .i64 left)
  c6 : w.cell? ⟨B, 6, none⟩ = some (.bool down)
  fz : ∀ i, i < 7 → w.frozen? ⟨B, i, none⟩ = false
  rr : RR w X G B v1 v2 v3 ls es bs
theorem RX.lt {w : World} {X : Nat → Prop} {G : Nat → Prop} {B : Nat} {room safe left : Int} {down : Bool} {v1 v2 v3 : Value} {ls : List (List Chg)} {es : List Int} {bs : List UInt8} (h : RX w X G B room safe left down v1 v2 v3 ls es bs) : B < w.heap.size := World.block_lt_of_cell? _ _ h.c0
theorem RX.but {E G : Nat → Prop} {w w' : World} {X : Nat → Prop} {B : Nat} {room safe left : Int} {down : Bool} {v1 v2 v3 : Value} {ls : List (List Chg)} {es : List Int} {bs : List UInt8} (h : RX w X G B room safe left down v1 v2 v3 ls es bs) (hb : But E w w') (hE : ∀ j, G j → ¬ E j) (hn : ∀ j, X j → ¬ E j) : RX w' X G B room safe left down v1 v2 v3 ls es bs := by
  have hB := hE B h.gB
  exact ⟨h.gB, fun j hj => ⟨(h.nB j hj).1, Nat.lt_of_lt_of_le (h.nB j hj).2 hb.size⟩, (hb.cell (p := ⟨B, 0, none⟩) h.lt hB).trans h.c0, (hb.cell (p := ⟨B, 1, none⟩) h.lt hB).trans h.c1, (hb.cell (p := ⟨B, 2, none⟩) h.lt hB).trans h.c2, (hb.cell (p := ⟨B, 3, none⟩) h.lt hB).trans h.c3, (hb.cell (p := ⟨B, 4, none⟩) h.lt hB).trans h.c4, (hb.cell (p := ⟨B, 5, none⟩) h.lt hB).trans h.c5, (hb.cell (p := ⟨B, 6, none⟩) h.lt hB).trans h.c6,
    fun i hi => (hb.frozen (p := ⟨B, i, none⟩) h.lt hB).trans (h.fz i hi), h.rr.but hb (fun j hj _ => hE j hj) hn⟩
theorem RX.step {G : Nat → Prop} {w w' : World} {X : Nat → Prop} {B : Nat} {room safe left : Int} {down : Bool} {v1 v2 v3 : Value} {ls : List (List Chg)} {es : List Int} {bs : List UInt8} (h : RX w X G B room safe left down v1 v2 v3 ls es bs) (hb : Below w.heap.size w w') : RX w' X G B room safe left down v1 v2 v3 ls es bs := h.but (E := fun _ => False) (.below hb) (fun _ _ => id) (fun _ _ => id)
theorem RX.mono {G H : Nat → Prop} {w : World} {X : Nat → Prop} {B : Nat} {room safe left : Int} {down : Bool} {v1 v2 v3 : Value} {ls : List (List Chg)} {es : List Int} {bs : List UInt8} (h : RX w X G B room safe left down v1 v2 v3 ls es bs) (hH : ∀ j, G j → H j) (hX : ∀ j, X j → ¬ H j) : RX w X H B room safe left down v1 v2 v3 ls es bs :=
  ⟨hH B h.gB, fun j hj => ⟨hX j hj, (h.nB j hj).2⟩, h.c0, h.c1, h.c2, h.c3, h.c4, h.c5, h.c6, h.fz, h.rr.li, h.rr.en, h.rr.bys, ⟨fun j hj => ⟨hH j (h.rr.sep.s1 j hj).1, (h.rr.sep.s1 j hj).2⟩, fun j hj => ⟨hH j (h.rr.sep.s2 j hj).1, (h.rr.sep.s2 j hj).2⟩, fun j hj => ⟨hH j (h.rr.sep.s3 j hj).1, (h.rr.sep.s3 j hj).2⟩⟩⟩
/-- One of its fields is set. -/
theorem RX.set1 {G : Nat → Prop} {w : World} {X : Nat → Prop} {B : Nat} {room safe left : Int} {down : Bool} {v1 v2 v3 : Value} {ls : List (List Chg)} {es : List Int} {bs : List UInt8} (h : RX w X G B room safe left down v1 v2 v3 ls es bs) {u : Value} {ls' : List (List Chg)} (rr' : RR w X G B u v2 v3 ls' es bs) : RX (w.setCell ⟨B, 1, none⟩ u) X G B room safe left down u v2 v3 ls' es bs := by
  have hb : But (fun k => k = B) w (w.setCell ⟨B, 1, none⟩ u) := (But.refl (fun k => k = B) w).setCell (p := ⟨B, 1, none⟩) (.inl rfl) _
  obtain ⟨gB, nB, c0, c1, c2, c3, c4, c5, c6, fz, rr⟩ := h
  have f0 := fz 0 (by decide); have f1 := fz 1 (by decide); have f2 := fz 2 (by decide); have f3 := fz 3 (by decide); have f4 := fz 4 (by decide); have f5 := fz 5 (by decide); have f6 := fz 6 (by decide)
  refine ⟨gB, fun j hj => ⟨(nB j hj).1, Nat.lt_of_lt_of_le (nB j hj).2 hb.size⟩, by go_simp, by go_simp, by go_simp, by go_simp, by go_simp, by go_simp, by go_simp, fun i hi => ?_, rr'.but hb (fun j _ hj => hj) (fun j hj e => (nB j hj).1 (e ▸ gB))⟩
  match i, hi with
  | 0, _ => go_simp
  | 1, _ => go_simp
  | 2, _ => go_simp
  | 3, _ => go_simp
  | 4, _ => go_simp
  | 5, _ => go_simp
  | 6, _ => go_simp
theorem RX.set2 {G : Nat → Prop} {w : World} {X : Nat → Prop} {B : Nat} {room safe left : Int} {down : Bool} {v1 v2 v3 : Value} {ls : List (List Chg)} {es : List Int} {bs : List UInt8} (h : RX w X G B room safe left down v1 v2 v3 ls es bs) {u : Value} {es' : List Int} (rr' : RR w X G B v1 u v3 ls es' bs) : RX (w.setCell ⟨B, 2, none⟩ u) X G B room safe left down v1 u v3 ls es' bs := by
  have hb : But (fun k => k = B) w (w.setCell ⟨B, 2, none⟩ u) := (But.refl (fun k => k = B) w).setCell (p := ⟨B, 2, none⟩) (.inl rfl) _
  obtain ⟨gB, nB, c0, c1, c2, c3, c4, c5, c6, fz, rr⟩ := h
  have f0 := fz 0 (by decide); have f1 := fz 1 (by decide); have f2 := fz 2 (by decide); have f3 := fz 3 (by decide); have f4 := fz 4 (by decide); have f5 := fz 5 (by decide); have f6 := fz 6 (by decide)
  refine ⟨gB, fun j hj => ⟨(nB j hj).1, Nat.lt_of_lt_of_le (nB j hj).2 hb.size⟩, by go_simp, by go_simp, by go_simp, by go_simp, by go_simp, by go_simp, by go_simp, fun i hi => ?_, rr'.but hb (fun j _ hj => hj) (fun j hj e => (nB j hj).1 (e ▸ gB))⟩
  match i, hi with
  | 0, _ => go_simp
  | 1, _ => go_simp
  | 2, _ => go_simp
  | 3, _ => go_simp
  | 4, _ => go_simp
  | 5, _ => go_simp
  | 6, _ => go_simp
theorem RX.set3 {G : Nat → Prop} {w : World} {X : Nat → Prop} {B : Nat} {room safe left : Int} {down : Bool} {v1 v2 v3 : Value} {ls : List (List Chg)} {es : List Int} {bs : List UInt8} (h : RX w X G B room safe left down v1 v2 v3 ls es bs) {u : Value} {bs' : List UInt8} (rr' : RR w X G B v1 v2 u ls es bs') : RX (w.setCell ⟨B, 3, none⟩ u) X G B room safe left down v1 v2 u ls es bs' := by
  have hb : But (fun k => k = B) w (w.setCell ⟨B, 3, none⟩ u) := (But.refl (fun k => k = B) w).setCell (p := ⟨B, 3, none⟩) (.inl rfl) _
  obtain ⟨gB, nB, c0, c1, c2, c3, c4, c5, c6, fz, rr⟩ := h
  have f0 := fz 0 (by decide); have f1 := fz 1 (by decide); have f2 := fz 2 (by decide); have f3 := fz 3 (by decide); have f4 := fz 4 (by decide); have f5 := fz 5 (by decide); have f6 := fz 6 (by decide)
  refine ⟨gB, fun j hj => ⟨(nB j hj).1, Nat.lt_of_lt_of_le (nB j hj).2 hb.size⟩, by go_simp, by go_simp, by go_simp, by go_simp, by go_simp, by go_simp, by go_simp, fun i hi => ?_, rr'.but hb (fun j _ hj => hj) (fun j hj e => (nB j hj).1 (e ▸ gB))⟩
  match i, hi with
  | 0, _ => go_simp
  | 1, _ => go_simp
  | 2, _ => go_simp
  | 3, _ => go_simp
  | 4, _ => go_simp
  | 5, _ => go_simp
  | 6, _ => go_simp
theorem RX.set4 {G : Nat → Prop} {w : World} {X : Nat → Prop} {B : Nat} {room safe left : Int} {down : Bool} {v1 v2 v3 : Value} {ls : List (List Chg)} {es : List Int} {bs : List UInt8} (h : RX w X G B room safe left down v1 v2 v3 ls es bs) (n : Int) : RX (w.setCell ⟨B, 4, none⟩ (.int .i64 n)) X G B room n left down v1 v2 v3 ls es bs := by
  have hb : But (fun k => k = B) w (w.setCell ⟨B, 4, none⟩ (.int .i64 n)) := (But.refl (fun k => k = B) w).setCell (p := ⟨B, 4, none⟩) (.inl rfl) _
  obtain ⟨gB, nB, c0, c1, c2, c3, c4, c5, c6, fz, rr⟩ := h
  have f0 := fz 0 (by decide); have f1 := fz 1 (by decide); have f2 := fz 2 (by decide); have f3 := fz 3 (by decide); have f4 := fz 4 (by decide); have f5 := fz 5 (by decide); have f6 := fz 6 (by decide)
  refine ⟨gB, fun j hj => ⟨(nB j hj).1, Nat.lt_of_lt_of_le (nB j hj).2 hb.size⟩, by go_simp, by go_simp, by go_simp, by go_simp, by go_simp, by go_simp, by go_simp, fun i hi => ?_, rr.but hb (fun j _ hj => hj) (fun j hj e => (nB j hj).1 (e ▸ gB))⟩
  match i, hi with
  | 0, _ => go_simp
  | 1, _ => go_simp
  | 2, _ => go_simp
  | 3, _ => go_simp
  | 4, _ => go_simp
  | 5, _ => go_simp
  | 6, _ => go_simp
theorem RX.set5 {G : Nat → Prop} {w : World} {X : Nat → Prop} {B : Nat} {room safe left : Int} {down : Bool} {v1 v2 v3 : Value} {ls : List (List Chg)} {es : List Int} {bs : List UInt8} (h : RX w X G B room safe left down v1 v2 v3 ls es bs) (n : Int) : RX (w.setCell ⟨B, 5, none⟩ (.int .i64 n)) X G B room safe n down v1 v2 v3 ls es bs := by
  have hb : But (fun k => k = B) w (w.setCell ⟨B, 5, none⟩ (.int .i64 n)) := (But.refl (fun k => k = B) w).setCell (p := ⟨B, 5, none⟩) (.inl rfl) _
  obtain ⟨gB, nB, c0, c1, c2, c3, c4, c5, c6, fz, rr⟩ := h
  have f0 := fz 0 (by decide); have f1 := fz 1 (by decide); have f2 := fz 2 (by decide); have f3 := fz 3 (by decide); have f4 := fz 4 (by decide); have f5 := fz 5 (by decide); have f6 := fz 6 (by decide)
  refine ⟨gB, fun j hj => ⟨(nB j hj).1, Nat.lt_of_lt_of_le (nB j hj).2 hb.size⟩, by go_simp, by go_simp, by go_simp, by go_simp, by go_simp, by go_simp, by go_simp, fun i hi => ?_, rr.but hb (fun j _ hj => hj) (fun j hj e => (nB j hj).1 (e ▸ gB))⟩
  match i, hi with
  | 0, _ => go_simp
  | 1, _ => go_simp
  | 2, _ => go_simp
  | 3, _ => go_simp
  | 4, _ => go_simp
  | 5, _ => go_simp
  | 6, _ => go_simp
theorem RX.set6 {G : Nat → Prop} {w : World} {X : Nat → Prop} {B : Nat} {room safe left : Int} {down : Bool} {v1 v2 v3 : Value} {ls : List (List Chg)} {es : List Int} {bs : List UInt8} (h : RX w X G B room safe left down v1 v2 v3 ls es bs) (b : Bool) : RX (w.setCell ⟨B, 6, none⟩ (.bool b)) X G B room safe left b v1 v2 v3 ls es bs := by
  have hb : But (fun k => k = B) w (w.setCell ⟨B, 6, none⟩ (.bool b)) := (But.refl (fun k => k = B) w).setCell (p := ⟨B, 6, none⟩) (.inl rfl) _
  obtain ⟨gB, nB, c0, c1, c2, c3, c4, c5, c6, fz, rr⟩ := h
  have f0 := fz 0 (by decide); have f1 := fz 1 (by decide); have f2 := fz 2 (by decide); have f3 := fz 3 (by decide); have f4 := fz 4 (by decide); have f5 := fz 5 (by decide); have f6 := fz 6 (by decide)
  refine ⟨gB, fun j hj => ⟨(nB j hj).1, Nat.lt_of_lt_of_le (nB j hj).2 hb.size⟩, by go_simp, by go_simp, by go_simp, by go_simp, by go_simp, by go_simp, by go_simp, fun i hi => ?_, rr.but hb (fun j _ hj => hj) (fun j hj e => (nB j hj).1 (e ▸ gB))⟩
  match i, hi with
  | 0, _ => go_simp
  | 1, _ => go_simp
  | 2, _ => go_simp
  | 3, _ => go_simp
  | 4, _ => go_simp
  | 5, _ => go_simp
  | 6, _ => go_simp
theorem row_lt {B0 e size n : Nat} {w : World} {v : Value} {xs : List Value} (h : w.ownsRow B0 e size v n xs) {j : Nat} (hj : v.ownBlock = some j) : B0 ≤ j ∧ j < w.heap.size := by
  rcases h.2 with ⟨h2, _⟩ | ⟨g, c, cur, h2, hb, hg, _⟩
  · rw [h2] at hj; cases hj
  · rw [h2] at hj
    have : g = j := Option.some.inj hj
    subst this
    exact ⟨hb, (Array.getElem?_eq_some_iff.1 hg).1⟩
/-- A row has grown, and is set anew. -/
theorem RX.put1 {G : Nat → Prop} {w w5 : World} {X : Nat → Prop} {B : Nat} {room safe left : Int} {down : Bool} {v1 v2 v3 u : Value} {ls : List (List Chg)} {es : List Int} {bs : List UInt8} {ls' : List (List Chg)} (x : RX w X G B room safe left down v1 v2 v3 ls es bs) (hb : But (fun j => v1.ownBlock = some j) w w5) (own : OwnQ X w5 u ls') (hat : u.ownBlock = v1.ownBlock ∨ u.ownBlock = some w.heap.size) :
    RX (w5.setCell ⟨B, 1, none⟩ u) X (Nw G w w5) B room safe left down u v2 v3 ls' es bs := by
  have hlt := x.lt
  have hB : ¬ v1.ownBlock = some B := fun e => (x.rr.sep.s1 B e).2.1 rfl
  have hlow : ∀ j, X j → ¬ v1.ownBlock = some j := fun j hj e => (x.nB j hj).1 (x.rr.sep.s1 j e).1
  have hu : ∀ j, u.ownBlock = some j → Nw G w w5 j := fun j hj => by
    rcases hat with e | e
    · exact .inl (x.rr.sep.s1 j (e.symm.trans hj)).1
    · have e2 : w.heap.size = j := Option.some.inj (e.symm.trans hj)
      exact .inr ⟨by omega, ((fun j hj => own.lt hj) j hj).2⟩
  have huB : ∀ j, u.ownBlock = some j → j ≠ B := fun j hj => by
    rcases hat with e | e
    · exact (x.rr.sep.s1 j (e.symm.trans hj)).2.1
    · have e2 : w.heap.size = j := Option.some.inj (e.symm.trans hj)
      omega
  have hu2 : ∀ j, u.ownBlock = some j → v2.ownBlock ≠ some j := fun j hj e' => by
    rcases hat with e | e
    · exact (x.rr.sep.s1 j (e.symm.trans hj)).2.2.1 e'
    · have e2 : w.heap.size = j := Option.some.inj (e.symm.trans hj)
      have := ((fun j hj => row_lt x.rr.en hj) j e').2; omega
  have hu3 : ∀ j, u.ownBlock = some j → v3.ownBlock ≠ some j := fun j hj e' => by
    rcases hat with e | e
    · exact (x.rr.sep.s1 j (e.symm.trans hj)).2.2.2 e'
    · have e2 : w.heap.size = j := Option.some.inj (e.symm.trans hj)
      have := ((fun j hj => row_lt x.rr.bys hj) j e').2; omega
  obtain ⟨gB, nB, c0, c1, c2, c3, c4, c5, c6, fz, rr⟩ := x
  have d0 := (hb.cell (p := ⟨B, 0, none⟩) hlt hB).trans c0
  have d1 := (hb.cell (p := ⟨B, 1, none⟩) hlt hB).trans c1
  have d2 := (hb.cell (p := ⟨B, 2, none⟩) hlt hB).trans c2
  have d3 := (hb.cell (p := ⟨B, 3, none⟩) hlt hB).trans c3
  have d4 := (hb.cell (p := ⟨B, 4, none⟩) hlt hB).trans c4
  have d5 := (hb.cell (p := ⟨B, 5, none⟩) hlt hB).trans c5
  have d6 := (hb.cell (p := ⟨B, 6, none⟩) hlt hB).trans c6
  have fy : ∀ i, i < 7 → w5.frozen? ⟨B, i, none⟩ = false := fun i hi => (hb.frozen (p := ⟨B, i, none⟩) hlt hB).trans (fz i hi)
  have hb2 : But (fun k => k = B) w5 (w5.setCell ⟨B, 1, none⟩ u) := (But.refl (fun k => k = B) w5).setCell (p := ⟨B, 1, none⟩) (.inl rfl) _
  have f0 := fy 0 (by decide); have f1 := fy 1 (by decide); have f2 := fy 2 (by decide); have f3 := fy 3 (by decide); have f4 := fy 4 (by decide); have f5 := fy 5 (by decide); have f6 := fy 6 (by decide)
  have rr5 : RR w5 X (Nw G w w5) B u v2 v3 ls' es bs := ⟨own, (row_but rr.en hb (fun j hj e => (rr.sep.s2 j hj).2.2.1 e)), (row_but rr.bys hb (fun j hj e => (rr.sep.s3 j hj).2.2.1 e)), ⟨fun j hj => ⟨hu j hj, huB j hj, hu2 j hj, hu3 j hj⟩, fun j hj => ⟨.inl (rr.sep.s2 j hj).1, (rr.sep.s2 j hj).2.1, fun e => hu2 j e hj, (rr.sep.s2 j hj).2.2.2⟩, fun j hj => ⟨.inl (rr.sep.s3 j hj).1, (rr.sep.s3 j hj).2.1, fun e => hu3 j e hj, (rr.sep.s3 j hj).2.2.2⟩⟩⟩
  refine ⟨.inl gB, fun j hj => ⟨fun g => g.elim (nB j hj).1 (fun g => by have := (nB j hj).2; have := g.1; omega), Nat.lt_of_lt_of_le (nB j hj).2 (Nat.le_trans hb.size hb2.size)⟩, by go_simp, by go_simp, by go_simp, by go_simp, by go_simp, by go_simp, by go_simp, fun i hi => ?_, rr5.but hb2 (fun j _ hj => hj) (fun j hj e => (nB j hj).1 (e ▸ gB))⟩
  match i, hi with
  | 0, _ => go_simp
  | 1, _ => go_simp
  | 2, _ => go_simp
  | 3, _ => go_simp
  | 4, _ => go_simp
  | 5, _ => go_simp
  | 6, _ => go_simp
theorem RX.put2 {G : Nat → Prop} {w w5 : World} {X : Nat → Prop} {B : Nat} {room safe left : Int} {down : Bool} {v1 v2 v3 u : Value} {ls : List (List Chg)} {es : List Int} {bs : List UInt8} {es' : List Int} (x : RX w X G B room safe left down v1 v2 v3 ls es bs) (hb : But (fun j => v2.ownBlock = some j) w w5) (own : w5.ownsRow 0 3 1 u es'.length (inV es')) (hat : u.ownBlock = v2.ownBlock ∨ u.ownBlock = some w.heap.size) :
    RX (w5.setCell ⟨B, 2, none⟩ u) X (Nw G w w5) B room safe left down v1 u v3 ls es' bs := by
  have hlt := x.lt
  have hB : ¬ v2.ownBlock = some B := fun e => (x.rr.sep.s2 B e).2.1 rfl
  have hlow : ∀ j, X j → ¬ v2.ownBlock = some j := fun j hj e => (x.nB j hj).1 (x.rr.sep.s2 j e).1
  have hu : ∀ j, u.ownBlock = some j → Nw G w w5 j := fun j hj => by
    rcases hat with e | e
    · exact .inl (x.rr.sep.s2 j (e.symm.trans hj)).1
    · have e2 : w.heap.size = j := Option.some.inj (e.symm.trans hj)
      exact .inr ⟨by omega, ((fun j hj => row_lt own hj) j hj).2⟩
  have huB : ∀ j, u.ownBlock = some j → j ≠ B := fun j hj => by
    rcases hat with e | e
    · exact (x.rr.sep.s2 j (e.symm.trans hj)).2.1
    · have e2 : w.heap.size = j := Option.some.inj (e.symm.trans hj)
      omega
  have hu1 : ∀ j, u.ownBlock = some j → v1.ownBlock ≠ some j := fun j hj e' => by
    rcases hat with e | e
    · exact (x.rr.sep.s2 j (e.symm.trans hj)).2.2.1 e'
    · have e2 : w.heap.size = j := Option.some.inj (e.symm.trans hj)
      have := ((fun j hj => (x.rr.li.lt hj)) j e').2; omega
  have hu3 : ∀ j, u.ownBlock = some j → v3.ownBlock ≠ some j := fun j hj e' => by
    rcases hat with e | e
    · exact (x.rr.sep.s2 j (e.symm.trans hj)).2.2.2 e'
    · have e2 : w.heap.size = j := Option.some.inj (e.symm.trans hj)
      have := ((fun j hj => row_lt x.rr.bys hj) j e').2; omega
  obtain ⟨gB, nB, c0, c1, c2, c3, c4, c5, c6, fz, rr⟩ := x
  have d0 := (hb.cell (p := ⟨B, 0, none⟩) hlt hB).trans c0
  have d1 := (hb.cell (p := ⟨B, 1, none⟩) hlt hB).trans c1
  have d2 := (hb.cell (p := ⟨B, 2, none⟩) hlt hB).trans c2
  have d3 := (hb.cell (p := ⟨B, 3, none⟩) hlt hB).trans c3
  have d4 := (hb.cell (p := ⟨B, 4, none⟩) hlt hB).trans c4
  have d5 := (hb.cell (p := ⟨B, 5, none⟩) hlt hB).trans c5
  have d6 := (hb.cell (p := ⟨B, 6, none⟩) hlt hB).trans c6
  have fy : ∀ i, i < 7 → w5.frozen? ⟨B, i, none⟩ = false := fun i hi => (hb.frozen (p := ⟨B, i, none⟩) hlt hB).trans (fz i hi)
  have hb2 : But (fun k => k = B) w5 (w5.setCell ⟨B, 2, none⟩ u) := (But.refl (fun k => k = B) w5).setCell (p := ⟨B, 2, none⟩) (.inl rfl) _
  have f0 := fy 0 (by decide); have f1 := fy 1 (by decide); have f2 := fy 2 (by decide); have f3 := fy 3 (by decide); have f4 := fy 4 (by decide); have f5 := fy 5 (by decide); have f6 := fy 6 (by decide)
  have rr5 : RR w5 X (Nw G w w5) B v1 u v3 ls es' bs := ⟨(rr.li.but hb (fun j hj e => (rr.sep.s1 j hj).2.2.1 e) hlow), own, (row_but rr.bys hb (fun j hj e => (rr.sep.s3 j hj).2.2.2 e)), ⟨fun j hj => ⟨.inl (rr.sep.s1 j hj).1, (rr.sep.s1 j hj).2.1, fun e => hu1 j e hj, (rr.sep.s1 j hj).2.2.2⟩, fun j hj => ⟨hu j hj, huB j hj, hu1 j hj, hu3 j hj⟩, fun j hj => ⟨.inl (rr.sep.s3 j hj).1, (rr.sep.s3 j hj).2.1, (rr.sep.s3 j hj).2.2.1, fun e => hu3 j e hj⟩⟩⟩
  refine ⟨.inl gB, fun j hj => ⟨fun g => g.elim (nB j hj).1 (fun g => by have := (nB j hj).2; have := g.1; omega), Nat.lt_of_lt_of_le (nB j hj).2 (Nat.le_trans hb.size hb2.size)⟩, by go_simp, by go_simp, by go_simp, by go_simp, by go_simp, by go_simp, by go_simp, fun i hi => ?_, rr5.but hb2 (fun j _ hj => hj) (fun j hj e => (nB j hj).1 (e ▸ gB))⟩
  match i, hi with
  | 0, _ => go_simp
  | 1, _ => go_simp
  | 2, _ => go_simp
  | 3, _ => go_simp
  | 4, _ => go_simp
  | 5, _ => go_simp
  | 6, _ => go_simp
theorem RX.put3 {G : Nat → Prop} {w w5 : World} {X : Nat → Prop} {B : Nat} {room safe left : Int} {down : Bool} {v1 v2 v3 u : Value} {ls : List (List Chg)} {es : List Int} {bs : List UInt8} {bs' : List UInt8} (x : RX w X G B room safe left down v1 v2 v3 ls es bs) (hb : But (fun j => v3.ownBlock = some j) w w5) (own : w5.ownsRow 0 5 1 u bs'.length (byV bs')) (hat : u.ownBlock = v3.ownBlock ∨ u.ownBlock = some w.heap.size) :
    RX (w5.setCell ⟨B, 3, none⟩ u) X (Nw G w w5) B room safe left down v1 v2 u ls es bs' := by
  have hlt := x.lt
  have hB : ¬ v3.ownBlock = some B := fun e => (x.rr.sep.s3 B e).2.1 rfl
  have hlow : ∀ j, X j → ¬ v3.ownBlock = some j := fun j hj e => (x.nB j hj).1 (x.rr.sep.s3 j e).1
  have hu : ∀ j, u.ownBlock = some j → Nw G w w5 j := fun j hj => by
    rcases hat with e | e
    · exact .inl (x.rr.sep.s3 j (e.symm.trans hj)).1
    · have e2 : w.heap.size = j := Option.some.inj (e.symm.trans hj)
      exact .inr ⟨by omega, ((fun j hj => row_lt own hj) j hj).2⟩
  have huB : ∀ j, u.ownBlock = some j → j ≠ B := fun j hj => by
    rcases hat with e | e
    · exact (x.rr.sep.s3 j (e.symm.trans hj)).2.1
    · have e2 : w.heap.size = j := Option.some.inj (e.symm.trans hj)
      omega
  have hu1 : ∀ j, u.ownBlock = some j → v1.ownBlock ≠ some j := fun j hj e' => by
    rcases hat with e | e
    · exact (x.rr.sep.s3 j (e.symm.trans hj)).2.2.1 e'
    · have e2 : w.heap.size = j := Option.some.inj (e.symm.trans hj)
      have := ((fun j hj => (x.rr.li.lt hj)) j e').2; omega
  have hu2 : ∀ j, u.ownBlock = some j → v2.ownBlock ≠ some j := fun j hj e' => by
    rcases hat with e | e
    · exact (x.rr.sep.s3 j (e.symm.trans hj)).2.2.2 e'
    · have e2 : w.heap.size = j := Option.some.inj (e.symm.trans hj)
      have := ((fun j hj => row_lt x.rr.en hj) j e').2; omega
  obtain ⟨gB, nB, c0, c1, c2, c3, c4, c5, c6, fz, rr⟩ := x
  have d0 := (hb.cell (p := ⟨B, 0, none⟩) hlt hB).trans c0
  have d1 := (hb.cell (p := ⟨B, 1, none⟩) hlt hB).trans c1
  have d2 := (hb.cell (p := ⟨B, 2, none⟩) hlt hB).trans c2
  have d3 := (hb.cell (p := ⟨B, 3, none⟩) hlt hB).trans c3
  have d4 := (hb.cell (p := ⟨B, 4, none⟩) hlt hB).trans c4
  have d5 := (hb.cell (p := ⟨B, 5, none⟩) hlt hB).trans c5
  have d6 := (hb.cell (p := ⟨B, 6, none⟩) hlt hB).trans c6
  have fy : ∀ i, i < 7 → w5.frozen? ⟨B, i, none⟩ = false := fun i hi => (hb.frozen (p := ⟨B, i, none⟩) hlt hB).trans (fz i hi)
  have hb2 : But (fun k => k = B) w5 (w5.setCell ⟨B, 3, none⟩ u) := (But.refl (fun k => k = B) w5).setCell (p := ⟨B, 3, none⟩) (.inl rfl) _
  have f0 := fy 0 (by decide); have f1 := fy 1 (by decide); have f2 := fy 2 (by decide); have f3 := fy 3 (by decide); have f4 := fy 4 (by decide); have f5 := fy 5 (by decide); have f6 := fy 6 (by decide)
  have rr5 : RR w5 X (Nw G w w5) B v1 v2 u ls es bs' := ⟨(rr.li.but hb (fun j hj e => (rr.sep.s1 j hj).2.2.2 e) hlow), (row_but rr.en hb (fun j hj e => (rr.sep.s2 j hj).2.2.2 e)), own, ⟨fun j hj => ⟨.inl (rr.sep.s1 j hj).1, (rr.sep.s1 j hj).2.1, (rr.sep.s1 j hj).2.2.1, fun e => hu1 j e hj⟩, fun j hj => ⟨.inl (rr.sep.s2 j hj).1, (rr.sep.s2 j hj).2.1, (rr.sep.s2 j hj).2.2.1, fun e => hu2 j e hj⟩, fun j hj => ⟨hu j hj, huB j hj, hu1 j hj, hu2 j hj⟩⟩⟩
  refine ⟨.inl gB, fun j hj => ⟨fun g => g.elim (nB j hj).1 (fun g => by have := (nB j hj).2; have := g.1; omega), Nat.lt_of_lt_of_le (nB j hj).2 (Nat.le_trans hb.size hb2.size)⟩, by go_simp, by go_simp, by go_simp, by go_simp, by go_simp, by go_simp, by go_simp, fun i hi => ?_, rr5.but hb2 (fun j _ hj => hj) (fun j hj e => (nB j hj).1 (e ▸ gB))⟩
  match i, hi with
  | 0, _ => go_simp
  | 1, _ => go_simp
  | 2, _ => go_simp
  | 3, _ => go_simp
  | 4, _ => go_simp
  | 5, _ => go_simp
  | 6, _ => go_simp
/-- The reference's log. -/
def RL (w : World) (X : Nat → Prop) (G : Nat → Prop) (B : Nat) (g : Lg) : Prop := ∃ v1 v2 v3, RX w X G B g.room g.safe g.left g.down v1 v2 v3 g.ls (ends 0 g.ls) g.by
theorem RL.gB {w : World} {X : Nat → Prop} {G : Nat → Prop} {B : Nat} {g : Lg} (h : RL w X G B g) : G B := by
  obtain ⟨v1, v2, v3, h⟩ := h
  exact h.gB
theorem RL.but {E G : Nat → Prop} {w w' : World} {X : Nat → Prop} {B : Nat} {g : Lg} (h : RL w X G B g) (hb : But E w w') (hE : ∀ j, G j → ¬ E j) (hn : ∀ j, X j → ¬ E j) : RL w' X G B g := by
  obtain ⟨v1, v2, v3, h⟩ := h
  exact ⟨v1, v2, v3, h.but hb hE hn⟩
theorem RL.step {G : Nat → Prop} {w w' : World} {X : Nat → Prop} {B : Nat} {g : Lg} (h : RL w X G B g) (hb : Below w.heap.size w w') : RL w' X G B g := h.but (E := fun _ => False) (.below hb) (fun _ _ => id) (fun _ _ => id)
theorem RL.mono {G H : Nat → Prop} {w : World} {X : Nat → Prop} {B : Nat} {g : Lg} (h : RL w X G B g) (hH : ∀ j, G j → H j) (hX : ∀ j, X j → ¬ H j) : RL w X H B g := by
  obtain ⟨v1, v2, v3, h⟩ := h
  exact ⟨v1, v2, v3, h.mono hH hX⟩
theorem OwnQ.mono {X Y : Nat → Prop} {w : World} {v : Value} {ls : List (List Chg)} (h : OwnQ X w v ls) (hX : ∀ j, X j → Y j) : OwnQ Y w v ls := by
  obtain ⟨vs, h1, h2⟩ := h
  refine ⟨vs, h1, fun i l hl => ?_⟩
  obtain ⟨u, h3, h4⟩ := h2 i l hl
  exact ⟨u, h3, h4.mono (fun j _ hj => hX j hj)⟩
theorem RL.nX {G X : Nat → Prop} {w : World} {B : Nat} {g : Lg} (h : RL w X G B g) : ∀ j, X j → ¬ G j ∧ j < w.heap.size := by
  obtain ⟨v1, v2, v3, h⟩ := h
  exact h.nB
theorem nw_no {G X : Nat → Prop} {w w' : World} (h : ∀ j, X j → ¬ G j ∧ j < w.heap.size) : ∀ j, X j → ¬ Nw G w w' j := fun j hj g => g.elim (h j hj).1 (fun g => by have := (h j hj).2; have := g.1; omega)
/-- Lists may lie in more blocks. -/
theorem RL.more {G X Y : Nat → Prop} {w : World} {B : Nat} {g : Lg} (h : RL w X G B g) (hX : ∀ j, X j → Y j) (hY : ∀ j, Y j → ¬ G j ∧ j < w.heap.size) : RL w Y G B g := by
  obtain ⟨v1, v2, v3, h⟩ := h
  exact ⟨v1, v2, v3, h.gB, hY, h.c0, h.c1, h.c2, h.c3, h.c4, h.c5, h.c6, h.fz, h.rr.li.mono hX, h.rr.en, h.rr.bys, h.rr.sep⟩
theorem setB {w : World} {B i : Nat} {v : Value} : But (fun k => k = B) w (w.setCell ⟨B, i, none⟩ v) := (But.refl (fun k => k = B) w).setCell (p := ⟨B, i, none⟩) (.inl rfl) _
/-- A step of the power. -/
def stG (g : Lg) : Lg := if g.left = 0 then { g with down := true } else { g with left := less g.left }
theorem refStep {G : Nat → Prop} {X : Nat → Prop} {B : Nat} {g : Lg} (w : World) (h : RL w X G B g) (hmx : g.left ≤ 9223372036854775807) : Calls Tryz.prog 64 #[.pointer (some ⟨B, 0, none⟩)] w fun e w' => e = .returned (.bool (!decide (g.left = 0))) ∧ RL w' X G B (stG g) ∧ But (fun j => j = B) w w' := by
  obtain ⟨v1, v2, v3, h⟩ := h
  have c5 := h.c5
  have c6 := h.c6
  have f5 := h.fz 5 (by decide)
  have f6 := h.fz 6 (by decide)
  unfold stG
  by_cases h0 : g.left = 0
  · rw [if_pos h0]
    have hd := h.set6 true
    have e0 : (g.left == 0) = true := by simpa using h0
    rw [show (!decide (g.left = 0)) = false from by simp [h0]]
    clear h0 h
    go_enter Tryz.func64, Tryz.ntmps64
    go_wp2
    go_ret
    exact ⟨rfl, ⟨v1, v2, v3, hd⟩, setB⟩
  · rw [if_neg h0]
    have e0 : (g.left == 0) = false := by simpa using h0
    rw [show (!decide (g.left = 0)) = true from by simp [h0]]
    unfold less
    by_cases h1 : 0 < g.left
    · rw [if_pos h1]
      have hd := h.set5 (g.left - 1)
      clear h0 h
      go_enter Tryz.func64, Tryz.ntmps64
      go_wp2
      go_ret
      exact ⟨rfl, ⟨v1, v2, v3, hd⟩, setB⟩
    · rw [if_neg h1]
      clear h0
      go_enter Tryz.func64, Tryz.ntmps64
      go_wp2
      go_ret
      exact ⟨rfl, ⟨v1, v2, v3, h⟩, .refl _ _⟩
theorem refSync {G : Nat → Prop} {X : Nat → Prop} {B : Nat} {g : Lg} (w : World) (h : RL w X G B g) (ok : OkL g) : Calls Tryz.prog 21 #[.pointer (some ⟨B, 0, none⟩)] w fun e w' => e = .returned (.int .i64 (syF g)) ∧ RL w' X G B (syG g) ∧ But (fun j => j = B) w w' := by
  have hS := refStep w h ok.lmax
  have c6 : w.cell? ⟨B, 6, none⟩ = some (.bool g.down) := by
    obtain ⟨v1, v2, v3, h⟩ := h
    exact h.c6
  have hf := ok.few.2.1
  by_cases hd : g.down = true
  · rw [show syF g = 8 from if_pos hd, show syG g = g from if_pos hd]
    rw [hd] at c6
    clear hd
    go_enter Tryz.func21, Tryz.ntmps21
    go_wp2
    go_ret
    exact ⟨rfl, h, .refl _ _⟩
  · rw [show g.down = false from by simpa using hd] at c6
    by_cases h0 : g.left = 0
    · rw [show syF g = 8 from by rw [syF, if_neg hd, if_pos h0], show syG g = stG g from by rw [syG, if_neg hd, if_pos h0, stG, if_pos h0]]
      rw [show (!decide (g.left = 0)) = false from by simp [h0]] at hS
      clear h0 h hd
      go_enter Tryz.func21, Tryz.ntmps21
      go_wp2_with (go_at_call 64; refine hS.mono ?_; rintro e w2 ⟨rfl, h2, hb2⟩)
      go_ret
      exact ⟨rfl, h2, hb2⟩
    · rw [show syF g = 0 from by rw [syF, if_neg hd, if_neg h0], show syG g = { g with safe := g.by.length, left := less g.left } from by rw [syG, if_neg hd, if_neg h0]]
      rw [show (!decide (g.left = 0)) = true from by simp [h0], show stG g = { g with left := less g.left } from by rw [stG, if_neg h0]] at hS
      clear h0 h hd
      go_enter Tryz.func21, Tryz.ntmps21
      go_wp2_with (go_at_call 64; refine hS.mono ?_; rintro e w2 ⟨rfl, ⟨v1, v2, v3, h2⟩, hb2⟩; have d3 := h2.c3; have d4 := h2.c4; have f4 := h2.fz 4 (by decide); obtain ⟨p3, c3, e3⟩ := own_form h2.rr.bys; rw [e3] at d3)
      go_ret
      exact ⟨rfl, ⟨v1, v2, v3, h2.set4 (g.by.length : Nat)⟩, hb2.trans setB⟩
theorem refNew (room : Int) (w : World) : Calls Tryz.prog 37 #[.int .i64 room] w fun e w' => e = .returned (.pointer (some ⟨w.heap.size, 0, none⟩)) ∧ (∀ X : Nat → Prop, (∀ j, X j → j < w.heap.size) → RL w' X (fun j => j = w.heap.size) w.heap.size (lg0 room)) ∧ Below w.heap.size w w' ∧ w'.heap.size = w.heap.size + 1 := by
  go_enter Tryz.func37, Tryz.ntmps37
  go_wp2
  go_ret
  refine ⟨rfl, fun X hn => ⟨.slice none 0 0, .slice none 0 0, .slice none 0 0, rfl, fun j hj => ⟨fun e => by have := hn j hj; omega, by have := hn j hj; simp; omega⟩, by simp [lg0], by simp, by simp, by simp, by simp [lg0], by simp [lg0], by simp [lg0], fun i hi => ?_, OwnQ.nil _ _, World.ownsRow_nil _ _ _ _, World.ownsRow_nil _ _ _ _, ⟨fun j hj => (by cases hj), fun j hj => (by cases hj), fun j hj => (by cases hj)⟩⟩, below_al (below_self _) _, by simp⟩
  simp
end Go.Proofs.YteipfdjpndhgkaaGreatDoor

/- The contract of the reference's log's Append. -/
namespace Go.Proofs.YteipfdjpndhgkaaGreatDoor
open Go.RowKit Vs

theorem RL.small {G : Nat → Prop} {w : World} {X : Nat → Prop} {B : Nat} {g : Lg} (h : RL w X G B g) : ∃ p3 c3, w.cell? ⟨B, 3, none⟩ = some (.slice p3 g.by.length c3) ∧ w.cell? ⟨B, 0, none⟩ = some (.int .i64 g.room) ∧ w.cell? ⟨B, 6, none⟩ = some (.bool g.down) ∧ B < w.heap.size := by
  obtain ⟨v1, v2, v3, h⟩ := h
  have d3 := h.c3
  obtain ⟨p3, c3, e3⟩ := own_form h.rr.bys
  rw [e3] at d3
  exact ⟨p3, c3, d3, h.c0, h.c6, h.lt⟩
theorem ofNat_int (n : Nat) : ((UInt8.ofNat n).toNat : Int) = (n : Int) % 256 := by
  rw [UInt8.toNat_ofNat']; simp
theorem two_own (W : World) (n : Nat) {n0 : Nat} (hn : n0 ≤ W.heap.size) : (W.alloc (.cells #[.int .u8 ((n : Int) / 256 % 256), .int .u8 ((n : Int) % 256)] 5)).ownsRow n0 5 1 (.slice (some ⟨W.heap.size, 0, none⟩) 2 2) 2 (byV [UInt8.ofNat (n / 256), UInt8.ofNat (n % 256)]) := by
  have e1 : ((UInt8.ofNat (n / 256)).toNat : Int) = (n : Int) / 256 % 256 := by rw [ofNat_int]; simp
  have e2 : ((UInt8.ofNat (n % 256)).toNat : Int) = (n : Int) % 256 := by rw [ofNat_int]; simp
  refine ⟨rfl, .inr ⟨W.heap.size, 2, _, rfl, hn, heap_alloc_new W _, Nat.le_refl _, by decide, rfl, ?_⟩⟩
  show [Value.int .u8 ((n : Int) / 256 % 256), Value.int .u8 ((n : Int) % 256)] = [Value.int .u8 ((UInt8.ofNat (n / 256)).toNat : Int), Value.int .u8 ((UInt8.ofNat (n % 256)).toNat : Int)]
  rw [e1, e2]
theorem byV_one (l : List UInt8) : ∀ y ∈ byV l, y.oneCell' = true := by
  intro y hy
  simp only [byV, List.mem_map] at hy
  obtain ⟨x, _, rfl⟩ := hy
  rfl
theorem fr_by (l : List Chg) : byV [UInt8.ofNat ((encL l).length / 256), UInt8.ofNat ((encL l).length % 256)] ++ byV (encL l) = byV (fr l) := rfl
theorem turned_val {V w' : World} {row : Option Nat} (hg : V.grownBy w' row) : But (fun j => row = some j) V w' := ⟨hg.os, hg.tape, hg.output, hg.size, fun k hk hF => hg.block k hk (fun e => hF e.symm)⟩
theorem cell_new2 (W : World) (v : Value) (t : Nat) (N : Nat) (hN : N = W.heap.size) : ∀ (j : Nat) (u : Value), ([v] : List Value)[j]? = some u → (W.alloc (.cells #[v] t)).cell? ⟨N, j, none⟩ = some u := by
  subst hN
  intro j u hj
  match j, hj with
  | 0, hj => simp at hj; subst hj; simp
theorem slice_one {q : Option Addr} {n c : Nat} : ∀ u ∈ ([.slice q n c] : List Value), u.oneCell' = true := by
  intro u hu
  rw [List.mem_singleton.1 hu]; rfl
theorem RX.grow1 {G : Nat → Prop} {w w5 : World} {X : Nat → Prop} {B : Nat} {room safe left : Int} {down : Bool} {v1 v2 v3 u : Value} {ls : List (List Chg)} {es : List Int} {bs : List UInt8} {l : List Chg} {q : Value} {vs : List Value} (x : RX w X G B room safe left down v1 v2 v3 ls es bs) (r1 : w.ownsRow 0 88 1 v1 ls.length vs) (r2 : ∀ (i : Nat) (l : List Chg), ls[i]? = some l → ∃ u, vs[i]? = some u ∧ LsE w X u l) (hq : LsE w X q l) (own : w5.ownsRow 0 88 1 u (ls.length + 1) (vs ++ [q])) (hg : w.grownBy w5 v1.ownBlock) (hat : u.ownBlock = v1.ownBlock ∨ u.ownBlock = some w.heap.size) :
    w5.cell? ⟨B, 1, none⟩ = some v1 ∧ w5.frozen? ⟨B, 1, none⟩ = false ∧ (∀ i, i < 7 → w5.cell? ⟨B, i, none⟩ = w.cell? ⟨B, i, none⟩ ∧ w5.frozen? ⟨B, i, none⟩ = false) ∧ RX (w5.setCell ⟨B, 1, none⟩ u) X (Nw G w w5) B room safe left down u v2 v3 (ls ++ [l]) es bs := by
  have b5 := turned_val hg
  have hB : ¬ v1.ownBlock = some B := fun e => (x.rr.sep.s1 B e).2.1 rfl
  have own' : OwnQ X w5 u (ls ++ [l]) := OwnQ.more (v := v1) r2 (by have := r1.1; omega) hq own b5 (fun j hj e => (x.nB j hj).1 (x.rr.sep.s1 j e).1)
  exact ⟨(b5.cell (p := ⟨B, 1, none⟩) x.lt hB).trans x.c1, (b5.frozen (p := ⟨B, 1, none⟩) x.lt hB).trans (x.fz 1 (by decide)), fun i hi => ⟨b5.cell (p := ⟨B, i, none⟩) x.lt hB, (b5.frozen (p := ⟨B, i, none⟩) x.lt hB).trans (x.fz i hi)⟩, x.put1 b5 own' hat⟩
theorem RX.grow2 {G : Nat → Prop} {w w5 : World} {X : Nat → Prop} {B : Nat} {room safe left : Int} {down : Bool} {v1 v2 v3 u : Value} {ls : List (List Chg)} {es : List Int} {bs : List UInt8} {z : Int} (x : RX w X G B room safe left down v1 v2 v3 ls es bs) (own : w5.ownsRow 0 3 1 u (es.length + 1) (inV es ++ [.int .i64 z])) (hg : w.grownBy w5 v2.ownBlock) (hat : u.ownBlock = v2.ownBlock ∨ u.ownBlock = some w.heap.size) :
    w5.cell? ⟨B, 2, none⟩ = some v2 ∧ w5.frozen? ⟨B, 2, none⟩ = false ∧ (∀ i, i < 7 → w5.cell? ⟨B, i, none⟩ = w.cell? ⟨B, i, none⟩ ∧ w5.frozen? ⟨B, i, none⟩ = false) ∧ RX (w5.setCell ⟨B, 2, none⟩ u) X (Nw G w w5) B room safe left down v1 u v3 ls (es ++ [z]) bs := by
  have b5 := turned_val hg
  have hB : ¬ v2.ownBlock = some B := fun e => (x.rr.sep.s2 B e).2.1 rfl
  have own' : w5.ownsRow 0 3 1 u (es ++ [z]).length (inV (es ++ [z])) := by rw [inV_app, List.length_append]; exact own
  exact ⟨(b5.cell (p := ⟨B, 2, none⟩) x.lt hB).trans x.c2, (b5.frozen (p := ⟨B, 2, none⟩) x.lt hB).trans (x.fz 2 (by decide)), fun i hi => ⟨b5.cell (p := ⟨B, i, none⟩) x.lt hB, (b5.frozen (p := ⟨B, i, none⟩) x.lt hB).trans (x.fz i hi)⟩, x.put2 b5 own' hat⟩
theorem RX.grow3 {G : Nat → Prop} {w w5 : World} {X : Nat → Prop} {B : Nat} {room safe left : Int} {down : Bool} {v1 v2 v3 u : Value} {ls : List (List Chg)} {es : List Int} {bs : List UInt8} {m : Nat} {zs : List UInt8} (x : RX w X G B room safe left down v1 v2 v3 ls es bs) (hm : m = zs.length) (own : w5.ownsRow 0 5 1 u (bs.length + m) (byV bs ++ byV zs)) (hg : w.grownBy w5 v3.ownBlock) (hat : u.ownBlock = v3.ownBlock ∨ u.ownBlock = some w.heap.size) :
    w5.cell? ⟨B, 3, none⟩ = some v3 ∧ w5.frozen? ⟨B, 3, none⟩ = false ∧ (∀ i, i < 7 → w5.cell? ⟨B, i, none⟩ = w.cell? ⟨B, i, none⟩ ∧ w5.frozen? ⟨B, i, none⟩ = false) ∧ RX (w5.setCell ⟨B, 3, none⟩ u) X (Nw G w w5) B room safe left down v1 v2 u ls es (bs ++ zs) := by
  have b5 := turned_val hg
  have hB : ¬ v3.ownBlock = some B := fun e => (x.rr.sep.s3 B e).2.1 rfl
  have own' : w5.ownsRow 0 5 1 u (bs ++ zs).length (byV (bs ++ zs)) := by rw [byV_app, List.length_append, ← hm]; exact own
  exact ⟨(b5.cell (p := ⟨B, 3, none⟩) x.lt hB).trans x.c3, (b5.frozen (p := ⟨B, 3, none⟩) x.lt hB).trans (x.fz 3 (by decide)), fun i hi => ⟨b5.cell (p := ⟨B, i, none⟩) x.lt hB, (b5.frozen (p := ⟨B, i, none⟩) x.lt hB).trans (x.fz i hi)⟩, x.put3 b5 own' hat⟩
/-- An append whose run is known, in a region that draws its order. -/
theorem step_append_run {w w' : World} {ops : Array Oper} {o : Oper} {a : Act} {K : Act → World → Prop} {Q : Exit → Act → World → Prop} {E : Prop} {v u v' : Value} (hgd : o.guard = none) (s x : Operand) (t : TypeId)
    (ho : o.op = .call { callee := .builtin .append, args := #[s, x], argTypes := #[t, t] }) (hs : a.eval s = v) (hx : a.eval x = u) (hr : (Builtin.append_ #[t, t] o.type #[v, u]).run Tryz.prog w = .ok v' w') (hK : K (a.put o.dst v') w') :
    if Region.wanted o (yielded ops a.tmps) = true then Oper.wp Tryz.prog o a w K Q else E := by
  have hw : Region.wanted o (yielded ops a.tmps) = true := by simp [Region.wanted, hgd]
  rw [if_pos hw]
  unfold Oper.wp execOp
  simp only [ho, resolve, invoke, builtin, Sem.run_bind, Sem.run_pure, Result.andThen_ok, List.map_toArray, List.map_cons, List.map_nil, hs, hx, hr]
  exact hK
theorem own_block7 {w : World} {B e n : Nat} {v : Value} {xs : List Value} (h : w.ownsRow B e 1 v (2 + n) xs) : ∃ g c, v = .slice (some ⟨g, 0, none⟩) (2 + n) c := by
  rcases h.2 with ⟨_, h0⟩ | ⟨g, cap, cur, h0, _⟩
  · omega
  · exact ⟨g, cap, h0⟩
theorem encL_small {l : List Chg} (h : chF l = 0) : (encL l).length ≤ 1000 := by
  obtain ⟨h1, h2⟩ := chF_ok h
  have key : ∀ {m : List Chg}, (∀ c ∈ m, chW c = false) → (m.flatMap encC).length ≤ m.length * 40 := by
    intro m
    induction m with
    | nil => intro _; simp
    | cons x r ih =>
      intro hm
      have h3 := ih (fun c hc => hm c (by simp [hc]))
      have h4 : (encC x).length ≤ 40 := by
        obtain ⟨a1, a2, a3, _⟩ := chW_ok (hm x (by simp))
        have e1 : x.k.data.toList.length = x.k.size := rfl
        have e2 : x.v.data.toList.length = x.v.size := rfl
        unfold encC
        by_cases g : x.g = true
        · simp [g]; omega
        · simp [g]; omega
      rw [List.flatMap_cons, List.length_append, List.length_cons]; omega
  have := key h2
  rw [encL, List.length_cons]; omega
theorem own_capB {w : World} {B e g n c : Nat} {xs : List Value} (h : w.ownsRow B e 1 (.slice (some ⟨g, 0, none⟩) n c) n xs) : n ≤ c := by
  rcases h.2 with ⟨h0, _⟩ | ⟨g', cap', cur, h0, _, hg, h1, h2, _⟩
  · cases h0
  · cases h0; exact h1
theorem infoInt : (Tryz.prog.info? 3).map (fun i => (i.zero, i.size, i.bytes)) = some (some (.int .i64 0), 1, 8) := by kernel_rfl
set_option maxRecDepth 100000 in
set_option maxHeartbeats 4000000 in
theorem refAppend {G : Nat → Prop} {X : Nat → Prop} {B : Nat} {g : Lg} (l : List Chg) (p : Option Addr) (c : Nat) (w : World) (h : RL w X G B g) (ok : OkL g) (hG : ∀ j, G j → j < w.heap.size) (hl : l.length ≤ c) (hc : c ≤ 9223372036854775807) (hp : ChIn w X p l) :
    Calls Tryz.prog 57 #[.pointer (some ⟨B, 0, none⟩), .slice p l.length c] w fun e w' => e = .returned (.int .i64 (apF g l)) ∧ RL w' X (Nw G w w') B (apG g l) ∧ But G w w' := by
  have hX0 := h.nX
  have hC := changesFault l p c w (by omega) hp.at
  have hinl : ∀ w', G B → Nw G w w' B := fun w' hB => .inl hB
  by_cases h1 : chF l = 0
  · rw [h1] at hC
    have hfw := ok.few
    by_cases h2 : g.room < g.by.length + 2 + (encL l).length
    · rw [show apF g l = 3 from by rw [apF, if_pos h1, if_pos h2], show apG g l = g from by rw [apG, if_pos h1, if_pos h2]]
      have hlen : (encL l).length ≤ 100000 := by have := encL_small h1; omega
      go_enter Tryz.func57, Tryz.ntmps57
      go_wp2_with (first
        | (go_at_call 89; refine hC.mono ?_; rintro e w1 ⟨rfl, hb1⟩)
        | (go_at_call 90; refine (bytesOf l p c w1 h1 (hp.step hb1).at).mono ?_; rintro e w2 ⟨v6, rfl, own6, hb2⟩; obtain ⟨p6, c6, rfl⟩ := own_form own6; have hb12 := below_via hb1 hb2; obtain ⟨p3, c3, d3, d0, d6, hBlt⟩ := (h.step hb12).small))
      go_quiet (fail)
      go_wp2
      go_ret
      have hbq := below_drewN hb12 nq
      exact ⟨rfl, (h.step hbq).mono (fun j hj => .inl hj) (nw_no hX0), .below hbq⟩
    · by_cases h3 : g.down = true
      · rw [show apF g l = 8 from by rw [apF, if_pos h1, if_neg h2, if_pos h3], show apG g l = g from by rw [apG, if_pos h1, if_neg h2, if_pos h3]]
        have hlen : (encL l).length ≤ 100000 := by have := ok.r1; omega
        go_enter Tryz.func57, Tryz.ntmps57
        go_wp2_with (first
          | (go_at_call 89; refine hC.mono ?_; rintro e w1 ⟨rfl, hb1⟩)
          | (go_at_call 90; refine (bytesOf l p c w1 h1 (hp.step hb1).at).mono ?_; rintro e w2 ⟨v6, rfl, own6, hb2⟩; obtain ⟨p6, c6, rfl⟩ := own_form own6; have hb12 := below_via hb1 hb2; obtain ⟨p3, c3, d3, d0, d6, hBlt⟩ := (h.step hb12).small; rw [h3] at d6))
        go_quiet (fail)
        clear h3
        go_wp2
        go_ret
        have hbq := below_drewN hb12 nq
        exact ⟨rfl, (h.step hbq).mono (fun j hj => .inl hj) (nw_no hX0), .below hbq⟩
      · have h3' : g.down = false := by simpa using h3
        by_cases h4 : g.left = 0
        · rw [show apF g l = 8 from by rw [apF, if_pos h1, if_neg h2, if_neg h3, if_pos h4], show apG g l = { g with tl := (fr l).take ((fr l).length / 2), down := true } from by rw [apG, if_pos h1, if_neg h2, if_neg h3, if_pos h4]]
          have hlen : (encL l).length ≤ 100000 := by have := ok.r1; omega
          go_enter Tryz.func57, Tryz.ntmps57
          go_wp2_with (first
            | (go_at_call 89; refine hC.mono ?_; rintro e w1 ⟨rfl, hb1⟩)
            | (go_at_call 90; refine (bytesOf l p c w1 h1 (hp.step hb1).at).mono ?_; rintro e w2 ⟨v6, rfl, own6, hb2⟩; obtain ⟨p6, c6, rfl⟩ := own_form own6; have hb12 := below_via hb1 hb2; obtain ⟨p3, c3, d3, d0, d6, hBlt⟩ := (h.step hb12).small; rw [h3'] at d6))
          go_quiet (fail)
          have hBn : B < w.heap.size := hG B h.gB
          have hs12 := hb12.size
          have hs2 := hb2.size
          have hstG : stG g = { g with down := true } := by rw [stG, if_pos h4]
          have own6a := fun n o => own_below own6 (below_al (below_drewN (below_self w2) n) o)
          have h4d : (!decide (g.left = 0)) = false := by simp [h4]
          have h4h : Hid _ := h4
          clear h4
          go_wp2_with (first
            | (at_builtin; refine wpList_append_row 67 5 1 1 _ Tryz.underlying67 infoByte rfl (by decide) (by decide) rfl _ _ rfl w2.heap.size _ 2 _ rfl (two_own _ _ (Nat.le_refl _)) (by simp) w1.heap.size _ (encL l).length (byV (encL l)) rfl (own6a _ _) (byV_one _) (by omega) ?_; intro v7 w3 own7 hg7 hat7; rw [fr_by] at own7; have hb3 : Below w2.heap.size w2 w3 := ((below_drewN (below_self w2) _).alloc (Nat.le_refl _) _).grown hg7 (by simp) (fun j hj => by have hj : some w2.heap.size = some j := hj; cases hj; exact Nat.le_refl _); have hb3w := below_via hb12 hb3; have h3R := h.step hb3w; have hst := refStep w3 h3R ok.lmax; rw [hstG, h4d] at hst; obtain ⟨g7, c7, rfl⟩ := own_block7 own7)
            | (go_at_call 64; refine hst.mono ?_; rintro e w4 ⟨rfl, ⟨v1, v2, v3, x4⟩, hb4⟩; have m3 := x4.c3; have fm3 := x4.fz 3 (by decide); have own7a : w4.ownsRow w2.heap.size 5 1 (.slice (some ⟨g7, 0, none⟩) (2 + (encL l).length) c7) (2 + (encL l).length) (byV (fr l)) := row_but own7 hb4 (fun j hj e => by have := (row_lt own7 hj).1; omega)))
          obtain ⟨M, hM⟩ : ∃ M, M = 2 + (encL l).length := ⟨_, rfl⟩
          obtain ⟨Hf, hHf⟩ : ∃ Hf, Hf = M / 2 := ⟨_, rfl⟩
          have hfl : (fr l).length = M := by rw [fr_len, hM]; omega
          rw [← hM] at own7a
          rw [← hM]
          have hM1 : M ≤ 100002 := by omega
          have hcp := (own_capB own7a)
          have hH : (M : Int) / 2 = (Hf : Int) := by omega
          have hHc : (Hf : Int) ≤ (c7 : Int) := by omega
          have hHn : Hf ≤ c7 := by omega
          have hwr : IntKind.i64.wrap (Hf : Int) = (Hf : Int) := by rw [IntKind.wrap_i64]; omega
          have x4d := x4.step (below_self w4).drew
          obtain ⟨i0, hin, hz0, hz1, hz2⟩ := info_parts infoByte
          have htl : ((fr l).take Hf).length = Hf := by rw [List.length_take, hfl]; omega
          have hby1 := hfw.2.1
          obtain ⟨u3, w5, hr, own5, hg5, _, hat5⟩ := run_append_own_at (P := Tryz.prog) w4.drew 0 67 67 5 i0 (.int .u8 0) 1 1 Tryz.underlying67 hin hz0 hz1 hz2 rfl (by decide) v3 g.by.length (byV g.by) x4d.rr.bys ⟨g7, 0, none⟩ Hf c7 (byV ((fr l).take Hf)) (by rw [byV_len, htl]; omega) (fun j u hj => by
            have hjl : j < Hf := by have := (List.getElem?_eq_some_iff.1 hj).1; rw [byV_len, htl] at this; exact this
            rw [show (⟨g7, 0, none⟩ : Addr).add j = ⟨g7, j, none⟩ from by unfold Addr.add; split <;> simp_all]
            have e1 := own7a.cellAt j (by omega)
            have e2 : (byV (fr l))[j]? = some u := by
              rw [byV, List.getElem?_map] at hj ⊢
              rw [List.getElem?_take, if_pos hjl] at hj
              exact hj
            exact e1.trans e2) (byV_one _) (by unfold maxLen; omega) (by omega) (Nat.zero_le _)
          obtain ⟨pu, cu, rfl⟩ := own_form own5
          obtain ⟨n3, fn3, gc5, x5⟩ := x4d.grow3 htl.symm own5 hg5 hat5
          have gB := h.gB
          have bt4 : But G w w4 := (But.below hb3w).then hb4 (fun i _ e => by rw [e]; exact gB)
          have bz4 := bt4.size
          have bt5 : But G w w5 := bt4.drew.then (turned_val hg5) (fun i _ e => (x4d.rr.sep.s3 i e).1)
          have bz5 : w4.heap.size ≤ w5.heap.size := hg5.size
          have bt6 : But G w (w5.setCell ⟨B, 3, none⟩ (.slice pu (g.by.length + Hf) cu)) := bt5.setCell (p := ⟨B, 3, none⟩) (.inl gB) _
          obtain ⟨t0, tb⟩ := ok.up h3'
          have x10 : RL (w5.setCell ⟨B, 3, none⟩ (.slice pu (g.by.length + Hf) cu)) X (Nw G w (w5.setCell ⟨B, 3, none⟩ (.slice pu (g.by.length + Hf) cu))) B ⟨g.room, g.ls, (fr l).take ((fr l).length / 2), g.safe, g.left, true⟩ := by
            refine ⟨v1, v2, .slice pu (g.by.length + Hf) cu, ?_⟩
            show RX _ _ _ _ g.room g.safe g.left true _ _ _ g.ls (ends 0 g.ls) (frs g.ls ++ (fr l).take ((fr l).length / 2))
            have x5' : RX (w5.setCell ⟨B, 3, none⟩ (.slice pu (g.by.length + Hf) cu)) X (Nw G w4.drew w5) B g.room g.safe g.left true v1 v2 (.slice pu (g.by.length + Hf) cu) g.ls (ends 0 g.ls) (g.by ++ (fr l).take Hf) := x5
            rw [hfl, ← hHf, ← tb]
            refine RX.mono x5' (fun j hj => ?_) (nw_no hX0)
            rcases hj with hj | hj
            · exact .inl hj
            · have hj : w4.heap.size ≤ j ∧ j < w5.heap.size := hj
              exact .inr ⟨by omega, by simp [World.setCell]; omega⟩
          have X10 : Hid _ := x10
          have BT : Hid _ := bt6
          clear x10 bt6 bt5 bt4 bz4 bz5 t0 tb gc5 hfl hHf hM htl
          clear hp hC hinl hfw hl own6a own6 hb12 hb1 hb2 hb3w h3R hb3 hg7 hat7 hst own7 own7a own5 hat5 x5 x4d
          have m3d : w4.drew.cell? ⟨B, 3, none⟩ = some v3 := m3
          go_region_law (refine step_append_run rfl _ _ 67 rfl rfl rfl hr ?_)
          all_goals go_wp2_with fail
          all_goals go_ret
          all_goals exact ⟨rfl, X10.out, BT.out⟩
        · rw [show apF g l = 0 from by rw [apF, if_pos h1, if_neg h2, if_neg h3, if_neg h4], show apG g l = { g with ls := g.ls ++ [l], left := less g.left } from by rw [apG, if_pos h1, if_neg h2, if_neg h3, if_neg h4]]
          have hlen : (encL l).length ≤ 100000 := by have := ok.r1; omega
          go_enter Tryz.func57, Tryz.ntmps57
          go_wp2_with (first
            | (go_at_call 89; refine hC.mono ?_; rintro e w1 ⟨rfl, hb1⟩)
            | (go_at_call 90; refine (bytesOf l p c w1 h1 (hp.step hb1).at).mono ?_; rintro e w2 ⟨v6, rfl, own6, hb2⟩; obtain ⟨p6, c6, rfl⟩ := own_form own6; have hb12 := below_via hb1 hb2; obtain ⟨p3, c3, d3, d0, d6, hBlt⟩ := (h.step hb12).small; rw [h3'] at d6))
          go_quiet (fail)
          have hBn : B < w.heap.size := by
            have := hG B h.gB; exact this
          have hs12 := hb12.size
          have hs2 := hb2.size
          have hstG : stG g = { g with left := less g.left } := by rw [stG, if_neg h4]
          have own6a := fun n o => own_below own6 (below_al (below_drewN (below_self w2) n) o)
          have hqAll : ∀ (w4 w5 : World) (u : Value) (w3 : World) (v3 : Value), (∀ j, X j → ¬ j = B) → Below w.heap.size w w3 → But (fun j => j = B) w3 w4 → (∀ j, X j → ¬ v3.ownBlock = some j) → w4.grownBy w5 v3.ownBlock → LsE (w5.setCell ⟨B, 3, none⟩ u) X (.slice p l.length c) l := fun w4 w5 u w3 v3 nB b3 b4 hv hg => ⟨p, c, rfl, hl, hc, (((hp.step b3).but b4 (fun j _ hj e => nB j hj e)).but (turned_val hg) (fun j _ hj e => hv j hj e)).but (setB (i := 3) (v := u)) (fun j _ hj e => nB j hj e)⟩
          have h63 : g.by.length + (2 + (encL l).length) ≤ 1000000 := by have := hfw.2.1; omega
          have hm3 : Hid (2 + (encL l).length = (fr l).length) := by show _ = _; rw [fr_len]; omega
          have h4d : (!decide (g.left = 0)) = true := by simp [h4]
          go_wp2_with (first
            | (at_builtin; refine wpList_append_row 67 5 1 1 _ Tryz.underlying67 infoByte rfl (by decide) (by decide) rfl _ _ rfl w2.heap.size _ 2 _ rfl (two_own _ _ (Nat.le_refl _)) (by simp) w1.heap.size _ (encL l).length (byV (encL l)) rfl (own6a _ _) (byV_one _) (by omega) ?_; intro v7 w3 own7 hg7 hat7; rw [fr_by] at own7; have hb3 : Below w2.heap.size w2 w3 := ((below_drewN (below_self w2) _).alloc (Nat.le_refl _) _).grown hg7 (by simp) (fun j hj => by have hj : some w2.heap.size = some j := hj; cases hj; exact Nat.le_refl _); have hb3w := below_via hb12 hb3; have h3R := h.step hb3w; have hst := refStep w3 h3R ok.lmax; rw [hstG, h4d] at hst)
            | (go_at_call 64; refine hst.mono ?_; rintro e w4 ⟨rfl, ⟨v1, v2, v3, x4⟩, hb4⟩; have m3 := x4.c3; have fm3 := x4.fz 3 (by decide); have own7a : w4.ownsRow w2.heap.size 5 1 v7 (2 + (encL l).length) (byV (fr l)) := row_but own7 hb4 (fun j hj e => by have := (row_lt own7 hj).1; omega); have own3a : w4.ownsRow 0 5 1 v3 g.by.length (byV g.by) := x4.rr.bys; have hn4 : 0 ≤ w4.heap.size := Nat.zero_le _)
            | (at_builtin; refine wpList_append_row 67 5 1 1 _ Tryz.underlying67 infoByte rfl (by decide) (by decide) rfl _ _ rfl 0 _ g.by.length (byV g.by) rfl own3a hn4 w2.heap.size _ (2 + (encL l).length) (byV (fr l)) rfl own7a (byV_one _) h63 ?_; intro u3 w5 own5 hg5 hat5; obtain ⟨pu, cu, rfl⟩ := own_form own5; obtain ⟨n3, fn3, gc5, x5⟩ := x4.grow3 hm3.out own5 hg5 hat5; have hq6 : LsE (w5.setCell ⟨B, 3, none⟩ (.slice pu (g.by.length + (2 + (encL l).length)) cu)) X (.slice p l.length c) l := hqAll w4 w5 _ _ v3 (fun j hj e => (x4.nB j hj).1 (e ▸ x4.gB)) hb3w hb4 (fun j hj e => (x4.nB j hj).1 (x4.rr.sep.s3 j e).1) hg5; have m1 := (gc5 1 (by decide)).1.trans x4.c1; have fm1 := (gc5 1 (by decide)).2; clear gc5; obtain ⟨vs, r1, r2⟩ := x5.rr.li)
            | (at_builtin; refine wpList_append_oneAt 65 88 1 24 _ Tryz.underlying65 infoLs rfl (by decide) (by decide) rfl _ _ rfl 0 _ g.ls.length vs rfl (r1.alloc _) (Nat.zero_le _) w5.heap.size [.slice p l.length c] rfl rfl (cell_new2 _ _ _ _ (by simp [World.setCell])) slice_one (by have := hfw.1; omega) ?_; intro u1 w7 own8 hg8 hat8; obtain ⟨pl, cl, rfl⟩ := own_form own8; have x6 := x5.step (below_al (below_self _) (.cells #[.slice p l.length c] 88)); have q6 := LsE.but (E := fun _ => False) hq6 (.below (below_al (below_self _) (.cells #[.slice p l.length c] 88))) (fun _ _ _ => id); obtain ⟨n1, fn1, gc7, x7⟩ := x6.grow1 (r1.alloc _) (fun i l' hl' => by (obtain ⟨y, y1, y2⟩ := r2 i l' hl'; exact ⟨y, y1, y2.but (E := fun _ => False) (.below (below_al (below_self _) _)) (fun _ _ _ => id)⟩)) q6 own8 hg8 hat8; replace gc7 : Hid _ := gc7))
          obtain ⟨W8, hW8⟩ : ∃ W8, W8 = w7.setCell ⟨B, 1, none⟩ (.slice pl (g.ls.length + 1) cl) := ⟨_, rfl⟩
          obtain ⟨M, hM⟩ : ∃ M, M = g.by.length + (2 + (encL l).length) := ⟨_, rfl⟩
          rw [← hW8, ← hM] at x7
          rw [← hW8, ← hM]
          have y2 := x7.c2
          have y3 := x7.c3
          have fy2 := x7.fz 2 (by decide)
          have x8 := x7.step (below_al (below_self W8).drew (.cells #[.int .i64 (M : Int)] 3))
          obtain ⟨i0, hin, hz0, hz1, hz2⟩ := info_parts infoInt
          have hle : (ends 0 g.ls).length + 1 ≤ 33335 := by rw [ends_len]; have := hfw.1; omega
          obtain ⟨u2, w9, hr, own9, hg9, _, hat9⟩ := run_append_own_at (P := Tryz.prog) (W8.drew.alloc (.cells #[.int .i64 (M : Int)] 3)) 0 66 66 3 i0 (.int .i64 0) 1 8 Tryz.underlying66 hin hz0 hz1 hz2 rfl (by decide) v2 (ends 0 g.ls).length (inV (ends 0 g.ls)) x8.rr.en ⟨W8.heap.size, 0, none⟩ 1 1 [.int .i64 (M : Int)] rfl (fun j u hj => by
            rw [show (⟨W8.heap.size, 0, none⟩ : Addr).add j = ⟨W8.heap.size, j, none⟩ from by unfold Addr.add; split <;> simp_all]
            exact cell_new2 W8.drew _ _ _ rfl j u hj) (fun u hu => by rw [List.mem_singleton.1 hu]; rfl) (by unfold maxLen; omega) (by omega) (by have := x8.nB; have := x8.lt; omega)
          obtain ⟨pe, ce, rfl⟩ := own_form own9
          obtain ⟨k2, fk2, k29, x9⟩ := x8.grow2 own9 hg9 hat9
          have gB := h.gB
          have bt4 : But G w w4 := (But.below hb3w).then hb4 (fun i _ e => by rw [e]; exact gB)
          have bt5 : But G w w5 := bt4.then (turned_val hg5) (fun i _ e => (x4.rr.sep.s3 i e).1)
          have bt6 : But G w (w5.setCell ⟨B, 3, none⟩ (.slice pu (g.by.length + (2 + (encL l).length)) cu)) := bt5.setCell (p := ⟨B, 3, none⟩) (.inl gB) _
          have bz4 := bt4.size
          have bt7 : But G w w7 := (bt6.alloc _).then (turned_val hg8) (fun i hi e => (x6.rr.sep.s1 i e).1.elim id (fun q => absurd q.1 (by omega)))
          have bz5 := hg5.size
          have bz7 := hg8.size
          simp [World.setCell] at bz7
          have bt8 : But G w W8 := by rw [hW8]; exact bt7.setCell (p := ⟨B, 1, none⟩) (.inl gB) _
          have bt9 : But G w w9 := (bt8.drew.alloc _).then (turned_val hg9) (fun i hi e => (x8.rr.sep.s2 i e).1.elim (fun q => q.elim id (fun q => absurd q.1 (by omega))) (fun q => absurd q.1 (by simp [World.setCell]; omega)))
          have bz8 : W8.heap.size = w7.heap.size := by rw [hW8]; simp [World.setCell]
          have bz9 := hg9.size
          simp at bz9
          have bt10 : But G w (w9.setCell ⟨B, 2, none⟩ (.slice pe ((ends 0 g.ls).length + 1) ce)) := bt9.setCell (p := ⟨B, 2, none⟩) (.inl gB) _
          obtain ⟨t0, tb⟩ := ok.up h3'
          have eM : Hid ((M : Int) = ((0 + (frs (g.ls ++ [l])).length : Nat) : Int)) := by
            show _ = _
            rw [hM, tb, frs_app, frs_one, List.length_append, fr_len]; omega
          have x10 : RL (w9.setCell ⟨B, 2, none⟩ (.slice pe ((ends 0 g.ls).length + 1) ce)) X (Nw G w (w9.setCell ⟨B, 2, none⟩ (.slice pe ((ends 0 g.ls).length + 1) ce))) B ⟨g.room, g.ls ++ [l], g.tl, g.safe, less g.left, false⟩ := by
            have x9' : RX (w9.setCell ⟨B, 2, none⟩ (.slice pe ((ends 0 g.ls).length + 1) ce)) X _ B g.room g.safe (less g.left) g.down (.slice pl (g.ls.length + 1) cl) (.slice pe ((ends 0 g.ls).length + 1) ce) (.slice pu M cu) (g.ls ++ [l]) (ends 0 g.ls ++ [(M : Int)]) (g.by ++ fr l) := x9
            rw [h3'] at x9'
            refine ⟨.slice pl (g.ls.length + 1) cl, .slice pe ((ends 0 g.ls).length + 1) ce, .slice pu M cu, ?_⟩
            show RX _ _ _ _ g.room g.safe (less g.left) false _ _ _ (g.ls ++ [l]) (ends 0 (g.ls ++ [l])) (frs (g.ls ++ [l]) ++ g.tl)
            rw [ends_app, ← eM.out, t0, List.append_nil, frs_app, frs_one, ← tb]
            refine RX.mono x9' (fun j hj => ?_) (nw_no hX0)
            rcases hj with ((hj | hj) | hj) | hj
            · exact .inl hj
            · exact .inr ⟨by omega, by simp [World.setCell]; omega⟩
            · simp [World.setCell] at hj
              exact .inr ⟨by omega, by simp [World.setCell]; omega⟩
            · simp at hj
              exact .inr ⟨by omega, by simp [World.setCell]; omega⟩
          have X10 : Hid _ := x10
          have BT : Hid _ := bt10
          clear x10 bt10 bt9 bt8 bt7 bt6 bt5 bt4 bz4 bz5 bz7 bz8 bz9 t0 tb eM
          clear hW8 hM
          clear hqAll h63 hm3 hstG h4d hp hC hinl hfw hl own6a own6 hb12 hb1 hb2 hb3w h3R hb4 hb3 hg7 hat7 m3 fm3
          clear hst own7 own7a own3a own5 hg5 hat5 n3 fn3 hq6 m1 fm1 r1 r2 own8 hg8 hat8 x6 q6 n1 fn1 gc7 x5 own9 hat9 x8
          have y2A : (W8.drew.alloc (.cells #[.int .i64 (M : Int)] 3)).cell? ⟨B, 2, none⟩ = some v2 := (World.cell?_alloc_lt W8.drew _ ⟨B, 2, none⟩ x7.lt).trans y2
          have y3A : (W8.drew.alloc (.cells #[.int .i64 (M : Int)] 3)).cell? ⟨B, 3, none⟩ = some (.slice pu M cu) := (World.cell?_alloc_lt W8.drew _ ⟨B, 3, none⟩ x7.lt).trans y3
          have y39 : w9.cell? ⟨B, 3, none⟩ = some (.slice pu M cu) := ((k29 3 (by decide)).1).trans y3A
          have y3z := x9.c3
          have hBl8 : B < W8.heap.size := x7.lt
          have hBn8 : ¬ B = W8.heap.size := by omega
          clear k29
          go_region_law (refine step_append_run rfl _ _ 66 rfl rfl rfl hr ?_)
          all_goals go_wp2_with fail
          all_goals go_ret
          all_goals exact ⟨rfl, X10.out, BT.out⟩
  · rw [show apF g l = chF l from if_neg h1, show apG g l = g from if_neg h1]
    have e1 : (chF l != 0) = true := by simpa using h1
    clear h1
    go_enter Tryz.func57, Tryz.ntmps57
    go_wp2_with (go_at_call 89; refine hC.mono ?_; rintro e w1 ⟨rfl, hb1⟩)
    go_ret
    exact ⟨rfl, (h.step hb1).mono (fun j hj => .inl hj) (nw_no hX0), .below hb1⟩
end Go.Proofs.YteipfdjpndhgkaaGreatDoor

/- The contract of the reference's log's Crash. -/
namespace Vs
theorem by_take {g : Lg} {k : Nat} : g.by.take (frs (g.ls.take k)).length = frs (g.ls.take k) := by
  have : g.by = frs (g.ls.take k) ++ (frs (g.ls.drop k) ++ g.tl) := by
    rw [Lg.by]
    conv => lhs; rw [← List.take_append_drop k g.ls, frs_app]
    rw [List.append_assoc]
  rw [this, List.take_left]
theorem frs_take_le (g : Lg) (k : Nat) : (frs (g.ls.take k)).length ≤ g.by.length := by
  have := congrArg List.length (by_take (g := g) (k := k))
  rw [List.length_take] at this
  omega
end Vs
namespace Go.Proofs.YteipfdjpndhgkaaGreatDoor
open Go.RowKit Vs

theorem blk_same {p : Option Addr} {n m c : Nat} : (Value.slice p n c).ownBlock = (Value.slice p m c).ownBlock := by cases p <;> rfl
/-- All rows are cut off. -/
theorem RX.cut {G : Nat → Prop} {w : World} {X : Nat → Prop} {B : Nat} {room safe left : Int} {down : Bool} {p1 p2 p3 : Option Addr} {c1 c2 c3 k e : Nat} {ls : List (List Chg)} {es : List Int} {bs : List UInt8} (h : RX w X G B room safe left down (.slice p1 ls.length c1) (.slice p2 es.length c2) (.slice p3 bs.length c3) ls es bs) (h1 : k ≤ ls.length) (h2 : k ≤ es.length) (h3 : e ≤ bs.length) :
    RX ((((((w.setCell ⟨B, 1, none⟩ (.slice p1 k c1)).setCell ⟨B, 2, none⟩ (.slice p2 k c2)).setCell ⟨B, 3, none⟩ (.slice p3 e c3)).setCell ⟨B, 4, none⟩ (.int .i64 e)).setCell ⟨B, 5, none⟩ (.int .i64 (-1))).setCell ⟨B, 6, none⟩ (.bool false)) X G B room e (-1) false (.slice p1 k c1) (.slice p2 k c2) (.slice p3 e c3) (ls.take k) (es.take k) (bs.take e) := by
  have l1 : (ls.take k).length = k := by rw [List.length_take]; omega
  have l2 : (es.take k).length = k := by rw [List.length_take]; omega
  have l3 : (bs.take e).length = e := by rw [List.length_take]; omega
  have a1 := h.set1 (u := .slice p1 k c1) (ls' := ls.take k) ⟨h.rr.li.take h1, h.rr.en, h.rr.bys, ⟨fun j hj => h.rr.sep.s1 j (blk_same.trans hj), fun j hj => ⟨(h.rr.sep.s2 j hj).1, (h.rr.sep.s2 j hj).2.1, fun e => (h.rr.sep.s2 j hj).2.2.1 (blk_same.trans e), (h.rr.sep.s2 j hj).2.2.2⟩, fun j hj => ⟨(h.rr.sep.s3 j hj).1, (h.rr.sep.s3 j hj).2.1, fun e => (h.rr.sep.s3 j hj).2.2.1 (blk_same.trans e), (h.rr.sep.s3 j hj).2.2.2⟩⟩⟩
  have o2 : (w.setCell ⟨B, 1, none⟩ (.slice p1 k c1)).ownsRow 0 3 1 (.slice p2 k c2) (es.take k).length (inV (es.take k)) := by
    have := own_trunc a1.rr.en h2
    rw [l2]
    rw [show inV (es.take k) = (inV es).take (k * 1) from by simp [inV, List.map_take]]
    exact this
  have a2 := a1.set2 (u := .slice p2 k c2) (es' := es.take k) ⟨a1.rr.li, o2, a1.rr.bys, ⟨fun j hj => ⟨(a1.rr.sep.s1 j hj).1, (a1.rr.sep.s1 j hj).2.1, fun e => (a1.rr.sep.s1 j hj).2.2.1 (blk_same.trans e), (a1.rr.sep.s1 j hj).2.2.2⟩, fun j hj => a1.rr.sep.s2 j (blk_same.trans hj), fun j hj => ⟨(a1.rr.sep.s3 j hj).1, (a1.rr.sep.s3 j hj).2.1, (a1.rr.sep.s3 j hj).2.2.1, fun e => (a1.rr.sep.s3 j hj).2.2.2 (blk_same.trans e)⟩⟩⟩
  have o3 : ((w.setCell ⟨B, 1, none⟩ (.slice p1 k c1)).setCell ⟨B, 2, none⟩ (.slice p2 k c2)).ownsRow 0 5 1 (.slice p3 e c3) (bs.take e).length (byV (bs.take e)) := by
    have := own_trunc a2.rr.bys h3
    rw [l3]
    rw [show byV (bs.take e) = (byV bs).take (e * 1) from by simp [byV, List.map_take]]
    exact this
  have a3 := a2.set3 (u := .slice p3 e c3) (bs' := bs.take e) ⟨a2.rr.li, a2.rr.en, o3, ⟨fun j hj => ⟨(a2.rr.sep.s1 j hj).1, (a2.rr.sep.s1 j hj).2.1, (a2.rr.sep.s1 j hj).2.2.1, fun e => (a2.rr.sep.s1 j hj).2.2.2 (blk_same.trans e)⟩, fun j hj => ⟨(a2.rr.sep.s2 j hj).1, (a2.rr.sep.s2 j hj).2.1, (a2.rr.sep.s2 j hj).2.2.1, fun e => (a2.rr.sep.s2 j hj).2.2.2 (blk_same.trans e)⟩, fun j hj => a2.rr.sep.s3 j (blk_same.trans hj)⟩⟩
  exact ((a3.set4 e).set5 (-1)).set6 false
set_option maxRecDepth 100000 in
set_option maxHeartbeats 4000000 in
theorem refCrash {G : Nat → Prop} {X : Nat → Prop} {B : Nat} {g : Lg} (keep : Int) (w : World) (h : RL w X G B g) (ok : OkL g) (hk0 : -9223372036854775808 ≤ keep) (hk1 : keep ≤ 9223372036854775807) :
    Calls Tryz.prog 69 #[.pointer (some ⟨B, 0, none⟩), .int .i64 keep] w fun e w' => e = .returned (.tuple #[]) ∧ RL w' X G B (crG g keep) ∧ But (fun j => j = B) w w' := by
  obtain ⟨v1, v2, v3, x⟩ := h
  obtain ⟨p1, c1, rfl, hc1, _⟩ := x.rr.li.form
  obtain ⟨p2, c2, rfl⟩ := own_form x.rr.en
  obtain ⟨p3, c3, rfl⟩ := own_form x.rr.bys
  have hc2 : g.ls.length ≤ c2 := by
    have := x.rr.en
    rw [ends_len] at this
    rcases this.2 with ⟨h0, h1⟩ | ⟨_, cap, cur, h0, _, _, h1, _⟩
    · omega
    · cases h0; exact h1
  have hc3 : g.by.length ≤ c3 := by
    rcases x.rr.bys.2 with ⟨h0, h1⟩ | ⟨_, cap, cur, h0, _, _, h1, _⟩
    · omega
    · cases h0; exact h1
  have b1 := x.c1
  have b2 : w.cell? ⟨B, 2, none⟩ = some (.slice p2 g.ls.length c2) := by
    have := x.c2
    rw [ends_len] at this
    exact this
  have b3 := x.c3
  have b4 := x.c4
  have b5 := x.c5
  have b6 := x.c6
  have f1 := x.fz 1 (by decide)
  have f2 := x.fz 2 (by decide)
  have f3 := x.fz 3 (by decide)
  have f4 := x.fz 4 (by decide)
  have f5 := x.fz 5 (by decide)
  have f6 := x.fz 6 (by decide)
  have hfw := ok.few
  have hfw1 := hfw.1
  have hfw2 := hfw.2.1
  have hsf := ok.safe
  have hsb : g.safe ≤ g.by.length := by omega
  obtain ⟨N, hN⟩ : ∃ N, N = crN g keep := ⟨_, rfl⟩
  have hNe : Hid (N = crN g keep) := hN
  clear hfw
  by_cases k0 : 0 < keep
  · by_cases k1 : keep < (g.by.length : Int) - (g.safe : Int)
    · have eN : (N : Int) = g.safe + keep := by rw [hN, crN, if_pos k0, if_pos k1]; omega
      have EN : Hid _ := eN
      have hr1 : (g.safe : Int) + keep ≤ 100000 := by omega
      clear hN eN
      go_enter Tryz.func69, Tryz.ntmps69
      go_wp2
      go_quiet (fail)
      go_wp2
      rw [← EN.out]
      clear EN
      go_loopw [5, 6] (fun i e wr => ∃ (k q : Nat), k ≤ g.ls.length ∧ i = .int .i64 k ∧ e = .int .i64 ((frs (g.ls.take k)).length : Nat) ∧ (frs (g.ls.take k)).length ≤ N ∧ wr = w.drewN q) (fun i _ _ => g.ls.length - (intOf i).toNat)
      case atStart => exact ⟨0, _, Nat.zero_le _, rfl, rfl, Nat.zero_le _, rfl⟩
      case round =>
        obtain ⟨k, q, hk, rfl, rfl, hkN, rfl⟩ := hrel
        have hcut := RX.cut (k := k) (e := (frs (g.ls.take k)).length) (x.step (below_drewN (below_self w) q)) hk (by rw [ends_len]; exact hk) (frs_take_le g k)
        have hbc : But (fun j => j = B) w ((((((( w.drewN q).setCell ⟨B, 1, none⟩ (.slice p1 k c1)).setCell ⟨B, 2, none⟩ (.slice p2 k c2)).setCell ⟨B, 3, none⟩ (.slice p3 (frs (g.ls.take k)).length c3)).setCell ⟨B, 4, none⟩ (.int .i64 ((frs (g.ls.take k)).length : Nat))).setCell ⟨B, 5, none⟩ (.int .i64 (-1))).setCell ⟨B, 6, none⟩ (.bool false)) := ((((((But.below (below_drewN (below_self w) q)).trans setB).trans setB).trans setB).trans setB).trans setB).trans setB
        have fin : (k = g.ls.length ∨ N < (frs (g.ls.take (k + 1))).length) → RL ((((((( w.drewN q).setCell ⟨B, 1, none⟩ (.slice p1 k c1)).setCell ⟨B, 2, none⟩ (.slice p2 k c2)).setCell ⟨B, 3, none⟩ (.slice p3 (frs (g.ls.take k)).length c3)).setCell ⟨B, 4, none⟩ (.int .i64 ((frs (g.ls.take k)).length : Nat))).setCell ⟨B, 5, none⟩ (.int .i64 (-1))).setCell ⟨B, 6, none⟩ (.bool false)) X G B (crG g keep) := fun he => by
          have hf := fitL_end hk hkN he
          refine ⟨.slice p1 k c1, .slice p2 k c2, .slice p3 (frs (g.ls.take k)).length c3, ?_⟩
          have e1 : crG g keep = ⟨g.room, g.ls.take k, [], (frs (g.ls.take k)).length, -1, false⟩ := by rw [crG, ← hNe.out, hf]
          rw [e1]
          show RX _ _ _ _ g.room ((frs (g.ls.take k)).length : Nat) (-1) false _ _ _ (g.ls.take k) (ends 0 (g.ls.take k)) (frs (g.ls.take k) ++ [])
          rw [List.append_nil, ← ends_take, ← by_take (g := g) (k := k)]
          rw [by_take]
          have hcut2 := hcut
          rw [by_take] at hcut2
          exact hcut2
        replace hcut : Hid _ := hcut
        have hk2 : (k : Int) ≤ (c1 : Int) := by omega
        have hk3 : (k : Int) ≤ (c2 : Int) := by omega
        have hk4 := frs_take_le g k
        have hk5 : (((frs (g.ls.take k)).length : Nat) : Int) ≤ (c3 : Int) := by omega
        by_cases hlt : k < g.ls.length
        · have hlt' : (k : Int) < (g.ls.length : Int) := by omega
          have en2 : w.ownsRow 0 3 1 (.slice p2 g.ls.length c2) g.ls.length (inV (ends 0 g.ls)) := by
            have := x.rr.en
            rw [ends_len] at this
            exact this
          obtain ⟨eb, rfl⟩ : ∃ eb : Nat, p2 = some ⟨eb, 0, none⟩ := by
            rcases en2.2 with ⟨h0, h1⟩ | ⟨b, cap, cur, h0, _⟩
            · omega
            · cases h0; exact ⟨b, rfl⟩
          have ce : w.cell? ⟨eb, k, none⟩ = some (.int .i64 ((frs (g.ls.take (k + 1))).length : Nat)) := by
            rw [en2.cellAt k (by omega), inV_at (ends_at 0 g.ls k hlt), Nat.zero_add]
          have hb1 := frs_take_le g (k + 1)
          by_cases hle : (frs (g.ls.take (k + 1))).length ≤ N
          · have hle' : (((frs (g.ls.take (k + 1))).length : Nat) : Int) ≤ (N : Int) := by omega
            replace fin : Hid _ := fin
            replace hbc : Hid _ := hbc
            have hE1 : Hid _ := hle
            go_wp2
            exact ⟨⟨k + 1, q, by omega, by go_num, rfl, hE1.out, rfl⟩, by simp [intOf]; omega⟩
          · have hle' : ¬ (((frs (g.ls.take (k + 1))).length : Nat) : Int) ≤ (N : Int) := by omega
            have F : Hid _ := fin (.inr (by omega))
            replace hbc : Hid _ := hbc
            clear fin
            generalize (frs (g.ls.take (k + 1))).length = E1 at ce hle hle'
            generalize (frs (g.ls.take k)).length = E0 at hkN hk4 hk5 F hbc hcut
            go_wp2
            go_end0
            exact ⟨rfl, F.out, hbc.out⟩
        · have F : Hid _ := fin (.inl (by omega))
          replace hbc : Hid _ := hbc
          clear fin
          have hlt' : ¬ (k : Int) < (g.ls.length : Int) := by omega
          generalize (frs (g.ls.take k)).length = E0 at hkN hk4 hk5 F hbc hcut
          go_wp2
          go_end0
          exact ⟨rfl, F.out, hbc.out⟩
    · have eN : N = g.by.length := by rw [hN, crN, if_pos k0, if_neg k1]
      clear hN
      subst eN
      go_enter Tryz.func69, Tryz.ntmps69
      go_wp2
      go_quiet (fail)
      go_wp2
      go_loopw [5, 6] (fun i e wr => ∃ (k q : Nat), k ≤ g.ls.length ∧ i = .int .i64 k ∧ e = .int .i64 ((frs (g.ls.take k)).length : Nat) ∧ (frs (g.ls.take k)).length ≤ g.by.length ∧ wr = w.drewN q) (fun i _ _ => g.ls.length - (intOf i).toNat)
      case atStart => exact ⟨0, _, Nat.zero_le _, rfl, rfl, Nat.zero_le _, rfl⟩
      case round =>
        obtain ⟨k, q, hk, rfl, rfl, hkN, rfl⟩ := hrel
        have hcut := RX.cut (k := k) (e := (frs (g.ls.take k)).length) (x.step (below_drewN (below_self w) q)) hk (by rw [ends_len]; exact hk) (frs_take_le g k)
        have hbc : But (fun j => j = B) w ((((((( w.drewN q).setCell ⟨B, 1, none⟩ (.slice p1 k c1)).setCell ⟨B, 2, none⟩ (.slice p2 k c2)).setCell ⟨B, 3, none⟩ (.slice p3 (frs (g.ls.take k)).length c3)).setCell ⟨B, 4, none⟩ (.int .i64 ((frs (g.ls.take k)).length : Nat))).setCell ⟨B, 5, none⟩ (.int .i64 (-1))).setCell ⟨B, 6, none⟩ (.bool false)) := ((((((But.below (below_drewN (below_self w) q)).trans setB).trans setB).trans setB).trans setB).trans setB).trans setB
        have fin : (k = g.ls.length ∨ g.by.length < (frs (g.ls.take (k + 1))).length) → RL ((((((( w.drewN q).setCell ⟨B, 1, none⟩ (.slice p1 k c1)).setCell ⟨B, 2, none⟩ (.slice p2 k c2)).setCell ⟨B, 3, none⟩ (.slice p3 (frs (g.ls.take k)).length c3)).setCell ⟨B, 4, none⟩ (.int .i64 ((frs (g.ls.take k)).length : Nat))).setCell ⟨B, 5, none⟩ (.int .i64 (-1))).setCell ⟨B, 6, none⟩ (.bool false)) X G B (crG g keep) := fun he => by
          have hf := fitL_end hk hkN he
          refine ⟨.slice p1 k c1, .slice p2 k c2, .slice p3 (frs (g.ls.take k)).length c3, ?_⟩
          have e1 : crG g keep = ⟨g.room, g.ls.take k, [], (frs (g.ls.take k)).length, -1, false⟩ := by rw [crG, ← hNe.out, hf]
          rw [e1]
          show RX _ _ _ _ g.room ((frs (g.ls.take k)).length : Nat) (-1) false _ _ _ (g.ls.take k) (ends 0 (g.ls.take k)) (frs (g.ls.take k) ++ [])
          rw [List.append_nil, ← ends_take, ← by_take (g := g) (k := k)]
          rw [by_take]
          have hcut2 := hcut
          rw [by_take] at hcut2
          exact hcut2
        replace hcut : Hid _ := hcut
        have hk2 : (k : Int) ≤ (c1 : Int) := by omega
        have hk3 : (k : Int) ≤ (c2 : Int) := by omega
        have hk4 := frs_take_le g k
        have hk5 : (((frs (g.ls.take k)).length : Nat) : Int) ≤ (c3 : Int) := by omega
        by_cases hlt : k < g.ls.length
        · have hlt' : (k : Int) < (g.ls.length : Int) := by omega
          have en2 : w.ownsRow 0 3 1 (.slice p2 g.ls.length c2) g.ls.length (inV (ends 0 g.ls)) := by
            have := x.rr.en
            rw [ends_len] at this
            exact this
          obtain ⟨eb, rfl⟩ : ∃ eb : Nat, p2 = some ⟨eb, 0, none⟩ := by
            rcases en2.2 with ⟨h0, h1⟩ | ⟨b, cap, cur, h0, _⟩
            · omega
            · cases h0; exact ⟨b, rfl⟩
          have ce : w.cell? ⟨eb, k, none⟩ = some (.int .i64 ((frs (g.ls.take (k + 1))).length : Nat)) := by
            rw [en2.cellAt k (by omega), inV_at (ends_at 0 g.ls k hlt), Nat.zero_add]
          have hb1 := frs_take_le g (k + 1)
          by_cases hle : (frs (g.ls.take (k + 1))).length ≤ g.by.length
          · have hle' : (((frs (g.ls.take (k + 1))).length : Nat) : Int) ≤ (g.by.length : Int) := by omega
            replace fin : Hid _ := fin
            replace hbc : Hid _ := hbc
            have hE1 : Hid _ := hle
            go_wp2
            exact ⟨⟨k + 1, q, by omega, by go_num, rfl, hE1.out, rfl⟩, by simp [intOf]; omega⟩
          · have hle' : ¬ (((frs (g.ls.take (k + 1))).length : Nat) : Int) ≤ (g.by.length : Int) := by omega
            have F : Hid _ := fin (.inr (by omega))
            replace hbc : Hid _ := hbc
            clear fin
            generalize (frs (g.ls.take (k + 1))).length = E1 at ce hle hle'
            generalize (frs (g.ls.take k)).length = E0 at hkN hk4 hk5 F hbc hcut
            go_wp2
            go_end0
            exact ⟨rfl, F.out, hbc.out⟩
        · have F : Hid _ := fin (.inl (by omega))
          replace hbc : Hid _ := hbc
          clear fin
          have hlt' : ¬ (k : Int) < (g.ls.length : Int) := by omega
          generalize (frs (g.ls.take k)).length = E0 at hkN hk4 hk5 F hbc hcut
          go_wp2
          go_end0
          exact ⟨rfl, F.out, hbc.out⟩
  · have eN : N = g.safe := by rw [hN, crN, if_neg k0]
    have g0 : decide (0 < keep) = false := by simpa using k0
    clear hN
    subst eN
    go_enter Tryz.func69, Tryz.ntmps69
    go_wp2
    go_quiet (fail)
    go_wp2
    go_loopw [5, 6] (fun i e wr => ∃ (k q : Nat), k ≤ g.ls.length ∧ i = .int .i64 k ∧ e = .int .i64 ((frs (g.ls.take k)).length : Nat) ∧ (frs (g.ls.take k)).length ≤ g.safe ∧ wr = w.drewN q) (fun i _ _ => g.ls.length - (intOf i).toNat)
    case atStart => exact ⟨0, _, Nat.zero_le _, rfl, rfl, Nat.zero_le _, rfl⟩
    case round =>
      obtain ⟨k, q, hk, rfl, rfl, hkN, rfl⟩ := hrel
      have hcut := RX.cut (k := k) (e := (frs (g.ls.take k)).length) (x.step (below_drewN (below_self w) q)) hk (by rw [ends_len]; exact hk) (frs_take_le g k)
      have hbc : But (fun j => j = B) w ((((((( w.drewN q).setCell ⟨B, 1, none⟩ (.slice p1 k c1)).setCell ⟨B, 2, none⟩ (.slice p2 k c2)).setCell ⟨B, 3, none⟩ (.slice p3 (frs (g.ls.take k)).length c3)).setCell ⟨B, 4, none⟩ (.int .i64 ((frs (g.ls.take k)).length : Nat))).setCell ⟨B, 5, none⟩ (.int .i64 (-1))).setCell ⟨B, 6, none⟩ (.bool false)) := ((((((But.below (below_drewN (below_self w) q)).trans setB).trans setB).trans setB).trans setB).trans setB).trans setB
      have fin : (k = g.ls.length ∨ g.safe < (frs (g.ls.take (k + 1))).length) → RL ((((((( w.drewN q).setCell ⟨B, 1, none⟩ (.slice p1 k c1)).setCell ⟨B, 2, none⟩ (.slice p2 k c2)).setCell ⟨B, 3, none⟩ (.slice p3 (frs (g.ls.take k)).length c3)).setCell ⟨B, 4, none⟩ (.int .i64 ((frs (g.ls.take k)).length : Nat))).setCell ⟨B, 5, none⟩ (.int .i64 (-1))).setCell ⟨B, 6, none⟩ (.bool false)) X G B (crG g keep) := fun he => by
        have hf := fitL_end hk hkN he
        refine ⟨.slice p1 k c1, .slice p2 k c2, .slice p3 (frs (g.ls.take k)).length c3, ?_⟩
        have e1 : crG g keep = ⟨g.room, g.ls.take k, [], (frs (g.ls.take k)).length, -1, false⟩ := by rw [crG, ← hNe.out, hf]
        rw [e1]
        show RX _ _ _ _ g.room ((frs (g.ls.take k)).length : Nat) (-1) false _ _ _ (g.ls.take k) (ends 0 (g.ls.take k)) (frs (g.ls.take k) ++ [])
        rw [List.append_nil, ← ends_take, ← by_take (g := g) (k := k)]
        rw [by_take]
        have hcut2 := hcut
        rw [by_take] at hcut2
        exact hcut2
      replace hcut : Hid _ := hcut
      have hk2 : (k : Int) ≤ (c1 : Int) := by omega
      have hk3 : (k : Int) ≤ (c2 : Int) := by omega
      have hk4 := frs_take_le g k
      have hk5 : (((frs (g.ls.take k)).length : Nat) : Int) ≤ (c3 : Int) := by omega
      by_cases hlt : k < g.ls.length
      · have hlt' : (k : Int) < (g.ls.length : Int) := by omega
        have en2 : w.ownsRow 0 3 1 (.slice p2 g.ls.length c2) g.ls.length (inV (ends 0 g.ls)) := by
          have := x.rr.en
          rw [ends_len] at this
          exact this
        obtain ⟨eb, rfl⟩ : ∃ eb : Nat, p2 = some ⟨eb, 0, none⟩ := by
          rcases en2.2 with ⟨h0, h1⟩ | ⟨b, cap, cur, h0, _⟩
          · omega
          · cases h0; exact ⟨b, rfl⟩
        have ce : w.cell? ⟨eb, k, none⟩ = some (.int .i64 ((frs (g.ls.take (k + 1))).length : Nat)) := by
          rw [en2.cellAt k (by omega), inV_at (ends_at 0 g.ls k hlt), Nat.zero_add]
        have hb1 := frs_take_le g (k + 1)
        by_cases hle : (frs (g.ls.take (k + 1))).length ≤ g.safe
        · have hle' : (((frs (g.ls.take (k + 1))).length : Nat) : Int) ≤ (g.safe : Int) := by omega
          replace fin : Hid _ := fin
          replace hbc : Hid _ := hbc
          have hE1 : Hid _ := hle
          go_wp2
          exact ⟨⟨k + 1, q, by omega, by go_num, rfl, hE1.out, rfl⟩, by simp [intOf]; omega⟩
        · have hle' : ¬ (((frs (g.ls.take (k + 1))).length : Nat) : Int) ≤ (g.safe : Int) := by omega
          have F : Hid _ := fin (.inr (by omega))
          replace hbc : Hid _ := hbc
          clear fin
          generalize (frs (g.ls.take (k + 1))).length = E1 at ce hle hle'
          generalize (frs (g.ls.take k)).length = E0 at hkN hk4 hk5 F hbc hcut
          go_wp2
          go_end0
          exact ⟨rfl, F.out, hbc.out⟩
      · have F : Hid _ := fin (.inl (by omega))
        replace hbc : Hid _ := hbc
        clear fin
        have hlt' : ¬ (k : Int) < (g.ls.length : Int) := by omega
        generalize (frs (g.ls.take k)).length = E0 at hkN hk4 hk5 F hbc hcut
        go_wp2
        go_end0
        exact ⟨rfl, F.out, hbc.out⟩
end Go.Proofs.YteipfdjpndhgkaaGreatDoor
