/- All blocks but some are as they were. -/
import Derived.Test.YtdjiodikefoliaaDoorCAdBase
import Derived.Test.YtdjiodikefoliaaDoorCMM
namespace Go.Proofs.YtdjiodikefoliaaDoor
open Go.RowKit

/-- All blocks that were there are as they were, but for those of F. -/
structure But (F : Nat → Prop) (w w' : World) : Prop where
  os : w'.os = w.os
  tape : w'.tape = w.tape
  output : w'.output = w.output
  size : w.heap.size ≤ w'.heap.size
  block : ∀ k, k < w.heap.size → ¬ F k → w'.heap[k]? = w.heap[k]?
theorem But.refl (F : Nat → Prop) (w : World) : But F w w := ⟨rfl, rfl, rfl, Nat.le_refl _, fun _ _ _ => rfl⟩
theorem But.trans {F : Nat → Prop} {a b c : World} (h : But F a b) (k : But F b c) : But F a c :=
  ⟨k.os.trans h.os, k.tape.trans h.tape, k.output.trans h.output, Nat.le_trans h.size k.size, fun i hi hF => (k.block i (Nat.lt_of_lt_of_le hi h.size) hF).trans (h.block i hi hF)⟩
/-- What is done to blocks of G that were not there, or that are of F. -/
theorem But.then {F G : Nat → Prop} {a b c : World} (h : But F a b) (k : But G b c) (hG : ∀ i, i < a.heap.size → G i → F i) : But F a c :=
  ⟨k.os.trans h.os, k.tape.trans h.tape, k.output.trans h.output, Nat.le_trans h.size k.size, fun i hi hF => (k.block i (Nat.lt_of_lt_of_le hi h.size) (fun g => hF (hG i hi g))).trans (h.block i hi hF)⟩
theorem But.mono {F G : Nat → Prop} {w w' : World} (h : But F w w') (hG : ∀ k, k < w.heap.size → F k → G k) : But G w w' := ⟨h.os, h.tape, h.output, h.size, fun k hk hF => h.block k hk (fun g => hF (hG k hk g))⟩
theorem But.below {F : Nat → Prop} {w w' : World} (h : Below w.heap.size w w') : But F w w' := ⟨h.os, h.tape, h.output, h.size, fun k hk _ => h.block k hk⟩
theorem But.step {F : Nat → Prop} {a b c : World} (h : But F a b) (k : Below b.heap.size b c) : But F a c := h.trans (.below k)
/-- Below a number that nothing of F is below. -/
theorem But.under {F : Nat → Prop} {w w' : World} (h : But F w w') {n : Nat} (hn : n ≤ w.heap.size) (hF : ∀ k, k < n → ¬ F k) : Below n w w' := ⟨h.os, h.tape, h.output, h.size, fun k hk => h.block k (by omega) (hF k hk)⟩
theorem But.under2 {F : Nat → Prop} {n : Nat} {a b c : World} (h : Below n a b) (k : But F b c) (hn : n ≤ b.heap.size) (hF : ∀ i, i < n → ¬ F i) : Below n a c := h.trans (k.under hn hF)
theorem But.alloc {F : Nat → Prop} {a w : World} (h : But F a w) (o : Obj) : But F a (w.alloc o) := h.step (below_al (below_self _) _)
theorem But.drew {F : Nat → Prop} {a w : World} (h : But F a w) : But F a w.drew := ⟨h.os, h.tape, h.output, h.size, h.block⟩
theorem But.drewN {F : Nat → Prop} {a w : World} (h : But F a w) (n : Nat) : But F a (w.drewN n) := h.step (below_drewN (below_self _) n)
theorem But.setCell {F : Nat → Prop} {a w : World} (h : But F a w) {p : Addr} (hp : F p.block ∨ a.heap.size ≤ p.block) (u : Value) : But F a (w.setCell p u) :=
  ⟨h.os, h.tape, h.output, by have := h.size; simpa [World.setCell] using this, fun k hk hF => by
    have hne : k ≠ p.block := fun e => by
      subst e
      rcases hp with g | g
      · exact hF g
      · omega
    exact (Below.heap_setCell w p u k hne).trans (h.block k hk hF)⟩
theorem But.grown {F : Nat → Prop} {a w w' : World} {row : Option Nat} (h : But F a w) (hg : w.grownBy w' row) (hr : ∀ k, row = some k → F k ∨ a.heap.size ≤ k) : But F a w' :=
  ⟨hg.os.trans h.os, hg.tape.trans h.tape, hg.output.trans h.output, Nat.le_trans h.size hg.size, fun k hk hF => by
    exact (hg.block k (Nat.lt_of_lt_of_le hk h.size) (fun e => (hr k e.symm).elim hF (fun g => by omega))).trans (h.block k hk hF)⟩
theorem But.cell {F : Nat → Prop} {w w' : World} (h : But F w w') {p : Addr} (hp : p.block < w.heap.size) (hF : ¬ F p.block) : w'.cell? p = w.cell? p := World.cell?_of_block (w := w) (h.block p.block hp hF)
theorem But.frozen {F : Nat → Prop} {w w' : World} (h : But F w w') {p : Addr} (hp : p.block < w.heap.size) (hF : ¬ F p.block) : w'.frozen? p = w.frozen? p := World.frozen?_of_block (w := w) (h.block p.block hp hF)
end Go.Proofs.YtdjiodikefoliaaDoor

/- Versions and pairs in memory; the reference's table. -/
namespace Go.Proofs.YtdjiodikefoliaaDoor
open Go.RowKit

/-- Versions lie at the address of a slice, four cells each, to be read. -/
def VrC (w : World) (b off : Nat) (l : List Vs.Ver) : Prop :=
  ∀ i x, l[i]? = some x → w.cell? ⟨b, off + i * 4, none⟩ = some (.string x.k) ∧ w.cell? ⟨b, off + i * 4 + 1, none⟩ = some (.string x.v) ∧ w.cell? ⟨b, off + i * 4 + 2, none⟩ = some (.int .i64 x.n) ∧ w.cell? ⟨b, off + i * 4 + 3, none⟩ = some (.bool x.g)
/-- .. in a block of G. -/
def VrAt (w : World) (G : Nat → Prop) (p : Option Addr) (l : List Vs.Ver) : Prop :=
  0 < l.length → ∃ b off, p = some ⟨b, off, none⟩ ∧ b < w.heap.size ∧ G b ∧ VrC w b off l
theorem VrAt.nil (w : World) (G : Nat → Prop) (p : Option Addr) : VrAt w G p [] := fun h => by simp at h
theorem VrAt.but {w w' : World} {F G : Nat → Prop} {p : Option Addr} {l : List Vs.Ver} (h : VrAt w G p l) (hb : But F w w') (hF : ∀ k, k < w.heap.size → G k → ¬ F k) : VrAt w' G p l := by
  intro hl
  obtain ⟨b, off, rfl, hlt, hg, hc⟩ := h hl
  refine ⟨b, off, rfl, Nat.lt_of_lt_of_le hlt hb.size, hg, fun i x hx => ?_⟩
  have hn := hF b hlt hg
  rw [hb.cell (p := ⟨b, off + i * 4, none⟩) hlt hn, hb.cell (p := ⟨b, off + i * 4 + 1, none⟩) hlt hn, hb.cell (p := ⟨b, off + i * 4 + 2, none⟩) hlt hn, hb.cell (p := ⟨b, off + i * 4 + 3, none⟩) hlt hn]
  exact hc i x hx
theorem VrAt.step {w w' : World} {G : Nat → Prop} {p : Option Addr} {l : List Vs.Ver} (h : VrAt w G p l) (hb : Below w.heap.size w w') : VrAt w' G p l :=
  h.but (F := fun _ => False) (.below hb) (fun _ _ _ => id)
theorem VrAt.mono {w : World} {G H : Nat → Prop} {p : Option Addr} {l : List Vs.Ver} (h : VrAt w G p l) (hH : ∀ k, k < w.heap.size → G k → H k) : VrAt w H p l := by
  intro hl
  obtain ⟨b, off, rfl, hlt, hg, hc⟩ := h hl
  exact ⟨b, off, rfl, hlt, hH b hlt hg, hc⟩
/-- Versions as cells. -/
def verV (l : List Vs.Ver) : List Value := l.flatMap fun x => [.string x.k, .string x.v, .int .i64 x.n, .bool x.g]
theorem verV_len : ∀ l : List Vs.Ver, (verV l).length = l.length * 4
  | [] => rfl
  | s :: r => by show ((verV r).length + 1 + 1 + 1 + 1) = _; rw [verV_len r, List.length_cons]; omega
theorem verV_app (l m : List Vs.Ver) : verV (l ++ m) = verV l ++ verV m := by simp [verV]
theorem verV_at : ∀ (l : List Vs.Ver) (i : Nat) (x : Vs.Ver), l[i]? = some x → (verV l)[i * 4]? = some (.string x.k) ∧ (verV l)[i * 4 + 1]? = some (.string x.v) ∧ (verV l)[i * 4 + 2]? = some (.int .i64 x.n) ∧ (verV l)[i * 4 + 3]? = some (.bool x.g)
  | s :: r, 0, x, h => by cases (Option.some.inj h); exact ⟨rfl, rfl, rfl, rfl⟩
  | s :: r, i + 1, x, h => by
    have := verV_at r i x (by simpa using h)
    rw [show (i + 1) * 4 = i * 4 + 4 from by omega, show i * 4 + 4 + 1 = i * 4 + 1 + 4 from by omega, show i * 4 + 4 + 2 = i * 4 + 2 + 4 from by omega, show i * 4 + 4 + 3 = i * 4 + 3 + 4 from by omega]
    exact this
theorem verV_one (l : List Vs.Ver) : ∀ y ∈ verV l, y.oneCell' = true := by
  intro y hy
  simp only [verV, List.mem_flatMap] at hy
  obtain ⟨s, _, hs⟩ := hy
  simp at hs
  rcases hs with rfl | rfl | rfl | rfl <;> rfl
/-- What a row of the call's own holds can be read. -/
theorem vrAt_own {w : World} {B n cap e : Nat} {p : Option Addr} {l : List Vs.Ver} (h : w.ownsRow B e 4 (.slice p n cap) l.length (verV l)) : n = l.length ∧ VrAt w (fun k => B ≤ k) p l := by
  rcases h.2 with ⟨h0, h1⟩ | ⟨g, cap', cur, h0, hB, hg, _, _, _, _⟩
  · cases h0; exact ⟨h1.symm, fun hp => by omega⟩
  · cases h0
    refine ⟨rfl, fun _ => ⟨g, 0, rfl, (Array.getElem?_eq_some_iff.1 hg).1, hB, fun i x hx => ?_⟩⟩
    have hi := (List.getElem?_eq_some_iff.1 hx).1
    have := verV_at l i x hx
    rw [Nat.zero_add, h.cellAt (i * 4) (by omega), h.cellAt (i * 4 + 1) (by omega), h.cellAt (i * 4 + 2) (by omega), h.cellAt (i * 4 + 3) (by omega)]
    exact this
/-- The reference's table, in block B, its blocks of G. -/
structure RT (w : World) (G : Nat → Prop) (B : Nat) (l : List Vs.Ver) (top : Int) : Prop where
  gB : G B
  row : ∃ p cap, w.cell? ⟨B, 0, none⟩ = some (.slice p l.length cap) ∧ VrAt w (fun k => G k ∧ k ≠ B) p l
  c1 : w.cell? ⟨B, 1, none⟩ = some (.int .i64 top)
  f0 : w.frozen? ⟨B, 0, none⟩ = false
  f1 : w.frozen? ⟨B, 1, none⟩ = false
theorem RT.lt {w : World} {G : Nat → Prop} {B : Nat} {l : List Vs.Ver} {top : Int} (h : RT w G B l top) : B < w.heap.size := World.block_lt_of_cell? _ _ h.c1
theorem RT.but {w w' : World} {F G : Nat → Prop} {B : Nat} {l : List Vs.Ver} {top : Int} (h : RT w G B l top) (hb : But F w w') (hF : ∀ k, k < w.heap.size → G k → ¬ F k) : RT w' G B l top := by
  have hB := hF B h.lt h.gB
  obtain ⟨p, cap, h1, h2⟩ := h.row
  exact ⟨h.gB, ⟨p, cap, (hb.cell (p := ⟨B, 0, none⟩) h.lt hB).trans h1, h2.but hb (fun k hk hg => hF k hk hg.1)⟩, (hb.cell (p := ⟨B, 1, none⟩) h.lt hB).trans h.c1, (hb.frozen (p := ⟨B, 0, none⟩) h.lt hB).trans h.f0, (hb.frozen (p := ⟨B, 1, none⟩) h.lt hB).trans h.f1⟩
theorem RT.step {w w' : World} {G : Nat → Prop} {B : Nat} {l : List Vs.Ver} {top : Int} (h : RT w G B l top) (hb : Below w.heap.size w w') : RT w' G B l top := h.but (F := fun _ => False) (.below hb) (fun _ _ _ => id)
theorem RT.mono {w : World} {G H : Nat → Prop} {B : Nat} {l : List Vs.Ver} {top : Int} (h : RT w G B l top) (hH : ∀ k, k < w.heap.size → G k → H k) : RT w H B l top := by
  obtain ⟨p, cap, h1, h2⟩ := h.row
  exact ⟨hH B h.lt h.gB, ⟨p, cap, h1, h2.mono (fun k hk hg => ⟨hH k hk hg.1, hg.2⟩)⟩, h.c1, h.f0, h.f1⟩
/-- Pairs lie at the address of a slice, two cells each, to be read. -/
def PrC (w : World) (b off : Nat) (l : List Vs.Pr) : Prop :=
  ∀ i x, l[i]? = some x → w.cell? ⟨b, off + i * 2, none⟩ = some (.string x.1) ∧ w.cell? ⟨b, off + i * 2 + 1, none⟩ = some (.string x.2)
def PrAt (w : World) (p : Option Addr) (l : List Vs.Pr) : Prop :=
  0 < l.length → ∃ b off, p = some ⟨b, off, none⟩ ∧ b < w.heap.size ∧ PrC w b off l
theorem PrAt.nil (w : World) (p : Option Addr) : PrAt w p [] := fun h => by simp at h
theorem PrAt.step {w w' : World} {p : Option Addr} {l : List Vs.Pr} (h : PrAt w p l) (hb : Below w.heap.size w w') : PrAt w' p l := by
  intro hl
  obtain ⟨b, off, rfl, hlt, hc⟩ := h hl
  refine ⟨b, off, rfl, Nat.lt_of_lt_of_le hlt hb.size, fun i x hx => ?_⟩
  rw [hb.cell (p := ⟨b, off + i * 2, none⟩) hlt, hb.cell (p := ⟨b, off + i * 2 + 1, none⟩) hlt]
  exact hc i x hx
def prV (l : List Vs.Pr) : List Value := l.flatMap fun x => [.string x.1, .string x.2]
theorem prV_len : ∀ l : List Vs.Pr, (prV l).length = l.length * 2
  | [] => rfl
  | s :: r => by show ((prV r).length + 1 + 1) = _; rw [prV_len r, List.length_cons]; omega
theorem prV_app (l m : List Vs.Pr) : prV (l ++ m) = prV l ++ prV m := by simp [prV]
theorem prV_at : ∀ (l : List Vs.Pr) (i : Nat) (x : Vs.Pr), l[i]? = some x → (prV l)[i * 2]? = some (.string x.1) ∧ (prV l)[i * 2 + 1]? = some (.string x.2)
  | s :: r, 0, x, h => by cases (Option.some.inj h); exact ⟨rfl, rfl⟩
  | s :: r, i + 1, x, h => by
    have := prV_at r i x (by simpa using h)
    rw [show (i + 1) * 2 = i * 2 + 2 from by omega, show i * 2 + 2 + 1 = i * 2 + 1 + 2 from by omega]
    exact this
theorem prAt_own {w : World} {B n cap e : Nat} {p : Option Addr} {l : List Vs.Pr} (h : w.ownsRow B e 2 (.slice p n cap) l.length (prV l)) : n = l.length ∧ PrAt w p l := by
  rcases h.2 with ⟨h0, h1⟩ | ⟨g, cap', cur, h0, _, hg, _, _, _, _⟩
  · cases h0; exact ⟨h1.symm, fun hp => by omega⟩
  · cases h0
    refine ⟨rfl, fun _ => ⟨g, 0, rfl, (Array.getElem?_eq_some_iff.1 hg).1, fun i x hx => ?_⟩⟩
    have hi := (List.getElem?_eq_some_iff.1 hx).1
    have := prV_at l i x hx
    rw [Nat.zero_add, h.cellAt (i * 2) (by omega), h.cellAt (i * 2 + 1) (by omega)]
    exact this
theorem own_below {w w' : World} {B e size n : Nat} {v : Value} {xs : List Value} (h : w.ownsRow B e size v n xs) (hb : Below w.heap.size w w') : w'.ownsRow B e size v n xs := by
  refine ⟨h.1, ?_⟩
  rcases h.2 with hn | ⟨g, cap, cur, rfl, h1, hg, rest⟩
  · exact .inl hn
  · exact .inr ⟨g, cap, cur, rfl, h1, (hb.block g (Array.getElem?_eq_some_iff.1 hg).1).trans hg, rest⟩
theorem own_form {w : World} {B e size n : Nat} {v : Value} {xs : List Value} (h : w.ownsRow B e size v n xs) : ∃ p cp, v = .slice p n cp := by
  rcases h.2 with ⟨rfl, rfl⟩ | ⟨g, cp, _, rfl, _⟩
  · exact ⟨_, _, rfl⟩
  · exact ⟨_, _, rfl⟩
open Vs in
theorem leq_bl (lo k : ByteArray) : (Op.bytesLess lo.toList k.toList || lo.toList == k.toList) = !bl k lo := by
  rw [beq_str]
  cases h : bl k lo
  · by_cases e : lo = k
    · simp [e]
    · have : bl lo k = true := by
        cases g : bl lo k
        · exact absurd (bl_tri g h) e
        · rfl
      rw [bl] at this
      simp [this]
  · have h1 := bl_asym h
    have h2 : lo ≠ k := fun e => by rw [e, bl_irr] at h; cases h
    rw [bl] at h1
    simp [h1, h2]
end Go.Proofs.YtdjiodikefoliaaDoor
