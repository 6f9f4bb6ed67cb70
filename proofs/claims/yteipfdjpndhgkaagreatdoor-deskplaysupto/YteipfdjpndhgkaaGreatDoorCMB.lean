/- All blocks but some are as they were. -/
import Derived.Test.YteipfdjpndhgkaaGreatDoorCAdBase
import Derived.Test.YteipfdjpndhgkaaGreatDoorCMM
namespace Go.Proofs.YteipfdjpndhgkaaGreatDoor
open Go.RowKit

/-- All blocks that were there are as they were, but for those of F. -/
structure But (F : Nat → Prop) (w w' : World) : Prop where
  os : w'.os = w.os
  tape : w'.tape = w.tape
  output : w'.output = w.output
  size : w.heap.size ≤ w'.heap.size
  block : ∀ k, k < w.heap.size → ¬ F k → w'.heap[k]? = w.heap[k]?
theorem But.refl (F : Nat → Prop) (w : World) : But F w w := ⟨rfl, rfl, rfl, Nat.le_refl _, fun _ _ _ => rfl⟩
theorem But.trans {F : Nat → Prop} {a b c : World} (h : But F a b) (k : But F b c) : But F a c :=
  ⟨k.os.trans h.os, k.tape.trans h.tape, k.output.trans h.output, Nat.le_trans h.size k.size, fun i hi hF => (k.block i (Nat.lt_of_lt_of_le hi h.size) hF).trans (h.block i hi hF)⟩
/-- What is done to blocks of G that were not there, or that are of F. -/
theorem But.then {F G : Nat → Prop} {a b c : World} (h : But F a b) (k : But G b c) (hG : ∀ i, i < a.heap.size → G i → F i) : But F a c :=
  ⟨k.os.trans h.os, k.tape.trans h.tape, k.output.trans h.output, Nat.le_trans h.size k.size, fun i hi hF => (k.block i (Nat.lt_of_lt_of_le hi h.size) (fun g => hF (hG i hi g))).trans (h.block i hi hF)⟩
theorem But.mono {F G : Nat → Prop} {w w' : World} (h : But F w w') (hG : ∀ k, k < w.heap.size → F k → G k) : But G w w' := ⟨h.os, h.tape, h.output, h.size, fun k hk hF => h.block k hk (fun g => hF (hG k hk g))⟩
theorem But.below {F : Nat → Prop} {w w' : World} (h : Below w.heap.size w w') : But F w w' := ⟨h.os, h.tape, h.output, h.size, fun k hk _ => h.block k hk⟩
theorem But.step {F : Nat → Prop} {a b c : World} (h : But F a b) (k : Below b.heap.size b c) : But F a c := h.trans (.below k)
/-- Below a number that nothing of F is below. -/
theorem But.under {F : Nat → Prop} {w w' : World} (h : But F w w') {n : Nat} (hn : n ≤ w.heap.size) (hF : ∀ k, k < n → ¬ F k) : Below n w w' := ⟨h.os, h.tape, h.output, h.size, fun k hk => h.block k (by omega) (hF k hk)⟩
theorem But.under2 {F : Nat → Prop} {n : Nat} {a b c : World} (h : Below n a b) (k : But F b c) (hn : n ≤ b.heap.size) (hF : ∀ i, i < n → ¬ F i) : Below n a c := h.trans (k.under hn hF)
theorem But.alloc {F : Nat → Prop} {a w : World} (h : But F a w) (o : Obj) : But F a (w.alloc o) := h.step (below_al (below_self _) _)
theorem But.drew {F : Nat → Prop} {a w : World} (h : But F a w) : But F a w.drew := ⟨h.os, h.tape, h.output, h.size, h.block⟩
theorem But.drewN {F : Nat → Prop} {a w : World} (h : But F a w) (n : Nat) : But F a (w.drewN n) := h.step (below_drewN (below_self _) n)
theorem But.setCell {F : Nat → Prop} {a w : World} (h : But F a w) {p : Addr} (hp : F p.block ∨ a.heap.size ≤ p.block) (u : Value) : But F a (w.setCell p u) :=
  ⟨h.os, h.tape, h.output, by have := h.size; simpa [World.setCell] using this, fun k hk hF => by
    have hne : k ≠ p.block := fun e => by
      subst e
      rcases hp with g | g
      · exact hF g
      · omega
    exact (Below.heap_setCell w p u k hne).trans (h.block k hk hF)⟩
theorem But.grown {F : Nat → Prop} {a w w' : World} {row : Option Nat} (h : But F a w) (hg : w.grownBy w' row) (hr : ∀ k, row = some k → F k ∨ a.heap.size ≤ k) : But F a w' :=
  ⟨hg.os.trans h.os, hg.tape.trans h.tape, hg.output.trans h.output, Nat.le_trans h.size hg.size, fun k hk hF => by
    exact (hg.block k (Nat.lt_of_lt_of_le hk h.size) (fun e => (hr k e.symm).elim hF (fun g => by omega))).trans (h.block k hk hF)⟩
theorem But.cell {F : Nat → Prop} {w w' : World} (h : But F w w') {p : Addr} (hp : p.block < w.heap.size) (hF : ¬ F p.block) : w'.cell? p = w.cell? p := World.cell?_of_block (w := w) (h.block p.block hp hF)
theorem But.frozen {F : Nat → Prop} {w w' : World} (h : But F w w') {p : Addr} (hp : p.block < w.heap.size) (hF : ¬ F p.block) : w'.frozen? p = w.frozen? p := World.frozen?_of_block (w := w) (h.block p.block hp hF)
end Go.Proofs.YteipfdjpndhgkaaGreatDoor

/- Versions and pairs in memory; the reference's table. -/
namespace Go.Proofs.YteipfdjpndhgkaaGreatDoor
open Go.RowKit

/-- Versions lie at the address of a slice, four cells each, to be read. -/
def VrC (w : World) (b off : Nat) (l : List Vs.Ver) : Prop :=
  ∀ i x, l[i]? = some x → w.cell? ⟨b, off + i * 4, none⟩ = some (.string x.k) ∧ w.cell? ⟨b, off + i * 4 + 1, none⟩ = some (.string x.v) ∧ w.cell? ⟨b, off + i * 4 + 2, none⟩ = some (.int .i64 x.n) ∧ w.cell? ⟨b, off + i * 4 + 3, none⟩ = some (.bool x.g)
/-- .. in a block of G. -/
def VrAt (w : World) (G : Nat → Prop) (p : Option Addr) (l : List Vs.Ver) : Prop :=
  0 < l.length → ∃ b off, p = some ⟨b, off, none⟩ ∧ b < w.heap.size ∧ G b ∧ VrC w b off l
theorem VrAt.nil (w : World) (G : Nat → Prop) (p : Option Addr) : VrAt w G p [] := fun h => by simp at h
theorem VrAt.but {w w' : World} {F G : Nat → Prop} {p : Option Addr} {l : List Vs.Ver} (h : VrAt w G p l) (hb : But F w w') (hF : ∀ k, k < w.heap.size → G k → ¬ F k) : VrAt w' G p l := by
  intro hl
  obtain ⟨b, off, rfl, hlt, hg, hc⟩ := h hl
  refine ⟨b, off, rfl, Nat.lt_of_lt_of_le hlt hb.size, hg, fun i x hx => ?_⟩
  have hn := hF b hlt hg
  rw [hb.cell (p := ⟨b, off + i * 4, none⟩) hlt hn, hb.cell (p := ⟨b, off + i * 4 + 1, none⟩) hlt hn, hb.cell (p := ⟨b, off + i * 4 + 2, none⟩) hlt hn, hb.cell (p := ⟨b, off + i * 4 + 3, none⟩) hlt hn]
  exact hc i x hx
theorem VrAt.step {w w' : World} {G : Nat → Prop} {p : Option Addr} {l : List Vs.Ver} (h : VrAt w G p l) (hb : Below w.heap.size w w') : VrAt w' G p l :=
  h.but (F := fun _ => False) (.below hb) (fun _ _ _ => id)
theorem VrAt.mono {w : World} {G H : Nat → Prop} {p : Option Addr} {l : List Vs.Ver} (h : VrAt w G p l) (hH : ∀ k, k < w.heap.size → G k → H k) : VrAt w H p l := by
  intro hl
  obtain ⟨b, off, rfl, hlt, hg, hc⟩ := h hl
  exact ⟨b, off, rfl, hlt, hH b hlt hg, hc⟩
/-- Versions as cells. -/
def verV (l : List Vs.Ver) : List Value := l.flatMap fun x => [.string x.k, .string x.v, .int .i64 x.n, .bool x.g]
theorem verV_len : ∀ l : List Vs.Ver, (verV l).length = l.length * 4
  | [] => rfl
  | s :: r => by show ((verV r).length + 1 + 1 + 1 + 1) = _; rw [verV_len r, List.length_cons]; omega
theorem verV_app (l m : List Vs.Ver) : verV (l ++ m) = verV l ++ verV m := by simp [verV]
theorem verV_at : ∀ (l : List Vs.Ver) (i : Nat) (x : Vs.Ver), l[i]? = some x → (verV l)[i * 4]? = some (.string x.k) ∧ (verV l)[i * 4 + 1]? = some (.string x.v) ∧ (verV l)[i * 4 + 2]? = some (.int .i64 x.n) ∧ (verV l)[i * 4 + 3]? = some (.bool x.g)
  | s :: r, 0, x, h => by cases (Option.some.inj h); exact ⟨rfl, rfl, rfl, rfl⟩
  | s :: r, i + 1, x, h => by
    have := verV_at r i x (by simpa using h)
    rw [show (i + 1) * 4 = i * 4 + 4 from by omega, show i * 4 + 4 + 1 = i * 4 + 1 + 4 from by omega, show i * 4 + 4 + 2 = i * 4 + 2 + 4 from by omega, show i * 4 + 4 + 3 = i * 4 + 3 + 4 from by omega]
    exact this
theorem verV_one (l : List Vs.Ver) : ∀ y ∈ verV l, y.oneCell' = true := by
  intro y hy
  simp only [verV, List.mem_flatMap] at hy
  obtain ⟨s, _, hs⟩ := hy
  simp at hs
  rcases hs with rfl | rfl | rfl | rfl <;> rfl
/-- What a row of the call's own holds can be read. -/
theorem vrAt_own {w : World} {B n cap e : Nat} {p : Option Addr} {l : List Vs.Ver} (h : w.ownsRow B e 4 (.slice p n cap) l.length (verV l)) : n = l.length ∧ VrAt w (fun k => B ≤ k) p l := by
  rcases h.2 with ⟨h0, h1⟩ | ⟨g, cap', cur, h0, hB, hg, _, _, _, _⟩
  · cases h0; exact ⟨h1.symm, fun hp => by omega⟩
  · cases h0
    refine ⟨rfl, fun _ => ⟨g, 0, rfl, (Array.getElem?_eq_some_iff.1 hg).1, hB, fun i x hx => ?_⟩⟩
    have hi := (List.getElem?_eq_some_iff.1 hx).1
    have := verV_at l i x hx
    rw [Nat.zero_add, h.cellAt (i * 4) (by omega), h.cellAt (i * 4 + 1) (by omega), h.cellAt (i * 4 + 2) (by omega), h.cellAt (i * 4 + 3) (by omega)]
    exact this
/-- The reference's table, in block B, its blocks of G. -/
structure RT (w : World) (G : Nat → Prop) (B : Nat) (l : List Vs.Ver) (top : Int) : Prop where
  gB : G B
  row : ∃ p cap, w.cell? ⟨B, 0, none⟩ = some (.slice p l.length cap) ∧ VrAt w (fun k => G k ∧ k ≠ B) p l
  c1 : w.cell? ⟨B, 1, none⟩ = some (.int .i64 top)
  f0 : w.frozen? ⟨B, 0, none⟩ = false
  f1 : w.frozen? ⟨B, 1, none⟩ = false
theorem RT.lt {w : World} {G : Nat → Prop} {B : Nat} {l : List Vs.Ver} {top : Int} (h : RT w G B l top) : B < w.heap.size := World.block_lt_of_cell? _ _ h.c1
theorem RT.but {w w' : World} {F G : Nat → Prop} {B : Nat} {l : List Vs.Ver} {top : Int} (h : RT w G B l top) (hb : But F w w') (hF : ∀ k, k < w.heap.size → G k → ¬ F k) : RT w' G B l top := by
  have hB := hF B h.lt h.gB
  obtain ⟨p, cap, h1, h2⟩ := h.row
  exact ⟨h.gB, ⟨p, cap, (hb.cell (p := ⟨B, 0, none⟩) h.lt hB).trans h1, h2.but hb (fun k hk hg => hF k hk hg.1)⟩, (hb.cell (p := ⟨B, 1, none⟩) h.lt hB).trans h.c1, (hb.frozen (p := ⟨B, 0, none⟩) h.lt hB).trans h.f0, (hb.frozen (p := ⟨B, 1, none⟩) h.lt hB).trans h.f1⟩
theorem RT.step {w w' : World} {G : Nat → Prop} {B : Nat} {l : List Vs.Ver} {top : Int} (h : RT w G B l top) (hb : Below w.heap.size w w') : RT w' G B l top := h.but (F := fun _ => False) (.below hb) (fun _ _ _ => id)
theorem RT.mono {w : World} {G H : Nat → Prop} {B : Nat} {l : List Vs.Ver} {top : Int} (h : RT w G B l top) (hH : ∀ k, k < w.heap.size → G k → H k) : RT w H B l top := by
  obtain ⟨p, cap, h1, h2⟩ := h.row
  exact ⟨hH B h.lt h.gB, ⟨p, cap, h1, h2.mono (fun k hk hg => ⟨hH k hk hg.1, hg.2⟩)⟩, h.c1, h.f0, h.f1⟩
/-- Pairs lie at the address of a slice, two cells each, to be read. -/
def PrC (w : World) (b off : Nat) (l : List Vs.Pr) : Prop :=
  ∀ i x, l[i]? = some x → w.cell? ⟨b, off + i * 2, none⟩ = some (.string x.1) ∧ w.cell? ⟨b, off + i * 2 + 1, none⟩ = some (.string x.2)
def PrAt (w : World) (p : Option Addr) (l : List Vs.Pr) : Prop :=
  0 < l.length → ∃ b off, p = some ⟨b, off, none⟩ ∧ b < w.heap.size ∧ PrC w b off l
theorem PrAt.nil (w : World) (p : Option Addr) : PrAt w p [] := fun h => by simp at h
theorem PrAt.step {w w' : World} {p : Option Addr} {l : List Vs.Pr} (h : PrAt w p l) (hb : Below w.heap.size w w') : PrAt w' p l := by
  intro hl
  obtain ⟨b, off, rfl, hlt, hc⟩ := h hl
  refine ⟨b, off, rfl, Nat.lt_of_lt_of_le hlt hb.size, fun i x hx => ?_⟩
  rw [hb.cell (p := ⟨b, off + i * 2, none⟩) hlt, hb.cell (p := ⟨b, off + i * 2 + 1, none⟩) hlt]
  exact hc i x hx
def prV (l : List Vs.Pr) : List Value := l.flatMap fun x => [.string x.1, .string x.2]
theorem prV_len : ∀ l : List Vs.Pr, (prV l).length = l.length * 2
  | [] => rfl
  | s :: r => by show ((prV r).length + 1 + 1) = _; rw [prV_len r, List.length_cons]; omega
theorem prV_app (l m : List Vs.Pr) : prV (l ++ m) = prV l ++ prV m := by simp [prV]
theorem prV_at : ∀ (l : List Vs.Pr) (i : Nat) (x : Vs.Pr), l[i]? = some x → (prV l)[i * 2]? = some (.string x.1) ∧ (prV l)[i * 2 + 1]? = some (.string x.2)
  | s :: r, 0, x, h => by cases (Option.some.inj h); exact ⟨rfl, rfl⟩
  | s :: r, i + 1, x, h => by
    have := prV_at r i x (by simpa using h)
    rw [show (i + 1) * 2 = i * 2 + 2 from by omega, show i * 2 + 2 + 1 = i * 2 + 1 + 2 from by omega]
    exact this
theorem prAt_own {w : World} {B n cap e : Nat} {p : Option Addr} {l : List Vs.Pr} (h : w.ownsRow B e 2 (.slice p n cap) l.length (prV l)) : n = l.length ∧ PrAt w p l := by
  rcases h.2 with ⟨h0, h1⟩ | ⟨g, cap', cur, h0, _, hg, _, _, _, _⟩
  · cases h0; exact ⟨h1.symm, fun hp => by omega⟩
  · cases h0
    refine ⟨rfl, fun _ => ⟨g, 0, rfl, (Array.getElem?_eq_some_iff.1 hg).1, fun i x hx => ?_⟩⟩
    have hi := (List.getElem?_eq_some_iff.1 hx).1
    have := prV_at l i x hx
    rw [Nat.zero_add, h.cellAt (i * 2) (by omega), h.cellAt (i * 2 + 1) (by omega)]
    exact this
theorem own_below {w w' : World} {B e size n : Nat} {v : Value} {xs : List Value} (h : w.ownsRow B e size v n xs) (hb : Below w.heap.size w w') : w'.ownsRow B e size v n xs := by
  refine ⟨h.1, ?_⟩
  rcases h.2 with hn | ⟨g, cap, cur, rfl, h1, hg, rest⟩
  · exact .inl hn
  · exact .inr ⟨g, cap, cur, rfl, h1, (hb.block g (Array.getElem?_eq_some_iff.1 hg).1).trans hg, rest⟩
theorem own_form {w : World} {B e size n : Nat} {v : Value} {xs : List Value} (h : w.ownsRow B e size v n xs) : ∃ p cp, v = .slice p n cp := by
  rcases h.2 with ⟨rfl, rfl⟩ | ⟨g, cp, _, rfl, _⟩
  · exact ⟨_, _, rfl⟩
  · exact ⟨_, _, rfl⟩
open Vs in
theorem leq_bl (lo k : ByteArray) : (Op.bytesLess lo.toList k.toList || lo.toList == k.toList) = !bl k lo := by
  rw [beq_str]
  cases h : bl k lo
  · by_cases e : lo = k
    · simp [e]
    · have : bl lo k = true := by
        cases g : bl lo k
        · exact absurd (bl_tri g h) e
        · rfl
      rw [bl] at this
      simp [this]
  · have h1 := bl_asym h
    have h2 : lo ≠ k := fun e => by rw [e, bl_irr] at h; cases h
    rw [bl] at h1
    simp [h1, h2]
end Go.Proofs.YteipfdjpndhgkaaGreatDoor

/- Pairs in memory, in a block of one's choice. -/
namespace Go.Proofs.YteipfdjpndhgkaaGreatDoor
open Go.RowKit

/-- Pairs that lie in a block of G. -/
def PrIn (G : Nat → Prop) (w : World) (p : Option Addr) (l : List Vs.Pr) : Prop :=
  0 < l.length → ∃ b off, p = some ⟨b, off, none⟩ ∧ b < w.heap.size ∧ G b ∧ PrC w b off l
theorem PrIn.at {G : Nat → Prop} {w : World} {p : Option Addr} {l : List Vs.Pr} (h : PrIn G w p l) : PrAt w p l := fun hl => by
  obtain ⟨b, off, h1, h2, _, h3⟩ := h hl
  exact ⟨b, off, h1, h2, h3⟩
theorem PrIn.but {E G : Nat → Prop} {w w' : World} {p : Option Addr} {l : List Vs.Pr} (h : PrIn G w p l) (hb : But E w w') (hE : ∀ j, j < w.heap.size → G j → ¬ E j) : PrIn G w' p l := by
  intro hl
  obtain ⟨b, off, rfl, hlt, hg, hc⟩ := h hl
  have hn := hE b hlt hg
  refine ⟨b, off, rfl, Nat.lt_of_lt_of_le hlt hb.size, hg, fun i x hx => ?_⟩
  rw [hb.cell (p := ⟨b, off + i * 2, none⟩) hlt hn, hb.cell (p := ⟨b, off + i * 2 + 1, none⟩) hlt hn]
  exact hc i x hx
theorem PrIn.mono {G H : Nat → Prop} {w : World} {p : Option Addr} {l : List Vs.Pr} (h : PrIn G w p l) (hH : ∀ j, j < w.heap.size → G j → H j) : PrIn H w p l := fun hl => by
  obtain ⟨b, off, h1, h2, h4, h3⟩ := h hl
  exact ⟨b, off, h1, h2, hH b h2 h4, h3⟩
theorem PrIn.step {G : Nat → Prop} {w w' : World} {p : Option Addr} {l : List Vs.Pr} (h : PrIn G w p l) (hb : Below w.heap.size w w') : PrIn G w' p l := h.but (E := fun _ => False) (.below hb) (fun _ _ _ => id)
end Go.Proofs.YteipfdjpndhgkaaGreatDoor

/- Steps of a script in memory; what is new between two worlds. -/
namespace Go.Proofs.YteipfdjpndhgkaaGreatDoor
open Go.RowKit

/-- What is new between two worlds, and what was one's own. -/
abbrev Nw (F : Nat → Prop) (w w' : World) : Nat → Prop := fun j => F j ∨ (w.heap.size ≤ j ∧ j < w'.heap.size)
/-- A step of a script. -/
structure Stp where
  what : Int
  who : Int
  key : ByteArray
  hi : ByteArray
  val : ByteArray
  n : Int
/-- Steps lie at the address of a slice, six cells each, to be read; their texts are no longer than texts may be. -/
def StC (w : World) (b off : Nat) (l : List Stp) : Prop :=
  ∀ i x, l[i]? = some x → w.cell? ⟨b, off + i * 6, none⟩ = some (.int .i64 x.what) ∧ w.cell? ⟨b, off + i * 6 + 1, none⟩ = some (.int .i64 x.who) ∧ w.cell? ⟨b, off + i * 6 + 2, none⟩ = some (.string x.key) ∧ w.cell? ⟨b, off + i * 6 + 3, none⟩ = some (.string x.hi) ∧ w.cell? ⟨b, off + i * 6 + 4, none⟩ = some (.string x.val) ∧ w.cell? ⟨b, off + i * 6 + 5, none⟩ = some (.int .i64 x.n) ∧ x.key.size ≤ maxLen ∧ x.hi.size ≤ maxLen ∧ x.val.size ≤ maxLen
def StAt (w : World) (p : Option Addr) (l : List Stp) : Prop :=
  0 < l.length → ∃ b off, p = some ⟨b, off, none⟩ ∧ b < w.heap.size ∧ StC w b off l
theorem StAt.step {w w' : World} {p : Option Addr} {l : List Stp} (h : StAt w p l) (hb : Below w.heap.size w w') : StAt w' p l := by
  intro hl
  obtain ⟨b, off, rfl, hlt, hc⟩ := h hl
  refine ⟨b, off, rfl, Nat.lt_of_lt_of_le hlt hb.size, fun i x hx => ?_⟩
  rw [hb.cell (p := ⟨b, off + i * 6, none⟩) hlt, hb.cell (p := ⟨b, off + i * 6 + 1, none⟩) hlt, hb.cell (p := ⟨b, off + i * 6 + 2, none⟩) hlt, hb.cell (p := ⟨b, off + i * 6 + 3, none⟩) hlt, hb.cell (p := ⟨b, off + i * 6 + 4, none⟩) hlt, hb.cell (p := ⟨b, off + i * 6 + 5, none⟩) hlt]
  exact hc i x hx
/-- A step in a box. -/
structure Sb (w : World) (B : Nat) (x : Stp) : Prop where
  c0 : w.cell? ⟨B, 0, none⟩ = some (.int .i64 x.what)
  c2 : w.cell? ⟨B, 2, none⟩ = some (.string x.key)
  c3 : w.cell? ⟨B, 3, none⟩ = some (.string x.hi)
  c4 : w.cell? ⟨B, 4, none⟩ = some (.string x.val)
  c5 : w.cell? ⟨B, 5, none⟩ = some (.int .i64 x.n)
theorem Sb.lt {w : World} {B : Nat} {x : Stp} (h : Sb w B x) : B < w.heap.size := World.block_lt_of_cell? _ _ h.c0
theorem Sb.but {F : Nat → Prop} {w w' : World} {B : Nat} {x : Stp} (h : Sb w B x) (hb : But F w w') (hF : ¬ F B) : Sb w' B x :=
  ⟨(hb.cell (p := ⟨B, 0, none⟩) h.lt hF).trans h.c0, (hb.cell (p := ⟨B, 2, none⟩) h.lt hF).trans h.c2, (hb.cell (p := ⟨B, 3, none⟩) h.lt hF).trans h.c3, (hb.cell (p := ⟨B, 4, none⟩) h.lt hF).trans h.c4, (hb.cell (p := ⟨B, 5, none⟩) h.lt hF).trans h.c5⟩
theorem Sb.step {w w' : World} {B : Nat} {x : Stp} (h : Sb w B x) (hb : Below w.heap.size w w') : Sb w' B x := h.but (F := fun _ => False) (.below hb) id
theorem Sb.new (w : World) (t : Nat) (x : Stp) : Sb (w.alloc (.cells #[.int .i64 x.what, .int .i64 x.who, .string x.key, .string x.hi, .string x.val, .int .i64 x.n] t)) w.heap.size x := ⟨by simp, by simp, by simp, by simp, by simp⟩
end Go.Proofs.YteipfdjpndhgkaaGreatDoor

/- What the package vers is asked for: a table that has the versions of a list. -/
namespace Vs
/-- What is there behind a Put. -/
def ptL (l : List Ver) (top : Int) (x : Ver) : List Ver := if ptF x top = 0 then vput l x else l
def ptT (top : Int) (x : Ver) : Int := if ptF x top = 0 then x.n else top
theorem OkT.putS {l : List Ver} {top : Int} (h : OkT l top) (x : Ver) : OkT (ptL l top x) (ptT top x) := by
  unfold ptL ptT
  by_cases e : ptF x top = 0
  · rw [if_pos e, if_pos e]; exact h.put e
  · rw [if_neg e, if_neg e]; exact h
theorem len_ptL (l : List Ver) (top : Int) (x : Ver) : (ptL l top x).length ≤ l.length + 1 := by
  unfold ptL
  split
  · rw [vput, List.length_append]
    have := List.length_filter_le (fun y => !same x y) l
    simp; omega
  · omega
theorem OkT.clS {l : List Ver} {top : Int} (h : OkT l top) (a : Int) : OkT (clS l a) top := by
  unfold Vs.clS
  split
  · exact h.col a
  · exact h
theorem len_clS (l : List Ver) (a : Int) : (clS l a).length ≤ l.length := by
  unfold clS
  split
  · exact List.length_filter_le _ _
  · exact Nat.le_refl _
end Vs
namespace Go.Proofs.YteipfdjpndhgkaaGreatDoor
open Go.RowKit

abbrev Tb := World → (Nat → Prop) → Nat → List Vs.Ver → Int → Prop
/-- A table of package vers: how it lies in memory (T), and what its methods answer. -/
structure Face (T : World → (Nat → Prop) → Nat → List Vs.Ver → Int → Prop) : Prop where
  but : ∀ {w w' : World} {E F : Nat → Prop} {B : Nat} {l : List Vs.Ver} {top : Int}, T w F B l top → But E w w' → (∀ j, j < w.heap.size → F j → ¬ E j) → T w' F B l top
  new : ∀ w : World, Calls Tryz.prog 35 #[] w fun e w' => ∃ B, e = .returned (.pointer (some ⟨B, 0, none⟩)) ∧ T w' (fun j => w.heap.size ≤ j ∧ j < w'.heap.size) B [] 0 ∧ Below w.heap.size w w'
  put : ∀ {w : World} {F : Nat → Prop} {B : Nat} {l : List Vs.Ver} {top : Int} (k v : ByteArray) (n : Int), T w F B l top → Vs.OkT l top → l.length ≤ 1000 → (∀ j, F j → j < w.heap.size) → k.size ≤ maxLen → v.size ≤ maxLen →
    Calls Tryz.prog 102 #[.pointer (some ⟨B, 0, none⟩), .string k, .string v, .int .i64 n] w fun e w' => e = .returned (ev (Vs.ptF ⟨k, v, n, false⟩ top)) ∧ T w' (Nw F w w') B (Vs.ptL l top ⟨k, v, n, false⟩) (Vs.ptT top ⟨k, v, n, false⟩) ∧ But F w w'
  drop : ∀ {w : World} {F : Nat → Prop} {B : Nat} {l : List Vs.Ver} {top : Int} (k : ByteArray) (n : Int), T w F B l top → Vs.OkT l top → l.length ≤ 1000 → (∀ j, F j → j < w.heap.size) → k.size ≤ maxLen →
    Calls Tryz.prog 101 #[.pointer (some ⟨B, 0, none⟩), .string k, .int .i64 n] w fun e w' => e = .returned (ev (Vs.ptF ⟨k, ByteArray.empty, n, true⟩ top)) ∧ T w' (Nw F w w') B (Vs.ptL l top ⟨k, ByteArray.empty, n, true⟩) (Vs.ptT top ⟨k, ByteArray.empty, n, true⟩) ∧ But F w w'
  get : ∀ {w : World} {F : Nat → Prop} {B : Nat} {l : List Vs.Ver} {top : Int} (k : ByteArray) (a : Int), T w F B l top → Vs.OkT l top → l.length ≤ 1000 → k.size ≤ maxLen →
    Calls Tryz.prog 48 #[.pointer (some ⟨B, 0, none⟩), .string k, .int .i64 a] w fun e w' => e = .returned (.tuple #[.string (Vs.gtS l k a), ev (Vs.gtF l k a)]) ∧ Below w.heap.size w w'
  range : ∀ {w : World} {F : Nat → Prop} {B : Nat} {l : List Vs.Ver} {top : Int} (lo hi : ByteArray) (a : Int), T w F B l top → Vs.OkT l top → l.length ≤ 1000 →
    Calls Tryz.prog 51 #[.pointer (some ⟨B, 0, none⟩), .string lo, .string hi, .int .i64 a] w fun e w' => ∃ (q : Option Addr) (cq : Nat), e = .returned (.tuple #[.slice q (Vs.rgS l lo hi a).length cq, ev (Vs.atF a)]) ∧ PrIn (fun j => w.heap.size ≤ j) w' q (Vs.rgS l lo hi a) ∧ Below w.heap.size w w'
  touched : ∀ {w : World} {F : Nat → Prop} {B : Nat} {l : List Vs.Ver} {top : Int} (lo hi : ByteArray) (a : Int), T w F B l top → Vs.OkT l top → l.length ≤ 1000 → lo.size < 9223372036854775807 →
    Calls Tryz.prog 93 #[.pointer (some ⟨B, 0, none⟩), .string lo, .string hi, .int .i64 a] w fun e w' => e = .returned (.tuple #[.bool (Vs.tcS l lo hi a), ev (Vs.atF a)]) ∧ Below w.heap.size w w'
  collect : ∀ {w : World} {F : Nat → Prop} {B : Nat} {l : List Vs.Ver} {top : Int} (a : Int), T w F B l top → Vs.OkT l top → l.length ≤ 1000 → (∀ j, F j → j < w.heap.size) →
    Calls Tryz.prog 70 #[.pointer (some ⟨B, 0, none⟩), .int .i64 a] w fun e w' => e = .returned (.tuple #[.int .i64 ((l.length : Int) - (Vs.clS l a).length), ev (Vs.atF a)]) ∧ T w' (Nw F w w') B (Vs.clS l a) top ∧ But F w w'
  size : ∀ {w : World} {F : Nat → Prop} {B : Nat} {l : List Vs.Ver} {top : Int}, T w F B l top → Vs.OkT l top → l.length ≤ 1000 →
    Calls Tryz.prog 75 #[.pointer (some ⟨B, 0, none⟩)] w fun e w' => e = .returned (.int .i64 l.length) ∧ Below w.heap.size w w'
  top : ∀ {w : World} {F : Nat → Prop} {B : Nat} {l : List Vs.Ver} {top : Int}, T w F B l top → Vs.OkT l top → l.length ≤ 1000 →
    Calls Tryz.prog 74 #[.pointer (some ⟨B, 0, none⟩)] w fun e w' => e = .returned (.int .i64 top) ∧ Below w.heap.size w w'
theorem Face.step {T : World → (Nat → Prop) → Nat → List Vs.Ver → Int → Prop} (V : Face T) {w w' : World} {F : Nat → Prop} {B : Nat} {l : List Vs.Ver} {top : Int} (h : T w F B l top) (hb : Below w.heap.size w w') : T w' F B l top := V.but (E := fun _ => False) h (.below hb) (fun _ _ _ => id)

end Go.Proofs.YteipfdjpndhgkaaGreatDoor

/- What the package desk is asked for. -/
namespace Go.Proofs.YteipfdjpndhgkaaGreatDoor
open Go.RowKit Vs

abbrev Td := World → (Nat → Prop) → Nat → Dk → Prop
/-- A desk that is small enough for whatever a law asks of it. -/
structure Sm (d : Dk) : Prop where
  wt : wt d ≤ 900
  ids : d.ids ≤ 100000
theorem Sm.log {d : Dk} (h : Sm d) : wtL d.lg.ls ≤ 1000 := by
  have := h.wt
  unfold Vs.wt at this
  omega
theorem Sm.vs {d : Dk} (h : Sm d) (ok : OkD d) : d.vs.length ≤ 1000 := Nat.le_trans ok.len h.log
theorem last_max {d : Dk} (ok : OkD d) : d.last ≤ 1000000 := by
  have h1 := ok.last
  have h2 := ok.lg.few.1
  omega
theorem sees_at {d : Dk} (ok : OkD d) {o : Ox} (ho : o ∈ d.op) : atF o.sees = 0 := by
  have h1 := (ok.op o ho).s0
  have h2 := (ok.op o ho).s1
  have h3 := last_max ok
  exact if_neg (by omega)
/-- No range that was asked for begins at a text that is as long as a text can be. -/
def Spz (d : Dk) : Prop := ∀ o ∈ d.op, ∀ s ∈ o.spans, s.1.size < 9223372036854775807
theorem Spz.of {d : Dk} (h : OkD d) (hn : ∀ o ∈ d.op, o.asked = 0) : Spz d := fun o ho s hs => by
  have h1 := (h.op o ho).asks
  have h2 := hn o ho
  have : o.spans.length = 0 := by omega
  rw [List.eq_nil_of_length_eq_zero this] at hs
  simp at hs
/-- A desk of package desk: how it lies in memory (T), and what its methods answer. -/
structure DFace (T : World → (Nat → Prop) → Nat → Dk → Prop) : Prop where
  but : ∀ {w w' : World} {E F : Nat → Prop} {B : Nat} {d : Dk}, T w F B d → But E w w' → (∀ j, j < w.heap.size → F j → ¬ E j) → T w' F B d
  newOk : ∀ (w : World) {room : Int}, 0 ≤ room → room ≤ 100000 → Calls Tryz.prog 4 #[.int .i64 room] w fun e w' => ∃ B, e = .returned (.tuple #[.pointer (some ⟨B, 0, none⟩), .nilIface]) ∧ T w' (fun j => w.heap.size ≤ j ∧ j < w'.heap.size) B (dk0 room) ∧ Below w.heap.size w w'
  newNo : ∀ (w : World) {room : Int}, ¬ (0 ≤ room ∧ room ≤ 100000) → Calls Tryz.prog 4 #[.int .i64 room] w fun e w' => ∃ p, e = .returned (.tuple #[.pointer p, errN 1]) ∧ Below w.heap.size w w'
  begin_ : ∀ {w : World} {F : Nat → Prop} {B : Nat} {d : Dk}, T w F B d → OkD d → Sm d → (∀ j, F j → j < w.heap.size) →
    Calls Tryz.prog 8 #[.pointer (some ⟨B, 0, none⟩)] w fun e w' => e = .returned (.tuple #[.int .i64 (bgN d), ev (bgF d)]) ∧ T w' (Nw F w w') B (bgD d) ∧ But F w w'
  get : ∀ {w : World} {F : Nat → Prop} {B : Nat} {d : Dk} (i : Int) (k : ByteArray), T w F B d → OkD d → Sm d → (∀ j, F j → j < w.heap.size) → k.size ≤ maxLen →
    Calls Tryz.prog 10 #[.pointer (some ⟨B, 0, none⟩), .int .i64 i, .string k] w fun e w' => e = .returned (.tuple #[.string (dgS d i k), ev (dgF d i k)]) ∧ T w' (Nw F w w') B (dgD d i k) ∧ But F w w'
  range : ∀ {w : World} {F : Nat → Prop} {B : Nat} {d : Dk} (i : Int) (lo hi : ByteArray), T w F B d → OkD d → Sm d → (∀ j, F j → j < w.heap.size) →
    Calls Tryz.prog 12 #[.pointer (some ⟨B, 0, none⟩), .int .i64 i, .string lo, .string hi] w fun e w' => ∃ (q : Option Addr) (cq : Nat) (F' : Nat → Prop), e = .returned (.tuple #[.slice q (drS d i lo hi).length cq, ev (drF d i)]) ∧ (drS d i lo hi).length ≤ cq ∧ PrIn (fun j => w.heap.size ≤ j ∧ ¬ F' j) w' q (drS d i lo hi) ∧ T w' F' B (drD d i lo hi) ∧ (∀ j, F' j → Nw F w w' j) ∧ But F w w'
  put : ∀ {w : World} {F : Nat → Prop} {B : Nat} {d : Dk} (i : Int) (k v : ByteArray), T w F B d → OkD d → Sm d → (∀ j, F j → j < w.heap.size) → k.size ≤ maxLen → v.size ≤ maxLen →
    Calls Tryz.prog 15 #[.pointer (some ⟨B, 0, none⟩), .int .i64 i, .string k, .string v] w fun e w' => e = .returned (ev (dcF d i ⟨k, v, false⟩)) ∧ T w' (Nw F w w') B (dcD d i ⟨k, v, false⟩) ∧ But F w w'
  drop : ∀ {w : World} {F : Nat → Prop} {B : Nat} {d : Dk} (i : Int) (k : ByteArray), T w F B d → OkD d → Sm d → (∀ j, F j → j < w.heap.size) → k.size ≤ maxLen →
    Calls Tryz.prog 16 #[.pointer (some ⟨B, 0, none⟩), .int .i64 i, .string k] w fun e w' => e = .returned (ev (dcF d i ⟨k, ByteArray.empty, true⟩)) ∧ T w' (Nw F w w') B (dcD d i ⟨k, ByteArray.empty, true⟩) ∧ But F w w'
  commit : ∀ {w : World} {F : Nat → Prop} {B : Nat} {d : Dk} (i : Int), T w F B d → OkD d → Sm d → (∀ j, F j → j < w.heap.size) → Spz d →
    Calls Tryz.prog 18 #[.pointer (some ⟨B, 0, none⟩), .int .i64 i] w fun e w' => e = .returned (.tuple #[.int .i64 (cmN d i), ev (cmF d i)]) ∧ T w' (Nw F w w') B (cmD d i) ∧ But F w w'
  abort : ∀ {w : World} {F : Nat → Prop} {B : Nat} {d : Dk} (i : Int), T w F B d → OkD d → Sm d → (∀ j, F j → j < w.heap.size) →
    Calls Tryz.prog 20 #[.pointer (some ⟨B, 0, none⟩), .int .i64 i] w fun e w' => e = .returned (ev (abF d i)) ∧ T w' (Nw F w w') B (opDel d i) ∧ But F w w'
  flush : ∀ {w : World} {F : Nat → Prop} {B : Nat} {d : Dk}, T w F B d → OkD d → Sm d → (∀ j, F j → j < w.heap.size) →
    Calls Tryz.prog 22 #[.pointer (some ⟨B, 0, none⟩)] w fun e w' => e = .returned (ev (flF d)) ∧ T w' (Nw F w w') B (flD d) ∧ But F w w'
  safe : ∀ {w : World} {F : Nat → Prop} {B : Nat} {d : Dk}, T w F B d → OkD d → Sm d → Calls Tryz.prog 31 #[.pointer (some ⟨B, 0, none⟩)] w fun e w' => e = .returned (.int .i64 (sfN d)) ∧ Below w.heap.size w w'
  top : ∀ {w : World} {F : Nat → Prop} {B : Nat} {d : Dk}, T w F B d → OkD d → Sm d → Calls Tryz.prog 30 #[.pointer (some ⟨B, 0, none⟩)] w fun e w' => e = .returned (.int .i64 d.last) ∧ Below w.heap.size w w'
  fail : ∀ {w : World} {F : Nat → Prop} {B : Nat} {d : Dk} (n : Int), -9223372036854775808 ≤ n → n ≤ 9223372036854775807 → T w F B d → OkD d → Sm d → (∀ j, F j → j < w.heap.size) →
    Calls Tryz.prog 23 #[.pointer (some ⟨B, 0, none⟩), .int .i64 n] w fun e w' => e = .returned (.tuple #[]) ∧ T w' (Nw F w w') B (fdD d n) ∧ But F w w'
  crash : ∀ {w : World} {F : Nat → Prop} {B : Nat} {d : Dk} (n : Int), -9223372036854775808 ≤ n → n ≤ 9223372036854775807 → T w F B d → OkD d → Sm d → (∀ j, F j → j < w.heap.size) →
    Calls Tryz.prog 24 #[.pointer (some ⟨B, 0, none⟩), .int .i64 n] w fun e w' => e = .returned (.tuple #[]) ∧ T w' (Nw F w w') B (cdD d n) ∧ But F w w'
  tidy : ∀ {w : World} {F : Nat → Prop} {B : Nat} {d : Dk}, T w F B d → OkD d → Sm d → (∀ j, F j → j < w.heap.size) →
    Calls Tryz.prog 26 #[.pointer (some ⟨B, 0, none⟩)] w fun e w' => e = .returned (.int .i64 (tdN d)) ∧ T w' (Nw F w w') B (tdD d) ∧ But F w w'
  size : ∀ {w : World} {F : Nat → Prop} {B : Nat} {d : Dk}, T w F B d → OkD d → Sm d → Calls Tryz.prog 33 #[.pointer (some ⟨B, 0, none⟩)] w fun e w' => e = .returned (.int .i64 d.vs.length) ∧ Below w.heap.size w w'
  all : ∀ {w : World} {F : Nat → Prop} {B : Nat} {d : Dk}, T w F B d → OkD d → Sm d → Calls Tryz.prog 28 #[.pointer (some ⟨B, 0, none⟩)] w fun e w' => ∃ (q : Option Addr) (cq : Nat), e = .returned (.slice q (allP d).length cq) ∧ (allP d).length ≤ cq ∧ PrIn (fun j => w.heap.size ≤ j) w' q (allP d) ∧ Below w.heap.size w w'
theorem DFace.step {T : Td} (V : DFace T) {w w' : World} {F : Nat → Prop} {B : Nat} {d : Dk} (h : T w F B d) (hb : Below w.heap.size w w') : T w' F B d := V.but (E := fun _ => False) h (.below hb) (fun _ _ _ => id)
end Go.Proofs.YteipfdjpndhgkaaGreatDoor

/- Changes in memory. -/
namespace Go.Proofs.YteipfdjpndhgkaaGreatDoor
open Go.RowKit

/-- Changes lie at the address of a slice, three cells each, to be read. -/
def ChC (w : World) (b off : Nat) (l : List Vs.Chg) : Prop :=
  ∀ i x, l[i]? = some x → w.cell? ⟨b, off + i * 3, none⟩ = some (.string x.k) ∧ w.cell? ⟨b, off + i * 3 + 1, none⟩ = some (.string x.v) ∧ w.cell? ⟨b, off + i * 3 + 2, none⟩ = some (.bool x.g)
def ChAt (w : World) (p : Option Addr) (l : List Vs.Chg) : Prop :=
  0 < l.length → ∃ b off, p = some ⟨b, off, none⟩ ∧ b < w.heap.size ∧ ChC w b off l
theorem ChAt.nil (w : World) (p : Option Addr) : ChAt w p [] := fun h => by simp at h
theorem ChAt.step {w w' : World} {p : Option Addr} {l : List Vs.Chg} (h : ChAt w p l) (hb : Below w.heap.size w w') : ChAt w' p l := by
  intro hl
  obtain ⟨b, off, rfl, hlt, hc⟩ := h hl
  refine ⟨b, off, rfl, Nat.lt_of_lt_of_le hlt hb.size, fun i x hx => ?_⟩
  rw [hb.cell (p := ⟨b, off + i * 3, none⟩) hlt, hb.cell (p := ⟨b, off + i * 3 + 1, none⟩) hlt, hb.cell (p := ⟨b, off + i * 3 + 2, none⟩) hlt]
  exact hc i x hx
def chV (l : List Vs.Chg) : List Value := l.flatMap fun x => [.string x.k, .string x.v, .bool x.g]
theorem chV_len : ∀ l : List Vs.Chg, (chV l).length = l.length * 3
  | [] => rfl
  | s :: r => by show ((chV r).length + 1 + 1 + 1) = _; rw [chV_len r, List.length_cons]; omega
theorem chV_app (l m : List Vs.Chg) : chV (l ++ m) = chV l ++ chV m := by simp [chV]
theorem chV_at : ∀ (l : List Vs.Chg) (i : Nat) (x : Vs.Chg), l[i]? = some x → (chV l)[i * 3]? = some (.string x.k) ∧ (chV l)[i * 3 + 1]? = some (.string x.v) ∧ (chV l)[i * 3 + 2]? = some (.bool x.g)
  | s :: r, 0, x, h => by cases (Option.some.inj h); exact ⟨rfl, rfl, rfl⟩
  | s :: r, i + 1, x, h => by
    have := chV_at r i x (by simpa using h)
    rw [show (i + 1) * 3 = i * 3 + 3 from by omega, show i * 3 + 3 + 1 = i * 3 + 1 + 3 from by omega, show i * 3 + 3 + 2 = i * 3 + 2 + 3 from by omega]
    exact this
theorem chV_one (l : List Vs.Chg) : ∀ y ∈ chV l, y.oneCell' = true := by
  intro y hy
  simp only [chV, List.mem_flatMap] at hy
  obtain ⟨s, _, hs⟩ := hy
  simp at hs
  rcases hs with rfl | rfl | rfl <;> rfl
theorem chAt_own {w : World} {B n cap e : Nat} {p : Option Addr} {l : List Vs.Chg} (h : w.ownsRow B e 3 (.slice p n cap) l.length (chV l)) : n = l.length ∧ ChAt w p l := by
  rcases h.2 with ⟨h0, h1⟩ | ⟨g, cap', cur, h0, _, hg, _, _, _, _⟩
  · cases h0; exact ⟨h1.symm, fun hp => by omega⟩
  · cases h0
    refine ⟨rfl, fun _ => ⟨g, 0, rfl, (Array.getElem?_eq_some_iff.1 hg).1, fun i x hx => ?_⟩⟩
    have hi := (List.getElem?_eq_some_iff.1 hx).1
    have := chV_at l i x hx
    rw [Nat.zero_add, h.cellAt (i * 3) (by omega), h.cellAt (i * 3 + 1) (by omega), h.cellAt (i * 3 + 2) (by omega)]
    exact this
end Go.Proofs.YteipfdjpndhgkaaGreatDoor

/- The contract of burgagesame's Changes. -/
namespace Vs
theorem drop_ch {l : List Chg} {k : Nat} {x : Chg} (hx : l[k]? = some x) : l.drop k = x :: l.drop (k + 1) := by
  obtain ⟨h, e⟩ := List.getElem?_eq_some_iff.1 hx
  rw [List.drop_eq_getElem_cons h, e]
theorem chsome {α : Type} {l : List α} {k : Nat} (h : k < l.length) : ∃ x, l[k]? = some x := ⟨l[k], List.getElem?_eq_getElem h⟩
theorem chExt {x y : Chg} (h1 : x.k = y.k) (h2 : x.v = y.v) (h3 : x.g = y.g) : x = y := by
  cases x; cases y; simp_all
end Vs
namespace Go.Proofs.YteipfdjpndhgkaaGreatDoor
open Go.RowKit

end Go.Proofs.YteipfdjpndhgkaaGreatDoor
