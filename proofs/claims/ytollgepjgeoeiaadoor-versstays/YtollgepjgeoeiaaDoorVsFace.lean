/- What the package vers is asked for: a table that has the versions of a list. -/
import Derived.Test.YtollgepjgeoeiaaDoorVsBase
namespace Vs
/-- What is there behind a Put. -/
def ptL (l : List Ver) (top : Int) (x : Ver) : List Ver := if ptF x top = 0 then vput l x else l
def ptT (top : Int) (x : Ver) : Int := if ptF x top = 0 then x.n else top
theorem OkT.putS {l : List Ver} {top : Int} (h : OkT l top) (x : Ver) : OkT (ptL l top x) (ptT top x) := by
  unfold ptL ptT
  by_cases e : ptF x top = 0
  · rw [if_pos e, if_pos e]; exact h.put e
  · rw [if_neg e, if_neg e]; exact h
theorem len_ptL (l : List Ver) (top : Int) (x : Ver) : (ptL l top x).length ≤ l.length + 1 := by
  unfold ptL
  split
  · rw [vput, List.length_append]
    have := List.length_filter_le (fun y => !same x y) l
    simp; omega
  · omega
theorem OkT.clS {l : List Ver} {top : Int} (h : OkT l top) (a : Int) : OkT (clS l a) top := by
  unfold Vs.clS
  split
  · exact h.col a
  · exact h
theorem len_clS (l : List Ver) (a : Int) : (clS l a).length ≤ l.length := by
  unfold clS
  split
  · exact List.length_filter_le _ _
  · exact Nat.le_refl _
end Vs
namespace Go.Proofs.YtollgepjgeoeiaaDoor
open Go.RowKit

/-- Pairs that lie in a block of G. -/
def PrIn (G : Nat → Prop) (w : World) (p : Option Addr) (l : List Vs.Pr) : Prop :=
  0 < l.length → ∃ b off, p = some ⟨b, off, none⟩ ∧ b < w.heap.size ∧ G b ∧ PrC w b off l
theorem PrIn.at {G : Nat → Prop} {w : World} {p : Option Addr} {l : List Vs.Pr} (h : PrIn G w p l) : PrAt w p l := fun hl => by
  obtain ⟨b, off, h1, h2, _, h3⟩ := h hl
  exact ⟨b, off, h1, h2, h3⟩
theorem PrIn.but {E G : Nat → Prop} {w w' : World} {p : Option Addr} {l : List Vs.Pr} (h : PrIn G w p l) (hb : But E w w') (hE : ∀ j, j < w.heap.size → G j → ¬ E j) : PrIn G w' p l := by
  intro hl
  obtain ⟨b, off, rfl, hlt, hg, hc⟩ := h hl
  have hn := hE b hlt hg
  refine ⟨b, off, rfl, Nat.lt_of_lt_of_le hlt hb.size, hg, fun i x hx => ?_⟩
  rw [hb.cell (p := ⟨b, off + i * 2, none⟩) hlt hn, hb.cell (p := ⟨b, off + i * 2 + 1, none⟩) hlt hn]
  exact hc i x hx
theorem PrIn.mono {G H : Nat → Prop} {w : World} {p : Option Addr} {l : List Vs.Pr} (h : PrIn G w p l) (hH : ∀ j, j < w.heap.size → G j → H j) : PrIn H w p l := fun hl => by
  obtain ⟨b, off, h1, h2, h4, h3⟩ := h hl
  exact ⟨b, off, h1, h2, hH b h2 h4, h3⟩
theorem PrIn.step {G : Nat → Prop} {w w' : World} {p : Option Addr} {l : List Vs.Pr} (h : PrIn G w p l) (hb : Below w.heap.size w w') : PrIn G w' p l := h.but (E := fun _ => False) (.below hb) (fun _ _ _ => id)
/-- What is new between two worlds, and what was one's own. -/
abbrev Nw (F : Nat → Prop) (w w' : World) : Nat → Prop := fun j => F j ∨ (w.heap.size ≤ j ∧ j < w'.heap.size)
abbrev Tb := World → (Nat → Prop) → Nat → List Vs.Ver → Int → Prop
/-- A table of package vers: how it lies in memory (T), and what its methods answer. -/
structure Face (T : World → (Nat → Prop) → Nat → List Vs.Ver → Int → Prop) : Prop where
  but : ∀ {w w' : World} {E F : Nat → Prop} {B : Nat} {l : List Vs.Ver} {top : Int}, T w F B l top → But E w w' → (∀ j, j < w.heap.size → F j → ¬ E j) → T w' F B l top
  new : ∀ w : World, Calls Tryd.prog 4 #[] w fun e w' => ∃ B, e = .returned (.pointer (some ⟨B, 0, none⟩)) ∧ T w' (fun j => w.heap.size ≤ j ∧ j < w'.heap.size) B [] 0 ∧ Below w.heap.size w w'
  put : ∀ {w : World} {F : Nat → Prop} {B : Nat} {l : List Vs.Ver} {top : Int} (k v : ByteArray) (n : Int), T w F B l top → Vs.OkT l top → l.length ≤ 1000 → (∀ j, F j → j < w.heap.size) → k.size ≤ maxLen → v.size ≤ maxLen →
    Calls Tryd.prog 5 #[.pointer (some ⟨B, 0, none⟩), .string k, .string v, .int .i64 n] w fun e w' => e = .returned (ev (Vs.ptF ⟨k, v, n, false⟩ top)) ∧ T w' (Nw F w w') B (Vs.ptL l top ⟨k, v, n, false⟩) (Vs.ptT top ⟨k, v, n, false⟩) ∧ But F w w'
  drop : ∀ {w : World} {F : Nat → Prop} {B : Nat} {l : List Vs.Ver} {top : Int} (k : ByteArray) (n : Int), T w F B l top → Vs.OkT l top → l.length ≤ 1000 → (∀ j, F j → j < w.heap.size) → k.size ≤ maxLen →
    Calls Tryd.prog 8 #[.pointer (some ⟨B, 0, none⟩), .string k, .int .i64 n] w fun e w' => e = .returned (ev (Vs.ptF ⟨k, ByteArray.empty, n, true⟩ top)) ∧ T w' (Nw F w w') B (Vs.ptL l top ⟨k, ByteArray.empty, n, true⟩) (Vs.ptT top ⟨k, ByteArray.empty, n, true⟩) ∧ But F w w'
  get : ∀ {w : World} {F : Nat → Prop} {B : Nat} {l : List Vs.Ver} {top : Int} (k : ByteArray) (a : Int), T w F B l top → Vs.OkT l top → l.length ≤ 1000 → k.size ≤ maxLen →
    Calls Tryd.prog 6 #[.pointer (some ⟨B, 0, none⟩), .string k, .int .i64 a] w fun e w' => e = .returned (.tuple #[.string (Vs.gtS l k a), ev (Vs.gtF l k a)]) ∧ Below w.heap.size w w'
  range : ∀ {w : World} {F : Nat → Prop} {B : Nat} {l : List Vs.Ver} {top : Int} (lo hi : ByteArray) (a : Int), T w F B l top → Vs.OkT l top → l.length ≤ 1000 →
    Calls Tryd.prog 9 #[.pointer (some ⟨B, 0, none⟩), .string lo, .string hi, .int .i64 a] w fun e w' => ∃ (q : Option Addr) (cq : Nat), e = .returned (.tuple #[.slice q (Vs.rgS l lo hi a).length cq, ev (Vs.atF a)]) ∧ PrIn (fun j => w.heap.size ≤ j) w' q (Vs.rgS l lo hi a) ∧ Below w.heap.size w w'
  collect : ∀ {w : World} {F : Nat → Prop} {B : Nat} {l : List Vs.Ver} {top : Int} (a : Int), T w F B l top → Vs.OkT l top → l.length ≤ 1000 → (∀ j, F j → j < w.heap.size) →
    Calls Tryd.prog 10 #[.pointer (some ⟨B, 0, none⟩), .int .i64 a] w fun e w' => e = .returned (.tuple #[.int .i64 ((l.length : Int) - (Vs.clS l a).length), ev (Vs.atF a)]) ∧ T w' (Nw F w w') B (Vs.clS l a) top ∧ But F w w'
  size : ∀ {w : World} {F : Nat → Prop} {B : Nat} {l : List Vs.Ver} {top : Int}, T w F B l top → Vs.OkT l top → l.length ≤ 1000 →
    Calls Tryd.prog 11 #[.pointer (some ⟨B, 0, none⟩)] w fun e w' => e = .returned (.int .i64 l.length) ∧ Below w.heap.size w w'
  top : ∀ {w : World} {F : Nat → Prop} {B : Nat} {l : List Vs.Ver} {top : Int}, T w F B l top → Vs.OkT l top → l.length ≤ 1000 →
    Calls Tryd.prog 13 #[.pointer (some ⟨B, 0, none⟩)] w fun e w' => e = .returned (.int .i64 top) ∧ Below w.heap.size w w'
theorem Face.step {T : World → (Nat → Prop) → Nat → List Vs.Ver → Int → Prop} (V : Face T) {w w' : World} {F : Nat → Prop} {B : Nat} {l : List Vs.Ver} {top : Int} (h : T w F B l top) (hb : Below w.heap.size w w') : T w' F B l top := V.but (E := fun _ => False) h (.below hb) (fun _ _ _ => id)

/-- A step of a script. -/
structure Stp where
  what : Int
  who : Int
  key : ByteArray
  hi : ByteArray
  val : ByteArray
  n : Int
/-- Steps lie at the address of a slice, six cells each, to be read; their texts are no longer than texts may be. -/
def StC (w : World) (b off : Nat) (l : List Stp) : Prop :=
  ∀ i x, l[i]? = some x → w.cell? ⟨b, off + i * 6, none⟩ = some (.int .i64 x.what) ∧ w.cell? ⟨b, off + i * 6 + 1, none⟩ = some (.int .i64 x.who) ∧ w.cell? ⟨b, off + i * 6 + 2, none⟩ = some (.string x.key) ∧ w.cell? ⟨b, off + i * 6 + 3, none⟩ = some (.string x.hi) ∧ w.cell? ⟨b, off + i * 6 + 4, none⟩ = some (.string x.val) ∧ w.cell? ⟨b, off + i * 6 + 5, none⟩ = some (.int .i64 x.n) ∧ x.key.size ≤ maxLen ∧ x.hi.size ≤ maxLen ∧ x.val.size ≤ maxLen
def StAt (w : World) (p : Option Addr) (l : List Stp) : Prop :=
  0 < l.length → ∃ b off, p = some ⟨b, off, none⟩ ∧ b < w.heap.size ∧ StC w b off l
theorem StAt.step {w w' : World} {p : Option Addr} {l : List Stp} (h : StAt w p l) (hb : Below w.heap.size w w') : StAt w' p l := by
  intro hl
  obtain ⟨b, off, rfl, hlt, hc⟩ := h hl
  refine ⟨b, off, rfl, Nat.lt_of_lt_of_le hlt hb.size, fun i x hx => ?_⟩
  rw [hb.cell (p := ⟨b, off + i * 6, none⟩) hlt, hb.cell (p := ⟨b, off + i * 6 + 1, none⟩) hlt, hb.cell (p := ⟨b, off + i * 6 + 2, none⟩) hlt, hb.cell (p := ⟨b, off + i * 6 + 3, none⟩) hlt, hb.cell (p := ⟨b, off + i * 6 + 4, none⟩) hlt, hb.cell (p := ⟨b, off + i * 6 + 5, none⟩) hlt]
  exact hc i x hx
/-- A step in a box. -/
structure Sb (w : World) (B : Nat) (x : Stp) : Prop where
  c0 : w.cell? ⟨B, 0, none⟩ = some (.int .i64 x.what)
  c2 : w.cell? ⟨B, 2, none⟩ = some (.string x.key)
  c3 : w.cell? ⟨B, 3, none⟩ = some (.string x.hi)
  c4 : w.cell? ⟨B, 4, none⟩ = some (.string x.val)
  c5 : w.cell? ⟨B, 5, none⟩ = some (.int .i64 x.n)
theorem Sb.lt {w : World} {B : Nat} {x : Stp} (h : Sb w B x) : B < w.heap.size := World.block_lt_of_cell? _ _ h.c0
theorem Sb.but {F : Nat → Prop} {w w' : World} {B : Nat} {x : Stp} (h : Sb w B x) (hb : But F w w') (hF : ¬ F B) : Sb w' B x :=
  ⟨(hb.cell (p := ⟨B, 0, none⟩) h.lt hF).trans h.c0, (hb.cell (p := ⟨B, 2, none⟩) h.lt hF).trans h.c2, (hb.cell (p := ⟨B, 3, none⟩) h.lt hF).trans h.c3, (hb.cell (p := ⟨B, 4, none⟩) h.lt hF).trans h.c4, (hb.cell (p := ⟨B, 5, none⟩) h.lt hF).trans h.c5⟩
theorem Sb.step {w w' : World} {B : Nat} {x : Stp} (h : Sb w B x) (hb : Below w.heap.size w w') : Sb w' B x := h.but (F := fun _ => False) (.below hb) id
theorem Sb.new (w : World) (t : Nat) (x : Stp) : Sb (w.alloc (.cells #[.int .i64 x.what, .int .i64 x.who, .string x.key, .string x.hi, .string x.val, .int .i64 x.n] t)) w.heap.size x := ⟨by simp, by simp, by simp, by simp, by simp⟩
end Go.Proofs.YtollgepjgeoeiaaDoor
