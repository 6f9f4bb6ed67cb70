/- Lists of lists of changes in memory; what the package log is asked for. -/
import Derived.Test.YtcmmjidheglmdaaDoorCdBy
import Derived.Test.YtcmmjidheglmdaaDoorLgMath
import Derived.Test.YtcmmjidheglmdaaDoorVsStp
namespace Go.Proofs.YtcmmjidheglmdaaDoor
open Go.RowKit Vs

/-- Changes that lie in a block of G. -/
def ChIn (w : World) (G : Nat → Prop) (p : Option Addr) (l : List Chg) : Prop := 0 < l.length → ∃ b off, p = some ⟨b, off, none⟩ ∧ b < w.heap.size ∧ G b ∧ ChC w b off l
theorem ChIn.at {w : World} {G : Nat → Prop} {p : Option Addr} {l : List Chg} (h : ChIn w G p l) : ChAt w p l := fun hl => by
  obtain ⟨b, off, h1, h2, _, h3⟩ := h hl
  exact ⟨b, off, h1, h2, h3⟩
theorem ChIn.nil (w : World) (G : Nat → Prop) (p : Option Addr) : ChIn w G p [] := fun h => by simp at h
theorem ChIn.but {E G : Nat → Prop} {w w' : World} {p : Option Addr} {l : List Chg} (h : ChIn w G p l) (hb : But E w w') (hE : ∀ j, j < w.heap.size → G j → ¬ E j) : ChIn w' G p l := by
  intro hl
  obtain ⟨b, off, rfl, hlt, hg, hc⟩ := h hl
  have hn := hE b hlt hg
  refine ⟨b, off, rfl, Nat.lt_of_lt_of_le hlt hb.size, hg, fun i x hx => ?_⟩
  rw [hb.cell (p := ⟨b, off + i * 3, none⟩) hlt hn, hb.cell (p := ⟨b, off + i * 3 + 1, none⟩) hlt hn, hb.cell (p := ⟨b, off + i * 3 + 2, none⟩) hlt hn]
  exact hc i x hx
theorem ChIn.step {G : Nat → Prop} {w w' : World} {p : Option Addr} {l : List Chg} (h : ChIn w G p l) (hb : Below w.heap.size w w') : ChIn w' G p l := h.but (E := fun _ => False) (.below hb) (fun _ _ _ => id)
theorem ChIn.mono {G H : Nat → Prop} {w : World} {p : Option Addr} {l : List Chg} (h : ChIn w G p l) (hH : ∀ j, j < w.heap.size → G j → H j) : ChIn w H p l := fun hl => by
  obtain ⟨b, off, h1, h2, h4, h3⟩ := h hl
  exact ⟨b, off, h1, h2, hH b h2 h4, h3⟩
/-- A list of changes as an element: a slice of them. -/
def LsE (w : World) (G : Nat → Prop) (v : Value) (l : List Chg) : Prop := ∃ q c, v = .slice q l.length c ∧ l.length ≤ c ∧ c ≤ 9223372036854775807 ∧ ChIn w G q l
theorem LsE.but {E G : Nat → Prop} {w w' : World} {v : Value} {l : List Chg} (h : LsE w G v l) (hb : But E w w') (hE : ∀ j, j < w.heap.size → G j → ¬ E j) : LsE w' G v l := by
  obtain ⟨q, c, h1, h2, h3, h4⟩ := h
  exact ⟨q, c, h1, h2, h3, h4.but hb hE⟩
theorem LsE.mono {G H : Nat → Prop} {w : World} {v : Value} {l : List Chg} (h : LsE w G v l) (hH : ∀ j, j < w.heap.size → G j → H j) : LsE w H v l := by
  obtain ⟨q, c, h1, h2, h3, h4⟩ := h
  exact ⟨q, c, h1, h2, h3, h4.mono hH⟩
/-- Lists lie at the address of a slice, one cell each, to be read; all in blocks of G. -/
def LsC (w : World) (G : Nat → Prop) (b off : Nat) (ls : List (List Chg)) : Prop := ∀ i l, ls[i]? = some l → ∃ v, w.cell? ⟨b, off + i, none⟩ = some v ∧ LsE w G v l
def LsAt (w : World) (G : Nat → Prop) (p : Option Addr) (ls : List (List Chg)) : Prop := 0 < ls.length → ∃ b off, p = some ⟨b, off, none⟩ ∧ b < w.heap.size ∧ G b ∧ LsC w G b off ls
theorem LsAt.nil (w : World) (G : Nat → Prop) (p : Option Addr) : LsAt w G p [] := fun h => by simp at h
theorem LsAt.but {E G : Nat → Prop} {w w' : World} {p : Option Addr} {ls : List (List Chg)} (h : LsAt w G p ls) (hb : But E w w') (hE : ∀ j, j < w.heap.size → G j → ¬ E j) : LsAt w' G p ls := by
  intro hl
  obtain ⟨b, off, rfl, hlt, hg, hc⟩ := h hl
  refine ⟨b, off, rfl, Nat.lt_of_lt_of_le hlt hb.size, hg, fun i l hx => ?_⟩
  obtain ⟨v, h1, h2⟩ := hc i l hx
  exact ⟨v, (hb.cell (p := ⟨b, off + i, none⟩) hlt (hE b hlt hg)).trans h1, h2.but hb hE⟩
theorem LsAt.step {G : Nat → Prop} {w w' : World} {p : Option Addr} {ls : List (List Chg)} (h : LsAt w G p ls) (hb : Below w.heap.size w w') : LsAt w' G p ls := h.but (E := fun _ => False) (.below hb) (fun _ _ _ => id)
theorem LsAt.mono {G H : Nat → Prop} {w : World} {p : Option Addr} {ls : List (List Chg)} (h : LsAt w G p ls) (hH : ∀ j, j < w.heap.size → G j → H j) : LsAt w H p ls := by
  intro hl
  obtain ⟨b, off, rfl, hlt, hg, hc⟩ := h hl
  refine ⟨b, off, rfl, hlt, hH b hlt hg, fun i l hx => ?_⟩
  obtain ⟨v, h1, h2⟩ := hc i l hx
  exact ⟨v, h1, h2.mono hH⟩
abbrev Tl := World → (Nat → Prop) → Nat → Lg → Prop
/-- A log of package log: how it lies in memory (T), and what its methods answer. -/
structure LFace (T : World → (Nat → Prop) → Nat → Lg → Prop) : Prop where
  but : ∀ {w w' : World} {E F : Nat → Prop} {B : Nat} {g : Lg}, T w F B g → But E w w' → (∀ j, j < w.heap.size → F j → ¬ E j) → T w' F B g
  newOk : ∀ (w : World) {room : Int}, 0 ≤ room → room ≤ 100000 → Calls Tryd.prog 5 #[.int .i64 room] w fun e w' => ∃ B, e = .returned (.tuple #[.pointer (some ⟨B, 0, none⟩), .nilIface]) ∧ T w' (fun j => w.heap.size ≤ j ∧ j < w'.heap.size) B (lg0 room) ∧ Below w.heap.size w w'
  newNo : ∀ (w : World) {room : Int}, ¬ (0 ≤ room ∧ room ≤ 100000) → Calls Tryd.prog 5 #[.int .i64 room] w fun e w' => ∃ p, e = .returned (.tuple #[.pointer p, errN 1]) ∧ Below w.heap.size w w'
  append : ∀ {w : World} {F : Nat → Prop} {B : Nat} {g : Lg} (l : List Chg) (p : Option Addr) (c : Nat), T w F B g → OkL g → (∀ j, F j → j < w.heap.size) → l.length ≤ c → c ≤ 9223372036854775807 → ChIn w (fun j => ¬ F j) p l →
    Calls Tryd.prog 9 #[.pointer (some ⟨B, 0, none⟩), .slice p l.length c] w fun e w' => e = .returned (ev (apF g l)) ∧ T w' (Nw F w w') B (apG g l) ∧ But F w w'
  sync : ∀ {w : World} {F : Nat → Prop} {B : Nat} {g : Lg}, T w F B g → OkL g → (∀ j, F j → j < w.heap.size) → Calls Tryd.prog 11 #[.pointer (some ⟨B, 0, none⟩)] w fun e w' => e = .returned (ev (syF g)) ∧ T w' (Nw F w w') B (syG g) ∧ But F w w'
  fail : ∀ {w : World} {F : Nat → Prop} {B : Nat} {g : Lg} (n : Int), -9223372036854775808 ≤ n → n ≤ 9223372036854775807 → T w F B g → OkL g → (∀ j, F j → j < w.heap.size) → Calls Tryd.prog 12 #[.pointer (some ⟨B, 0, none⟩), .int .i64 n] w fun e w' => e = .returned (.tuple #[]) ∧ T w' (Nw F w w') B (faG g n) ∧ But F w w'
  crash : ∀ {w : World} {F : Nat → Prop} {B : Nat} {g : Lg} (n : Int), -9223372036854775808 ≤ n → n ≤ 9223372036854775807 → T w F B g → OkL g → (∀ j, F j → j < w.heap.size) → Calls Tryd.prog 13 #[.pointer (some ⟨B, 0, none⟩), .int .i64 n] w fun e w' => e = .returned (.tuple #[]) ∧ T w' (Nw F w w') B (crG g n) ∧ But F w w'
  read : ∀ {w : World} {F : Nat → Prop} {B : Nat} {g : Lg}, T w F B g → OkL g → Calls Tryd.prog 16 #[.pointer (some ⟨B, 0, none⟩)] w fun e w' => ∃ (q : Option Addr) (c : Nat), e = .returned (.slice q g.ls.length c) ∧ LsAt w' (fun _ => True) q g.ls ∧ Below w.heap.size w w'
  bytes : ∀ {w : World} {F : Nat → Prop} {B : Nat} {g : Lg}, T w F B g → OkL g → Calls Tryd.prog 17 #[.pointer (some ⟨B, 0, none⟩)] w fun e w' => ∃ (q : Option Addr) (c : Nat), e = .returned (.slice q g.by.length c) ∧ ByAt w' q g.by ∧ Below w.heap.size w w'
  safe : ∀ {w : World} {F : Nat → Prop} {B : Nat} {g : Lg}, T w F B g → OkL g → Calls Tryd.prog 18 #[.pointer (some ⟨B, 0, none⟩)] w fun e w' => e = .returned (.int .i64 g.safe) ∧ Below w.heap.size w w'
theorem LFace.step {T : Tl} (V : LFace T) {w w' : World} {F : Nat → Prop} {B : Nat} {g : Lg} (h : T w F B g) (hb : Below w.heap.size w w') : T w' F B g := V.but (E := fun _ => False) h (.below hb) (fun _ _ _ => id)
/-- A log of a law's own, its blocks all new since w. -/
structure On1 (T : Tl) (w wr : World) (B : Nat) (g : Lg) : Prop where
  ex : ∃ F : Nat → Prop, T wr F B g ∧ ∀ j, F j → w.heap.size ≤ j ∧ j < wr.heap.size
  ok : OkL g
  bw : Below w.heap.size w wr
end Go.Proofs.YtcmmjidheglmdaaDoor
