/- What the package vers is asked for: a table that has the versions of a list. -/
import Derived.Test.YtickoadcficdeaaGreatDoorVsStp
import Derived.Test.YtickoadcficdeaaGreatDoorPrIn
namespace Vs
/-- What is there behind a Put. -/
def ptL (l : List Ver) (top : Int) (x : Ver) : List Ver := if ptF x top = 0 then vput l x else l
def ptT (top : Int) (x : Ver) : Int := if ptF x top = 0 then x.n else top
theorem OkT.putS {l : List Ver} {top : Int} (h : OkT l top) (x : Ver) : OkT (ptL l top x) (ptT top x) := by
  unfold ptL ptT
  by_cases e : ptF x top = 0
  · rw [if_pos e, if_pos e]; exact h.put e
  · rw [if_neg e, if_neg e]; exact h
theorem len_ptL (l : List Ver) (top : Int) (x : Ver) : (ptL l top x).length ≤ l.length + 1 := by
  unfold ptL
  split
  · rw [vput, List.length_append]
    have := List.length_filter_le (fun y => !same x y) l
    simp; omega
  · omega
theorem OkT.clS {l : List Ver} {top : Int} (h : OkT l top) (a : Int) : OkT (clS l a) top := by
  unfold Vs.clS
  split
  · exact h.col a
  · exact h
theorem len_clS (l : List Ver) (a : Int) : (clS l a).length ≤ l.length := by
  unfold clS
  split
  · exact List.length_filter_le _ _
  · exact Nat.le_refl _
end Vs
namespace Go.Proofs.YtickoadcficdeaaGreatDoor
open Go.RowKit

abbrev Tb := World → (Nat → Prop) → Nat → List Vs.Ver → Int → Prop
/-- A table of package vers: how it lies in memory (T), and what its methods answer. -/
structure Face (T : World → (Nat → Prop) → Nat → List Vs.Ver → Int → Prop) : Prop where
  but : ∀ {w w' : World} {E F : Nat → Prop} {B : Nat} {l : List Vs.Ver} {top : Int}, T w F B l top → But E w w' → (∀ j, j < w.heap.size → F j → ¬ E j) → T w' F B l top
  new : ∀ w : World, Calls Tryz.prog 4 #[] w fun e w' => ∃ B, e = .returned (.pointer (some ⟨B, 0, none⟩)) ∧ T w' (fun j => w.heap.size ≤ j ∧ j < w'.heap.size) B [] 0 ∧ Below w.heap.size w w'
  put : ∀ {w : World} {F : Nat → Prop} {B : Nat} {l : List Vs.Ver} {top : Int} (k v : ByteArray) (n : Int), T w F B l top → Vs.OkT l top → l.length ≤ 1000 → (∀ j, F j → j < w.heap.size) → k.size ≤ maxLen → v.size ≤ maxLen →
    Calls Tryz.prog 7 #[.pointer (some ⟨B, 0, none⟩), .string k, .string v, .int .i64 n] w fun e w' => e = .returned (ev (Vs.ptF ⟨k, v, n, false⟩ top)) ∧ T w' (Nw F w w') B (Vs.ptL l top ⟨k, v, n, false⟩) (Vs.ptT top ⟨k, v, n, false⟩) ∧ But F w w'
  drop : ∀ {w : World} {F : Nat → Prop} {B : Nat} {l : List Vs.Ver} {top : Int} (k : ByteArray) (n : Int), T w F B l top → Vs.OkT l top → l.length ≤ 1000 → (∀ j, F j → j < w.heap.size) → k.size ≤ maxLen →
    Calls Tryz.prog 8 #[.pointer (some ⟨B, 0, none⟩), .string k, .int .i64 n] w fun e w' => e = .returned (ev (Vs.ptF ⟨k, ByteArray.empty, n, true⟩ top)) ∧ T w' (Nw F w w') B (Vs.ptL l top ⟨k, ByteArray.empty, n, true⟩) (Vs.ptT top ⟨k, ByteArray.empty, n, true⟩) ∧ But F w w'
  get : ∀ {w : World} {F : Nat → Prop} {B : Nat} {l : List Vs.Ver} {top : Int} (k : ByteArray) (a : Int), T w F B l top → Vs.OkT l top → l.length ≤ 1000 → k.size ≤ maxLen →
    Calls Tryz.prog 12 #[.pointer (some ⟨B, 0, none⟩), .string k, .int .i64 a] w fun e w' => e = .returned (.tuple #[.string (Vs.gtS l k a), ev (Vs.gtF l k a)]) ∧ Below w.heap.size w w'
  range : ∀ {w : World} {F : Nat → Prop} {B : Nat} {l : List Vs.Ver} {top : Int} (lo hi : ByteArray) (a : Int), T w F B l top → Vs.OkT l top → l.length ≤ 1000 →
    Calls Tryz.prog 17 #[.pointer (some ⟨B, 0, none⟩), .string lo, .string hi, .int .i64 a] w fun e w' => ∃ (q : Option Addr) (cq : Nat), e = .returned (.tuple #[.slice q (Vs.rgS l lo hi a).length cq, ev (Vs.atF a)]) ∧ PrIn (fun j => w.heap.size ≤ j) w' q (Vs.rgS l lo hi a) ∧ Below w.heap.size w w'
  touched : ∀ {w : World} {F : Nat → Prop} {B : Nat} {l : List Vs.Ver} {top : Int} (lo hi : ByteArray) (a : Int), T w F B l top → Vs.OkT l top → l.length ≤ 1000 → lo.size < 9223372036854775807 →
    Calls Tryz.prog 19 #[.pointer (some ⟨B, 0, none⟩), .string lo, .string hi, .int .i64 a] w fun e w' => e = .returned (.tuple #[.bool (Vs.tcS l lo hi a), ev (Vs.atF a)]) ∧ Below w.heap.size w w'
  collect : ∀ {w : World} {F : Nat → Prop} {B : Nat} {l : List Vs.Ver} {top : Int} (a : Int), T w F B l top → Vs.OkT l top → l.length ≤ 1000 → (∀ j, F j → j < w.heap.size) →
    Calls Tryz.prog 10 #[.pointer (some ⟨B, 0, none⟩), .int .i64 a] w fun e w' => e = .returned (.tuple #[.int .i64 ((l.length : Int) - (Vs.clS l a).length), ev (Vs.atF a)]) ∧ T w' (Nw F w w') B (Vs.clS l a) top ∧ But F w w'
  size : ∀ {w : World} {F : Nat → Prop} {B : Nat} {l : List Vs.Ver} {top : Int}, T w F B l top → Vs.OkT l top → l.length ≤ 1000 →
    Calls Tryz.prog 14 #[.pointer (some ⟨B, 0, none⟩)] w fun e w' => e = .returned (.int .i64 l.length) ∧ Below w.heap.size w w'
  top : ∀ {w : World} {F : Nat → Prop} {B : Nat} {l : List Vs.Ver} {top : Int}, T w F B l top → Vs.OkT l top → l.length ≤ 1000 →
    Calls Tryz.prog 13 #[.pointer (some ⟨B, 0, none⟩)] w fun e w' => e = .returned (.int .i64 top) ∧ Below w.heap.size w w'
theorem Face.step {T : World → (Nat → Prop) → Nat → List Vs.Ver → Int → Prop} (V : Face T) {w w' : World} {F : Nat → Prop} {B : Nat} {l : List Vs.Ver} {top : Int} (h : T w F B l top) (hb : Below w.heap.size w w') : T w' F B l top := V.but (E := fun _ => False) h (.below hb) (fun _ _ _ => id)

end Go.Proofs.YtickoadcficdeaaGreatDoor
