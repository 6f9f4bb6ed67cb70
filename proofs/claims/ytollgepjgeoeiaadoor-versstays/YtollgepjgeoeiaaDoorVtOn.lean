/- A table of package vers all of whose blocks are new; pairs apart from it. -/
import Derived.Test.YtollgepjgeoeiaaDoorVsFace
namespace Go.Proofs.YtollgepjgeoeiaaDoor
open Go.RowKit

/-- A table all of whose blocks are new since w. -/
def On (T : Tb) (w wr : World) (B : Nat) (l : List Vs.Ver) (top : Int) : Prop := ∃ F : Nat → Prop, T wr F B l top ∧ (∀ j, F j → w.heap.size ≤ j ∧ j < wr.heap.size)
theorem On.step {T : Tb} (V : Face T) {w wr w' : World} {B : Nat} {l : List Vs.Ver} {top : Int} (h : On T w wr B l top) (hb : Below wr.heap.size wr w') : On T w w' B l top := by
  obtain ⟨F, hT, hF⟩ := h
  exact ⟨F, V.step hT hb, fun j hj => ⟨(hF j hj).1, Nat.lt_of_lt_of_le (hF j hj).2 hb.size⟩⟩
theorem On.put {T : Tb} {w wr w' : World} {F : Nat → Prop} {B : Nat} {l' : List Vs.Ver} {top' : Int} (hF : ∀ j, F j → w.heap.size ≤ j ∧ j < wr.heap.size) (bw : Below w.heap.size w wr) (hT : T w' (Nw F wr w') B l' top') (hb : But F wr w') : On T w w' B l' top' ∧ Below w.heap.size w w' := by
  have h1 := bw.size
  have h2 := hb.size
  refine ⟨⟨_, hT, fun j hj => ?_⟩, But.under2 bw hb bw.size (fun i hi e => by have := (hF i e).1; omega)⟩
  rcases hj with g | g
  · have := hF j g; omega
  · omega
/-- .. and pairs apart from it. -/
def On2 (T : Tb) (w wr : World) (B : Nat) (l : List Vs.Ver) (top : Int) (q : Option Addr) (N : List Vs.Pr) : Prop := ∃ F : Nat → Prop, T wr F B l top ∧ (∀ j, F j → w.heap.size ≤ j ∧ j < wr.heap.size) ∧ PrIn (fun j => ¬ F j) wr q N
theorem On2.step {T : Tb} (V : Face T) {w wr w' : World} {B : Nat} {l : List Vs.Ver} {top : Int} {q : Option Addr} {N : List Vs.Pr} (h : On2 T w wr B l top q N) (hb : Below wr.heap.size wr w') : On2 T w w' B l top q N := by
  obtain ⟨F, hT, hF, hP⟩ := h
  exact ⟨F, V.step hT hb, fun j hj => ⟨(hF j hj).1, Nat.lt_of_lt_of_le (hF j hj).2 hb.size⟩, hP.step hb⟩
theorem On2.mk {T : Tb} (V : Face T) {w wr w' : World} {F : Nat → Prop} {B : Nat} {l : List Vs.Ver} {top : Int} {q : Option Addr} {N : List Vs.Pr} (hF : ∀ j, F j → w.heap.size ≤ j ∧ j < wr.heap.size) (hT : T wr F B l top) (hP : PrIn (fun j => wr.heap.size ≤ j) w' q N) (hb : Below wr.heap.size wr w') : On2 T w w' B l top q N :=
  ⟨F, V.step hT hb, fun j hj => ⟨(hF j hj).1, Nat.lt_of_lt_of_le (hF j hj).2 hb.size⟩, hP.mono (fun j _ h g => by have := (hF j g).2; omega)⟩
theorem On2.put {T : Tb} {w wr w' : World} {F : Nat → Prop} {B : Nat} {l' : List Vs.Ver} {top' : Int} {q : Option Addr} {N : List Vs.Pr} (hF : ∀ j, F j → w.heap.size ≤ j ∧ j < wr.heap.size) (bw : Below w.heap.size w wr) (hP : PrIn (fun j => ¬ F j) wr q N) (hT : T w' (Nw F wr w') B l' top') (hb : But F wr w') : On2 T w w' B l' top' q N ∧ Below w.heap.size w w' := by
  have h1 := bw.size
  have h2 := hb.size
  refine ⟨⟨_, hT, fun j hj => ?_, ?_⟩, But.under2 bw hb bw.size (fun i hi e => by have := (hF i e).1; omega)⟩
  · rcases hj with g | g
    · have := hF j g; omega
    · omega
  · intro hl
    obtain ⟨b, off, e, hlt, hg, hc⟩ := hP hl
    obtain ⟨b', off', e', hlt', _, hc'⟩ := (hP.but hb (fun j _ g => g)) hl
    rw [e] at e'
    cases e'
    exact ⟨b, off, e, hlt', fun g => g.elim hg (fun g => by omega), hc'⟩
end Go.Proofs.YtollgepjgeoeiaaDoor
