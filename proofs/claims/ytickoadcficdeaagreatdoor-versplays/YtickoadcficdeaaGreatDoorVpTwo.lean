/- The reference's table and the one of package vers, side by side. -/
import Derived.Test.YtickoadcficdeaaGreatDoorVsFace
namespace Go.Proofs.YtickoadcficdeaaGreatDoor
open Go.RowKit

/-- Blocks of F and of G, all new since w. -/
structure Fg (w wr : World) (F G : Nat → Prop) : Prop where
  sep : ∀ j, F j → ¬ G j
  f : ∀ j, F j → w.heap.size ≤ j ∧ j < wr.heap.size
  g : ∀ j, G j → w.heap.size ≤ j ∧ j < wr.heap.size
/-- Both tables; the box of the step at hand is apart from them. -/
structure Tw (T : Tb) (w wr : World) (Bm Bt Bs : Nat) (x : Stp) (l : List Vs.Ver) (top : Int) (l2 : List Vs.Ver) (top2 : Int) : Prop where
  ex : ∃ F G : Nat → Prop, RT wr G Bm l top ∧ T wr F Bt l2 top2 ∧ Fg w wr F G ∧ ¬ F Bs ∧ ¬ G Bs
  sb : Sb wr Bs x
  bw : Below w.heap.size w wr
theorem Tw.step {T : Tb} (V : Face T) {w wr w' : World} {Bm Bt Bs : Nat} {x : Stp} {l l2 : List Vs.Ver} {top top2 : Int} (h : Tw T w wr Bm Bt Bs x l top l2 top2) (hb : Below wr.heap.size wr w') : Tw T w w' Bm Bt Bs x l top l2 top2 := by
  obtain ⟨F, G, hR, hT, fg, h1, h2⟩ := h.ex
  exact ⟨⟨F, G, hR.step hb, V.step hT hb, ⟨fg.sep, fun j hj => ⟨(fg.f j hj).1, Nat.lt_of_lt_of_le (fg.f j hj).2 hb.size⟩, fun j hj => ⟨(fg.g j hj).1, Nat.lt_of_lt_of_le (fg.g j hj).2 hb.size⟩⟩, h1, h2⟩, h.sb.step hb, below_via h.bw hb⟩
theorem Tw.ref {T : Tb} (V : Face T) {w wr w' : World} {F G : Nat → Prop} {Bm Bt Bs : Nat} {x : Stp} {l l2 l' : List Vs.Ver} {top top2 top' : Int} (hR : RT wr G Bm l top) (hT : T wr F Bt l2 top2) (fg : Fg w wr F G) (h1 : ¬ F Bs) (h2 : ¬ G Bs) (sb : Sb wr Bs x) (bw : Below w.heap.size w wr)
    (hR2 : RT w' (Nw G wr w') Bm l' top') (hb : But (fun k => k = Bm) wr w') : Tw T w w' Bm Bt Bs x l' top' l2 top2 := by
  have hs := hb.size
  have hw := bw.size
  refine ⟨⟨F, Nw G wr w', hR2, V.but hT hb (fun j _ hj e => fg.sep j hj (by rw [e]; exact hR.gB)), ⟨?_, ?_, ?_⟩, h1, ?_⟩, sb.but hb (fun e => h2 (by rw [e]; exact hR.gB)), ?_⟩
  · intro j hj g
    rcases g with g | g
    · exact fg.sep j hj g
    · have := (fg.f j hj).2; omega
  · intro j hj
    have := fg.f j hj; omega
  · intro j hj
    rcases hj with g | g
    · have := fg.g j g; omega
    · omega
  · rintro (g | g)
    · exact h2 g
    · have := sb.lt; omega
  · exact But.under2 bw hb bw.size (fun i hi e => by have := (fg.g Bm hR.gB).1; omega)
theorem Tw.vers {T : Tb} {w wr w' : World} {F G : Nat → Prop} {Bm Bt Bs : Nat} {x : Stp} {l l' : List Vs.Ver} {top top' : Int} (hR : RT wr G Bm l top) (fg : Fg w wr F G) (h1 : ¬ F Bs) (h2 : ¬ G Bs) (sb : Sb wr Bs x) (bw : Below w.heap.size w wr)
    (hT2 : T w' (Nw F wr w') Bt l' top') (hb : But F wr w') : Tw T w w' Bm Bt Bs x l top l' top' := by
  have hs := hb.size
  have hw := bw.size
  refine ⟨⟨Nw F wr w', G, hR.but hb (fun j _ hj e => fg.sep j e hj), hT2, ⟨?_, ?_, ?_⟩, ?_, h2⟩, sb.but hb h1, ?_⟩
  · rintro j (g | g) hj
    · exact fg.sep j g hj
    · have := (fg.g j hj).2; omega
  · rintro j (g | g)
    · have := fg.f j g; omega
    · omega
  · intro j hj
    have := fg.g j hj; omega
  · rintro (g | g)
    · exact h1 g
    · have := sb.lt; omega
  · exact But.under2 bw hb bw.size (fun i hi e => by have := (fg.f i e).1; omega)
/-- Both tables, between two steps. -/
structure Two (T : Tb) (w wr : World) (Bm Bt : Nat) (l : List Vs.Ver) (top : Int) : Prop where
  ex : ∃ F G : Nat → Prop, RT wr G Bm l top ∧ T wr F Bt l top ∧ Fg w wr F G
  ok : Vs.OkT l top
  bw : Below w.heap.size w wr
theorem Two.box {T : Tb} (V : Face T) {w wr : World} {Bm Bt : Nat} {l : List Vs.Ver} {top : Int} (h : Two T w wr Bm Bt l top) (t : Nat) (x : Stp) : Tw T w (wr.alloc (.cells #[.int .i64 x.what, .int .i64 x.who, .string x.key, .string x.hi, .string x.val, .int .i64 x.n] t)) Bm Bt wr.heap.size x l top l top := by
  obtain ⟨F, G, hR, hT, fg⟩ := h.ex
  have hb := below_al (below_self wr) (.cells #[.int .i64 x.what, .int .i64 x.who, .string x.key, .string x.hi, .string x.val, .int .i64 x.n] t)
  refine ⟨⟨F, G, hR.step hb, V.step hT hb, ⟨fg.sep, fun j hj => ⟨(fg.f j hj).1, ?_⟩, fun j hj => ⟨(fg.g j hj).1, ?_⟩⟩, fun g => ?_, fun g => ?_⟩, Sb.new wr t x, below_via h.bw hb⟩
  · have := (fg.f j hj).2; simp; omega
  · have := (fg.g j hj).2; simp; omega
  · have := (fg.f _ g).2; omega
  · have := (fg.g _ g).2; omega
theorem Tw.two {T : Tb} {w wr : World} {Bm Bt Bs : Nat} {x : Stp} {l : List Vs.Ver} {top : Int} (h : Tw T w wr Bm Bt Bs x l top l top) (hok : Vs.OkT l top) : Two T w wr Bm Bt l top := by
  obtain ⟨F, G, hR, hT, fg, _, _⟩ := h.ex
  exact ⟨⟨F, G, hR, hT, fg⟩, hok, h.bw⟩
end Go.Proofs.YtickoadcficdeaaGreatDoor
