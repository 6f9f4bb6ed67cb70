/- The reference's log and the one of package log, side by side. -/
import Derived.Test.YtcmmjidheglmdaaDoorLgRefA
namespace Go.Proofs.YtcmmjidheglmdaaDoor
open Go.RowKit Vs

/-- Blocks of F and of G, all new since w. -/
structure Fg (w wr : World) (F G : Nat → Prop) : Prop where
  sep : ∀ j, F j → ¬ G j
  f : ∀ j, F j → w.heap.size ≤ j ∧ j < wr.heap.size
  g : ∀ j, G j → w.heap.size ≤ j ∧ j < wr.heap.size
/-- Both logs; the box of the step at hand is apart from them. -/
structure L2 (T : Tl) (w wr : World) (Bm Bt Bs : Nat) (x : Stp) (g g2 : Lg) : Prop where
  ex : ∃ F G : Nat → Prop, RL wr w.heap.size G Bm g ∧ T wr F Bt g2 ∧ Fg w wr F G ∧ ¬ F Bs ∧ ¬ G Bs
  sb : Sb wr Bs x
  bw : Below w.heap.size w wr
theorem L2.step {T : Tl} (V : LFace T) {w wr w' : World} {Bm Bt Bs : Nat} {x : Stp} {g g2 : Lg} (h : L2 T w wr Bm Bt Bs x g g2) (hb : Below wr.heap.size wr w') : L2 T w w' Bm Bt Bs x g g2 := by
  obtain ⟨F, G, hR, hT, fg, h1, h2⟩ := h.ex
  exact ⟨⟨F, G, hR.step hb, V.step hT hb, ⟨fg.sep, fun j hj => ⟨(fg.f j hj).1, Nat.lt_of_lt_of_le (fg.f j hj).2 hb.size⟩, fun j hj => ⟨(fg.g j hj).1, Nat.lt_of_lt_of_le (fg.g j hj).2 hb.size⟩⟩, h1, h2⟩, h.sb.step hb, below_via h.bw hb⟩
theorem L2.ref {T : Tl} (V : LFace T) {w wr w' : World} {F G : Nat → Prop} {Bm Bt Bs : Nat} {x : Stp} {g2 g' : Lg} (hT : T wr F Bt g2) (fg : Fg w wr F G) (h1 : ¬ F Bs) (h2 : ¬ G Bs) (sb : Sb wr Bs x) (bw : Below w.heap.size w wr)
    (hR2 : RL w' w.heap.size (Nw G wr w') Bm g') (hb : But G wr w') : L2 T w w' Bm Bt Bs x g' g2 := by
  have hs := hb.size
  have hw := bw.size
  refine ⟨⟨F, Nw G wr w', hR2, V.but hT hb (fun j _ hj e => fg.sep j hj e), ⟨?_, ?_, ?_⟩, h1, ?_⟩, sb.but hb h2, ?_⟩
  · intro j hj g
    rcases g with g | g
    · exact fg.sep j hj g
    · have := (fg.f j hj).2; omega
  · intro j hj
    have := fg.f j hj; omega
  · intro j hj
    rcases hj with g | g
    · have := fg.g j g; omega
    · omega
  · rintro (g | g)
    · exact h2 g
    · have := sb.lt; omega
  · exact But.under2 bw hb bw.size (fun i hi e => by have := (fg.g i e).1; omega)
theorem L2.log {T : Tl} {w wr w' : World} {F G : Nat → Prop} {Bm Bt Bs : Nat} {x : Stp} {g g' : Lg} (hR : RL wr w.heap.size G Bm g) (fg : Fg w wr F G) (h1 : ¬ F Bs) (h2 : ¬ G Bs) (sb : Sb wr Bs x) (bw : Below w.heap.size w wr)
    (hT2 : T w' (Nw F wr w') Bt g') (hb : But F wr w') : L2 T w w' Bm Bt Bs x g g' := by
  have hs := hb.size
  have hw := bw.size
  refine ⟨⟨Nw F wr w', G, hR.but hb (fun j hj e => fg.sep j e hj) (fun j hj e => by have := (fg.f j e).1; omega), hT2, ⟨?_, ?_, ?_⟩, ?_, h2⟩, sb.but hb h1, ?_⟩
  · rintro j (g | g) hj
    · exact fg.sep j g hj
    · have := (fg.g j hj).2; omega
  · rintro j (g | g)
    · have := fg.f j g; omega
    · omega
  · intro j hj
    have := fg.g j hj; omega
  · rintro (g | g)
    · exact h1 g
    · have := sb.lt; omega
  · exact But.under2 bw hb bw.size (fun i hi e => by have := (fg.f i e).1; omega)
/-- The reference's log has changed in its own block alone. -/
theorem L2.own {T : Tl} (V : LFace T) {w wr w' : World} {F G : Nat → Prop} {Bm Bt Bs : Nat} {x : Stp} {g g2 g' : Lg} (hR : RL wr w.heap.size G Bm g) (hT : T wr F Bt g2) (fg : Fg w wr F G) (h1 : ¬ F Bs) (h2 : ¬ G Bs) (sb : Sb wr Bs x) (bw : Below w.heap.size w wr)
    (hR2 : RL w' w.heap.size G Bm g') (hb : But (fun j => j = Bm) wr w') : L2 T w w' Bm Bt Bs x g' g2 :=
  L2.ref V hT fg h1 h2 sb bw (hR2.mono (fun _ hj => .inl hj)) (hb.mono (fun k _ e => by rw [e]; exact hR.gB))
/-- Both logs, between two steps. -/
structure Lt (T : Tl) (w wr : World) (Bm Bt : Nat) (g : Lg) : Prop where
  ex : ∃ F G : Nat → Prop, RL wr w.heap.size G Bm g ∧ T wr F Bt g ∧ Fg w wr F G
  ok : OkL g
  bw : Below w.heap.size w wr
theorem Lt.box {T : Tl} (V : LFace T) {w wr : World} {Bm Bt : Nat} {g : Lg} (h : Lt T w wr Bm Bt g) (t : Nat) (x : Stp) : L2 T w (wr.alloc (.cells #[.int .i64 x.what, .int .i64 x.who, .string x.key, .string x.hi, .string x.val, .int .i64 x.n] t)) Bm Bt wr.heap.size x g g := by
  obtain ⟨F, G, hR, hT, fg⟩ := h.ex
  have hb := below_al (below_self wr) (.cells #[.int .i64 x.what, .int .i64 x.who, .string x.key, .string x.hi, .string x.val, .int .i64 x.n] t)
  refine ⟨⟨F, G, hR.step hb, V.step hT hb, ⟨fg.sep, fun j hj => ⟨(fg.f j hj).1, ?_⟩, fun j hj => ⟨(fg.g j hj).1, ?_⟩⟩, fun g => ?_, fun g => ?_⟩, Sb.new wr t x, below_via h.bw hb⟩
  · have := (fg.f j hj).2; simp; omega
  · have := (fg.g j hj).2; simp; omega
  · have := (fg.f _ g).2; omega
  · have := (fg.g _ g).2; omega
theorem L2.two {T : Tl} {w wr : World} {Bm Bt Bs : Nat} {x : Stp} {g : Lg} (h : L2 T w wr Bm Bt Bs x g g) (hok : OkL g) : Lt T w wr Bm Bt g := by
  obtain ⟨F, G, hR, hT, fg, _, _⟩ := h.ex
  exact ⟨⟨F, G, hR, hT, fg⟩, hok, h.bw⟩
/-- What the reference's log is asked for, field by field. -/
theorem RL.parts {w : World} {n0 : Nat} {G : Nat → Prop} {B : Nat} {g : Lg} (h : RL w n0 G B g) : ∃ p1 c1 p3 c3, w.cell? ⟨B, 1, none⟩ = some (.slice p1 g.ls.length c1) ∧ w.cell? ⟨B, 3, none⟩ = some (.slice p3 g.by.length c3) ∧ w.cell? ⟨B, 4, none⟩ = some (.int .i64 g.safe) ∧ LsAt w (fun _ => True) p1 g.ls ∧ ByAt w p3 g.by ∧ B < w.heap.size := by
  obtain ⟨v1, v2, v3, h⟩ := h
  have d1 := h.c1
  have d3 := h.c3
  obtain ⟨p1, c1, rfl, _⟩ := h.rr.li.form
  obtain ⟨p3, c3, rfl⟩ := own_form h.rr.bys
  exact ⟨p1, c1, p3, c3, d1, d3, h.c4, h.rr.li.at, (byAt_own h.rr.bys).2, h.lt⟩
theorem RL.left {w : World} {n0 : Nat} {G : Nat → Prop} {B : Nat} {g : Lg} (h : RL w n0 G B g) : w.cell? ⟨B, 5, none⟩ = some (.int .i64 g.left) ∧ w.frozen? ⟨B, 5, none⟩ = false ∧ ∀ n, RL (w.setCell ⟨B, 5, none⟩ (.int .i64 n)) n0 G B { g with left := n } := by
  obtain ⟨v1, v2, v3, h⟩ := h
  exact ⟨h.c5, h.fz 5 (by decide), fun n => ⟨v1, v2, v3, h.set5 n⟩⟩
end Go.Proofs.YtcmmjidheglmdaaDoor
