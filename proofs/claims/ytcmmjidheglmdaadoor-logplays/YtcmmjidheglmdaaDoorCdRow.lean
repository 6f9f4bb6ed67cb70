/- A row of changes of the call's own. -/
import Derived.Test.YtcmmjidheglmdaaDoorCdBy
namespace Go.Proofs.YtcmmjidheglmdaaDoor
open Go.RowKit Go.Lib

theorem infoChg : (Tryd.prog.info? 72).map (fun i => (i.zero, i.size, i.bytes)) = some (some (.agg #[.string ByteArray.empty, .string ByteArray.empty, .bool false]), 3, 40) := by kernel_rfl
theorem chg_new {W : World} {x y : ByteArray} {g : Bool} {t B : Nat} (hB : B = W.heap.size) : ∀ (j : Nat) (u : Value), ([.string x, .string y, .bool g] : List Value)[j]? = some u → (W.alloc (.cells #[.string x, .string y, .bool g] t)).cell? ⟨B, j, none⟩ = some u := by
  subst hB
  intro j u hj
  match j, hj with
  | 0, hj => simp at hj; subst hj; simp
  | 1, hj => simp at hj; subst hj; simp
  | 2, hj => simp at hj; subst hj; simp
theorem chg_one {x y : ByteArray} {g : Bool} : ∀ u ∈ ([.string x, .string y, .bool g] : List Value), u.oneCell' = true := by
  intro u hu; simp at hu; rcases hu with rfl | rfl | rfl <;> rfl
theorem own_chg {w : World} {B : Nat} {v : Value} {o : List Vs.Chg} {x y : ByteArray} {g : Bool} (h : w.ownsRow B 72 3 v (o.length + 1) (chV o ++ [.string x, .string y, .bool g])) : w.ownsRow B 72 3 v (o ++ [Vs.Chg.mk x y g]).length (chV (o ++ [Vs.Chg.mk x y g])) := by
  rw [chV_app, List.length_append]; exact h

theorem own_but {w w' : World} {B e size n : Nat} {v : Value} {xs : List Value} {F : Nat → Prop} (h : w.ownsRow B e size v n xs) (hb : But F w w') (hF : ∀ k, B ≤ k → ¬ F k) : w'.ownsRow B e size v n xs := by
  refine ⟨h.1, ?_⟩
  rcases h.2 with hn | ⟨g, cap, cur, rfl, h1, hg, rest⟩
  · exact .inl hn
  · exact .inr ⟨g, cap, cur, rfl, h1, (hb.block g (Array.getElem?_eq_some_iff.1 hg).1 (hF g h1)).trans hg, rest⟩
/-- A box of a change, still empty. -/
structure Zb (w : World) (b : Nat) : Prop where
  c0 : w.cell? ⟨b, 0, none⟩ = some (.string ⟨#[]⟩)
  c1 : w.cell? ⟨b, 1, none⟩ = some (.string ⟨#[]⟩)
  c2 : w.cell? ⟨b, 2, none⟩ = some (.bool false)
  z0 : w.frozen? ⟨b, 0, none⟩ = false
  z1 : w.frozen? ⟨b, 1, none⟩ = false
  z2 : w.frozen? ⟨b, 2, none⟩ = false
theorem Zb.new (w : World) (t : Nat) : Zb (w.alloc (.cells #[.string ⟨#[]⟩, .string ⟨#[]⟩, .bool false] t)) w.heap.size := ⟨by simp, by simp, by simp, by simp, by simp, by simp⟩
theorem Zb.but {w w' : World} {b : Nat} {F : Nat → Prop} (h : Zb w b) (hb : But F w w') (hlt : b < w.heap.size) (hF : ¬ F b) : Zb w' b :=
  ⟨(hb.cell (p := ⟨b, 0, none⟩) hlt hF).trans h.c0, (hb.cell (p := ⟨b, 1, none⟩) hlt hF).trans h.c1, (hb.cell (p := ⟨b, 2, none⟩) hlt hF).trans h.c2,
   (hb.frozen (p := ⟨b, 0, none⟩) hlt hF).trans h.z0, (hb.frozen (p := ⟨b, 1, none⟩) hlt hF).trans h.z1, (hb.frozen (p := ⟨b, 2, none⟩) hlt hF).trans h.z2⟩
end Go.Proofs.YtcmmjidheglmdaaDoor
