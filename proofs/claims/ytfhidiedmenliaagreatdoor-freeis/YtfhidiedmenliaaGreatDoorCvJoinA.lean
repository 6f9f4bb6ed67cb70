/- Spans put in order by their first address, and joined: the mathematics; the contract of the sort. -/
import Derived.Test.YtfhidiedmenliaaGreatDoorCvShelf
import Derived.Test.YtfhidiedmenliaaGreatDoorShelf
import Derived.Test.YtfhidiedmenliaaGreatDoorCvMath2
import Derived.Test.YtfhidiedmenliaaGreatDoorSpOwn
import Derived.Shelf.SlSortCmp.NoneTotal
namespace Bur
/-- Spans in order, joined; the first: the span that may still grow. -/
def jn : Option Sp → List Sp → List Sp
  | cur, [] => cur.toList
  | none, s :: r => jn (some s) r
  | some c, s :: r => if s.1 ≤ c.2 + 1 then jn (some (c.1, max c.2 s.2)) r else c :: jn (some s) r
theorem jn_spec : ∀ (r : List Sp) (c : Sp), c.1 ≤ c.2 → (∀ s ∈ r, c.1 ≤ s.1 ∧ s.1 ≤ s.2) → r.Pairwise (fun s t => s.1 ≤ t.1) →
    (∀ h, h + 1 < c.1 → IsS h (jn (some c) r)) ∧ ∀ x, mem (jn (some c) r) x = mem (c :: r) x
  | [], c, h1, _, _ => ⟨fun h hh => ⟨hh, h1, trivial⟩, fun x => rfl⟩
  | s :: r, c, h1, h2, h3 => by
    have hs := h2 s (by simp)
    have h3' := List.pairwise_cons.1 h3
    rw [jn]
    by_cases hc : s.1 ≤ c.2 + 1
    · rw [if_pos hc]
      obtain ⟨i1, i2⟩ := jn_spec r (c.1, max c.2 s.2) (by show c.1 ≤ max c.2 s.2; omega) (fun t ht => h2 t (by simp [ht])) h3'.2
      refine ⟨i1, fun x => ?_⟩
      rw [i2, mem_cons, mem_cons, mem_cons, ← Bool.or_assoc]
      congr 1
      rw [Bool.eq_iff_iff]
      simp only [Bool.or_eq_true, Bool.and_eq_true, decide_eq_true_eq]
      constructor
      · rintro ⟨g1, g2⟩
        by_cases g : x ≤ c.2
        · exact .inl ⟨g1, g⟩
        · exact .inr ⟨by omega, by omega⟩
      · rintro (⟨g1, g2⟩ | ⟨g1, g2⟩)
        · exact ⟨g1, by omega⟩
        · exact ⟨by omega, by omega⟩
    · rw [if_neg hc]
      obtain ⟨i1, i2⟩ := jn_spec r s hs.2 (fun t ht => ⟨h3'.1 t ht, (h2 t (by simp [ht])).2⟩) h3'.2
      exact ⟨fun h hh => ⟨hh, h1, i1 c.2 (by omega)⟩, fun x => by rw [mem_cons, i2]; rfl⟩
/-- Joined they are the set. -/
theorem jn_mk {xs ys : List Sp} (hA : InA xs) (hp : ys.Perm xs) (hs : ys.Pairwise (fun s t => s.1 ≤ t.1)) : jn none ys = mk xs := by
  obtain ⟨m1, m2, m3, m4⟩ := mk_set hA
  have hm : ∀ x, mem ys x = mem xs x := fun x => by
    rw [Bool.eq_iff_iff, mem_iff, mem_iff]
    exact ⟨fun ⟨s, h, g⟩ => ⟨s, hp.mem_iff.1 h, g⟩, fun ⟨s, h, g⟩ => ⟨s, hp.mem_iff.2 h, g⟩⟩
  have hA' : InA ys := fun s h => hA s (hp.mem_iff.1 h)
  match ys, hs, hm, hA' with
  | [], _, hm, _ =>
    have : mk xs = [] := IsS.uniq (h := -2) m1 trivial (fun x => by rw [m2, ← hm])
    rw [this]; rfl
  | s :: r, hs, hm, hA' =>
    have hs' := List.pairwise_cons.1 hs
    have h0 := hA' s (by simp)
    obtain ⟨i1, i2⟩ := jn_spec r s h0.2.1 (fun t ht => ⟨hs'.1 t ht, (hA' t (by simp [ht])).2.1⟩) hs'.2
    exact IsS.uniq (i1 (-2) (by omega)) m1 (fun x => by rw [show jn none (s :: r) = jn (some s) r from rfl, i2, m2, hm])
end Bur
namespace Go.Proofs.YtfhidiedmenliaaGreatDoor
open Go.RowKit Go.Shelf Go.Lib Go.Sort

/-- A span's two cells. -/
def encS (x : Int × Int) : List Value := [.int .i64 x.1, .int .i64 x.2]
abbrev cfS (x y : Int × Int) : Int := Lib.compareInt x.1 y.1
theorem ltS (x y : Int × Int) : ltOf cfS x y = decide (x.1 < y.1) := by
  unfold ltOf cfS Lib.compareInt
  by_cases h1 : x.1 < y.1
  · simp [h1]
  · by_cases h2 : y.1 < x.1 <;> simp [h1, h2]
theorem swoS : SWO (ltOf cfS) where
  irrefl x := by rw [ltS]; simp
  trans x y z h1 h2 := by rw [ltS] at *; simp at *; omega
  ntrans x y z h1 h2 := by rw [ltS] at *; simp at *; omega

set_option maxHeartbeats 1000000 in
theorem closureS (x y : Int × Int) (W : World) : Calls Tryz.prog 50 #[.agg #[.int .i64 x.1, .int .i64 x.2], .agg #[.int .i64 y.1, .int .i64 y.2]] W fun e w' => e = .returned (.int .i64 (Lib.compareInt x.1 y.1)) ∧ ∃ q os', w' = grow (W.drewN q) os' := by
  have hcon := fun W' => Tryz.cmp_Compare_int x.1 y.1 W'
  generalize Lib.compareInt x.1 y.1 = r at hcon ⊢
  go_enter Tryz.func50, Tryz.ntmps50
  go_wp2_with (go_at_call 51; refine (hcon _).mono ?_; rintro e w' ⟨rfl, rfl⟩)
  go_ret
  exact ⟨rfl, 0, _, by rw [alloc_eq_grow, alloc_eq_grow, grow_grow]; rfl⟩
theorem cmpS (blk off size : Nat) (w : World) : CmpLays Tryz.prog 50 #[] encS 2 cfS blk off size w :=
  fun _ _ _ _ x y => closureS x y _
theorem grownBy_sorted2 {w : World} {g n : Nat} {os : Array Obj} (d : Array (Int × Int)) : w.grownBy (sortWorldK encS 2 w g 0 n d os) (some g) := by
  refine ⟨rfl, rfl, rfl, by have := size_sortWorldK_c encS 2 w g 0 n d os; exact this, fun k hk hne => ?_⟩
  unfold sortWorldK
  rw [heap_grow_old _ _ (by rw [size_putRowK]; simpa using hk)]
  have : g ≠ k := fun e => hne (by rw [e])
  simp [putRowK, putRow, mapBlock, Sort.ahead, Array.getElem?_modify, this]
theorem holds_spV {w : World} {B g cap : Nat} {xs : List Bur.Sp} (h : w.ownsRow B 53 2 (.slice (some ⟨g, 0, none⟩) xs.length cap) xs.length (spV xs)) : HoldsK encS 2 w g 0 xs.toArray := by
  intro j hj
  rw [size_flatK] at hj
  have hj' : j < xs.length * 2 := by simpa using hj
  rw [get_flatK _ _ _ _ hj]
  have hi : j / 2 < xs.length := by omega
  have hx : xs.toArray[j / 2]! = (lo xs (j / 2), Go.Proofs.YtfhidiedmenliaaGreatDoor.hi xs (j / 2)) := by
    simp [lo, Go.Proofs.YtfhidiedmenliaaGreatDoor.hi, List.getD, hi]
  have hv := spV_at xs (j / 2) hi
  rw [hx, Nat.zero_add, h.cellAt j (by omega)]
  refine ⟨?_, h.frozenAt _⟩
  rcases Nat.mod_two_eq_zero_or_one j with e | e
  · have ej : j = j / 2 * 2 := by omega
    rw [e]
    conv => lhs; rw [ej]
    rw [hv.1]; rfl
  · have ej : j = j / 2 * 2 + 1 := by omega
    rw [e]
    conv => lhs; rw [ej]
    rw [hv.2]; rfl
theorem spAt_holds {w : World} {g : Nat} {d : Array (Int × Int)} (h : HoldsK encS 2 w g 0 d) (hg : g < w.heap.size) : SpAt w (some ⟨g, 0, none⟩) d.toList := fun _ => ⟨g, 0, rfl, hg, fun i hlt => by
  have hi : i < d.size := by simpa using hlt
  have h0 := (h.cell hi (c := 0) (by decide)).1
  have h1 := (h.cell hi (c := 1) (by decide)).1
  have hx : d[i]! = (lo d.toList i, Go.Proofs.YtfhidiedmenliaaGreatDoor.hi d.toList i) := by
    simp [lo, Go.Proofs.YtfhidiedmenliaaGreatDoor.hi, List.getD, hi]
  rw [hx] at h0 h1
  exact ⟨by simpa [encS] using h0, by simpa [encS] using h1⟩⟩

theorem sortFn (B g cap : Nat) (xs : List Bur.Sp) (w : World) (hown : w.ownsRow B 53 2 (.slice (some ⟨g, 0, none⟩) xs.length cap) xs.length (spV xs)) (hB : B ≤ g) (hg : g < w.heap.size) (hBw : B ≤ w.heap.size) (hl : xs.length ≤ 1000) :
    Calls Tryz.prog 49 #[.slice (some ⟨g, 0, none⟩) xs.length cap, .func (.func 50) #[] #[]] w fun e w' => e = .returned (.tuple #[]) ∧ ∃ ys : List Bur.Sp, ys.Perm xs ∧ ys.Pairwise (fun s t => s.1 ≤ t.1) ∧ SpAt w' (some ⟨g, 0, none⟩) ys ∧ Below B w w' := by
  have eg : ∀ args w, (callFunc 50 args).run Tryz.prog w = .ok (.enter 50 args) w := enters_of Tryz.func50 (by kernel_rfl) rfl
  have hH := holds_spV hown
  have hcon := AnyQ.slices_SortFunc Tryz.laySort 2 Tryz.isAgg53 Tryz.sizeOf53 encS (fun _ => rfl) (fun x v hv => by simp [encS] at hv; rcases hv with rfl | rfl <;> rfl) cfS swoS 50 #[] g 0 cap xs.toArray w eg (cmpS g 0 _ w) hH hg (by simp; omega)
  change Calls Tryz.prog 49 _ _ _ at hcon
  rw [show xs.toArray.size = xs.length from by simp] at hcon
  refine hcon.mono ?_
  rintro e w' ⟨rfl, d', n, os, hp, hs, rfl⟩
  have hsz : d'.size = xs.length := by simpa using hp.1
  refine ⟨rfl, d'.toList, ?_, ?_, spAt_holds (holdsK_sortWorldK_c encS 2 w g 0 xs.toArray d' n os hH hg (by simpa using hsz)) (by have := size_sortWorldK_c encS 2 w g 0 n d' os; omega), (Below.refl B w).grown (grownBy_sorted2 d') hBw (fun j e => by cases e; exact hB)⟩
  · have := hp.2.2
    rw [show d'.extract 0 xs.length = d' from by rw [← hsz]; simp, show xs.toArray.extract 0 xs.length = xs.toArray from by simp] at this
    simpa using this
  · rw [List.pairwise_iff_getElem]
    intro i j hi hj hij
    have := hs i j (by omega) hij (by simp at hj ⊢; omega)
    rw [ltS] at this
    simp at hi hj
    simp [hi, hj] at this
    simpa using this
theorem sortNone (p : Option Addr) (cap : Nat) (fv : Value) (w : World) : Calls Tryz.prog 49 #[.slice p 0 cap, fv] w fun e w' => e = .returned (.tuple #[]) ∧ w' = w :=
  AnyF.slices_SortFunc_none Tryz.laySort p cap fv w
end Go.Proofs.YtfhidiedmenliaaGreatDoor
