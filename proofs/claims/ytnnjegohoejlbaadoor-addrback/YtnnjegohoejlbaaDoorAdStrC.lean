/- The contracts of Cut at one byte, and of readOctets. -/
import Derived.Test.YtnnjegohoejlbaaDoorAdStrB
import Derived.Test.YtnnjegohoejlbaaDoorAdCutMath
namespace Bur
open Go
def cw (l : List UInt8) : List UInt8 := (cutc 46 l).1
def cr (l : List UInt8) : List UInt8 := (cutc 46 l).2.1
def cf (l : List UInt8) : Bool := (cutc 46 l).2.2
/-- What is left behind k words. -/
def it : Nat → List UInt8 → List UInt8
  | 0, l => l
  | k + 1, l => cr (it k l)
/-- The k-th word's number, and whether it is one, with a dot behind it just if it is not the last. -/
def ov (l : List UInt8) (k : Nat) : Int := rdV 255 (cw (it k l))
def og (l : List UInt8) (k : Nat) : Bool := (cf (it k l) == !(k == 3)) && rdB 255 (cw (it k l))
/-- Is a text four numbers between dots? -/
def okO (l : List UInt8) : Bool := og l 0 && og l 1 && og l 2 && og l 3
theorem ov_bd (l : List UInt8) (k : Nat) : 0 ≤ ov l k ∧ ov l k ≤ 255 := rdV_bd 255 _ (by decide)
theorem okO_no {l : List UInt8} {k : Nat} (hk : k < 4) (h : og l k = false) : okO l = false := by
  unfold okO
  match k, hk with
  | 0, _ => simp [h]
  | 1, _ => simp [h]
  | 2, _ => simp [h]
  | 3, _ => simp [h]
theorem okO_ok {l : List UInt8} (h : ∀ k, k < 4 → og l k = true) : okO l = true := by
  unfold okO; simp [h 0 (by decide), h 1 (by decide), h 2 (by decide), h 3 (by decide)]
theorem cw_len (l : List UInt8) : (cw l).length ≤ l.length := (cutc_len 46 l).1
theorem cr_len (l : List UInt8) : (cr l).length ≤ l.length := (cutc_len 46 l).2
theorem it_len (l : List UInt8) : ∀ k, (it k l).length ≤ l.length
  | 0 => Nat.le_refl _
  | k + 1 => Nat.le_trans (cr_len _) (it_len l k)
end Bur
namespace Go.Proofs.YtnnjegohoejlbaaDoor
open Go.RowKit

/-- What internal/bytealg.MaxLen holds: some number. -/
def MaxL (w : World) : Prop := ∃ m : Int, w.cell? ⟨1, 0, none⟩ = some (.int .i64 m)
theorem MaxL.lt {w : World} (h : MaxL w) : 1 < w.heap.size := by
  obtain ⟨m, h⟩ := h
  exact World.block_lt_of_cell? _ _ h
theorem MaxL.step {w w' : World} (h : MaxL w) (hb : Below w.heap.size w w') : MaxL w' := by
  have hl := h.lt
  obtain ⟨m, h⟩ := h
  exact ⟨m, by rw [hb.cell (p := ⟨1, 0, none⟩) hl]; exact h⟩
theorem MaxL.alloc {w : World} (h : MaxL w) (o : Obj) : MaxL (w.alloc o) := h.step (below_al (below_self _) _)
theorem MaxL.drewN {w : World} (h : MaxL w) (n : Nat) : MaxL (w.drewN n) := h.step (below_drewN (below_self _) n)

theorem MaxL.set {w : World} (h : MaxL w) {p : Addr} (hp : p.block ≠ 1) (v : Value) : MaxL (w.setCell p v) := by
  obtain ⟨m, h⟩ := h
  refine ⟨m, ?_⟩
  rw [World.cell?_of_block (w := w) (a := ⟨1, 0, none⟩) (Below.heap_setCell _ _ _ _ (Ne.symm hp))]
  exact h

theorem cutAt (l : List UInt8) (c : UInt8) (w : World) (hl : l.length < 4294967281) (hm : MaxL w) :
    Calls Tryd.prog 41 #[.string ⟨l.toArray⟩, .string ⟨#[c]⟩] w fun e w' => e = .returned (.tuple #[.string ⟨(Bur.cutc c l).1.toArray⟩, .string ⟨(Bur.cutc c l).2.1.toArray⟩, .bool (Bur.cutc c l).2.2]) ∧ ∃ n, w' = w.drewN n := by
  obtain ⟨m, hm⟩ := hm
  have := Tryd.strings_Cut ⟨l.toArray⟩ ⟨#[c]⟩ m w (by simpa [ByteArray.size] using hl) hm
  have e : Lib.cut (ByteArray.mk l.toArray).data.toList (ByteArray.mk #[c]).data.toList = Bur.cutc c l := Bur.cut_eq c l
  rw [e] at this
  exact this
theorem cutDot (l : List UInt8) (w : World) (hl : l.length < 4294967281) (hm : MaxL w) :
    Calls Tryd.prog 41 #[.string ⟨l.toArray⟩, .string ⟨#[46]⟩] w fun e w' => e = .returned (.tuple #[.string ⟨(Bur.cw l).toArray⟩, .string ⟨(Bur.cr l).toArray⟩, .bool (Bur.cf l)]) ∧ ∃ n, w' = w.drewN n := cutAt l 46 w hl hm
theorem readNum (l : List UInt8) (most : Int) (w : World) (hm0 : 0 ≤ most) (hm1 : most ≤ 255) (hl : l.length < 4294967281) :
    Calls Tryd.prog 42 #[.string ⟨l.toArray⟩, .int .i64 most] w fun e w' => e = .returned (.tuple #[.int .i64 (Bur.rdV most l), .bool (Bur.rdB most l)]) ∧ w' = w :=
  readNumber ⟨l.toArray⟩ most w hm0 hm1 (by simp [ByteArray.size]; omega)

/-- Four bytes lie in a block, and may be written. -/
structure Oc (w : World) (b : Nat) (f : Nat → Int) : Prop where
  c : ∀ j, j < 4 → w.cell? ⟨b, j, none⟩ = some (.int .u8 (f j))
  z : ∀ j, j < 4 → w.frozen? ⟨b, j, none⟩ = false
  lt : b < w.heap.size
theorem Oc.step {w w' : World} {b : Nat} {f : Nat → Int} (h : Oc w b f) (hb : Below w.heap.size w w') : Oc w' b f := by
  have hl := h.lt
  refine ⟨fun j hj => ?_, fun j hj => ?_, ?_⟩
  · rw [hb.cell (p := ⟨b, j, none⟩) hl]; exact h.c j hj
  · rw [hb.frozen (p := ⟨b, j, none⟩) hl]; exact h.z j hj
  · have := hb.size; omega
theorem Oc.new (w : World) : Oc (w.alloc (ocs 0 0 0 0)) w.heap.size (fun _ => 0) := by
  refine ⟨fun j hj => ?_, fun j _ => by simp, by simp⟩
  match j, hj with
  | 0, _ => simp
  | 1, _ => simp
  | 2, _ => simp
  | 3, _ => simp
theorem Oc.newAt {w : World} {b : Nat} (h : w.heap.size = b) : Oc (w.alloc (ocs 0 0 0 0)) b (fun _ => 0) := h ▸ Oc.new w
theorem Oc.set {w : World} {b : Nat} {f : Nat → Int} (h : Oc w b f) {k : Nat} (hk : k < 4) (v : Int) : Oc (w.setCell ⟨b, k, none⟩ (.int .u8 v)) b (fun j => if j = k then v else f j) := by
  refine ⟨fun j hj => ?_, fun j hj => ?_, ?_⟩
  · have hc := h.c k hk
    by_cases e : j = k
    · subst e
      rw [if_pos rfl]
      exact World.cell?_setCell_same _ _ _ hc
    · rw [if_neg e, World.cell?_setCell_other _ _ _ _ (by intro h2; exact e (by injection h2 with _ h3 _; exact h3.symm))]
      exact h.c j hj
  · rw [World.frozen?_setCell]; exact h.z j hj
  · have := h.lt; simpa [World.setCell] using this
theorem Oc.far {w : World} {b : Nat} {f : Nat → Int} (h : Oc w b f) {p : Addr} (hp : p.block ≠ b) (v : Value) : Oc (w.setCell p v) b f := by
  have e : (w.setCell p v).heap[b]? = w.heap[b]? := Below.heap_setCell _ _ _ _ (Ne.symm hp)
  refine ⟨fun j hj => ?_, fun j hj => ?_, ?_⟩
  · rw [World.cell?_of_block (w := w) (a := ⟨b, j, none⟩) e]; exact h.c j hj
  · rw [World.frozen?_of_block (w := w) (a := ⟨b, j, none⟩) e]; exact h.z j hj
  · have := h.lt; simpa [World.setCell] using this

/-- What readOctets gives. -/
def octV (l : List UInt8) : Value := if Bur.okO l = true then oct (Bur.ov l 0) (Bur.ov l 1) (Bur.ov l 2) (Bur.ov l 3) else oct 0 0 0 0
theorem octV_no {l : List UInt8} (h : Bur.okO l = false) : octV l = oct 0 0 0 0 := if_neg (by simp [h])
theorem octV_ok {l : List UInt8} (h : Bur.okO l = true) : octV l = oct (Bur.ov l 0) (Bur.ov l 1) (Bur.ov l 2) (Bur.ov l 3) := if_pos h

theorem Oc.reset {w : World} {b : Nat} {f : Nat → Int} (h : Oc w b f) : Oc ((((w.setCell ⟨b, 0, none⟩ (.int .u8 0)).setCell ⟨b, 1, none⟩ (.int .u8 0)).setCell ⟨b, 2, none⟩ (.int .u8 0)).setCell ⟨b, 3, none⟩ (.int .u8 0)) b (fun _ => 0) := by
  have := (((h.set (k := 0) (by decide) 0).set (k := 1) (by decide) 0).set (k := 2) (by decide) 0).set (k := 3) (by decide) 0
  refine ⟨fun j hj => ?_, this.z, this.lt⟩
  rw [this.c j hj]
  match j, hj with
  | 0, _ => rfl
  | 1, _ => rfl
  | 2, _ => rfl
  | 3, _ => rfl

set_option maxHeartbeats 1000000 in
theorem readOctets (l : List UInt8) (w : World) (hl : l.length < 4294967281) (hm : MaxL w) :
    Calls Tryd.prog 30 #[.string ⟨l.toArray⟩] w fun e w' => e = .returned (.tuple #[octV l, .bool (Bur.okO l)]) ∧ Below w.heap.size w w' := by
  have hgm := hm.lt
  go_enter Tryd.func30, Tryd.ntmps30
  go_wp2
  go_loopw [0, 12] (fun t i wr => ∃ (k : Nat) (f : Nat → Int), k ≤ 4 ∧ t = .string ⟨(Bur.it k l).toArray⟩ ∧ i = .int .i64 k ∧ Oc wr w.heap.size (fun _ => 0) ∧ Oc wr (w.heap.size + 1) f ∧ MaxL wr ∧ Below w.heap.size w wr ∧ (∀ j, j < k → f j = Bur.ov l j ∧ Bur.og l j = true)) (fun _ i _ => (4 - intOf i).toNat)
  case atStart =>
    exact ⟨0, fun _ => 0, by omega, rfl, rfl, (Oc.new w).step (below_al (below_self _) _), Oc.newAt (w := w.alloc (ocs 0 0 0 0)) (by simp), (hm.alloc _).alloc _, below_al (below_al (below_self _) _) _, fun j hj => by omega⟩
  case round =>
    obtain ⟨k, f, hk, rfl, rfl, cR, cB, hmr, hbr, hgood⟩ := hrel
    have HG : Hid _ := hgood
    clear hgood hm
    have hil := Bur.it_len l k
    have hwl := Bur.cw_len (Bur.it k l)
    by_cases hlt : k < 4
    · have hlt' : (k : Int) < 4 := by omega
      go_wp2_with fail
      refine (cutDot _ _ (by omega) hmr).mono ?_; rintro e w1 ⟨rfl, n1, rfl⟩
      have hb1 : Below wr.heap.size wr (wr.drewN n1) := below_drewN (below_self _) n1
      replace cR := cR.step hb1
      replace cB := cB.step hb1
      replace hmr := hmr.step hb1
      replace hbr := below_via hbr hb1
      clear hb1
      generalize wr.drewN n1 = W1 at *
      have r0 := cR.c 0 (by decide)
      have r1 := cR.c 1 (by decide)
      have r2 := cR.c 2 (by decide)
      have r3 := cR.c 3 (by decide)
      have z0 := cR.z 0 (by decide)
      have z1 := cR.z 1 (by decide)
      have z2 := cR.z 2 (by decide)
      have z3 := cR.z 3 (by decide)
      have ck := cB.c k hlt
      have zk := cB.z k hlt
      have vb : 0 ≤ Bur.rdV 255 (Bur.cw (Bur.it k l)) ∧ Bur.rdV 255 (Bur.cw (Bur.it k l)) ≤ 255 := Bur.ov_bd l k
      have dn : ∀ fk : Nat → Int, (fk = fun j => if j = k then Bur.rdV 255 (Bur.cw (Bur.it k l)) else f j) → Bur.og l k = true → ∀ j, j < k + 1 → fk j = Bur.ov l j ∧ Bur.og l j = true := by
        intro fk e h j hj
        subst e
        by_cases e : j = k
        · subst e; exact ⟨if_pos rfl, h⟩
        · show (if j = k then _ else f j) = _ ∧ _
          rw [if_neg e]; exact HG.out j (by omega)
      have DN : Hid _ := dn
      clear dn
      by_cases h3' : k = 3
      · have b3 : ((k : Int) == 3) = true := by simp [h3']
        have h3 : Hid ((k == 3) = true) := by show _ = _; simp [h3']
        clear h3'
        cases hf : Bur.cf (Bur.it k l)
        · go_wp2_with fail
          refine (readNum _ 255 _ (by decide) (by decide) (by omega)).mono ?_; rintro e w2 ⟨rfl, rfl⟩
          cases hg : Bur.rdB 255 (Bur.cw (Bur.it k l))
          · go_wp2
            have hno : Bur.okO l = false := Bur.okO_no hlt (by simp [Bur.og, hg])
            rw [octV_no hno, hno]
            exact bodyPost_ret (v := .tuple #[oct 0 0 0 0, .bool false]) (by simp [results, Tryd.results30, go_sem, r0, r1, r2, r3]) rfl ⟨rfl, (((hbr.setCell (by simp) _).setCell (by simp) _).setCell (by simp) _).setCell (by simp) _⟩
          · go_wp2
            exact ⟨⟨k + 1, fun j => if j = k then Bur.rdV 255 (Bur.cw (Bur.it k l)) else f j, by omega, rfl, by go_num, cR.far (by simp) _, cB.set hlt _, hmr.set (by show w.heap.size + 1 ≠ 1; omega) _, hbr.setCell (by simp) _, DN.out _ rfl (by unfold Bur.og; rw [hf, h3.out, hg]; rfl)⟩, by simp [intOf]; omega⟩
        · go_wp2
          have hno : Bur.okO l = false := Bur.okO_no hlt (by unfold Bur.og; rw [hf, h3.out]; rfl)
          rw [octV_no hno, hno]
          exact bodyPost_ret (v := .tuple #[oct 0 0 0 0, .bool false]) (by simp [results, Tryd.results30, go_sem, r0, r1, r2, r3]) rfl ⟨rfl, (((hbr.setCell (by simp) _).setCell (by simp) _).setCell (by simp) _).setCell (by simp) _⟩
      · have b3 : ((k : Int) == 3) = false := by simp; omega
        have h3 : Hid ((k == 3) = false) := by show _ = _; simp [h3']
        clear h3'
        cases hf : Bur.cf (Bur.it k l)
        · go_wp2
          have hno : Bur.okO l = false := Bur.okO_no hlt (by unfold Bur.og; rw [hf, h3.out]; rfl)
          rw [octV_no hno, hno]
          exact bodyPost_ret (v := .tuple #[oct 0 0 0 0, .bool false]) (by simp [results, Tryd.results30, go_sem, r0, r1, r2, r3]) rfl ⟨rfl, (((hbr.setCell (by simp) _).setCell (by simp) _).setCell (by simp) _).setCell (by simp) _⟩
        · go_wp2_with fail
          refine (readNum _ 255 _ (by decide) (by decide) (by omega)).mono ?_; rintro e w2 ⟨rfl, rfl⟩
          cases hg : Bur.rdB 255 (Bur.cw (Bur.it k l))
          · go_wp2
            have hno : Bur.okO l = false := Bur.okO_no hlt (by simp [Bur.og, hg])
            rw [octV_no hno, hno]
            exact bodyPost_ret (v := .tuple #[oct 0 0 0 0, .bool false]) (by simp [results, Tryd.results30, go_sem, r0, r1, r2, r3]) rfl ⟨rfl, (((hbr.setCell (by simp) _).setCell (by simp) _).setCell (by simp) _).setCell (by simp) _⟩
          · go_wp2
            exact ⟨⟨k + 1, fun j => if j = k then Bur.rdV 255 (Bur.cw (Bur.it k l)) else f j, by omega, rfl, by go_num, cR.far (by simp) _, cB.set hlt _, hmr.set (by show w.heap.size + 1 ≠ 1; omega) _, hbr.setCell (by simp) _, DN.out _ rfl (by unfold Bur.og; rw [hf, h3.out, hg]; rfl)⟩, by simp [intOf]; omega⟩
    · have hk4 : k = 4 := by omega
      subst hk4
      have c0 := cB.c 0 (by decide)
      have c1 := cB.c 1 (by decide)
      have c2 := cB.c 2 (by decide)
      have c3 := cB.c 3 (by decide)
      have r0 := cR.c 0 (by decide)
      have r1 := cR.c 1 (by decide)
      have r2 := cR.c 2 (by decide)
      have r3 := cR.c 3 (by decide)
      have z0 := cR.z 0 (by decide)
      have z1 := cR.z 1 (by decide)
      have z2 := cR.z 2 (by decide)
      have z3 := cR.z 3 (by decide)
      go_wp2
      have hok : Bur.okO l = true := Bur.okO_ok fun j hj => (HG.out j hj).2
      rw [octV_ok hok, hok, ← (HG.out 0 (by decide)).1, ← (HG.out 1 (by decide)).1, ← (HG.out 2 (by decide)).1, ← (HG.out 3 (by decide)).1]
      exact bodyPost_ret (v := .tuple #[oct (f 0) (f 1) (f 2) (f 3), .bool true]) (by simp [results, Tryd.results30, go_sem, r0, r1, r2, r3]) rfl ⟨rfl, (((hbr.setCell (by simp) _).setCell (by simp) _).setCell (by simp) _).setCell (by simp) _⟩
end Go.Proofs.YtnnjegohoejlbaaDoor
