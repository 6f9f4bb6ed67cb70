/- The contracts of Parse, Print, PrintPrefix, ParsePrefix. -/
import Derived.Test.YtnnjegohoejlbaaDoorAdStrC
import Derived.Test.YtnnjegohoejlbaaDoorAdUni
namespace Bur
open Go
/-- The text of an address. -/
def txtA (a : Int) : List UInt8 := txt (a / 16777216) (a / 65536 % 256) (a / 256 % 256) (a % 256)
/-- The address of a text, where it is one. -/
def adr (l : List UInt8) : Int := if okO l = true then ((ov l 0 * 256 + ov l 1) * 256 + ov l 2) * 256 + ov l 3 else 0
def adrF (l : List UInt8) : Int := if okO l = true then 0 else 5
end Bur
namespace Go.Proofs.YtnnjegohoejlbaaDoor
open Go.RowKit

theorem parse (l : List UInt8) (w : World) (hl : l.length < 4294967281) (hm : MaxL w) :
    Calls Tryd.prog 7 #[.string ⟨l.toArray⟩] w fun e w' => e = .returned (.tuple #[.int .i64 (Bur.adr l), ev (Bur.adrF l)]) ∧ Below w.heap.size w w' := by
  have b0 := Bur.ov_bd l 0
  have b1 := Bur.ov_bd l 1
  have b2 := Bur.ov_bd l 2
  have b3 := Bur.ov_bd l 3
  cases h : Bur.okO l
  · rw [show Bur.adr l = 0 from if_neg (by simp [h]), show Bur.adrF l = 5 from if_neg (by simp [h]), ev_ne (by decide)]
    have hv := octV_no h
    go_enter Tryd.func7, Tryd.ntmps7
    go_wp2_with (go_at_call 30; refine (readOctets _ _ hl hm).mono ?_; rintro e w1 ⟨rfl, hb⟩)
    go_ret2
    exact ⟨rfl, below_al hb _⟩
  · rw [show Bur.adr l = ((Bur.ov l 0 * 256 + Bur.ov l 1) * 256 + Bur.ov l 2) * 256 + Bur.ov l 3 from if_pos h, show Bur.adrF l = 0 from if_pos h, ev_0]
    have hv := octV_ok h
    go_enter Tryd.func7, Tryd.ntmps7
    go_wp2_with (first | (go_at_call 30; refine (readOctets _ _ hl hm).mono ?_; rintro e w1 ⟨rfl, hb⟩) | (go_at_call 31; refine (join _ _ _ _ _ b0.1 b0.2 b1.1 b1.2 b2.1 b2.2 b3.1 b3.2).mono ?_; rintro e w2 ⟨rfl, rfl⟩))
    go_ret2
    exact ⟨rfl, below_al (below_al hb _) _⟩

theorem print_no (a : Int) (w : World) (h : Bur.isA a = false) :
    Calls Tryd.prog 11 #[.int .i64 a] w fun e w' => e = .returned (.tuple #[.string ⟨#[]⟩, errN 1]) ∧ Below w.heap.size w w' := by
  go_enter Tryd.func11, Tryd.ntmps11
  go_wp2_with (go_at_call 33; refine (isAddress _ _).mono ?_; rintro e w' ⟨rfl, rfl⟩)
  go_ret2
  exact ⟨rfl, below_self _⟩
theorem print_ok (a : Int) (w : World) (h : Bur.isA a = true) (ht : Pow10 w) :
    Calls Tryd.prog 11 #[.int .i64 a] w fun e w' => e = .returned (.tuple #[.string ⟨(Bur.txtA a).toArray⟩, .nilIface]) ∧ Below w.heap.size w w' := by
  obtain ⟨a0, a1⟩ := Bur.isA_true h
  unfold Bur.txtA
  go_enter Tryd.func11, Tryd.ntmps11
  go_wp2_with (first | (go_at_call 33; refine (isAddress _ _).mono ?_; rintro e w' ⟨rfl, rfl⟩) | (go_at_call 35; refine (split _ _ h).mono ?_; rintro e w1 ⟨rfl, hb1⟩) | (go_at_call 34; refine (writeOctets _ _ _ _ _ (by exact ht.step hb1) (by omega) (by omega) (by omega) (by omega) (by omega) (by omega) (by omega) (by omega)).mono ?_; rintro e w2 ⟨rfl, hb2⟩))
  go_ret2
  exact ⟨rfl, below_via hb1 hb2⟩
end Go.Proofs.YtnnjegohoejlbaaDoor
