/- For every prefix and every list of prefixes the law FreeBlocks returns true, and its arguments read as they did; listed, and tied to the text: the tables of math/bits. -/
import Derived.Test.YtfhidiedmenliaaDoorRows
import Derived.Test.YtfhidiedmenliaaDoorCards
import Derived.Test.YtfhidiedmenliaaDoorTie
import Derived.Test.YtfhidiedmenliaaDoorCvOpen
import Derived.Test.YtfhidiedmenliaaDoorFbLawB
import Derived.ProofKit
import Derived.OpenShut
import Derived.LaidLaws
import Derived.LaidHandle
import Derived.Deep.DeepHandedRow
import Derived.JoinedCond
import Derived.Lib.LaidTab
import Derived.Lib.SmallJoins
import Derived.SevenTiedAt
namespace Go.Proofs.YtfhidiedmenliaaDoor
open Go.ChangeShapes Go.WideShapes Go.ChangeAt Go.RowKit Go.Joins

theorem fb_own : ownKnob Tryd.prog.godebug = none := by kernel_rfl
theorem fb_laid {W : World} (h : laidMetH Tryd.prog Rows.freeBlocksRow.laid W) : Tab W := by
  have h' : laidMet Tryd.prog [("math/bits.deBruijn32tab", Rows.laid_math_bits_deBruijn32tab), ("math/bits.deBruijn64tab", Rows.laid_math_bits_deBruijn64tab)] W := h
  obtain ⟨ps, ⟨_, _, _, _, _, _, _, _, _, _, h2, _⟩, _⟩ := h'
  exact tab_of_vars h2

set_option maxRecDepth 100000 in
theorem fb_contract {H : Type} (enc : TypeId × Value → H) (W : World) (base : Nat) (args : Array Value) (ds gs : List (DataW H)) (before : List MemPlace)
    (hval : ∀ (j : Nat) t v, Tryd.f3.params[j]? = some t → args[j]? = some v → Value.okWide Tryd.prog W .any base t v)
    (hW : DataW.Whole enc Tryd.prog Tryd.f3.params.toList Rows.freeBlocksSpec.vars false W args.toList ds gs before) (hL : laidMetH Tryd.prog Rows.freeBlocksRow.laid W) :
    Calls Tryd.prog 3 args W fun e W' => ∃ v, e = .returned v ∧ Rows.freeBlocksSpec.post enc Tryd.prog Tryd.f3 false true false false W args v W' := by
  have hW' := hW
  obtain ⟨p, q, hA, hV, rfl, hfz, hnd⟩ := hW
  rw [Tryd.params3] at hA hval
  obtain ⟨v0, v1, d0, d1, p0, p1, rfl, rfl, rfl, h0, h1⟩ := trodAll_two hA
  obtain ⟨rfl, rfl⟩ := trodVars_none hV
  obtain ⟨c0, c1, y0, y1, m, rfl, rfl, rfl, hy0, hy1⟩ := open_agg2 Tryd.underlying23 (by kernel_rfl) pfx_cells (hval 0 23 v0 rfl rfl) h0
  obtain ⟨a, e0, rfl, wa⟩ := DataW.trod_int Tryd.underlying3 hy0
  obtain ⟨z, e1, rfl, wz⟩ := DataW.trod_int Tryd.underlying3 hy1
  simp at e0 e1
  subst e0 e1
  have hlt : ∀ x ∈ p1, x.block < W.heap.size := fun x hx => by simpa using hW'.lt x (by simpa using hx)
  obtain ⟨pp, cp, l, rfl, hll, hsl⟩ := open_pfxs (hval 1 24 v1 rfl rfl) h1
  simp only [List.append_nil, List.nil_append] at hW'
  have reads : ∀ (W' : World) (sp : Nat → Bool), DataW.Trod enc Tryd.prog W' 0 sp true 23 (pfx a z) (.agg [.lit (.int .i64 a), .lit (.int .i64 z)]) [] := fun W' sp =>
    shut_agg2 (y0 := (.lit (.int .i64 a), [])) (y1 := (.lit (.int .i64 z), [])) Tryd.underlying23 (by kernel_rfl) pfx_cells ⟨1, by simp [DataW.trod, Tryd.underlying3, wa]⟩ ⟨1, by simp [DataW.trod, Tryd.underlying3, wz]⟩
  refine (law_blocks a z l pp cp W (by unfold maxLen at hll; omega) hsl (fb_laid hL)).mono fun e W' ⟨he, hb⟩ => ?_
  subst he
  have e1 : Rows.freeBlocksSpec.fn H ([.agg [.lit (.int .i64 a), .lit (.int .i64 z)], d1] ++ []) = { results := [.lit (.bool true)], args := [.agg [.lit (.int .i64 a), .lit (.int .i64 z)], d1] } := by simp [Rows.freeBlocksSpec]
  refine ⟨_, rfl, _, _, _, [], [] ++ p1, [], hW', ?_, ?_, ?_, hb.frame _, fun h => by cases h⟩
  · rw [e1]; exact trodAll_mk1 (shut_bool Tryd.underlying4 true)
  · rw [e1]; exact trodAll_mk2 (reads _ _) (Below.trod laid_out (by kernel_rfl) (of_decide_eq_true (by kernel_rfl)) h1 hb (fun x hx => hlt x hx))
  · rw [e1]; rfl

theorem fb_met (os : Os) : laidMetH Tryd.prog Rows.freeBlocksRow.laid (({ World.holding Tryd.prog os ⟨#[], #[], []⟩ with heap := ((World.holding Tryd.prog os ⟨#[], #[], []⟩).heap.modify 0 (layCv cvTab32)).modify 1 (layCv cvTab64) } : World).forCall (fun _ _ => 0) ⟨#[], #[pfx 0 0, .slice none 0 0], []⟩).memory :=
  laidMetH_of_parts (laidMet_of_run' 8 (by kernel_rfl) (by kernel_rfl)) (by kernel_rfl)
theorem fb_reads (os : Os) {H : Type} (enc : TypeId × Value → H) : ∃ places, DataW.whole enc Tryd.prog (({ World.holding Tryd.prog os ⟨#[], #[], []⟩ with heap := ((World.holding Tryd.prog os ⟨#[], #[], []⟩).heap.modify 0 (layCv cvTab32)).modify 1 (layCv cvTab64) } : World).forCall (fun _ _ => 0) ⟨#[], #[pfx 0 0, .slice none 0 0], []⟩).memory Tryd.f3.params.toList Rows.freeBlocksSpec.vars false (#[pfx 0 0, .slice none 0 0] : Array Value).toList 8 = some ([.agg [.lit (.int .i64 0), .lit (.int .i64 0)], .nil], [], places) :=
  ⟨[], by kernel_rfl⟩

set_option maxRecDepth 100000 in
theorem fb_lifted (os : Os) (started : os.Started) (H : Type) (enc : TypeId × Value → H) (F : Stop.Interp) :
    ReturnsInHanded {} Tryd.checked os 3 .any ((OpenSpec.ofChange Rows.freeBlocksSpec).preRow enc Tryd.prog Tryd.f3 Rows.freeBlocksRow.domain false Rows.freeBlocksRow.laid) (((OpenSpec.ofChange Rows.freeBlocksSpec).at F).post enc Tryd.prog Tryd.f3 false true false false) := by
  obtain ⟨places, hx⟩ := fb_reads os enc
  refine returnsInHanded_of_row (C := Tryd.checked) (s := OpenSpec.ofChange Rows.freeBlocksSpec) fb_own started (by kernel_rfl) Tryd.func3
    (witness_row_at (enc := enc) (C := Tryd.checked) false ({ World.holding Tryd.prog os ⟨#[], #[], []⟩ with heap := ((World.holding Tryd.prog os ⟨#[], #[], []⟩).heap.modify 0 (layCv cvTab32)).modify 1 (layCv cvTab64) } : World) #[pfx 0 0, .slice none 0 0] rfl (by kernel_rfl) (by kernel_rfl) (by kernel_rfl)
      (OpenSpec.preRow_of_cond 8 hx (by kernel_rfl) (fun k hk => by cases hk) (by kernel_rfl) (fb_met os))) ?_
  intro W base args ds gs before hval hW _ _ _ hL _ _
  exact fb_contract enc W base args ds gs before hval hW hL

theorem fb_said : Rows.FreeBlocksSaid :=
  OpenClaim.holds_of_cond 3 Tryd.f3 rfl rfl rfl rfl rfl rfl rfl ⟨rfl, rfl, rfl, rfl, rfl⟩ rfl rfl rfl rfl rfl (by kernel_rfl) Tryd.func3 (by kernel_rfl)
    (of_decide_eq_true (by kernel_rfl)) (by unfold Func.isWrapper; rw [if_neg (of_decide_eq_false (by kernel_rfl))]; exact ⟨rfl, rfl⟩)
    (fun os started H enc _ F => by rw [OpenClaim.pre_eq_preRow]; exact fb_lifted os started H enc F)

theorem fb_plain (f : FuncId) (fn : Func) (hf : Tryd.pinned.checked.prog.funcNamed "burgage/burgagelaw1.FreeBlocks" = some f) (hfn : Tryd.pinned.checked.prog.funcs[f]? = some fn) :
    false = Tryd.pinned.checked.prog.looks [] ∧ ∀ (j : Nat) t, fn.params[j]? = some t → Tryd.pinned.checked.prog.wantsStandIn t = false := by
  obtain rfl : f = 3 := Option.some.inj ((show Tryd.prog.funcNamed "burgage/burgagelaw1.FreeBlocks" = some 3 by kernel_rfl).symm.trans hf) |>.symm
  obtain rfl : fn = Tryd.f3 := (Option.some.inj (Tryd.func3.symm.trans hfn)).symm
  refine ⟨by kernel_rfl, fun j t ht => ?_⟩
  rw [Tryd.params3] at ht
  have ht' : t = 23 ∨ t = 24 := by
    have := Array.mem_of_getElem? ht
    simp at this
    omega
  rcases ht' with rfl | rfl
  · exact (show Tryd.prog.wantsStandIn 23 = false by kernel_rfl)
  · exact (show Tryd.prog.wantsStandIn 24 = false by kernel_rfl)

/-- The card of FreeBlocks: for every input the law returns true. -/
theorem freeBlocks_card : Rows.FreeBlocksCardSaid :=
  Claim7.holds_tied_plain_at .later [] _ _ _ _ fb_said (fun _ h => by cases h) (by kernel_rfl) (fun _ h => by cases h) freeBlocks_row_tie rfl ⟨rfl, rfl⟩ (by kernel_rfl) rfl fb_plain (by kernel_rfl)
#print axioms freeBlocks_card
end Go.Proofs.YtfhidiedmenliaaDoor
