/- For every list of pairs, every text and every prefix, all together of bulk at most 1048576, the law AuditIs returns true, and its arguments read as they did; listed, and tied to the text: what errors.errorType holds. -/
import Derived.Test.YtdjiodikefoliaaDoorRows
import Derived.Test.YtdjiodikefoliaaDoorCards
import Derived.Test.YtdjiodikefoliaaDoorTie
import Derived.Test.YtdjiodikefoliaaDoorCAuOpen
import Derived.Test.YtdjiodikefoliaaDoorCAuN
import Derived.ProofKit
import Derived.OpenShut
import Derived.ChangeMaps5
import Derived.LaidLaws
import Derived.LaidHandle
import Derived.Deep.DeepHandedRow
import Derived.Lib.LaidTab
import Derived.Lib.SmallJoins
import Derived.Shelf.Vars
import Derived.JoinedCond
import Derived.SevenTiedAt
namespace Go.Proofs.YtdjiodikefoliaaDoor
open Go.ChangeShapes Go.WideShapes Go.ChangeAt Go.ChangeMaps Go.RowKit Go.Joins

theorem ad_own : ownKnob Tryd.prog.godebug = none := by kernel_rfl
theorem ad_cells : Tryd.prog.cellsOf 24 = 2 := by kernel_rfl
theorem ad_etGlobal : Tryd.prog.globalNamed "errors.errorType" = some 0 := by kernel_rfl
theorem ad_rtType : (Tryd.prog.cutTypes.find? (·.1 == "internal/reflectlite.rtype")).map (·.2) = some 137 := by kernel_rfl
theorem ad_errRow : ((List.range 190).filter fun t => Tryd.prog.rowNamed t [101, 114, 114, 111, 114]) = [29] := by kernel_rfl
theorem ad_typesSize : Tryd.prog.types.size = 190 := by kernel_rfl
theorem ad_globalsSize : Tryd.prog.globals.size = 2 := by kernel_rfl
/-- What the listed handle gives: the variable's one cell. -/
theorem ad_handle {W : World} (h : handlesMet Tryd.prog [("errors.errorType", Rows.laid_errors_errorType)] W) : ErrType W := by
  obtain ⟨name, u, ty, e1, e2, e3, e4, e5⟩ := h _ (List.mem_singleton.2 rfl)
  have en : name = [101, 114, 114, 111, 114] := (Option.some.inj e1).symm
  subst en
  obtain rfl := Option.some.inj (ad_rtType.symm.trans e2)
  have hm : ty ∈ (List.range 190).filter fun t => Tryd.prog.rowNamed t [101, 114, 114, 111, 114] := List.mem_filter.2 ⟨List.mem_range.2 (by rw [← ad_typesSize]; exact e3), e4⟩
  rw [ad_errRow] at hm
  obtain rfl := List.mem_singleton.1 hm
  have hh : typeHandle Tryd.prog 29 = .pointer (some ⟨2, 29, none⟩) := by kernel_rfl
  rw [hh] at e5
  simpa using World.var?_cell ad_etGlobal e5 0
theorem ad_laid {W : World} (h : laidMetH Tryd.prog Rows.auditIsUptoRow.laid W) : ErrType W := by
  have h' : laidMet Tryd.prog [] W ∧ handlesMet Tryd.prog [("errors.errorType", Rows.laid_errors_errorType)] W := h
  exact ad_handle h'.2
theorem ad_maxL {W : World} (h : W.ShapedOpen Tryd.prog) : Pa.MaxL W :=
  cell_of_shapedOpen_int (g := 1) (t := 3) (zero := #[.int .i64 0]) h (by rw [ad_globalsSize]; decide) (by kernel_rfl) rfl (by kernel_rfl) (by kernel_rfl) Tryd.underlying3
/-- What the bound says of the texts. -/
theorem ad_bulk {H : Type} (d e : DataW H) (s : List UInt8) (h : Rows.uptoSmall H ([d, .lit (.string s), e] ++ []) = true) : Rows.uptoBulk d ≤ 1048576 ∧ s.length ≤ 1048576 := by
  have h2 : Rows.uptoBulkAll (H := H) [d, .lit (.string s), e] ≤ 1048576 := of_decide_eq_true h
  simp only [Rows.uptoBulkAll, Rows.uptoBulk] at h2
  omega
set_option maxRecDepth 100000 in
theorem ad_contract {H : Type} (enc : TypeId × Value → H) (W : World) (base : Nat) (args : Array Value) (ds gs : List (DataW H)) (before : List MemPlace)
    (hval : ∀ (j : Nat) t v, Tryd.f3.params[j]? = some t → args[j]? = some v → Value.okWide Tryd.prog W .any base t v)
    (hW : DataW.Whole enc Tryd.prog Tryd.f3.params.toList Rows.auditIsSpec.vars false W args.toList ds gs before) (hk : Rows.uptoSmall H (ds ++ gs) = true) (hL : laidMetH Tryd.prog Rows.auditIsUptoRow.laid W) (hsh : W.ShapedOpen Tryd.prog) :
    Calls Tryd.prog 3 args W fun e W' => ∃ v, e = .returned v ∧ Rows.auditIsSpec.post enc Tryd.prog Tryd.f3 false true false false W args v W' := by
  have hW' := hW
  obtain ⟨p, q, hA, hV, rfl, hfz, hnd⟩ := hW
  rw [Tryd.params3] at hA hval
  obtain ⟨v0, v1, v2, d0, d1, d2, p0, p1, p2, rfl, rfl, rfl, h0, h1, h2⟩ := trodAll_three hA
  obtain ⟨rfl, rfl⟩ := trodVars_none hV
  obtain ⟨s, rfl, rfl, rfl, ws⟩ := open_string Tryd.underlying9 (hval 1 9 v1 rfl rfl) h1
  obtain ⟨c0, c1, y0, y1, m, rfl, rfl, rfl, hy0, hy1⟩ := open_agg2 Tryd.underlying24 (by kernel_rfl) ad_cells (hval 2 24 v2 rfl rfl) h2
  obtain ⟨pa, e0, rfl, wpa⟩ := DataW.trod_int Tryd.underlying3 hy0
  obtain ⟨pl, e1, rfl, wpl⟩ := DataW.trod_int Tryd.underlying3 hy1
  simp at e0 e1
  subst e0 e1
  have hlt : ∀ x ∈ p0, x.block < W.heap.size := fun x hx => by simpa using hW'.lt x (by simpa using hx)
  obtain ⟨pp, cp, l, rfl, hll, hsl, hsz⟩ := open_pairsB (hval 0 22 v0 rfl rfl) h0
  obtain ⟨bk, bs⟩ := ad_bulk _ _ _ hk
  simp only [List.append_nil] at hW'
  have reads : ∀ (W' : World) (sp : Nat → Bool), DataW.Trod enc Tryd.prog W' 0 sp true 24 (pfx pa pl) (.agg [.lit (.int .i64 pa), .lit (.int .i64 pl)]) [] := fun W' sp =>
    shut_agg2 (y0 := (.lit (.int .i64 pa), [])) (y1 := (.lit (.int .i64 pl), [])) Tryd.underlying24 (by kernel_rfl) ad_cells ⟨1, by simp [DataW.trod, Tryd.underlying3, wpa]⟩ ⟨1, by simp [DataW.trod, Tryd.underlying3, wpl]⟩
  have hS : (⟨s.data.toList.toArray⟩ : ByteArray) = s := by cases s; simp
  have law := Au.law_audit l s.data.toList pa pl pp cp W hsl (by unfold maxLen at hll; omega) (fun x hx => by have := (hsz x hx).1; omega) (fun x hx => by have := (hsz x hx).2; omega) (by unfold maxLen; omega) ((Au.wf_64 pa).1 wpa) ((Au.wf_64 pl).1 wpl) (ad_maxL hsh) (ad_laid hL)
  rw [hS] at law
  refine law.mono fun e W' ⟨he, hb⟩ => ?_
  subst he
  have e1 : Rows.auditIsSpec.fn H ([d0, .lit (.string s.data.toList), .agg [.lit (.int .i64 pa), .lit (.int .i64 pl)]] ++ []) = { results := [.lit (.bool true)], args := [d0, .lit (.string s.data.toList), .agg [.lit (.int .i64 pa), .lit (.int .i64 pl)]] } := by simp [Rows.auditIsSpec]
  refine ⟨_, rfl, _, _, _, [], p0 ++ ([] ++ []), [], by simpa using hW', ?_, ?_, ?_, hb.frame _, fun h => by cases h⟩
  · rw [e1]; exact trodAll_mk1 (shut_bool Tryd.underlying4 true)
  · rw [e1]; exact trodAll_mk3 (Below.trod laid_out (by kernel_rfl) (of_decide_eq_true (by kernel_rfl)) h0 hb (fun x hx => hlt x hx)) (shut_string Tryd.underlying9 ws) (reads _ _)
  · rw [e1]; rfl
def ad_lay (cs : Array Value) : Obj → Obj
  | .cells _ t frozen => .cells cs t frozen
  | o => o
/-- A world that meets the row's list. -/
theorem ad_met (os : Os) : laidMetH Tryd.prog Rows.auditIsUptoRow.laid (({ World.holding Tryd.prog os ⟨#[], #[], []⟩ with heap := (World.holding Tryd.prog os ⟨#[], #[], []⟩).heap.modify 0 (ad_lay #[.iface 137 (.agg #[.pointer (some ⟨2, 29, none⟩)])]) } : World).forCall (fun _ _ => 0) ⟨#[], #[.slice none 0 0, .string ⟨#[]⟩, pfx 0 0], []⟩).memory :=
  laidMetH_of_parts (laidMet_nil _ _) (by kernel_rfl)
theorem ad_reads (os : Os) {H : Type} (enc : TypeId × Value → H) : ∃ places, DataW.whole enc Tryd.prog (({ World.holding Tryd.prog os ⟨#[], #[], []⟩ with heap := (World.holding Tryd.prog os ⟨#[], #[], []⟩).heap.modify 0 (ad_lay #[.iface 137 (.agg #[.pointer (some ⟨2, 29, none⟩)])]) } : World).forCall (fun _ _ => 0) ⟨#[], #[.slice none 0 0, .string ⟨#[]⟩, pfx 0 0], []⟩).memory Tryd.f3.params.toList Rows.auditIsSpec.vars false (#[.slice none 0 0, .string ⟨#[]⟩, pfx 0 0] : Array Value).toList 8 = some ([.nil, .lit (.string []), .agg [.lit (.int .i64 0), .lit (.int .i64 0)]], [], places) :=
  ⟨[], by kernel_rfl⟩
set_option maxRecDepth 100000 in
theorem ad_lifted (os : Os) (started : os.Started) (H : Type) (enc : TypeId × Value → H) (F : Stop.Interp) :
    ReturnsInHanded {} Tryd.checked os 3 .any ((Rows.OpenSpec.upto Rows.auditIsSpec).preRow enc Tryd.prog Tryd.f3 Rows.auditIsUptoRow.domain false Rows.auditIsUptoRow.laid) (((Rows.OpenSpec.upto Rows.auditIsSpec).at F).post enc Tryd.prog Tryd.f3 false true false false) := by
  obtain ⟨places, hx⟩ := ad_reads os enc
  refine returnsInHanded_of_row (C := Tryd.checked) (s := Rows.OpenSpec.upto Rows.auditIsSpec) ad_own started (by kernel_rfl) Tryd.func3
    (witness_row_at (enc := enc) (C := Tryd.checked) false ({ World.holding Tryd.prog os ⟨#[], #[], []⟩ with heap := (World.holding Tryd.prog os ⟨#[], #[], []⟩).heap.modify 0 (ad_lay #[.iface 137 (.agg #[.pointer (some ⟨2, 29, none⟩)])]) } : World) #[.slice none 0 0, .string ⟨#[]⟩, pfx 0 0] rfl (by kernel_rfl) (by kernel_rfl) (by kernel_rfl)
      (OpenSpec.preRow_of_cond 8 hx (by kernel_rfl) (fun k hk => by cases hk; kernel_rfl) (by kernel_rfl) (ad_met os))) ?_
  intro W base args ds gs before hval hW _ hcond _ hL hsh _
  exact ad_contract enc W base args ds gs before hval hW (hcond _ rfl) hL hsh
theorem ad_said : Rows.AuditIsUptoSaid :=
  OpenClaim.holds_of_cond 3 Tryd.f3 rfl rfl rfl rfl rfl rfl rfl ⟨rfl, rfl, rfl, rfl, rfl⟩ rfl rfl rfl rfl rfl (by kernel_rfl) Tryd.func3 (by kernel_rfl)
    (of_decide_eq_true (by kernel_rfl)) (by unfold Func.isWrapper; rw [if_neg (of_decide_eq_false (by kernel_rfl))]; exact ⟨rfl, rfl⟩)
    (fun os started H enc _ F => by rw [OpenClaim.pre_eq_preRow]; exact ad_lifted os started H enc F)
theorem ad_plain (f : FuncId) (fn : Func) (hf : Tryd.pinned.checked.prog.funcNamed "burgage/burgagelaw3.AuditIs" = some f) (hfn : Tryd.pinned.checked.prog.funcs[f]? = some fn) :
    true = Tryd.pinned.checked.prog.looks [] ∧ ∀ (j : Nat) t, fn.params[j]? = some t → Tryd.pinned.checked.prog.wantsStandIn t = false := by
  obtain rfl : f = 3 := Option.some.inj ((show Tryd.prog.funcNamed "burgage/burgagelaw3.AuditIs" = some 3 by kernel_rfl).symm.trans hf) |>.symm
  obtain rfl : fn = Tryd.f3 := (Option.some.inj (Tryd.func3.symm.trans hfn)).symm
  refine ⟨by kernel_rfl, fun j t ht => ?_⟩
  rw [Tryd.params3] at ht
  have ht' : t = 22 ∨ t = 9 ∨ t = 24 := by
    have := Array.mem_of_getElem? ht
    simpa using this
  rcases ht' with rfl | rfl | rfl
  · exact (show Tryd.prog.wantsStandIn 22 = false by kernel_rfl)
  · exact (show Tryd.prog.wantsStandIn 9 = false by kernel_rfl)
  · exact (show Tryd.prog.wantsStandIn 24 = false by kernel_rfl)
/-- The card of AuditIs: for every input of that bulk the law returns true. -/
theorem auditIs_card : Rows.AuditIsUptoCardSaid :=
  Claim7.holds_tied_plain_at .later [] _ _ _ _ ad_said (fun _ h => by cases h) (by kernel_rfl) (fun _ h => by cases h) auditIsUpto_row_tie rfl ⟨rfl, rfl⟩ (by kernel_rfl) rfl ad_plain (by kernel_rfl)
#print axioms auditIs_card
end Go.Proofs.YtdjiodikefoliaaDoor
