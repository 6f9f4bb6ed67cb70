/- Package audit: what was seen stands in maps. -/
import Derived.Test.YtdjiodikefoliaaDoorCAuA
import Derived.Test.YtdjiodikefoliaaDoorCHsB
import Derived.DeepKeys4
namespace Bur
open Go

theorem en_isN {l : List UInt8} {e : En} (h : enK l = some e) : isN e.2.1 = true := by
  unfold enK at h
  split at h
  · rename_i g
    cases h
    unfold nkB at g
    simp only [Bool.and_eq_true] at g
    exact g.2
  · split at h
    · rename_i p hp
      cases h
      unfold pkR at hp
      split at hp
      · rename_i g
        have := g.1
        unfold kcB at this
        simp only [Bool.and_eq_true] at this
        exact this.2.2
      · cases hp
    · split at h
      · rename_i a ha
        cases h
        unfold raK at ha
        split at ha
        · rename_i g
          have := g.1
          unfold kcB at this
          simp only [Bool.and_eq_true] at this
          exact this.2.2
        · cases ha
      · cases h
/-- The nets and the prefixes that were seen. -/
def nt1 (p : Vs.Pr) : Option (List UInt8) := match ek p with
  | none => none
  | some e => if e.1 = 1 then some e.2.1 else none
def lt1 (p : Vs.Pr) : Option (List UInt8 × Sp) := match ek p with
  | none => none
  | some e => if e.1 = 2 then some e.2 else none
def nts (L : List Vs.Pr) : List (List UInt8) := L.filterMap nt1
def lts (L : List Vs.Pr) : List (List UInt8 × Sp) := L.filterMap lt1
theorem nt1_iff {p : Vs.Pr} {n : List UInt8} : nt1 p = some n ↔ ∃ q, ek p = some (1, n, q) := by
  unfold nt1
  cases ek p with
  | none => simp
  | some e =>
    obtain ⟨a, b, c⟩ := e
    simp only [Option.some.injEq, Prod.mk.injEq]
    constructor
    · intro h
      split at h
      · rename_i g; cases h; exact ⟨c, g, rfl, rfl⟩
      · cases h
    · rintro ⟨q, rfl, rfl, rfl⟩
      rw [if_pos rfl]
theorem lt1_iff {p : Vs.Pr} {n : List UInt8} {q : Sp} : lt1 p = some (n, q) ↔ ek p = some (2, n, q) := by
  unfold lt1
  cases ek p with
  | none => simp
  | some e =>
    obtain ⟨a, b, c⟩ := e
    simp only [Option.some.injEq, Prod.mk.injEq]
    constructor
    · intro h
      split at h
      · rename_i g; cases h; exact ⟨g, rfl, rfl⟩
      · cases h
    · rintro ⟨rfl, rfl, rfl⟩
      rw [if_pos rfl]
theorem hasN_nts (L : List Vs.Pr) (n : List UInt8) : hasN L n = true ↔ n ∈ nts L := by
  unfold hasN nts
  simp only [List.any_eq_true, isE_iff, List.mem_filterMap, nt1_iff, and_true]
theorem hasQ_lts (L : List Vs.Pr) (n : List UInt8) (q : Sp) : hasQ L n q = true ↔ (n, q) ∈ lts L := by
  unfold hasQ lts
  simp only [List.any_eq_true, isE_iff, decide_eq_true_eq, List.mem_filterMap, lt1_iff]
  constructor
  · rintro ⟨p, hp, q', hq, rfl⟩; exact ⟨p, hp, hq⟩
  · rintro ⟨p, hp, hq⟩; exact ⟨p, hp, q, hq, rfl⟩
theorem nts_take (L : List Vs.Pr) (k : Nat) (x : Vs.Pr) (h : L[k]? = some x) : nts (L.take (k + 1)) = nts (L.take k) ++ (nt1 x).toList := by
  unfold nts
  rw [List.take_add_one, h, Option.toList_some, List.filterMap_append]
  cases e : nt1 x <;> simp [e]
theorem lts_take (L : List Vs.Pr) (k : Nat) (x : Vs.Pr) (h : L[k]? = some x) : lts (L.take (k + 1)) = lts (L.take k) ++ (lt1 x).toList := by
  unfold lts
  rw [List.take_add_one, h, Option.toList_some, List.filterMap_append]
  cases e : lt1 x <;> simp [e]
end Bur
namespace Go.Proofs.YtdjiodikefoliaaDoor.Au
open Go.RowKit Go.Maps Pa

def I64 (i : Int) : Prop := -9223372036854775808 ≤ i ∧ i ≤ 9223372036854775807
theorem wf_64 (i : Int) : (Lit.int .i64 i).wf = true ↔ I64 i := by
  simp [Lit.wf, I64, show IntKind.i64.min = -9223372036854775808 from rfl, show IntKind.i64.max = 9223372036854775807 from rfl]
/-- A lot as it lies in a value, and as a key. -/
def ltV (n : List UInt8) (q : Bur.Sp) : Value := .agg #[.string ⟨n.toArray⟩, .int .i64 q.1, .int .i64 q.2]
def ltK (x : List UInt8 × Bur.Sp) : Lit := .string (keyBytes [.string x.1, .int .i64 x.2.1, .int .i64 x.2.2])
/-- It can be a key. -/
def OkK (x : List UInt8 × Bur.Sp) : Prop := x.1.length ≤ maxLen ∧ I64 x.2.1 ∧ I64 x.2.2
theorem laidOut : laidOutB Tryd.prog = true := by kernel_rfl
theorem rowLot : (69 : TypeId) < Tryd.prog.types.size := of_decide_eq_true (by kernel_rfl)
theorem wideLot : (match Tryd.prog.underlying 69 with | some (.array _ _) | some (.struct _) => true | _ => false) = true := by kernel_rfl
theorem deepLot : Tryd.prog.keyTypeAt 4 69 = true := by kernel_rfl
set_option maxRecDepth 100000 in
theorem keyedL : Keyed Tryd.prog 69 := Keyed.of_law (deep_law_laid (m := 4) laidOut (by omega) rowLot deepLot wideLot)
theorem keyedS : Keyed Tryd.prog 9 := string_keyed Tryd.underlying9
theorem keyS {n : List UInt8} (h : n.length ≤ maxLen) : keyOf Tryd.prog 9 (.string ⟨n.toArray⟩) = some (.string n) := by
  have : (ByteArray.mk n.toArray).size ≤ maxLen := by simpa [ByteArray.size] using h
  simp [keyOf, mapKey, Tryd.underlying9, this]
theorem cellsL : Tryd.prog.cellsOf 69 = 3 := by kernel_rfl
theorem cellsP : Tryd.prog.cellsOf 24 = 2 := by kernel_rfl
theorem cellsS : Tryd.prog.cellsOf 9 = 1 := by kernel_rfl
theorem cellsI : Tryd.prog.cellsOf 3 = 1 := by kernel_rfl
theorem keyTL : Tryd.prog.keyType 69 = true := by kernel_rfl
theorem litsI (d : Nat) {i : Int} (h : I64 i) : Tryd.prog.keyLits (d + 1) 3 [.int .i64 i] = some [.int .i64 i] := by
  simp [Program.keyLits, Tryd.underlying3, (wf_64 i).2 h]
theorem litsS (d : Nat) {n : List UInt8} (h : n.length ≤ maxLen) : Tryd.prog.keyLits (d + 1) 9 [.string ⟨n.toArray⟩] = some [.string n] := by
  have : (ByteArray.mk n.toArray).size ≤ maxLen := by simpa [ByteArray.size] using h
  simp [Program.keyLits, Tryd.underlying9, this]
theorem litsP (d : Nat) {q : Bur.Sp} (h1 : I64 q.1) (h2 : I64 q.2) : Tryd.prog.keyLits (d + 2) 24 [.int .i64 q.1, .int .i64 q.2] = some [.int .i64 q.1, .int .i64 q.2] := by
  simp [Program.keyLits, Tryd.underlying24, Tryd.underlying3, cellsP, cellsI, (wf_64 _).2 h1, (wf_64 _).2 h2]
theorem litsL (d : Nat) {n : List UInt8} {q : Bur.Sp} (h : OkK (n, q)) : Tryd.prog.keyLits (d + 3) 69 [.string ⟨n.toArray⟩, .int .i64 q.1, .int .i64 q.2] = some [.string n, .int .i64 q.1, .int .i64 q.2] := by
  have e1 := litsS (d + 1) h.1
  have e2 := litsP d h.2.1 h.2.2
  unfold Program.keyLits
  simp [Tryd.underlying69, cellsL, cellsP, cellsS, e1, e2]
theorem keyL {n : List UInt8} {q : Bur.Sp} (h : OkK (n, q)) : keyOf Tryd.prog 69 (ltV n q) = some (ltK (n, q)) := by
  have e := fun d => litsL d h
  unfold keyOf
  simp [Tryd.underlying69, keyTL, ltV, Value.formed, cellsL, Value.cells, e, ltK]
theorem ltV_inj {n m : List UInt8} {p q : Bur.Sp} (h : ltV n p = ltV m q) : (n, p) = (m, q) := by
  obtain ⟨a, b⟩ := p
  obtain ⟨c, d⟩ := q
  simp only [ltV, Value.agg.injEq] at h
  have h := congrArg Array.toList h
  simp at h
  obtain ⟨h1, h2, h3⟩ := h
  rw [h1, h2, h3]
theorem ltK_inj {x y : List UInt8 × Bur.Sp} (hx : OkK x) (hy : OkK y) (h : ltK x = ltK y) : x = y := by
  obtain ⟨n, p⟩ := x
  obtain ⟨m, q⟩ := y
  have e1 := keyL hx
  rw [h] at e1
  exact ltV_inj (keyedL.inj e1 (keyL hy))
theorem any_lit {α : Type} (f : α → Lit) (hf : ∀ x, WideAt.IsKeyLit (f x)) (ls : List α) (y : α) (hi : ∀ x ∈ ls, f x = f y → x = y) : (ls.map f).any (fun l => l.sameKey (f y)) = true ↔ y ∈ ls := by
  rw [List.any_eq_true]
  constructor
  · rintro ⟨l, hl, hs⟩
    obtain ⟨x, hx, rfl⟩ := List.mem_map.1 hl
    rw [← hi x hx (WideAt.sameKey_eq hs)]; exact hx
  · intro hy
    exact ⟨f y, List.mem_map.2 ⟨y, hy, rfl⟩, WideAt.sameKey_self (hf y)⟩
/-- What was seen: the two maps. -/
def nD (L : List Vs.Pr) : DataW Unit := Maps.setOf (.agg []) ((Bur.nts L).map Lit.string)
def lD (L : List Vs.Pr) : DataW Unit := Maps.setOf (.agg []) ((Bur.lts L).map ltK)
theorem okLts (L : List Vs.Pr) : ∀ x ∈ Bur.lts L, OkK x := fun x hx => by
  obtain ⟨p, hp, h⟩ := List.mem_filterMap.1 hx
  obtain ⟨n, q⟩ := x
  have h := Bur.lt1_iff.1 h
  have h1 := (Bur.isN_ok (Bur.en_isN h)).2.1
  have h2 := Bur.fault_ok (Bur.pkR_fault (Bur.en_two h).1)
  have h1 : n.length ≤ 8 := h1
  exact ⟨by show n.length ≤ maxLen; unfold maxLen; omega, ⟨by show _ ≤ q.1; omega, by show q.1 ≤ _; omega⟩, ⟨by show _ ≤ q.2; omega, by show q.2 ≤ _; omega⟩⟩
theorem has_nD (L : List Vs.Pr) (n : List UInt8) : Maps.has (nD L) (.string n) = Bur.hasN L n := by
  unfold nD
  rw [has_setOf _ _ _ (fun x hx => by obtain ⟨_, _, rfl⟩ := List.mem_map.1 hx; trivial), Bool.eq_iff_iff, Bur.hasN_nts]
  exact any_lit Lit.string (fun _ => trivial) _ n (fun x _ h => by injection h)
theorem has_lD (L : List Vs.Pr) {n : List UInt8} {q : Bur.Sp} (h : OkK (n, q)) : Maps.has (lD L) (ltK (n, q)) = Bur.hasQ L n q := by
  unfold lD
  rw [has_setOf _ _ _ (fun x hx => by obtain ⟨_, _, rfl⟩ := List.mem_map.1 hx; trivial), Bool.eq_iff_iff, Bur.hasQ_lts]
  exact any_lit ltK (fun _ => trivial) _ (n, q) (fun x hx h' => ltK_inj (okLts L x hx) h h')
structure Sg (w : World) (a b : Nat) (L : List Vs.Pr) : Prop where
  n : w.ownsMap Tryd.prog 9 unitElem a L.length (nD L)
  l : w.ownsMap Tryd.prog 69 unitElem b L.length (lD L)
theorem Sg.step {w w' : World} {a b : Nat} {L : List Vs.Pr} (h : Sg w a b L) (hb : Below w.heap.size w w') : Sg w' a b L := ⟨Ha.map_below h.n hb, Ha.map_below h.l hb⟩
def sgV (a b : Nat) : Value := .agg #[.map (some a), .map (some b)]
theorem zeroU (w : World) : (zeroValue 82).run Tryd.prog w = .ok (.agg #[]) w := by kernel_rfl
theorem look_n {w : World} {a b : Nat} {L : List Vs.Pr} (h : Sg w a b L) {n : List UInt8} (hn : n.length ≤ maxLen) : (Instr.lookup 52 (.map (some a)) (.string ⟨n.toArray⟩) true).run Tryd.prog w = .ok (.tuple #[.agg #[], .bool (Bur.hasN L n)]) w := by
  obtain ⟨v, ps, hrun, hv⟩ := h.n.look_ok keyedS Tryd.underlying52 (zeroU w) (zd := .agg []) (zp := []) unitElem_mk (keyS hn)
  rw [hrun, (unitElem_inv hv).1, has_nD]
theorem look_l {w : World} {a b : Nat} {L : List Vs.Pr} (h : Sg w a b L) {n : List UInt8} {q : Bur.Sp} (hn : OkK (n, q)) : (Instr.lookup 53 (.map (some b)) (.agg #[.string ⟨n.toArray⟩, .int .i64 q.1, .int .i64 q.2]) true).run Tryd.prog w = .ok (.tuple #[.agg #[], .bool (Bur.hasQ L n q)]) w := by
  obtain ⟨v, ps, hrun, hv⟩ := h.l.look_ok keyedL Tryd.underlying53 (zeroU w) (zd := .agg []) (zp := []) unitElem_mk (keyL hn)
  have hrun : (Instr.lookup 53 (.map (some b)) (.agg #[.string ⟨n.toArray⟩, .int .i64 q.1, .int .i64 q.2]) true).run Tryd.prog w = _ := hrun
  rw [hrun, (unitElem_inv hv).1, has_lD L hn]
def fnF (L : List Vs.Pr) (n : List UInt8) : Int := if Bur.hasN L n = true then 0 else 4
theorem auFindNet {w : World} {a b : Nat} {L : List Vs.Pr} (h : Sg w a b L) {n : List UInt8} (hn : n.length ≤ maxLen) : Calls Tryd.prog 21 #[sgV a b, .string ⟨n.toArray⟩] w fun e w' => e = .returned (ev (fnF L n)) ∧ Below w.heap.size w w' := by
  have b1 := below_al (below_self w) (.cells #[.map (some a), .map (some b)] 55)
  have K := look_n (h.step b1) hn
  unfold fnF
  unfold sgV
  cases hh : Bur.hasN L n with
  | true =>
    rw [hh] at K
    rw [if_pos rfl, ev_0]
    clear hh
    go_enter Tryd.func21, Tryd.ntmps21
    go_wp2
    go_ret
    exact ⟨rfl, below_al b1 _⟩
  | false =>
    rw [hh] at K
    rw [if_neg (by decide), ev_ne (by decide)]
    clear hh
    go_enter Tryd.func21, Tryd.ntmps21
    go_wp2
    go_ret
    exact ⟨rfl, below_al b1 _⟩
theorem auHas {w : World} {a b : Nat} {L : List Vs.Pr} (h : Sg w a b L) {n : List UInt8} {x l : Int} (hn : OkK (n, (x, l))) : Calls Tryd.prog 25 #[sgV a b, .agg #[.string ⟨n.toArray⟩, .int .i64 x, .int .i64 l]] w fun e w' => e = .returned (.bool (Bur.hasQ L n (x, l))) ∧ Below w.heap.size w w' := by
  have b1 := below_al (below_self w) (.cells #[.map (some a), .map (some b)] 55)
  have b2 := below_al b1 (.cells #[.string ⟨n.toArray⟩, .int .i64 x, .int .i64 l] 69)
  have K := look_l (h.step b2) hn
  unfold sgV
  generalize Bur.hasQ L n (x, l) = R at K ⊢
  go_enter Tryd.func25, Tryd.ntmps25
  go_wp2
  go_ret
  exact ⟨rfl, below_al b2 _⟩
end Go.Proofs.YtdjiodikefoliaaDoor.Au
