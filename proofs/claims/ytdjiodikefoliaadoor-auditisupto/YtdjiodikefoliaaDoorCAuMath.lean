/- Keys of all kinds, read; which pair is wrong first. No program stands here. -/
import Derived.Test.YtdjiodikefoliaaDoorCQA
import Derived.Test.YtdjiodikefoliaaDoorCMM
import Derived.Test.YtdjiodikefoliaaDoorCQD
import Derived.Test.YtdjiodikefoliaaDoorCHsMath
namespace Bur
open Go

/-- A net's key. -/
def nkB (l : List UInt8) : Bool := decide (l.take 2 = [110, 47]) && isN (l.drop 2)
/-- What a key says: its kind (1 a net, 2 a prefix, 3 an address), the net, the prefix (of an address the one of itself alone). -/
abbrev En := Int × List UInt8 × Sp
def enK (l : List UInt8) : Option En := if nkB l = true then some (1, l.drop 2, (0, 0)) else match pkR l with
  | some p => some (2, pkN l, p)
  | none => match raK l with
    | some a => some (3, pkN l, (a, 32))
    | none => none
def kdE : Option En → Int × List UInt8 × Sp × Int
  | none => kd0
  | some e => if e.1 = 3 then (3, e.2.1, (0, 0), e.2.2.1) else (e.1, e.2.1, e.2.2, 0)
theorem kcB_no {l : List UInt8} (h : ∀ c, c ≠ 47 → l.take 2 ≠ [c, 47]) (c : UInt8) (hc : c ≠ 47) : kcB c l = false := by unfold kcB; rw [decide_eq_false (h c hc)]; rfl
theorem raK_no {l : List UInt8} (h : kcB 97 l = false) : raK l = none := by
  unfold raK
  rw [if_neg (fun q => by rw [h] at q; exact absurd q.1 (by decide))]
theorem pkR_no' {l : List UInt8} (h : kcB 112 l = false) : pkR l = none := by
  unfold pkR
  rw [if_neg (fun q => by rw [h] at q; exact absurd q.1 (by decide))]
theorem en_no {l : List UInt8} (h : ∀ c, c ≠ 47 → l.take 2 ≠ [c, 47]) : enK l = none := by
  unfold enK
  rw [if_neg (by unfold nkB; rw [decide_eq_false (h 110 (by decide))]; simp), pkR_no' (kcB_no h 112 (by decide)), raK_no (kcB_no h 97 (by decide))]
theorem kd_short {x : List UInt8} (h : x.length ≠ 1) (ws : List (List UInt8)) : kd (x :: ws) = kd0 := by
  have hx : ∀ c : UInt8, x ≠ [c] := fun c e => h (by rw [e]; rfl)
  unfold kd
  split
  · rename_i a n e
    obtain ⟨rfl, _⟩ := List.cons.inj e
    rw [if_neg (fun q => hx _ q.2)]
  · rename_i a n d e
    obtain ⟨rfl, _⟩ := List.cons.inj e
    by_cases g : isN n = true
    · rw [if_pos g, if_neg (hx _), if_neg (fun q => hx _ q.1)]
    · rw [if_neg g]
  · rfl
theorem kd_two (c : UInt8) (r : List UInt8) : kd [[c], r] = if (decide (c = 110) && isN r) = true then (1, r, (0, 0), 0) else kd0 := by
  unfold kd
  simp only [Bool.and_eq_true, decide_eq_true_eq, List.cons.injEq, and_true]
  by_cases h1 : c = 110 <;> by_cases h2 : isN r = true <;> simp [h1, h2]
theorem cutc_fst (c : UInt8) : ∀ l : List UInt8, c ∉ (cutc c l).1
  | [] => by simp [cutc]
  | b :: l => by
    unfold cutc
    split
    · simp
    · rename_i e
      simp only [List.mem_cons, not_or]
      exact ⟨fun g => e g.symm, cutc_fst c l⟩
theorem kd_en (l : List UInt8) : kd (spc 47 [] l) = kdE (enK l) := by
  cases hc : (cutc 47 l).2.2 with
  | false =>
    have hno := cutc_none 47 l hc
    rw [spc_no hc, en_no (fun c _ h => hno (by
      have : (47 : UInt8) ∈ l.take 2 := by rw [h]; simp
      exact List.mem_of_mem_take this))]
    rfl
  | true =>
    have hb := cutc_back 47 l hc
    rw [spc_yes hc]
    by_cases h1 : (cutc 47 l).1.length = 1
    · obtain ⟨c, hc1⟩ := List.length_eq_one_iff.1 h1
      rw [hc1] at hb ⊢
      generalize (cutc 47 l).2.1 = r at hb ⊢
      clear hc hc1 h1
      have hb : l = c :: 47 :: r := hb
      subst hb
      have eN : pkN (c :: 47 :: r) = (cutc 47 r).1 := rfl
      have eD : pkD (c :: 47 :: r) = (cutc 47 r).2.1 := rfl
      have eB : ∀ d, kcB d (c :: 47 :: r) = (decide (c = d) && ((cutc 47 r).2.2 && isN (cutc 47 r).1)) := fun d => by
        unfold kcB
        rw [eN]
        congr 1
        exact decide_eq_decide.2 ⟨fun h => by simpa using h, fun h => by rw [h]; rfl⟩
      have eM : nkB (c :: 47 :: r) = (decide (c = 110) && isN r) := by
        unfold nkB
        congr 1
        exact decide_eq_decide.2 ⟨fun h => by simpa using h, fun h => by rw [h]; rfl⟩
      have eE : enK (c :: 47 :: r) = if (decide (c = 110) && isN r) = true then (some (1, r, (0, 0)) : Option En) else match pkR (c :: 47 :: r) with
          | some p => some (2, (cutc 47 r).1, p)
          | none => match raK (c :: 47 :: r) with
            | some a => some (3, (cutc 47 r).1, (a, 32))
            | none => none := by
        unfold enK
        rw [eM, eN]; rfl
      rw [eE]
      cases h2 : (cutc 47 r).2.2 with
      | false =>
        rw [spc_no h2, kd_two, pkR_no' (by rw [eB, h2]; simp), raK_no (by rw [eB, h2]; simp)]
        have ed : (cutc 47 r).1 = r := by rw [cutc_miss _ (cutc_none 47 _ h2)]
        rw [ed]
        by_cases h3 : (decide (c = 110) && isN r) = true
        · rw [if_pos h3, if_pos h3]; rfl
        · rw [if_neg h3, if_neg h3]; rfl
      | true =>
        have hm : (47 : UInt8) ∈ r := by rw [cutc_back 47 r h2]; simp
        have hr : isN r = false := by
          cases e : isN r with
          | false => rfl
          | true => exact absurd hm (isN_no e)
        rw [spc_yes h2, hr, if_neg (by simp)]
        generalize hn : (cutc 47 r).1 = n
        generalize hd : (cutc 47 r).2.1 = d
        have eR : pkR (c :: 47 :: r) = if (c = 112 ∧ isN n = true) ∧ d.length = 10 then pxD d else none := by
          unfold pkR
          rw [eB, eD, h2, hn, hd]
          simp only [Bool.true_and, Bool.and_eq_true, decide_eq_true_eq]
        have eA : raK (c :: 47 :: r) = if (c = 97 ∧ isN n = true) ∧ d.length = 8 then rx hxv 16 0 d else none := by
          unfold raK
          rw [eB, eD, h2, hn, hd]
          simp only [Bool.true_and, Bool.and_eq_true, decide_eq_true_eq]
        rw [eR, eA]
        cases h3 : (cutc 47 d).2.2 with
        | true =>
          have hd' : (47 : UInt8) ∈ d := by rw [cutc_back 47 d h3]; simp
          rw [spc_yes h3, pxD_bad hd', rx_bad (show hxv 47 = none from by decide) _ _ hd']
          have := spc_pos 47 (cutc 47 d).2.1
          cases hs : spc 47 [] (cutc 47 d).2.1 with
          | nil => rw [hs] at this; simp at this
          | cons x y => simp only [ite_self]; rfl
        | false =>
          rw [spc_no h3]
          have ed : (cutc 47 d).1 = d := by rw [cutc_miss _ (cutc_none 47 _ h3)]
          rw [ed]
          unfold kd
          simp only [List.cons.injEq, and_true]
          by_cases g1 : isN n = true
          · by_cases g2 : c = 97
            · subst g2
              rw [if_neg (show ¬ (((97 : UInt8) = 112 ∧ isN n = true) ∧ d.length = 10) from fun q => absurd q.1.1 (by decide)), if_pos g1, if_pos rfl]
              by_cases g3 : d.length = 8
              · rw [if_pos g3, if_pos ⟨⟨rfl, g1⟩, g3⟩]
                cases rx hxv 16 0 d <;> rfl
              · rw [if_neg g3, if_neg (fun q => g3 q.2)]; rfl
            · rw [if_pos g1, if_neg g2, if_neg (show ¬ ((c = 97 ∧ isN n = true) ∧ d.length = 8) from fun q => g2 q.1.1)]
              by_cases g3 : c = 112 ∧ d.length = 10
              · rw [if_pos g3, if_pos ⟨⟨g3.1, g1⟩, g3.2⟩]
                cases pxD d <;> rfl
              · rw [if_neg g3, if_neg (fun q => g3 ⟨q.1.1, q.2⟩)]; rfl
          · rw [if_neg g1, if_neg (fun q => g1 q.1.2), if_neg (fun q => g1 q.1.2)]; rfl
    · rw [kd_short h1, en_no (fun c hc47 h => ?_)]
      · rfl
      · apply h1
        have hno : (47 : UInt8) ∉ (cutc 47 l).1 := cutc_fst 47 l
        generalize (cutc 47 l).1 = x at hb hno
        rw [hb] at h
        match x, hno, h with
        | [], _, h =>
          exfalso
          simp at h
          exact hc47 h.1.symm
        | [a], _, _ => rfl
        | a :: b :: x, hno, h =>
          exfalso
          simp at h
          exact hno (by rw [h.2]; simp)
/-- The prefixes that have an address. -/
def upP (a k : Int) : Sp := (a - a % sz k, k)
theorem upP_32 (a : Int) : upP a 32 = (a, 32) := by
  unfold upP
  rw [sz_32, Int.emod_one, Int.sub_zero]
theorem upP_mod (a k : Int) : (a - a % sz k) % sz k = 0 := by
  have := Int.emod_add_mul_ediv a (sz k)
  rw [show a - a % sz k = sz k * (a / sz k) from by omega]
  exact Int.mul_emod_right _ _
theorem upP_ok {a k : Int} (ha : isA a = true) (h0 : 0 ≤ k) (h1 : k ≤ 32) : fault (upP a k).1 (upP a k).2 = 0 := by
  have hp := sz_pos k
  obtain ⟨a0, a1⟩ := isA_true ha
  have hm := Int.emod_nonneg a (Int.ne_of_gt hp)
  have hq := Int.emod_add_mul_ediv a (sz k)
  have hd : 0 ≤ sz k * (a / sz k) := Int.mul_nonneg (by omega) (Int.ediv_nonneg a0 (by omega))
  exact fault_mk h0 h1 (isA_mk (by show 0 ≤ a - a % sz k; omega) (by show a - a % sz k ≤ _; omega)) (upP_mod a k)
theorem upP_up {a k : Int} (ha : isA a = true) (h0 : 0 < k) (h1 : k ≤ 32) : upF (upP a k).1 (upP a k).2 = 0 ∧ (upA (upP a k).1 (upP a k).2, upL (upP a k).1 (upP a k).2) = upP a (k - 1) := by
  have hf := upP_ok ha (by omega) h1
  have hF : upF (upP a k).1 (upP a k).2 = 0 := by
    unfold upF
    rw [if_neg (fun q => by have : k = 0 := q.2; omega)]
    exact hf
  refine ⟨hF, ?_⟩
  unfold upA upL
  rw [if_pos hF, if_pos hF]
  show ((a - a % sz k) - (a - a % sz k) % sz (k - 1), k - 1) = (a - a % sz (k - 1), k - 1)
  congr 1
  have h2 := sz_half (k - 1) (by omega)
  rw [show k - 1 + 1 = k from by omega] at h2
  have hp := sz_pos k
  have e1 := Int.emod_add_mul_ediv a (sz (k - 1))
  have e2 := Int.emod_add_mul_ediv (a - a % sz k) (sz (k - 1))
  have e3 := Int.emod_add_mul_ediv a (sz k)
  have e4 : a / sz (k - 1) = (a - a % sz k) / sz (k - 1) := by
    rw [show a - a % sz k = sz k * (a / sz k) from by omega, h2, Int.mul_comm 2 (sz k), Int.mul_ediv_mul_of_pos _ _ hp, ← Int.ediv_ediv_of_nonneg (Int.le_of_lt hp)]
  rw [e4] at e1
  omega
theorem upP_zero (a : Int) : upF (upP a 0).1 (upP a 0).2 ≠ 0 := by
  unfold upF
  by_cases h : fault (upP a 0).1 (upP a 0).2 = 0
  · rw [if_pos ⟨h, rfl⟩]; decide
  · rw [if_neg (fun q => h q.1)]; exact h
theorem upP_has {a : Int} {q : Sp} (hq : fault q.1 q.2 = 0) : hs q a = true ↔ q = upP a q.2 := by
  obtain ⟨l0, l1, a0, a1, hz⟩ := fault_ok hq
  have hp := sz_pos q.2
  rw [hs_iff]
  have e1 := Int.emod_add_mul_ediv a (sz q.2)
  have b1 := Int.emod_lt_of_pos a hp
  have b0 := Int.emod_nonneg a (Int.ne_of_gt hp)
  constructor
  · rintro ⟨h1, h2⟩
    have hd : (a - q.1) % sz q.2 = a % sz q.2 := by rw [Int.sub_emod, hz, Int.sub_zero, Int.emod_emod]
    rw [Int.emod_eq_of_lt (by omega) (by omega)] at hd
    exact Prod.ext (by show q.1 = a - a % sz q.2; omega) rfl
  · intro h
    have := congrArg Prod.fst h
    have : q.1 = a - a % sz q.2 := this
    omega
/-- What a pair's key says. -/
def ek (p : Vs.Pr) : Option En := enK p.1.data.toList
def isE (k : Int) (n : List UInt8) (f : Sp → Bool) : Option En → Bool
  | none => false
  | some e => decide (e.1 = k) && (decide (e.2.1 = n) && f e.2.2)
def hasN (L : List Vs.Pr) (n : List UInt8) : Bool := L.any fun p => isE 1 n (fun _ => true) (ek p)
def hasQ (L : List Vs.Pr) (n : List UInt8) (q : Sp) : Bool := L.any fun p => isE 2 n (fun x => decide (x = q)) (ek p)
def hasA (L : List Vs.Pr) (n : List UInt8) (a : Int) : Bool := L.any fun p => isE 2 n (fun x => hs x a) (ek p)
theorem isE_iff {k : Int} {n : List UInt8} {f : Sp → Bool} {o : Option En} : isE k n f o = true ↔ ∃ q, o = some (k, n, q) ∧ f q = true := by
  cases o with
  | none => simp [isE]
  | some e =>
    obtain ⟨a, b, c⟩ := e
    simp only [isE, Bool.and_eq_true, decide_eq_true_eq, Option.some.injEq, Prod.mk.injEq]
    constructor
    · rintro ⟨rfl, rfl, h⟩; exact ⟨c, ⟨rfl, rfl, rfl⟩, h⟩
    · rintro ⟨q, ⟨rfl, rfl, rfl⟩, h⟩; exact ⟨rfl, rfl, h⟩
/-- Of what is read. -/
theorem en_two {l n : List UInt8} {q : Sp} (h : enK l = some (2, n, q)) : pkR l = some q ∧ pkN l = n := by
  unfold enK at h
  split at h
  · simp at h
  · split at h
    · rename_i p hp
      simp at h
      rw [hp, h.1, h.2]; exact ⟨rfl, rfl⟩
    · split at h <;> simp at h
theorem en_three {l n : List UInt8} {q : Sp} (h : enK l = some (3, n, q)) : ∃ a, raK l = some a ∧ pkN l = n ∧ q = (a, 32) := by
  unfold enK at h
  split at h
  · simp at h
  · split at h
    · simp at h
    · split at h
      · rename_i a ha
        simp at h
        exact ⟨a, ha, h.1, h.2.symm⟩
      · simp at h
theorem en_kind {l : List UInt8} {e : En} (h : enK l = some e) : e.1 = 1 ∨ e.1 = 2 ∨ e.1 = 3 := by
  unfold enK at h
  split at h
  · cases h; exact .inl rfl
  · split at h
    · cases h; exact .inr (.inl rfl)
    · split at h
      · cases h; exact .inr (.inr rfl)
      · cases h
theorem pkR_fault {l : List UInt8} {q : Sp} (h : pkR l = some q) : fault q.1 q.2 = 0 := by
  unfold pkR at h
  split at h
  · unfold pxD at h
    split at h
    · split at h
      · rename_i g; cases h; exact g
      · cases h
    · cases h
  · cases h
theorem raK_isA {l : List UInt8} {a : Int} (h : raK l = some a) : isA a = true := by
  unfold raK at h
  split at h
  · rename_i g
    obtain ⟨h0, h1⟩ := rx_bd (by decide) (fun b d hd => by have := hxv_bd hd; omega) _ _ _ (Int.le_refl 0) h
    rw [g.2] at h1
    exact isA_mk h0 (by have : ((0 : Int) + 1) * 16 ^ 8 = 4294967296 := by decide
                        omega)
  · cases h
theorem hasA_up (L : List Vs.Pr) (n : List UInt8) {a : Int} : hasA L n a = true ↔ ∃ k : Int, 0 ≤ k ∧ k ≤ 32 ∧ hasQ L n (upP a k) = true := by
  unfold hasA hasQ
  simp only [List.any_eq_true, isE_iff, decide_eq_true_eq]
  constructor
  · rintro ⟨p, hp, q, hq, hh⟩
    have hf := pkR_fault (en_two hq).1
    obtain ⟨l0, l1, _⟩ := fault_ok hf
    exact ⟨q.2, l0, l1, p, hp, q, hq, (upP_has hf).1 hh⟩
  · rintro ⟨k, h0, h1, p, hp, q, hq, rfl⟩
    have hf := pkR_fault (en_two hq).1
    exact ⟨p, hp, _, hq, (upP_has hf).2 rfl⟩
/-- What is wrong with a pair, the key ahead of it being c. -/
def plE (c : Option ByteArray) (k : ByteArray) : Int := match c with
  | none => 0
  | some x => if Vs.bl x k = true then 0 else 2
def auE (L : List Vs.Pr) (c : Option ByteArray) (p : Vs.Pr) : Int :=
  if plE c p.1 = 0 then (match ek p with
    | none => 5
    | some e => if isN p.2.data.toList = true then (if e.1 = 1 then 0 else if hasN L e.2.1 = true then (if e.1 = 3 ∧ hasA L e.2.1 e.2.2.1 = false then 7 else 0) else 4) else 5) else plE c p.1
def prv (L : List Vs.Pr) (i : Nat) : Option ByteArray := if i = 0 then none else (L[i - 1]?).map Prod.fst
def auAt (L : List Vs.Pr) (i : Nat) : Int := match L[i]? with
  | none => 0
  | some p => auE L (prv L i) p
def auG (L : List Vs.Pr) : Nat → Nat → Int × Int
  | 0, _ => (0, 0)
  | n + 1, i => if auAt L i = 0 then auG L n (i + 1) else ((i : Int), auAt L i)
def auP (L : List Vs.Pr) : Int × Int := auG L L.length 0
theorem auG_go {L : List Vs.Pr} {i : Nat} (h : i < L.length) (h0 : auAt L i = 0) : auG L (L.length - i) i = auG L (L.length - (i + 1)) (i + 1) := by
  rw [show L.length - i = L.length - (i + 1) + 1 from by omega, auG, if_pos h0]
theorem auG_no {L : List Vs.Pr} {i : Nat} (h : i < L.length) (h0 : auAt L i ≠ 0) : auG L (L.length - i) i = ((i : Int), auAt L i) := by
  rw [show L.length - i = L.length - (i + 1) + 1 from by omega, auG, if_neg h0]
theorem auG_all {L : List Vs.Pr} : ∀ (n i : Nat), (auG L n i).2 = 0 → ∀ j, i ≤ j → j < i + n → auAt L j = 0
  | 0, _, _, j, h1, h2 => by omega
  | n + 1, i, h, j, h1, h2 => by
    unfold auG at h
    split at h
    · rename_i g
      by_cases e : j = i
      · rw [e]; exact g
      · exact auG_all n (i + 1) h j (by omega) (by omega)
    · rename_i g; exact absurd h g
theorem auG_fst {L : List Vs.Pr} : ∀ (n i : Nat), (auG L n i).2 = 0 → (auG L n i).1 = 0
  | 0, _, _ => rfl
  | n + 1, i, h => by
    unfold auG at h ⊢
    split
    · rename_i g
      rw [if_pos g] at h
      exact auG_fst n (i + 1) h
    · rename_i g
      rw [if_neg g] at h
      exact absurd h g
theorem auP_rise {L : List Vs.Pr} (h : (auP L).2 = 0) : L.Pairwise fun x y => Vs.bl x.1 y.1 = true := by
  have hz := auG_all L.length 0 h
  have step : ∀ i, i + 1 < L.length → Vs.bl (L.getD i default).1 (L.getD (i + 1) default).1 = true := fun i hi => by
    have h1 := hz (i + 1) (by omega) (by omega)
    unfold auAt at h1
    have e1 : L[i]? = some L[i] := List.getElem?_eq_getElem (by omega)
    have e2 : L[i + 1]? = some L[i + 1] := List.getElem?_eq_getElem hi
    rw [e2] at h1
    simp only at h1
    have hpr : prv L (i + 1) = some L[i].1 := by
      unfold prv
      rw [if_neg (by omega), show i + 1 - 1 = i from by omega, e1]; rfl
    rw [hpr] at h1
    unfold auE plE at h1
    simp only at h1
    rw [List.getD_eq_getElem?_getD, List.getD_eq_getElem?_getD, e1, e2]
    cases hb : Vs.bl L[i].1 L[i + 1].1 with
    | true => exact hb
    | false => simp [hb] at h1
  rw [List.pairwise_iff_getElem]
  intro i j hi hj hij
  have key : ∀ d, i + 1 + d < L.length → Vs.bl (L.getD i default).1 (L.getD (i + 1 + d) default).1 = true := fun d => by
    induction d with
    | zero => exact fun h => step i h
    | succ d ih => exact fun h => Vs.bl_trans (ih (by omega)) (step (i + 1 + d) h)
  have := key (j - i - 1) (by omega)
  rw [show i + 1 + (j - i - 1) = j from by omega] at this
  simpa [List.getD_eq_getElem?_getD, hi, hj] using this
/-- Digits that are greater by bytes are a greater number. -/
theorem rx_mono {f : UInt8 → Option Int} {base : Int} (hb : 0 < base) (hf : ∀ b d, f b = some d → 0 ≤ d ∧ d < base) (hlt : ∀ x y dx dy, f x = some dx → f y = some dy → x < y → dx < dy) :
    ∀ (x y : List UInt8) (n m u v : Int), x.length = y.length → 0 ≤ n → rx f base n x = some u → rx f base m y = some v → (n < m → u < v) ∧ (n = m → Op.bytesLess x y = true → u < v)
  | [], [], n, m, u, v, _, _, h1, h2 => by
    cases h1; cases h2
    exact ⟨id, fun _ h => by simp [Op.bytesLess] at h⟩
  | [], _ :: _, _, _, _, _, h, _, _, _ => by simp at h
  | _ :: _, [], _, _, _, _, h, _, _, _ => by simp at h
  | a :: x, b :: y, n, m, u, v, hl, hn, h1, h2 => by
    cases ea : f a with
    | none => rw [rx_no ea] at h1; cases h1
    | some da =>
      cases eb : f b with
      | none => rw [rx_no eb] at h2; cases h2
      | some db =>
        rw [rx_on ea] at h1
        rw [rx_on eb] at h2
        obtain ⟨a0, a1⟩ := hf a da ea
        obtain ⟨b0, b1⟩ := hf b db eb
        have hnb : 0 ≤ n * base := Int.mul_nonneg hn (by omega)
        have ih := rx_mono hb hf hlt x y (n * base + da) (m * base + db) u v (by simpa using hl) (by omega) h1 h2
        constructor
        · intro hnm
          refine ih.1 ?_
          have : (n + 1) * base ≤ m * base := Int.mul_le_mul_of_nonneg_right (by omega) (by omega)
          rw [Int.add_mul] at this
          omega
        · rintro rfl hlt'
          simp only [Op.bytesLess, Bool.or_eq_true, Bool.and_eq_true, decide_eq_true_eq, beq_iff_eq] at hlt'
          rcases hlt' with h | ⟨rfl, h⟩
          · exact ih.1 (by have := hlt a b da db ea eb h; omega)
          · have : da = db := by rw [ea] at eb; exact Option.some.inj eb
            exact ih.2 (by rw [this]) h
theorem hxv_lt (x y : UInt8) (dx dy : Int) (h1 : hxv x = some dx) (h2 : hxv y = some dy) (h : x < y) : dx < dy := by
  have h : x.toNat < y.toNat := h
  unfold hxv at h1 h2
  split at h1
  · split at h2
    · cases h1; cases h2; omega
    · split at h2
      · cases h1; cases h2; omega
      · cases h2
  · split at h1
    · split at h2
      · omega
      · split at h2
        · cases h1; cases h2; omega
        · cases h2
    · cases h1
theorem dv_lt (x y : UInt8) (dx dy : Int) (h1 : dv x = some dx) (h2 : dv y = some dy) (h : x < y) : dx < dy := by
  have h : x.toNat < y.toNat := h
  unfold dv at h1 h2
  split at h1
  · split at h2
    · cases h1; cases h2; omega
    · cases h2
  · cases h1
theorem bls_app (x y z : List UInt8) : Op.bytesLess (x ++ y) (x ++ z) = Op.bytesLess y z := by
  induction x with
  | nil => rfl
  | cons a x ih => simp [Op.bytesLess, ih, UInt8.lt_irrefl]
theorem bls_split : ∀ (x x' y y' : List UInt8), x.length = x'.length → Op.bytesLess (x ++ y) (x' ++ y') = true → Op.bytesLess x x' = true ∨ (x = x' ∧ Op.bytesLess y y' = true)
  | [], [], _, _, _, h => .inr ⟨rfl, h⟩
  | [], _ :: _, _, _, h, _ => by simp at h
  | _ :: _, [], _, _, h, _ => by simp at h
  | a :: x, b :: x', y, y', hl, h => by
    simp only [List.cons_append, Op.bytesLess, Bool.or_eq_true, Bool.and_eq_true, decide_eq_true_eq, beq_iff_eq] at h ⊢
    rcases h with h | ⟨rfl, h⟩
    · exact .inl (.inl h)
    · rcases bls_split x x' y y' (by simpa using hl) h with g | ⟨rfl, g⟩
      · exact .inl (.inr ⟨rfl, g⟩)
      · exact .inr ⟨rfl, g⟩
/-- A prefix' key, whole. -/
theorem pk_key {l : List UInt8} {q : Sp} (h : pkR l = some q) : l = [112, 47] ++ pkN l ++ [47] ++ pkD l ∧ (pkD l).length = 10 ∧ rx hxv 16 0 ((pkD l).take 8) = some q.1 ∧ rx dv 10 0 ((pkD l).drop 8) = some q.2 := by
  unfold pkR at h
  split at h
  · rename_i g
    obtain ⟨gk, g10⟩ := g
    unfold kcB at gk
    simp only [Bool.and_eq_true, decide_eq_true_eq] at gk
    have hc := cutc_back 47 _ gk.2.1
    refine ⟨?_, g10, ?_⟩
    · have e := List.take_append_drop 2 l
      rw [gk.1] at e
      rw [hc] at e
      rw [← e]
      show _ = [112, 47] ++ pkN ([112, 47] ++ (_ ++ 47 :: _)) ++ [47] ++ pkD ([112, 47] ++ (_ ++ 47 :: _))
      have e2 : ∀ z : List UInt8, pkN ([112, 47] ++ z) = (cutc 47 z).1 := fun _ => rfl
      have e3 : ∀ z : List UInt8, pkD ([112, 47] ++ z) = (cutc 47 z).2.1 := fun _ => rfl
      rw [e2, e3, ← hc]
      rw [List.append_assoc, List.append_assoc]
      show [112, 47] ++ List.drop 2 l = [112, 47] ++ ((cutc 47 (List.drop 2 l)).1 ++ ([47] ++ (cutc 47 (List.drop 2 l)).2.1))
      congr 1
    · unfold pxD at h
      split at h
      · rename_i a n ea en
        split at h
        · cases h; exact ⟨ea, en⟩
        · cases h
      · cases h
  · cases h
theorem key_rise {k k' n : List UInt8} {q q' : Sp} (h : enK k = some (2, n, q)) (h' : enK k' = some (2, n, q')) (hlt : Op.bytesLess k k' = true) : ahd q q' = true := by
  obtain ⟨hp, hn⟩ := en_two h
  obtain ⟨hp', hn'⟩ := en_two h'
  obtain ⟨e1, l1, a1, b1⟩ := pk_key hp
  obtain ⟨e2, l2, a2, b2⟩ := pk_key hp'
  rw [e1, e2, hn, hn', bls_app, ← List.take_append_drop 8 (pkD k), ← List.take_append_drop 8 (pkD k')] at hlt
  rw [ahd_iff]
  rcases bls_split _ _ _ _ (by simp [l1, l2]) hlt with g | ⟨ge, g⟩
  · exact .inl ((rx_mono (by decide) (fun b d hd => by have := hxv_bd hd; omega) hxv_lt _ _ 0 0 _ _ (by simp [l1, l2]) (Int.le_refl 0) a1 a2).2 rfl g)
  · rw [ge] at a1
    rw [a1] at a2
    exact .inr ⟨Option.some.inj a2, (rx_mono (by decide) (fun b d hd => by have := dv_bd hd; omega) dv_lt _ _ 0 0 _ _ (by simp [l1, l2]) (Int.le_refl 0) b1 b2).2 rfl g⟩
/-- The prefixes of all keys of one kind and net. -/
def pk1 (k : Int) (n : List UInt8) (p : Vs.Pr) : Option Sp := match ek p with
  | none => none
  | some e => if e.1 = k ∧ e.2.1 = n then some e.2.2 else none
def pck (L : List Vs.Pr) (k : Int) (n : List UInt8) : List Sp := L.filterMap (pk1 k n)
theorem pk1_iff {k : Int} {n : List UInt8} {p : Vs.Pr} {q : Sp} : pk1 k n p = some q ↔ ek p = some (k, n, q) := by
  unfold pk1
  cases ek p with
  | none => simp
  | some e =>
    obtain ⟨a, b, c⟩ := e
    simp only [Option.some.injEq, Prod.mk.injEq]
    constructor
    · intro h
      split at h
      · rename_i g; cases h; exact ⟨g.1, g.2, rfl⟩
      · cases h
    · rintro ⟨rfl, rfl, rfl⟩
      rw [if_pos ⟨rfl, rfl⟩]
theorem pck_isT {L : List Vs.Pr} (h : (auP L).2 = 0) (n : List UInt8) : IsT (pck L 2 n) := by
  have hr := auP_rise h
  refine ⟨?_, fun p hp => ?_⟩
  · unfold pck
    rw [List.pairwise_filterMap]
    refine hr.imp fun {x y} hb a ha b hb' => ?_
    rw [pk1_iff] at ha hb'
    have hb : Op.bytesLess x.1.toList y.1.toList = true := hb
    rw [Lib.toList_data, Lib.toList_data] at hb
    exact key_rise ha hb' hb
  · obtain ⟨x, hx, hq⟩ := List.mem_filterMap.1 hp
    rw [pk1_iff] at hq
    exact pkR_fault (en_two hq).1
theorem hasQ_mem (L : List Vs.Pr) (n : List UInt8) (q : Sp) : hasQ L n q = true ↔ q ∈ pck L 2 n := by
  unfold hasQ pck
  simp only [List.any_eq_true, isE_iff, decide_eq_true_eq, List.mem_filterMap, pk1_iff]
  constructor
  · rintro ⟨p, hp, q', hq, rfl⟩; exact ⟨p, hp, hq⟩
  · rintro ⟨p, hp, hq⟩; exact ⟨p, hp, q, hq, rfl⟩
/-- What is told of the prefixes of a net. -/
def pfF (L : List Vs.Pr) (n : List UInt8) : Int := if (auP L).2 = 0 then (if hasN L n = true then (if 60 < (pck L 2 n).length then 3 else 0) else 4) else (auP L).2
def pfT (L : List Vs.Pr) (n : List UInt8) : List Sp := if pfF L n = 0 then pck L 2 n else []
theorem pfF_tree {L : List Vs.Pr} (h : (auP L).2 = 0) (n : List UInt8) : treF (pck L 2 n) = if 60 < (pck L 2 n).length then 3 else 0 := by
  by_cases g : 60 < (pck L 2 n).length
  · unfold treF
    rw [if_pos g, if_pos g]
  · rw [if_neg g]
    exact treF_mk (by omega) (pck_isT h n)
/-- The addresses that are placed in a prefix. -/
def usd (L : List Vs.Pr) (n : List UInt8) (p : Sp) : List Int := ((pck L 3 n).filter fun q => witB q.1 q.2 p.1 p.2).map Prod.fst
def usB (L : List Vs.Pr) (n : List UInt8) (p : Sp) : List Int := L.filterMap fun x => if isE 3 n (fun q => hs p q.1) (ek x) = true then (ek x).map (fun e => e.2.2.1) else none
theorem wit_hs {a : Int} {p : Sp} (ha : isA a = true) (hp : fault p.1 p.2 = 0) : witB a 32 p.1 p.2 = hs p a := by
  unfold witB
  have h0 : fault a 32 = 0 := by have := upP_ok ha (k := 32) (by decide) (by decide); rwa [upP_32] at this
  have hw : witF a 32 p.1 p.2 = 0 := by unfold witF; rw [if_pos h0]; exact hp
  rw [decide_eq_true hw, Bool.true_and, hs_in]; rfl
theorem usd_eq (L : List Vs.Pr) (n : List UInt8) {p : Sp} (hp : fault p.1 p.2 = 0) : usd L n p = usB L n p := by
  unfold usd usB pck
  induction L with
  | nil => rfl
  | cons x L ih =>
    rw [List.filterMap_cons, List.filterMap_cons]
    cases e : pk1 3 n x with
    | none =>
      have : isE 3 n (fun q => hs p q.1) (ek x) = false := by
        cases g : isE 3 n (fun q => hs p q.1) (ek x) with
        | false => rfl
        | true =>
          obtain ⟨q, hq, _⟩ := isE_iff.1 g
          rw [pk1_iff.2 hq] at e; cases e
      rw [this]
      simpa using ih
    | some q =>
      have hq := pk1_iff.1 e
      obtain ⟨a, ha, _, rfl⟩ := en_three hq
      have hA := raK_isA ha
      simp only [List.filter_cons]
      have hw := wit_hs hA hp
      have hE : isE 3 n (fun q => hs p q.1) (ek x) = hs p a := by rw [hq]; simp [isE]
      rw [hE, hw]
      cases hs p a with
      | true => simp [hq, ih]
      | false => simp [ih]
theorem usd_isA (L : List Vs.Pr) (n : List UInt8) (p : Sp) : ∀ a ∈ usd L n p, isA a = true := fun a ha => by
  unfold usd at ha
  obtain ⟨q, hq, rfl⟩ := List.mem_map.1 ha
  obtain ⟨x, _, hx⟩ := List.mem_filterMap.1 (List.mem_filter.1 hq).1
  obtain ⟨b, hb, _, rfl⟩ := en_three (pk1_iff.1 hx)
  exact raK_isA hb
/-- How a prefix of a net is used. -/
def ueF (L : List Vs.Pr) (n : List UInt8) (p : Sp) : Int := if (auP L).2 = 0 then (if hasQ L n p = true then (if 200 < (usd L n p).length then 3 else 0) else 4) else (auP L).2
theorem ueF_us {L : List Vs.Pr} {n : List UInt8} {p : Sp} (h : (auP L).2 = 0) (hq : hasQ L n p = true) : fault p.1 p.2 = 0 ∧ usF p (usd L n p) = ueF L n p := by
  have hp : fault p.1 p.2 = 0 := (pck_isT h n).2 p ((hasQ_mem L n p).1 hq)
  refine ⟨hp, ?_⟩
  unfold usF ueF
  rw [if_pos hp, if_pos h, if_pos hq]
  by_cases g : 200 < (usd L n p).length
  · rw [if_pos g, if_pos g]
  · rw [if_neg g, if_neg g]
    exact adF_mk (usd_isA L n p)
end Bur
