/- A desk: what a transaction is told, step by step, and alone. -/
import Derived.Test.YtfnkaehpidaanaaGreatDoorCMM
import Derived.Test.YtfnkaehpidaanaaGreatDoorCMB
namespace Go.Proofs.YtfnkaehpidaanaaGreatDoor
open Go.RowKit Vs

def errT : ByteArray := { data := #[101, 114, 114, 111, 114] }
def eqT (v : ByteArray) : ByteArray := mkB (61 :: v.data.toList)
def cOf (x : Stp) : Chg := if x.what = 3 ∨ x.what = 4 then ⟨x.key, x.val, false⟩ else ⟨x.key, ByteArray.empty, true⟩
theorem cOf_ok (x : Stp) : okc (cOf x) := by
  unfold cOf
  split
  · exact fun g => by cases g
  · exact fun _ => rfl
/-- What a transaction is behind a step, and what it is told. -/
def nextO (o : Ox) (x : Stp) : Ox :=
  if x.what = 2 then (if 100 ≤ o.asked then o else askR o x.key x.hi)
  else if x.what = 1 then (if shF x.key ByteArray.empty = 0 then (if 100 ≤ o.asked then o else askK o x.key) else o)
  else if shF (cOf x).k (cOf x).v = 0 then (if 20 < (insC o.own (cOf x)).length then o else { o with own := insC o.own (cOf x) }) else o
def tellO (vs : List Ver) (o : Ox) (x : Stp) : ByteArray × List Pr :=
  if x.what = 2 then (if 100 ≤ o.asked then (errT, []) else (ByteArray.empty, rngO vs o.sees o.own x.key x.hi))
  else if x.what = 1 then (if shF x.key ByteArray.empty = 0 then (if 100 ≤ o.asked then (errT, []) else match seeO vs o.sees o.own x.key with
    | some v => (eqT v, [])
    | none => (errT, [])) else (errT, []))
  else if shF (cOf x).k (cOf x).v = 0 then (if 20 < (insC o.own (cOf x)).length then (errT, []) else (ByteArray.empty, [])) else (errT, [])
/-- The same with another number, as it sees another table. -/
def reO (o : Ox) (i s : Int) : Ox := { o with id := i, sees := s }
theorem next_re (o : Ox) (i s : Int) (x : Stp) : nextO (reO o i s) x = reO (nextO o x) i s := by
  unfold nextO
  by_cases c2 : x.what = 2
  · rw [if_pos c2, if_pos c2]
    show (if 100 ≤ o.asked then _ else _) = reO (if 100 ≤ o.asked then _ else _) i s
    split <;> rfl
  · rw [if_neg c2, if_neg c2]
    by_cases c1 : x.what = 1
    · rw [if_pos c1, if_pos c1]
      by_cases c : shF x.key ByteArray.empty = 0
      · rw [if_pos c, if_pos c]
        show (if 100 ≤ o.asked then _ else _) = reO (if 100 ≤ o.asked then _ else _) i s
        split <;> rfl
      · rw [if_neg c, if_neg c]
    · rw [if_neg c1, if_neg c1]
      by_cases c : shF (cOf x).k (cOf x).v = 0
      · rw [if_pos c, if_pos c]
        show (if 20 < (insC o.own (cOf x)).length then _ else _) = reO (if 20 < (insC o.own (cOf x)).length then _ else _) i s
        split <;> rfl
      · rw [if_neg c, if_neg c]
/-- What stays, what grows. -/
theorem next_is (o : Ox) (x : Stp) : (nextO o x).id = o.id ∧ (nextO o x).sees = o.sees ∧ (∃ ks, (nextO o x).keys = o.keys ++ ks) ∧ (∃ ss, (nextO o x).spans = o.spans ++ ss) ∧ (o.own ≠ [] → (nextO o x).own ≠ []) := by
  have self : o.id = o.id ∧ o.sees = o.sees ∧ (∃ ks, o.keys = o.keys ++ ks) ∧ (∃ ss, o.spans = o.spans ++ ss) ∧ (o.own ≠ [] → o.own ≠ []) := ⟨rfl, rfl, ⟨[], (List.append_nil _).symm⟩, ⟨[], (List.append_nil _).symm⟩, id⟩
  unfold nextO
  by_cases c2 : x.what = 2
  · rw [if_pos c2]
    split
    · exact self
    · exact ⟨rfl, rfl, ⟨[], (List.append_nil _).symm⟩, ⟨_, rfl⟩, id⟩
  · rw [if_neg c2]
    by_cases c1 : x.what = 1
    · rw [if_pos c1]
      split
      · split
        · exact self
        · exact ⟨rfl, rfl, ⟨_, rfl⟩, ⟨[], (List.append_nil _).symm⟩, id⟩
      · exact self
    · rw [if_neg c1]
      split
      · split
        · exact self
        · refine ⟨rfl, rfl, ⟨[], (List.append_nil _).symm⟩, ⟨[], (List.append_nil _).symm⟩, fun _ e => ?_⟩
          have := insC_pos o.own (cOf x)
          have e' : insC o.own (cOf x) = [] := e
          rw [e'] at this
          simp at this
      · exact self
def runO (o : Ox) (xs : List Stp) : Ox := xs.foldl nextO o
theorem run_nil (o : Ox) : runO o [] = o := rfl
theorem run_app (o : Ox) (xs : List Stp) (x : Stp) : runO o (xs ++ [x]) = nextO (runO o xs) x := by rw [runO, List.foldl_append]; rfl
theorem run_re (o : Ox) (i s : Int) : ∀ (xs : List Stp), runO (reO o i s) xs = reO (runO o xs) i s := by
  intro xs
  induction xs generalizing o with
  | nil => rfl
  | cons x r ih => show runO (nextO (reO o i s) x) r = _; rw [next_re, ih]; rfl
theorem run_is (o : Ox) (xs : List Stp) : (runO o xs).id = o.id ∧ (runO o xs).sees = o.sees ∧ (∃ ks, (runO o xs).keys = o.keys ++ ks) ∧ (∃ ss, (runO o xs).spans = o.spans ++ ss) ∧ (o.own ≠ [] → (runO o xs).own ≠ []) := by
  induction xs generalizing o with
  | nil => exact ⟨rfl, rfl, ⟨[], (List.append_nil _).symm⟩, ⟨[], (List.append_nil _).symm⟩, id⟩
  | cons x r ih =>
    obtain ⟨h1, h2, ⟨ks, h3⟩, ⟨ss, h4⟩, h5⟩ := next_is o x
    obtain ⟨g1, g2, ⟨kt, g3⟩, ⟨st, g4⟩, g5⟩ := ih (nextO o x)
    exact ⟨g1.trans h1, g2.trans h2, ⟨ks ++ kt, by show (runO (nextO o x) r).keys = _; rw [g3, h3, List.append_assoc]⟩, ⟨ss ++ st, by show (runO (nextO o x) r).spans = _; rw [g4, h4, List.append_assoc]⟩, fun h => g5 (h5 h)⟩
/-- Two tables tell the same of what was asked. -/
def Agr (vs : List Ver) (a : Int) (ws : List Ver) (b : Int) (o : Ox) : Prop := (∀ k ∈ o.keys, vget vs k a = vget ws k b) ∧ ∀ s ∈ o.spans, ∀ k, btw s.1 s.2 k = true → vget vs k a = vget ws k b
theorem Agr.less {vs ws : List Ver} {a b : Int} {o o' : Ox} (h : Agr vs a ws b o') (hk : ∃ ks, o'.keys = o.keys ++ ks) (hs : ∃ ss, o'.spans = o.spans ++ ss) : Agr vs a ws b o := by
  obtain ⟨ks, hk⟩ := hk
  obtain ⟨ss, hs⟩ := hs
  exact ⟨fun k m => h.1 k (by rw [hk]; exact List.mem_append.2 (.inl m)), fun s m => h.2 s (by rw [hs]; exact List.mem_append.2 (.inl m))⟩
theorem tell_re {vs ws : List Ver} {s t : Int} (hv : OkT vs s) (hw : OkT ws t) {o : Ox} {x : Stp} (hr : risC o.own) (i b : Int) (ha : Agr vs o.sees ws b (nextO o x)) : tellO ws (reO o i b) x = tellO vs o x := by
  unfold tellO
  by_cases c2 : x.what = 2
  · rw [if_pos c2, if_pos c2]
    by_cases c : 100 ≤ o.asked
    · rw [if_pos (show 100 ≤ (reO o i b).asked from c), if_pos c]
    · rw [if_neg (show ¬ 100 ≤ (reO o i b).asked from c), if_neg c]
      have e : nextO o x = askR o x.key x.hi := by unfold nextO; rw [if_pos c2, if_neg c]
      rw [e] at ha
      show (ByteArray.empty, rngO ws b o.own x.key x.hi) = _
      rw [rngO_eq hw hv hr (fun k hk => (ha.2 (x.key, x.hi) (List.mem_append.2 (.inr (List.mem_singleton.2 rfl))) k hk).symm)]
  · rw [if_neg c2, if_neg c2]
    by_cases c1 : x.what = 1
    · rw [if_pos c1, if_pos c1]
      by_cases c0 : shF x.key ByteArray.empty = 0
      · rw [if_pos c0, if_pos c0]
        by_cases c : 100 ≤ o.asked
        · rw [if_pos (show 100 ≤ (reO o i b).asked from c), if_pos c]
        · rw [if_neg (show ¬ 100 ≤ (reO o i b).asked from c), if_neg c]
          have e : nextO o x = askK o x.key := by unfold nextO; rw [if_neg c2, if_pos c1, if_pos c0, if_neg c]
          rw [e] at ha
          have h1 := ha.1 x.key (List.mem_append.2 (.inr (List.mem_singleton.2 rfl)))
          have h2 : seeO ws b o.own x.key = seeO vs o.sees o.own x.key := by
            unfold seeO
            cases ownC o.own x.key with
            | none => exact h1.symm
            | some c => rfl
          show (match seeO ws b o.own x.key with | some v => (eqT v, []) | none => (errT, [])) = _
          rw [h2]
      · rw [if_neg c0, if_neg c0]
    · rw [if_neg c1, if_neg c1]; rfl
/-- Changes of its own that may be stay such. -/
theorem next_own {o : Ox} (h : risC o.own) (x : Stp) : risC (nextO o x).own := by
  unfold nextO
  split
  · split <;> exact h
  · split
    · split
      · split <;> exact h
      · exact h
    · split
      · split
        · exact h
        · exact ris_insC h
      · exact h
theorem run_own {o : Ox} (h : risC o.own) (xs : List Stp) : risC (runO o xs).own := by
  induction xs generalizing o with
  | nil => exact h
  | cons x r ih => exact ih (next_own h x)
/-- What was told, step by step. -/
structure Rec (vs : List Ver) (o : Ox) (xs : List Stp) (ts : List ByteArray) (ps : List (List Pr)) : Prop where
  lt : ts.length = xs.length
  lp : ps.length = xs.length
  all : ∀ (j : Nat) (x : Stp), xs[j]? = some x → ts[j]? = some (tellO vs (runO o (xs.take j)) x).1 ∧ ps[j]? = some (tellO vs (runO o (xs.take j)) x).2
theorem Rec.nil (vs : List Ver) (o : Ox) : Rec vs o [] [] [] := ⟨rfl, rfl, fun j x h => by simp at h⟩
theorem Rec.snoc {vs : List Ver} {o : Ox} {xs : List Stp} {ts : List ByteArray} {ps : List (List Pr)} (h : Rec vs o xs ts ps) (x : Stp) : Rec vs o (xs ++ [x]) (ts ++ [(tellO vs (runO o xs) x).1]) (ps ++ [(tellO vs (runO o xs) x).2]) := by
  refine ⟨by simp [h.lt], by simp [h.lp], fun j y hy => ?_⟩
  rw [List.getElem?_append] at hy
  split at hy
  · rename_i c
    have e : (xs ++ [x]).take j = xs.take j := by rw [List.take_append_of_le_length (by omega)]
    rw [e, List.getElem?_append, if_pos (by rw [h.lt]; exact c), List.getElem?_append, if_pos (by rw [h.lp]; exact c)]
    exact h.all j y hy
  · rename_i c
    have h0 : j - xs.length = 0 := by
      have := (List.getElem?_eq_some_iff.1 hy).1
      simp at this; omega
    rw [h0] at hy
    have hyx : x = y := by simpa using hy
    subst hyx
    have hj : j = xs.length := by omega
    subst hj
    rw [List.take_left, List.getElem?_append, if_neg (by rw [h.lt]; omega), h.lt, List.getElem?_append, if_neg (by rw [h.lp]; omega), h.lp, Nat.sub_self]
    exact ⟨rfl, rfl⟩
theorem run_take (o : Ox) (xs : List Stp) (j : Nat) : runO o xs = runO (runO o (xs.take j)) (xs.drop j) := by
  rw [runO, runO, runO, ← List.foldl_append, List.take_append_drop]
theorem run_step {o : Ox} {xs : List Stp} {j : Nat} {x : Stp} (h : xs[j]? = some x) : runO o (xs.take (j + 1)) = nextO (runO o (xs.take j)) x := by
  rw [List.take_add_one, h]; exact run_app _ _ _
theorem Agr.at {vs ws : List Ver} {a b : Int} {o : Ox} {xs : List Stp} (h : Agr vs a ws b (runO o xs)) (j : Nat) : Agr vs a ws b (runO o (xs.take j)) := by
  obtain ⟨_, _, h3, h4, _⟩ := run_is (runO o (xs.take j)) (xs.drop j)
  rw [← run_take] at h3 h4
  exact h.less h3 h4
/-- Alone, it is told the same. -/
theorem Rec.re {vs ws : List Ver} {s t : Int} (hv : OkT vs s) (hw : OkT ws t) {o : Ox} (hr : risC o.own) {xs : List Stp} {ts : List ByteArray} {ps : List (List Pr)} (h : Rec vs o xs ts ps) (i b : Int) (ha : Agr vs o.sees ws b (runO o xs)) : Rec ws (reO o i b) xs ts ps := by
  refine ⟨h.lt, h.lp, fun j x hx => ?_⟩
  have h1 := ha.at (j + 1)
  rw [run_step hx] at h1
  rw [run_re, tell_re hv hw (run_own hr _) i b (by rw [(run_is o _).2.1]; exact h1)]
  exact h.all j x hx
end Go.Proofs.YtfnkaehpidaanaaGreatDoor

/- A desk: transactions at once: what is known of those that are open and of those that are over. -/
namespace Go.Proofs.YtfnkaehpidaanaaGreatDoor
open Go.RowKit Vs

theorem tabF_append : ∀ (n : Int) (ls ms : List (List Chg)), tabF n (ls ++ ms) = tabF n ls ++ tabF (n + ls.length) ms
  | n, [], ms => by simp [tabF]
  | n, l :: r, ms => by
    rw [List.cons_append, tabF, tabF_append, tabF, List.append_assoc, List.length_cons, show n + 1 + (r.length : Int) = n + ((r.length + 1 : Nat) : Int) from by omega]
theorem tab_take {ls : List (List Chg)} {b : Nat} (hb : b ≤ ls.length) : ∃ m, tab ls = tab (ls.take b) ++ m ∧ ∀ x ∈ m, (b : Int) < x.n := by
  refine ⟨tabF (1 + (ls.take b).length) (ls.drop b), ?_, fun x hx => ?_⟩
  · show tabF 1 ls = tabF 1 (ls.take b) ++ _
    rw [← tabF_append, List.take_append_drop]
  · obtain ⟨i, l, c, _, _, rfl⟩ := tabF_mem hx
    show (b : Int) < 1 + ((ls.take b).length : Int) + i
    rw [List.length_take, Nat.min_eq_left hb]; omega
theorem take_get {ls : List (List Chg)} {b : Nat} (hb : b ≤ ls.length) {a : Int} (ha : a ≤ b) (k : ByteArray) : vget (tab ls) k a = vget (tab (ls.take b)) k a := by
  obtain ⟨m, e, h⟩ := tab_take hb
  rw [e]; exact vget_app (fun x hx => by have := h x hx; omega)
theorem grow_get {ls : List (List Chg)} (l : List Chg) {a : Int} (ha : a ≤ ls.length) (k : ByteArray) : vget (tab ls) k a = vget (tab (ls ++ [l])) k a := by
  rw [take_get (ls := ls ++ [l]) (b := ls.length) (by simp) ha, List.take_left]
theorem vget_calm {vs : List Ver} {k : ByteArray} {s b : Int} (hs : s ≤ b) (h : ∀ x ∈ vs, x.k = k → x.n ≤ s) : vget vs k s = vget vs k b := by
  unfold vget see
  rw [show vs.filter (hit k s) = vs.filter (hit k b) from List.filter_congr (fun x hx => by
    unfold hit
    by_cases c : x.k = k
    · have := h x hx c
      rw [decide_eq_true this, decide_eq_true (show x.n ≤ b by omega)]
    · rw [decide_eq_false c]; rfl)]
/-- Nobody changed what it asked of. -/
theorem agr_calm {vs : List Ver} {o : Ox} (hc : clash vs o = false) {b : Int} (hb : o.sees ≤ b) : Agr vs o.sees vs b o := by
  unfold clash at hc
  rw [Bool.or_eq_false_iff, Bool.or_eq_false_iff, List.any_eq_false, List.any_eq_false, List.any_eq_false] at hc
  obtain ⟨⟨h1, _⟩, h3⟩ := hc
  refine ⟨fun k hk => vget_calm hb (fun x hx e => ?_), fun s hs k hk => vget_calm hb (fun x hx e => ?_)⟩
  · have h := h1 k hk
    apply Decidable.byContradiction
    intro hlt
    refine h (List.any_eq_true.2 ⟨x, hx, ?_⟩)
    rw [Bool.and_eq_true, decide_eq_true_eq, decide_eq_true_eq]
    exact ⟨e, by omega⟩
  · have h := h3 s hs
    apply Decidable.byContradiction
    intro hlt
    refine h (List.any_eq_true.2 ⟨x, hx, ?_⟩)
    rw [Bool.and_eq_true, decide_eq_true_eq]
    exact ⟨by rw [e]; exact hk, by omega⟩
theorem ox0_ris (i s : Int) : risC (ox0 i s).own := List.Pairwise.nil
theorem Rec.grow {vs ws : List Ver} {s t : Int} (hv : OkT vs s) (hw : OkT ws t) {o : Ox} (hr : risC o.own) {xs : List Stp} {ts : List ByteArray} {ps : List (List Pr)} (h : Rec vs o xs ts ps) (hg : ∀ k, vget vs k o.sees = vget ws k o.sees) : Rec ws o xs ts ps :=
  h.re hv hw hr o.id o.sees ⟨fun k _ => hg k, fun _ _ k _ => hg k⟩
/-- What a transaction did, and was told. -/
structure Dn where
  id : Int
  num : Int
  st : List Stp
  td : List ByteArray
  pr : List (List Pr)
def Wha (xs : List Stp) : Prop := ∀ x ∈ xs, 1 ≤ x.what ∧ x.what ≤ 5
def ownS (xs : List Stp) : List Chg := (runO (ox0 0 0) xs).own
theorem ownS_is (i s : Int) (xs : List Stp) : (runO (ox0 i s) xs).own = ownS xs := by
  have : ox0 i s = reO (ox0 0 0) i s := rfl
  rw [this, run_re]; rfl
theorem rec_id {vs : List Ver} {s t : Int} (hv : OkT vs t) {i j : Int} {xs : List Stp} {ts : List ByteArray} {ps : List (List Pr)} (h : Rec vs (ox0 i s) xs ts ps) : Rec vs (ox0 j s) xs ts ps :=
  h.re hv hv (ox0_ris _ _) j s ⟨fun _ _ => rfl, fun _ _ _ _ => rfl⟩
/-- One that is open. -/
structure Op (vs : List Ver) (x : Dn) (o : Ox) : Prop where
  id : x.id = o.id
  run : o = runO (ox0 o.id o.sees) x.st
  rc : Rec vs (ox0 o.id o.sees) x.st x.td x.pr
  wh : Wha x.st
theorem Op.own {vs : List Ver} {x : Dn} {o : Ox} (h : Op vs x o) : o.own = ownS x.st := by
  have := congrArg Ox.own h.run
  rw [ownS_is] at this; exact this
theorem Op.grow {vs ws : List Ver} {s t : Int} (hv : OkT vs s) (hw : OkT ws t) {x : Dn} {o : Ox} (h : Op vs x o) (hg : ∀ k, vget vs k o.sees = vget ws k o.sees) : Op ws x o :=
  ⟨h.id, h.run, h.rc.grow hv hw (ox0_ris _ _) hg, h.wh⟩
theorem Op.new (vs : List Ver) (i s : Int) : Op vs ⟨i, 0, [], [], []⟩ (ox0 i s) := ⟨rfl, rfl, Rec.nil _ _, fun x h => by simp at h⟩
theorem Op.act {vs : List Ver} {y : Dn} {o : Ox} (h : Op vs y o) {x : Stp} (hx : 1 ≤ x.what ∧ x.what ≤ 5) : Op vs ⟨y.id, y.num, y.st ++ [x], y.td ++ [(tellO vs o x).1], y.pr ++ [(tellO vs o x).2]⟩ (nextO o x) := by
  obtain ⟨h1, h2, _⟩ := next_is o x
  refine ⟨h.id.trans h1.symm, ?_, ?_, fun z hz => ?_⟩
  · show nextO o x = runO (ox0 (nextO o x).id (nextO o x).sees) (y.st ++ [x])
    rw [h1, h2, run_app, ← h.run]
  · have := h.rc.snoc x
    rw [← h.run] at this
    show Rec vs (ox0 (nextO o x).id (nextO o x).sees) _ _ _
    rw [h1, h2]; exact this
  · rcases List.mem_append.1 hz with hz | hz
    · exact h.wh z hz
    · rw [List.mem_singleton.1 hz]; exact hx
/-- One that is over: it saw the first s lists; alone, it is done behind the first b. -/
structure Ov (ls : List (List Chg)) (x : Dn) (s b : Nat) : Prop where
  sb : s ≤ b
  bl : b ≤ ls.length
  rc : Rec (tab ls) (ox0 0 s) x.st x.td x.pr
  agr : Agr (tab ls) s (tab ls) b (runO (ox0 0 s) x.st)
  new : ownS x.st ≠ [] → ls[b]? = some (ownS x.st) ∧ x.num = b + 1
  old : ownS x.st = [] → x.num = b
  wh : Wha x.st
theorem Ov.grow {ls : List (List Chg)} {l : List Chg} (h0 : ∀ m ∈ ls ++ [l], chF m = 0) (hn : (ls ++ [l]).length ≤ 1000000) {x : Dn} {s b : Nat} (h : Ov ls x s b) : Ov (ls ++ [l]) x s b := by
  have hv : OkT (tab ls) ls.length := tab_ok (fun m hm => h0 m (List.mem_append.2 (.inl hm))) (by simp at hn; omega)
  have hw := tab_ok h0 hn
  have hb := h.bl
  have hs := h.sb
  refine ⟨hs, by simp; omega, h.rc.grow hv hw (ox0_ris _ _) (fun k => grow_get l (show (s : Int) ≤ _ by omega) k), ?_, fun g => ?_, h.old, h.wh⟩
  · refine ⟨fun k hk => ?_, fun z hz k hk => ?_⟩
    · rw [← grow_get l (show (s : Int) ≤ _ by omega), ← grow_get l (show (b : Int) ≤ _ by omega)]; exact h.agr.1 k hk
    · rw [← grow_get l (show (s : Int) ≤ _ by omega), ← grow_get l (show (b : Int) ≤ _ by omega)]; exact h.agr.2 z hz k hk
  · obtain ⟨g1, g2⟩ := h.new g
    exact ⟨by rw [List.getElem?_append, if_pos (List.getElem?_eq_some_iff.1 g1).1]; exact g1, g2⟩
/-- It changed nothing: it is over at the number that it saw. -/
theorem Ov.same {ls : List (List Chg)} (h0 : ∀ m ∈ ls, chF m = 0) (hn : ls.length ≤ 1000000) {y : Dn} {o : Ox} (h : Op (tab ls) y o) (s0 : 0 ≤ o.sees) (s1 : o.sees ≤ ls.length) (he : o.own = []) : Ov ls ⟨y.id, o.sees, y.st, y.td, y.pr⟩ o.sees.toNat o.sees.toNat := by
  have e : ((o.sees.toNat : Nat) : Int) = o.sees := Int.toNat_of_nonneg s0
  refine ⟨Nat.le_refl _, by omega, ?_, ⟨fun _ _ => rfl, fun _ _ _ _ => rfl⟩, fun g => absurd (h.own.symm.trans he) g, fun _ => e.symm, h.wh⟩
  rw [e]; exact rec_id (tab_ok h0 hn) h.rc
/-- It changed something: it is over at the next number. -/
theorem Ov.next {ls : List (List Chg)} {y : Dn} {o : Ox} (h0 : ∀ m ∈ ls ++ [o.own], chF m = 0) (hn : (ls ++ [o.own]).length ≤ 1000000) (h : Op (tab ls) y o) (s0 : 0 ≤ o.sees) (s1 : o.sees ≤ ls.length) (he : o.own ≠ []) (hc : clash (tab ls) o = false) : Ov (ls ++ [o.own]) ⟨y.id, ls.length + 1, y.st, y.td, y.pr⟩ o.sees.toNat ls.length := by
  have e : ((o.sees.toNat : Nat) : Int) = o.sees := Int.toNat_of_nonneg s0
  have hv : OkT (tab ls) ls.length := tab_ok (fun m hm => h0 m (List.mem_append.2 (.inl hm))) (by simp at hn; omega)
  have hw := tab_ok h0 hn
  have ha := agr_calm hc s1
  have hk : (runO (ox0 0 o.sees) y.st).keys = o.keys ∧ (runO (ox0 0 o.sees) y.st).spans = o.spans := by
    have : ox0 0 o.sees = reO (ox0 o.id o.sees) 0 o.sees := rfl
    rw [this, run_re, ← h.run]
    exact ⟨rfl, rfl⟩
  refine ⟨by omega, by simp, ?_, ?_, fun _ => ⟨?_, rfl⟩, fun g => absurd (h.own.trans g) he, h.wh⟩
  · rw [e]
    exact (rec_id hv h.rc).grow hv hw (ox0_ris _ _) (fun k => grow_get _ s1 k)
  · rw [e]
    unfold Agr
    rw [hk.1, hk.2]
    refine ⟨fun k m => ?_, fun z hz k m => ?_⟩
    · rw [← grow_get _ s1, ← grow_get _ (Int.le_refl _)]; exact ha.1 k m
    · rw [← grow_get _ s1, ← grow_get _ (Int.le_refl _)]; exact ha.2 z hz k m
  · rw [List.getElem?_append, if_neg (by omega), Nat.sub_self, ← h.own]; rfl
end Go.Proofs.YtfnkaehpidaanaaGreatDoor

/- A desk: transactions at once: the steps. -/
namespace Go.Proofs.YtfnkaehpidaanaaGreatDoor
open Go.RowKit Vs

theorem errT_ne : errT ≠ ByteArray.empty := by decide
/-- Did it change something? -/
theorem tell_chg (vs : List Ver) (o : Ox) {x : Stp} (hx : 2 < x.what) : (tellO vs o x = (ByteArray.empty, []) ∧ (nextO o x).own = insC o.own (cOf x)) ∨ (tellO vs o x = (errT, []) ∧ (nextO o x).own = o.own) := by
  have n2 : ¬ x.what = 2 := by omega
  have n1 : ¬ x.what = 1 := by omega
  unfold tellO nextO
  simp only [n2, n1, if_false]
  by_cases c : shF (cOf x).k (cOf x).v = 0
  · simp only [c, if_true]
    by_cases c2 : 20 < (insC o.own (cOf x)).length
    · simp only [c2, if_true]; exact .inr ⟨trivial, trivial⟩
    · simp only [c2, if_false]; exact .inl ⟨trivial, trivial⟩
  · simp only [c, if_false]; exact .inr ⟨trivial, trivial⟩
theorem next_ask (o : Ox) {x : Stp} (h1 : 1 ≤ x.what) (hx : x.what ≤ 2) : (nextO o x).own = o.own := by
  unfold nextO
  by_cases c2 : x.what = 2
  · rw [if_pos c2]; split <;> rfl
  · rw [if_neg c2, if_pos (by omega)]
    split
    · split <;> rfl
    · rfl
theorem chg_none {vs : List Ver} {i s : Int} {xs : List Stp} {ts : List ByteArray} {ps : List (List Pr)} (h : Rec vs (ox0 i s) xs ts ps) (he : ownS xs = []) {j : Nat} {x : Stp} {t : ByteArray} (hx : xs[j]? = some x) (ht : ts[j]? = some t) (hw : 2 < x.what) : t ≠ ByteArray.empty := by
  intro e
  have h1 := (h.all j x hx).1
  rw [ht] at h1
  have h2 := Option.some.inj h1
  rcases tell_chg vs (runO (ox0 i s) (xs.take j)) hw with ⟨_, g2⟩ | ⟨g1, _⟩
  · have g3 : (runO (ox0 i s) (xs.take (j + 1))).own ≠ [] := by
      rw [run_step hx, g2]
      intro q
      have := insC_pos (runO (ox0 i s) (xs.take j)).own (cOf x)
      rw [q] at this
      simp at this
    have g4 := (run_is (runO (ox0 i s) (xs.take (j + 1))) (xs.drop (j + 1))).2.2.2.2 g3
    rw [← run_take, ownS_is] at g4
    exact g4 he
  · rw [g1] at h2
    exact errT_ne (h2.symm.trans e)
theorem chg_any {vs : List Ver} {i s : Int} {xs : List Stp} {ts : List ByteArray} {ps : List (List Pr)} (h : Rec vs (ox0 i s) xs ts ps) (hw : Wha xs) (he : ∀ (j : Nat) (x : Stp) (t : ByteArray), xs[j]? = some x → ts[j]? = some t → 2 < x.what → t ≠ ByteArray.empty) : ownS xs = [] := by
  have key : ∀ j, (runO (ox0 i s) (xs.take j)).own = [] := by
    intro j
    induction j with
    | zero => rfl
    | succ j ih =>
      by_cases c : j < xs.length
      · obtain ⟨x, hx⟩ : ∃ x, xs[j]? = some x := ⟨xs[j], List.getElem?_eq_getElem c⟩
        rw [run_step hx]
        obtain ⟨w1, w2⟩ := hw x (List.mem_of_getElem? hx)
        by_cases c2 : 2 < x.what
        · have h1 := (h.all j x hx).1
          rcases tell_chg vs (runO (ox0 i s) (xs.take j)) c2 with ⟨g1, _⟩ | ⟨_, g2⟩
          · rw [g1] at h1
            exact absurd rfl (he j x _ hx h1 c2)
          · rw [g2]; exact ih
        · rw [next_ask _ w1 (by omega)]; exact ih
      · rw [List.take_of_length_le (by omega)]
        rw [List.take_of_length_le (by omega)] at ih
        exact ih
  have := key xs.length
  rw [List.take_length, ownS_is] at this
  exact this
/-- What the desk answers. -/
theorem opSet_self {d : Dk} (h : d.op.Pairwise (fun a b => a.id < b.id)) {o : Ox} (ho : o ∈ d.op) : opSet d o = d := by
  unfold opSet
  have : d.op.map (fun q => if q.id = o.id then o else q) = d.op := by
    conv => rhs; rw [← List.map_id d.op]
    apply List.map_congr_left
    intro q hq
    show (if q.id = o.id then o else q) = q
    split
    · rename_i e; exact ids_once h ho hq e.symm
    · rfl
  rw [this]
theorem get_is {d : Dk} (h : OkD d) {i : Int} {o : Ox} (e : opI d i = some o) {x : Stp} (hx : x.what = 1) : dgD d i x.key = opSet d (nextO o x) ∧ ((dgF d i x.key = 0 ∧ tellO d.vs o x = (eqT (dgS d i x.key), [])) ∨ (dgF d i x.key ≠ 0 ∧ tellO d.vs o x = (errT, []))) := by
  have ho := (opI_some e).1
  have n2 : ¬ x.what = 2 := by omega
  unfold dgD dgF dgS tellO nextO
  rw [e]
  simp only [n2, if_false]
  simp only [hx, if_true]
  by_cases c : shF x.key ByteArray.empty = 0
  · simp only [c, if_true]
    by_cases c2 : 100 ≤ o.asked
    · simp only [c2, if_true]
      exact ⟨(opSet_self h.ids ho).symm, .inr ⟨by decide, trivial⟩⟩
    · simp only [c2, if_false]
      refine ⟨trivial, ?_⟩
      cases seeO d.vs o.sees o.own x.key with
      | none => exact .inr ⟨by decide, rfl⟩
      | some v => exact .inl ⟨rfl, rfl⟩
  · simp only [c, if_false]
    exact ⟨(opSet_self h.ids ho).symm, .inr ⟨by decide, trivial⟩⟩
theorem range_is {d : Dk} (h : OkD d) {i : Int} {o : Ox} (e : opI d i = some o) {x : Stp} (hx : x.what = 2) : drD d i x.key x.hi = opSet d (nextO o x) ∧ ((drF d i = 0 ∧ tellO d.vs o x = (ByteArray.empty, drS d i x.key x.hi)) ∨ (drF d i ≠ 0 ∧ tellO d.vs o x = (errT, []))) := by
  have ho := (opI_some e).1
  unfold drD drF drS tellO nextO
  rw [e]
  simp only [hx, if_true]
  by_cases c2 : 100 ≤ o.asked
  · simp only [c2, if_true]
    exact ⟨(opSet_self h.ids ho).symm, .inr ⟨by decide, trivial⟩⟩
  · simp only [c2, if_false]
    exact ⟨trivial, .inl ⟨trivial, trivial⟩⟩
theorem chg_is {d : Dk} (h : OkD d) {i : Int} {o : Ox} (e : opI d i = some o) {x : Stp} (hx : 2 < x.what) : dcD d i (cOf x) = opSet d (nextO o x) ∧ ((dcF d i (cOf x) = 0 ∧ tellO d.vs o x = (ByteArray.empty, [])) ∨ (dcF d i (cOf x) ≠ 0 ∧ tellO d.vs o x = (errT, []))) := by
  have ho := (opI_some e).1
  have n2 : ¬ x.what = 2 := by omega
  have n1 : ¬ x.what = 1 := by omega
  unfold dcD dcF tellO nextO
  rw [e]
  simp only [n2, n1, if_false]
  by_cases c : shF (cOf x).k (cOf x).v = 0
  · simp only [c, if_true]
    by_cases c2 : 20 < (insC o.own (cOf x)).length
    · simp only [c2, if_true]
      exact ⟨(opSet_self h.ids ho).symm, .inr ⟨by decide, trivial⟩⟩
    · simp only [c2, if_false]
      exact ⟨trivial, .inl ⟨trivial, trivial⟩⟩
  · simp only [c, if_false]
    exact ⟨(opSet_self h.ids ho).symm, .inr ⟨by decide, trivial⟩⟩
theorem OkD.act {d : Dk} (h : OkD d) {i : Int} {o : Ox} (e : opI d i = some o) {x : Stp} (hx : 1 ≤ x.what ∧ x.what ≤ 5) : OkD (opSet d (nextO o x)) := by
  by_cases c1 : x.what = 1
  · rw [← (get_is h e c1).1]; exact h.dg _ _
  · by_cases c2 : x.what = 2
    · rw [← (range_is h e c2).1]; exact h.dr _ _ _
    · rw [← (chg_is h e (by omega)).1]; exact h.dc _ (cOf_ok x)
theorem next_len (o : Ox) (x : Stp) : (nextO o x).own.length ≤ o.own.length + 1 := by
  unfold nextO
  have := len_insC o.own (cOf x)
  split
  · split <;> exact Nat.le_succ _
  · split
    · split
      · split <;> exact Nat.le_succ _
      · exact Nat.le_succ _
    · split
      · split
        · exact Nat.le_succ _
        · exact this
      · exact Nat.le_succ _
theorem wt_act {d : Dk} (h : OkD d) {o : Ox} (ho : o ∈ d.op) (x : Stp) : wt (opSet d (nextO o x)) ≤ wt d + 1 := by
  have key : wtO (opSet d (nextO o x)).op + o.own.length = wtO d.op + (nextO o x).own.length := wtO_set h.ids ho (next_is o x).1
  have := next_len o x
  show wtL d.lg.ls + wtO (opSet d (nextO o x)).op ≤ wtL d.lg.ls + wtO d.op + 1
  omega
/-- Places. -/
theorem opSet_at {l : List Ox} (h : l.Pairwise (fun a b => a.id < b.id)) {j : Nat} {o o' : Ox} (hj : l[j]? = some o) (e : o'.id = o.id) : l.map (fun q => if q.id = o'.id then o' else q) = l.set j o' := by
  apply List.ext_getElem?
  intro i
  rw [List.getElem?_map, List.getElem?_set]
  have hjl := (List.getElem?_eq_some_iff.1 hj).1
  by_cases c : j = i
  · subst c
    rw [if_pos rfl, if_pos hjl, hj]
    show some (if o.id = o'.id then o' else o) = _
    rw [if_pos e.symm]
  · rw [if_neg c]
    cases hi : l[i]? with
    | none => rfl
    | some q =>
      have hil := (List.getElem?_eq_some_iff.1 hi).1
      have hne : q.id ≠ o'.id := by
        intro e2
        have e3 : q.id = o.id := e2.trans e
        obtain ⟨a1, a2⟩ := List.getElem?_eq_some_iff.1 hj
        obtain ⟨b1, b2⟩ := List.getElem?_eq_some_iff.1 hi
        rcases Nat.lt_or_gt_of_ne c with c | c
        · have := List.pairwise_iff_getElem.1 h j i a1 b1 c
          rw [a2, b2] at this; omega
        · have := List.pairwise_iff_getElem.1 h i j b1 a1 c
          rw [a2, b2] at this; omega
      show some (if q.id = o'.id then o' else q) = _
      rw [if_neg hne]
theorem opDel_at : ∀ {l : List Ox} {j : Nat} {o : Ox}, l.Pairwise (fun a b => a.id < b.id) → l[j]? = some o → l.filter (fun q => !decide (q.id = o.id)) = l.eraseIdx j
  | x :: r, 0, o, h, hj => by
    obtain ⟨h1, h2⟩ := List.pairwise_cons.1 h
    have e : x = o := by simpa using hj
    subst e
    rw [List.filter_cons_of_neg (by simp), List.eraseIdx_cons_zero]
    apply List.filter_eq_self.2
    intro q hq
    have := h1 q hq
    simp; omega
  | x :: r, j + 1, o, h, hj => by
    obtain ⟨h1, h2⟩ := List.pairwise_cons.1 h
    have hj' : r[j]? = some o := by simpa using hj
    have := h1 o (List.mem_of_getElem? hj')
    rw [List.filter_cons_of_pos (by simp; omega), List.eraseIdx_cons_succ, opDel_at h2 hj']
end Go.Proofs.YtfnkaehpidaanaaGreatDoor

/- A desk: transactions at once: what holds between two steps. -/
namespace Go.Proofs.YtfnkaehpidaanaaGreatDoor
open Go.RowKit Vs

def chD (x : Dn) : Bool := !decide (ownS x.st = [])
/-- Between two steps. -/
structure Sd (k : Nat) (d : Dk) (op ov : List Dn) : Prop where
  ok : OkD d
  up : UpL d.lg
  vs : d.vs = tab d.lg.ls
  len : op.length = d.op.length
  opn : ∀ (j : Nat) (x : Dn) (o : Ox), op[j]? = some x → d.op[j]? = some o → Op d.vs x o
  ovr : ∀ x ∈ ov, ∃ s b, Ov d.lg.ls x s b
  nums : (ov.filter chD).map (fun x => x.num) = (List.range d.lg.ls.length).map (fun (i : Nat) => (i : Int) + 1)
  wl : wt d ≤ k
  ids : d.ids ≤ k
  nv : ov.length ≤ k
  so : ∀ x ∈ op, x.st.length ≤ k
  sv : ∀ x ∈ ov, x.st.length ≤ k
theorem Sd.new : Sd 0 (dk0 100000) [] [] :=
  ⟨OkD.new (by decide) (by decide), UpL.new, rfl, rfl, fun j x o h => by simp at h, fun x h => by simp at h, rfl, by simp [wt, dk0, lg0, wtL, wtO], by simp [dk0], by simp, fun x h => by simp at h, fun x h => by simp at h⟩
theorem Sd.mono {k m : Nat} {d : Dk} {op ov : List Dn} (h : Sd k d op ov) (hk : k ≤ m) : Sd m d op ov :=
  ⟨h.ok, h.up, h.vs, h.len, h.opn, h.ovr, h.nums, by have := h.wl; omega, by have := h.ids; omega, by have := h.nv; omega, fun x hx => by have := h.so x hx; omega, fun x hx => by have := h.sv x hx; omega⟩
theorem Sd.ls {k : Nat} {d : Dk} {op ov : List Dn} (h : Sd k d op ov) : d.lg.ls.length ≤ k := by
  have h1 := wtL_len h.ok.each
  have h2 := h.wl
  unfold wt at h2
  omega
theorem Sd.at {k : Nat} {d : Dk} {op ov : List Dn} (h : Sd k d op ov) {j : Nat} {x : Dn} (hj : op[j]? = some x) : ∃ o, d.op[j]? = some o ∧ Op d.vs x o ∧ o ∈ d.op ∧ opI d x.id = some o := by
  have hl := (List.getElem?_eq_some_iff.1 hj).1
  have hl2 : j < d.op.length := by rw [← h.len]; exact hl
  have e : d.op[j]? = some d.op[j] := List.getElem?_eq_getElem hl2
  have ho := h.opn j x _ hj e
  have hm := List.mem_of_getElem? e
  exact ⟨_, e, ho, hm, by rw [ho.id]; exact opI_is h.ok.ids hm⟩
theorem Sd.bg {k : Nat} {d : Dk} {op ov : List Dn} (h : Sd k d op ov) (hf : bgF d = 0) : Sd (k + 1) (bgD d) (op ++ [⟨bgN d, 0, [], [], []⟩]) ov := by
  obtain ⟨h1, h2, h3, h4⟩ := wt_bg d
  have hw := h.wl
  have hi := h.ids
  have hv := h.nv
  have en : bgN d = d.ids + 1 := by rw [bgN, if_pos hf]
  have eo : (bgD d).op = d.op ++ [ox0 (d.ids + 1) d.last] := by rw [bgD, if_pos hf]; rfl
  refine ⟨h.ok.bg, by rw [h3]; exact h.up, by rw [h3, h4]; exact h.vs, by rw [eo]; simp [h.len], fun j x o hx ho => ?_, by rw [h3]; exact h.ovr, by rw [h3]; exact h.nums, by omega, by omega, by omega, fun x hx => ?_, fun x hx => by have := h.sv x hx; omega⟩
  · rw [h4]
    rw [eo] at ho
    rw [List.getElem?_append] at hx ho
    rw [h.len] at hx
    split at hx
    · rename_i c
      rw [if_pos c] at ho
      exact h.opn j x o hx ho
    · rename_i c
      rw [if_neg c] at ho
      have h0 : j - d.op.length = 0 := by
        have := (List.getElem?_eq_some_iff.1 hx).1
        simp at this; omega
      rw [h0] at hx ho
      have ex : x = ⟨bgN d, 0, [], [], []⟩ := by simpa using hx.symm
      have eo2 : o = ox0 (d.ids + 1) d.last := by simpa using ho.symm
      rw [ex, eo2, en]
      exact Op.new _ _ _
  · rcases List.mem_append.1 hx with hx | hx
    · have := h.so x hx; omega
    · rw [List.mem_singleton.1 hx]; simp
theorem Sd.act {k : Nat} {d : Dk} {op ov : List Dn} (h : Sd k d op ov) {j : Nat} {y : Dn} {o : Ox} (hj : op[j]? = some y) (ho : d.op[j]? = some o) {x : Stp} (hx : 1 ≤ x.what ∧ x.what ≤ 5) :
    Sd (k + 1) (opSet d (nextO o x)) (op.set j ⟨y.id, y.num, y.st ++ [x], y.td ++ [(tellO d.vs o x).1], y.pr ++ [(tellO d.vs o x).2]⟩) ov := by
  have hm := List.mem_of_getElem? ho
  have hp := h.opn j y o hj ho
  have hw := wt_act h.ok hm x
  have hwl := h.wl
  have hi := h.ids
  have hv := h.nv
  have eo : (opSet d (nextO o x)).op = d.op.set j (nextO o x) := opSet_at h.ok.ids ho (next_is o x).1
  refine ⟨OkD.act h.ok (opI_is h.ok.ids hm) hx, h.up, h.vs, by rw [eo, List.length_set, List.length_set]; exact h.len, fun i z q hz hq => ?_, h.ovr, h.nums, by omega, by show d.ids ≤ _; omega, by omega, fun z hz => ?_, fun z hz => by have := h.sv z hz; omega⟩
  · show Op d.vs z q
    rw [eo] at hq
    rw [List.getElem?_set] at hz hq
    by_cases c : j = i
    · rw [if_pos c] at hz hq
      split at hz
      · split at hq
        · rw [← Option.some.inj hz, ← Option.some.inj hq]
          exact hp.act hx
        · cases hq
      · cases hz
    · rw [if_neg c] at hz hq
      exact h.opn i z q hz hq
  · rcases List.mem_or_eq_of_mem_set hz with hz | rfl
    · have := h.so z hz; omega
    · have := h.so y (List.mem_of_getElem? hj)
      simp; omega
theorem erase_opn {d : Dk} {op : List Dn} {vs : List Ver} (h : ∀ (j : Nat) (x : Dn) (o : Ox), op[j]? = some x → d.op[j]? = some o → Op vs x o) (j : Nat) : ∀ (i : Nat) (x : Dn) (o : Ox), (op.eraseIdx j)[i]? = some x → (d.op.eraseIdx j)[i]? = some o → Op vs x o := by
  intro i x o hx ho
  rw [List.getElem?_eraseIdx] at hx ho
  split at hx
  · rename_i c
    rw [if_pos c] at ho
    exact h i x o hx ho
  · rename_i c
    rw [if_neg c] at ho
    exact h (i + 1) x o hx ho
theorem del_at {k : Nat} {d : Dk} {op ov : List Dn} (h : Sd k d op ov) {j : Nat} {o : Ox} (ho : d.op[j]? = some o) : (opDel d o.id).op = d.op.eraseIdx j := opDel_at h.ok.ids ho
/-- It is gone, and nothing has come of it. -/
theorem Sd.gone {k : Nat} {d : Dk} {op ov : List Dn} (h : Sd k d op ov) {j : Nat} {y : Dn} {o : Ox} (hj : op[j]? = some y) (ho : d.op[j]? = some o) : Sd (k + 1) (opDel d y.id) (op.eraseIdx j) ov := by
  have hp := h.opn j y o hj ho
  have hjl := (List.getElem?_eq_some_iff.1 hj).1
  have hol := (List.getElem?_eq_some_iff.1 ho).1
  have hwl := h.wl
  have hi := h.ids
  have hv := h.nv
  have hwt : wt (opDel d y.id) ≤ wt d := by
    show wtL d.lg.ls + wtO (d.op.filter _) ≤ wtL d.lg.ls + wtO d.op
    have := wtO_filter d.op (fun q => !decide (q.id = y.id))
    omega
  have eo : (opDel d y.id).op = d.op.eraseIdx j := by rw [hp.id]; exact del_at h ho
  refine ⟨h.ok.del _, h.up, h.vs, by rw [eo, List.length_eraseIdx, List.length_eraseIdx, h.len], fun i x q hx hq => ?_, h.ovr, h.nums, by omega, by show d.ids ≤ _; omega, by omega, fun z hz => by have := h.so z (List.mem_of_mem_eraseIdx hz); omega, fun z hz => by have := h.sv z hz; omega⟩
  rw [eo] at hq
  exact erase_opn (d := d) (op := op) h.opn j i x q hx hq
theorem range_more (n : Nat) : (List.range (n + 1)).map (fun (i : Nat) => (i : Int) + 1) = (List.range n).map (fun (i : Nat) => (i : Int) + 1) ++ [(n : Int) + 1] := by
  rw [List.range_succ, List.map_append]; rfl
/-- A commit. -/
theorem Sd.cm {k : Nat} {d : Dk} {op ov : List Dn} (h : Sd k d op ov) (hk : k ≤ 90) {j : Nat} {y : Dn} {o : Ox} (hj : op[j]? = some y) (ho : d.op[j]? = some o) :
    (cmF d y.id = 0 ∧ Sd (k + 1) (cmD d y.id) (op.eraseIdx j) (ov ++ [⟨y.id, cmN d y.id, y.st, y.td, y.pr⟩])) ∨ (cmF d y.id ≠ 0 ∧ Sd (k + 1) (cmD d y.id) (op.eraseIdx j) ov) := by
  have hp := h.opn j y o hj ho
  have hm := List.mem_of_getElem? ho
  have hok := h.ok.op o hm
  have hI : opI d y.id = some o := by rw [hp.id]; exact opI_is h.ok.ids hm
  have hls := h.ls
  have hlast := h.ok.last
  have hs1 : o.sees ≤ d.lg.ls.length := by have := hok.s1; omega
  have hg := h.gone hj ho
  have hso := h.so y (List.mem_of_getElem? hj)
  have hv := h.nv
  have hap := h.up.room h.ok.lg (by omega) hok.own
  have hcm := h.ok.cm y.id
  have hwt : wt (cmD d y.id) ≤ wt d := by
    rcases cm_cases h.ok y.id with ⟨_, _, _, h4, _⟩ | ⟨own, _, _, _, _, h4, _, _⟩
    · exact h4
    · omega
  have hwl := h.wl
  unfold cmF cmN
  have eD : cmD d y.id = (match opI d y.id with
    | none => d
    | some o => if clash d.vs o = true then opDel d y.id else if o.own = [] then opDel d y.id else if apF d.lg o.own = 0 then addL (opDel d y.id) o.own else { opDel d y.id with lg := apG d.lg o.own }) := rfl
  rw [eD] at hcm hwt ⊢
  rw [hI] at hcm hwt ⊢
  simp only at hcm hwt ⊢
  by_cases c : clash d.vs o = true
  · simp only [c, if_true] at hcm hwt ⊢
    exact .inr ⟨by decide, hg⟩
  · simp only [c, Bool.false_eq_true, if_false] at hcm hwt ⊢
    by_cases c2 : o.own = []
    · simp only [c2, if_true] at hcm hwt ⊢
      refine .inl ⟨trivial, ⟨hg.ok, hg.up, hg.vs, hg.len, hg.opn, fun x hx => ?_, ?_, hg.wl, hg.ids, by simp; omega, hg.so, fun x hx => ?_⟩⟩
      · rcases List.mem_append.1 hx with hx | hx
        · exact h.ovr x hx
        · rw [List.mem_singleton.1 hx]
          rw [h.vs] at hp
          exact ⟨_, _, Ov.same h.ok.lg.each (by omega) hp hok.s0 hs1 c2⟩
      · rw [List.filter_append, List.filter_cons_of_neg (by show ¬ chD _ = true; unfold chD; rw [← hp.own, c2]; decide), List.filter_nil, List.append_nil]
        exact h.nums
      · rcases List.mem_append.1 hx with hx | hx
        · have := h.sv x hx; omega
        · rw [List.mem_singleton.1 hx]; show y.st.length ≤ _; omega
    · simp only [c2, hap, if_false, if_true] at hcm hwt ⊢
      have el : (addL (opDel d y.id) o.own).lg.ls = d.lg.ls ++ [o.own] := by
        show (apG d.lg o.own).ls = _
        rw [ls_ap, if_pos hap]
      have ev : (addL (opDel d y.id) o.own).vs = tab (d.lg.ls ++ [o.own]) := by
        rw [tab_app, ← h.vs, ← hlast]; rfl
      have h0 : ∀ m ∈ d.lg.ls ++ [o.own], chF m = 0 := by rw [← el]; exact hcm.lg.each
      have hn : (d.lg.ls ++ [o.own]).length ≤ 1000000 := by simp; omega
      have hT : OkT (tab d.lg.ls) d.lg.ls.length := tab_ok h.ok.lg.each (by omega)
      have eo : (opDel d y.id).op = d.op.eraseIdx j := by rw [hp.id]; exact del_at h ho
      refine .inl ⟨trivial, ⟨hcm, h.up.ap _, by rw [el, ev], hg.len, fun i x q hx hq => ?_, fun x hx => ?_, ?_, by omega, hg.ids, by simp; omega, hg.so, fun x hx => ?_⟩⟩
      · have hq' : (opDel d y.id).op[i]? = some q := hq
        have h1 := hg.opn i x q hx hq'
        have h2 := h.ok.op q (by rw [eo] at hq'; exact List.mem_of_mem_eraseIdx (List.mem_of_getElem? hq'))
        have h1' : Op (tab d.lg.ls) x q := by rw [← h.vs]; exact h1
        rw [ev]
        exact h1'.grow hT (tab_ok h0 hn) (fun k => grow_get _ (by have := h2.s1; omega) k)
      · rw [el]
        rcases List.mem_append.1 hx with hx | hx
        · obtain ⟨s, b, g⟩ := h.ovr x hx
          exact ⟨s, b, g.grow h0 hn⟩
        · rw [List.mem_singleton.1 hx]
          have hp' : Op (tab d.lg.ls) y o := by rw [← h.vs]; exact hp
          have g := Ov.next h0 hn hp' hok.s0 hs1 c2 (by rw [← h.vs]; simpa using c)
          rw [hlast]
          exact ⟨_, _, g⟩
      · rw [el, List.filter_append, List.filter_cons_of_pos (by unfold chD; rw [← hp.own, decide_eq_false c2]; rfl), List.filter_nil, List.map_append, h.nums, List.length_append, List.length_singleton, range_more, hlast]
        rfl
      · rcases List.mem_append.1 hx with hx | hx
        · have := h.sv x hx; omega
        · rw [List.mem_singleton.1 hx]; show y.st.length ≤ _; omega
end Go.Proofs.YtfnkaehpidaanaaGreatDoor

/- A desk: each alone, one behind the other. -/
namespace Go.Proofs.YtfnkaehpidaanaaGreatDoor
open Go.RowKit Vs

/-- The other desk: the first m lists are there, and nobody is open. -/
structure Al (ls : List (List Chg)) (m : Nat) (a : Dk) : Prop where
  ok : OkD a
  up : UpL a.lg
  vs : a.vs = tab a.lg.ls
  le : a.lg.ls = ls.take m
  ml : m ≤ ls.length
  op : a.op = []
theorem Al.new (ls : List (List Chg)) : Al ls 0 (dk0 100000) := ⟨OkD.new (by decide) (by decide), UpL.new, rfl, rfl, Nat.zero_le _, rfl⟩
theorem Al.last {ls : List (List Chg)} {m : Nat} {a : Dk} (h : Al ls m a) : a.last = m := by
  rw [h.ok.last, h.le, List.length_take, Nat.min_eq_left h.ml]
/-- .. and with one that is open. -/
def aD (a : Dk) (o : Ox) : Dk := { a with ids := a.ids + 1, op := [o] }
theorem Al.bg {ls : List (List Chg)} {m : Nat} {a : Dk} (h : Al ls m a) : bgF a = 0 ∧ bgN a = a.ids + 1 ∧ bgD a = aD a (ox0 (a.ids + 1) m) := by
  have h1 : a.op.length < 8 := by rw [h.op]; decide
  refine ⟨bg_ok h1 h.up, bgN_ok h1 h.up, ?_⟩
  have e : ox0 (a.ids + 1) a.last = ox0 (a.ids + 1) m := by rw [h.last]
  rw [bgD_ok h1 h.up, h.op, e]; rfl
theorem Al.ok0 {ls : List (List Chg)} {m : Nat} {a : Dk} (h : Al ls m a) : OkD (aD a (ox0 (a.ids + 1) m)) := by
  rw [← h.bg.2.2]; exact h.ok.bg
theorem aD_at {a : Dk} {o : Ox} (e : o.id = a.ids + 1) : opI (aD a o) (a.ids + 1) = some o := by simp [opI, aD, e]
theorem aD_set {a : Dk} {o o' : Ox} (e : o.id = a.ids + 1) (e' : o'.id = a.ids + 1) : opSet (aD a o) o' = aD a o' := by simp [opSet, aD, e, e']
theorem aD_del {a : Dk} {o : Ox} (e : o.id = a.ids + 1) : opDel (aD a o) (a.ids + 1) = { a with ids := a.ids + 1, op := [] } := by simp [opDel, aD, e]
/-- It is told the same. -/
theorem Al.told {ls : List (List Chg)} (h0 : ∀ l ∈ ls, chF l = 0) (hn : ls.length ≤ 1000000) {m : Nat} {a : Dk} (h : Al ls m a) {x : Dn} {s : Nat} (hx : Ov ls x s m) (i : Int) : Rec a.vs (ox0 i m) x.st x.td x.pr := by
  have hv := tab_ok h0 hn
  have hw : OkT (tab (ls.take m)) (ls.take m).length := tab_ok (fun l hl => h0 l (List.mem_of_mem_take hl)) (by rw [List.length_take]; omega)
  rw [h.vs, h.le]
  refine hx.rc.re hv hw (ox0_ris _ _) i m ?_
  refine ⟨fun k hk => ?_, fun z hz k hk => ?_⟩
  · rw [← take_get h.ml (Int.le_refl _)]; exact hx.agr.1 k hk
  · rw [← take_get h.ml (Int.le_refl _)]; exact hx.agr.2 z hz k hk
theorem al_id (i : Int) (s : Int) (xs : List Stp) : (runO (ox0 i s) xs).id = i := (run_is _ _).1
theorem al_sees (i : Int) (s : Int) (xs : List Stp) : (runO (ox0 i s) xs).sees = s := (run_is _ _).2.1
/-- It is committed. -/
theorem Al.cm {ls : List (List Chg)} {m : Nat} {a : Dk} (hl : ls.length ≤ 90) (h : Al ls m a) {x : Dn} {s : Nat} (hx : Ov ls x s m) {o : Ox} (eo : o = runO (ox0 (a.ids + 1) m) x.st) (hok : OkD (aD a o)) :
    cmF (aD a o) (a.ids + 1) = 0 ∧ cmN (aD a o) (a.ids + 1) = x.num ∧ (cmD (aD a o) (a.ids + 1)).ids = a.ids + 1 ∧ Al ls (if ownS x.st = [] then m else m + 1) (cmD (aD a o) (a.ids + 1)) := by
  have ei : o.id = a.ids + 1 := by rw [eo, al_id]
  have es : o.sees = a.last := by rw [eo, al_sees, h.last]
  have ew : o.own = ownS x.st := by rw [eo, ownS_is]
  have hcl : clash (aD a o).vs o = false := clash_last hok es
  have hc := hok.op o (by simp [aD])
  have hml := h.ml
  have hla := h.last
  have hap : apF a.lg o.own = 0 := h.up.room h.ok.lg (by rw [h.le, List.length_take]; omega) hc.own
  have hap' : apF (aD a o).lg o.own = 0 := hap
  have hcm := hok.cm (a.ids + 1)
  unfold cmF cmN
  have eD : cmD (aD a o) (a.ids + 1) = (match opI (aD a o) (a.ids + 1) with
    | none => aD a o
    | some o' => if clash (aD a o).vs o' = true then opDel (aD a o) (a.ids + 1) else if o'.own = [] then opDel (aD a o) (a.ids + 1) else if apF (aD a o).lg o'.own = 0 then addL (opDel (aD a o) (a.ids + 1)) o'.own else { opDel (aD a o) (a.ids + 1) with lg := apG (aD a o).lg o'.own }) := rfl
  rw [eD] at hcm ⊢
  rw [aD_at ei, aD_del ei] at hcm ⊢
  simp only [hcl, Bool.false_eq_true, if_false] at hcm ⊢
  by_cases c : o.own = []
  · simp only [c, if_true] at hcm ⊢
    rw [if_pos (ew.symm.trans c)]
    exact ⟨trivial, by rw [es, hla, hx.old (ew.symm.trans c)], trivial, ⟨hcm, h.up, h.vs, h.le, hml, rfl⟩⟩
  · simp only [c, hap', if_false, if_true] at hcm ⊢
    have hnw := hx.new (by rw [← ew]; exact c)
    rw [if_neg (by rw [← ew]; exact c)]
    have hlt := (List.getElem?_eq_some_iff.1 hnw.1).1
    have el : (apG a.lg o.own).ls = ls.take (m + 1) := by
      rw [ls_ap, if_pos hap, h.le, List.take_add_one, hnw.1, ew]; rfl
    refine ⟨trivial, by show a.last + 1 = _; rw [hla, hnw.2], rfl, ⟨hcm, h.up.ap _, ?_, el, hlt, rfl⟩⟩
    show a.vs ++ o.own.map (verC (a.last + 1)) = tab (apG a.lg o.own).ls
    rw [ls_ap, if_pos hap, tab_app, ← h.vs, ← h.ok.last]
/-- Who changed something is the only one with that number; each number has one. -/
theorem Sd.once {k : Nat} {d : Dk} {op ov : List Dn} (h : Sd k d op ov) {i j : Nat} {x y : Dn} (hi : ov[i]? = some x) (hj : ov[j]? = some y) (cx : chD x = true) (cy : chD y = true) (e : x.num = y.num) : i = j := by
  have hp : ((ov.filter chD).map (fun x => x.num)).Pairwise (fun a b => a ≠ b) := by
    rw [h.nums, List.pairwise_map]
    exact List.nodup_range.imp (fun hab => by omega)
  rw [List.pairwise_map, List.pairwise_filter] at hp
  obtain ⟨a1, a2⟩ := List.getElem?_eq_some_iff.1 hi
  obtain ⟨b1, b2⟩ := List.getElem?_eq_some_iff.1 hj
  rcases Nat.lt_trichotomy i j with c | c | c
  · have := List.pairwise_iff_getElem.1 hp i j a1 b1 c
    rw [a2, b2] at this
    exact absurd e (this cx cy)
  · exact c
  · have := List.pairwise_iff_getElem.1 hp j i b1 a1 c
    rw [a2, b2] at this
    exact absurd e.symm (this cy cx)
theorem Sd.has {k : Nat} {d : Dk} {op ov : List Dn} (h : Sd k d op ov) {n : Nat} (h1 : 1 ≤ n) (hn : n ≤ d.lg.ls.length) : ∃ (j : Nat) (x : Dn), ov[j]? = some x ∧ chD x = true ∧ x.num = n := by
  have hm : (n : Int) ∈ (ov.filter chD).map (fun x => x.num) := by
    rw [h.nums]
    exact List.mem_map.2 ⟨n - 1, List.mem_range.2 (by omega), by omega⟩
  obtain ⟨x, hx, e⟩ := List.mem_map.1 hm
  obtain ⟨hx1, hx2⟩ := List.mem_filter.1 hx
  obtain ⟨j, hj⟩ := List.mem_iff_getElem?.1 hx1
  exact ⟨j, x, hj, hx2, e⟩
/-- How far the other desk is: in the turn of those that changed something, and behind it. -/
def At0 (ov : List Dn) (n i m : Nat) : Prop := (m + 1 = n ∧ ∀ (j : Nat) (x : Dn), j < i → ov[j]? = some x → chD x = true → x.num ≠ n) ∨ (m = n ∧ ∀ (j : Nat) (x : Dn), i ≤ j → ov[j]? = some x → chD x = true → x.num ≠ n)
theorem At0.first {k : Nat} {d : Dk} {op ov : List Dn} (h : Sd k d op ov) : At0 ov 0 0 0 := by
  refine .inr ⟨rfl, fun j x _ hj hc e => ?_⟩
  obtain ⟨s, b, g⟩ := h.ovr x (List.mem_of_getElem? hj)
  have := (g.new (by simpa [chD] using hc)).2
  omega
theorem At0.next {ov : List Dn} {n : Nat} : At0 ov (n + 1) 0 n := .inl ⟨rfl, fun j x hj => by omega⟩
theorem At0.skip {ov : List Dn} {n i m : Nat} {x : Dn} (h : At0 ov n i m) (hi : ov[i]? = some x) (hne : ¬ (x.num = n ∧ chD x = true)) : At0 ov n (i + 1) m := by
  rcases h with ⟨h1, h2⟩ | ⟨h1, h2⟩
  · refine .inl ⟨h1, fun j y hj hy hc e => ?_⟩
    by_cases c : j = i
    · subst c
      rw [hi] at hy
      have := Option.some.inj hy
      subst this
      exact hne ⟨e, hc⟩
    · exact h2 j y (by omega) hy hc e
  · exact .inr ⟨h1, fun j y hj => h2 j y (by omega)⟩
theorem At0.done {k : Nat} {d : Dk} {op ov : List Dn} (h : Sd k d op ov) {n i m : Nat} {x : Dn} (ha : At0 ov n i m) (hi : ov[i]? = some x) (e : x.num = n) (hc : chD x = true) : (∃ s, Ov d.lg.ls x s m) ∧ ownS x.st ≠ [] ∧ At0 ov n (i + 1) (m + 1) := by
  obtain ⟨s, b, g⟩ := h.ovr x (List.mem_of_getElem? hi)
  have hne : ownS x.st ≠ [] := by simpa [chD] using hc
  have h2 := (g.new hne).2
  rcases ha with ⟨h1, _⟩ | ⟨_, h3⟩
  · have hb : b = m := by omega
    subst hb
    refine ⟨⟨s, g⟩, hne, .inr ⟨h1, fun j y hj hy hcy ey => ?_⟩⟩
    have := h.once hi hy hc hcy (e.trans ey.symm)
    omega
  · exact absurd e (h3 i x (Nat.le_refl _) hi hc)
theorem At0.end {k : Nat} {d : Dk} {op ov : List Dn} (h : Sd k d op ov) {n m : Nat} (hn : n ≤ d.lg.ls.length) (ha : At0 ov n ov.length m) : m = n := by
  rcases ha with ⟨h1, h2⟩ | ⟨h1, _⟩
  · obtain ⟨j, x, hj, hc, e⟩ := h.has (n := n) (by omega) hn
    exact absurd e (h2 j x (List.getElem?_eq_some_iff.1 hj).1 hj hc)
  · exact h1
/-- .. and of those that changed nothing. -/
theorem Sd.old {k : Nat} {d : Dk} {op ov : List Dn} (h : Sd k d op ov) {n i : Nat} {x : Dn} (hi : ov[i]? = some x) (e : x.num = n) (hc : chD x = false) : (∃ s, Ov d.lg.ls x s n) ∧ ownS x.st = [] := by
  obtain ⟨s, b, g⟩ := h.ovr x (List.mem_of_getElem? hi)
  have hne : ownS x.st = [] := by simpa [chD] using hc
  have h2 := g.old hne
  have hb : b = n := by omega
  subst hb
  exact ⟨⟨s, g⟩, hne⟩
/-- At last the two desks tell the same. -/
theorem Al.same {k : Nat} {d : Dk} {op ov : List Dn} (h : Sd k d op ov) {a : Dk} (ha : Al d.lg.ls d.lg.ls.length a) : allP a = allP d ∧ a.last = d.last := by
  have hl : a.last = d.last := by rw [ha.last, h.ok.last]
  refine ⟨?_, hl⟩
  rw [allP_at, allP_at, hl, ha.vs, ha.le, List.take_length, h.vs]
end Go.Proofs.YtfnkaehpidaanaaGreatDoor
