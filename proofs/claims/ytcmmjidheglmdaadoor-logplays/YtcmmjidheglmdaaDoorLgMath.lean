/- Lists of changes that are kept, as bytes: what is appended, made safe, fails and crashes. No program stands here. -/
import Derived.Test.YtcmmjidheglmdaaDoorCdMath
namespace Vs
open Go

/-- A list as it is kept. -/
def fr (l : List Chg) : List UInt8 := UInt8.ofNat ((encL l).length / 256) :: UInt8.ofNat ((encL l).length % 256) :: encL l
theorem fr_len (l : List Chg) : (fr l).length = (encL l).length + 2 := rfl
theorem encL_pos (l : List Chg) : 0 < (encL l).length := by simp [encL]
def frs (ls : List (List Chg)) : List UInt8 := ls.flatMap fr
theorem frs_nil : frs [] = [] := rfl
theorem frs_cons (l : List Chg) (ls : List (List Chg)) : frs (l :: ls) = fr l ++ frs ls := rfl
theorem frs_app (ls ms : List (List Chg)) : frs (ls ++ ms) = frs ls ++ frs ms := by simp [frs]
theorem frs_one (l : List Chg) : frs [l] = fr l := by simp [frs]
/-- Each takes three bytes and more. -/
theorem frs_len : ∀ ls : List (List Chg), ls.length * 3 ≤ (frs ls).length
  | [] => Nat.zero_le _
  | l :: ls => by
    have := frs_len ls
    have h := encL_pos l
    rw [frs_cons, List.length_append, fr_len, List.length_cons]; omega
/-- What a log has. -/
structure Lg where
  room : Int
  ls : List (List Chg)
  tl : List UInt8
  safe : Nat
  left : Int
  down : Bool
def Lg.by (g : Lg) : List UInt8 := frs g.ls ++ g.tl
def lg0 (room : Int) : Lg := ⟨room, [], [], 0, -1, false⟩
structure OkL (g : Lg) : Prop where
  r0 : 0 ≤ g.room
  r1 : g.room ≤ 100000
  len : (g.by.length : Int) ≤ g.room
  each : ∀ l ∈ g.ls, chF l = 0
  tail : g.tl = [] ∨ (g.down = true ∧ ∃ l, chF l = 0 ∧ g.tl = (fr l).take ((fr l).length / 2))
  safe : g.safe ≤ (frs g.ls).length
  left : -1 ≤ g.left
  lmax : g.left ≤ 9223372036854775807
theorem OkL.new {room : Int} (h0 : 0 ≤ room) (h1 : room ≤ 100000) : OkL (lg0 room) := ⟨h0, h1, by simpa [Lg.by, lg0, frs] using h0, fun l h => by simp [lg0] at h, .inl rfl, Nat.zero_le _, Int.le_refl _, by show (-1 : Int) ≤ _; decide⟩
theorem OkL.few {g : Lg} (h : OkL g) : g.ls.length ≤ 33334 ∧ g.by.length ≤ 100000 ∧ (frs g.ls).length ≤ g.by.length := by
  have h1 := frs_len g.ls
  have h2 := h.len
  have h3 := h.r1
  have h4 : g.by.length = (frs g.ls).length + g.tl.length := by rw [Lg.by, List.length_append]
  omega
theorem OkL.up {g : Lg} (h : OkL g) (hd : g.down = false) : g.tl = [] ∧ g.by = frs g.ls := by
  have : g.tl = [] := by
    rcases h.tail with e | ⟨e, _⟩
    · exact e
    · rw [hd] at e; cases e
  exact ⟨this, by rw [Lg.by, this, List.append_nil]⟩
/-- One step less. -/
def less (n : Int) : Int := if 0 < n then n - 1 else n
theorem less_ge {n : Int} (h : -1 ≤ n) : -1 ≤ less n := by
  unfold less
  split <;> omega
theorem less_le {n m : Int} (h : n ≤ m) : less n ≤ m := by
  unfold less
  split <;> omega
/-- Append: the fault, and what is there behind it. -/
def apF (g : Lg) (l : List Chg) : Int := if chF l = 0 then (if g.room < g.by.length + 2 + (encL l).length then 3 else if g.down = true then 8 else if g.left = 0 then 8 else 0) else chF l
def apG (g : Lg) (l : List Chg) : Lg := if chF l = 0 then (if g.room < g.by.length + 2 + (encL l).length then g else if g.down = true then g else if g.left = 0 then { g with tl := (fr l).take ((fr l).length / 2), down := true } else { g with ls := g.ls ++ [l], left := less g.left }) else g
theorem OkL.ap {g : Lg} (h : OkL g) (l : List Chg) : OkL (apG g l) := by
  unfold apG
  by_cases h1 : chF l = 0
  · rw [if_pos h1]
    by_cases h2 : g.room < g.by.length + 2 + (encL l).length
    · rw [if_pos h2]; exact h
    · rw [if_neg h2]
      by_cases h3 : g.down = true
      · rw [if_pos h3]; exact h
      · rw [if_neg h3]
        obtain ⟨t0, tb⟩ := h.up (by simpa using h3)
        by_cases h4 : g.left = 0
        · rw [if_pos h4]
          refine ⟨h.r0, h.r1, ?_, h.each, .inr ⟨rfl, l, h1, rfl⟩, h.safe, h.left, h.lmax⟩
          show ((frs g.ls ++ (fr l).take ((fr l).length / 2)).length : Int) ≤ g.room
          rw [List.length_append, List.length_take, fr_len, ← tb]
          omega
        · rw [if_neg h4]
          refine ⟨h.r0, h.r1, ?_, fun m hm => ?_, .inl t0, ?_, less_ge h.left, less_le h.lmax⟩
          · show ((frs (g.ls ++ [l]) ++ g.tl).length : Int) ≤ g.room
            rw [frs_app, frs_one, t0, List.append_nil, List.length_append, fr_len, ← tb]
            omega
          · rcases List.mem_append.1 hm with hm | hm
            · exact h.each m hm
            · rw [List.mem_singleton.1 hm]; exact h1
          · show g.safe ≤ (frs (g.ls ++ [l])).length
            rw [frs_app, List.length_append]
            have := h.safe
            omega
  · rw [if_neg h1]; exact h
/-- Sync. -/
def syF (g : Lg) : Int := if g.down = true then 8 else if g.left = 0 then 8 else 0
def syG (g : Lg) : Lg := if g.down = true then g else if g.left = 0 then { g with down := true } else { g with safe := g.by.length, left := less g.left }
theorem OkL.sy {g : Lg} (h : OkL g) : OkL (syG g) := by
  unfold syG
  by_cases h3 : g.down = true
  · rw [if_pos h3]; exact h
  · rw [if_neg h3]
    obtain ⟨t0, tb⟩ := h.up (by simpa using h3)
    by_cases h4 : g.left = 0
    · rw [if_pos h4]; exact ⟨h.r0, h.r1, h.len, h.each, .inl t0, h.safe, h.left, h.lmax⟩
    · rw [if_neg h4]; exact ⟨h.r0, h.r1, h.len, h.each, .inl t0, by show g.by.length ≤ (frs g.ls).length; rw [tb]; exact Nat.le_refl _, less_ge h.left, less_le h.lmax⟩
/-- Fail. -/
def faG (g : Lg) (n : Int) : Lg := { g with left := if n < 0 then -1 else n }
theorem OkL.fa {g : Lg} (h : OkL g) {n : Int} (hn : n ≤ 9223372036854775807) : OkL (faG g n) := ⟨h.r0, h.r1, h.len, h.each, h.tail, h.safe, by show -1 ≤ if n < 0 then -1 else n; split <;> omega, by show (if n < 0 then -1 else n) ≤ _; split <;> omega⟩
/-- Crash: the bytes that are left, the lists that are whole in them. -/
def crN (g : Lg) (keep : Int) : Nat := if 0 < keep then (if keep < (g.by.length : Int) - g.safe then g.safe + keep.toNat else g.by.length) else g.safe
def fitL : Nat → List (List Chg) → List (List Chg)
  | _, [] => []
  | n, l :: r => if (fr l).length ≤ n then l :: fitL (n - (fr l).length) r else []
def crG (g : Lg) (keep : Int) : Lg := ⟨g.room, fitL (crN g keep) g.ls, [], (frs (fitL (crN g keep) g.ls)).length, -1, false⟩
theorem crN_safe (g : Lg) (keep : Int) (h : g.safe ≤ g.by.length) : g.safe ≤ crN g keep := by
  unfold crN
  by_cases c : 0 < keep
  · rw [if_pos c]
    by_cases c2 : keep < (g.by.length : Int) - g.safe
    · rw [if_pos c2]; omega
    · rw [if_neg c2]; exact h
  · rw [if_neg c]; exact Nat.le_refl _
/-- They are the first ones. -/
theorem fitL_take : ∀ (n : Nat) (ls : List (List Chg)), ∃ k, k ≤ ls.length ∧ fitL n ls = ls.take k ∧ (frs (ls.take k)).length ≤ n
  | _, [] => ⟨0, Nat.le_refl _, rfl, Nat.zero_le _⟩
  | n, l :: r => by
    rw [fitL]
    by_cases c : (fr l).length ≤ n
    · rw [if_pos c]
      obtain ⟨k, h1, h2, h3⟩ := fitL_take (n - (fr l).length) r
      exact ⟨k + 1, by simpa using h1, by rw [h2]; rfl, by rw [List.take_succ_cons, frs_cons, List.length_append]; omega⟩
    · rw [if_neg c]; exact ⟨0, Nat.zero_le _, rfl, Nat.zero_le _⟩
/-- As many as fit. -/
theorem fitL_all : ∀ {n : Nat} {ls : List (List Chg)} {k : Nat}, k ≤ ls.length → (frs (ls.take k)).length ≤ n → k ≤ (fitL n ls).length
  | _, [], k, h, _ => by simp at h; omega
  | n, l :: r, 0, _, _ => Nat.zero_le _
  | n, l :: r, k + 1, h, h2 => by
    rw [List.take_succ_cons, frs_cons, List.length_append] at h2
    rw [fitL, if_pos (by omega)]
    have := fitL_all (n := n - (fr l).length) (ls := r) (k := k) (by simpa using h) (by omega)
    simpa using this
theorem OkL.cr {g : Lg} (h : OkL g) (keep : Int) : OkL (crG g keep) := by
  obtain ⟨k, h1, h2, h3⟩ := fitL_take (crN g keep) g.ls
  have hf := h.few
  have hl := h.len
  have hp : (frs (fitL (crN g keep) g.ls)).length ≤ (frs g.ls).length := by
    rw [h2]
    conv => rhs; rw [← List.take_append_drop k g.ls, frs_app, List.length_append]
    omega
  refine ⟨h.r0, h.r1, ?_, fun l hl => ?_, .inl rfl, Nat.le_refl _, Int.le_refl _, by show (-1 : Int) ≤ _; decide⟩
  · show ((frs (fitL (crN g keep) g.ls) ++ []).length : Int) ≤ g.room
    rw [List.append_nil]; omega
  · have hl : l ∈ fitL (crN g keep) g.ls := hl
    rw [h2] at hl
    exact h.each l (List.mem_of_mem_take hl)
/-- Where each list ends. -/
def ends : Nat → List (List Chg) → List Int
  | _, [] => []
  | o, l :: r => ((o + (fr l).length : Nat) : Int) :: ends (o + (fr l).length) r
theorem ends_len : ∀ (o : Nat) (ls : List (List Chg)), (ends o ls).length = ls.length
  | _, [] => rfl
  | o, l :: r => by rw [ends, List.length_cons, ends_len, List.length_cons]
theorem ends_app : ∀ (o : Nat) (ls : List (List Chg)) (l : List Chg), ends o (ls ++ [l]) = ends o ls ++ [((o + (frs (ls ++ [l])).length : Nat) : Int)]
  | o, [], l => by simp [ends, frs]
  | o, m :: r, l => by
    show _ :: ends _ (r ++ [l]) = _ :: (ends _ r ++ _)
    rw [ends_app, List.cons_append, frs_cons, List.length_append, Nat.add_assoc]
theorem ends_take : ∀ (o : Nat) (ls : List (List Chg)) (k : Nat), (ends o ls).take k = ends o (ls.take k)
  | _, [], k => by simp [ends]
  | _, _ :: _, 0 => rfl
  | o, l :: r, k + 1 => by rw [ends, List.take_succ_cons, ends_take, List.take_succ_cons, ends]
theorem ends_at : ∀ (o : Nat) (ls : List (List Chg)) (k : Nat), k < ls.length → (ends o ls)[k]? = some ((o + (frs (ls.take (k + 1))).length : Nat) : Int)
  | _, [], k, h => by simp at h
  | o, l :: r, 0, _ => by simp [ends, frs]
  | o, l :: r, k + 1, h => by
    rw [ends, List.getElem?_cons_succ, ends_at _ r k (by simpa using h), List.take_succ_cons, frs_cons, List.length_append, Nat.add_assoc]
/-- Gone through, list by list. -/
theorem fitL_go {n : Nat} {ls : List (List Chg)} {k : Nat} (hk : k ≤ ls.length) (h : (frs (ls.take k)).length ≤ n) : fitL n ls = ls.take k ++ fitL (n - (frs (ls.take k)).length) (ls.drop k) := by
  induction k generalizing n ls with
  | zero => simp [frs]
  | succ k ih =>
    cases ls with
    | nil => simp at hk
    | cons l r =>
      rw [List.take_succ_cons, frs_cons, List.length_append] at h
      rw [fitL, if_pos (by omega), List.take_succ_cons, List.drop_succ_cons, frs_cons, List.length_append, ih (by simpa using hk) (by omega), List.cons_append, Nat.sub_sub]
theorem fitL_end {n : Nat} {ls : List (List Chg)} {k : Nat} (hk : k ≤ ls.length) (h : (frs (ls.take k)).length ≤ n) (he : k = ls.length ∨ n < (frs (ls.take (k + 1))).length) : fitL n ls = ls.take k := by
  rw [fitL_go hk h]
  have : fitL (n - (frs (ls.take k)).length) (ls.drop k) = [] := by
    rcases he with e | e
    · rw [e, List.drop_length]; rfl
    · by_cases c : k < ls.length
      · have h2 : ls.take (k + 1) = ls.take k ++ [ls[k]] := by rw [List.take_add_one, List.getElem?_eq_getElem c]; rfl
        rw [h2, frs_app, frs_one, List.length_append] at e
        rw [List.drop_eq_getElem_cons c, fitL, if_neg (by omega)]
      · rw [List.drop_eq_nil_of_le (by omega)]; rfl
  rw [this, List.append_nil]
end Vs
