/- The whole lists at the beginning of bytes. No program stands here. -/
import Derived.Test.YtcmmjidheglmdaaDoorLgMath
namespace Vs
open Go

theorem encL_lt {l : List Chg} (h : chF l = 0) : (encL l).length ≤ 1000 := by
  obtain ⟨h1, h2⟩ := chF_ok h
  have key : ∀ {m : List Chg}, (∀ c ∈ m, chW c = false) → (m.flatMap encC).length ≤ m.length * 40 := by
    intro m
    induction m with
    | nil => intro _; simp
    | cons x r ih =>
      intro hm
      have h3 := ih (fun c hc => hm c (by simp [hc]))
      have h4 : (encC x).length ≤ 40 := by
        obtain ⟨a1, a2, a3, _⟩ := chW_ok (hm x (by simp))
        have e1 : x.k.data.toList.length = x.k.size := rfl
        have e2 : x.v.data.toList.length = x.v.size := rfl
        unfold encC
        by_cases g : x.g = true
        · simp [g]; omega
        · simp [g]; omega
      rw [List.flatMap_cons, List.length_append, List.length_cons]; omega
  have := key h2
  rw [encL, List.length_cons]; omega
/-- What is there of a list that is not whole. -/
def Inc (t : List UInt8) : Prop := ∃ l k, chF l = 0 ∧ k < (fr l).length ∧ t = (fr l).take k
theorem inc_nil : Inc [] := ⟨[], 0, rfl, by rw [fr_len]; omega, rfl⟩
theorem Inc.take {t : List UInt8} (h : Inc t) (n : Nat) : Inc (t.take n) := by
  obtain ⟨l, k, h1, h2, rfl⟩ := h
  exact ⟨l, min n k, h1, by omega, by rw [List.take_take]⟩
theorem OkL.inc {g : Lg} (ok : OkL g) : Inc g.tl := by
  rcases ok.tail with h | ⟨_, l, h1, h2⟩
  · rw [h]; exact inc_nil
  · exact ⟨l, _, h1, by rw [fr_len]; omega, h2⟩
/-- Bytes that are cut off have those lists whole that fit. -/
theorem cut_fit : ∀ (n : Nat) (ls : List (List Chg)) (t : List UInt8), (∀ l ∈ ls, chF l = 0) → Inc t → ∃ t', (frs ls ++ t).take n = frs (fitL n ls) ++ t' ∧ Inc t'
  | n, [], t, _, h => ⟨t.take n, by simp [frs, fitL], h.take n⟩
  | n, l :: r, t, hl, h => by
    rw [fitL]
    by_cases c : (fr l).length ≤ n
    · rw [if_pos c]
      obtain ⟨t', e, h'⟩ := cut_fit (n - (fr l).length) r t (fun m hm => hl m (by simp [hm])) h
      exact ⟨t', by rw [frs_cons, frs_cons, List.append_assoc, List.take_append, List.take_of_length_le c, e, List.append_assoc], h'⟩
    · rw [if_neg c]
      exact ⟨(fr l).take n, by rw [frs_cons, List.append_assoc, List.take_append_of_le_length (by omega)]; simp [frs], l, n, hl l (by simp), by omega, rfl⟩
/-- The head of a list: how long it is. -/
theorem fr_head {l : List Chg} (h : chF l = 0) : (fr l)[0]? = some (UInt8.ofNat ((encL l).length / 256)) ∧ (fr l)[1]? = some (UInt8.ofNat ((encL l).length % 256)) ∧ (UInt8.ofNat ((encL l).length / 256)).toNat * 256 + (UInt8.ofNat ((encL l).length % 256)).toNat = (encL l).length := by
  have := encL_lt h
  refine ⟨rfl, rfl, ?_⟩
  rw [UInt8.toNat_ofNat', UInt8.toNat_ofNat']
  omega
/-- What is not whole is too short. -/
theorem Inc.short {t : List UInt8} (h : Inc t) : t.length < 2 ∨ ∃ a b : UInt8, t[0]? = some a ∧ t[1]? = some b ∧ t.length < 2 + a.toNat * 256 + b.toNat ∧ t.length ≤ 2000 := by
  obtain ⟨l, k, h1, h2, rfl⟩ := h
  obtain ⟨e0, e1, e2⟩ := fr_head h1
  have hs := encL_lt h1
  rw [List.length_take]
  rw [fr_len] at h2 ⊢
  by_cases c : k < 2
  · left; omega
  · right
    exact ⟨_, _, by rw [List.getElem?_take, if_pos (by omega), e0], by rw [List.getElem?_take, if_pos (by omega), e1], by omega, by omega⟩
theorem fitL_full {n : Nat} {ls : List (List Chg)} (h : (frs ls).length ≤ n) : fitL n ls = ls := by
  have := fitL_end (n := n) (ls := ls) (k := ls.length) (Nat.le_refl _) (by rw [List.take_length]; exact h) (.inl rfl)
  rwa [List.take_length] at this
/-- A list, whole, somewhere in the bytes: where it begins, and it. -/
abbrev Pc (b : List UInt8) := { x : Nat × List Chg // chF x.2 = 0 ∧ ∃ a c, b = a ++ (fr x.2 ++ c) ∧ a.length = x.1 }
def pcs {b : List UInt8} (pre : List (Pc b)) : List (List Chg) := pre.map fun x => x.1.2
theorem pcs_app {b : List UInt8} (p q : List (Pc b)) : pcs (p ++ q) = pcs p ++ pcs q := by simp [pcs]
theorem frs_le {ls : List (List Chg)} (h : ∀ l ∈ ls, chF l = 0) : (frs ls).length ≤ ls.length * 1002 := by
  induction ls with
  | nil => simp [frs]
  | cons l r ih =>
    have h1 := ih (fun m hm => h m (by simp [hm]))
    have h2 := encL_lt (h l (by simp))
    rw [frs_cons, List.length_append, fr_len, List.length_cons]; omega
theorem pcs_ok {b : List UInt8} (pre : List (Pc b)) : ∀ l ∈ pcs pre, chF l = 0 := by
  intro l hl
  obtain ⟨x, _, rfl⟩ := List.mem_map.1 hl
  exact x.2.1
end Vs
