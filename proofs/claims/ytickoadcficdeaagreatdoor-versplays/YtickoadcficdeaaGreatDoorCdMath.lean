/- Changes of keys, and changes as bytes. No program stands here. -/
import Derived.Test.YtickoadcficdeaaGreatDoorVsMath
namespace Vs
open Go

/-- A change of a key: its value, or that it is gone. -/
structure Chg where
  k : ByteArray
  v : ByteArray
  g : Bool
deriving DecidableEq

/-- Is a change wrong by itself? -/
def chW (c : Chg) : Bool := decide (shF c.k c.v ≠ 0) || (c.g && decide (0 < c.v.size))
/-- Changes one by one, behind the key ahead. -/
def chG : Option ByteArray → List Chg → Int
  | _, [] => 0
  | none, c :: r => if chW c = true then 2 else chG (some c.k) r
  | some p, c :: r => if chW c = true ∨ bl p c.k = false then 2 else chG (some c.k) r
def chF (l : List Chg) : Int := if 20 < l.length then 3 else chG none l
theorem chW_ok {c : Chg} (h : chW c = false) : 1 ≤ c.k.size ∧ c.k.size ≤ 24 ∧ c.v.size ≤ 12 ∧ (c.g = true → c.v.size = 0) := by
  simp only [chW, Bool.or_eq_false_iff, decide_eq_false_iff_not, Bool.and_eq_false_iff, Decidable.not_not] at h
  obtain ⟨h1, h2⟩ := h
  have h3 : ¬ (c.k.size < 1 ∨ 24 < c.k.size ∨ 12 < c.v.size) := fun g => by
    unfold shF at h1; rw [if_pos g] at h1; cases h1
  refine ⟨by omega, by omega, by omega, fun g => ?_⟩
  rcases h2 with h2 | h2
  · rw [g] at h2; cases h2
  · omega
theorem chG_ok : ∀ {p : Option ByteArray} {l : List Chg}, chG p l = 0 → ∀ c ∈ l, chW c = false
  | none, x :: r, h, c, hc => by
    rw [chG] at h
    split at h
    · cases h
    · rename_i e
      rcases List.mem_cons.1 hc with rfl | hc
      · simpa using e
      · exact chG_ok h c hc
  | some p, x :: r, h, c, hc => by
    rw [chG] at h
    split at h
    · cases h
    · rename_i e
      rcases List.mem_cons.1 hc with rfl | hc
      · have : ¬ chW c = true := fun g => e (.inl g)
        simpa using this
      · exact chG_ok h c hc
theorem chF_ok {l : List Chg} (h : chF l = 0) : l.length ≤ 20 ∧ ∀ c ∈ l, chW c = false := by
  unfold chF at h
  split at h
  · cases h
  · exact ⟨by omega, chG_ok h⟩
/-- A change as bytes. -/
def encC (c : Chg) : List UInt8 := UInt8.ofNat (c.k.size + if c.g = true then 128 else 0) :: (c.k.data.toList ++ if c.g = true then [] else UInt8.ofNat c.v.size :: c.v.data.toList)
def encL (l : List Chg) : List UInt8 := UInt8.ofNat l.length :: l.flatMap encC
def mkB (l : List UInt8) : ByteArray := ⟨l.toArray⟩
theorem mkB_list (l : List UInt8) : (mkB l).data.toList = l := by simp [mkB]
theorem mkB_size (l : List UInt8) : (mkB l).size = l.length := by simp [mkB, ByteArray.size]
theorem mkB_data (b : ByteArray) : mkB b.data.toList = b := by
  cases b with
  | mk d => show ByteArray.mk d.toList.toArray = _; rw [Array.toArray_toList]
theorem data_len (b : ByteArray) : b.data.toList.length = b.size := rfl
/-- A change out of bytes, and what is left. -/
def decC : List UInt8 → Option (Chg × List UInt8)
  | [] => none
  | n :: r => if r.length < n.toNat % 128 then none else
      if 127 < n.toNat then some (⟨mkB (r.take (n.toNat % 128)), ByteArray.empty, true⟩, r.drop (n.toNat % 128)) else
      match r.drop (n.toNat % 128) with
      | [] => none
      | q :: s => if s.length < q.toNat then none else some (⟨mkB (r.take (n.toNat % 128)), mkB (s.take q.toNat), false⟩, s.drop q.toNat)
def decN : Nat → List UInt8 → Option (List Chg × List UInt8)
  | 0, r => some ([], r)
  | k + 1, r => match decC r with
    | some (c, s) => match decN k s with
      | some (l, t) => some (c :: l, t)
      | none => none
    | none => none
def dec : List UInt8 → Option (List Chg)
  | [] => none
  | n :: r => match decN n.toNat r with
    | some (l, []) => if chF l = 0 then some l else none
    | _ => none
theorem decC_enc {c : Chg} (h : chW c = false) (r : List UInt8) : decC (encC c ++ r) = some (c, r) := by
  obtain ⟨h1, h2, h3, h4⟩ := chW_ok h
  obtain ⟨k, v, g⟩ := c
  simp only at h1 h2 h3 h4
  have hk := data_len k
  have hv := data_len v
  cases g
  · have e1 : (UInt8.ofNat (k.size + 0)).toNat = k.size := by simp; omega
    have e2 : (UInt8.ofNat v.size).toNat = v.size := by simp; omega
    simp only [encC, Bool.false_eq_true, if_false, List.cons_append, List.append_assoc, decC, e1]
    rw [Nat.mod_eq_of_lt (by omega), if_neg (by simp [hk]), if_neg (by omega), List.drop_append_of_le_length (by omega), List.drop_of_length_le (by omega), List.nil_append]
    simp only [e2]
    rw [if_neg (by simp [hv]), List.take_append_of_le_length (by omega), List.take_of_length_le (by omega), List.take_append_of_le_length (by omega), List.take_of_length_le (by omega), List.drop_append_of_le_length (by omega), List.drop_of_length_le (by omega), List.nil_append, mkB_data, mkB_data]
  · have e1 : (UInt8.ofNat (k.size + 128)).toNat = k.size + 128 := by simp; omega
    have e3 : v = ByteArray.empty := by
      have h0 := h4 rfl
      cases v with
      | mk d =>
        have : d = #[] := by simpa [ByteArray.size] using h0
        rw [this]; rfl
    subst e3
    simp only [encC, if_true, List.cons_append, List.append_nil, decC, e1]
    rw [show (k.size + 128) % 128 = k.size from by omega, if_neg (by simp [hk]), if_pos (by omega), List.take_append_of_le_length (by omega), List.take_of_length_le (by omega), List.drop_append_of_le_length (by omega), List.drop_of_length_le (by omega), List.nil_append, mkB_data]
theorem decN_enc : ∀ (l : List Chg), (∀ c ∈ l, chW c = false) → ∀ r, decN l.length (l.flatMap encC ++ r) = some (l, r)
  | [], _, r => rfl
  | c :: l, h, r => by
    rw [List.flatMap_cons, List.append_assoc, List.length_cons, decN, decC_enc (h c (by simp))]
    simp only [decN_enc l (fun x hx => h x (by simp [hx])) r]
theorem dec_enc {l : List Chg} (h : chF l = 0) (r : List UInt8) : dec (encL l ++ r) = if r = [] then some l else none := by
  obtain ⟨h1, h2⟩ := chF_ok h
  have e1 : (UInt8.ofNat l.length).toNat = l.length := by simp; omega
  rw [encL, List.cons_append, dec, e1, decN_enc l h2 r]
  cases r with
  | nil => simp [h]
  | cons x s => simp
theorem ofNat_toNat (n : UInt8) : UInt8.ofNat n.toNat = n := by simp
/-- Just such bytes. -/
theorem decC_sound {b : List UInt8} {c : Chg} {r : List UInt8} (h : decC b = some (c, r)) : b = encC c ++ r := by
  match b, h with
  | n :: s, h =>
    rw [decC] at h
    have hn := n.toNat_lt
    split at h
    · cases h
    · rename_i h1
      split at h
      · rename_i h2
        simp only [Option.some.injEq, Prod.mk.injEq] at h
        obtain ⟨rfl, rfl⟩ := h
        simp only [encC, if_true, mkB_size, mkB_list, List.append_nil, List.cons_append, List.take_append_drop, List.length_take]
        congr 1
        rw [show min (n.toNat % 128) s.length + 128 = n.toNat from by omega]
        exact (ofNat_toNat n).symm
      · rename_i h2
        split at h
        · cases h
        · rename_i q t e
          split at h
          · cases h
          · rename_i h3
            simp only [Option.some.injEq, Prod.mk.injEq] at h
            obtain ⟨rfl, rfl⟩ := h
            simp only [encC, Bool.false_eq_true, if_false, mkB_size, mkB_list, List.cons_append, List.append_assoc, List.take_append_drop, List.length_take]
            have e4 : min (n.toNat % 128) s.length + 0 = n.toNat := by omega
            have e5 : min q.toNat t.length = q.toNat := by omega
            rw [e4, e5, ofNat_toNat, ofNat_toNat, ← e, List.take_append_drop]
theorem decN_sound : ∀ {k : Nat} {b : List UInt8} {l : List Chg} {r : List UInt8}, decN k b = some (l, r) → l.length = k ∧ b = l.flatMap encC ++ r
  | 0, b, l, r, h => by
    simp only [decN, Option.some.injEq, Prod.mk.injEq] at h
    obtain ⟨rfl, rfl⟩ := h
    exact ⟨rfl, rfl⟩
  | k + 1, b, l, r, h => by
    rw [decN] at h
    split at h
    · rename_i c s e
      split at h
      · rename_i m t e2
        simp only [Option.some.injEq, Prod.mk.injEq] at h
        obtain ⟨rfl, rfl⟩ := h
        obtain ⟨i1, i2⟩ := decN_sound e2
        exact ⟨by simp [i1], by rw [decC_sound e, i2]; simp⟩
      · cases h
    · cases h
theorem dec_sound {b : List UInt8} {l : List Chg} (h : dec b = some l) : chF l = 0 ∧ b = encL l := by
  match b, h with
  | n :: r, h =>
    rw [dec] at h
    split at h
    · rename_i m e
      split at h
      · rename_i h1
        cases h
        obtain ⟨i1, i2⟩ := decN_sound e
        exact ⟨h1, by rw [encL, i1, ofNat_toNat, i2]; simp⟩
      · cases h
    · cases h
/-- Cut off anywhere they are none. -/
theorem dec_cut {l : List Chg} (h : chF l = 0) {p s : List UInt8} (e : encL l = p ++ s) (hs : s ≠ []) : dec p = none := by
  cases hd : dec p with
  | none => rfl
  | some m =>
    obtain ⟨h1, rfl⟩ := dec_sound hd
    have a1 := dec_enc h1 s
    have a2 := dec_enc h []
    rw [← e, if_neg hs] at a1
    rw [List.append_nil, if_pos rfl, a1] at a2
    cases a2
/-- With more behind they are none. -/
theorem dec_more {l : List Chg} (h : chF l = 0) (x : UInt8) : dec (encL l ++ [x]) = none := by
  rw [dec_enc h, if_neg (by simp)]
end Vs
