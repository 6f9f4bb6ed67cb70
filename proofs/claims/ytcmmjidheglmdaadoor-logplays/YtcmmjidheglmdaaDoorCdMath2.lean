/- Changes out of bytes, by places. No program stands here. -/
import Derived.Test.YtcmmjidheglmdaaDoorCdMath
namespace Vs
open Go

def cutB (bs : List UInt8) (i n : Nat) : ByteArray := mkB ((bs.drop i).take n)
theorem cutB_none {bs : List UInt8} {n : Nat} (i j : Nat) (h : n = 0) : cutB bs i n = cutB bs j n := by
  subst h; simp [cutB]
/-- A value behind its key, from the place c on. -/
def decV (bs : List UInt8) (K : ByteArray) (c : Nat) : Option UInt8 → Option (Chg × List UInt8)
  | none => none
  | some q => if bs.length < c + 1 + q.toNat then none else some (⟨K, cutB bs (c + 1) q.toNat, false⟩, bs.drop (c + 1 + q.toNat))
theorem decC_at {bs : List UInt8} {a : Nat} {n : UInt8} (h : bs[a]? = some n) : decC (bs.drop a) = if bs.length < a + 1 + n.toNat % 128 then none else
    if 127 < n.toNat then some (⟨cutB bs (a + 1) (n.toNat % 128), ByteArray.empty, true⟩, bs.drop (a + 1 + n.toNat % 128)) else
    decV bs (cutB bs (a + 1) (n.toNat % 128)) (a + 1 + n.toNat % 128) bs[a + 1 + n.toNat % 128]? := by
  obtain ⟨hl, e⟩ := List.getElem?_eq_some_iff.1 h
  rw [List.drop_eq_getElem_cons hl, e, decC]
  have hd : (bs.drop (a + 1)).length = bs.length - (a + 1) := List.length_drop
  by_cases h1 : bs.length < a + 1 + n.toNat % 128
  · rw [if_pos h1, if_pos (by omega)]
  rw [if_neg h1, if_neg (by omega), List.drop_drop]
  by_cases h2 : 127 < n.toNat
  · rw [if_pos h2, if_pos h2]; rfl
  rw [if_neg h2, if_neg h2]
  cases hq : bs[a + 1 + n.toNat % 128]? with
  | none =>
    rw [List.drop_eq_nil_of_le (List.getElem?_eq_none_iff.1 hq)]; rfl
  | some q =>
    obtain ⟨hl2, e2⟩ := List.getElem?_eq_some_iff.1 hq
    rw [List.drop_eq_getElem_cons hl2, e2]
    have hd2 : (bs.drop (a + 1 + n.toNat % 128 + 1)).length = bs.length - (a + 1 + n.toNat % 128 + 1) := List.length_drop
    show (if (bs.drop (a + 1 + n.toNat % 128 + 1)).length < q.toNat then none else _) = (if bs.length < a + 1 + n.toNat % 128 + 1 + q.toNat then none else _)
    by_cases h3 : bs.length < a + 1 + n.toNat % 128 + 1 + q.toNat
    · rw [if_pos h3, if_pos (by omega)]
    · rw [if_neg h3, if_neg (by omega), List.drop_drop]; rfl
def decG (o : List Chg) (m : Nat) (r : List UInt8) : Option (List Chg × List UInt8) := match decN m r with
  | some (l, t) => some (o ++ l, t)
  | none => none
theorem decG_zero (o : List Chg) (r : List UInt8) : decG o 0 r = some (o, r) := by simp [decG, decN]
def decS (o : List Chg) (m : Nat) : Option (Chg × List UInt8) → Option (List Chg × List UInt8)
  | some (c, s) => decG (o ++ [c]) m s
  | none => none
theorem decG_step (o : List Chg) (m : Nat) (r : List UInt8) : decG o (m + 1) r = decS o m (decC r) := by
  unfold decS
  unfold decG
  rw [decN]
  cases decC r with
  | none => rfl
  | some cs =>
    obtain ⟨c, s⟩ := cs
    show (match (match decN m s with | some (l, t) => some (c :: l, t) | none => none) with | some (l, t) => some (o ++ l, t) | none => none) = (match decN m s with | some (l, t) => some (o ++ [c] ++ l, t) | none => none)
    cases decN m s with
    | none => rfl
    | some lt => simp
def fin : Option (List Chg × List UInt8) → Option (List Chg)
  | some (l, []) => if chF l = 0 then some l else none
  | _ => none
theorem dec_fin (n : UInt8) (r : List UInt8) : dec (n :: r) = fin (decG [] n.toNat ((n :: r).drop 1)) := by
  rw [dec]
  show _ = fin (match decN n.toNat r with | some (l, t) => some ([] ++ l, t) | none => none)
  cases decN n.toNat r with
  | none => rfl
  | some lt =>
    obtain ⟨l, t⟩ := lt
    cases t <;> rfl
end Vs
