/- Plain functions on texts: a number of digits, four numbers between dots. No program stands here. -/
import Derived.WalkKit
import Derived.Lib.Strings
import Derived.Test.YtdjiodikefoliaaDoorCAdMath
import Derived.Lib.IndexMore
import Derived.Lib.ItoaNum
namespace Bur
open Go

/-- The digits of a number that must not lead above 'most', read on from n. -/
def rdGo (most : Int) : Int → List UInt8 → Option Int
  | n, [] => some n
  | n, c :: r => if 48 ≤ c.toNat ∧ c.toNat ≤ 57 then (if most < 10 * n + (c.toNat - 48) then none else rdGo most (10 * n + (c.toNat - 48)) r) else none
/-- A number without a needless 0. -/
def rd (most : Int) (l : List UInt8) : Option Int := if l = [] ∨ (l.head? = some 48 ∧ l ≠ [48]) then none else rdGo most 0 l
def bad (l : List UInt8) : Bool := decide (l = [] ∨ (l.head? = some 48 ∧ l ≠ [48]))
theorem rd_bad {most : Int} {l : List UInt8} (h : bad l = true) : rd most l = none := if_pos (of_decide_eq_true h)
theorem rd_good {most : Int} {l : List UInt8} (h : bad l = false) : rd most l = rdGo most 0 l := if_neg (of_decide_eq_false h)
def rdV (most : Int) (l : List UInt8) : Int := (rd most l).getD 0
def rdB (most : Int) (l : List UInt8) : Bool := (rd most l).isSome
theorem rdGo_no {most n : Int} {c : UInt8} {r : List UInt8} (h : c.toNat < 48 ∨ 57 < c.toNat) : rdGo most n (c :: r) = none := by
  simp only [rdGo]; rw [if_neg (by omega)]
theorem rdGo_big {most n : Int} {c : UInt8} {r : List UInt8} (h0 : 48 ≤ c.toNat) (h1 : c.toNat ≤ 57) (h : most < 10 * n + ((c.toNat : Int) - 48)) : rdGo most n (c :: r) = none := by
  simp only [rdGo]; rw [if_pos ⟨h0, h1⟩, if_pos h]
theorem rdGo_on {most n : Int} {c : UInt8} {r : List UInt8} (h0 : 48 ≤ c.toNat) (h1 : c.toNat ≤ 57) (h : ¬ most < 10 * n + ((c.toNat : Int) - 48)) : rdGo most n (c :: r) = rdGo most (10 * n + ((c.toNat : Int) - 48)) r := by
  simp only [rdGo]; rw [if_pos ⟨h0, h1⟩, if_neg h]
theorem rdGo_bd (most : Int) : ∀ (l : List UInt8) (n m : Int), 0 ≤ n → n ≤ most → rdGo most n l = some m → 0 ≤ m ∧ m ≤ most
  | [], n, m, h0, h1, h => by simp [rdGo] at h; omega
  | c :: r, n, m, h0, h1, h => by
    simp only [rdGo] at h
    split at h
    · split at h
      · simp at h
      · rename_i g1 g2
        exact rdGo_bd most r _ m (by omega) (by omega) h
    · simp at h
theorem rd_bd {most n : Int} {l : List UInt8} (hm : 0 ≤ most) (h : rd most l = some n) : 0 ≤ n ∧ n ≤ most := by
  unfold rd at h
  split at h
  · simp at h
  · exact rdGo_bd most l 0 n (by omega) hm h
theorem rdV_bd (most : Int) (l : List UInt8) (hm : 0 ≤ most) : 0 ≤ rdV most l ∧ rdV most l ≤ most := by
  unfold rdV
  cases h : rd most l with
  | none => simp; omega
  | some n => have := rd_bd hm h; simpa using this
theorem or_byte (x b : Int) (x0 : 0 ≤ x) (x1 : x ≤ 4294967295) (b0 : 0 ≤ b) (b1 : b ≤ 255) : bits .or .i64 (x * 256) b = x * 256 + b := by
  obtain ⟨X, rfl⟩ := Int.eq_ofNat_of_zero_le x0
  obtain ⟨B, rfl⟩ := Int.eq_ofNat_of_zero_le b0
  have e : ((X : Int) * 256) = ((X * 256 : Nat) : Int) := by omega
  rw [e, i64_or_nat (X * 256) B (by omega) (by omega), nat_join 8 (X * 256) B (by omega) (by omega)]
  omega
theorem or_zero (b : Int) (b0 : 0 ≤ b) (b1 : b ≤ 255) : bits .or .i64 0 b = b := by
  have := or_byte 0 b (by omega) (by omega) b0 b1
  simpa using this
end Bur

/- A text cut at a byte; four numbers between dots; an address and a prefix as a text. No program stands here. -/
namespace Bur
open Go

/-- A text cut at the first c: what is ahead, what is behind, whether there is one. -/
def cutc (c : UInt8) : List UInt8 → List UInt8 × List UInt8 × Bool
  | [] => ([], [], false)
  | b :: l => if b = c then ([], l, true) else (b :: (cutc c l).1, (cutc c l).2.1, (cutc c l).2.2)
theorem cut_eq (c : UInt8) : ∀ l : List UInt8, Lib.cut l [c] = cutc c l
  | [] => by simp [Lib.cut, Lib.index, cutc]
  | b :: l => by
    have ih := cut_eq c l
    unfold Lib.cut at ih ⊢
    simp only [cutc]
    by_cases h : b = c
    · subst h
      simp [Lib.index]
    · have h2 : ([c] : List UInt8).isPrefixOf (b :: l) = false := by
        show (c == b && _) = false
        rw [beq_eq_false_iff_ne.2 (Ne.symm h)]; rfl
      rw [if_neg h, ← ih]
      simp only [Lib.index, h2]
      by_cases h3 : Lib.index l [c] = -1
      · simp [h3]
      · have h4 : 0 ≤ Lib.index l [c] := by
          have := ih
          exact Int.not_lt.1 (fun hn => h3 (by have := Lib.index_ge l [c]; omega))
        have h5 : (Lib.index l [c] == -1) = false := by simp [h3]
        rw [if_pos h4]
        simp only [h5]
        have e : (Lib.index l [c] + 1).toNat = (Lib.index l [c]).toNat + 1 := by omega
        simp [e, show 0 ≤ Lib.index l [c] + 1 from by omega]
theorem cutc_len (c : UInt8) : ∀ l : List UInt8, (cutc c l).1.length ≤ l.length ∧ (cutc c l).2.1.length ≤ l.length
  | [] => by simp [cutc]
  | b :: l => by
    have := cutc_len c l
    simp only [cutc]
    split
    · simp
    · simp; omega
theorem cutc_hit {c : UInt8} : ∀ (x y : List UInt8), c ∉ x → cutc c (x ++ c :: y) = (x, y, true)
  | [], y, _ => by simp [cutc]
  | b :: x, y, h => by
    simp only [List.mem_cons, not_or] at h
    have := cutc_hit x y h.2
    simp only [List.cons_append, cutc]
    rw [if_neg (Ne.symm h.1), this]
theorem cutc_miss {c : UInt8} : ∀ (x : List UInt8), c ∉ x → cutc c x = (x, [], false)
  | [], _ => rfl
  | b :: x, h => by
    simp only [List.mem_cons, not_or] at h
    have := cutc_miss x h.2
    simp only [cutc]
    rw [if_neg (Ne.symm h.1), this]
end Bur

/- A text split at a byte. No program stands here. -/
namespace Bur
open Go
/-- The pieces of a text between the bytes c; cur: what was met of the first one. -/
def spc (c : UInt8) : List UInt8 → List UInt8 → List (List UInt8)
  | cur, [] => [cur]
  | cur, b :: l => if b = c then cur :: spc c [] l else spc c (cur ++ [b]) l
theorem spc_hit {c b : UInt8} {cur l : List UInt8} (h : b = c) : spc c cur (b :: l) = cur :: spc c [] l := if_pos h
theorem spc_miss {c b : UInt8} {cur l : List UInt8} (h : b ≠ c) : spc c cur (b :: l) = spc c (cur ++ [b]) l := if_neg h
theorem spc_cut (c : UInt8) : ∀ (l cur : List UInt8), spc c cur l = if (cutc c l).2.2 = true then (cur ++ (cutc c l).1) :: spc c [] (cutc c l).2.1 else [cur ++ (cutc c l).1]
  | [], cur => by simp [spc, cutc]
  | b :: l, cur => by
    by_cases h : b = c
    · rw [spc_hit h]; simp [cutc, h]
    · rw [spc_miss h, spc_cut c l]; simp [cutc, h]
theorem spc_yes {c : UInt8} {l : List UInt8} (h : (cutc c l).2.2 = true) : spc c [] l = (cutc c l).1 :: spc c [] (cutc c l).2.1 := by
  rw [spc_cut, if_pos h]; rfl
theorem spc_no {c : UInt8} {l : List UInt8} (h : (cutc c l).2.2 = false) : spc c [] l = [(cutc c l).1] := by
  rw [spc_cut, if_neg (by simp [h])]; rfl
theorem spc_pos (c : UInt8) (l : List UInt8) : 0 < (spc c [] l).length := by
  cases h : (cutc c l).2.2
  · rw [spc_no h]; simp
  · rw [spc_yes h]; simp
theorem ext_list (s : ByteArray) (a b : Nat) : (s.extract a b).data.toList = (s.data.toList.drop a).take (b - a) := by
  rw [ByteArray.data_extract, Array.toList_extract]
theorem ext_next (l : List UInt8) (a k : Nat) (h1 : a ≤ k) (b : UInt8) (r : List UInt8) (h : l.drop k = b :: r) : (l.drop a).take (k + 1 - a) = (l.drop a).take (k - a) ++ [b] := by
  have e : k + 1 - a = (k - a) + 1 := by omega
  have e2 : (l.drop a)[k - a]? = some b := by
    rw [List.getElem?_drop, show a + (k - a) = k from by omega]
    have : (l.drop k)[0]? = some b := by rw [h]; rfl
    rwa [List.getElem?_drop, Nat.add_zero] at this
  rw [e, List.take_add_one, e2]; rfl
end Bur

/- Names and keys of package plot: what is written, what is read. No program stands here. -/
namespace Bur
open Go

/-- A letter a to z. -/
def lz (b : UInt8) : Bool := decide (97 ≤ b.toNat) && decide (b.toNat ≤ 122)
/-- A text is a name. -/
def isN (l : List UInt8) : Bool := decide (0 < l.length) && (decide (l.length ≤ 8) && l.all lz)
theorem isN_ok {l : List UInt8} (h : isN l = true) : 0 < l.length ∧ l.length ≤ 8 ∧ ∀ b ∈ l, 97 ≤ b.toNat ∧ b.toNat ≤ 122 := by
  simp only [isN, Bool.and_eq_true, decide_eq_true_eq, List.all_eq_true, lz] at h
  exact h
theorem isN_no {l : List UInt8} (h : isN l = true) : (47 : UInt8) ∉ l := fun hm => by
  have := ((isN_ok h).2.2 47 hm).1
  exact absurd this (by decide)
/-- A byte as a hex digit, as a decimal one. -/
def hxv (b : UInt8) : Option Int := if 48 ≤ b.toNat ∧ b.toNat ≤ 57 then some ((b.toNat : Int) - 48) else if 97 ≤ b.toNat ∧ b.toNat ≤ 102 then some ((b.toNat : Int) - 87) else none
def dv (b : UInt8) : Option Int := if 48 ≤ b.toNat ∧ b.toNat ≤ 57 then some ((b.toNat : Int) - 48) else none
theorem hxv_bd {b : UInt8} {d : Int} (h : hxv b = some d) : 0 ≤ d ∧ d ≤ 15 := by
  unfold hxv at h
  split at h
  · cases h; omega
  · split at h
    · cases h; omega
    · cases h
theorem dv_bd {b : UInt8} {d : Int} (h : dv b = some d) : 0 ≤ d ∧ d ≤ 9 := by
  unfold dv at h
  split at h
  · cases h; omega
  · cases h
/-- Digits as a number. -/
def rx (f : UInt8 → Option Int) (base : Int) : Int → List UInt8 → Option Int
  | n, [] => some n
  | n, b :: r => match f b with
    | none => none
    | some d => rx f base (n * base + d) r
theorem rx_on {f : UInt8 → Option Int} {base n d : Int} {b : UInt8} {r : List UInt8} (h : f b = some d) : rx f base n (b :: r) = rx f base (n * base + d) r := by rw [rx, h]
theorem rx_no {f : UInt8 → Option Int} {base n : Int} {b : UInt8} {r : List UInt8} (h : f b = none) : rx f base n (b :: r) = none := by rw [rx, h]
theorem rx_bad {f : UInt8 → Option Int} {base : Int} {c : UInt8} (hc : f c = none) : ∀ (l : List UInt8) (n : Int), c ∈ l → rx f base n l = none
  | [], _, h => by simp at h
  | b :: r, n, h => by
    cases e : f b with
    | none => exact rx_no e
    | some d =>
      rw [rx_on e]
      rcases List.mem_cons.1 h with h | h
      · rw [h] at hc; rw [hc] at e; cases e
      · exact rx_bad hc r _ h
theorem rx_app {f : UInt8 → Option Int} {base : Int} : ∀ (l m : List UInt8) (n : Int), rx f base n (l ++ m) = (rx f base n l).bind (fun k => rx f base k m)
  | [], m, n => rfl
  | b :: r, m, n => by
    cases e : f b with
    | none => rw [List.cons_append, rx_no e, rx_no e]; rfl
    | some d => rw [List.cons_append, rx_on e, rx_on e, rx_app r m]
/-- How great a number of so many digits may be. -/
theorem rx_bd {f : UInt8 → Option Int} {base : Int} (hb : 0 < base) (hf : ∀ b d, f b = some d → 0 ≤ d ∧ d < base) : ∀ (l : List UInt8) (n m : Int), 0 ≤ n → rx f base n l = some m → 0 ≤ m ∧ m < (n + 1) * base ^ l.length
  | [], n, m, h0, h => by cases h; simp; omega
  | b :: r, n, m, h0, h => by
    cases e : f b with
    | none => rw [rx_no e] at h; cases h
    | some d =>
      rw [rx_on e] at h
      obtain ⟨d0, d1⟩ := hf b d e
      have hnb : 0 ≤ n * base := Int.mul_nonneg h0 (by omega)
      obtain ⟨a1, a2⟩ := rx_bd hb hf r _ m (by omega) h
      refine ⟨a1, ?_⟩
      have h1 : (n * base + d + 1) * base ^ r.length ≤ ((n + 1) * base) * base ^ r.length := Int.mul_le_mul_of_nonneg_right (by rw [Int.add_mul]; omega) (Int.le_of_lt (Int.pow_pos hb))
      rw [List.length_cons, Int.pow_succ, Int.mul_comm (base ^ r.length) base, ← Int.mul_assoc]
      omega
/-- A number as a hex digit; with so many hex digits. -/
def hd (n : Nat) : UInt8 := UInt8.ofNat (if n < 10 then 48 + n else 87 + n)
def hxK : Nat → Nat → List UInt8
  | 0, _ => []
  | k + 1, n => hxK k (n / 16) ++ [hd (n % 16)]
theorem hxK_len : ∀ k n, (hxK k n).length = k
  | 0, _ => rfl
  | k + 1, n => by rw [hxK, List.length_append, hxK_len k]; rfl
theorem hd_hxv : ∀ n : Fin 16, hxv (hd n.val) = some (n.val : Int) ∧ hd n.val ≠ 47 := by decide +kernel
theorem hxv_hd {n : Nat} (h : n < 16) : hxv (hd n) = some (n : Int) := (hd_hxv ⟨n, h⟩).1
theorem rx_hx : ∀ (k n : Nat), rx hxv 16 0 (hxK k n) = some ((n % 16 ^ k : Nat) : Int)
  | 0, n => by simp [hxK, rx, Nat.mod_one]
  | k + 1, n => by
    rw [hxK, rx_app, rx_hx k (n / 16)]
    show rx hxv 16 _ [hd (n % 16)] = _
    rw [rx_on (hxv_hd (Nat.mod_lt _ (by decide)))]
    show some _ = some _
    congr 1
    have h1 : n % 16 ^ (k + 1) = n % 16 + 16 * (n / 16 % 16 ^ k) := by rw [Nat.pow_succ, Nat.mul_comm, Nat.mod_mul]
    omega
/-- As few hex digits as will do. -/
def hxM (n : Nat) : List UInt8 := if n < 16 then [hd n] else hxM (n / 16) ++ [hd (n % 16)]
termination_by n
decreasing_by omega
theorem hxM_small {n : Nat} (h : n < 16) : hxM n = [hd n] := by rw [hxM, if_pos h]
theorem hxM_big {n : Nat} (h : ¬ n < 16) : hxM n = hxM (n / 16) ++ [hd (n % 16)] := by rw [hxM, if_neg h]
theorem hxK_zero : ∀ k, hxK k 0 = List.replicate k 48
  | 0 => rfl
  | k + 1 => by rw [hxK, hxK_zero k, List.replicate_succ']; rfl
theorem hx_pad : ∀ (k n : Nat), 0 < k → n < 16 ^ k → (hxM n).length ≤ k ∧ hxK k n = List.replicate (k - (hxM n).length) 48 ++ hxM n
  | 0, _, h, _ => by omega
  | k + 1, n, _, h => by
    by_cases hn : n < 16
    · rw [hxM_small hn, hxK, show n / 16 = 0 from by omega, hxK_zero, show n % 16 = n from by omega]
      exact ⟨by simp, by simp⟩
    · have hk : 0 < k := by
        cases k with
        | zero => simp at h; omega
        | succ k => omega
      obtain ⟨h1, h2⟩ := hx_pad k (n / 16) hk (by rw [Nat.pow_succ] at h; omega)
      rw [hxM_big hn, hxK, h2, List.length_append]
      refine ⟨by simp; omega, ?_⟩
      rw [List.append_assoc]
      congr 2
      simp
theorem hxM_pos (n : Nat) : 0 < (hxM n).length := by
  by_cases hn : n < 16
  · rw [hxM_small hn]; simp
  · rw [hxM_big hn]; simp
/-- Two decimal digits. -/
def d2 (n : Int) : List UInt8 := [UInt8.ofNat (48 + n.toNat / 10), UInt8.ofNat (48 + n.toNat % 10)]
theorem d2_rd : ∀ n : Fin 100, rx dv 10 0 (d2 (n.val : Int)) = some (n.val : Int) := by decide +kernel
theorem rx_d2 {n : Int} (h0 : 0 ≤ n) (h1 : n < 100) : rx dv 10 0 (d2 n) = some n := by
  have := d2_rd ⟨n.toNat, by omega⟩
  rwa [show ((⟨n.toNat, by omega⟩ : Fin 100).val : Int) = n from Int.toNat_of_nonneg h0] at this
/-- Keys. -/
def netK (n : List UInt8) : List UInt8 := [110, 47] ++ n
def adrK (n : List UInt8) (a : Int) : List UInt8 := [97, 47] ++ n ++ [47] ++ hxK 8 a.toNat
def pfxK (n : List UInt8) (a l : Int) : List UInt8 := [112, 47] ++ n ++ [47] ++ hxK 8 a.toNat ++ d2 l
/-- A prefix' key, cut. -/
def pkN (l : List UInt8) : List UInt8 := (cutc 47 (l.drop 2)).1
def pkD (l : List UInt8) : List UInt8 := (cutc 47 (l.drop 2)).2.1
/-- .. of that kind: the net's name is one. -/
def kcB (c : UInt8) (l : List UInt8) : Bool := decide (l.take 2 = [c, 47]) && ((cutc 47 (l.drop 2)).2.2 && isN (pkN l))
def pxD (d : List UInt8) : Option (Int × Int) := match rx hxv 16 0 (d.take 8), rx dv 10 0 (d.drop 8) with
  | some a, some n => if fault a n = 0 then some (a, n) else none
  | _, _ => none
def pkR (l : List UInt8) : Option (Int × Int) := if kcB 112 l = true ∧ (pkD l).length = 10 then pxD (pkD l) else none
def raK (k : List UInt8) : Option Int := if kcB 97 k = true ∧ (pkD k).length = 8 then rx hxv 16 0 (pkD k) else none
/-- What a key is, by its words: 1 a net, 2 a prefix, 3 an address, 0 none; the net, the prefix, the address. -/
def kd0 : Int × List UInt8 × (Int × Int) × Int := (0, [], (0, 0), 0)
def kd : List (List UInt8) → Int × List UInt8 × (Int × Int) × Int
  | [a, n] => if isN n = true ∧ a = [110] then (1, n, (0, 0), 0) else kd0
  | [a, n, d] => if isN n = true then
      (if a = [97] then (if d.length = 8 then (match rx hxv 16 0 d with
          | some v => (3, n, (0, 0), v)
          | none => kd0) else kd0)
        else if a = [112] ∧ d.length = 10 then (match pxD d with
          | some p => (2, n, p, 0)
          | none => kd0) else kd0) else kd0
  | _ => kd0
theorem cutc_back (c : UInt8) : ∀ l : List UInt8, (cutc c l).2.2 = true → l = (cutc c l).1 ++ c :: (cutc c l).2.1
  | [], h => by simp [cutc] at h
  | b :: l, h => by
    unfold cutc at h ⊢
    split
    · rename_i e; rw [e]; rfl
    · rename_i e
      rw [if_neg e] at h
      have := cutc_back c l h
      simp only [List.cons_append]
      rw [← this]
theorem cutc_none (c : UInt8) : ∀ l : List UInt8, (cutc c l).2.2 = false → c ∉ l
  | [], _ => by simp
  | b :: l, h => by
    unfold cutc at h
    split at h
    · cases h
    · rename_i e
      simp only [List.mem_cons, not_or]
      exact ⟨fun g => e g.symm, cutc_none c l h⟩
theorem pxD_bad {d : List UInt8} (h : (47 : UInt8) ∈ d) : pxD d = none := by
  have hd : (47 : UInt8) ∈ d.take 8 ∨ (47 : UInt8) ∈ d.drop 8 := by
    rw [← List.take_append_drop 8 d] at h
    exact List.mem_append.1 h
  unfold pxD
  rcases hd with h | h
  · rw [rx_bad (show hxv 47 = none from by decide) _ _ h]
  · rw [rx_bad (f := dv) (show dv 47 = none from by decide) _ _ h]
    cases rx hxv 16 0 (d.take 8) <;> rfl
/-- A key that is read as a prefix' is one by its words, and the other way round. -/
theorem kd_pk (l : List UInt8) : (∃ p, pkR l = some p ∧ kd (spc 47 [] l) = (2, pkN l, p, 0)) ∨ (pkR l = none ∧ (kd (spc 47 [] l)).1 ≠ 2) := by
  by_cases h1 : l.take 2 = [112, 47]
  · obtain ⟨r, rfl⟩ : ∃ r, l = 112 :: 47 :: r := by
      match l, h1 with
      | [], h => simp at h
      | [a], h => simp at h
      | a :: b :: r, h => simp at h; exact ⟨r, by rw [h.1, h.2]⟩
    have e1 : spc 47 [] (112 :: 47 :: r) = [112] :: spc 47 [] r := by rw [spc_miss (by decide), spc_hit rfl]; rfl
    have eN : pkN (112 :: 47 :: r) = (cutc 47 r).1 := rfl
    have eD : pkD (112 :: 47 :: r) = (cutc 47 r).2.1 := rfl
    have eB : kcB 112 (112 :: 47 :: r) = ((cutc 47 r).2.2 && isN (cutc 47 r).1) := by
      unfold kcB
      rw [decide_eq_true (by rfl), Bool.true_and]; rfl
    rw [e1]
    unfold pkR
    rw [eB, eN, eD]
    cases hc : (cutc 47 r).2.2 with
    | false =>
      rw [spc_no hc, if_neg (by simp)]
      refine .inr ⟨rfl, ?_⟩
      unfold kd
      simp only
      rw [if_neg (fun h => absurd h.2 (by decide))]
      decide
    | true =>
      rw [spc_yes hc, Bool.true_and]
      cases hd : (cutc 47 (cutc 47 r).2.1).2.2 with
      | true =>
        have hm : (47 : UInt8) ∈ (cutc 47 r).2.1 := by rw [cutc_back 47 _ hd]; simp
        rw [spc_yes hd, pxD_bad hm]
        refine .inr ⟨by split <;> rfl, ?_⟩
        have := spc_pos 47 (cutc 47 (cutc 47 r).2.1).2.1
        cases hs : spc 47 [] (cutc 47 (cutc 47 r).2.1).2.1 with
        | nil => rw [hs] at this; simp at this
        | cons x y => show kd0.1 ≠ 2; decide
      | false =>
        rw [spc_no hd]
        have ed : (cutc 47 (cutc 47 r).2.1).1 = (cutc 47 r).2.1 := by rw [cutc_miss _ (cutc_none 47 _ hd)]
        rw [ed]
        unfold kd
        simp only
        have k97 : ¬ ([112] : List UInt8) = [97] := by decide
        cases hn : isN (cutc 47 r).1 with
        | false => exact .inr ⟨by simp, by simp [kd0]⟩
        | true =>
          by_cases h10 : (cutc 47 r).2.1.length = 10
          · cases hp : pxD (cutc 47 r).2.1 with
            | none => exact .inr ⟨by simp, by simp [h10, kd0]⟩
            | some p => exact .inl ⟨p, by simp [h10], by simp [h10]⟩
          · exact .inr ⟨by simp [h10], by simp [h10, kd0]⟩
  · refine .inr ⟨by unfold pkR; rw [if_neg (fun h => by have := h.1; unfold kcB at this; rw [decide_eq_false h1] at this; simp at this)], fun hk => h1 ?_⟩
    have key : ∀ ws : List (List UInt8), (kd ws).1 = 2 → ∃ n d, ws = [[112], n, d] := by
      intro ws h
      unfold kd at h
      split at h
      · split at h
        · simp at h
        · simp [kd0] at h
      · rename_i a n d
        split at h
        · split at h
          · split at h
            · split at h <;> simp [kd0] at h
            · simp [kd0] at h
          · split at h
            · rename_i q; exact ⟨n, d, by rw [q.1]⟩
            · simp [kd0] at h
        · simp [kd0] at h
      · simp [kd0] at h
    obtain ⟨n, d, hw⟩ := key _ hk
    cases hc : (cutc 47 l).2.2 with
    | false => rw [spc_no hc] at hw; simp at hw
    | true =>
      rw [spc_yes hc] at hw
      have h2 : (cutc 47 l).1 = [112] := by simpa using (List.cons.inj hw).1
      have := cutc_back 47 l hc
      rw [h2] at this
      rw [this]; rfl
/-- What is written is read. -/
theorem pk_back {n : List UInt8} {a l : Int} (hn : isN n = true) (hf : fault a l = 0) : pkR (pfxK n a l) = some (a, l) ∧ pkN (pfxK n a l) = n := by
  obtain ⟨l0, l1, a0, a1, _⟩ := fault_ok hf
  have e0 : pfxK n a l = 112 :: 47 :: (n ++ 47 :: (hxK 8 a.toNat ++ d2 l)) := by simp [pfxK]
  have hc : cutc 47 ((pfxK n a l).drop 2) = (n, hxK 8 a.toNat ++ d2 l, true) := by rw [e0]; exact cutc_hit _ _ (isN_no hn)
  have eN : pkN (pfxK n a l) = n := by unfold pkN; rw [hc]
  have eD : pkD (pfxK n a l) = hxK 8 a.toNat ++ d2 l := by unfold pkD; rw [hc]
  have hl8 := hxK_len 8 a.toNat
  refine ⟨?_, eN⟩
  unfold pkR
  rw [if_pos ⟨by unfold kcB; rw [hc, eN, hn, e0]; rfl, by rw [eD, List.length_append, hl8]; rfl⟩, eD]
  unfold pxD
  rw [List.take_append_of_le_length (by omega), List.drop_append_of_le_length (by omega), List.take_of_length_le (by omega), List.drop_of_length_le (by omega), List.nil_append, rx_hx, rx_d2 l0 (by omega), show a.toNat % 16 ^ 8 = a.toNat from Nat.mod_eq_of_lt (by omega), Int.toNat_of_nonneg a0]
  simp only
  rw [if_pos hf]
end Bur
