/- Names and keys of package plot: what is written, what is read. No program stands here. -/
import Derived.Test.YtdokenlljeajmaaDoorAdSplMath
namespace Bur
open Go

/-- A letter a to z. -/
def lz (b : UInt8) : Bool := decide (97 ≤ b.toNat) && decide (b.toNat ≤ 122)
/-- A text is a name. -/
def isN (l : List UInt8) : Bool := decide (0 < l.length) && (decide (l.length ≤ 8) && l.all lz)
theorem isN_ok {l : List UInt8} (h : isN l = true) : 0 < l.length ∧ l.length ≤ 8 ∧ ∀ b ∈ l, 97 ≤ b.toNat ∧ b.toNat ≤ 122 := by
  simp only [isN, Bool.and_eq_true, decide_eq_true_eq, List.all_eq_true, lz] at h
  exact h
theorem isN_no {l : List UInt8} (h : isN l = true) : (47 : UInt8) ∉ l := fun hm => by
  have := ((isN_ok h).2.2 47 hm).1
  exact absurd this (by decide)
/-- A byte as a hex digit, as a decimal one. -/
def hv (b : UInt8) : Option Int := if 48 ≤ b.toNat ∧ b.toNat ≤ 57 then some ((b.toNat : Int) - 48) else if 97 ≤ b.toNat ∧ b.toNat ≤ 102 then some ((b.toNat : Int) - 87) else none
def dv (b : UInt8) : Option Int := if 48 ≤ b.toNat ∧ b.toNat ≤ 57 then some ((b.toNat : Int) - 48) else none
theorem hv_bd {b : UInt8} {d : Int} (h : hv b = some d) : 0 ≤ d ∧ d ≤ 15 := by
  unfold hv at h
  split at h
  · cases h; omega
  · split at h
    · cases h; omega
    · cases h
theorem dv_bd {b : UInt8} {d : Int} (h : dv b = some d) : 0 ≤ d ∧ d ≤ 9 := by
  unfold dv at h
  split at h
  · cases h; omega
  · cases h
/-- Digits as a number. -/
def rx (f : UInt8 → Option Int) (base : Int) : Int → List UInt8 → Option Int
  | n, [] => some n
  | n, b :: r => match f b with
    | none => none
    | some d => rx f base (n * base + d) r
theorem rx_on {f : UInt8 → Option Int} {base n d : Int} {b : UInt8} {r : List UInt8} (h : f b = some d) : rx f base n (b :: r) = rx f base (n * base + d) r := by rw [rx, h]
theorem rx_no {f : UInt8 → Option Int} {base n : Int} {b : UInt8} {r : List UInt8} (h : f b = none) : rx f base n (b :: r) = none := by rw [rx, h]
theorem rx_bad {f : UInt8 → Option Int} {base : Int} {c : UInt8} (hc : f c = none) : ∀ (l : List UInt8) (n : Int), c ∈ l → rx f base n l = none
  | [], _, h => by simp at h
  | b :: r, n, h => by
    cases e : f b with
    | none => exact rx_no e
    | some d =>
      rw [rx_on e]
      rcases List.mem_cons.1 h with h | h
      · rw [h] at hc; rw [hc] at e; cases e
      · exact rx_bad hc r _ h
theorem rx_app {f : UInt8 → Option Int} {base : Int} : ∀ (l m : List UInt8) (n : Int), rx f base n (l ++ m) = (rx f base n l).bind (fun k => rx f base k m)
  | [], m, n => rfl
  | b :: r, m, n => by
    cases e : f b with
    | none => rw [List.cons_append, rx_no e, rx_no e]; rfl
    | some d => rw [List.cons_append, rx_on e, rx_on e, rx_app r m]
/-- How great a number of so many digits may be. -/
theorem rx_bd {f : UInt8 → Option Int} {base : Int} (hb : 0 < base) (hf : ∀ b d, f b = some d → 0 ≤ d ∧ d < base) : ∀ (l : List UInt8) (n m : Int), 0 ≤ n → rx f base n l = some m → 0 ≤ m ∧ m < (n + 1) * base ^ l.length
  | [], n, m, h0, h => by cases h; simp; omega
  | b :: r, n, m, h0, h => by
    cases e : f b with
    | none => rw [rx_no e] at h; cases h
    | some d =>
      rw [rx_on e] at h
      obtain ⟨d0, d1⟩ := hf b d e
      have hnb : 0 ≤ n * base := Int.mul_nonneg h0 (by omega)
      obtain ⟨a1, a2⟩ := rx_bd hb hf r _ m (by omega) h
      refine ⟨a1, ?_⟩
      have h1 : (n * base + d + 1) * base ^ r.length ≤ ((n + 1) * base) * base ^ r.length := Int.mul_le_mul_of_nonneg_right (by rw [Int.add_mul]; omega) (Int.le_of_lt (Int.pow_pos hb))
      rw [List.length_cons, Int.pow_succ, Int.mul_comm (base ^ r.length) base, ← Int.mul_assoc]
      omega
/-- A number as a hex digit; with so many hex digits. -/
def hd (n : Nat) : UInt8 := UInt8.ofNat (if n < 10 then 48 + n else 87 + n)
def hxK : Nat → Nat → List UInt8
  | 0, _ => []
  | k + 1, n => hxK k (n / 16) ++ [hd (n % 16)]
theorem hxK_len : ∀ k n, (hxK k n).length = k
  | 0, _ => rfl
  | k + 1, n => by rw [hxK, List.length_append, hxK_len k]; rfl
theorem hd_hv : ∀ n : Fin 16, hv (hd n.val) = some (n.val : Int) ∧ hd n.val ≠ 47 := by decide +kernel
theorem hv_hd {n : Nat} (h : n < 16) : hv (hd n) = some (n : Int) := (hd_hv ⟨n, h⟩).1
theorem rx_hx : ∀ (k n : Nat), rx hv 16 0 (hxK k n) = some ((n % 16 ^ k : Nat) : Int)
  | 0, n => by simp [hxK, rx, Nat.mod_one]
  | k + 1, n => by
    rw [hxK, rx_app, rx_hx k (n / 16)]
    show rx hv 16 _ [hd (n % 16)] = _
    rw [rx_on (hv_hd (Nat.mod_lt _ (by decide)))]
    show some _ = some _
    congr 1
    have h1 : n % 16 ^ (k + 1) = n % 16 + 16 * (n / 16 % 16 ^ k) := by rw [Nat.pow_succ, Nat.mul_comm, Nat.mod_mul]
    omega
/-- As few hex digits as will do. -/
def hxM (n : Nat) : List UInt8 := if n < 16 then [hd n] else hxM (n / 16) ++ [hd (n % 16)]
termination_by n
decreasing_by omega
theorem hxM_small {n : Nat} (h : n < 16) : hxM n = [hd n] := by rw [hxM, if_pos h]
theorem hxM_big {n : Nat} (h : ¬ n < 16) : hxM n = hxM (n / 16) ++ [hd (n % 16)] := by rw [hxM, if_neg h]
theorem hxK_zero : ∀ k, hxK k 0 = List.replicate k 48
  | 0 => rfl
  | k + 1 => by rw [hxK, hxK_zero k, List.replicate_succ']; rfl
theorem hx_pad : ∀ (k n : Nat), 0 < k → n < 16 ^ k → (hxM n).length ≤ k ∧ hxK k n = List.replicate (k - (hxM n).length) 48 ++ hxM n
  | 0, _, h, _ => by omega
  | k + 1, n, _, h => by
    by_cases hn : n < 16
    · rw [hxM_small hn, hxK, show n / 16 = 0 from by omega, hxK_zero, show n % 16 = n from by omega]
      exact ⟨by simp, by simp⟩
    · have hk : 0 < k := by
        cases k with
        | zero => simp at h; omega
        | succ k => omega
      obtain ⟨h1, h2⟩ := hx_pad k (n / 16) hk (by rw [Nat.pow_succ] at h; omega)
      rw [hxM_big hn, hxK, h2, List.length_append]
      refine ⟨by simp; omega, ?_⟩
      rw [List.append_assoc]
      congr 2
      simp
theorem hxM_pos (n : Nat) : 0 < (hxM n).length := by
  by_cases hn : n < 16
  · rw [hxM_small hn]; simp
  · rw [hxM_big hn]; simp
/-- Two decimal digits. -/
def d2 (n : Int) : List UInt8 := [UInt8.ofNat (48 + n.toNat / 10), UInt8.ofNat (48 + n.toNat % 10)]
theorem d2_rd : ∀ n : Fin 100, rx dv 10 0 (d2 (n.val : Int)) = some (n.val : Int) := by decide +kernel
theorem rx_d2 {n : Int} (h0 : 0 ≤ n) (h1 : n < 100) : rx dv 10 0 (d2 n) = some n := by
  have := d2_rd ⟨n.toNat, by omega⟩
  rwa [show ((⟨n.toNat, by omega⟩ : Fin 100).val : Int) = n from Int.toNat_of_nonneg h0] at this
/-- Keys. -/
def netK (n : List UInt8) : List UInt8 := [110, 47] ++ n
def adrK (n : List UInt8) (a : Int) : List UInt8 := [97, 47] ++ n ++ [47] ++ hxK 8 a.toNat
def pfxK (n : List UInt8) (a l : Int) : List UInt8 := [112, 47] ++ n ++ [47] ++ hxK 8 a.toNat ++ d2 l
/-- A prefix' key, cut. -/
def pkN (l : List UInt8) : List UInt8 := (cutc 47 (l.drop 2)).1
def pkD (l : List UInt8) : List UInt8 := (cutc 47 (l.drop 2)).2.1
/-- .. of that kind: the net's name is one. -/
def kcB (c : UInt8) (l : List UInt8) : Bool := decide (l.take 2 = [c, 47]) && ((cutc 47 (l.drop 2)).2.2 && isN (pkN l))
def pxD (d : List UInt8) : Option (Int × Int) := match rx hv 16 0 (d.take 8), rx dv 10 0 (d.drop 8) with
  | some a, some n => if fault a n = 0 then some (a, n) else none
  | _, _ => none
def pkR (l : List UInt8) : Option (Int × Int) := if kcB 112 l = true ∧ (pkD l).length = 10 then pxD (pkD l) else none
/-- What a key is, by its words: 1 a net, 2 a prefix, 3 an address, 0 none; the net, the prefix, the address. -/
def kd0 : Int × List UInt8 × (Int × Int) × Int := (0, [], (0, 0), 0)
def kd : List (List UInt8) → Int × List UInt8 × (Int × Int) × Int
  | [a, n] => if isN n = true ∧ a = [110] then (1, n, (0, 0), 0) else kd0
  | [a, n, d] => if isN n = true then
      (if a = [97] then (if d.length = 8 then (match rx hv 16 0 d with
          | some v => (3, n, (0, 0), v)
          | none => kd0) else kd0)
        else if a = [112] ∧ d.length = 10 then (match pxD d with
          | some p => (2, n, p, 0)
          | none => kd0) else kd0) else kd0
  | _ => kd0
theorem cutc_back (c : UInt8) : ∀ l : List UInt8, (cutc c l).2.2 = true → l = (cutc c l).1 ++ c :: (cutc c l).2.1
  | [], h => by simp [cutc] at h
  | b :: l, h => by
    unfold cutc at h ⊢
    split
    · rename_i e; rw [e]; rfl
    · rename_i e
      rw [if_neg e] at h
      have := cutc_back c l h
      simp only [List.cons_append]
      rw [← this]
theorem cutc_none (c : UInt8) : ∀ l : List UInt8, (cutc c l).2.2 = false → c ∉ l
  | [], _ => by simp
  | b :: l, h => by
    unfold cutc at h
    split at h
    · cases h
    · rename_i e
      simp only [List.mem_cons, not_or]
      exact ⟨fun g => e g.symm, cutc_none c l h⟩
theorem pxD_bad {d : List UInt8} (h : (47 : UInt8) ∈ d) : pxD d = none := by
  have hd : (47 : UInt8) ∈ d.take 8 ∨ (47 : UInt8) ∈ d.drop 8 := by
    rw [← List.take_append_drop 8 d] at h
    exact List.mem_append.1 h
  unfold pxD
  rcases hd with h | h
  · rw [rx_bad (show hv 47 = none from by decide) _ _ h]
  · rw [rx_bad (f := dv) (show dv 47 = none from by decide) _ _ h]
    cases rx hv 16 0 (d.take 8) <;> rfl
/-- A key that is read as a prefix' is one by its words, and the other way round. -/
theorem kd_pk (l : List UInt8) : (∃ p, pkR l = some p ∧ kd (spc 47 [] l) = (2, pkN l, p, 0)) ∨ (pkR l = none ∧ (kd (spc 47 [] l)).1 ≠ 2) := by
  by_cases h1 : l.take 2 = [112, 47]
  · obtain ⟨r, rfl⟩ : ∃ r, l = 112 :: 47 :: r := by
      match l, h1 with
      | [], h => simp at h
      | [a], h => simp at h
      | a :: b :: r, h => simp at h; exact ⟨r, by rw [h.1, h.2]⟩
    have e1 : spc 47 [] (112 :: 47 :: r) = [112] :: spc 47 [] r := by rw [spc_miss (by decide), spc_hit rfl]; rfl
    have eN : pkN (112 :: 47 :: r) = (cutc 47 r).1 := rfl
    have eD : pkD (112 :: 47 :: r) = (cutc 47 r).2.1 := rfl
    have eB : kcB 112 (112 :: 47 :: r) = ((cutc 47 r).2.2 && isN (cutc 47 r).1) := by
      unfold kcB
      rw [decide_eq_true (by rfl), Bool.true_and]; rfl
    rw [e1]
    unfold pkR
    rw [eB, eN, eD]
    cases hc : (cutc 47 r).2.2 with
    | false =>
      rw [spc_no hc, if_neg (by simp)]
      refine .inr ⟨rfl, ?_⟩
      unfold kd
      simp only
      rw [if_neg (fun h => absurd h.2 (by decide))]
      decide
    | true =>
      rw [spc_yes hc, Bool.true_and]
      cases hd : (cutc 47 (cutc 47 r).2.1).2.2 with
      | true =>
        have hm : (47 : UInt8) ∈ (cutc 47 r).2.1 := by rw [cutc_back 47 _ hd]; simp
        rw [spc_yes hd, pxD_bad hm]
        refine .inr ⟨by split <;> rfl, ?_⟩
        have := spc_pos 47 (cutc 47 (cutc 47 r).2.1).2.1
        cases hs : spc 47 [] (cutc 47 (cutc 47 r).2.1).2.1 with
        | nil => rw [hs] at this; simp at this
        | cons x y => show kd0.1 ≠ 2; decide
      | false =>
        rw [spc_no hd]
        have ed : (cutc 47 (cutc 47 r).2.1).1 = (cutc 47 r).2.1 := by rw [cutc_miss _ (cutc_none 47 _ hd)]
        rw [ed]
        unfold kd
        simp only
        have k97 : ¬ ([112] : List UInt8) = [97] := by decide
        cases hn : isN (cutc 47 r).1 with
        | false => exact .inr ⟨by simp, by simp [kd0]⟩
        | true =>
          by_cases h10 : (cutc 47 r).2.1.length = 10
          · cases hp : pxD (cutc 47 r).2.1 with
            | none => exact .inr ⟨by simp, by simp [h10, kd0]⟩
            | some p => exact .inl ⟨p, by simp [h10], by simp [h10]⟩
          · exact .inr ⟨by simp [h10], by simp [h10, kd0]⟩
  · refine .inr ⟨by unfold pkR; rw [if_neg (fun h => by have := h.1; unfold kcB at this; rw [decide_eq_false h1] at this; simp at this)], fun hk => h1 ?_⟩
    have key : ∀ ws : List (List UInt8), (kd ws).1 = 2 → ∃ n d, ws = [[112], n, d] := by
      intro ws h
      unfold kd at h
      split at h
      · split at h
        · simp at h
        · simp [kd0] at h
      · rename_i a n d
        split at h
        · split at h
          · split at h
            · split at h <;> simp [kd0] at h
            · simp [kd0] at h
          · split at h
            · rename_i q; exact ⟨n, d, by rw [q.1]⟩
            · simp [kd0] at h
        · simp [kd0] at h
      · simp [kd0] at h
    obtain ⟨n, d, hw⟩ := key _ hk
    cases hc : (cutc 47 l).2.2 with
    | false => rw [spc_no hc] at hw; simp at hw
    | true =>
      rw [spc_yes hc] at hw
      have h2 : (cutc 47 l).1 = [112] := by simpa using (List.cons.inj hw).1
      have := cutc_back 47 l hc
      rw [h2] at this
      rw [this]; rfl
/-- What is written is read. -/
theorem pk_back {n : List UInt8} {a l : Int} (hn : isN n = true) (hf : fault a l = 0) : pkR (pfxK n a l) = some (a, l) ∧ pkN (pfxK n a l) = n := by
  obtain ⟨l0, l1, a0, a1, _⟩ := fault_ok hf
  have e0 : pfxK n a l = 112 :: 47 :: (n ++ 47 :: (hxK 8 a.toNat ++ d2 l)) := by simp [pfxK]
  have hc : cutc 47 ((pfxK n a l).drop 2) = (n, hxK 8 a.toNat ++ d2 l, true) := by rw [e0]; exact cutc_hit _ _ (isN_no hn)
  have eN : pkN (pfxK n a l) = n := by unfold pkN; rw [hc]
  have eD : pkD (pfxK n a l) = hxK 8 a.toNat ++ d2 l := by unfold pkD; rw [hc]
  have hl8 := hxK_len 8 a.toNat
  refine ⟨?_, eN⟩
  unfold pkR
  rw [if_pos ⟨by unfold kcB; rw [hc, eN, hn, e0]; rfl, by rw [eD, List.length_append, hl8]; rfl⟩, eD]
  unfold pxD
  rw [List.take_append_of_le_length (by omega), List.drop_append_of_le_length (by omega), List.take_of_length_le (by omega), List.drop_of_length_le (by omega), List.nil_append, rx_hx, rx_d2 l0 (by omega), show a.toNat % 16 ^ 8 = a.toNat from Nat.mod_eq_of_lt (by omega), Int.toNat_of_nonneg a0]
  simp only
  rw [if_pos hf]
end Bur
